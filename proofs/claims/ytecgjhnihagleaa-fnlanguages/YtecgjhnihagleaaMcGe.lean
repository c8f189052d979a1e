/- Two machines drawn. -/
import Derived.Test.YtecgjhnihagleaaXm
namespace Go.Proofs.Ytecgjhnihagleaa
open Go.RowKit Plain Mch Tpc

theorem results_cell_cellM {fn : Func} {p u : Tmp} {ty ty' : TypeId} (h : fn.results = #[.cell p ty, .cell u ty']) (tmps : Array Value) (P : Program) (w : World) :
    (results fn tmps).run P w = ((asAddr (tmps.getD p undef)).run P w).andThen fun a w₁ => ((loadVar ty a).run P w₁).andThen fun x w₂ => ((asAddr (tmps.getD u undef)).run P w₂).andThen fun b w₃ => ((loadVar ty' b).run P w₃).andThen fun y w₄ => .ok (.tuple #[x, y]) w₄ := by
  simp only [results, h]
  simp [Sem.run_bind, Result.andThen]

/-- two machines drawn -/
def TwoM (w' : World) (K : Nat) (ra qa rb qb : Value) : Prop := ∃ A E B F us ts, (MaOwn w' K ra qa A E us ∧ Sml A E) ∧ MaOwn w' K rb qb B F ts ∧ Sml B F

theorem two_fin {w w' : World} {va ea vb eb : Value} {A B : List (List Int)} {E F : List Bool} {us ts : List Value} {K : Nat} (hA : MaOwn w' K va ea A E us) (hB : MaOwn w' K vb eb B F ts) (hsA : Sml A E) (hsB : Sml B F) (hK : w.heap.size + 1 < K) (hb : Below w.heap.size w w') (x y z u : Value) :
    TwoM ((((w'.setCell ⟨w.heap.size, 0, none⟩ x).setCell ⟨w.heap.size, 1, none⟩ y).setCell ⟨w.heap.size + 1, 0, none⟩ z).setCell ⟨w.heap.size + 1, 1, none⟩ u) w.heap.size va ea vb eb ∧ Below w.heap.size w ((((w'.setCell ⟨w.heap.size, 0, none⟩ x).setCell ⟨w.heap.size, 1, none⟩ y).setCell ⟨w.heap.size + 1, 0, none⟩ z).setCell ⟨w.heap.size + 1, 1, none⟩ u) := by
  have st : ∀ {v e : Value} {M : List (List Int)} {G : List Bool} {rs : List Value}, MaOwn w' K v e M G rs → MaOwn ((((w'.setCell ⟨w.heap.size, 0, none⟩ x).setCell ⟨w.heap.size, 1, none⟩ y).setCell ⟨w.heap.size + 1, 0, none⟩ z).setCell ⟨w.heap.size + 1, 1, none⟩ u) K v e M G rs := fun h =>
    (((h.setCell (a := ⟨w.heap.size, 0, none⟩) (by show w.heap.size < _; omega) _).setCell (a := ⟨w.heap.size, 1, none⟩) (by show w.heap.size < _; omega) _).setCell (a := ⟨w.heap.size + 1, 0, none⟩) hK _).setCell (a := ⟨w.heap.size + 1, 1, none⟩) hK _
  refine ⟨⟨A, E, B, F, us, ts, ⟨(st hA).lower (by omega), hsA⟩, (st hB).lower (by omega), hsB⟩, ?_⟩
  exact (((hb.setCell (p := ⟨w.heap.size, 0, none⟩) (Nat.le_refl _) _).setCell (p := ⟨w.heap.size, 1, none⟩) (Nat.le_refl _) _).setCell (p := ⟨w.heap.size + 1, 0, none⟩) (by show w.heap.size ≤ w.heap.size + 1; omega) _).setCell (p := ⟨w.heap.size + 1, 1, none⟩) (by show w.heap.size ≤ w.heap.size + 1; omega) _

theorem le_sml (M : List (List Int)) (E : List Bool) : Sml (leM M E) (leE M E) := by
  obtain ⟨h1, h2, h3⟩ := le_len M E
  exact ⟨by omega, by omega, h3⟩

set_option maxRecDepth 100000 in
set_option maxHeartbeats 8000000 in
theorem drawTwo_any (ao : Option Addr) (len cap : Nat) (w : World) (hcode : CodeAt w ao len) :
    Calls Try.prog 35 #[.slice ao len cap] w fun e w' => (∃ ra qa rb qb, e = .returned (.tuple #[.agg #[ra, qa], .agg #[rb, qb]]) ∧ TwoM w' w.heap.size ra qa rb qb) ∧ Below w.heap.size w w' := by
  have rc := fun (tmps : Array Value) (P : Program) (w : World) => results_cell_cellM (fn := Try.f35) (p := 2) (u := 3) (ty := 30) (ty' := 30) rfl tmps P w
  obtain ⟨W1, hW1⟩ : ∃ W, W = (w.alloc (.cells #[.slice none 0 0, .slice none 0 0] 30)).alloc (.cells #[.slice none 0 0, .slice none 0 0] 30) := ⟨_, rfl⟩
  have hb1 : Below w.heap.size w W1 := by rw [hW1]; exact ((Below.refl _ w).alloc (Nat.le_refl _) _).alloc (by simp) _
  have HS1 : Hid (W1.heap.size = w.heap.size + 2) := by show _ = _; rw [hW1]; simp
  have hc0 := Cur.made (cap := cap) (hcode.below hb1) 70
  rw [HS1.out] at hc0
  have P1 : Hid (∀ k, k < 2 → (W1.cell? ⟨w.heap.size, k, none⟩ = some (.slice none 0 0) ∧ W1.cell? ⟨w.heap.size + 1, k, none⟩ = some (.slice none 0 0)) ∧ W1.frozen? ⟨w.heap.size, k, none⟩ = false ∧ W1.frozen? ⟨w.heap.size + 1, k, none⟩ = false) := fun k hk => by
    rcases (show k = 0 ∨ k = 1 by omega) with rfl | rfl <;> refine ⟨⟨?_, ?_⟩, ?_, ?_⟩ <;> rw [hW1] <;> go_simp
  obtain ⟨W2, hW2⟩ : ∃ W, W = W1.alloc (.cells #[.slice ao len cap, .int .i64 0, .int .u64 0] 70) := ⟨_, rfl⟩
  rw [← hW2] at hc0
  have hb2 : Below W1.heap.size W1 W2 := by rw [hW2]; exact (Below.refl _ W1).alloc (Nat.le_refl _) _
  have HS2 : Hid (W2.heap.size = w.heap.size + 3) := by show _ = _; rw [hW2, World.size_alloc, HS1.out]
  have hb02 : Below w.heap.size w W2 := hb1.trans (hb2.mono hb1.size)
  /- what every later world keeps: it grew by the cursor's block alone -/
  have HP : Hid (∀ W, W2.grownBy W (some (w.heap.size + 2)) → ∀ k, k < 2 → (W.cell? ⟨w.heap.size, k, none⟩ = some (.slice none 0 0) ∧ W.cell? ⟨w.heap.size + 1, k, none⟩ = some (.slice none 0 0)) ∧ W.frozen? ⟨w.heap.size, k, none⟩ = false ∧ W.frozen? ⟨w.heap.size + 1, k, none⟩ = false) := fun W hW k hk => by
    obtain ⟨⟨a1, a2⟩, a3, a4⟩ := P1.out k hk
    have e1 := HS1.out
    have e2 := HS2.out
    have l1 : w.heap.size < W1.heap.size := by omega
    have l2 : w.heap.size + 1 < W1.heap.size := by omega
    have b1 := (hb2.cell (p := ⟨w.heap.size, k, none⟩) l1).trans a1
    have b2 := (hb2.cell (p := ⟨w.heap.size + 1, k, none⟩) l2).trans a2
    have b3 := (hb2.frozen (p := ⟨w.heap.size, k, none⟩) l1).trans a3
    have b4 := (hb2.frozen (p := ⟨w.heap.size + 1, k, none⟩) l2).trans a4
    exact ⟨⟨hW.cell b1 (by simp), hW.cell b2 (by simp)⟩, (hW.frozen_far ⟨w.heap.size, k, none⟩ (by show w.heap.size < _; omega) (by simp)).trans b3, (hW.frozen_far ⟨w.heap.size + 1, k, none⟩ (by show w.heap.size + 1 < _; omega) (by simp)).trans b4⟩
  have HBW : Hid (∀ W, W2.grownBy W (some (w.heap.size + 2)) → Below w.heap.size w W ∧ w.heap.size + 3 ≤ W.heap.size) := fun W hW => ⟨hb02.grown hW (by have := HS2.out; omega) (fun k hk => by simp at hk; omega), by have := hW.size; have := HS2.out; omega⟩
  go_enter Try.func35, Try.ntmps35
  go_upto_region 1 with fail
  rw [← hW1]
  clear hW1
  have hs1 : W1.heap.size = w.heap.size + 2 := HS1.out
  go_upto_region 2 with fail
  rw [← hW2]
  clear hW2 hs1 P1
  go_wp2_with fail
  refine (drawMac_any (w.heap.size + 2) 0 _ hc0 (by omega)).mono ?_
  rintro e w3 ⟨va, ea, A, E, us, rfl, ho3, hsm, hc3, hg3⟩
  have HSM : Hid (Sml A E) := hsm
  have HO3 : Hid (MaOwn w3 (w.heap.size + 3) va ea A E us) := by rw [← HS2.out]; exact ho3
  have HG3 : Hid (W2.grownBy w3 (some (w.heap.size + 2))) := hg3
  have HC3 : Hid (Cur w3 (w.heap.size + 2) 200) := hc3
  obtain ⟨aA, cA, hvn⟩ := ho3.1.slice
  obtain ⟨aE, cE, hev⟩ := ERow.slice ho3.2.1
  subst hvn hev
  clear ho3 hsm hc3 hg3 hc0
  obtain ⟨W4, hW4⟩ : ∃ W, W = w3.alloc (.cells #[.slice aA A.length cA, .slice aE E.length cE] 30) := ⟨_, rfl⟩
  have hb4 : Below w3.heap.size w3 W4 := by rw [hW4]; exact (Below.refl _ w3).alloc (Nat.le_refl _) _
  have m0 : W4.cell? ⟨w3.heap.size, 0, none⟩ = some (.slice aA A.length cA) := by rw [hW4]; go_simp
  have m1 : W4.cell? ⟨w3.heap.size, 1, none⟩ = some (.slice aE E.length cE) := by rw [hW4]; go_simp
  have hm4 : w3.heap.size < W4.heap.size := by rw [hW4]; simp
  have HO4 : Hid (MaOwn W4 (w.heap.size + 3) (.slice aA A.length cA) (.slice aE E.length cE) A E us) := HO3.out.below hb4
  have CL : Hid (type_of% (specLeastM A E _ _ W4 HO4.out.1.at (EAt.own HO4.out.2.1))) := specLeastM A E _ _ W4 HO4.out.1.at (EAt.own HO4.out.2.1)
  go_upto_region 3 with fail
  rw [← hW4]
  clear hW4
  go_wp2_with fail
  refine CL.out.mono ?_
  rintro e w5 ⟨⟨vb, eb, rfl, ts, ho5⟩, hb5⟩
  have HB5 : Hid (MaOwn w5 W4.heap.size vb eb (leM A E) (leE A E) ts) := ho5
  obtain ⟨aB, cB, hvn⟩ := ho5.1.slice
  obtain ⟨aF, cF, hev⟩ := ERow.slice ho5.2.1
  subst hvn hev
  have HSB : Hid (Sml (leM A E) (leE A E)) := le_sml A E
  generalize leM A E = B at HB5 HSB ⊢
  generalize leE A E = F at HB5 HSB ⊢
  clear ho5 CL
  have h45 := hb5.size
  have hb35 : Below w3.heap.size w3 w5 := hb4.trans (hb5.mono hb4.size)
  replace m0 := (hb5.cell (p := ⟨w3.heap.size, 0, none⟩) hm4).trans m0
  replace m1 := (hb5.cell (p := ⟨w3.heap.size, 1, none⟩) hm4).trans m1
  obtain ⟨W6, hW6⟩ : ∃ W, W = w5.alloc (.cells #[.slice aB B.length cB, .slice aF F.length cF] 30) := ⟨_, rfl⟩
  have hb6 : Below w5.heap.size w5 W6 := by rw [hW6]; exact (Below.refl _ w5).alloc (Nat.le_refl _) _
  have n0 : W6.cell? ⟨w5.heap.size, 0, none⟩ = some (.slice aB B.length cB) := by rw [hW6]; go_simp
  have n1 : W6.cell? ⟨w5.heap.size, 1, none⟩ = some (.slice aF F.length cF) := by rw [hW6]; go_simp
  have hn6 : w5.heap.size < W6.heap.size := by rw [hW6]; simp
  have hm5 : w3.heap.size < w5.heap.size := by omega
  replace m0 := (hb6.cell (p := ⟨w3.heap.size, 0, none⟩) hm5).trans m0
  replace m1 := (hb6.cell (p := ⟨w3.heap.size, 1, none⟩) hm5).trans m1
  have hb36 : Below w3.heap.size w3 W6 := hb35.trans (hb6.mono (by omega))
  have hs3 : w.heap.size + 3 ≤ w3.heap.size := (HBW.out _ HG3.out).2
  have HO6 : Hid (MaOwn W6 (w.heap.size + 3) (.slice aA A.length cA) (.slice aE E.length cE) A E us) := HO3.out.below hb36
  have HB6 : Hid (MaOwn W6 (w.heap.size + 3) (.slice aB B.length cB) (.slice aF F.length cF) B F ts) := (HB5.out.below hb6).lower (by omega)
  have HG6 : Hid (W2.grownBy W6 (some (w.heap.size + 2))) := ⟨hb36.os.trans HG3.out.os, hb36.tape.trans HG3.out.tape, hb36.output.trans HG3.out.output, Nat.le_trans HG3.out.size hb36.size, fun i hi hne => (hb36.block i (by have := HG3.out.size; omega)).trans (HG3.out.block i hi hne)⟩
  have HC6 : Hid (Cur W6 (w.heap.size + 2) 200) := HC3.out.below (hb36.mono (by omega))
  have HM6 : Hid (∀ W, W6.grownBy W (some (w.heap.size + 2)) → (W.cell? ⟨w3.heap.size, 0, none⟩ = some (.slice aA A.length cA) ∧ W.cell? ⟨w3.heap.size, 1, none⟩ = some (.slice aE E.length cE)) ∧ W.cell? ⟨w5.heap.size, 0, none⟩ = some (.slice aB B.length cB) ∧ W.cell? ⟨w5.heap.size, 1, none⟩ = some (.slice aF F.length cF)) := fun W hW => ⟨⟨hW.cell m0 (by simp; omega), hW.cell m1 (by simp; omega)⟩, hW.cell n0 (by simp; omega), hW.cell n1 (by simp; omega)⟩
  clear HO3 HB5 HO4 hb4 hb5 hb6 hb35 hb36 m0 m1 n0 n1 HC3
  go_upto_region 4 with fail
  rw [← hW6]
  clear hW6
  have HX2 : Hid (∀ (w' : World) (x y : Value), ((w'.cell? ⟨w3.heap.size, 0, none⟩ = some (.slice aA A.length cA) ∧ w'.cell? ⟨w3.heap.size, 1, none⟩ = some (.slice aE E.length cE)) ∧ w'.cell? ⟨w5.heap.size, 0, none⟩ = some (.slice aB B.length cB) ∧ w'.cell? ⟨w5.heap.size, 1, none⟩ = some (.slice aF F.length cF)) → (((w'.setCell ⟨w.heap.size, 0, none⟩ x).setCell ⟨w.heap.size, 1, none⟩ y).cell? ⟨w3.heap.size, 0, none⟩ = some (.slice aA A.length cA) ∧ ((w'.setCell ⟨w.heap.size, 0, none⟩ x).setCell ⟨w.heap.size, 1, none⟩ y).cell? ⟨w3.heap.size, 1, none⟩ = some (.slice aE E.length cE)) ∧ ((w'.setCell ⟨w.heap.size, 0, none⟩ x).setCell ⟨w.heap.size, 1, none⟩ y).cell? ⟨w5.heap.size, 0, none⟩ = some (.slice aB B.length cB) ∧ ((w'.setCell ⟨w.heap.size, 0, none⟩ x).setCell ⟨w.heap.size, 1, none⟩ y).cell? ⟨w5.heap.size, 1, none⟩ = some (.slice aF F.length cF)) := fun w' x y h => by
    refine ⟨⟨?_, ?_⟩, ?_, ?_⟩ <;> rw [World.cell?_setCell_other _ _ _ _ (fun e => by have := congrArg Addr.block e; simp at this; omega), World.cell?_setCell_other _ _ _ _ (fun e => by have := congrArg Addr.block e; simp at this; omega)]
    · exact h.1.1
    · exact h.1.2
    · exact h.2.1
    · exact h.2.2
  have HX4 : Hid (∀ (w' : World) (x y z u : Value), ((w'.cell? ⟨w3.heap.size, 0, none⟩ = some (.slice aA A.length cA) ∧ w'.cell? ⟨w3.heap.size, 1, none⟩ = some (.slice aE E.length cE)) ∧ w'.cell? ⟨w5.heap.size, 0, none⟩ = some (.slice aB B.length cB) ∧ w'.cell? ⟨w5.heap.size, 1, none⟩ = some (.slice aF F.length cF)) → (((((w'.setCell ⟨w.heap.size, 0, none⟩ x).setCell ⟨w.heap.size, 1, none⟩ y).setCell ⟨w.heap.size + 1, 0, none⟩ z).setCell ⟨w.heap.size + 1, 1, none⟩ u).cell? ⟨w3.heap.size, 0, none⟩ = some (.slice aA A.length cA) ∧ ((((w'.setCell ⟨w.heap.size, 0, none⟩ x).setCell ⟨w.heap.size, 1, none⟩ y).setCell ⟨w.heap.size + 1, 0, none⟩ z).setCell ⟨w.heap.size + 1, 1, none⟩ u).cell? ⟨w3.heap.size, 1, none⟩ = some (.slice aE E.length cE)) ∧ ((((w'.setCell ⟨w.heap.size, 0, none⟩ x).setCell ⟨w.heap.size, 1, none⟩ y).setCell ⟨w.heap.size + 1, 0, none⟩ z).setCell ⟨w.heap.size + 1, 1, none⟩ u).cell? ⟨w5.heap.size, 0, none⟩ = some (.slice aB B.length cB) ∧ ((((w'.setCell ⟨w.heap.size, 0, none⟩ x).setCell ⟨w.heap.size, 1, none⟩ y).setCell ⟨w.heap.size + 1, 0, none⟩ z).setCell ⟨w.heap.size + 1, 1, none⟩ u).cell? ⟨w5.heap.size, 1, none⟩ = some (.slice aF F.length cF)) := fun w' x y z u h => by
    have h2 := HX2.out w' x y h
    refine ⟨⟨?_, ?_⟩, ?_, ?_⟩ <;> rw [World.cell?_setCell_other _ _ _ _ (fun e => by have := congrArg Addr.block e; simp at this; omega), World.cell?_setCell_other _ _ _ _ (fun e => by have := congrArg Addr.block e; simp at this; omega)]
    · exact h2.1.1
    · exact h2.1.2
    · exact h2.2.1
    · exact h2.2.2
  have GD : Hid (∀ W : World, W.grownBy W.drew (some (w.heap.size + 2))) := fun W => ⟨((Below.refl W.heap.size W).drew).os, ((Below.refl W.heap.size W).drew).tape, ((Below.refl W.heap.size W).drew).output, ((Below.refl W.heap.size W).drew).size, fun k hk _ => ((Below.refl W.heap.size W).drew).block k hk⟩
  cases hg : gm A E with
  | false =>
    clear hg
    have HGR : Hid (W6.grownBy W6 (some (w.heap.size + 2))) := World.grownBy.refl _ _
    have HCX : Hid (Cur W6 (w.heap.size + 2) 210) := HC6.out.le (by omega)
    have HMW : Hid (∀ W', W6.grownBy W' (some (w.heap.size + 2)) → (W'.cell? ⟨w3.heap.size, 0, none⟩ = some (.slice aA A.length cA) ∧ W'.cell? ⟨w3.heap.size, 1, none⟩ = some (.slice aE E.length cE)) ∧ W'.cell? ⟨w5.heap.size, 0, none⟩ = some (.slice aB B.length cB) ∧ W'.cell? ⟨w5.heap.size, 1, none⟩ = some (.slice aF F.length cF)) := fun W' hW => HM6.out _ (Lib.grownBy_trans HGR.out hW)
    have hSw := HMW.out W6 (World.grownBy.refl _ _)
    have hSd := HMW.out _ (GD.out W6)
    have hcd : Cur W6.drew (w.heap.size + 2) 210 := HCX.out.drew
    have hlw : w5.heap.size < W6.heap.size := by have := HGR.out.size; omega
    go_upto_region 6 with fail
    go_region_held3 (fun w' => (w'.cell? ⟨w3.heap.size, 0, none⟩ = some (.slice aA A.length cA) ∧ w'.cell? ⟨w3.heap.size, 1, none⟩ = some (.slice aE E.length cE)) ∧ w'.cell? ⟨w5.heap.size, 0, none⟩ = some (.slice aB B.length cB) ∧ w'.cell? ⟨w5.heap.size, 1, none⟩ = some (.slice aF F.length cF))
      (first
        | with_reducible exact hS10
        | with_reducible exact hS9
        | with_reducible exact hS8
        | with_reducible exact hSd
        | exact hSw)
      (first
        | (go_at_call 54; (with_reducible refine (drawMac_any (w.heap.size + 2) 210 _ hcd (by omega)).mono ?_); rintro e w8 ⟨vg, eg, G, H, rs, rfl, ho8, hsm8, hc8, hg8⟩; have hg8' := Lib.grownBy_trans (GD.out W6) hg8; obtain ⟨ag, cg, hvg⟩ := ho8.1.slice; obtain ⟨bg, dg, heg⟩ := ERow.slice ho8.2.1; subst hvg; subst heg; have hS8 := HMW.out _ hg8'; have hS9 := HX2.out w8 (.slice aA A.length cA) (.slice aE E.length cE) hS8; have hS10 := HX4.out w8 (.slice aA A.length cA) (.slice aE E.length cE) (.slice ag G.length cg) (.slice bg H.length dg) hS8; have HSG : Hid (Sml G H) := hsm8; have HO8 : Hid (MaOwn w8 W6.drew.heap.size (.slice ag G.length cg) (.slice bg H.length dg) G H rs) := ho8; have HG8 : Hid (W6.grownBy w8 (some (w.heap.size + 2))) := hg8'; obtain ⟨⟨p0, p0'⟩, y0, y0'⟩ := HP.out _ (Lib.grownBy_trans HG6.out hg8') 0 (by omega); obtain ⟨⟨p1, p1'⟩, y1, y1'⟩ := HP.out _ (Lib.grownBy_trans HG6.out hg8') 1 (by omega); have hl8 : w.heap.size + 3 ≤ w8.heap.size := (HBW.out _ (Lib.grownBy_trans HG6.out hg8')).2; have hl8' : w5.heap.size < w8.heap.size := (by have := hg8'.size; omega)))
    all_goals
      have HOA : Hid (MaOwn w8 (w.heap.size + 3) (.slice aA A.length cA) (.slice aE E.length cE) A E us) := HO6.out.pickM (Lib.grownBy_trans HGR.out HG8.out) (by omega)
      have HOG : Hid (MaOwn w8 (w.heap.size + 3) (.slice ag G.length cg) (.slice bg H.length dg) G H rs) := HO8.out.lower (by show w.heap.size + 3 ≤ W6.heap.size; omega)
      have hBe := (HBW.out _ (Lib.grownBy_trans HG6.out HG8.out)).1
      obtain ⟨f1, f2⟩ := two_fin HOA.out HOG.out HSM.out HSG.out (by omega) hBe (.slice aA A.length cA) (.slice aE E.length cE) (.slice ag G.length cg) (.slice bg H.length dg)
      have F1 : Hid (type_of% f1) := f1
      have F2 : Hid (type_of% f2) := f2
      clear f1 f2 hSw hSd hS8 hS9 hS10
      go_wp2
      (try simp only [Exit.inBlock, Exit.then])
      refine bodyPost_ret (v := .tuple #[.agg #[.slice aA A.length cA, .slice aE E.length cE], .agg #[.slice ag G.length cg, .slice bg H.length dg]]) ?_ rfl ⟨⟨_, _, _, _, rfl, F1.out⟩, F2.out⟩
      rw [rc]
      go_simp
  | true =>
    clear hg
    go_wp2_with fail
    refine (one_any (w.heap.size + 2) 200 2 _ HC6.out (by omega)).mono ?_
    rintro e w7 ⟨t, rfl, hc7, hg7⟩
    have HGR : Hid (W6.grownBy w7 (some (w.heap.size + 2))) := hg7
    have HG7 : Hid (W2.grownBy w7 (some (w.heap.size + 2))) := Lib.grownBy_trans HG6.out hg7
    have HCX : Hid (Cur w7 (w.heap.size + 2) 210) := hc7.le (by omega)
    clear hc7 hg7
    cases t with
    | false =>
      have HMW : Hid (∀ W', w7.grownBy W' (some (w.heap.size + 2)) → (W'.cell? ⟨w3.heap.size, 0, none⟩ = some (.slice aA A.length cA) ∧ W'.cell? ⟨w3.heap.size, 1, none⟩ = some (.slice aE E.length cE)) ∧ W'.cell? ⟨w5.heap.size, 0, none⟩ = some (.slice aB B.length cB) ∧ W'.cell? ⟨w5.heap.size, 1, none⟩ = some (.slice aF F.length cF)) := fun W' hW => HM6.out _ (Lib.grownBy_trans HGR.out hW)
      have hSw := HMW.out w7 (World.grownBy.refl _ _)
      have hSd := HMW.out _ (GD.out w7)
      have hcd : Cur w7.drew (w.heap.size + 2) 210 := HCX.out.drew
      have hlw : w5.heap.size < w7.heap.size := by have := HGR.out.size; omega
      go_upto_region 6 with fail
      go_region_held3 (fun w' => (w'.cell? ⟨w3.heap.size, 0, none⟩ = some (.slice aA A.length cA) ∧ w'.cell? ⟨w3.heap.size, 1, none⟩ = some (.slice aE E.length cE)) ∧ w'.cell? ⟨w5.heap.size, 0, none⟩ = some (.slice aB B.length cB) ∧ w'.cell? ⟨w5.heap.size, 1, none⟩ = some (.slice aF F.length cF))
        (first
          | with_reducible exact hS10
          | with_reducible exact hS9
          | with_reducible exact hS8
          | with_reducible exact hSd
          | exact hSw)
        (first
          | (go_at_call 54; (with_reducible refine (drawMac_any (w.heap.size + 2) 210 _ hcd (by omega)).mono ?_); rintro e w8 ⟨vg, eg, G, H, rs, rfl, ho8, hsm8, hc8, hg8⟩; have hg8' := Lib.grownBy_trans (GD.out w7) hg8; obtain ⟨ag, cg, hvg⟩ := ho8.1.slice; obtain ⟨bg, dg, heg⟩ := ERow.slice ho8.2.1; subst hvg; subst heg; have hS8 := HMW.out _ hg8'; have hS9 := HX2.out w8 (.slice aA A.length cA) (.slice aE E.length cE) hS8; have hS10 := HX4.out w8 (.slice aA A.length cA) (.slice aE E.length cE) (.slice ag G.length cg) (.slice bg H.length dg) hS8; have HSG : Hid (Sml G H) := hsm8; have HO8 : Hid (MaOwn w8 w7.drew.heap.size (.slice ag G.length cg) (.slice bg H.length dg) G H rs) := ho8; have HG8 : Hid (w7.grownBy w8 (some (w.heap.size + 2))) := hg8'; obtain ⟨⟨p0, p0'⟩, y0, y0'⟩ := HP.out _ (Lib.grownBy_trans HG7.out hg8') 0 (by omega); obtain ⟨⟨p1, p1'⟩, y1, y1'⟩ := HP.out _ (Lib.grownBy_trans HG7.out hg8') 1 (by omega); have hl8 : w.heap.size + 3 ≤ w8.heap.size := (HBW.out _ (Lib.grownBy_trans HG7.out hg8')).2; have hl8' : w5.heap.size < w8.heap.size := (by have := hg8'.size; omega)))
      all_goals
        have HOA : Hid (MaOwn w8 (w.heap.size + 3) (.slice aA A.length cA) (.slice aE E.length cE) A E us) := HO6.out.pickM (Lib.grownBy_trans HGR.out HG8.out) (by omega)
        have HOG : Hid (MaOwn w8 (w.heap.size + 3) (.slice ag G.length cg) (.slice bg H.length dg) G H rs) := HO8.out.lower (by show w.heap.size + 3 ≤ w7.heap.size; omega)
        have hBe := (HBW.out _ (Lib.grownBy_trans HG7.out HG8.out)).1
        obtain ⟨f1, f2⟩ := two_fin HOA.out HOG.out HSM.out HSG.out (by omega) hBe (.slice aA A.length cA) (.slice aE E.length cE) (.slice ag G.length cg) (.slice bg H.length dg)
        have F1 : Hid (type_of% f1) := f1
        have F2 : Hid (type_of% f2) := f2
        clear f1 f2 hSw hSd hS8 hS9 hS10
        go_wp2
        (try simp only [Exit.inBlock, Exit.then])
        refine bodyPost_ret (v := .tuple #[.agg #[.slice aA A.length cA, .slice aE E.length cE], .agg #[.slice ag G.length cg, .slice bg H.length dg]]) ?_ rfl ⟨⟨_, _, _, _, rfl, F1.out⟩, F2.out⟩
        rw [rc]
        go_simp
    | true =>
      have hSw := HM6.out w7 HGR.out
      have hSd := HM6.out _ (Lib.grownBy_trans HGR.out (GD.out w7))
      have hlw : w5.heap.size < w7.heap.size := by have := HGR.out.size; omega
      obtain ⟨⟨p0, p0'⟩, y0, y0'⟩ := HP.out _ (Lib.grownBy_trans HG7.out (GD.out w7)) 0 (by omega)
      obtain ⟨⟨p1, p1'⟩, y1, y1'⟩ := HP.out _ (Lib.grownBy_trans HG7.out (GD.out w7)) 1 (by omega)
      obtain ⟨⟨q0, q0'⟩, z0, z0'⟩ := HP.out _ HG7.out 0 (by omega)
      obtain ⟨⟨q1, q1'⟩, z1, z1'⟩ := HP.out _ HG7.out 1 (by omega)
      have hS9 : (((w7.setCell ⟨w.heap.size, 0, none⟩ (.slice aA A.length cA)).setCell ⟨w.heap.size, 1, none⟩ (.slice aE E.length cE)).drew.cell? ⟨w3.heap.size, 0, none⟩ = some (.slice aA A.length cA) ∧ ((w7.setCell ⟨w.heap.size, 0, none⟩ (.slice aA A.length cA)).setCell ⟨w.heap.size, 1, none⟩ (.slice aE E.length cE)).drew.cell? ⟨w3.heap.size, 1, none⟩ = some (.slice aE E.length cE)) ∧ ((w7.setCell ⟨w.heap.size, 0, none⟩ (.slice aA A.length cA)).setCell ⟨w.heap.size, 1, none⟩ (.slice aE E.length cE)).drew.cell? ⟨w5.heap.size, 0, none⟩ = some (.slice aB B.length cB) ∧ ((w7.setCell ⟨w.heap.size, 0, none⟩ (.slice aA A.length cA)).setCell ⟨w.heap.size, 1, none⟩ (.slice aE E.length cE)).drew.cell? ⟨w5.heap.size, 1, none⟩ = some (.slice aF F.length cF) := HX2.out w7 (.slice aA A.length cA) (.slice aE E.length cE) hSw
      have hS10 : (((((w7.setCell ⟨w.heap.size, 0, none⟩ (.slice aA A.length cA)).setCell ⟨w.heap.size, 1, none⟩ (.slice aE E.length cE)).drew.setCell ⟨w.heap.size + 1, 0, none⟩ (.slice aB B.length cB)).setCell ⟨w.heap.size + 1, 1, none⟩ (.slice aF F.length cF)).cell? ⟨w3.heap.size, 0, none⟩ = some (.slice aA A.length cA) ∧ ((((w7.setCell ⟨w.heap.size, 0, none⟩ (.slice aA A.length cA)).setCell ⟨w.heap.size, 1, none⟩ (.slice aE E.length cE)).drew.setCell ⟨w.heap.size + 1, 0, none⟩ (.slice aB B.length cB)).setCell ⟨w.heap.size + 1, 1, none⟩ (.slice aF F.length cF)).cell? ⟨w3.heap.size, 1, none⟩ = some (.slice aE E.length cE)) ∧ ((((w7.setCell ⟨w.heap.size, 0, none⟩ (.slice aA A.length cA)).setCell ⟨w.heap.size, 1, none⟩ (.slice aE E.length cE)).drew.setCell ⟨w.heap.size + 1, 0, none⟩ (.slice aB B.length cB)).setCell ⟨w.heap.size + 1, 1, none⟩ (.slice aF F.length cF)).cell? ⟨w5.heap.size, 0, none⟩ = some (.slice aB B.length cB) ∧ ((((w7.setCell ⟨w.heap.size, 0, none⟩ (.slice aA A.length cA)).setCell ⟨w.heap.size, 1, none⟩ (.slice aE E.length cE)).drew.setCell ⟨w.heap.size + 1, 0, none⟩ (.slice aB B.length cB)).setCell ⟨w.heap.size + 1, 1, none⟩ (.slice aF F.length cF)).cell? ⟨w5.heap.size, 1, none⟩ = some (.slice aF F.length cF) := HX4.out w7 (.slice aA A.length cA) (.slice aE E.length cE) (.slice aB B.length cB) (.slice aF F.length cF) hSw
      have hS11 : (((((w7.setCell ⟨w.heap.size, 0, none⟩ (.slice aA A.length cA)).setCell ⟨w.heap.size, 1, none⟩ (.slice aE E.length cE)).setCell ⟨w.heap.size + 1, 0, none⟩ (.slice aB B.length cB)).setCell ⟨w.heap.size + 1, 1, none⟩ (.slice aF F.length cF)).drew.cell? ⟨w3.heap.size, 0, none⟩ = some (.slice aA A.length cA) ∧ ((((w7.setCell ⟨w.heap.size, 0, none⟩ (.slice aA A.length cA)).setCell ⟨w.heap.size, 1, none⟩ (.slice aE E.length cE)).setCell ⟨w.heap.size + 1, 0, none⟩ (.slice aB B.length cB)).setCell ⟨w.heap.size + 1, 1, none⟩ (.slice aF F.length cF)).drew.cell? ⟨w3.heap.size, 1, none⟩ = some (.slice aE E.length cE)) ∧ ((((w7.setCell ⟨w.heap.size, 0, none⟩ (.slice aA A.length cA)).setCell ⟨w.heap.size, 1, none⟩ (.slice aE E.length cE)).setCell ⟨w.heap.size + 1, 0, none⟩ (.slice aB B.length cB)).setCell ⟨w.heap.size + 1, 1, none⟩ (.slice aF F.length cF)).drew.cell? ⟨w5.heap.size, 0, none⟩ = some (.slice aB B.length cB) ∧ ((((w7.setCell ⟨w.heap.size, 0, none⟩ (.slice aA A.length cA)).setCell ⟨w.heap.size, 1, none⟩ (.slice aE E.length cE)).setCell ⟨w.heap.size + 1, 0, none⟩ (.slice aB B.length cB)).setCell ⟨w.heap.size + 1, 1, none⟩ (.slice aF F.length cF)).drew.cell? ⟨w5.heap.size, 1, none⟩ = some (.slice aF F.length cF) := HX4.out w7 (.slice aA A.length cA) (.slice aE E.length cE) (.slice aB B.length cB) (.slice aF F.length cF) hSw
      go_upto_region 5 with fail
      go_region_held3 (fun w' => (w'.cell? ⟨w3.heap.size, 0, none⟩ = some (.slice aA A.length cA) ∧ w'.cell? ⟨w3.heap.size, 1, none⟩ = some (.slice aE E.length cE)) ∧ w'.cell? ⟨w5.heap.size, 0, none⟩ = some (.slice aB B.length cB) ∧ w'.cell? ⟨w5.heap.size, 1, none⟩ = some (.slice aF F.length cF))
        (first
          | with_reducible exact hS11
          | with_reducible exact hS10
          | with_reducible exact hS9
          | with_reducible exact hSd
          | exact hSw)
        (fail "none")
      all_goals
        have HOA : Hid (MaOwn w7.drew (w.heap.size + 3) (.slice aA A.length cA) (.slice aE E.length cE) A E us) := HO6.out.pickM (Lib.grownBy_trans HGR.out (GD.out w7)) (by omega)
        have HOG : Hid (MaOwn w7.drew (w.heap.size + 3) (.slice aB B.length cB) (.slice aF F.length cF) B F ts) := HB6.out.pickM (Lib.grownBy_trans HGR.out (GD.out w7)) (by omega)
        have hBe := (HBW.out _ (Lib.grownBy_trans HG7.out (GD.out w7))).1
        obtain ⟨f1, f2⟩ := two_fin HOA.out HOG.out HSM.out HSB.out (by omega) hBe (.slice aA A.length cA) (.slice aE E.length cE) (.slice aB B.length cB) (.slice aF F.length cF)
        have F1 : Hid (type_of% f1) := f1
        have F2 : Hid (type_of% f2) := f2
        clear f1 f2 hSw hSd hS9 hS10
        go_wp2
        (try simp only [Exit.inBlock, Exit.then])
        refine bodyPost_ret (v := .tuple #[.agg #[.slice aA A.length cA, .slice aE E.length cE], .agg #[.slice aB B.length cB, .slice aF F.length cF]]) ?_ rfl ⟨⟨_, _, _, _, rfl, F1.out⟩, F2.out⟩
        rw [rc]
        go_simp

end Go.Proofs.Ytecgjhnihagleaa
