/- The model's IsInstance: one term matched by another. -/
import Derived.Test.YtlmhjkcollohnaaInE
namespace Go.Proofs.Ytlmhjkcollohnaa
open Go.RowKit Plain Sch Trm

def MOut (N H K : Nat) (S : Nat → Prop) (o : Option (Nat → Option TT)) (w : World) (r : Ending) (w' : World) : Prop :=
  r = .returned (.bool o.isSome) ∧ FrM N H K w w' ∧ ∀ s', o = some s' → StM w' N H K S s'

def MatchC (e : Nat) : Prop := ∀ (d : Nat) (a b : TT) (aa : Option Addr) (la ca : Nat) (ab : Option Addr) (lb cb : Nat) (N H K : Nat) (w : World) (S : Nat → Prop) (s : Nat → Option TT), TKids d w S (.slice aa la ca) a.kids → (∀ g, S g → g < N) → TKids e w S (.slice ab lb cb) b.kids → (∀ c ∈ fl b, okCe c = true) → StM w N H K S s →
  Calls Try.prog 32 #[.agg #[.int .i64 a.v, .string a.name, .slice aa la ca], .agg #[.int .i64 b.v, .string b.name, .slice ab lb cb], .slice (some ⟨H, 0, none⟩) 6 6, .slice (some ⟨K, 0, none⟩) 6 6] w (MOut N H K S (mt2 a b s) w)

set_option maxRecDepth 100000 in
set_option maxHeartbeats 8000000 in
theorem match_var (d : Nat) (a : TT) (m : Nat) (aa : Option Addr) (la ca : Nat) (ab : Option Addr) (lb cb : Nat) (N H K : Nat) (w : World) (S : Nat → Prop) (s : Nat → Option TT) (hm : m < 6) (hA : TKids d w S (.slice aa la ca) a.kids) (hS : ∀ g, S g → g < N) (hst : StM w N H K S s) :
    Calls Try.prog 32 #[.agg #[.int .i64 a.v, .string a.name, .slice aa la ca], .agg #[.int .i64 ((m : Int) + 1), .string ⟨#[]⟩, .slice ab lb cb], .slice (some ⟨H, 0, none⟩) 6 6, .slice (some ⟨K, 0, none⟩) 6 6] w (MOut N H K S (mt2 a (.mk ((m : Int) + 1) ⟨#[]⟩ []) s) w) := by
  have HA : Hid (TKids d w S (.slice aa la ca) a.kids) := hA
  have HS : Hid (∀ g, S g → g < N) := hS
  have HST : Hid (StM w N H K S s) := hst
  obtain ⟨hNH, hNK, hHK, hHw, hKw, _⟩ := id hst
  clear hA hS hst
  have hm' : (m : Int) < 6 := by omega
  have hm0 : (0 : Int) ≤ (m : Int) := by omega
  obtain ⟨W2, hW2⟩ : ∃ W, W = (w.alloc (.cells #[.int .i64 a.v, .string a.name, .slice aa la ca] 48)).alloc (.cells #[.int .i64 ((m : Int) + 1), .string ⟨#[]⟩, .slice ab lb cb] 48) := ⟨_, rfl⟩
  have hB2 : Below w.heap.size w W2 := by rw [hW2]; exact ((Below.refl _ w).alloc (Nat.le_refl _) _).alloc (by simp) _
  have HS2 : Hid (W2.heap.size = w.heap.size + 2) := by show _ = _; rw [hW2]; simp
  have x0 : W2.cell? ⟨w.heap.size, 0, none⟩ = some (.int .i64 a.v) := by rw [hW2]; go_simp
  have x1 : W2.cell? ⟨w.heap.size, 1, none⟩ = some (.string a.name) := by rw [hW2]; go_simp
  have x2 : W2.cell? ⟨w.heap.size, 2, none⟩ = some (.slice aa la ca) := by rw [hW2]; go_simp
  have y0 : W2.cell? ⟨w.heap.size + 1, 0, none⟩ = some (.int .i64 ((m : Int) + 1)) := by rw [hW2]; go_simp
  have HST2 : Hid (StM W2 N H K S s) := HST.out.kept hB2.size (hB2.block H hHw) (hB2.block K hKw) (fun g hg => hB2.block g (by have := HS.out g hg; omega))
  have HA2 : Hid (TKids d W2 S (.slice aa la ca) a.kids) := HA.out.kept (fun g hg => hB2.block g (by have := HS.out g hg; omega)) (fun g hg => hg)
  have HF2 : Hid (FrM N H K w W2) := FrM.below hB2 (by omega)
  obtain ⟨_, _, _, _, _, h6, h7, h8, h9, h10⟩ := id HST2.out
  have k0 := h6 m hm
  have kz := h7 m
  have hvp : (0 : Int) < (m : Int) + 1 := by omega
  have hmt : ((m : Int) + 1).toNat - 1 = m := by omega
  cases hsm : s m with
  | some t =>
    have ho := mt2_old a ((m : Int) + 1) ⟨#[]⟩ [] s hvp t (by rw [hmt]; exact hsm)
    rw [hsm] at k0
    obtain ⟨ac, lc, cc, ⟨n0, n1, n2⟩, d', hk⟩ := h10 m t hm hsm
    have HC : Hid (∀ W : World, Below W2.heap.size W2 W → Calls Try.prog 46 #[.agg #[.int .i64 t.v, .string t.name, .slice ac lc cc], .agg #[.int .i64 a.v, .string a.name, .slice aa la ca]] W fun r w' => r = .returned (.bool (decide (fl t = fl a))) ∧ Below W.heap.size W w') := fun W hW => by
      have hs := hW.size
      have hlt : ∀ g, S g → g < W2.heap.size := fun g hg => by have := HS.out g hg; have := HS2.out; omega
      exact sameC_all d' d t a ac lc cc aa la ca W S S (hk.kept (fun g hg => hW.block g (hlt g hg)) (fun g hg => hg)) (fun g hg => by have := hlt g hg; omega) (HA2.out.kept (fun g hg => hW.block g (hlt g hg)) (fun g hg => hg)) (fun g hg => by have := hlt g hg; omega)
    have HO : Hid (mt2 a (.mk ((m : Int) + 1) ⟨#[]⟩ []) s = if fl t = fl a then some s else none) := ho
    have k0 : W2.cell? ⟨K, m, none⟩ = some (.bool true) := k0
    obtain ⟨O, hO⟩ : ∃ O, Hid (O = mt2 a (.mk ((m : Int) + 1) ⟨#[]⟩ []) s) := ⟨_, rfl⟩
    rw [← hO.out] at HO ⊢
    have hBd : Hid (Below W2.heap.size W2 W2.drew) := (Below.refl _ W2).drew
    have hHW : H < W2.heap.size := by have := HS2.out; omega
    clear h6 h7 h8 h9 h10 hk ho hO hmt
    go_enter Try.func32, Try.ntmps32
    go_upto_region 1 with fail
    rw [← hW2]
    clear hW2
    go_wp2_with fail
    have hle : (m : Int) ≤ 9223372036854775807 := by omega
    have hge : (-9223372036854775808 : Int) ≤ (m : Int) := by omega
    have hwr : IntKind.wrap .i64 (m : Int) = (m : Int) := by rw [IntKind.wrap_i64]; omega
    have hwr2 : IntKind.wrap .i64 ((m : Int) + 1 - 1) = (m : Int) := by rw [IntKind.wrap_i64]; omega
    go_region_with (go_at_call 46; refine (HC.out _ hBd.out).mono ?_; rintro e w3 ⟨rfl, hb3⟩; have hb3 : Below W2.heap.size W2 w3 := ⟨hb3.os, hb3.tape, hb3.output, hb3.size, hb3.block⟩)
    all_goals
      go_wp2
      go_ret
      refine ⟨?_, HF2.out.trans (FrM.below hb3 (by have := HS2.out; omega)), fun s' hs' => ?_⟩
      · rw [HO.out]
        by_cases hq : fl t = fl a <;> simp [hq] <;> rfl
      · rw [HO.out] at hs'
        by_cases hq : fl t = fl a
        · rw [if_pos hq] at hs'
          cases hs'
          exact HST2.out.kept hb3.size (hb3.block H hHW) (hb3.block K (by have := HS2.out; omega)) (fun g hg => hb3.block g (by have := HS.out g hg; omega))
        · rw [if_neg hq] at hs'
          cases hs'
  | none =>
    have ho := mt2_new a ((m : Int) + 1) ⟨#[]⟩ [] s hvp (by rw [hmt]; exact hsm)
    rw [hmt] at ho
    rw [hsm] at k0
    have k0 : W2.cell? ⟨K, m, none⟩ = some (.bool false) := k0
    obtain ⟨u0, q0⟩ := h8 (m * 3) (by omega)
    obtain ⟨u1, q1⟩ := h8 (m * 3 + 1) (by omega)
    obtain ⟨u2, q2⟩ := h8 (m * 3 + 2) (by omega)
    have z0 := h9 (m * 3)
    have z1 := h9 (m * 3 + 1)
    have z2 := h9 (m * 3 + 2)
    have HO : Hid (mt2 a (.mk ((m : Int) + 1) ⟨#[]⟩ []) s = some (upd s m a)) := ho
    obtain ⟨O, hO⟩ : ∃ O, Hid (O = mt2 a (.mk ((m : Int) + 1) ⟨#[]⟩ []) s) := ⟨_, rfl⟩
    rw [← hO.out] at HO ⊢
    have HPUT : Hid (StM ((((W2.setCell ⟨K, m, none⟩ (.bool true)).setCell ⟨H, m * 3, none⟩ (.int .i64 a.v)).setCell ⟨H, m * 3 + 1, none⟩ (.string a.name)).setCell ⟨H, m * 3 + 2, none⟩ (.slice aa la ca)) N H K S (upd s m a)) := HST2.out.put HS.out m hm a aa la ca d HA2.out
    have HFR : Hid (FrM N H K w ((((W2.setCell ⟨K, m, none⟩ (.bool true)).setCell ⟨H, m * 3, none⟩ (.int .i64 a.v)).setCell ⟨H, m * 3 + 1, none⟩ (.string a.name)).setCell ⟨H, m * 3 + 2, none⟩ (.slice aa la ca))) := (((HF2.out.setK hNK _ _).setH hNH _ _).setH hNH _ _).setH hNH _ _
    obtain ⟨W3, hW3⟩ : ∃ W, W = W2.setCell ⟨K, m, none⟩ (.bool true) := ⟨_, rfl⟩
    rw [← hW3] at HPUT HFR
    have x0' : W3.cell? ⟨w.heap.size, 0, none⟩ = some (.int .i64 a.v) := by rw [hW3, World.cell?_setCell_other _ _ _ _ (fun e => by have := congrArg Addr.block e; simp at this; omega)]; exact x0
    have x1' : W3.cell? ⟨w.heap.size, 1, none⟩ = some (.string a.name) := by rw [hW3, World.cell?_setCell_other _ _ _ _ (fun e => by have := congrArg Addr.block e; simp at this; omega)]; exact x1
    have x2' : W3.cell? ⟨w.heap.size, 2, none⟩ = some (.slice aa la ca) := by rw [hW3, World.cell?_setCell_other _ _ _ _ (fun e => by have := congrArg Addr.block e; simp at this; omega)]; exact x2
    have y0' : W3.cell? ⟨w.heap.size + 1, 0, none⟩ = some (.int .i64 ((m : Int) + 1)) := by rw [hW3, World.cell?_setCell_other _ _ _ _ (fun e => by have := congrArg Addr.block e; simp at this; omega)]; exact y0
    have q0' : W3.cell? ⟨H, m * 3, none⟩ = some u0 := by rw [hW3, World.cell?_setCell_other _ _ _ _ (fun e => hHK (congrArg Addr.block e).symm)]; exact q0
    have q1' : W3.cell? ⟨H, m * 3 + 1, none⟩ = some u1 := by rw [hW3, World.cell?_setCell_other _ _ _ _ (fun e => hHK (congrArg Addr.block e).symm)]; exact q1
    have q2' : W3.cell? ⟨H, m * 3 + 2, none⟩ = some u2 := by rw [hW3, World.cell?_setCell_other _ _ _ _ (fun e => hHK (congrArg Addr.block e).symm)]; exact q2
    have z0' : W3.frozen? ⟨H, m * 3, none⟩ = false := by rw [hW3, World.frozen?_setCell]; exact z0
    have z1' : W3.frozen? ⟨H, m * 3 + 1, none⟩ = false := by rw [hW3, World.frozen?_setCell]; exact z1
    have z2' : W3.frozen? ⟨H, m * 3 + 2, none⟩ = false := by rw [hW3, World.frozen?_setCell]; exact z2
    clear h6 h7 h8 h9 h10 ho hO hmt HA HA2 HST HST2
    go_enter Try.func32, Try.ntmps32
    go_upto_region 1 with fail
    rw [← hW2]
    clear hW2
    go_upto_region 5 with fail
    rw [← hW3]
    clear hW3 q0 q1 q2 z0 z1 z2 k0 kz x0 x1 x2 y0
    go_wp2
    go_ret
    refine ⟨by rw [HO.out]; rfl, HFR.out, fun s' hs' => ?_⟩
    rw [HO.out] at hs'
    cases hs'
    exact HPUT.out

end Go.Proofs.Ytlmhjkcollohnaa
