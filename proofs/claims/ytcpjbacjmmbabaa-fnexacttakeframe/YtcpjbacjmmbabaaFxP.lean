/- The first text taken: the model's TakeFrame. -/
import Derived.Test.YtcpjbacjmmbabaaFxO
import Derived.Deep.DeepCutAuto
namespace Go.Proofs.Ytcpjbacjmmbabaa
open Go.RowKit Plain Tpc Frm
attribute [local go_sem ↓] Go.wp_at_zero Go.wp_at_succ

theorem StAt.news {W : World} {B : Nat} {ao : Option Addr} {n cap : Nat} {L : List ByteArray} (h : StAt W B (.slice ao n cap) L) : ∀ j u, (strs L)[j]? = some u → ∃ ad, ao = some ad ∧ W.cell? (ad.add j) = some u := by
  intro j u hu
  obtain ⟨a, c, hv, _, _, hr⟩ := h
  simp only [Value.slice.injEq] at hv
  obtain ⟨rfl, _, _⟩ := hv
  have hj : j < L.length := by
    have := (List.getElem?_eq_some_iff.1 hu).1
    simpa [strs] using this
  obtain ⟨g, o, ha, _, c⟩ := hr j hj
  refine ⟨_, ha, ?_⟩
  have hadd : (⟨g, o, none⟩ : Addr).add j = ⟨g, o + j, none⟩ := by unfold Addr.add; split <;> simp_all
  rw [hadd, c, ← hu]
  simp [strs, lq_at hj]

theorem StAt.keep {w w' : World} {v : Value} {L : List ByteArray} {B : Nat} (h : StAt w B v L) (hb : Below B w w') : StAt w' B v L := by
  obtain ⟨ao, cap, hv, hm, hc, hr⟩ := h
  refine ⟨ao, cap, hv, hm, hc, fun i hi => ?_⟩
  obtain ⟨g, o, ha, hg, c⟩ := hr i hi
  exact ⟨g, o, ha, hg, (hb.cell (p := ⟨g, o + i, none⟩) hg).trans c⟩

theorem one_strs (L : List ByteArray) : ∀ u ∈ strs L, u.oneCell' = true := by
  intro u hu
  obtain ⟨s, _, rfl⟩ := List.mem_map.1 hu
  rfl

/-- a reader in a variable -/
structure Rv (w : World) (b : Nat) (rest v bad : Value) : Prop where
  low : b < w.heap.size
  c0 : w.cell? ⟨b, 0, none⟩ = some rest
  c1 : w.cell? ⟨b, 1, none⟩ = some v
  c2 : w.cell? ⟨b, 2, none⟩ = some bad
  f0 : w.frozen? ⟨b, 0, none⟩ = false
  f1 : w.frozen? ⟨b, 1, none⟩ = false
  f2 : w.frozen? ⟨b, 2, none⟩ = false

theorem Rv.below {w w' : World} {b : Nat} {x y z : Value} (h : Rv w b x y z) (hb : Below w.heap.size w w') : Rv w' b x y z :=
  ⟨Nat.lt_of_lt_of_le h.low hb.size, (hb.cell (p := ⟨b, 0, none⟩) h.low).trans h.c0, (hb.cell (p := ⟨b, 1, none⟩) h.low).trans h.c1, (hb.cell (p := ⟨b, 2, none⟩) h.low).trans h.c2,
    (hb.frozen (p := ⟨b, 0, none⟩) h.low).trans h.f0, (hb.frozen (p := ⟨b, 1, none⟩) h.low).trans h.f1, (hb.frozen (p := ⟨b, 2, none⟩) h.low).trans h.f2⟩

theorem Rv.fresh (w : World) (x y z : Value) (t : TypeId) : Rv (w.alloc (.cells #[x, y, z] t)) w.heap.size x y z := ⟨by simp, by simp, by simp, by simp, by simp, by simp, by simp⟩

def rzero : Rdr := ⟨⟨#[]⟩, [], false⟩
/-- what TakeFrame tells -/
def tfK (r : Rdr) : Bool := gdr r && decide (0 < r.got.length)
def tfR (r : Rdr) : Rdr := if tfK r = true then ⟨r.rest, r.got.drop 1, r.bad⟩ else rzero
def tfS (r : Rdr) : ByteArray := if tfK r = true then lq r.got 0 else ⟨#[]⟩
def TfO (w w' : World) (e : Ending) (r : Rdr) : Prop := ∃ v, e = .returned (.tuple #[(tfR r).val v, .string (tfS r), .bool (tfK r)]) ∧ RdO w w' v (tfR r)

theorem TfO.no {w w' : World} {r : Rdr} (h : tfK r = false) (hb : Below w.heap.size w w') : TfO w w' (.returned (.tuple #[.agg #[.string ⟨#[]⟩, .slice none 0 0, .bool false], .string ⟨#[]⟩, .bool false])) r := by
  unfold TfO tfR tfS
  rw [h]
  exact ⟨_, rfl, ⟨rfl, .inl ⟨rfl, rfl⟩⟩, hb⟩

theorem TfO.yes {w w' : World} {r : Rdr} {v : Value} (h : tfK r = true) (hr : StRow w' w.heap.size v (r.got.drop 1)) (hb : Below w.heap.size w w') : TfO w w' (.returned (.tuple #[.agg #[.string r.rest, v, .bool r.bad], .string (lq r.got 0), .bool true])) r := by
  unfold TfO tfR tfS
  rw [h]
  exact ⟨_, rfl, hr, hb⟩

set_option maxRecDepth 100000 in
set_option maxHeartbeats 8000000 in
theorem specTake (r : Rdr) (v : Value) (w : World) (hT : StAt w w.heap.size v r.got) (hN : ∀ i, i < r.got.length → (lq r.got i).size ≤ 9223372036854775807) (hR : r.rest.size ≤ 2000000) :
    Calls Try.prog 33 #[r.val v] w fun e w' => TfO w w' e r := by
  have rc := fun (tmps : Array Value) (P : Program) (w : World) => results_cell2F (fn := Try.f33) (p := 2) (u := 3) (v := 4) (ty := 33) rfl tmps P w
  obtain ⟨i0, hi, hz0, hz1, hz2⟩ := info_parts infoStr
  have HNO : Hid (tfK r = false → ∀ w', Below w.heap.size w w' → TfO w w' (.returned (.tuple #[.agg #[.string ⟨#[]⟩, .slice none 0 0, .bool false], .string ⟨#[]⟩, .bool false])) r) := fun h w' hb => TfO.no h hb
  have HYES : Hid (tfK r = true → ∀ w' v, StRow w' w.heap.size v (r.got.drop 1) → Below w.heap.size w w' → TfO w w' (.returned (.tuple #[.agg #[.string r.rest, v, .bool r.bad], .string (lq r.got 0), .bool true])) r) := fun h w' v hr hb => TfO.yes h hr hb
  have HGP : Hid (gdr r = true → r.got.length ≤ 40) := fun h => (gdr_parts h).1
  have hK : Hid (tfK r = (gdr r && decide (0 < r.got.length))) := rfl
  obtain ⟨W0, hW0⟩ : ∃ W, W = (w.alloc (.cells #[.string r.rest, v, .bool r.bad] 33)).alloc (.cells #[.string ⟨#[]⟩, .slice none 0 0, .bool false] 33) := ⟨_, rfl⟩
  have hB0 : Below w.heap.size w W0 := by rw [hW0]; exact ((Below.refl _ w).alloc (Nat.le_refl _) _).alloc (by simp) _
  have hb1 := Rv.fresh w (.string r.rest) v (.bool r.bad) 33
  have V1 : Rv W0 w.heap.size (.string r.rest) v (.bool r.bad) := by rw [hW0]; exact hb1.below ((Below.refl _ _).alloc (Nat.le_refl _) _)
  have V2 : Rv W0 (w.heap.size + 1) (.string ⟨#[]⟩) (.slice none 0 0) (.bool false) := by
    have h := Rv.fresh (w.alloc (.cells #[.string r.rest, v, .bool r.bad] 33)) (.string ⟨#[]⟩) (.slice none 0 0) (.bool false) 33
    rw [hW0]
    simpa using h
  have CG : Hid (Calls Try.prog 28 #[r.val v] W0 fun e w' => e = .returned (.bool (gdr r)) ∧ Below W0.heap.size W0 w') := specGood r v W0 (hT.below hB0) hN hR
  have hTT := hT
  obtain ⟨ao, cap, rfl, hlc, hcm, hrow⟩ := hT
  unfold maxLen at hcm
  have HB0 : Hid (Below w.heap.size w W0) := hB0
  have HT : Hid (StAt w w.heap.size (.slice ao r.got.length cap) r.got) := hTT
  unfold Rdr.val at CG ⊢
  obtain ⟨q, L, bad⟩ := r
  dsimp only at *
  have HV1 : Hid (Rv W0 w.heap.size (.string q) (.slice ao L.length cap) (.bool bad)) := V1
  have HV2 : Hid (Rv W0 (w.heap.size + 1) (.string ⟨#[]⟩) (.slice none 0 0) (.bool false)) := V2
  have y0 := V1.c0
  have y1 := V1.c1
  have y2 := V1.c2
  clear hTT hrow hN V1 V2 hb1 hB0
  generalize gdr ⟨q, L, bad⟩ = gd at CG hK HGP
  generalize tfK ⟨q, L, bad⟩ = K at HNO HYES hK
  go_enter Try.func33, Try.ntmps33
  go_upto_region 1 with fail
  rw [← hW0]
  clear hW0
  go_wp2_with fail
  go_at_call 28
  refine CG.out.mono ?_
  rintro e w2 ⟨rfl, hb2⟩
  have HB2 : Hid (Below w.heap.size w w2) := HB0.out.trans (hb2.mono HB0.out.size)
  have V1 := HV1.out.below hb2
  have V2 := HV2.out.below hb2
  have hs2 := HB2.out.size
  clear y0 y1 y2 CG hb2 HB0 HV1 HV2
  have y0 := V1.c0
  have y1 := V1.c1
  have y2 := V1.c2
  have x0 := V2.c0
  have x1 := V2.c1
  have x2 := V2.c2
  have u0 := V2.f0
  have u1 := V2.f1
  have u2 := V2.f2
  cases gd with
  | false =>
    have hF := HNO.out hK.out
    have HF : Hid (type_of% hF) := hF
    clear hF HNO HYES hK
    go_wp2_with fail
    (try simp only [Exit.inBlock, Exit.then])
    refine bodyPost_ret (v := .tuple #[.agg #[.string ⟨#[]⟩, .slice none 0 0, .bool false], .string ⟨#[]⟩, .bool false]) ?_ rfl (HF.out _ ?_)
    · rw [rc]
      go_simp
    · exact ((HB2.out.setCell (p := ⟨w.heap.size + 1, 0, none⟩) (by simp) _).setCell (p := ⟨w.heap.size + 1, 1, none⟩) (by simp) _).setCell (p := ⟨w.heap.size + 1, 2, none⟩) (by simp) _
  | true =>
    by_cases h0 : L.length = 0
    · have hF := HNO.out (by rw [hK.out, h0]; rfl)
      have HF : Hid (type_of% hF) := hF
      have h0I : (L.length : Int) = 0 := by omega
      clear hF HNO HYES hK
      go_wp2_with fail
      (try simp only [Exit.inBlock, Exit.then])
      refine bodyPost_ret (v := .tuple #[.agg #[.string ⟨#[]⟩, .slice none 0 0, .bool false], .string ⟨#[]⟩, .bool false]) ?_ rfl (HF.out _ ?_)
      · rw [rc]
        go_simp
      · exact ((HB2.out.setCell (p := ⟨w.heap.size + 1, 0, none⟩) (by simp) _).setCell (p := ⟨w.heap.size + 1, 1, none⟩) (by simp) _).setCell (p := ⟨w.heap.size + 1, 2, none⟩) (by simp) _
    · have hY := HYES.out (by rw [hK.out]; simp; omega)
      have HY : Hid (type_of% hY) := hY
      have h0I : ¬ (L.length : Int) = 0 := by omega
      clear hY HNO HYES hK
      obtain ⟨g, o, rfl, hg, c0⟩ : ∃ g o, ao = some ⟨g, o, none⟩ ∧ g < w.heap.size ∧ w.cell? ⟨g, o, none⟩ = some (.string (lq L 0)) := by
        obtain ⟨a', c', hv, _, _, hr⟩ := HT.out
        simp only [Value.slice.injEq] at hv
        obtain ⟨rfl, _, rfl⟩ := hv
        exact hr 0 (by omega)
      obtain ⟨aq, haq⟩ : ∃ a : Option Addr, a = if cap = 1 then some ⟨g, o, none⟩ else some ⟨g, o + 1, none⟩ := ⟨_, rfl⟩
      have hD := StAt.drop HT.out (k := 1) (by omega) aq (fun hlt g' o' e => by
        simp only [Option.some.injEq, Addr.mk.injEq] at e
        obtain ⟨rfl, rfl, _⟩ := e
        rw [haq, if_neg (by omega)])
      have HD : Hid (StAt w w.heap.size (.slice aq (L.length - 1) (cap - 1)) (L.drop 1)) := hD
      have HdL : Hid ((L.drop 1).length = L.length - 1) := List.length_drop
      have KW : Hid (∀ W, Below w2.heap.size w2 W → Below w.heap.size w W ∧ (W.cell? ⟨w.heap.size, 0, none⟩ = some (.string q) ∧ W.cell? ⟨w.heap.size, 1, none⟩ = some (.slice (some ⟨g, o, none⟩) L.length cap) ∧ W.cell? ⟨w.heap.size, 2, none⟩ = some (.bool bad) ∧ W.cell? ⟨g, o, none⟩ = some (.string (lq L 0))) ∧ Rv W (w.heap.size + 1) (.string ⟨#[]⟩) (.slice none 0 0) (.bool false)) := fun W hW => by
        have h1 := V1.below hW
        have h2 := HB2.out.trans (hW.mono hs2)
        exact ⟨h2, ⟨h1.c0, h1.c1, h1.c2, (h2.cell (p := ⟨g, o, none⟩) hg).trans c0⟩, V2.below hW⟩
      have hsz2 : w.heap.size + 1 < w2.heap.size := V2.low
      have KS : Hid (∀ W, Below (w.heap.size + 1) w2 W → W.cell? ⟨w.heap.size, 0, none⟩ = some (.string q) ∧ W.cell? ⟨w.heap.size, 1, none⟩ = some (.slice (some ⟨g, o, none⟩) L.length cap) ∧ W.cell? ⟨w.heap.size, 2, none⟩ = some (.bool bad) ∧ W.cell? ⟨g, o, none⟩ = some (.string (lq L 0))) := fun W hW =>
        ⟨(hW.cell (p := ⟨w.heap.size, 0, none⟩) (by simp)).trans V1.c0, (hW.cell (p := ⟨w.heap.size, 1, none⟩) (by simp)).trans V1.c1, (hW.cell (p := ⟨w.heap.size, 2, none⟩) (by simp)).trans V1.c2,
          (hW.cell (p := ⟨g, o, none⟩) (by simp; omega)).trans ((HB2.out.cell (p := ⟨g, o, none⟩) hg).trans c0)⟩
      generalize lq L 0 = x at c0 KW KS HY
      have hl1 : (1 : Int) ≤ (L.length : Int) := by omega
      have hl2 : (1 : Int) ≤ (cap : Int) := by omega
      have hl0 : (0 : Int) < (L.length : Int) := by omega
      have hl0N : 0 < L.length := by omega
      have hl40 : L.length ≤ 40 := HGP.out rfl
      have hcapI : (L.length : Int) ≤ (cap : Int) := by omega
      clear y0 y1 y2 x0 x1 x2 u0 u1 u2 V1 V2 hD c0 HT
      have y0 := (KW.out w2 (Below.refl _ _)).2.1.1
      have y1 := (KW.out w2 (Below.refl _ _)).2.1.2.1
      go_upto_region 3 with fail
      by_cases hc1 : cap = 1
      all_goals
        first
          | (rw [if_pos hc1] at haq)
          | (rw [if_neg hc1] at haq)
        subst haq
        go_region_held3 (fun W => W.cell? ⟨w.heap.size, 0, none⟩ = some (.string q) ∧ W.cell? ⟨w.heap.size, 1, none⟩ = some (.slice (some ⟨g, o, none⟩) L.length cap) ∧ W.cell? ⟨w.heap.size, 2, none⟩ = some (.bool bad) ∧ W.cell? ⟨g, o, none⟩ = some (.string x)) (first | exact (KW.out _ (Below.refl _ w2).drew).2.1 | exact (KW.out _ ((Below.refl _ w2).drew.alloc (by simp) _)).2.1 | exact (KW.out _ hb9).2.1 | exact KS.out _ ((((hb9.mono (by omega)).setCell (p := ⟨w.heap.size + 1, 0, none⟩) (by simp) _).setCell (p := ⟨w.heap.size + 1, 1, none⟩) (by simp) _).setCell (p := ⟨w.heap.size + 1, 2, none⟩) (by simp) _))
          ((refine step_append_mayF _ (by rfl) _ _ _ (by rfl) w.heap.size 9 i0 (.string ByteArray.empty) 1 16 Try.underlying27 hi hz0 hz1 hz2 rfl (by decide) _ 0 [] (by rfl) (World.ownsRow_made (base := w.heap.size) (e := 9) (size := 1) w2.drew #[] 0 (by simp; omega) (by unfold maxLen; omega) rfl) _ (L.length - 1) _ (strs (L.drop 1)) (by rfl) (by unfold strs; rw [List.length_map, HdL.out, Nat.mul_one]) (StAt.news (HD.out.keep ((KW.out _ ((Below.refl _ w2).drew.alloc (by simp) _)).1))) (one_strs _) (by unfold maxLen; omega) (by omega) (by simp; omega) ?_; intro ar c9 w9 hown9 hgrow9 hnew9; have hb9 : Below w2.heap.size w2 w9 := ((Below.refl _ w2).drew.alloc (by simp) _).grown hgrow9 (by simp) (fun k hk => by simp [Value.ownBlock] at hk; omega); have kw9 := (KW.out _ hb9).2.2; have x0 := kw9.c0; have x1 := kw9.c1; have x2 := kw9.c2; have u0 := kw9.f0; have u1 := kw9.f1; have u2 := kw9.f2))
        have HR9 : Hid (StRow w9 w.heap.size (.slice ar (L.length - 1) c9) (L.drop 1)) := by
          have h := hown9
          rw [Nat.zero_add, List.nil_append] at h
          show w9.ownsRow _ _ _ _ (L.drop 1).length _
          rw [HdL.out]
          exact h
        have HBS : Hid (∀ x y z, Below w.heap.size w (((w9.setCell ⟨w.heap.size + 1, 0, none⟩ x).setCell ⟨w.heap.size + 1, 1, none⟩ y).setCell ⟨w.heap.size + 1, 2, none⟩ z)) := fun x y z => (((HB2.out.trans (hb9.mono hs2)).setCell (p := ⟨w.heap.size + 1, 0, none⟩) (by simp) _).setCell (p := ⟨w.heap.size + 1, 1, none⟩) (by simp) _).setCell (p := ⟨w.heap.size + 1, 2, none⟩) (by simp) _
        have HNB : Hid (∀ g', (Value.slice ar (L.length - 1) c9).ownBlock = some g' → g' ≠ w.heap.size + 1) := fun g' hg' => by
          have h := hnew9 g' (by rw [Nat.zero_add]; exact hg')
          rcases h with h | h
          · simp [Value.ownBlock] at h
            omega
          · simp at h
            omega
        clear hown9 hgrow9 hnew9 hb9
        go_wp2_with fail
        (try simp only [Exit.inBlock, Exit.then])
        refine bodyPost_ret (v := .tuple #[.agg #[.string q, .slice ar (L.length - 1) c9, .bool bad], .string x, .bool true]) ?_ rfl (HY.out _ _ ?_ ?_)
        · rw [rc]
          go_simp
        · exact own_setCell (own_setCell (own_setCell HR9.out _ 0 _ HNB.out) _ 1 _ HNB.out) _ 2 _ HNB.out
        · exact HBS.out _ _ _

end Go.Proofs.Ytcpjbacjmmbabaa
