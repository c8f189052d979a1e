/- The model's CutAway; marks that are held in lists of boxes. -/
import Derived.Test.YtnbaeplbnonhkaaByE
import Derived.Test.YtnbaeplbnonhkaaByK
import Derived.Test.YtnbaeplbnonhkaaBxS
namespace Go.Proofs.Ytnbaeplbnonhkaa
open Go.RowKit Plain Sch Bxs

set_option maxRecDepth 100000 in
set_option maxHeartbeats 4000000 in
theorem specCut (T U : List Sd) (v u : Value) (w : World) (hT : SdsAt w w.heap.size v T) (hU : SdsAt w w.heap.size u U) :
    Calls Try.prog 24 #[.agg #[v], .agg #[u]] w fun e w' => (∃ r, e = .returned (.tuple #[r, .bool (gb T && gb U)]) ∧ ∃ us, BOwn w' w.heap.size r (cto T U) us) ∧ Below w.heap.size w w' := by
  have HT : Hid (SdsAt w w.heap.size v T) := hT
  have HU : Hid (SdsAt w w.heap.size u U) := hU
  obtain ⟨ao, cap, rfl, _⟩ := hT
  obtain ⟨bo, dap, rfl, _⟩ := hU
  obtain ⟨W1, hW1⟩ : ∃ W, W = (w.alloc (.cells #[.slice ao T.length cap] 25)).alloc (.cells #[.slice bo U.length dap] 25) := ⟨_, rfl⟩
  have hB1 : Below w.heap.size w W1 := by rw [hW1]; exact ((Below.refl _ w).alloc (Nat.le_refl _) _).alloc (by simp) _
  have hs1 : Hid (W1.heap.size = w.heap.size + 2) := by show _ = _; rw [hW1]; simp
  have q0 : W1.cell? ⟨w.heap.size, 0, none⟩ = some (.slice ao T.length cap) := by rw [hW1]; go_simp
  have q1 : W1.cell? ⟨w.heap.size + 1, 0, none⟩ = some (.slice bo U.length dap) := by rw [hW1]; go_simp
  have hz1 := hs1.out
  obtain ⟨R, hR⟩ : ∃ R, R = cto T U := ⟨_, rfl⟩
  obtain ⟨G, hG⟩ : ∃ G, G = (gb T && gb U) := ⟨_, rfl⟩
  rw [← hR, ← hG]
  have HBad : Hid ((gb T && gb U) = false → R = [] ∧ G = false) := fun h => ⟨by rw [hR]; unfold cto; rw [h]; rfl, by rw [hG, h]⟩
  have HGood : Hid ((gb T && gb U) = true → R = (cut (bx T) (bx U)).map Bx.list ∧ G = true) := fun h => ⟨by rw [hR]; unfold cto; rw [h]; rfl, by rw [hG, h]⟩
  clear hR hG hs1
  go_enter Try.func24, Try.ntmps24
  go_upto_region 1 with fail
  rw [← hW1]
  clear hW1
  go_wp2_with fail
  refine (specGoodB T _ _ (HT.out.below hB1)).mono ?_
  rintro e w2 ⟨rfl, hb2⟩
  have hB2 : Below w.heap.size w w2 := hB1.trans (hb2.mono hB1.size)
  have hz2 := hb2.size
  have q0 := (hb2.cell (p := ⟨w.heap.size, 0, none⟩) (by show w.heap.size < _; omega)).trans q0
  have q1 := (hb2.cell (p := ⟨w.heap.size + 1, 0, none⟩) (by show w.heap.size + 1 < _; omega)).trans q1
  clear hb2
  by_cases h1 : gb T = true
  · rw [h1]
    go_wp2_with fail
    refine (specGoodB U _ _ (HU.out.below hB2)).mono ?_
    rintro e w3 ⟨rfl, hb3⟩
    have hB3 : Below w.heap.size w w3 := hB2.trans (hb3.mono hB2.size)
    have q0 := (hb3.cell (p := ⟨w.heap.size, 0, none⟩) (by show w.heap.size < _; omega)).trans q0
    have q1 := (hb3.cell (p := ⟨w.heap.size + 1, 0, none⟩) (by show w.heap.size + 1 < _; omega)).trans q1
    clear hb3
    by_cases h2 : gb U = true
    · have hF : Hid (R = (cut (bx T) (bx U)).map Bx.list ∧ G = true) := HGood.out (by rw [h1, h2]; rfl)
      have eT := (gb_good h1).1
      have eU := gb_good h2
      have HT3 : Hid (SdsAt w3 w3.heap.size (.slice ao T.length cap) (bx T).list) := by rw [← eT]; exact HT.out.below hB3
      have HU3 : Hid (SdsAt w3 w3.heap.size (.slice bo U.length dap) (bx U).list) := by rw [← eU.1]; exact HU.out.below hB3
      have HOK : Hid (okB (bx U) = true) := eU.2
      rw [h2]
      clear h1 h2 eT eU HBad HGood
      go_wp2_with fail
      refine (l9Cut_any (bx T) (bx U) _ _ _ HT3.out HU3.out HOK.out).mono ?_
      rintro e w4 ⟨r4, rfl, ⟨us4, ho4⟩, hb4⟩
      have hB4 : Below w.heap.size w w4 := hB3.trans (hb4.mono hB3.size)
      have hs3 := hB3.size
      have HO4 : Hid (∃ us, BOwn w4 w.heap.size r4 R us) := by
        rw [hF.out.1]
        exact ⟨us4, own_lower ho4.1 hs3, fun j hj => by obtain ⟨u, h1, h2, h3⟩ := ho4.2.1 j hj; exact ⟨u, h1, h2.lower hs3, h3⟩, ho4.2.2⟩
      clear ho4 hb4
      go_wp2
      go_ret2
      exact ⟨⟨_, by rw [hF.out.2]; rfl, HO4.out⟩, hB4⟩
    · have h2' : gb U = false := by simpa using h2
      have hF : Hid (R = [] ∧ G = false) := HBad.out (by rw [h2']; simp)
      rw [h2']
      clear h1 h2 h2' HBad HGood
      go_wp2
      go_ret2
      exact ⟨⟨_, by rw [hF.out.2]; rfl, by rw [hF.out.1]; exact ⟨[], BOwn.nil _ _⟩⟩, hB3⟩
  · have h1' : gb T = false := by simpa using h1
    have hF : Hid (R = [] ∧ G = false) := HBad.out (by rw [h1']; rfl)
    rw [h1']
    clear h1 h1' HBad HGood
    go_wp2
    go_ret2
    exact ⟨⟨_, by rw [hF.out.2]; rfl, by rw [hF.out.1]; exact ⟨[], BOwn.nil _ _⟩⟩, hB2⟩

/-- marks that lie in a list of boxes -/
def BHeld (w : World) (v : Value) (M : List (List Sd)) : Prop :=
  ∃ ao cap, v = .slice ao M.length cap ∧ ∀ i, i < M.length → ∃ g o u, ao = some ⟨g, o, none⟩ ∧ g < w.heap.size ∧ w.cell? ⟨g, o + i, none⟩ = some u ∧ MarksAtSd w w.heap.size u (mx M i).length (1 + pl M i * 2)

theorem BMark.held {w : World} {B : Nat} {v : Value} {M : List (List Sd)} {us : List Value} (h : BMark w B v M us 1 M.length) (hp : pl M M.length ≤ 1048576) : BHeld w v M := by
  obtain ⟨h1, h2, _⟩ := h
  have h0 := h1
  obtain ⟨_, ⟨rfl, hn0⟩ | ⟨g, cap, cur, rfl, hB, hb, hnc, hcm, _⟩⟩ := h1
  · exact ⟨none, 0, by rw [hn0], fun i hi => by omega⟩
  · refine ⟨some ⟨g, 0, none⟩, cap, rfl, fun i hi => ?_⟩
    obtain ⟨u, hu, ty, ys, ho, hys⟩ := h2 i hi
    refine ⟨g, 0, u, rfl, (h0.lt g rfl).2, ?_, MarksAtSd.own ho hys (by have := pl_each hi; unfold maxLen; omega)⟩
    rw [Nat.zero_add, h0.cellAt i (by omega)]
    exact hu

theorem BHeld.below {w w' : World} {v : Value} {M : List (List Sd)} (h : BHeld w v M) (hb : Below w.heap.size w w') : BHeld w' v M := by
  obtain ⟨ao, cap, hv, hr⟩ := h
  refine ⟨ao, cap, hv, fun i hi => ?_⟩
  obtain ⟨g, o, u, ha, hg, c, hs⟩ := hr i hi
  exact ⟨g, o, u, ha, Nat.lt_of_lt_of_le hg hb.size, (hb.cell (p := ⟨g, o + i, none⟩) hg).trans c, hs.below hb⟩

end Go.Proofs.Ytnbaeplbnonhkaa
