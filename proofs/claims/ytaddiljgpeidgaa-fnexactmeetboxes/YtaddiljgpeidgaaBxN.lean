/- The model's MeetBoxes. -/
import Derived.Test.YtaddiljgpeidgaaBxZ
namespace Go.Proofs.Ytaddiljgpeidgaa
open Go.RowKit Plain Sch Bxs

set_option maxRecDepth 100000 in
set_option maxHeartbeats 8000000 in
theorem specMeet9 (T U : List Sd) (v u : Value) (w : World) (hT : SdsAt w w.heap.size v T) (hU : SdsAt w w.heap.size u U) :
    Calls Try.prog 25 #[.agg #[v], .agg #[u]] w fun e w' => (∃ v, e = .returned (.tuple #[.agg #[v], .bool (mok T U)]) ∧ SRow w' w.heap.size 70 v (mlo T U)) ∧ Below w.heap.size w w' := by
  have rc := fun (tmps : Array Value) (P : Program) (w : World) => results_cell_tmpB (fn := Try.f25) (p := 4) (u := 5) (ty := 29) rfl tmps P w
  have HT : Hid (SdsAt w w.heap.size v T) := hT
  have HU : Hid (SdsAt w w.heap.size u U) := hU
  obtain ⟨ao, cap, rfl, hlc, hcm, _⟩ := hT
  obtain ⟨bo', dap, rfl, hld, hdm, _⟩ := hU
  unfold maxLen at hcm hdm
  obtain ⟨W0, hW0⟩ : ∃ W, W = ((w.alloc (.cells #[.slice ao T.length cap] 29)).alloc (.cells #[.slice bo' U.length dap] 29)).alloc (.cells #[.slice none 0 0] 29) := ⟨_, rfl⟩
  have hB0 : Below w.heap.size w W0 := by rw [hW0]; exact (((Below.refl _ w).alloc (Nat.le_refl _) _).alloc (by simp) _).alloc (by simp; omega) _
  have hs0 : Hid (W0.heap.size = w.heap.size + 3) := by show _ = _; rw [hW0]; simp
  have q0 : W0.cell? ⟨w.heap.size, 0, none⟩ = some (.slice ao T.length cap) := by rw [hW0]; go_simp
  have q1 : W0.cell? ⟨w.heap.size + 1, 0, none⟩ = some (.slice bo' U.length dap) := by rw [hW0]; go_simp
  have q2 : W0.cell? ⟨w.heap.size + 2, 0, none⟩ = some (.slice none 0 0) := by rw [hW0]; go_simp
  have qf2 : W0.frozen? ⟨w.heap.size + 2, 0, none⟩ = false := by rw [hW0]; go_simp
  have hz0' := hs0.out
  obtain ⟨R, hR⟩ : ∃ R, R = mlo T U := ⟨_, rfl⟩
  obtain ⟨G, hG⟩ : ∃ G, G = mok T U := ⟨_, rfl⟩
  rw [← hR, ← hG]
  have HR : Hid (R = mlo T U) := hR
  have HG : Hid (G = mok T U) := hG
  clear hR hG hs0
  have HBad : Hid ((gb T && gb U) = false → R = [] ∧ G = false) := fun h => by have h' : mok T U = false := (by unfold mok; rw [h]; rfl); exact ⟨by rw [HR.out]; unfold mlo; rw [h']; rfl, by rw [HG.out, h']⟩
  go_enter Try.func25, Try.ntmps25
  go_upto_region 1 with fail
  rw [← hW0]
  clear hW0
  go_wp2_with fail
  refine (specGoodB T _ _ (HT.out.below hB0)).mono ?_
  rintro e w2 ⟨rfl, hb2⟩
  have hB2 : Below w.heap.size w w2 := hB0.trans (hb2.mono hB0.size)
  have hzz2 := hb2.size
  have q0 := (hb2.cell (p := ⟨w.heap.size, 0, none⟩) (by show w.heap.size < _; omega)).trans q0
  have q1 := (hb2.cell (p := ⟨w.heap.size + 1, 0, none⟩) (by show w.heap.size + 1 < _; omega)).trans q1
  have q2 := (hb2.cell (p := ⟨w.heap.size + 2, 0, none⟩) (by show w.heap.size + 2 < _; omega)).trans q2
  have qf2 := (hb2.frozen (p := ⟨w.heap.size + 2, 0, none⟩) (by show w.heap.size + 2 < _; omega)).trans qf2
  clear hb2
  by_cases h1 : gb T = true
  case neg =>
    have h1' : gb T = false := by simpa using h1
    have hF : Hid (R = [] ∧ G = false) := HBad.out (by rw [h1']; rfl)
    rw [h1']
    clear h1 h1'
    go_wp2
    (try simp only [Exit.inBlock, Exit.then])
    refine bodyPost_ret (v := .tuple #[.agg #[.slice none 0 0], .bool false]) ?_ rfl ⟨⟨_, by rw [hF.out.2], by rw [hF.out.1]; exact srow_nil _ _ _⟩, ?_⟩
    · rw [rc]
      go_simp
    · exact hB2.setCell (p := ⟨w.heap.size + 2, 0, none⟩) (Nat.le_add_right _ _) _
  rw [h1]
  go_wp2_with fail
  refine (specGoodB U _ _ (HU.out.below hB2)).mono ?_
  rintro e w3 ⟨rfl, hb3⟩
  have hB3 : Below w.heap.size w w3 := hB2.trans (hb3.mono hB2.size)
  have hzz3 := hb3.size
  have q0 := (hb3.cell (p := ⟨w.heap.size, 0, none⟩) (by show w.heap.size < _; omega)).trans q0
  have q1 := (hb3.cell (p := ⟨w.heap.size + 1, 0, none⟩) (by show w.heap.size + 1 < _; omega)).trans q1
  have q2 := (hb3.cell (p := ⟨w.heap.size + 2, 0, none⟩) (by show w.heap.size + 2 < _; omega)).trans q2
  have qf2 := (hb3.frozen (p := ⟨w.heap.size + 2, 0, none⟩) (by show w.heap.size + 2 < _; omega)).trans qf2
  clear hb3
  by_cases h2 : gb U = true
  case neg =>
    have h2' : gb U = false := by simpa using h2
    have hF : Hid (R = [] ∧ G = false) := HBad.out (by rw [h2']; simp)
    rw [h2']
    clear h1 h2 h2'
    go_wp2
    (try simp only [Exit.inBlock, Exit.then])
    refine bodyPost_ret (v := .tuple #[.agg #[.slice none 0 0], .bool false]) ?_ rfl ⟨⟨_, by rw [hF.out.2], by rw [hF.out.1]; exact srow_nil _ _ _⟩, ?_⟩
    · rw [rc]
      go_simp
    · exact hB3.setCell (p := ⟨w.heap.size + 2, 0, none⟩) (Nat.le_add_right _ _) _
  have eT := (gb_good h1).1
  have eU := (gb_good h2).1
  rw [h2]
  have HT3 : Hid (SdsAt w3 w3.heap.size (.slice ao T.length cap) (bx T).list) := by rw [← eT]; exact HT.out.below hB3
  have HU3 : Hid (SdsAt w3 w3.heap.size (.slice bo' U.length dap) (bx U).list) := by rw [← eU]; exact HU.out.below hB3
  have HC : Hid (R = meL (bx T) (bx U) ∧ G = !apart (bx T) (bx U)) := by
    have hm : mok T U = !apart (bx T) (bx U) := by unfold mok; rw [h1, h2]; rfl
    refine ⟨?_, by rw [HG.out, hm]⟩
    rw [HR.out]
    unfold mlo meL
    rw [hm]
    cases apart (bx T) (bx U) <;> rfl
  clear h1 h2 eT eU
  go_wp2_with fail
  refine (l9Meet_any (bx T) (bx U) _ _ _ HT3.out HU3.out).mono ?_
  rintro e w4 ⟨⟨v4, rfl, hr4⟩, hb4⟩
  have hB4 : Below w.heap.size w w4 := hB3.trans (hb4.mono hB3.size)
  have hzz4 := hb4.size
  have q2 := (hb4.cell (p := ⟨w.heap.size + 2, 0, none⟩) (by show w.heap.size + 2 < _; omega)).trans q2
  have qf2 := (hb4.frozen (p := ⟨w.heap.size + 2, 0, none⟩) (by show w.heap.size + 2 < _; omega)).trans qf2
  generalize (!apart (bx T) (bx U)) = g4 at HC
  have HR4 : Hid (SRow w4 w3.heap.size 70 v4 (meL (bx T) (bx U))) := hr4
  obtain ⟨av, cv, hv4⟩ := hr4.slice
  generalize (meL (bx T) (bx U)).length = n4 at hv4
  subst hv4
  clear hr4 hb4 q0 q1
  go_wp2
  (try simp only [Exit.inBlock, Exit.then])
  refine bodyPost_ret (v := .tuple #[.agg #[.slice av n4 cv], .bool g4]) ?_ rfl ⟨⟨_, by rw [HC.out.2], by rw [HC.out.1]; exact SRow.setCell HR4.out (a := ⟨w.heap.size + 2, 0, none⟩) (by show w.heap.size + 2 < _; omega) _ (by omega)⟩, ?_⟩
  · rw [rc]
    go_simp
  · exact hB4.setCell (p := ⟨w.heap.size + 2, 0, none⟩) (Nat.le_add_right _ _) _

end Go.Proofs.Ytaddiljgpeidgaa
