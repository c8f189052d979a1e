/- The program's HullOf. -/
import Derived.Test.YtaddiljgpeidgaaBxB
import Derived.Test.YtaddiljgpeidgaaBxH
import Derived.Test.YtaddiljgpeidgaaBxU
import Derived.Test.YtaddiljgpeidgaaBxD
namespace Go.Proofs.Ytaddiljgpeidgaa
open Go.RowKit Plain Sch Bxs

set_option maxRecDepth 100000 in
set_option maxHeartbeats 4000000 in
theorem implHull (T U : List Sd) (v u : Value) (w : World) (hT : SdsAt w w.heap.size v T) (hU : SdsAt w w.heap.size u U) :
    Calls Try.prog 30 #[.agg #[v], .agg #[u]] w fun e w' => (∃ v, e = .returned (.tuple #[.agg #[v], .bool (gb T && gb U)]) ∧ SRow w' w.heap.size 74 v (hlo T U)) ∧ Below w.heap.size w w' := by
  have rc := fun (tmps : Array Value) (P : Program) (w : World) => results_cell_tmpB (fn := Try.f30) (p := 4) (u := 5) (ty := 29) rfl tmps P w
  have HT : Hid (SdsAt w w.heap.size v T) := hT
  have HU : Hid (SdsAt w w.heap.size u U) := hU
  obtain ⟨ao, cap, rfl, _⟩ := hT
  obtain ⟨bo, dap, rfl, _⟩ := hU
  obtain ⟨W1, hW1⟩ : ∃ W, W = ((w.alloc (.cells #[.slice ao T.length cap] 29)).alloc (.cells #[.slice bo U.length dap] 29)).alloc (.cells #[.slice none 0 0] 29) := ⟨_, rfl⟩
  have hB1 : Below w.heap.size w W1 := by rw [hW1]; exact (((Below.refl _ w).alloc (Nat.le_refl _) _).alloc (by simp) _).alloc (by simp; omega) _
  have hs1 : Hid (W1.heap.size = w.heap.size + 3) := by show _ = _; rw [hW1]; simp
  have q0 : W1.cell? ⟨w.heap.size, 0, none⟩ = some (.slice ao T.length cap) := by rw [hW1]; go_simp
  have q1 : W1.cell? ⟨w.heap.size + 1, 0, none⟩ = some (.slice bo U.length dap) := by rw [hW1]; go_simp
  have hO1 : OneB W1 (w.heap.size + 2) := by rw [hW1]; exact ⟨by go_simp, by go_simp⟩
  go_enter Try.func30, Try.ntmps30
  go_upto_region 1 with fail
  rw [← hW1]
  clear hW1
  go_wp2_with fail
  refine (sidesOfBoth_any T U _ _ W1 (HT.out.below hB1) (HU.out.below hB1)).mono ?_
  rintro e w2 ⟨rfl, hb2⟩
  have hB2 : Below w.heap.size w w2 := hB1.trans (hb2.mono hB1.size)
  obtain ⟨X, hX⟩ : ∃ X, X = sof T := ⟨_, rfl⟩
  obtain ⟨Y, hY⟩ : ∃ Y, Y = sof U := ⟨_, rfl⟩
  obtain ⟨g, hg⟩ : ∃ g, g = (gb T && gb U) := ⟨_, rfl⟩
  have HX : Hid (g = true → bx T = X ∧ bx U = Y) := fun h => by
    rw [hX, hY]
    rw [hg, Bool.and_eq_true] at h
    unfold sof
    rw [h.1, h.2]
    exact ⟨rfl, rfl⟩
  have HG : Hid ((gb T && gb U) = g) := hg.symm
  rw [← hX, ← hY, ← hg]
  clear hX hY hg q0 q1
  obtain ⟨W3, hW3⟩ : ∃ W, W = (w2.alloc X.obj).alloc Y.obj := ⟨_, rfl⟩
  have hs3 : Hid (W3.heap.size = w2.heap.size + 2) := by show _ = _; rw [hW3]; simp
  have hA6 : Hid (ArrAt W3 w2.heap.size X) := by
    show ArrAt _ _ _
    rw [hW3]
    exact (ArrAt.made w2 X).kept (Below.heap_alloc _ _ _ (by simp)) (by simp)
  have hA7 : Hid (ArrAt W3 (w2.heap.size + 1) Y) := by
    show ArrAt _ _ _
    rw [hW3]
    have h := ArrAt.made (w2.alloc X.obj) Y
    simp only [World.size_alloc] at h
    exact h
  have hB23 : Hid (Below w2.heap.size w2 W3) := by rw [hW3]; exact ((Below.refl _ w2).alloc (Nat.le_refl _) _).alloc (by simp) _
  have hB3 : Below w.heap.size w W3 := hB2.trans (hB23.out.mono hB2.size)
  have hz1 := hs1.out
  have hz2 := hb2.size
  have hz3 := hs3.out
  have hO3 : OneB W3 (w.heap.size + 2) := (hO1.kept (hb2.block _ (by omega))).kept (hB23.out.block _ (by omega))
  obtain ⟨o0, of0⟩ := hO3
  obtain ⟨⟨x0, x1⟩, ⟨x2, x3⟩, ⟨x4, x5⟩⟩ := X
  obtain ⟨⟨y0, y1⟩, ⟨y2, y3⟩, ⟨y4, y5⟩⟩ := Y
  unfold Bx.val
  dsimp only [Bx.obj] at hW3
  dsimp only
  go_upto_region 2 with fail
  rw [← hW3]
  clear hW3 hb2 hs1 hs3
  cases g with
  | false =>
    have HNO : Hid (hlo T U = [] ∧ (gb T && gb U) = false) := ⟨by unfold hlo; rw [HG.out]; rfl, HG.out⟩
    clear hA6 hA7 hB23
    go_wp2
    (try simp only [Exit.inBlock, Exit.then])
    refine bodyPost_ret (v := .tuple #[.agg #[.slice none 0 0], .bool false]) ?_ rfl ⟨⟨_, by rw [HNO.out.2], by rw [HNO.out.1]; exact srow_nil _ _ _⟩, ?_⟩
    · rw [rc]
      go_simp
    · exact hB3.setCell (p := ⟨w.heap.size + 2, 0, none⟩) (Nat.le_add_right _ _) _
  | true =>
    obtain ⟨_, ⟨c0, c1, c2, c3, c4, c5⟩, _⟩ := hA6.out
    obtain ⟨_, ⟨d0, d1, d2, d3, d4, d5⟩, _⟩ := hA7.out
    dsimp only [Nat.zero_add] at c0 c1 c2 c3 c4 c5 d0 d1 d2 d3 d4 d5
    have HNO : Hid (hlo T U = (hul ⟨⟨x0, x1⟩, ⟨x2, x3⟩, ⟨x4, x5⟩⟩ ⟨⟨y0, y1⟩, ⟨y2, y3⟩, ⟨y4, y5⟩⟩).list ∧ (gb T && gb U) = true) := by
      have h := HX.out (by trivial)
      refine ⟨?_, HG.out⟩
      unfold hlo
      rw [HG.out, h.1, h.2]
      rfl
    go_wp2_with fail
    refine (hullWith_any ⟨⟨x0, x1⟩, ⟨x2, x3⟩, ⟨x4, x5⟩⟩ ⟨⟨y0, y1⟩, ⟨y2, y3⟩, ⟨y4, y5⟩⟩ _).mono ?_
    rintro e w4 ⟨rfl, hb4⟩
    have hB4 : Below w.heap.size w w4 := hB3.trans (hb4.mono hB3.size)
    have hz4 := hb4.size
    have o0 := (hb4.cell (p := ⟨w.heap.size + 2, 0, none⟩) (by show w.heap.size + 2 < _; omega)).trans o0
    have of0 := (hb4.frozen (p := ⟨w.heap.size + 2, 0, none⟩) (by show w.heap.size + 2 < _; omega)).trans of0
    generalize hul ⟨⟨x0, x1⟩, ⟨x2, x3⟩, ⟨x4, x5⟩⟩ ⟨⟨y0, y1⟩, ⟨y2, y3⟩, ⟨y4, y5⟩⟩ = H at HNO
    obtain ⟨⟨h0, h1⟩, ⟨h2, h3⟩, ⟨h4, h5⟩⟩ := H
    unfold Bx.val
    dsimp only
    clear hb4 c0 c1 c2 c3 c4 c5 d0 d1 d2 d3 d4 d5
    go_wp2_with fail
    refine (box_any ⟨⟨h0, h1⟩, ⟨h2, h3⟩, ⟨h4, h5⟩⟩ _).mono ?_
    rintro e w5 ⟨v5, rfl, hr5, hb5⟩
    have hB5 : Below w.heap.size w w5 := hB4.trans (hb5.mono hB4.size)
    have o0 := (hb5.cell (p := ⟨w.heap.size + 2, 0, none⟩) (by show w.heap.size + 2 < _; omega)).trans o0
    have of0 := (hb5.frozen (p := ⟨w.heap.size + 2, 0, none⟩) (by show w.heap.size + 2 < _; omega)).trans of0
    obtain ⟨av, cv, hv0⟩ := hr5.slice
    have hv : v5 = .slice av 3 cv := hv0
    clear hv0
    subst hv
    have HR5 : Hid (SRow w5 w4.heap.size 74 (.slice av 3 cv) (Bx.list ⟨⟨h0, h1⟩, ⟨h2, h3⟩, ⟨h4, h5⟩⟩)) := hr5
    have hz5 := hb5.size
    clear hr5 hb5
    go_wp2
    (try simp only [Exit.inBlock, Exit.then])
    refine bodyPost_ret (v := .tuple #[.agg #[.slice av 3 cv], .bool true]) ?_ rfl ⟨⟨_, by rw [HNO.out.2], by rw [HNO.out.1]; exact SRow.setCell HR5.out (a := ⟨w.heap.size + 2, 0, none⟩) (by show w.heap.size + 2 < _; omega) _ (by omega)⟩, ?_⟩
    · rw [rc]
      go_simp
    · exact hB5.setCell (p := ⟨w.heap.size + 2, 0, none⟩) (Nat.le_add_right _ _) _

end Go.Proofs.Ytaddiljgpeidgaa
