/- The program's BoxCovers. -/
import Derived.Test.YtnbaeplbnonhkaaBxB
import Derived.Test.YtnbaeplbnonhkaaBxC
import Derived.Test.YtnbaeplbnonhkaaBxD
namespace Go.Proofs.Ytnbaeplbnonhkaa
open Go.RowKit Plain Sch Bxs

set_option maxRecDepth 100000 in
set_option maxHeartbeats 4000000 in
theorem implCov (T U : List Sd) (v u : Value) (w : World) (hT : SdsAt w w.heap.size v T) (hU : SdsAt w w.heap.size u U) :
    Calls Try.prog 6 #[.agg #[v], .agg #[u]] w fun e w' => e = .returned (.tuple #[.bool (cvo T U), .bool (gb T && gb U)]) ∧ Below w.heap.size w w' := by
  have HT : Hid (SdsAt w w.heap.size v T) := hT
  have HU : Hid (SdsAt w w.heap.size u U) := hU
  obtain ⟨ao, cap, rfl, _⟩ := hT
  obtain ⟨bo, dap, rfl, _⟩ := hU
  obtain ⟨W1, hW1⟩ : ∃ W, W = (w.alloc (.cells #[.slice ao T.length cap] 25)).alloc (.cells #[.slice bo U.length dap] 25) := ⟨_, rfl⟩
  have hB1 : Below w.heap.size w W1 := by rw [hW1]; exact ((Below.refl _ w).alloc (Nat.le_refl _) _).alloc (by simp) _
  have hs1 : Hid (W1.heap.size = w.heap.size + 2) := by show _ = _; rw [hW1]; simp
  have q0 : W1.cell? ⟨w.heap.size, 0, none⟩ = some (.slice ao T.length cap) := by rw [hW1]; go_simp
  have q1 : W1.cell? ⟨w.heap.size + 1, 0, none⟩ = some (.slice bo U.length dap) := by rw [hW1]; go_simp
  go_enter Try.func6, Try.ntmps6
  go_upto_region 1 with fail
  rw [← hW1]
  clear hW1
  go_wp2_with fail
  refine (sidesOfBoth_any T U _ _ W1 (HT.out.below hB1) (HU.out.below hB1)).mono ?_
  rintro e w2 ⟨rfl, hb2⟩
  have hB2 : Below w.heap.size w w2 := hB1.trans (hb2.mono hB1.size)
  obtain ⟨X, hX⟩ : ∃ X, X = sof T := ⟨_, rfl⟩
  obtain ⟨Y, hY⟩ : ∃ Y, Y = sof U := ⟨_, rfl⟩
  obtain ⟨g, hg⟩ : ∃ g, g = (gb T && gb U) := ⟨_, rfl⟩
  have HX : Hid (g = true → bx T = X ∧ bx U = Y) := fun h => by
    rw [hX, hY]
    rw [hg, Bool.and_eq_true] at h
    unfold sof
    rw [h.1, h.2]
    exact ⟨rfl, rfl⟩
  have HG : Hid ((gb T && gb U) = g) := hg.symm
  rw [← hX, ← hY, ← hg]
  clear hX hY hg q0 q1
  obtain ⟨W3, hW3⟩ : ∃ W, W = (w2.alloc X.obj).alloc Y.obj := ⟨_, rfl⟩
  have hs3 : Hid (W3.heap.size = w2.heap.size + 2) := by show _ = _; rw [hW3]; simp
  have hA6 : Hid (ArrAt W3 w2.heap.size X) := by
    show ArrAt _ _ _
    rw [hW3]
    exact (ArrAt.made w2 X).kept (Below.heap_alloc _ _ _ (by simp)) (by simp)
  have hA7 : Hid (ArrAt W3 (w2.heap.size + 1) Y) := by
    show ArrAt _ _ _
    rw [hW3]
    have h := ArrAt.made (w2.alloc X.obj) Y
    simp only [World.size_alloc] at h
    exact h
  have hB23 : Hid (Below w2.heap.size w2 W3) := by rw [hW3]; exact ((Below.refl _ w2).alloc (Nat.le_refl _) _).alloc (by simp) _
  have hB3 : Below w.heap.size w W3 := hB2.trans (hB23.out.mono hB2.size)
  have hz1 := hs1.out
  have hz2 := hb2.size
  have hz3 := hs3.out
  obtain ⟨⟨x0, x1⟩, ⟨x2, x3⟩, ⟨x4, x5⟩⟩ := X
  obtain ⟨⟨y0, y1⟩, ⟨y2, y3⟩, ⟨y4, y5⟩⟩ := Y
  unfold Bx.val
  dsimp only [Bx.obj] at hW3
  dsimp only
  go_upto_region 2 with fail
  rw [← hW3]
  clear hW3 hb2 hs1 hs3
  cases g with
  | false =>
    clear hA6 hA7 hB23
    go_wp2
    go_ret2
    exact ⟨by unfold cvo; rw [HG.out]; rfl, hB3⟩
  | true =>
    obtain ⟨_, ⟨c0, c1, c2, c3, c4, c5⟩, _⟩ := hA6.out
    obtain ⟨_, ⟨d0, d1, d2, d3, d4, d5⟩, _⟩ := hA7.out
    dsimp only [Nat.zero_add] at c0 c1 c2 c3 c4 c5 d0 d1 d2 d3 d4 d5
    go_wp2_with fail
    refine (covers_any ⟨⟨x0, x1⟩, ⟨x2, x3⟩, ⟨x4, x5⟩⟩ ⟨⟨y0, y1⟩, ⟨y2, y3⟩, ⟨y4, y5⟩⟩ _).mono ?_
    rintro e w4 ⟨rfl, hb4⟩
    have hB4 : Below w.heap.size w w4 := hB3.trans (hb4.mono hB3.size)
    have HR : Hid (cvo T U = cov ⟨⟨x0, x1⟩, ⟨x2, x3⟩, ⟨x4, x5⟩⟩ ⟨⟨y0, y1⟩, ⟨y2, y3⟩, ⟨y4, y5⟩⟩) := by
      have h := HX.out (by trivial)
      show _ = _
      unfold cvo
      rw [HG.out, h.1, h.2]
      rfl
    generalize cov ⟨⟨x0, x1⟩, ⟨x2, x3⟩, ⟨x4, x5⟩⟩ ⟨⟨y0, y1⟩, ⟨y2, y3⟩, ⟨y4, y5⟩⟩ = R at HR
    go_wp2
    go_ret2
    exact ⟨by rw [HR.out, HG.out]; rfl, hB4⟩

end Go.Proofs.Ytnbaeplbnonhkaa
