/- The program's covers. -/
import Derived.Test.YtnbaeplbnonhkaaBxH
import Derived.Deep.RegionHeld3
namespace Go.Proofs.Ytnbaeplbnonhkaa
open Go.RowKit Plain Sch Bxs
attribute [local go_sem ↓] eqlB

set_option maxRecDepth 100000 in
set_option maxHeartbeats 4000000 in
theorem covers_any (x y : Bx) (w : World) :
    Calls Try.prog 34 #[x.val, y.val] w fun e w' => e = .returned (.bool (cov x y)) ∧ Below w.heap.size w w' := by
  obtain ⟨R, hR⟩ : ∃ R, R = cov x y := ⟨_, rfl⟩
  rw [← hR]
  have HR : Hid (R = beq9 (hul x y) x) := hR.trans (cov_hul x y)
  clear hR
  obtain ⟨W1, hW1⟩ : ∃ W, W = (w.alloc x.obj).alloc y.obj := ⟨_, rfl⟩
  have hB1 : Below w.heap.size w W1 := by rw [hW1]; exact ((Below.refl _ w).alloc (Nat.le_refl _) _).alloc (by simp) _
  have hA0 : Hid (ArrAt W1 w.heap.size x) := by
    show ArrAt _ _ _
    rw [hW1]
    exact (ArrAt.made w x).kept (Below.heap_alloc _ _ _ (by simp)) (by simp)
  have hA1 : Hid (ArrAt W1 (w.heap.size + 1) y) := by
    show ArrAt _ _ _
    rw [hW1]
    have h := ArrAt.made (w.alloc x.obj) y
    simp only [World.size_alloc] at h
    exact h
  have hs1 : w.heap.size + 1 < W1.heap.size := hA1.out.1
  have hs0 : w.heap.size < W1.heap.size := hA0.out.1
  have C : Hid (∀ W : World, Calls Try.prog 36 #[x.val, y.val] W fun e w' => e = .returned (hul x y).val ∧ Below W.heap.size W w') := fun W => hullWith_any x y W
  have HX : Hid (∀ w2, Below W1.heap.size W1.drew w2 → ArrIn w2 w.heap.size 0 x) := fun w2 h => hA0.out.2.1.below (w' := w2) ⟨h.os, h.tape, h.output, h.size, h.block⟩ hs0
  have HB : Hid (∀ w2, Below W1.heap.size W1.drew w2 → Below w.heap.size w w2) := fun w2 h => hB1.drew.trans (h.mono hB1.size)
  generalize hul x y = H at HR C
  obtain ⟨⟨h0, h1⟩, ⟨h2, h3⟩, ⟨h4, h5⟩⟩ := H
  obtain ⟨_, ⟨c0, c1, c2, c3, c4, c5⟩, _⟩ := hA0.out
  obtain ⟨_, ⟨d0, d1, d2, d3, d4, d5⟩, _⟩ := hA1.out
  obtain ⟨⟨x0, x1⟩, ⟨x2, x3⟩, ⟨x4, x5⟩⟩ := x
  obtain ⟨⟨y0, y1⟩, ⟨y2, y3⟩, ⟨y4, y5⟩⟩ := y
  unfold Bx.val at *
  dsimp only [Bx.obj, Nat.zero_add] at hW1 c0 c1 c2 c3 c4 c5 d0 d1 d2 d3 d4 d5 C
  clear hA0 hA1
  go_enter Try.func34, Try.ntmps34
  go_upto_region 1 with fail
  rw [← hW1]
  clear hW1
  go_region_with (go_at_call 36; refine (C.out _).mono ?_; rintro e w2 ⟨rfl, hb2⟩; have hB2 : Below w.heap.size w w2 := HB.out _ hb2; have hx2 := HX.out _ hb2; obtain ⟨e0, e1, e2, e3, e4, e5⟩ := hx2; dsimp only [Nat.zero_add] at e0 e1 e2 e3 e4 e5)
  all_goals
    go_wp2
    go_ret
    exact ⟨by rw [HR.out]; rfl, hB2⟩

end Go.Proofs.Ytnbaeplbnonhkaa
