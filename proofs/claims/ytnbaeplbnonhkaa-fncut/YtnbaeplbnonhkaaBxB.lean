/- The program's box, sidesOfBoth. -/
import Derived.Test.YtnbaeplbnonhkaaBxI
import Derived.Test.YtnbaeplbnonhkaaBxE
import Derived.OneCell
import Derived.Laws.MakeOwn
import Derived.RegionTactic
import Derived.BigRegion
namespace Go.Proofs.Ytnbaeplbnonhkaa
open Go.RowKit Plain Sch Bxs

set_option maxRecDepth 100000 in
set_option maxHeartbeats 1000000 in
theorem box_any (x : Bx) (w : World) :
    Calls Try.prog 37 #[x.val] w fun e w' => ∃ v, e = .returned (.agg #[v]) ∧ SRow w' w.heap.size 60 v x.list ∧ Below w.heap.size w w' := by
  have rc := fun (tmps : Array Value) (P : Program) (w : World) => results_cell_oneB (fn := Try.f37) (p := 2) (ty := 25) rfl tmps P w
  have hRow : SRow ((w.alloc x.obj).alloc (.cells #[.slice (some ⟨w.heap.size, 0, none⟩) 3 3] 25)) w.heap.size 60 (.slice (some ⟨w.heap.size, 0, none⟩) 3 3) x.list :=
    ⟨rfl, .inr ⟨w.heap.size, 3, _, rfl, Nat.le_refl _, (Below.heap_alloc _ _ _ (by simp)).trans (heap_alloc_new w _), Nat.le_refl _, by unfold maxLen; omega, rfl, rfl⟩⟩
  have HR : Hid (SRow ((w.alloc x.obj).alloc (.cells #[.slice (some ⟨w.heap.size, 0, none⟩) 3 3] 25)) w.heap.size 60 (.slice (some ⟨w.heap.size, 0, none⟩) 3 3) x.list) := hRow
  clear hRow
  obtain ⟨⟨x0, x1⟩, ⟨x2, x3⟩, ⟨x4, x5⟩⟩ := x
  unfold Bx.val
  dsimp only [Bx.obj] at HR
  go_enter Try.func37, Try.ntmps37
  go_wp2
  (try simp only [Exit.inBlock, Exit.then])
  refine bodyPost_ret (v := .agg #[.slice (some ⟨w.heap.size, 0, none⟩) 3 3]) ?_ rfl ⟨_, rfl, ?_, ?_⟩
  · rw [rc]
    go_simp
  · exact HR.out
  · exact ((Below.refl _ w).alloc (Nat.le_refl _) _).alloc (by simp) _

set_option maxRecDepth 100000 in
set_option maxHeartbeats 4000000 in
theorem sidesOfBoth_any (T U : List Sd) (v u : Value) (w : World) (hT : SdsAt w w.heap.size v T) (hU : SdsAt w w.heap.size u U) :
    Calls Try.prog 33 #[.agg #[v], .agg #[u]] w fun e w' => e = .returned (.tuple #[(sof T).val, (sof U).val, .bool (gb T && gb U)]) ∧ Below w.heap.size w w' := by
  have rc := fun (tmps : Array Value) (P : Program) (w : World) => results_cell_cell_tmpB (fn := Try.f33) (p := 4) (u := 5) (v := 6) (ty := 60) (ty' := 60) rfl tmps P w
  have HT : Hid (SdsAt w w.heap.size v T) := hT
  have HU : Hid (SdsAt w w.heap.size u U) := hU
  obtain ⟨ao, cap, rfl, _⟩ := hT
  obtain ⟨bo, dap, rfl, _⟩ := hU
  obtain ⟨W1, hW1⟩ : ∃ W, W = (((w.alloc (.cells #[.slice ao T.length cap] 25)).alloc (.cells #[.slice bo U.length dap] 25)).alloc zeB.obj).alloc zeB.obj := ⟨_, rfl⟩
  have hB1 : Below w.heap.size w W1 := by rw [hW1]; exact ((((Below.refl _ w).alloc (Nat.le_refl _) _).alloc (by simp) _).alloc (by simp; omega) _).alloc (by simp; omega) _
  have hs1 : Hid (W1.heap.size = w.heap.size + 4) := by show _ = _; rw [hW1]; simp
  have hA4 : Hid (ArrAt W1 (w.heap.size + 2) zeB) := by
    show ArrAt _ _ _
    rw [hW1]
    have h := ArrAt.made ((w.alloc (.cells #[.slice ao T.length cap] 25)).alloc (.cells #[.slice bo U.length dap] 25)) zeB
    simp only [World.size_alloc] at h
    exact h.kept (Below.heap_alloc _ _ _ (by simp)) (by simp)
  have hA5 : Hid (ArrAt W1 (w.heap.size + 3) zeB) := by
    show ArrAt _ _ _
    rw [hW1]
    have h := ArrAt.made (((w.alloc (.cells #[.slice ao T.length cap] 25)).alloc (.cells #[.slice bo U.length dap] 25)).alloc zeB.obj) zeB
    simp only [World.size_alloc] at h
    exact h
  have q0 : W1.cell? ⟨w.heap.size, 0, none⟩ = some (.slice ao T.length cap) := by rw [hW1]; go_simp
  have q1 : W1.cell? ⟨w.heap.size + 1, 0, none⟩ = some (.slice bo U.length dap) := by rw [hW1]; go_simp
  have hl1 : w.heap.size + 3 < W1.heap.size := hA5.out.1
  dsimp only [Bx.obj, zeB] at hW1
  go_enter Try.func33, Try.ntmps33
  go_upto_region 1 with fail
  rw [← hW1]
  clear hW1
  go_wp2_with fail
  refine (sidesOf_any T _ W1 (HT.out.below hB1)).mono ?_
  rintro e w2 ⟨rfl, hb2⟩
  obtain ⟨X, hX⟩ : ∃ X, X = sof T := ⟨_, rfl⟩
  obtain ⟨g1, hg1⟩ : ∃ g, g = gb T := ⟨_, rfl⟩
  have HX : Hid (sof T = X) := hX.symm
  have HG1 : Hid (gb T = g1) := hg1.symm
  rw [← hX, ← hg1]
  clear hX hg1
  obtain ⟨W3, hW3⟩ : ∃ W, W = w2.alloc X.obj := ⟨_, rfl⟩
  have hA7 : Hid (ArrAt W3 w2.heap.size X) := by rw [hW3]; exact ArrAt.made w2 X
  have hB13 : Hid (Below W1.heap.size W1 W3) := by rw [hW3]; exact hb2.alloc hb2.size _
  have hs3 : Hid (W3.heap.size = w2.heap.size + 1) := by show _ = _; rw [hW3]; simp
  have hz2 := hb2.size
  have q13 := (hB13.out.cell (p := ⟨w.heap.size + 1, 0, none⟩) (by show w.heap.size + 1 < _; omega)).trans q1
  have HB3 : Hid (Below w.heap.size w W3) := hB1.trans (hB13.out.mono (by omega))
  obtain ⟨⟨x0, x1⟩, ⟨x2, x3⟩, ⟨x4, x5⟩⟩ := X
  unfold Bx.val
  dsimp only [Bx.obj] at hW3
  dsimp only
  clear q0 q1 hb2
  go_upto_region 2 with fail
  rw [← hW3]
  clear hW3
  go_wp2_with fail
  refine (sidesOf_any U _ W3 (HU.out.below HB3.out)).mono ?_
  rintro e w4 ⟨rfl, hb4⟩
  obtain ⟨Y, hY⟩ : ∃ Y, Y = sof U := ⟨_, rfl⟩
  obtain ⟨g2, hg2⟩ : ∃ g, g = gb U := ⟨_, rfl⟩
  have HY : Hid (sof U = Y) := hY.symm
  have HG2 : Hid (gb U = g2) := hg2.symm
  rw [← hY, ← hg2]
  clear hY hg2
  obtain ⟨W5, hW5⟩ : ∃ W, W = w4.alloc Y.obj := ⟨_, rfl⟩
  have hz3 := hs3.out
  have hz4 := hb4.size
  have hA9 : Hid (ArrAt W5 w4.heap.size Y) := by rw [hW5]; exact ArrAt.made w4 Y
  have hB35 : Hid (Below W3.heap.size W3 W5) := by rw [hW5]; exact hb4.alloc hb4.size _
  have hA75 : Hid (ArrAt W5 w2.heap.size ⟨⟨x0, x1⟩, ⟨x2, x3⟩, ⟨x4, x5⟩⟩) := hA7.out.below hB35.out (by omega)
  have hA45 : Hid (ArrAt W5 (w.heap.size + 2) zeB) := (hA4.out.below hB13.out (by omega)).below hB35.out (by omega)
  have hA55 : Hid (ArrAt W5 (w.heap.size + 3) zeB) := (hA5.out.below hB13.out (by omega)).below hB35.out (by omega)
  have HB5 : Hid (Below w.heap.size w W5) := HB3.out.trans (hB35.out.mono (by have := HB3.out.size; omega))
  have hz5 : w4.heap.size < W5.heap.size := hA9.out.1
  have hne1 : w.heap.size + 2 ≠ w2.heap.size := by omega
  have hne2 : w.heap.size + 3 ≠ w2.heap.size := by omega
  have hne3 : w.heap.size + 2 ≠ w4.heap.size := by omega
  have hne4 : w.heap.size + 3 ≠ w4.heap.size := by omega
  obtain ⟨⟨y0, y1⟩, ⟨y2, y3⟩, ⟨y4, y5⟩⟩ := Y
  unfold Bx.val
  dsimp only [Bx.obj] at hW5
  dsimp only
  clear hb4 hA4 hA5 hA7 hB13 hB35 q13 hs3 hs1
  go_upto_region 3 with fail
  rw [← hW5]
  clear hW5
  obtain ⟨_, ⟨c0, c1, c2, c3, c4, c5⟩, _⟩ := hA75.out
  obtain ⟨_, ⟨d0, d1, d2, d3, d4, d5⟩, _⟩ := hA9.out
  obtain ⟨_, ⟨e0, e1, e2, e3, e4, e5⟩, ef⟩ := hA45.out
  obtain ⟨_, ⟨f0, f1, f2, f3, f4, f5⟩, ff⟩ := hA55.out
  have ef0 := ef 0 (by omega)
  have ef1 := ef 1 (by omega)
  have ef2 := ef 2 (by omega)
  have ef3 := ef 3 (by omega)
  have ef4 := ef 4 (by omega)
  have ef5 := ef 5 (by omega)
  have ff0 := ff 0 (by omega)
  have ff1 := ff 1 (by omega)
  have ff2 := ff 2 (by omega)
  have ff3 := ff 3 (by omega)
  have ff4 := ff 4 (by omega)
  have ff5 := ff 5 (by omega)
  dsimp only [zeB, Nat.zero_add] at c0 c1 c2 c3 c4 c5 d0 d1 d2 d3 d4 d5 e0 e1 e2 e3 e4 e5 f0 f1 f2 f3 f4 f5
  clear ef ff hA75 hA9 hA45 hA55
  cases g1 with
  | false =>
    go_region
    go_wp2
    (try simp only [Exit.inBlock, Exit.then])
    refine bodyPost_ret (v := .tuple #[.agg #[.int .i64 x0, .int .i64 x1, .int .i64 x2, .int .i64 x3, .int .i64 x4, .int .i64 x5], .agg #[.int .i64 y0, .int .i64 y1, .int .i64 y2, .int .i64 y3, .int .i64 y4, .int .i64 y5], .bool false]) ?_ rfl ⟨by rw [HX.out, HY.out, HG1.out]; rfl, ?_⟩
    · rw [rc]
      go_simp
    · exact (below_six (below_six HB5.out (by omega) _ _ _ _ _ _ _ _ _ _ _ _) (by omega) _ _ _ _ _ _ _ _ _ _ _ _).drew
  | true =>
    go_region
    go_wp2
    (try simp only [Exit.inBlock, Exit.then])
    refine bodyPost_ret (v := .tuple #[.agg #[.int .i64 x0, .int .i64 x1, .int .i64 x2, .int .i64 x3, .int .i64 x4, .int .i64 x5], .agg #[.int .i64 y0, .int .i64 y1, .int .i64 y2, .int .i64 y3, .int .i64 y4, .int .i64 y5], .bool g2]) ?_ rfl ⟨by rw [HX.out, HY.out, HG1.out, HG2.out]; rfl, ?_⟩
    · rw [rc]
      go_simp
    · exact (below_six (below_six HB5.out (by omega) _ _ _ _ _ _ _ _ _ _ _ _) (by omega) _ _ _ _ _ _ _ _ _ _ _ _).drew

end Go.Proofs.Ytnbaeplbnonhkaa
