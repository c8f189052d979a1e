/- The program's HullOf. The program's MeetBoxes. The model's l9Meet. The model's MeetBoxes. -/
import Derived.Test.YtnbaeplbnonhkaaBxB
import Derived.Test.YtnbaeplbnonhkaaBxH
import Derived.Test.YtnbaeplbnonhkaaBxU
import Derived.Test.YtnbaeplbnonhkaaBxD
import Derived.Test.YtnbaeplbnonhkaaBxG
import Derived.Test.YtnbaeplbnonhkaaBxX
import Derived.Test.YtnbaeplbnonhkaaBxS
import Derived.Test.YtnbaeplbnonhkaaBxV
namespace Go.Proofs.Ytnbaeplbnonhkaa
open Go.RowKit Plain Sch Bxs

set_option maxRecDepth 100000 in
set_option maxHeartbeats 4000000 in
theorem implHull (T U : List Sd) (v u : Value) (w : World) (hT : SdsAt w w.heap.size v T) (hU : SdsAt w w.heap.size u U) :
    Calls Try.prog 8 #[.agg #[v], .agg #[u]] w fun e w' => (∃ v, e = .returned (.tuple #[.agg #[v], .bool (gb T && gb U)]) ∧ SRow w' w.heap.size 60 v (hlo T U)) ∧ Below w.heap.size w w' := by
  have rc := fun (tmps : Array Value) (P : Program) (w : World) => results_cell_tmpB (fn := Try.f8) (p := 4) (u := 5) (ty := 25) rfl tmps P w
  have HT : Hid (SdsAt w w.heap.size v T) := hT
  have HU : Hid (SdsAt w w.heap.size u U) := hU
  obtain ⟨ao, cap, rfl, _⟩ := hT
  obtain ⟨bo, dap, rfl, _⟩ := hU
  obtain ⟨W1, hW1⟩ : ∃ W, W = ((w.alloc (.cells #[.slice ao T.length cap] 25)).alloc (.cells #[.slice bo U.length dap] 25)).alloc (.cells #[.slice none 0 0] 25) := ⟨_, rfl⟩
  have hB1 : Below w.heap.size w W1 := by rw [hW1]; exact (((Below.refl _ w).alloc (Nat.le_refl _) _).alloc (by simp) _).alloc (by simp; omega) _
  have hs1 : Hid (W1.heap.size = w.heap.size + 3) := by show _ = _; rw [hW1]; simp
  have q0 : W1.cell? ⟨w.heap.size, 0, none⟩ = some (.slice ao T.length cap) := by rw [hW1]; go_simp
  have q1 : W1.cell? ⟨w.heap.size + 1, 0, none⟩ = some (.slice bo U.length dap) := by rw [hW1]; go_simp
  have hO1 : OneB W1 (w.heap.size + 2) := by rw [hW1]; exact ⟨by go_simp, by go_simp⟩
  go_enter Try.func8, Try.ntmps8
  go_upto_region 1 with fail
  rw [← hW1]
  clear hW1
  go_wp2_with fail
  refine (sidesOfBoth_any T U _ _ W1 (HT.out.below hB1) (HU.out.below hB1)).mono ?_
  rintro e w2 ⟨rfl, hb2⟩
  have hB2 : Below w.heap.size w w2 := hB1.trans (hb2.mono hB1.size)
  obtain ⟨X, hX⟩ : ∃ X, X = sof T := ⟨_, rfl⟩
  obtain ⟨Y, hY⟩ : ∃ Y, Y = sof U := ⟨_, rfl⟩
  obtain ⟨g, hg⟩ : ∃ g, g = (gb T && gb U) := ⟨_, rfl⟩
  have HX : Hid (g = true → bx T = X ∧ bx U = Y) := fun h => by
    rw [hX, hY]
    rw [hg, Bool.and_eq_true] at h
    unfold sof
    rw [h.1, h.2]
    exact ⟨rfl, rfl⟩
  have HG : Hid ((gb T && gb U) = g) := hg.symm
  rw [← hX, ← hY, ← hg]
  clear hX hY hg q0 q1
  obtain ⟨W3, hW3⟩ : ∃ W, W = (w2.alloc X.obj).alloc Y.obj := ⟨_, rfl⟩
  have hs3 : Hid (W3.heap.size = w2.heap.size + 2) := by show _ = _; rw [hW3]; simp
  have hA6 : Hid (ArrAt W3 w2.heap.size X) := by
    show ArrAt _ _ _
    rw [hW3]
    exact (ArrAt.made w2 X).kept (Below.heap_alloc _ _ _ (by simp)) (by simp)
  have hA7 : Hid (ArrAt W3 (w2.heap.size + 1) Y) := by
    show ArrAt _ _ _
    rw [hW3]
    have h := ArrAt.made (w2.alloc X.obj) Y
    simp only [World.size_alloc] at h
    exact h
  have hB23 : Hid (Below w2.heap.size w2 W3) := by rw [hW3]; exact ((Below.refl _ w2).alloc (Nat.le_refl _) _).alloc (by simp) _
  have hB3 : Below w.heap.size w W3 := hB2.trans (hB23.out.mono hB2.size)
  have hz1 := hs1.out
  have hz2 := hb2.size
  have hz3 := hs3.out
  have hO3 : OneB W3 (w.heap.size + 2) := (hO1.kept (hb2.block _ (by omega))).kept (hB23.out.block _ (by omega))
  obtain ⟨o0, of0⟩ := hO3
  obtain ⟨⟨x0, x1⟩, ⟨x2, x3⟩, ⟨x4, x5⟩⟩ := X
  obtain ⟨⟨y0, y1⟩, ⟨y2, y3⟩, ⟨y4, y5⟩⟩ := Y
  unfold Bx.val
  dsimp only [Bx.obj] at hW3
  dsimp only
  go_upto_region 2 with fail
  rw [← hW3]
  clear hW3 hb2 hs1 hs3
  cases g with
  | false =>
    have HNO : Hid (hlo T U = [] ∧ (gb T && gb U) = false) := ⟨by unfold hlo; rw [HG.out]; rfl, HG.out⟩
    clear hA6 hA7 hB23
    go_wp2
    (try simp only [Exit.inBlock, Exit.then])
    refine bodyPost_ret (v := .tuple #[.agg #[.slice none 0 0], .bool false]) ?_ rfl ⟨⟨_, by rw [HNO.out.2], by rw [HNO.out.1]; exact srow_nil _ _ _⟩, ?_⟩
    · rw [rc]
      go_simp
    · exact hB3.setCell (p := ⟨w.heap.size + 2, 0, none⟩) (Nat.le_add_right _ _) _
  | true =>
    obtain ⟨_, ⟨c0, c1, c2, c3, c4, c5⟩, _⟩ := hA6.out
    obtain ⟨_, ⟨d0, d1, d2, d3, d4, d5⟩, _⟩ := hA7.out
    dsimp only [Nat.zero_add] at c0 c1 c2 c3 c4 c5 d0 d1 d2 d3 d4 d5
    have HNO : Hid (hlo T U = (hul ⟨⟨x0, x1⟩, ⟨x2, x3⟩, ⟨x4, x5⟩⟩ ⟨⟨y0, y1⟩, ⟨y2, y3⟩, ⟨y4, y5⟩⟩).list ∧ (gb T && gb U) = true) := by
      have h := HX.out (by trivial)
      refine ⟨?_, HG.out⟩
      unfold hlo
      rw [HG.out, h.1, h.2]
      rfl
    go_wp2_with fail
    refine (hullWith_any ⟨⟨x0, x1⟩, ⟨x2, x3⟩, ⟨x4, x5⟩⟩ ⟨⟨y0, y1⟩, ⟨y2, y3⟩, ⟨y4, y5⟩⟩ _).mono ?_
    rintro e w4 ⟨rfl, hb4⟩
    have hB4 : Below w.heap.size w w4 := hB3.trans (hb4.mono hB3.size)
    have hz4 := hb4.size
    have o0 := (hb4.cell (p := ⟨w.heap.size + 2, 0, none⟩) (by show w.heap.size + 2 < _; omega)).trans o0
    have of0 := (hb4.frozen (p := ⟨w.heap.size + 2, 0, none⟩) (by show w.heap.size + 2 < _; omega)).trans of0
    generalize hul ⟨⟨x0, x1⟩, ⟨x2, x3⟩, ⟨x4, x5⟩⟩ ⟨⟨y0, y1⟩, ⟨y2, y3⟩, ⟨y4, y5⟩⟩ = H at HNO
    obtain ⟨⟨h0, h1⟩, ⟨h2, h3⟩, ⟨h4, h5⟩⟩ := H
    unfold Bx.val
    dsimp only
    clear hb4 c0 c1 c2 c3 c4 c5 d0 d1 d2 d3 d4 d5
    go_wp2_with fail
    refine (box_any ⟨⟨h0, h1⟩, ⟨h2, h3⟩, ⟨h4, h5⟩⟩ _).mono ?_
    rintro e w5 ⟨v5, rfl, hr5, hb5⟩
    have hB5 : Below w.heap.size w w5 := hB4.trans (hb5.mono hB4.size)
    have o0 := (hb5.cell (p := ⟨w.heap.size + 2, 0, none⟩) (by show w.heap.size + 2 < _; omega)).trans o0
    have of0 := (hb5.frozen (p := ⟨w.heap.size + 2, 0, none⟩) (by show w.heap.size + 2 < _; omega)).trans of0
    obtain ⟨av, cv, hv0⟩ := hr5.slice
    have hv : v5 = .slice av 3 cv := hv0
    clear hv0
    subst hv
    have HR5 : Hid (SRow w5 w4.heap.size 60 (.slice av 3 cv) (Bx.list ⟨⟨h0, h1⟩, ⟨h2, h3⟩, ⟨h4, h5⟩⟩)) := hr5
    have hz5 := hb5.size
    clear hr5 hb5
    go_wp2
    (try simp only [Exit.inBlock, Exit.then])
    refine bodyPost_ret (v := .tuple #[.agg #[.slice av 3 cv], .bool true]) ?_ rfl ⟨⟨_, by rw [HNO.out.2], by rw [HNO.out.1]; exact SRow.setCell HR5.out (a := ⟨w.heap.size + 2, 0, none⟩) (by show w.heap.size + 2 < _; omega) _ (by omega)⟩, ?_⟩
    · rw [rc]
      go_simp
    · exact hB5.setCell (p := ⟨w.heap.size + 2, 0, none⟩) (Nat.le_add_right _ _) _

end Go.Proofs.Ytnbaeplbnonhkaa

namespace Go.Proofs.Ytnbaeplbnonhkaa
open Go.RowKit Plain Sch Bxs

set_option maxRecDepth 100000 in
set_option maxHeartbeats 4000000 in
theorem implMeet9 (T U : List Sd) (v u : Value) (w : World) (hT : SdsAt w w.heap.size v T) (hU : SdsAt w w.heap.size u U) :
    Calls Try.prog 10 #[.agg #[v], .agg #[u]] w fun e w' => (∃ v, e = .returned (.tuple #[.agg #[v], .bool (mok T U)]) ∧ SRow w' w.heap.size 60 v (mlo T U)) ∧ Below w.heap.size w w' := by
  have rc := fun (tmps : Array Value) (P : Program) (w : World) => results_cell_tmpB (fn := Try.f10) (p := 4) (u := 5) (ty := 25) rfl tmps P w
  have HT : Hid (SdsAt w w.heap.size v T) := hT
  have HU : Hid (SdsAt w w.heap.size u U) := hU
  obtain ⟨ao, cap, rfl, _⟩ := hT
  obtain ⟨bo, dap, rfl, _⟩ := hU
  obtain ⟨W1, hW1⟩ : ∃ W, W = ((w.alloc (.cells #[.slice ao T.length cap] 25)).alloc (.cells #[.slice bo U.length dap] 25)).alloc (.cells #[.slice none 0 0] 25) := ⟨_, rfl⟩
  have hB1 : Below w.heap.size w W1 := by rw [hW1]; exact (((Below.refl _ w).alloc (Nat.le_refl _) _).alloc (by simp) _).alloc (by simp; omega) _
  have hs1 : Hid (W1.heap.size = w.heap.size + 3) := by show _ = _; rw [hW1]; simp
  have q0 : W1.cell? ⟨w.heap.size, 0, none⟩ = some (.slice ao T.length cap) := by rw [hW1]; go_simp
  have q1 : W1.cell? ⟨w.heap.size + 1, 0, none⟩ = some (.slice bo U.length dap) := by rw [hW1]; go_simp
  have hO1 : OneB W1 (w.heap.size + 2) := by rw [hW1]; exact ⟨by go_simp, by go_simp⟩
  go_enter Try.func10, Try.ntmps10
  go_upto_region 1 with fail
  rw [← hW1]
  clear hW1
  go_wp2_with fail
  refine (sidesOfBoth_any T U _ _ W1 (HT.out.below hB1) (HU.out.below hB1)).mono ?_
  rintro e w2 ⟨rfl, hb2⟩
  have hB2 : Below w.heap.size w w2 := hB1.trans (hb2.mono hB1.size)
  obtain ⟨X, hX⟩ : ∃ X, X = sof T := ⟨_, rfl⟩
  obtain ⟨Y, hY⟩ : ∃ Y, Y = sof U := ⟨_, rfl⟩
  obtain ⟨g, hg⟩ : ∃ g, g = (gb T && gb U) := ⟨_, rfl⟩
  have HX : Hid (g = true → bx T = X ∧ bx U = Y) := fun h => by
    rw [hX, hY]
    rw [hg, Bool.and_eq_true] at h
    unfold sof
    rw [h.1, h.2]
    exact ⟨rfl, rfl⟩
  have HG : Hid ((gb T && gb U) = g) := hg.symm
  rw [← hX, ← hY, ← hg]
  clear hX hY hg q0 q1
  obtain ⟨W3, hW3⟩ : ∃ W, W = (w2.alloc X.obj).alloc Y.obj := ⟨_, rfl⟩
  have hs3 : Hid (W3.heap.size = w2.heap.size + 2) := by show _ = _; rw [hW3]; simp
  have hA6 : Hid (ArrAt W3 w2.heap.size X) := by
    show ArrAt _ _ _
    rw [hW3]
    exact (ArrAt.made w2 X).kept (Below.heap_alloc _ _ _ (by simp)) (by simp)
  have hA7 : Hid (ArrAt W3 (w2.heap.size + 1) Y) := by
    show ArrAt _ _ _
    rw [hW3]
    have h := ArrAt.made (w2.alloc X.obj) Y
    simp only [World.size_alloc] at h
    exact h
  have hB23 : Hid (Below w2.heap.size w2 W3) := by rw [hW3]; exact ((Below.refl _ w2).alloc (Nat.le_refl _) _).alloc (by simp) _
  have hB3 : Below w.heap.size w W3 := hB2.trans (hB23.out.mono hB2.size)
  have hz1 := hs1.out
  have hz2 := hb2.size
  have hz3 := hs3.out
  have hO3 : OneB W3 (w.heap.size + 2) := (hO1.kept (hb2.block _ (by omega))).kept (hB23.out.block _ (by omega))
  obtain ⟨o0, of0⟩ := hO3
  obtain ⟨⟨x0, x1⟩, ⟨x2, x3⟩, ⟨x4, x5⟩⟩ := X
  obtain ⟨⟨y0, y1⟩, ⟨y2, y3⟩, ⟨y4, y5⟩⟩ := Y
  unfold Bx.val
  dsimp only [Bx.obj] at hW3
  dsimp only
  go_upto_region 2 with fail
  rw [← hW3]
  clear hW3 hb2 hs1 hs3
  cases g with
  | false =>
    have HNO : Hid (mlo T U = [] ∧ mok T U = false) := by
      have h : mok T U = false := by unfold mok; rw [HG.out]; rfl
      exact ⟨by unfold mlo; rw [h]; rfl, h⟩
    clear hA6 hA7 hB23
    go_wp2
    (try simp only [Exit.inBlock, Exit.then])
    refine bodyPost_ret (v := .tuple #[.agg #[.slice none 0 0], .bool false]) ?_ rfl ⟨⟨_, by rw [HNO.out.2], by rw [HNO.out.1]; exact srow_nil _ _ _⟩, ?_⟩
    · rw [rc]
      go_simp
    · exact hB3.setCell (p := ⟨w.heap.size + 2, 0, none⟩) (Nat.le_add_right _ _) _
  | true =>
    obtain ⟨_, ⟨c0, c1, c2, c3, c4, c5⟩, _⟩ := hA6.out
    obtain ⟨_, ⟨d0, d1, d2, d3, d4, d5⟩, _⟩ := hA7.out
    dsimp only [Nat.zero_add] at c0 c1 c2 c3 c4 c5 d0 d1 d2 d3 d4 d5
    obtain ⟨ap, hap⟩ : ∃ ap, ap = apart ⟨⟨x0, x1⟩, ⟨x2, x3⟩, ⟨x4, x5⟩⟩ ⟨⟨y0, y1⟩, ⟨y2, y3⟩, ⟨y4, y5⟩⟩ := ⟨_, rfl⟩
    have HA : Hid (mok T U = !ap) := by
      have h := HX.out (by trivial)
      show _ = _
      unfold mok
      rw [HG.out, h.1, h.2, hap]
      rfl
    have HL : Hid (ap = false → mlo T U = (mof9 ⟨⟨x0, x1⟩, ⟨x2, x3⟩, ⟨x4, x5⟩⟩ ⟨⟨y0, y1⟩, ⟨y2, y3⟩, ⟨y4, y5⟩⟩).list) := fun h0 => by
      have h := HX.out (by trivial)
      unfold mlo mof9
      rw [HA.out, ← hap, h0, h.1, h.2]
      rfl
    go_wp2_with fail
    refine (meetWith_any ⟨⟨x0, x1⟩, ⟨x2, x3⟩, ⟨x4, x5⟩⟩ ⟨⟨y0, y1⟩, ⟨y2, y3⟩, ⟨y4, y5⟩⟩ _).mono ?_
    rintro e w4 ⟨rfl, hb4⟩
    have hB4 : Below w.heap.size w w4 := hB3.trans (hb4.mono hB3.size)
    have hz4 := hb4.size
    have o0 := (hb4.cell (p := ⟨w.heap.size + 2, 0, none⟩) (by show w.heap.size + 2 < _; omega)).trans o0
    have of0 := (hb4.frozen (p := ⟨w.heap.size + 2, 0, none⟩) (by show w.heap.size + 2 < _; omega)).trans of0
    rw [← hap]
    clear hap
    generalize mof9 ⟨⟨x0, x1⟩, ⟨x2, x3⟩, ⟨x4, x5⟩⟩ ⟨⟨y0, y1⟩, ⟨y2, y3⟩, ⟨y4, y5⟩⟩ = H at HL
    obtain ⟨W5, hW5⟩ : ∃ W, W = w4.alloc H.obj := ⟨_, rfl⟩
    have hA9 : Hid (ArrAt W5 w4.heap.size H) := by rw [hW5]; exact ArrAt.made w4 H
    have hB45 : Hid (Below w4.heap.size w4 W5) := by rw [hW5]; exact (Below.refl _ w4).alloc (Nat.le_refl _) _
    have hB5 : Below w.heap.size w W5 := hB4.trans (hB45.out.mono hB4.size)
    have hz5 : w4.heap.size < W5.heap.size := hA9.out.1
    have o5 := (hB45.out.cell (p := ⟨w.heap.size + 2, 0, none⟩) (by show w.heap.size + 2 < _; omega)).trans o0
    have of5 := (hB45.out.frozen (p := ⟨w.heap.size + 2, 0, none⟩) (by show w.heap.size + 2 < _; omega)).trans of0
    obtain ⟨⟨h0, h1⟩, ⟨h2, h3⟩, ⟨h4, h5⟩⟩ := H
    unfold Bx.val
    dsimp only [Bx.obj] at hW5
    dsimp only
    clear hb4 c0 c1 c2 c3 c4 c5 d0 d1 d2 d3 d4 d5
    go_upto_region 5 with fail
    rw [← hW5]
    clear hW5 o0 of0
    cases ap with
    | true =>
      have HNO : Hid (mlo T U = [] ∧ mok T U = false) := ⟨by unfold mlo; rw [HA.out]; rfl, HA.out⟩
      clear HL
      go_wp2
      (try simp only [Exit.inBlock, Exit.then])
      refine bodyPost_ret (v := .tuple #[.agg #[.slice none 0 0], .bool false]) ?_ rfl ⟨⟨_, by rw [HNO.out.2], by rw [HNO.out.1]; exact srow_nil _ _ _⟩, ?_⟩
      · rw [rc]
        go_simp
      · exact hB5.setCell (p := ⟨w.heap.size + 2, 0, none⟩) (Nat.le_add_right _ _) _
    | false =>
      have HNO : Hid (mlo T U = Bx.list ⟨⟨h0, h1⟩, ⟨h2, h3⟩, ⟨h4, h5⟩⟩ ∧ mok T U = true) := ⟨HL.out (by trivial), HA.out⟩
      obtain ⟨_, ⟨c0, c1, c2, c3, c4, c5⟩, _⟩ := hA9.out
      dsimp only [Nat.zero_add] at c0 c1 c2 c3 c4 c5
      clear HL
      go_wp2_with fail
      refine (box_any ⟨⟨h0, h1⟩, ⟨h2, h3⟩, ⟨h4, h5⟩⟩ _).mono ?_
      rintro e w6 ⟨v6, rfl, hr6, hb6⟩
      have hB6 : Below w.heap.size w w6 := hB5.trans (hb6.mono hB5.size)
      have o0 := (hb6.cell (p := ⟨w.heap.size + 2, 0, none⟩) (by show w.heap.size + 2 < _; omega)).trans o5
      have of0 := (hb6.frozen (p := ⟨w.heap.size + 2, 0, none⟩) (by show w.heap.size + 2 < _; omega)).trans of5
      obtain ⟨av, cv, hv0⟩ := hr6.slice
      have hv : v6 = .slice av 3 cv := hv0
      clear hv0
      subst hv
      have HR6 : Hid (SRow w6 W5.heap.size 60 (.slice av 3 cv) (Bx.list ⟨⟨h0, h1⟩, ⟨h2, h3⟩, ⟨h4, h5⟩⟩)) := hr6
      have hz6 := hb6.size
      clear hr6 hb6 o5 of5 c0 c1 c2 c3 c4 c5
      go_wp2
      (try simp only [Exit.inBlock, Exit.then])
      refine bodyPost_ret (v := .tuple #[.agg #[.slice av 3 cv], .bool true]) ?_ rfl ⟨⟨_, by rw [HNO.out.2], by rw [HNO.out.1]; exact SRow.setCell HR6.out (a := ⟨w.heap.size + 2, 0, none⟩) (by show w.heap.size + 2 < _; omega) _ (by omega)⟩, ?_⟩
      · rw [rc]
        go_simp
      · exact hB6.setCell (p := ⟨w.heap.size + 2, 0, none⟩) (Nat.le_add_right _ _) _

end Go.Proofs.Ytnbaeplbnonhkaa

namespace Go.Proofs.Ytnbaeplbnonhkaa
open Go.RowKit Plain Sch Bxs

theorem apart_at {x y : Bx} {i : Nat} (hi : i < 3) (h : emp (mee1 (sd x.list i) (sd y.list i)) = true) : apart x y = true := by
  unfold apart
  match i, hi with
  | 0, _ => have h' : emp (mee1 x.a y.a) = true := h
            rw [h']; rfl
  | 1, _ => have h' : emp (mee1 x.b y.b) = true := h
            rw [h']; simp
  | 2, _ => have h' : emp (mee1 x.c y.c) = true := h
            rw [h']; simp

theorem apart_none {x y : Bx} (h : ∀ i, i < 3 → emp (mee1 (sd x.list i) (sd y.list i)) = false) : apart x y = false := by
  have h0 : emp (mee1 x.a y.a) = false := h 0 (by omega)
  have h1 : emp (mee1 x.b y.b) = false := h 1 (by omega)
  have h2 : emp (mee1 x.c y.c) = false := h 2 (by omega)
  unfold apart
  rw [h0, h1, h2]
  rfl

/-- what l9Meet tells -/
def meL (x y : Bx) : List Sd := if apart x y then [] else (mee x y).list

set_option maxRecDepth 100000 in
set_option maxHeartbeats 8000000 in
theorem l9Meet_any (x y : Bx) (v u : Value) (w : World) (hT : SdsAt w w.heap.size v x.list) (hU : SdsAt w w.heap.size u y.list) :
    Calls Try.prog 39 #[.agg #[v], .agg #[u]] w fun e w' => (∃ v, e = .returned (.tuple #[.agg #[v], .bool (!apart x y)]) ∧ SRow w' w.heap.size 58 v (meL x y)) ∧ Below w.heap.size w w' := by
  obtain ⟨i0, hi0, hz0, hz1', hz2⟩ := info_parts Try.infoSd
  have rc := fun (tmps : Array Value) (P : Program) (w : World) => results_cell_tmpB (fn := Try.f39) (p := 4) (u := 5) (ty := 25) rfl tmps P w
  obtain ⟨ao, cap, rfl, hlc, hcm, hrow⟩ := hT
  obtain ⟨bo', dap, rfl, hld, hdm, hrow2⟩ := hU
  simp only [len_list] at *
  unfold maxLen at hcm hdm
  have HROW : Hid (∀ i, i < 3 → ∃ g o, ao = some ⟨g, o, none⟩ ∧ g < w.heap.size ∧ SdIn w g (o + i * 2) (sd x.list i)) := hrow
  have HROW2 : Hid (∀ i, i < 3 → ∃ g o, bo' = some ⟨g, o, none⟩ ∧ g < w.heap.size ∧ SdIn w g (o + i * 2) (sd y.list i)) := hrow2
  clear hrow hrow2
  obtain ⟨R, hR⟩ : ∃ R, R = meL x y := ⟨_, rfl⟩
  obtain ⟨G, hG⟩ : ∃ G, G = !apart x y := ⟨_, rfl⟩
  rw [← hR, ← hG]
  have HAp : Hid (apart x y = true → R = [] ∧ G = false) := fun h => by rw [hR, hG, h]; unfold meL; rw [h]; exact ⟨rfl, rfl⟩
  have HNo : Hid (apart x y = false → R = (mee x y).list ∧ G = true) := fun h => by rw [hR, hG, h]; unfold meL; rw [h]; exact ⟨rfl, rfl⟩
  clear hR hG
  obtain ⟨pre, hpre⟩ : ∃ pre : Nat → List Sd, pre = fun i => (List.range i).map fun j => mee1 (sd x.list j) (sd y.list j) := ⟨_, rfl⟩
  have HP0 : Hid (pre 0 = []) := by show _ = _; rw [hpre]; rfl
  have HPL : Hid (∀ i, (pre i).length = i) := fun i => by rw [hpre]; simp
  have HPS : Hid (∀ i, i < 3 → pre (i + 1) = pre i ++ [mee1 (sd x.list i) (sd y.list i)]) := fun i _ => by rw [hpre]; simp [List.range_succ]
  have HP3 : Hid (pre 3 = [mee1 x.a y.a, mee1 x.b y.b, mee1 x.c y.c]) := by show _ = _; rw [hpre]; rfl
  clear hpre
  obtain ⟨W1, hW1⟩ : ∃ W, W = (((w.alloc (.cells #[.slice ao 3 cap] 25)).alloc (.cells #[.slice bo' 3 dap] 25)).alloc (.cells #[.slice none 0 0] 25)).alloc (.cells #[.slice none 0 0] 25) := ⟨_, rfl⟩
  have hB1 : Below w.heap.size w W1 := by rw [hW1]; exact ((((Below.refl _ w).alloc (Nat.le_refl _) _).alloc (by simp) _).alloc (by simp; omega) _).alloc (by simp; omega) _
  have q0 : W1.cell? ⟨w.heap.size, 0, none⟩ = some (.slice ao 3 cap) := by rw [hW1]; go_simp
  have q1 : Hid (W1.cell? ⟨w.heap.size + 1, 0, none⟩ = some (.slice bo' 3 dap)) := by show _ = _; rw [hW1]; go_simp
  have q2 : Hid (W1.cell? ⟨w.heap.size + 2, 0, none⟩ = some (.slice none 0 0)) := by show _ = _; rw [hW1]; go_simp
  have qf2 : Hid (W1.frozen? ⟨w.heap.size + 2, 0, none⟩ = false) := by show _ = _; rw [hW1]; go_simp
  obtain ⟨bo, hbo⟩ : ∃ b, b = w.heap.size + 3 := ⟨_, rfl⟩
  have hV0 : Hid (BVar W1 bo (.slice none 0 0) []) := by
    show BVar _ _ _ _
    rw [hW1, hbo]
    have h := BVar.made (((w.alloc (.cells #[.slice ao 3 cap] 25)).alloc (.cells #[.slice bo' 3 dap] 25)).alloc (.cells #[.slice none 0 0] 25))
    simp only [World.size_alloc] at h
    exact h
  have hb2 : w.heap.size + 2 < bo := by omega
  have hbe : w.heap.size + 1 + 1 + 1 = bo := by omega
  have hs1 : Hid (W1.heap.size = bo + 1) := by show _ = _; rw [hW1, hbo]; simp
  have hz1 : bo < W1.heap.size := by rw [hs1.out]; omega
  have HBO : Hid (bo = w.heap.size + 3) := hbo
  clear hbo
  go_enter Try.func39, Try.ntmps39
  go_upto_region 2 with fail
  rw [← hW1]
  clear hW1 hbe
  go_wp2
  go_loopw [14] (fun vi wr => ∃ (i : Nat) (v : Value), i ≤ 3 ∧ vi = .int .i64 (i : Int) ∧ Hid (∀ j, j < i → emp (mee1 (sd x.list j) (sd y.list j)) = false) ∧ Hid (BVar wr bo v (pre i)) ∧ Hid (Below bo W1 wr))
    (fun vi _ => 3 - (intOf vi).toNat)
  case atStart => exact ⟨0, _, by omega, rfl, fun j hj => by omega, by show BVar _ _ _ _; rw [HP0.out]; exact hV0.out, Below.refl _ _⟩
  case round =>
    obtain ⟨i, v0, hi, rfl, hall, hV, hBw⟩ := hrel
    clear hV0
    obtain ⟨av, cv, hv0⟩ := hV.out.slice
    obtain ⟨L, hL⟩ : ∃ L, L = pre i := ⟨_, rfl⟩
    have HL : Hid (L = pre i) := hL
    rw [← hL] at hV hv0
    have hLl3 : L.length ≤ 3 := by rw [hL, HPL.out i]; exact hi
    clear hL
    subst hv0
    have hB0 : Below w.heap.size w wr := hB1.trans (hBw.out.mono (by omega))
    have hbz : bo < wr.heap.size := hV.out.2.2.2
    by_cases hlt : i < 3
    · have hlt' : (i : Int) < 3 := by omega
      obtain ⟨g, o, rfl, hg, hty⟩ := HROW.out i hlt
      obtain ⟨g2, o2, rfl, hg2, hty2⟩ := HROW2.out i hlt
      have hcx := hty.below hB0 hg
      have hcy := hty2.below hB0 hg2
      obtain ⟨s, hs⟩ : ∃ s, sd x.list i = s := ⟨_, rfl⟩
      obtain ⟨t, ht⟩ : ∃ t, sd y.list i = t := ⟨_, rfl⟩
      have HS : Hid (sd x.list i = s) := hs
      have HO : Hid (sd y.list i = t) := ht
      rw [hs] at hcx
      rw [ht] at hcy
      clear hs ht hty hty2
      obtain ⟨sl, sh⟩ := s
      obtain ⟨ol, oh⟩ := t
      obtain ⟨c0, c1⟩ := hcx
      obtain ⟨d0, d1⟩ := hcy
      dsimp only at c0 c1 d0 d1
      have qr1 : wr.cell? ⟨w.heap.size + 1, 0, none⟩ = some (.slice (some ⟨g2, o2, none⟩) 3 dap) := (hBw.out.cell (p := ⟨w.heap.size + 1, 0, none⟩) (by show w.heap.size + 1 < _; omega)).trans q1.out
      obtain ⟨W4, hW4⟩ : ∃ W, W = (wr.alloc (.cells #[.int .i64 sl, .int .i64 sh] 58)).alloc (.cells #[.int .i64 ol, .int .i64 oh] 58) := ⟨_, rfl⟩
      have hA4 : Below wr.heap.size wr W4 := by rw [hW4]; exact ((Below.refl _ wr).alloc (Nat.le_refl _) _).alloc (by simp) _
      have hs4 : Hid (W4.heap.size = wr.heap.size + 2) := by show _ = _; rw [hW4]; simp
      have hl4 : wr.heap.size < W4.heap.size := by rw [hs4.out]; omega
      have hl4' : wr.heap.size + 1 < W4.heap.size := by rw [hs4.out]; omega
      have z0 : W4.cell? ⟨wr.heap.size, 0, none⟩ = some (.int .i64 sl) := by rw [hW4]; go_simp
      have z1 : W4.cell? ⟨wr.heap.size, 1, none⟩ = some (.int .i64 sh) := by rw [hW4]; go_simp
      have u0 : W4.cell? ⟨wr.heap.size + 1, 0, none⟩ = some (.int .i64 ol) := by rw [hW4]; go_simp
      have u1 : W4.cell? ⟨wr.heap.size + 1, 1, none⟩ = some (.int .i64 oh) := by rw [hW4]; go_simp
      have zf0 : W4.frozen? ⟨wr.heap.size, 0, none⟩ = false := by rw [hW4]; go_simp
      have zf1 : W4.frozen? ⟨wr.heap.size, 1, none⟩ = false := by rw [hW4]; go_simp
      have hwr : w.heap.size + 1 < wr.heap.size := by omega
      have hgr : g < wr.heap.size := by omega
      have hgr2 : g2 < wr.heap.size := by omega
      go_upto_region 6 with fail
      rw [← hW4]
      clear hW4 c0 c1 d0 d1 qr1
      by_cases k1 : sl < ol
      · by_cases k2 : oh < sh
        · have hE : Hid (mee1 ⟨sl, sh⟩ ⟨ol, oh⟩ = ⟨ol, oh⟩) := by
            show _ = _
            unfold mee1
            dsimp only
            rw [if_pos k1, if_pos k2]
          obtain ⟨W5, hW5⟩ : ∃ W, W = ((W4.setCell ⟨wr.heap.size, 0, none⟩ (.int .i64 ol)).setCell ⟨wr.heap.size, 1, none⟩ (.int .i64 oh)) := ⟨_, rfl⟩
          have hA5 : Below wr.heap.size wr W5 := by rw [hW5]; exact (hA4.setCell (p := ⟨wr.heap.size, 0, none⟩) (Nat.le_refl _) _).setCell (p := ⟨wr.heap.size, 1, none⟩) (Nat.le_refl _) _
          have n0 : W5.cell? ⟨wr.heap.size, 0, none⟩ = some (.int .i64 ol) := by rw [hW5]; go_simp
          have n1 : W5.cell? ⟨wr.heap.size, 1, none⟩ = some (.int .i64 oh) := by rw [hW5]; go_simp
          have hz5 : wr.heap.size < W5.heap.size := by rw [hW5]; simpa [World.setCell] using hl4
          go_upto_region 10 with fail
          rw [← hW5]
          clear hW5 z0 z1 u0 u1 zf0 zf1 k1 k2
          have hV5 : Hid (BVar W5 bo (.slice av L.length cv) L) := hV.out.below hA5
          have hB5 : Hid (Below bo W1 W5) := hBw.out.trans (hA5.mono (by omega))
          by_cases hemp : oh < ol
          · have hF : Hid (R = [] ∧ G = false) := HAp.out (by
              have hh : emp (mee1 (sd x.list i) (sd y.list i)) = true := by rw [HS.out, HO.out, hE.out]; show decide (oh < ol) = true; simpa using hemp
              exact apart_at hlt hh)
            have o5 := (hB5.out.cell (p := ⟨w.heap.size + 2, 0, none⟩) (by show w.heap.size + 2 < _; omega)).trans q2.out
            have of5 := (hB5.out.frozen (p := ⟨w.heap.size + 2, 0, none⟩) (by show w.heap.size + 2 < _; omega)).trans qf2.out
            clear hV hV5 hall
            go_wp2
            (try simp only [Exit.inBlock, Exit.then])
            refine bodyPost_ret (v := .tuple #[.agg #[.slice none 0 0], .bool false]) ?_ rfl ⟨⟨_, by rw [hF.out.2], by rw [hF.out.1]; exact srow_nil _ _ _⟩, ?_⟩
            · rw [rc]
              go_simp
            · exact (hB1.trans (hB5.out.mono (by omega))).setCell (p := ⟨w.heap.size + 2, 0, none⟩) (Nat.le_add_right _ _) _
          · have hnx : Hid (∀ j, j < i + 1 → emp (mee1 (sd x.list j) (sd y.list j)) = false) := fun j hj => by
              by_cases e : j = i
              · rw [e, HS.out, HO.out, hE.out]; show decide (oh < ol) = false; simpa using hemp
              · exact hall.out j (by omega)
            clear hall
            have c5 := hV5.out.1
            have hb5z : bo < W5.heap.size := hV5.out.2.2.2
            go_wp2_with (at_builtin; refine wpList_append_lies _ rfl _ _ 23 rfl (bo + 1) 58 i0 (.agg #[.int .i64 0, .int .i64 0]) 2 16 Try.underlying23 hi0 hz0 hz1' hz2 rfl (by decide) _ L.length _ rfl (World.ownsRow.alloc hV5.out.2.2.1 _) ⟨W5.heap.size, 0, none⟩ 1 1 [.int .i64 ol, .int .i64 oh] rfl rfl (World.news_of_block (heap_alloc_new W5 _)) (one2S _ _) (by omega) (by unfold maxLen; omega) (by omega) (by simp; omega) (W5.heap.size + 1) (by simp) ?_)
            intro g9 cap9 w9 hown9 hgrow9 hat9 hlt9
            obtain ⟨c9, f9, l9, hV9, hB9⟩ := hV5.out.next (s := ⟨ol, oh⟩) hown9 hgrow9
            have HV9 : Hid (BVar (w9.setCell ⟨bo, 0, none⟩ (.slice (some ⟨g9, 0, none⟩) (L.length + 1) cap9)) bo (.slice (some ⟨g9, 0, none⟩) (L.length + 1) cap9) (pre i ++ [⟨ol, oh⟩])) := by rw [← HL.out]; exact hV9
            have HB9 : Hid (Below bo W1 (w9.setCell ⟨bo, 0, none⟩ (.slice (some ⟨g9, 0, none⟩) (L.length + 1) cap9))) := hB5.out.trans hB9
            clear hown9 hgrow9 hat9 hlt9 hV9 hB9 hV5 hV hB5 n0 n1 c5
            go_wp2
            go_roundw
            case rel => exact ⟨i + 1, _, by omega, by go_num, hnx, by show BVar _ _ _ _; rw [HPS.out i hlt, HS.out, HO.out, hE.out]; exact HV9.out, HB9⟩
            case measure => simp [intOf]; omega
        · have hE : Hid (mee1 ⟨sl, sh⟩ ⟨ol, oh⟩ = ⟨ol, sh⟩) := by
            show _ = _
            unfold mee1
            dsimp only
            rw [if_pos k1, if_neg k2]
          obtain ⟨W5, hW5⟩ : ∃ W, W = (W4.setCell ⟨wr.heap.size, 0, none⟩ (.int .i64 ol)) := ⟨_, rfl⟩
          have hA5 : Below wr.heap.size wr W5 := by rw [hW5]; exact hA4.setCell (p := ⟨wr.heap.size, 0, none⟩) (Nat.le_refl _) _
          have n0 : W5.cell? ⟨wr.heap.size, 0, none⟩ = some (.int .i64 ol) := by rw [hW5]; go_simp
          have n1 : W5.cell? ⟨wr.heap.size, 1, none⟩ = some (.int .i64 sh) := by rw [hW5]; go_simp
          have hz5 : wr.heap.size < W5.heap.size := by rw [hW5]; simpa [World.setCell] using hl4
          go_upto_region 10 with fail
          rw [← hW5]
          clear hW5 z0 z1 u0 u1 zf0 zf1 k1 k2
          have hV5 : Hid (BVar W5 bo (.slice av L.length cv) L) := hV.out.below hA5
          have hB5 : Hid (Below bo W1 W5) := hBw.out.trans (hA5.mono (by omega))
          by_cases hemp : sh < ol
          · have hF : Hid (R = [] ∧ G = false) := HAp.out (by
              have hh : emp (mee1 (sd x.list i) (sd y.list i)) = true := by rw [HS.out, HO.out, hE.out]; show decide (sh < ol) = true; simpa using hemp
              exact apart_at hlt hh)
            have o5 := (hB5.out.cell (p := ⟨w.heap.size + 2, 0, none⟩) (by show w.heap.size + 2 < _; omega)).trans q2.out
            have of5 := (hB5.out.frozen (p := ⟨w.heap.size + 2, 0, none⟩) (by show w.heap.size + 2 < _; omega)).trans qf2.out
            clear hV hV5 hall
            go_wp2
            (try simp only [Exit.inBlock, Exit.then])
            refine bodyPost_ret (v := .tuple #[.agg #[.slice none 0 0], .bool false]) ?_ rfl ⟨⟨_, by rw [hF.out.2], by rw [hF.out.1]; exact srow_nil _ _ _⟩, ?_⟩
            · rw [rc]
              go_simp
            · exact (hB1.trans (hB5.out.mono (by omega))).setCell (p := ⟨w.heap.size + 2, 0, none⟩) (Nat.le_add_right _ _) _
          · have hnx : Hid (∀ j, j < i + 1 → emp (mee1 (sd x.list j) (sd y.list j)) = false) := fun j hj => by
              by_cases e : j = i
              · rw [e, HS.out, HO.out, hE.out]; show decide (sh < ol) = false; simpa using hemp
              · exact hall.out j (by omega)
            clear hall
            have c5 := hV5.out.1
            have hb5z : bo < W5.heap.size := hV5.out.2.2.2
            go_wp2_with (at_builtin; refine wpList_append_lies _ rfl _ _ 23 rfl (bo + 1) 58 i0 (.agg #[.int .i64 0, .int .i64 0]) 2 16 Try.underlying23 hi0 hz0 hz1' hz2 rfl (by decide) _ L.length _ rfl (World.ownsRow.alloc hV5.out.2.2.1 _) ⟨W5.heap.size, 0, none⟩ 1 1 [.int .i64 ol, .int .i64 sh] rfl rfl (World.news_of_block (heap_alloc_new W5 _)) (one2S _ _) (by omega) (by unfold maxLen; omega) (by omega) (by simp; omega) (W5.heap.size + 1) (by simp) ?_)
            intro g9 cap9 w9 hown9 hgrow9 hat9 hlt9
            obtain ⟨c9, f9, l9, hV9, hB9⟩ := hV5.out.next (s := ⟨ol, sh⟩) hown9 hgrow9
            have HV9 : Hid (BVar (w9.setCell ⟨bo, 0, none⟩ (.slice (some ⟨g9, 0, none⟩) (L.length + 1) cap9)) bo (.slice (some ⟨g9, 0, none⟩) (L.length + 1) cap9) (pre i ++ [⟨ol, sh⟩])) := by rw [← HL.out]; exact hV9
            have HB9 : Hid (Below bo W1 (w9.setCell ⟨bo, 0, none⟩ (.slice (some ⟨g9, 0, none⟩) (L.length + 1) cap9))) := hB5.out.trans hB9
            clear hown9 hgrow9 hat9 hlt9 hV9 hB9 hV5 hV hB5 n0 n1 c5
            go_wp2
            go_roundw
            case rel => exact ⟨i + 1, _, by omega, by go_num, hnx, by show BVar _ _ _ _; rw [HPS.out i hlt, HS.out, HO.out, hE.out]; exact HV9.out, HB9⟩
            case measure => simp [intOf]; omega
      · by_cases k2 : oh < sh
        · have hE : Hid (mee1 ⟨sl, sh⟩ ⟨ol, oh⟩ = ⟨sl, oh⟩) := by
            show _ = _
            unfold mee1
            dsimp only
            rw [if_neg k1, if_pos k2]
          obtain ⟨W5, hW5⟩ : ∃ W, W = (W4.setCell ⟨wr.heap.size, 1, none⟩ (.int .i64 oh)) := ⟨_, rfl⟩
          have hA5 : Below wr.heap.size wr W5 := by rw [hW5]; exact hA4.setCell (p := ⟨wr.heap.size, 1, none⟩) (Nat.le_refl _) _
          have n0 : W5.cell? ⟨wr.heap.size, 0, none⟩ = some (.int .i64 sl) := by rw [hW5]; go_simp
          have n1 : W5.cell? ⟨wr.heap.size, 1, none⟩ = some (.int .i64 oh) := by rw [hW5]; go_simp
          have hz5 : wr.heap.size < W5.heap.size := by rw [hW5]; simpa [World.setCell] using hl4
          go_upto_region 10 with fail
          rw [← hW5]
          clear hW5 z0 z1 u0 u1 zf0 zf1 k1 k2
          have hV5 : Hid (BVar W5 bo (.slice av L.length cv) L) := hV.out.below hA5
          have hB5 : Hid (Below bo W1 W5) := hBw.out.trans (hA5.mono (by omega))
          by_cases hemp : oh < sl
          · have hF : Hid (R = [] ∧ G = false) := HAp.out (by
              have hh : emp (mee1 (sd x.list i) (sd y.list i)) = true := by rw [HS.out, HO.out, hE.out]; show decide (oh < sl) = true; simpa using hemp
              exact apart_at hlt hh)
            have o5 := (hB5.out.cell (p := ⟨w.heap.size + 2, 0, none⟩) (by show w.heap.size + 2 < _; omega)).trans q2.out
            have of5 := (hB5.out.frozen (p := ⟨w.heap.size + 2, 0, none⟩) (by show w.heap.size + 2 < _; omega)).trans qf2.out
            clear hV hV5 hall
            go_wp2
            (try simp only [Exit.inBlock, Exit.then])
            refine bodyPost_ret (v := .tuple #[.agg #[.slice none 0 0], .bool false]) ?_ rfl ⟨⟨_, by rw [hF.out.2], by rw [hF.out.1]; exact srow_nil _ _ _⟩, ?_⟩
            · rw [rc]
              go_simp
            · exact (hB1.trans (hB5.out.mono (by omega))).setCell (p := ⟨w.heap.size + 2, 0, none⟩) (Nat.le_add_right _ _) _
          · have hnx : Hid (∀ j, j < i + 1 → emp (mee1 (sd x.list j) (sd y.list j)) = false) := fun j hj => by
              by_cases e : j = i
              · rw [e, HS.out, HO.out, hE.out]; show decide (oh < sl) = false; simpa using hemp
              · exact hall.out j (by omega)
            clear hall
            have c5 := hV5.out.1
            have hb5z : bo < W5.heap.size := hV5.out.2.2.2
            go_wp2_with (at_builtin; refine wpList_append_lies _ rfl _ _ 23 rfl (bo + 1) 58 i0 (.agg #[.int .i64 0, .int .i64 0]) 2 16 Try.underlying23 hi0 hz0 hz1' hz2 rfl (by decide) _ L.length _ rfl (World.ownsRow.alloc hV5.out.2.2.1 _) ⟨W5.heap.size, 0, none⟩ 1 1 [.int .i64 sl, .int .i64 oh] rfl rfl (World.news_of_block (heap_alloc_new W5 _)) (one2S _ _) (by omega) (by unfold maxLen; omega) (by omega) (by simp; omega) (W5.heap.size + 1) (by simp) ?_)
            intro g9 cap9 w9 hown9 hgrow9 hat9 hlt9
            obtain ⟨c9, f9, l9, hV9, hB9⟩ := hV5.out.next (s := ⟨sl, oh⟩) hown9 hgrow9
            have HV9 : Hid (BVar (w9.setCell ⟨bo, 0, none⟩ (.slice (some ⟨g9, 0, none⟩) (L.length + 1) cap9)) bo (.slice (some ⟨g9, 0, none⟩) (L.length + 1) cap9) (pre i ++ [⟨sl, oh⟩])) := by rw [← HL.out]; exact hV9
            have HB9 : Hid (Below bo W1 (w9.setCell ⟨bo, 0, none⟩ (.slice (some ⟨g9, 0, none⟩) (L.length + 1) cap9))) := hB5.out.trans hB9
            clear hown9 hgrow9 hat9 hlt9 hV9 hB9 hV5 hV hB5 n0 n1 c5
            go_wp2
            go_roundw
            case rel => exact ⟨i + 1, _, by omega, by go_num, hnx, by show BVar _ _ _ _; rw [HPS.out i hlt, HS.out, HO.out, hE.out]; exact HV9.out, HB9⟩
            case measure => simp [intOf]; omega
        · have hE : Hid (mee1 ⟨sl, sh⟩ ⟨ol, oh⟩ = ⟨sl, sh⟩) := by
            show _ = _
            unfold mee1
            dsimp only
            rw [if_neg k1, if_neg k2]
          obtain ⟨W5, hW5⟩ : ∃ W, W = W4 := ⟨_, rfl⟩
          have hA5 : Below wr.heap.size wr W5 := by rw [hW5]; exact hA4
          have n0 : W5.cell? ⟨wr.heap.size, 0, none⟩ = some (.int .i64 sl) := by rw [hW5]; go_simp
          have n1 : W5.cell? ⟨wr.heap.size, 1, none⟩ = some (.int .i64 sh) := by rw [hW5]; go_simp
          have hz5 : wr.heap.size < W5.heap.size := by rw [hW5]; simpa [World.setCell] using hl4
          go_upto_region 10 with fail
          rw [← hW5]
          clear hW5 z0 z1 u0 u1 zf0 zf1 k1 k2
          have hV5 : Hid (BVar W5 bo (.slice av L.length cv) L) := hV.out.below hA5
          have hB5 : Hid (Below bo W1 W5) := hBw.out.trans (hA5.mono (by omega))
          by_cases hemp : sh < sl
          · have hF : Hid (R = [] ∧ G = false) := HAp.out (by
              have hh : emp (mee1 (sd x.list i) (sd y.list i)) = true := by rw [HS.out, HO.out, hE.out]; show decide (sh < sl) = true; simpa using hemp
              exact apart_at hlt hh)
            have o5 := (hB5.out.cell (p := ⟨w.heap.size + 2, 0, none⟩) (by show w.heap.size + 2 < _; omega)).trans q2.out
            have of5 := (hB5.out.frozen (p := ⟨w.heap.size + 2, 0, none⟩) (by show w.heap.size + 2 < _; omega)).trans qf2.out
            clear hV hV5 hall
            go_wp2
            (try simp only [Exit.inBlock, Exit.then])
            refine bodyPost_ret (v := .tuple #[.agg #[.slice none 0 0], .bool false]) ?_ rfl ⟨⟨_, by rw [hF.out.2], by rw [hF.out.1]; exact srow_nil _ _ _⟩, ?_⟩
            · rw [rc]
              go_simp
            · exact (hB1.trans (hB5.out.mono (by omega))).setCell (p := ⟨w.heap.size + 2, 0, none⟩) (Nat.le_add_right _ _) _
          · have hnx : Hid (∀ j, j < i + 1 → emp (mee1 (sd x.list j) (sd y.list j)) = false) := fun j hj => by
              by_cases e : j = i
              · rw [e, HS.out, HO.out, hE.out]; show decide (sh < sl) = false; simpa using hemp
              · exact hall.out j (by omega)
            clear hall
            have c5 := hV5.out.1
            have hb5z : bo < W5.heap.size := hV5.out.2.2.2
            go_wp2_with (at_builtin; refine wpList_append_lies _ rfl _ _ 23 rfl (bo + 1) 58 i0 (.agg #[.int .i64 0, .int .i64 0]) 2 16 Try.underlying23 hi0 hz0 hz1' hz2 rfl (by decide) _ L.length _ rfl (World.ownsRow.alloc hV5.out.2.2.1 _) ⟨W5.heap.size, 0, none⟩ 1 1 [.int .i64 sl, .int .i64 sh] rfl rfl (World.news_of_block (heap_alloc_new W5 _)) (one2S _ _) (by omega) (by unfold maxLen; omega) (by omega) (by simp; omega) (W5.heap.size + 1) (by simp) ?_)
            intro g9 cap9 w9 hown9 hgrow9 hat9 hlt9
            obtain ⟨c9, f9, l9, hV9, hB9⟩ := hV5.out.next (s := ⟨sl, sh⟩) hown9 hgrow9
            have HV9 : Hid (BVar (w9.setCell ⟨bo, 0, none⟩ (.slice (some ⟨g9, 0, none⟩) (L.length + 1) cap9)) bo (.slice (some ⟨g9, 0, none⟩) (L.length + 1) cap9) (pre i ++ [⟨sl, sh⟩])) := by rw [← HL.out]; exact hV9
            have HB9 : Hid (Below bo W1 (w9.setCell ⟨bo, 0, none⟩ (.slice (some ⟨g9, 0, none⟩) (L.length + 1) cap9))) := hB5.out.trans hB9
            clear hown9 hgrow9 hat9 hlt9 hV9 hB9 hV5 hV hB5 n0 n1 c5
            go_wp2
            go_roundw
            case rel => exact ⟨i + 1, _, by omega, by go_num, hnx, by show BVar _ _ _ _; rw [HPS.out i hlt, HS.out, HO.out, hE.out]; exact HV9.out, HB9⟩
            case measure => simp [intOf]; omega
    · have hke : i = 3 := by omega
      subst hke
      have HYES : Hid (R = (mee x y).list ∧ G = true) := HNo.out (apart_none hall.out)
      have c3 := hV.out.1
      have HRW : Hid (SRow wr (bo + 1) 58 (.slice av L.length cv) L) := hV.out.2.2.1
      have hLe : Hid (L = (mee x y).list) := HL.out.trans HP3.out
      have o3 := (hBw.out.cell (p := ⟨w.heap.size + 2, 0, none⟩) (by show w.heap.size + 2 < _; omega)).trans q2.out
      have of3 := (hBw.out.frozen (p := ⟨w.heap.size + 2, 0, none⟩) (by show w.heap.size + 2 < _; omega)).trans qf2.out
      clear hV
      go_wp2
      (try simp only [Exit.inBlock, Exit.then])
      refine bodyPost_ret (v := .tuple #[.agg #[.slice av L.length cv], .bool true]) ?_ rfl ⟨⟨_, by rw [HYES.out.2], by rw [HYES.out.1, ← hLe.out]; exact SRow.setCell HRW.out (a := ⟨w.heap.size + 2, 0, none⟩) (by show w.heap.size + 2 < _; omega) _ (by omega)⟩, ?_⟩
      · rw [rc]
        go_simp
      · exact hB0.setCell (p := ⟨w.heap.size + 2, 0, none⟩) (Nat.le_add_right _ _) _

end Go.Proofs.Ytnbaeplbnonhkaa

namespace Go.Proofs.Ytnbaeplbnonhkaa
open Go.RowKit Plain Sch Bxs

set_option maxRecDepth 100000 in
set_option maxHeartbeats 8000000 in
theorem specMeet9 (T U : List Sd) (v u : Value) (w : World) (hT : SdsAt w w.heap.size v T) (hU : SdsAt w w.heap.size u U) :
    Calls Try.prog 11 #[.agg #[v], .agg #[u]] w fun e w' => (∃ v, e = .returned (.tuple #[.agg #[v], .bool (mok T U)]) ∧ SRow w' w.heap.size 58 v (mlo T U)) ∧ Below w.heap.size w w' := by
  have rc := fun (tmps : Array Value) (P : Program) (w : World) => results_cell_tmpB (fn := Try.f11) (p := 4) (u := 5) (ty := 25) rfl tmps P w
  have HT : Hid (SdsAt w w.heap.size v T) := hT
  have HU : Hid (SdsAt w w.heap.size u U) := hU
  obtain ⟨ao, cap, rfl, hlc, hcm, _⟩ := hT
  obtain ⟨bo', dap, rfl, hld, hdm, _⟩ := hU
  unfold maxLen at hcm hdm
  obtain ⟨W0, hW0⟩ : ∃ W, W = ((w.alloc (.cells #[.slice ao T.length cap] 25)).alloc (.cells #[.slice bo' U.length dap] 25)).alloc (.cells #[.slice none 0 0] 25) := ⟨_, rfl⟩
  have hB0 : Below w.heap.size w W0 := by rw [hW0]; exact (((Below.refl _ w).alloc (Nat.le_refl _) _).alloc (by simp) _).alloc (by simp; omega) _
  have hs0 : Hid (W0.heap.size = w.heap.size + 3) := by show _ = _; rw [hW0]; simp
  have q0 : W0.cell? ⟨w.heap.size, 0, none⟩ = some (.slice ao T.length cap) := by rw [hW0]; go_simp
  have q1 : W0.cell? ⟨w.heap.size + 1, 0, none⟩ = some (.slice bo' U.length dap) := by rw [hW0]; go_simp
  have q2 : W0.cell? ⟨w.heap.size + 2, 0, none⟩ = some (.slice none 0 0) := by rw [hW0]; go_simp
  have qf2 : W0.frozen? ⟨w.heap.size + 2, 0, none⟩ = false := by rw [hW0]; go_simp
  have hz0' := hs0.out
  obtain ⟨R, hR⟩ : ∃ R, R = mlo T U := ⟨_, rfl⟩
  obtain ⟨G, hG⟩ : ∃ G, G = mok T U := ⟨_, rfl⟩
  rw [← hR, ← hG]
  have HR : Hid (R = mlo T U) := hR
  have HG : Hid (G = mok T U) := hG
  clear hR hG hs0
  have HBad : Hid ((gb T && gb U) = false → R = [] ∧ G = false) := fun h => by have h' : mok T U = false := (by unfold mok; rw [h]; rfl); exact ⟨by rw [HR.out]; unfold mlo; rw [h']; rfl, by rw [HG.out, h']⟩
  go_enter Try.func11, Try.ntmps11
  go_upto_region 1 with fail
  rw [← hW0]
  clear hW0
  go_wp2_with fail
  refine (specGoodB T _ _ (HT.out.below hB0)).mono ?_
  rintro e w2 ⟨rfl, hb2⟩
  have hB2 : Below w.heap.size w w2 := hB0.trans (hb2.mono hB0.size)
  have hzz2 := hb2.size
  have q0 := (hb2.cell (p := ⟨w.heap.size, 0, none⟩) (by show w.heap.size < _; omega)).trans q0
  have q1 := (hb2.cell (p := ⟨w.heap.size + 1, 0, none⟩) (by show w.heap.size + 1 < _; omega)).trans q1
  have q2 := (hb2.cell (p := ⟨w.heap.size + 2, 0, none⟩) (by show w.heap.size + 2 < _; omega)).trans q2
  have qf2 := (hb2.frozen (p := ⟨w.heap.size + 2, 0, none⟩) (by show w.heap.size + 2 < _; omega)).trans qf2
  clear hb2
  by_cases h1 : gb T = true
  case neg =>
    have h1' : gb T = false := by simpa using h1
    have hF : Hid (R = [] ∧ G = false) := HBad.out (by rw [h1']; rfl)
    rw [h1']
    clear h1 h1'
    go_wp2
    (try simp only [Exit.inBlock, Exit.then])
    refine bodyPost_ret (v := .tuple #[.agg #[.slice none 0 0], .bool false]) ?_ rfl ⟨⟨_, by rw [hF.out.2], by rw [hF.out.1]; exact srow_nil _ _ _⟩, ?_⟩
    · rw [rc]
      go_simp
    · exact hB2.setCell (p := ⟨w.heap.size + 2, 0, none⟩) (Nat.le_add_right _ _) _
  rw [h1]
  go_wp2_with fail
  refine (specGoodB U _ _ (HU.out.below hB2)).mono ?_
  rintro e w3 ⟨rfl, hb3⟩
  have hB3 : Below w.heap.size w w3 := hB2.trans (hb3.mono hB2.size)
  have hzz3 := hb3.size
  have q0 := (hb3.cell (p := ⟨w.heap.size, 0, none⟩) (by show w.heap.size < _; omega)).trans q0
  have q1 := (hb3.cell (p := ⟨w.heap.size + 1, 0, none⟩) (by show w.heap.size + 1 < _; omega)).trans q1
  have q2 := (hb3.cell (p := ⟨w.heap.size + 2, 0, none⟩) (by show w.heap.size + 2 < _; omega)).trans q2
  have qf2 := (hb3.frozen (p := ⟨w.heap.size + 2, 0, none⟩) (by show w.heap.size + 2 < _; omega)).trans qf2
  clear hb3
  by_cases h2 : gb U = true
  case neg =>
    have h2' : gb U = false := by simpa using h2
    have hF : Hid (R = [] ∧ G = false) := HBad.out (by rw [h2']; simp)
    rw [h2']
    clear h1 h2 h2'
    go_wp2
    (try simp only [Exit.inBlock, Exit.then])
    refine bodyPost_ret (v := .tuple #[.agg #[.slice none 0 0], .bool false]) ?_ rfl ⟨⟨_, by rw [hF.out.2], by rw [hF.out.1]; exact srow_nil _ _ _⟩, ?_⟩
    · rw [rc]
      go_simp
    · exact hB3.setCell (p := ⟨w.heap.size + 2, 0, none⟩) (Nat.le_add_right _ _) _
  have eT := (gb_good h1).1
  have eU := (gb_good h2).1
  rw [h2]
  have HT3 : Hid (SdsAt w3 w3.heap.size (.slice ao T.length cap) (bx T).list) := by rw [← eT]; exact HT.out.below hB3
  have HU3 : Hid (SdsAt w3 w3.heap.size (.slice bo' U.length dap) (bx U).list) := by rw [← eU]; exact HU.out.below hB3
  have HC : Hid (R = meL (bx T) (bx U) ∧ G = !apart (bx T) (bx U)) := by
    have hm : mok T U = !apart (bx T) (bx U) := by unfold mok; rw [h1, h2]; rfl
    refine ⟨?_, by rw [HG.out, hm]⟩
    rw [HR.out]
    unfold mlo meL
    rw [hm]
    cases apart (bx T) (bx U) <;> rfl
  clear h1 h2 eT eU
  go_wp2_with fail
  refine (l9Meet_any (bx T) (bx U) _ _ _ HT3.out HU3.out).mono ?_
  rintro e w4 ⟨⟨v4, rfl, hr4⟩, hb4⟩
  have hB4 : Below w.heap.size w w4 := hB3.trans (hb4.mono hB3.size)
  have hzz4 := hb4.size
  have q2 := (hb4.cell (p := ⟨w.heap.size + 2, 0, none⟩) (by show w.heap.size + 2 < _; omega)).trans q2
  have qf2 := (hb4.frozen (p := ⟨w.heap.size + 2, 0, none⟩) (by show w.heap.size + 2 < _; omega)).trans qf2
  generalize (!apart (bx T) (bx U)) = g4 at HC
  have HR4 : Hid (SRow w4 w3.heap.size 58 v4 (meL (bx T) (bx U))) := hr4
  obtain ⟨av, cv, hv4⟩ := hr4.slice
  generalize (meL (bx T) (bx U)).length = n4 at hv4
  subst hv4
  clear hr4 hb4 q0 q1
  go_wp2
  (try simp only [Exit.inBlock, Exit.then])
  refine bodyPost_ret (v := .tuple #[.agg #[.slice av n4 cv], .bool g4]) ?_ rfl ⟨⟨_, by rw [HC.out.2], by rw [HC.out.1]; exact SRow.setCell HR4.out (a := ⟨w.heap.size + 2, 0, none⟩) (by show w.heap.size + 2 < _; omega) _ (by omega)⟩, ?_⟩
  · rw [rc]
    go_simp
  · exact hB4.setCell (p := ⟨w.heap.size + 2, 0, none⟩) (Nat.le_add_right _ _) _

end Go.Proofs.Ytnbaeplbnonhkaa
