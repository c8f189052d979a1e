/- The drawn queues of the laws: DrawGoodQueue, DrawOffer, DrawHand, DrawWhereIs. -/
import Derived.Test.YtfkhbbmnjndmcaaQoB
namespace Go.Proofs.Ytfkhbbmnjndmcaa
open Go.RowKit Plain Qus

/-- a queue that was drawn -/
def DqE (w w' : World) (P : Value → Prop) : Prop := ∃ (q : Qu) (a1 : Option Addr) (c1 : Nat) (a2 : Option Addr) (c2 : Nat) (a3 : Option Addr) (c3 : Nat), P (.agg #[.int .i64 q.cap, .int .i64 q.rule, .int .i64 q.next, .slice a1 q.wt.length c1, .slice a2 q.hd.length c2, .slice a3 q.dr.length c3]) ∧ QuRow w' w.heap.size q (.slice a1 q.wt.length c1) (.slice a2 q.hd.length c2) (.slice a3 q.dr.length c3) ∧ (q.wt.length ≤ 1000 ∧ q.hd.length ≤ 1000 ∧ q.dr.length ≤ 1000 ∧ 0 ≤ q.next ∧ q.next ≤ 1000) ∧ Below w.heap.size w w'

set_option maxRecDepth 100000 in
set_option maxHeartbeats 8000000 in
theorem drawGood_any (ao : Option Addr) (len cap : Nat) (w : World) (h : CodeAt w ao len) :
    Calls Try.prog 63 #[.slice ao len cap] w fun e w' => DqE w w' (fun v => e = .returned v) := by
  obtain ⟨W0, hW0⟩ : ∃ W, W = w.alloc (.cells #[.int .i64 0, .int .i64 0, .int .i64 0, .slice none 0 0, .slice none 0 0, .slice none 0 0] 24) := ⟨_, rfl⟩
  have hB0 : Below w.heap.size w W0 := by rw [hW0]; exact (Below.refl _ w).alloc (Nat.le_refl _) _
  have hV0 : Sv W0 w.heap.size (.int .i64 0) (.int .i64 0) (.int .i64 0) (.slice none 0 0) (.slice none 0 0) (.slice none 0 0) := by rw [hW0]; exact Sv.fresh w _ _ _ _ _ _ _
  have hs0 : W0.heap.size = w.heap.size + 1 := by rw [hW0]; simp
  have hC := Cur.made (cap := cap) (h.below hB0) 79
  obtain ⟨W1, hW1⟩ : ∃ W, W = W0.alloc (.cells #[.slice ao len cap, .int .i64 0, .int .u64 0] 79) := ⟨_, rfl⟩
  rw [← hW1] at hC
  rw [hs0] at hC
  have hB1 : Below W0.heap.size W0 W1 := by rw [hW1]; exact (Below.refl _ W0).alloc (Nat.le_refl _) _
  have HC : Hid (Cur W1 (w.heap.size + 1) 0) := hC
  have HB1 : Hid (Below w.heap.size w W1) := hB0.trans (hB1.mono hB0.size)
  have HV1 : Hid (type_of% (hV0.below hB1)) := hV0.below hB1
  have HS1 : Hid (W1.heap.size = w.heap.size + 2) := by show _ = _; rw [hW1]; simp [hs0]
  clear hC hB0 hB1 hV0 h hs0
  go_enter Try.func63, Try.ntmps63
  go_upto_region 2 with fail
  rw [← hW0, ← hW1]
  clear hW0 hW1
  go_wp2_with fail
  refine (queue_any (w.heap.size + 1) 0 W1 HC.out (by omega)).mono ?_
  rintro e w2 ⟨q, v1, v2, v3, rfl, hr2, hsm, hc2, hg2⟩
  obtain ⟨a1, c1, a2, c2, a3, c3, rfl, rfl, rfl⟩ := hr2.form
  unfold Qu.val
  have HB2 : Hid (Below w.heap.size w w2) := HB1.out.grown hg2 HB1.out.size (fun k hk => by simp at hk; omega)
  have HV2 : Hid (type_of% (HV1.out.kept (hg2.block _ HV1.out.low (by simp)) hg2.size)) := HV1.out.kept (hg2.block _ HV1.out.low (by simp)) hg2.size
  have HR2 : Hid (type_of% hr2) := hr2
  have HSM : Hid (type_of% hsm) := hsm
  clear hr2 hsm hc2 hg2 HC HV1 HB1
  have z0 := HV2.out.f0
  have z1 := HV2.out.f1
  have z2 := HV2.out.f2
  have z3 := HV2.out.f3
  have z4 := HV2.out.f4
  have z5 := HV2.out.f5
  have u0 := HV2.out.c0
  have u1 := HV2.out.c1
  have u2 := HV2.out.c2
  have u3 := HV2.out.c3
  have u4 := HV2.out.c4
  have u5 := HV2.out.c5
  go_wp2_with fail
  (try simp only [Exit.inBlock, Exit.then])
  refine bodyPost_ret (v := .agg #[.int .i64 q.cap, .int .i64 q.rule, .int .i64 q.next, .slice a1 q.wt.length c1, .slice a2 q.hd.length c2, .slice a3 q.dr.length c3]) ?_ rfl ?_
  · rw [results_cell1 rfl]
    go_simp
  · exact ⟨q, a1, c1, a2, c2, a3, c3, rfl, (HR2.out.set6 (by have := HS1.out; omega)).lower (by have := HS1.out; omega), HSM.out, Below.set6Q HB2.out (Nat.le_refl _)⟩

set_option maxRecDepth 100000 in
set_option maxHeartbeats 8000000 in
theorem drawOffer_any (ao : Option Addr) (len cap : Nat) (w : World) (h : CodeAt w ao len) :
    Calls Try.prog 41 #[.slice ao len cap] w fun e w' => DqE w w' (fun v => e = .returned v) := by
  obtain ⟨W0, hW0⟩ : ∃ W, W = w.alloc (.cells #[.int .i64 0, .int .i64 0, .int .i64 0, .slice none 0 0, .slice none 0 0, .slice none 0 0] 24) := ⟨_, rfl⟩
  have hB0 : Below w.heap.size w W0 := by rw [hW0]; exact (Below.refl _ w).alloc (Nat.le_refl _) _
  have hV0 : Sv W0 w.heap.size (.int .i64 0) (.int .i64 0) (.int .i64 0) (.slice none 0 0) (.slice none 0 0) (.slice none 0 0) := by rw [hW0]; exact Sv.fresh w _ _ _ _ _ _ _
  have hs0 : W0.heap.size = w.heap.size + 1 := by rw [hW0]; simp
  have CG := drawGood_any ao len cap W0 (h.below hB0)
  have HB0 : Hid (type_of% hB0) := hB0
  have HV0 : Hid (type_of% hV0) := hV0
  have HS0 : Hid (type_of% hs0) := hs0
  clear hB0 hV0 hs0 h
  go_enter Try.func41, Try.ntmps41
  go_upto_region 1 with fail
  rw [← hW0]
  clear hW0
  go_wp2_with fail
  go_at_call 63
  refine CG.mono ?_
  rintro e w2 ⟨q, a1, c1, a2, c2, a3, c3, rfl, hr2, hsm, hb2⟩
  have HB2 : Hid (Below w.heap.size w w2) := HB0.out.trans (hb2.mono HB0.out.size)
  have HV2 : Hid (type_of% (HV0.out.below hb2)) := HV0.out.below hb2
  have HR2 : Hid (type_of% hr2) := hr2
  have HSM : Hid (type_of% hsm) := hsm
  clear CG hr2 hsm hb2 HV0 HB0
  have z0 := HV2.out.f0
  have z1 := HV2.out.f1
  have z2 := HV2.out.f2
  have z3 := HV2.out.f3
  have z4 := HV2.out.f4
  have z5 := HV2.out.f5
  have u0 := HV2.out.c0
  have u1 := HV2.out.c1
  have u2 := HV2.out.c2
  have u3 := HV2.out.c3
  have u4 := HV2.out.c4
  have u5 := HV2.out.c5
  go_wp2_with fail
  (try simp only [Exit.inBlock, Exit.then])
  refine bodyPost_ret (v := .agg #[.int .i64 q.cap, .int .i64 q.rule, .int .i64 q.next, .slice a1 q.wt.length c1, .slice a2 q.hd.length c2, .slice a3 q.dr.length c3]) ?_ rfl ?_
  · rw [results_cell1 rfl]
    go_simp
  · exact ⟨q, a1, c1, a2, c2, a3, c3, rfl, (HR2.out.set6 (by have := HS0.out; omega)).lower (by have := HS0.out; omega), HSM.out, Below.set6Q HB2.out (Nat.le_refl _)⟩

set_option maxRecDepth 100000 in
set_option maxHeartbeats 8000000 in
theorem drawHand_any (ao : Option Addr) (len cap : Nat) (w : World) (h : CodeAt w ao len) :
    Calls Try.prog 42 #[.slice ao len cap] w fun e w' => DqE w w' (fun v => e = .returned v) := by
  obtain ⟨W0, hW0⟩ : ∃ W, W = w.alloc (.cells #[.int .i64 0, .int .i64 0, .int .i64 0, .slice none 0 0, .slice none 0 0, .slice none 0 0] 24) := ⟨_, rfl⟩
  have hB0 : Below w.heap.size w W0 := by rw [hW0]; exact (Below.refl _ w).alloc (Nat.le_refl _) _
  have hV0 : Sv W0 w.heap.size (.int .i64 0) (.int .i64 0) (.int .i64 0) (.slice none 0 0) (.slice none 0 0) (.slice none 0 0) := by rw [hW0]; exact Sv.fresh w _ _ _ _ _ _ _
  have hs0 : W0.heap.size = w.heap.size + 1 := by rw [hW0]; simp
  have CG := drawGood_any ao len cap W0 (h.below hB0)
  have HB0 : Hid (type_of% hB0) := hB0
  have HV0 : Hid (type_of% hV0) := hV0
  have HS0 : Hid (type_of% hs0) := hs0
  clear hB0 hV0 hs0 h
  go_enter Try.func42, Try.ntmps42
  go_upto_region 1 with fail
  rw [← hW0]
  clear hW0
  go_wp2_with fail
  go_at_call 63
  refine CG.mono ?_
  rintro e w2 ⟨q, a1, c1, a2, c2, a3, c3, rfl, hr2, hsm, hb2⟩
  have HB2 : Hid (Below w.heap.size w w2) := HB0.out.trans (hb2.mono HB0.out.size)
  have HV2 : Hid (type_of% (HV0.out.below hb2)) := HV0.out.below hb2
  have HR2 : Hid (type_of% hr2) := hr2
  have HSM : Hid (type_of% hsm) := hsm
  clear CG hr2 hsm hb2 HV0 HB0
  have z0 := HV2.out.f0
  have z1 := HV2.out.f1
  have z2 := HV2.out.f2
  have z3 := HV2.out.f3
  have z4 := HV2.out.f4
  have z5 := HV2.out.f5
  have u0 := HV2.out.c0
  have u1 := HV2.out.c1
  have u2 := HV2.out.c2
  have u3 := HV2.out.c3
  have u4 := HV2.out.c4
  have u5 := HV2.out.c5
  go_wp2_with fail
  (try simp only [Exit.inBlock, Exit.then])
  refine bodyPost_ret (v := .agg #[.int .i64 q.cap, .int .i64 q.rule, .int .i64 q.next, .slice a1 q.wt.length c1, .slice a2 q.hd.length c2, .slice a3 q.dr.length c3]) ?_ rfl ?_
  · rw [results_cell1 rfl]
    go_simp
  · exact ⟨q, a1, c1, a2, c2, a3, c3, rfl, (HR2.out.set6 (by have := HS0.out; omega)).lower (by have := HS0.out; omega), HSM.out, Below.set6Q HB2.out (Nat.le_refl _)⟩

theorem Sv.cells6 {w : World} {b : Nat} {x0 x1 x2 x3 x4 x5 : Value} (h : Sv w b x0 x1 x2 x3 x4 x5) : w.cell? ⟨b, 0, none⟩ = some x0 ∧ w.cell? ⟨b, 1, none⟩ = some x1 ∧ w.cell? ⟨b, 2, none⟩ = some x2 ∧ w.cell? ⟨b, 3, none⟩ = some x3 ∧ w.cell? ⟨b, 4, none⟩ = some x4 ∧ w.cell? ⟨b, 5, none⟩ = some x5 := ⟨h.c0, h.c1, h.c2, h.c3, h.c4, h.c5⟩

set_option maxRecDepth 100000 in
set_option maxHeartbeats 8000000 in
theorem drawWhere_any (ao : Option Addr) (len cap : Nat) (w : World) (h : CodeAt w ao len) :
    Calls Try.prog 43 #[.slice ao len cap] w fun e w' => ∃ n : Int, DqE w w' (fun v => e = .returned (.tuple #[v, .int .i64 n])) := by
  have rc := fun (tmps : Array Value) (P : Program) (w : World) => results_cell_tmpQ (fn := Try.f43) (p := 2) (u := 3) (ty := 24) rfl tmps P w
  obtain ⟨W0, hW0⟩ : ∃ W, W = w.alloc (.cells #[.int .i64 0, .int .i64 0, .int .i64 0, .slice none 0 0, .slice none 0 0, .slice none 0 0] 24) := ⟨_, rfl⟩
  have hB0 : Below w.heap.size w W0 := by rw [hW0]; exact (Below.refl _ w).alloc (Nat.le_refl _) _
  have hV0 : Sv W0 w.heap.size (.int .i64 0) (.int .i64 0) (.int .i64 0) (.slice none 0 0) (.slice none 0 0) (.slice none 0 0) := by rw [hW0]; exact Sv.fresh w _ _ _ _ _ _ _
  have hs0 : W0.heap.size = w.heap.size + 1 := by rw [hW0]; simp
  have hC := Cur.made (cap := cap) (h.below hB0) 79
  obtain ⟨W1, hW1⟩ : ∃ W, W = W0.alloc (.cells #[.slice ao len cap, .int .i64 0, .int .u64 0] 79) := ⟨_, rfl⟩
  rw [← hW1] at hC
  rw [hs0] at hC
  have hB1 : Below W0.heap.size W0 W1 := by rw [hW1]; exact (Below.refl _ W0).alloc (Nat.le_refl _) _
  have HC : Hid (Cur W1 (w.heap.size + 1) 0) := hC
  have HB1 : Hid (Below w.heap.size w W1) := hB0.trans (hB1.mono hB0.size)
  have HV1 : Hid (type_of% (hV0.below hB1)) := hV0.below hB1
  have HS1 : Hid (W1.heap.size = w.heap.size + 2) := by show _ = _; rw [hW1]; simp [hs0]
  clear hC hB0 hB1 hV0 h hs0
  go_enter Try.func43, Try.ntmps43
  go_upto_region 2 with fail
  rw [← hW0, ← hW1]
  clear hW0 hW1
  go_wp2_with fail
  refine (queue_any (w.heap.size + 1) 0 W1 HC.out (by omega)).mono ?_
  rintro e w2 ⟨q, v1, v2, v3, rfl, hr2, hsm, hc2, hg2⟩
  obtain ⟨a1, c1, a2, c2, a3, c3, rfl, rfl, rfl⟩ := hr2.form
  unfold Qu.val
  have HB2 : Hid (Below w.heap.size w w2) := HB1.out.grown hg2 HB1.out.size (fun k hk => by simp at hk; omega)
  have HV2 : Hid (type_of% (HV1.out.kept (hg2.block _ HV1.out.low (by simp)) hg2.size)) := HV1.out.kept (hg2.block _ HV1.out.low (by simp)) hg2.size
  have HR2 : Hid (type_of% hr2) := hr2
  have HSM : Hid (type_of% hsm) := hsm
  obtain ⟨W3, hW3⟩ : ∃ W, W = w2.alloc (.cells #[.int .i64 q.cap, .int .i64 q.rule, .int .i64 q.next, .slice a1 q.wt.length c1, .slice a2 q.hd.length c2, .slice a3 q.dr.length c3] 24) := ⟨_, rfl⟩
  have hB3 : Below w2.heap.size w2 W3 := by rw [hW3]; exact (Below.refl _ w2).alloc (Nat.le_refl _) _
  have hX3 : Sv W3 w2.heap.size (.int .i64 q.cap) (.int .i64 q.rule) (.int .i64 q.next) (.slice a1 q.wt.length c1) (.slice a2 q.hd.length c2) (.slice a3 q.dr.length c3) := by rw [hW3]; exact Sv.fresh w2 _ _ _ _ _ _ _
  have HB3 : Hid (Below w.heap.size w W3) := HB2.out.trans (hB3.mono HB2.out.size)
  have HV3 : Hid (type_of% (HV2.out.below hB3)) := HV2.out.below hB3
  have HR3 : Hid (type_of% (HR2.out.below hB3)) := HR2.out.below hB3
  have hs2 : w.heap.size + 1 < w2.heap.size := hc2.lt
  have HC3 : Hid (Cur W3 (w.heap.size + 1) (0 + 600)) := hc2.below (hB3.mono (by omega))
  have HX3 : Hid (type_of% hX3) := hX3
  clear hr2 hsm hc2 hg2 HC HV1 HB1 HB2 HV2 HR2 hB3 hX3
  go_upto_region 3 with fail
  rw [← hW3]
  clear hW3
  have hbd : Below W3.heap.size W3 W3.drew := (Below.refl _ W3).drew
  have HX3d : Hid (type_of% (HX3.out.below hbd)) := HX3.out.below hbd
  have HV3d : Hid (type_of% (HV3.out.below hbd)) := HV3.out.below hbd
  have HR3d : Hid (type_of% (HR3.out.below hbd)) := HR3.out.below hbd
  have HC3d : Hid (Cur W3.drew (w.heap.size + 1) 600) := HC3.out.drew
  have HB3d : Hid (Below w.heap.size w W3.drew) := HB3.out.trans (hbd.mono HB3.out.size)
  have hsm := HSM.out
  have s6 := HX3.out.cells6
  have s6d := HX3d.out.cells6
  clear hbd
  have hrem : 0 ≤ q.next.tmod 1000 ∧ q.next.tmod 1000 ≤ 1000 := by
    rw [Int.tmod_eq_emod_of_nonneg hsm.2.2.2.1]
    omega
  have hne6 : w2.heap.size ≠ w.heap.size := by omega
  have z0 := HV3d.out.f0
  have z1 := HV3d.out.f1
  have z2 := HV3d.out.f2
  have z3 := HV3d.out.f3
  have z4 := HV3d.out.f4
  have z5 := HV3d.out.f5
  have u0 := HV3d.out.c0
  have u1 := HV3d.out.c1
  have u2 := HV3d.out.c2
  have u3 := HV3d.out.c3
  have u4 := HV3d.out.c4
  have u5 := HV3d.out.c5
  have ya0 := HX3.out.c0
  have ya1 := HX3.out.c1
  have ya2 := HX3.out.c2
  have ya3 := HX3.out.c3
  have ya4 := HX3.out.c4
  have ya5 := HX3.out.c5
  have yb0 := HX3d.out.c0
  have yb1 := HX3d.out.c1
  have yb2 := HX3d.out.c2
  have yb3 := HX3d.out.c3
  have yb4 := HX3d.out.c4
  have yb5 := HX3d.out.c5
  clear s6 s6d
  go_region_law
    (first
      | (go_simp; go_at_call 61; refine (pick_any (w.heap.size + 1) _ _ _ HC3d.out (by omega)).mono ?_; rintro e w7 ⟨x7, rfl, hx7, hc7, hg7⟩; have HX7 : Hid (type_of% (HX3d.out.kept (hg7.block _ HX3d.out.low (by simp; omega)) hg7.size)) := HX3d.out.kept (hg7.block _ HX3d.out.low (by simp; omega)) hg7.size; have HV7 : Hid (type_of% (HV3d.out.kept (hg7.block _ HV3d.out.low (by simp)) hg7.size)) := HV3d.out.kept (hg7.block _ HV3d.out.low (by simp)) hg7.size; have yd0 := HX7.out.c0; have yd1 := HX7.out.c1; have yd2 := HX7.out.c2; have yd3 := HX7.out.c3; have yd4 := HX7.out.c4; have yd5 := HX7.out.c5; have zz0 := HV7.out.f0; have zz1 := HV7.out.f1; have zz2 := HV7.out.f2; have zz3 := HV7.out.f3; have zz4 := HV7.out.f4; have zz5 := HV7.out.f5; have xx0 := HV7.out.c0; have xx1 := HV7.out.c1; have xx2 := HV7.out.c2; have xx3 := HV7.out.c3; have xx4 := HV7.out.c4; have xx5 := HV7.out.c5))
  all_goals
    have HB7 : Hid (Below w.heap.size w w7) := HB3d.out.grown hg7 HB3d.out.size (fun k hk => by simp at hk; omega)
    have HR7 : Hid (QuRow w7 W1.heap.size q (.slice a1 q.wt.length c1) (.slice a2 q.hd.length c2) (.slice a3 q.dr.length c3)) := by
      have hin := HR3d.out.ownIn
      have hs1 := HS1.out
      have hne : ∀ g, P3 (.slice a1 q.wt.length c1) (.slice a2 q.hd.length c2) (.slice a3 q.dr.length c3) g → (some (w.heap.size + 1) : Option Nat) ≠ some g := fun g hg e => by have := hin g hg; simp at e; omega
      exact ⟨own_asideQ HR3d.out.a hg7 (fun g e => hne g (.inl e)), own_asideQ HR3d.out.b hg7 (fun g e => hne g (.inr (.inl e))), own_asideQ HR3d.out.c hg7 (fun g e => hne g (.inr (.inr e))), HR3d.out.ab, HR3d.out.ac, HR3d.out.bc⟩
    go_wp2_with fail
    (try simp only [Exit.inBlock, Exit.then])
    refine bodyPost_ret (v := .tuple #[.agg #[.int .i64 q.cap, .int .i64 q.rule, .int .i64 q.next, .slice a1 q.wt.length c1, .slice a2 q.hd.length c2, .slice a3 q.dr.length c3], .int .i64 (IntKind.i64.wrap ((x7 : Int) - 1))]) ?_ rfl ?_
    · rw [rc]
      go_simp
    · exact ⟨_, q, a1, c1, a2, c2, a3, c3, rfl, (HR7.out.set6 (by have := HS1.out; omega)).lower (by have := HS1.out; omega), HSM.out, Below.set6Q HB7.out (Nat.le_refl _)⟩

end Go.Proofs.Ytfkhbbmnjndmcaa
