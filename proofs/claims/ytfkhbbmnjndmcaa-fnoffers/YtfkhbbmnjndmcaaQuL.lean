/- The law's own looks at queues: alike, how great. -/
import Derived.Test.YtfkhbbmnjndmcaaQuB
namespace Go.Proofs.Ytfkhbbmnjndmcaa
open Go.RowKit Plain Qus

set_option maxRecDepth 100000 in
set_option maxHeartbeats 4000000 in
theorem eqQueue_same (q : Qu) (v1 v2 v3 u1 u2 u3 : Value) (w : World) (h1 : QuAt w w.heap.size q v1 v2 v3) (h2 : QuAt w w.heap.size q u1 u2 u3) (hl : SmlQ q 2097152) :
    Calls Try.prog 14 #[q.val v1 v2 v3, q.val u1 u2 u3] w fun e w' => e = .returned (.bool true) ∧ Below w.heap.size w w' := by
  unfold Qu.val
  obtain ⟨W0, hW0⟩ : ∃ W, W = (w.alloc (.cells #[.int .i64 q.cap, .int .i64 q.rule, .int .i64 q.next, v1, v2, v3] 24)).alloc (.cells #[.int .i64 q.cap, .int .i64 q.rule, .int .i64 q.next, u1, u2, u3] 24) := ⟨_, rfl⟩
  have hB0 : Below w.heap.size w W0 := by rw [hW0]; exact ((Below.refl _ w).alloc (Nat.le_refl _) _).alloc (by simp) _
  have V1 : Sv W0 w.heap.size (.int .i64 q.cap) (.int .i64 q.rule) (.int .i64 q.next) (v1) (v2) (v3) := by rw [hW0]; exact (Sv.fresh w _ _ _ _ _ _ _).below ((Below.refl _ _).alloc (Nat.le_refl _) _)
  have V2 : Sv W0 (w.heap.size + 1) (.int .i64 q.cap) (.int .i64 q.rule) (.int .i64 q.next) (u1) (u2) (u3) := by
    have h := Sv.fresh (w.alloc (.cells #[.int .i64 q.cap, .int .i64 q.rule, .int .i64 q.next, v1, v2, v3] 24)) (.int .i64 q.cap) (.int .i64 q.rule) (.int .i64 q.next) (u1) (u2) (u3) 24
    rw [hW0]
    simpa using h
  have A1 := h1.below hB0
  have A2 := h2.below hB0
  have n0 : (q.cap != q.cap) = false := bne_self_eq_false q.cap
  have n1 : (q.rule != q.rule) = false := bne_self_eq_false q.rule
  have n2 : (q.next != q.next) = false := bne_self_eq_false q.next
  have e0 := V1.c0
  have d0 := V2.c0
  have e1 := V1.c1
  have d1 := V2.c1
  have e2 := V1.c2
  have d2 := V2.c2
  have e3 := V1.c3
  have d3 := V2.c3
  have C1 := eqZ_same q.wt v1 u1 W0 A1.a A2.a hl.a
  clear h1 h2
  obtain ⟨a1, k1, a2, k2, a3, k3, rfl, rfl, rfl⟩ := A1.form
  obtain ⟨b1, l1, b2, l2, b3, l3, rfl, rfl, rfl⟩ := A2.form
  have HA1 : Hid (type_of% A1) := A1
  have HA2 : Hid (type_of% A2) := A2
  have HV1 : Hid (type_of% V1) := V1
  have HV2 : Hid (type_of% V2) := V2
  clear A1 A2 V1 V2
  go_enter Try.func14, Try.ntmps14
  go_upto_region 1 with fail
  rw [← hW0]
  clear hW0
  go_wp2_with fail
  go_at_call 28
  refine C1.mono ?_
  rintro e w1 ⟨rfl, hb⟩
  have hB1 : Below w.heap.size w w1 := hB0.trans (hb.mono hB0.size)
  have HA1 : Hid (type_of% (HA1.out.below hb)) := HA1.out.below hb
  have HA2 : Hid (type_of% (HA2.out.below hb)) := HA2.out.below hb
  have HV1 : Hid (type_of% (HV1.out.below hb)) := HV1.out.below hb
  have HV2 : Hid (type_of% (HV2.out.below hb)) := HV2.out.below hb
  clear hb C1 e0 d0 e1 d1 e2 d2 e3 d3
  have e4 := HV1.out.c4
  have d4 := HV2.out.c4
  have C1 := eqZ_same q.hd _ _ w1 HA1.out.b HA2.out.b hl.b
  go_wp2_with fail
  go_at_call 28
  refine C1.mono ?_
  rintro e w2 ⟨rfl, hb⟩
  have hB2 : Below w.heap.size w w2 := hB1.trans (hb.mono hB1.size)
  have HA1 : Hid (type_of% (HA1.out.below hb)) := HA1.out.below hb
  have HA2 : Hid (type_of% (HA2.out.below hb)) := HA2.out.below hb
  have HV1 : Hid (type_of% (HV1.out.below hb)) := HV1.out.below hb
  have HV2 : Hid (type_of% (HV2.out.below hb)) := HV2.out.below hb
  clear hb C1 e4 d4
  have e5 := HV1.out.c5
  have d5 := HV2.out.c5
  have C1 := eqZ_same q.dr _ _ w2 HA1.out.c HA2.out.c hl.c
  go_wp2_with fail
  go_at_call 28
  refine C1.mono ?_
  rintro e w3 ⟨rfl, hb⟩
  have hB3 : Below w.heap.size w w3 := hB2.trans (hb.mono hB2.size)
  clear hb e5 d5 C1
  go_wp2_with fail
  go_ret
  exact ⟨rfl, hB3⟩

def SzQ (q : Qu) (r : Int) : Prop := -1 ≤ r ∧ r ≤ 1048576 ∧ (0 ≤ r → SmlQ q 1048576)

set_option maxRecDepth 100000 in
set_option maxHeartbeats 4000000 in
theorem szIntS_left (l : List Int) (v : Value) (L : Int) (w : World) (hT : ZAt w w.heap.size v l) (h0 : 0 ≤ L) (h1 : L ≤ 1048576) :
    Calls Try.prog 47 #[v, .int .i64 L] w fun e w' => (∃ r : Int, e = .returned (.int .i64 r) ∧ -1 ≤ r ∧ r ≤ 1048576 ∧ (0 ≤ r → l.length ≤ 1048576)) ∧ w' = w := by
  obtain ⟨ao, cap, rfl, hlc, hcm, _⟩ := hT
  unfold maxLen at hcm
  have hge : (-9223372036854775808 : Int) ≤ L - (l.length : Int) := by omega
  by_cases hbig : L < (l.length : Int)
  · have hlt : L - (l.length : Int) < 0 := by omega
    go_enter Try.func47, Try.ntmps47
    go_wp2
    go_ret
    exact ⟨⟨-1, rfl, by omega, by omega, fun h => by omega⟩, rfl⟩
  · have hlt : ¬ (L - (l.length : Int) < 0) := by omega
    go_enter Try.func47, Try.ntmps47
    go_wp2
    go_ret
    exact ⟨⟨_, rfl, by omega, by omega, fun h => by omega⟩, rfl⟩

set_option maxRecDepth 100000 in
set_option maxHeartbeats 4000000 in
theorem szQueue_left (q : Qu) (v1 v2 v3 : Value) (w : World) (h1 : QuAt w w.heap.size q v1 v2 v3) :
    Calls Try.prog 17 #[q.val v1 v2 v3, .int .i64 1048576] w fun e w' => (∃ r : Int, e = .returned (.int .i64 r) ∧ SzQ q r) ∧ Below w.heap.size w w' := by
  unfold Qu.val
  obtain ⟨W0, hW0⟩ : ∃ W, W = w.alloc (.cells #[.int .i64 q.cap, .int .i64 q.rule, .int .i64 q.next, v1, v2, v3] 30) := ⟨_, rfl⟩
  have hB0 : Below w.heap.size w W0 := by rw [hW0]; exact (Below.refl _ w).alloc (Nat.le_refl _) _
  have V1 : Sv W0 w.heap.size (.int .i64 q.cap) (.int .i64 q.rule) (.int .i64 q.next) (v1) (v2) (v3) := by rw [hW0]; exact Sv.fresh w _ _ _ _ _ _ _
  have A1 := h1.below hB0
  have e3 := V1.c3
  have e4 := V1.c4
  have e5 := V1.c5
  have C1 := szIntS_left q.wt v1 1048576 W0 A1.a (by omega) (by omega)
  clear h1
  have HA1 : Hid (type_of% A1) := A1
  have hno : ∀ r : Int, r < 0 → SzQ q (-1) := fun r h => ⟨by omega, by omega, fun h => by omega⟩
  have HNO : Hid (type_of% hno) := hno
  obtain ⟨a1, k1, a2, k2, a3, k3, rfl, rfl, rfl⟩ := A1.form
  clear A1 V1 hno
  go_enter Try.func17, Try.ntmps17
  go_upto_region 1 with fail
  rw [← hW0]
  clear hW0
  go_wp2_with fail
  go_at_call 47
  refine C1.mono ?_
  rintro e w1 ⟨⟨r1, rfl, l1, k1', p1⟩, hw⟩
  have hw := hw.symm
  subst hw
  have P1 : Hid (type_of% p1) := p1
  clear p1 C1
  by_cases g1 : r1 < 0
  · have HZ := HNO.out _ g1
    go_wp2_with fail
    go_ret
    exact ⟨⟨_, rfl, HZ⟩, hB0⟩
  have C1 := szIntS_left q.hd _ r1 _ HA1.out.b (by omega) k1'
  go_wp2_with fail
  go_at_call 47
  refine C1.mono ?_
  rintro e w1 ⟨⟨r2, rfl, l2, k2', p2⟩, hw⟩
  have hw := hw.symm
  subst hw
  have P2 : Hid (type_of% p2) := p2
  clear p2 C1
  by_cases g2 : r2 < 0
  · have HZ := HNO.out _ g2
    go_wp2_with fail
    go_ret
    exact ⟨⟨_, rfl, HZ⟩, hB0⟩
  have C1 := szIntS_left q.dr _ r2 _ HA1.out.c (by omega) k2'
  go_wp2_with fail
  go_at_call 47
  refine C1.mono ?_
  rintro e w1 ⟨⟨r3, rfl, l3, k3', p3⟩, hw⟩
  have hw := hw.symm
  subst hw
  have P3 : Hid (type_of% p3) := p3
  clear p3 C1
  by_cases g3 : r3 < 0
  · have HZ := HNO.out _ g3
    go_wp2_with fail
    go_ret
    exact ⟨⟨_, rfl, HZ⟩, hB0⟩
  have HZ : SzQ q r3 := ⟨l3, k3', fun h => ⟨P1.out (by omega), P2.out (by omega), P3.out h⟩⟩
  have HZH : Hid (type_of% HZ) := HZ
  clear HZ
  go_wp2_with fail
  go_ret
  exact ⟨⟨_, rfl, HZH.out⟩, hB0⟩

end Go.Proofs.Ytfkhbbmnjndmcaa
