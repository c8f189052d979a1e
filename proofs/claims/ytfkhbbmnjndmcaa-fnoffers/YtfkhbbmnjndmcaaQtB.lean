/- What the laws look at: a number in a list, lists alike, queues alike. -/
import Derived.Test.YtfkhbbmnjndmcaaQuL
namespace Go.Proofs.Ytfkhbbmnjndmcaa
open Go.RowKit Plain Qus

theorem belowQ_drewN {B : Nat} {a w : World} (h : Below B a w) (q : Nat) : Below B a (w.drewN q) := ⟨h.os, h.tape, h.output, h.size, h.block⟩

set_option maxRecDepth 100000 in
set_option maxHeartbeats 2000000 in
theorem hasZ_any (l : List Int) (n : Int) (v : Value) (w : World) (h : ZAt w w.heap.size v l) (hl : l.length ≤ 2097152) :
    Calls Try.prog 40 #[v, .int .i64 n] w fun e w' => e = .returned (.bool (decide (n ∈ l))) ∧ w' = w := by
  obtain ⟨ao, cap, rfl, hlc, hcm, hrow⟩ := h
  have hcm' : cap ≤ 9223372036854775807 := by unfold maxLen at hcm; omega
  have HROW : Hid (∀ i (x : Int), l[i]? = some x → ∃ g o, ao = some ⟨g, o, none⟩ ∧ g < w.heap.size ∧ w.cell? ⟨g, o + i, none⟩ = some (.int .i64 x)) := hrow
  obtain ⟨R, hR⟩ : ∃ R, R = decide (n ∈ l) := ⟨_, rfl⟩
  rw [← hR]
  have HR : Hid (R = decide (n ∈ l)) := hR
  clear hR hrow
  go_enter Try.func40, Try.ntmps40
  go_wp2
  go_loopw [9] (fun vi wr => ∃ k : Nat, k ≤ l.length ∧ vi = .int .i64 (k : Int) ∧ Hid (∀ j x, j < k → l[j]? = some x → x ≠ n) ∧ wr = w)
    (fun vi _ => l.length - (intOf vi).toNat)
  case atStart => exact ⟨0, by omega, rfl, fun j x hj => by omega, rfl⟩
  case round =>
    obtain ⟨k, hk, rfl, hall, rfl⟩ := hrel
    by_cases hlt : k < l.length
    · have hltI : (k : Int) < (l.length : Int) := by omega
      obtain ⟨x, hx⟩ : ∃ x, l[k]? = some x := ⟨_, List.getElem?_eq_getElem hlt⟩
      obtain ⟨g, o, rfl, hg, c⟩ := HROW.out k x hx
      by_cases hxn : x = n
      · have hn : Hid (R = true) := HR.out.trans (by rw [decide_eq_true_eq, ← hxn]; exact List.mem_of_getElem? hx)
        have hxn' : (x == n) = true := by simpa using hxn
        clear hall hxn hx
        go_wp2
        go_ret
        exact ⟨by rw [hn.out]; rfl, rfl⟩
      · have hxn' : (x == n) = false := by simpa using hxn
        have hall2 : Hid (∀ j z, j < k + 1 → l[j]? = some z → z ≠ n) := fun j z hj hz => by
          by_cases hjk : j = k
          · rw [hjk, hx] at hz; cases hz; exact hxn
          · exact hall.out j z (by omega) hz
        clear hall hxn hx
        go_wp2
        go_roundw
        case rel => exact ⟨k + 1, by omega, by go_num, hall2, trivial⟩
        case measure => simp [intOf]; omega
    · have hke : k = l.length := by omega
      have hge : ¬ ((k : Int) < (l.length : Int)) := by omega
      have hn : Hid (R = false) := HR.out.trans (by
        rw [decide_eq_false_iff_not]
        intro hm
        obtain ⟨j, hj, he⟩ := List.getElem_of_mem hm
        exact hall.out j n (by omega) (by rw [List.getElem?_eq_getElem hj, he]) rfl)
      clear hall hke
      go_wp2
      go_ret
      exact ⟨by rw [hn.out]; rfl, rfl⟩

set_option maxRecDepth 100000 in
set_option maxHeartbeats 4000000 in
theorem sameIntsQ (l : List Int) (v1 v2 : Value) (w : World) (h1 : ZAt w w.heap.size v1 l) (h2 : ZAt w w.heap.size v2 l) (hl : l.length ≤ 2097152) :
    Calls Try.prog 38 #[v1, v2] w fun e w' => e = .returned (.bool true) ∧ Below w.heap.size w w' := by
  obtain ⟨ao, cap, rfl, _, _, hrow⟩ := h1
  obtain ⟨ao2, cap2, rfl, _, _, hrow2⟩ := h2
  have hne : ((l.length : Int) != (l.length : Int)) = false := by simp
  have HROW : Hid (∀ i (x : Int), l[i]? = some x → ∃ g o, ao = some ⟨g, o, none⟩ ∧ g < w.heap.size ∧ w.cell? ⟨g, o + i, none⟩ = some (.int .i64 x)) := hrow
  have HROW2 : Hid (∀ i (x : Int), l[i]? = some x → ∃ g o, ao2 = some ⟨g, o, none⟩ ∧ g < w.heap.size ∧ w.cell? ⟨g, o + i, none⟩ = some (.int .i64 x)) := hrow2
  clear hrow hrow2
  go_enter Try.func38, Try.ntmps38
  go_wp2
  go_loopw [13] (fun vi wr => ∃ k : Nat, k ≤ l.length ∧ vi = .int .i64 (k : Int) ∧ Below w.heap.size w wr)
    (fun vi _ => l.length - (intOf vi).toNat)
  case atStart => exact ⟨0, by omega, rfl, Below.refl _ _⟩
  case round =>
    obtain ⟨k, hk, rfl, hbw⟩ := hrel
    by_cases hlt : k < l.length
    · obtain ⟨x, hx⟩ : ∃ x, l[k]? = some x := ⟨_, List.getElem?_eq_getElem hlt⟩
      obtain ⟨g, o, rfl, hgB, hy1⟩ := HROW.out k x hx
      obtain ⟨g2, o2, rfl, hgB2, hy2⟩ := HROW2.out k x hx
      have e1 := (hbw.cell (p := ⟨g, o + k, none⟩) hgB).trans hy1
      have e2 := (hbw.cell (p := ⟨g2, o2 + k, none⟩) hgB2).trans hy2
      clear hy1 hy2 hx
      have hlt' : (k : Int) < (l.length : Int) := by omega
      have hxx : (x != x) = false := by simp
      have HD : Hid (∀ n, Below w.heap.size w (wr.drewN n)) := fun n => belowQ_drewN hbw n
      go_wp2
      go_quiet (fail)
      go_wp2
      go_roundw
      case rel => exact ⟨k + 1, by omega, by go_num, HD.out _⟩
      case measure => simp [intOf]; omega
    · have hke : k = l.length := by omega
      subst hke
      have hge : ¬ ((l.length : Int) < (l.length : Int)) := by omega
      go_wp2
      go_ret
      exact ⟨rfl, hbw⟩

set_option maxRecDepth 100000 in
set_option maxHeartbeats 4000000 in
theorem sameQueues_same (q : Qu) (v1 v2 v3 u1 u2 u3 : Value) (w : World) (h1 : QuAt w w.heap.size q v1 v2 v3) (h2 : QuAt w w.heap.size q u1 u2 u3) (hl : SmlQ q 2097152) :
    Calls Try.prog 39 #[q.val v1 v2 v3, q.val u1 u2 u3] w fun e w' => e = .returned (.bool true) ∧ Below w.heap.size w w' := by
  unfold Qu.val
  obtain ⟨W0, hW0⟩ : ∃ W, W = (w.alloc (.cells #[.int .i64 q.cap, .int .i64 q.rule, .int .i64 q.next, v1, v2, v3] 24)).alloc (.cells #[.int .i64 q.cap, .int .i64 q.rule, .int .i64 q.next, u1, u2, u3] 24) := ⟨_, rfl⟩
  have hB0 : Below w.heap.size w W0 := by rw [hW0]; exact ((Below.refl _ w).alloc (Nat.le_refl _) _).alloc (by simp) _
  have V1 : Sv W0 w.heap.size (.int .i64 q.cap) (.int .i64 q.rule) (.int .i64 q.next) (v1) (v2) (v3) := by rw [hW0]; exact (Sv.fresh w _ _ _ _ _ _ _).below ((Below.refl _ _).alloc (Nat.le_refl _) _)
  have V2 : Sv W0 (w.heap.size + 1) (.int .i64 q.cap) (.int .i64 q.rule) (.int .i64 q.next) (u1) (u2) (u3) := by
    have h := Sv.fresh (w.alloc (.cells #[.int .i64 q.cap, .int .i64 q.rule, .int .i64 q.next, v1, v2, v3] 24)) (.int .i64 q.cap) (.int .i64 q.rule) (.int .i64 q.next) (u1) (u2) (u3) 24
    rw [hW0]
    simpa using h
  have A1 := h1.below hB0
  have A2 := h2.below hB0
  have n0 : (q.cap == q.cap) = true := beq_self_eq_true q.cap
  have n1 : (q.rule == q.rule) = true := beq_self_eq_true q.rule
  have n2 : (q.next == q.next) = true := beq_self_eq_true q.next
  have e0 := V1.c0
  have d0 := V2.c0
  have e1 := V1.c1
  have d1 := V2.c1
  have e2 := V1.c2
  have d2 := V2.c2
  have e3 := V1.c3
  have d3 := V2.c3
  have C1 := sameIntsQ q.wt v1 u1 W0 A1.a A2.a hl.a
  clear h1 h2
  obtain ⟨a1, k1, a2, k2, a3, k3, rfl, rfl, rfl⟩ := A1.form
  obtain ⟨b1, l1, b2, l2, b3, l3, rfl, rfl, rfl⟩ := A2.form
  have HA1 : Hid (type_of% A1) := A1
  have HA2 : Hid (type_of% A2) := A2
  have HV1 : Hid (type_of% V1) := V1
  have HV2 : Hid (type_of% V2) := V2
  clear A1 A2 V1 V2
  go_enter Try.func39, Try.ntmps39
  go_upto_region 1 with fail
  rw [← hW0]
  clear hW0
  go_wp2_with fail
  go_at_call 38
  refine C1.mono ?_
  rintro e w1 ⟨rfl, hb⟩
  have hB1 : Below w.heap.size w w1 := hB0.trans (hb.mono hB0.size)
  have HA1 : Hid (type_of% (HA1.out.below hb)) := HA1.out.below hb
  have HA2 : Hid (type_of% (HA2.out.below hb)) := HA2.out.below hb
  have HV1 : Hid (type_of% (HV1.out.below hb)) := HV1.out.below hb
  have HV2 : Hid (type_of% (HV2.out.below hb)) := HV2.out.below hb
  clear hb C1 e0 d0 e1 d1 e2 d2 e3 d3
  have e4 := HV1.out.c4
  have d4 := HV2.out.c4
  have C1 := sameIntsQ q.hd _ _ w1 HA1.out.b HA2.out.b hl.b
  go_wp2_with fail
  go_at_call 38
  refine C1.mono ?_
  rintro e w2 ⟨rfl, hb⟩
  have hB2 : Below w.heap.size w w2 := hB1.trans (hb.mono hB1.size)
  have HA1 : Hid (type_of% (HA1.out.below hb)) := HA1.out.below hb
  have HA2 : Hid (type_of% (HA2.out.below hb)) := HA2.out.below hb
  have HV1 : Hid (type_of% (HV1.out.below hb)) := HV1.out.below hb
  have HV2 : Hid (type_of% (HV2.out.below hb)) := HV2.out.below hb
  clear hb C1 e4 d4
  have e5 := HV1.out.c5
  have d5 := HV2.out.c5
  have C1 := sameIntsQ q.dr _ _ w2 HA1.out.c HA2.out.c hl.c
  go_wp2_with fail
  go_at_call 38
  refine C1.mono ?_
  rintro e w3 ⟨rfl, hb⟩
  have hB3 : Below w.heap.size w w3 := hB2.trans (hb.mono hB2.size)
  clear hb e5 d5 C1
  go_wp2_with fail
  go_ret
  exact ⟨rfl, hB3⟩

end Go.Proofs.Ytfkhbbmnjndmcaa
