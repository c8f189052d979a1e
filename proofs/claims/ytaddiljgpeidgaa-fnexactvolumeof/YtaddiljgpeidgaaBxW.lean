/- The law's own looks at boxes: how great they are, whether two are alike. -/
import Derived.Test.YtaddiljgpeidgaaBxM
import Derived.Deep.RegionWith
namespace Go.Proofs.Ytaddiljgpeidgaa
open Go.RowKit Plain Sch Bxs

set_option maxRecDepth 100000 in
set_option maxHeartbeats 1000000 in
theorem szSideS_left (T : List Sd) (v : Value) (L : Int) (w : World) (hT : SdsAt w w.heap.size v T) (hL0 : 0 ≤ L) (hL1 : L ≤ 1048576) :
    Calls Try.prog 55 #[v, .int .i64 L] w fun e w' => e = .returned (.int .i64 (if L < (T.length : Int) then -1 else L - (T.length : Int))) ∧ Below w.heap.size w w' := by
  obtain ⟨ao, cap, rfl, hlc, hcm, _⟩ := hT
  unfold maxLen at hcm
  by_cases hbig : L < (T.length : Int)
  · have hlt : L - (T.length : Int) < 0 := by omega
    have hge : (-9223372036854775808 : Int) ≤ L - (T.length : Int) := by omega
    rw [if_pos hbig]
    go_enter Try.func55, Try.ntmps55
    go_wp2
    go_ret
    exact ⟨rfl, Below.refl _ _⟩
  · have hge : ¬ (L - (T.length : Int) < 0) := by omega
    rw [if_neg hbig]
    go_enter Try.func55, Try.ntmps55
    go_wp2
    go_ret
    exact ⟨rfl, Below.refl _ _⟩

set_option maxRecDepth 100000 in
set_option maxHeartbeats 1000000 in
theorem szBox_left (T : List Sd) (v : Value) (L : Int) (w : World) (hT : SdsAt w w.heap.size v T) (hL0 : 0 ≤ L) (hL1 : L ≤ 1048576) :
    Calls Try.prog 14 #[.agg #[v], .int .i64 L] w fun e w' => e = .returned (.int .i64 (if L < (T.length : Int) then -1 else L - (T.length : Int))) ∧ Below w.heap.size w w' := by
  have hB1 : ∀ o, Below w.heap.size w (w.alloc o) := fun o => (Below.refl _ w).alloc (Nat.le_refl _) o
  have HT : Hid (SdsAt w w.heap.size v T) := hT
  obtain ⟨ao, cap, rfl, _⟩ := hT
  go_enter Try.func14, Try.ntmps14
  go_wp2_with fail
  refine (szSideS_left T _ L _ (HT.out.below (hB1 _)) hL0 hL1).mono ?_
  rintro e w2 ⟨rfl, hb2⟩
  have hB2 : Below w.heap.size w w2 := (hB1 _).trans (hb2.mono (by simp))
  by_cases hbig : L < (T.length : Int)
  · rw [if_pos hbig]
    go_wp2
    go_ret
    exact ⟨rfl, hB2⟩
  · have hge : ¬ (L - (T.length : Int) < 0) := by omega
    rw [if_neg hbig]
    go_wp2
    go_ret
    exact ⟨rfl, hB2⟩

theorem szBox_lft (T : List Sd) (v : Value) (L : Int) (w : World) (hT : SdsAt w w.heap.size v T) (hL0 : 0 ≤ L) (hL1 : L ≤ 1048576) :
    Calls Try.prog 14 #[.agg #[v], .int .i64 L] w fun e w' => (∃ r : Int, e = .returned (.int .i64 r) ∧ -1 ≤ r ∧ r ≤ 1048576 ∧ (0 ≤ r → T.length ≤ 1048576)) ∧ Below w.heap.size w w' := by
  refine (szBox_left T v L w hT hL0 hL1).mono ?_
  rintro e w2 ⟨rfl, hb⟩
  refine ⟨⟨_, rfl, ?_⟩, hb⟩
  by_cases h : L < (T.length : Int)
  · rw [if_pos h]; exact ⟨by omega, by omega, fun h => by omega⟩
  · rw [if_neg h]; exact ⟨by omega, by omega, fun h => by omega⟩

theorem szBox_any (T : List Sd) (v : Value) (w : World) (hT : SdsAt w w.heap.size v T) :
    Calls Try.prog 14 #[.agg #[v], .int .i64 1048576] w fun e w' => (∃ r : Int, e = .returned (.int .i64 r) ∧ -1 ≤ r ∧ r ≤ 1048576 ∧ (0 ≤ r → T.length ≤ 1048576)) ∧ Below w.heap.size w w' := by
  refine (szBox_left T v 1048576 w hT (by omega) (by omega)).mono ?_
  rintro e w2 ⟨rfl, hb⟩
  refine ⟨⟨_, rfl, ?_⟩, hb⟩
  by_cases h : (1048576 : Int) < (T.length : Int)
  · rw [if_pos h]; exact ⟨by omega, by omega, fun h => by omega⟩
  · rw [if_neg h]; exact ⟨by omega, by omega, fun h => by omega⟩

set_option maxRecDepth 100000 in
set_option maxHeartbeats 1000000 in
theorem eqSide_same (lo hi : Int) (w : World) :
    Calls Try.prog 86 #[.agg #[.int .i64 lo, .int .i64 hi], .agg #[.int .i64 lo, .int .i64 hi]] w fun e w' => e = .returned (.bool true) ∧ Below w.heap.size w w' := by
  go_enter Try.func86, Try.ntmps86
  go_wp2
  go_ret
  exact ⟨rfl, by repeat' (first | exact Below.refl _ _ | refine Below.alloc ?_ (by simp) _)⟩

set_option maxRecDepth 100000 in
set_option maxHeartbeats 4000000 in
theorem eqSideS_same (T : List Sd) (v1 v2 : Value) (w : World) (h1 : SdsAt w w.heap.size v1 T) (h2 : SdsAt w w.heap.size v2 T) (hl : T.length ≤ 2097152) :
    Calls Try.prog 59 #[v1, v2] w fun e w' => e = .returned (.bool true) ∧ Below w.heap.size w w' := by
  obtain ⟨ao, cap, rfl, _, hmax, hrow⟩ := h1
  obtain ⟨ao2, cap2, rfl, _, _, hrow2⟩ := h2
  have HROW : Hid (∀ i, i < T.length → ∃ g o, ao = some ⟨g, o, none⟩ ∧ g < w.heap.size ∧ SdIn w g (o + i * 2) (sd T i)) := hrow
  have HROW2 : Hid (∀ i, i < T.length → ∃ g o, ao2 = some ⟨g, o, none⟩ ∧ g < w.heap.size ∧ SdIn w g (o + i * 2) (sd T i)) := hrow2
  clear hrow hrow2
  go_enter Try.func59, Try.ntmps59
  go_wp2
  go_loopw [5] (fun vi wr => ∃ k : Nat, k ≤ T.length ∧ vi = .int .i64 (k : Int) ∧ Below w.heap.size w wr)
    (fun vi _ => T.length - (intOf vi).toNat)
  case atStart => exact ⟨0, by omega, rfl, Below.refl _ _⟩
  case round =>
    obtain ⟨k, hk, rfl, hbw⟩ := hrel
    by_cases hlt : k < T.length
    · obtain ⟨g, o, rfl, hgB, hy1⟩ := HROW.out k hlt
      obtain ⟨g2, o2, rfl, hgB2, hy2⟩ := HROW2.out k hlt
      have e1 := hy1.below hbw hgB
      have e2 := hy2.below hbw hgB2
      clear hy1 hy2
      obtain ⟨ti, hti⟩ : ∃ t, sd T k = t := ⟨_, rfl⟩
      rw [hti] at e1 e2
      clear hti
      obtain ⟨lo, hi⟩ := ti
      obtain ⟨c0, c1⟩ := e1
      obtain ⟨x0, x1⟩ := e2
      dsimp only at c0 c1 x0 x1
      have hlt' : (k : Int) < (T.length : Int) := by omega
      have C2 : Hid (∀ w : World, Calls Try.prog 86 #[.agg #[.int .i64 lo, .int .i64 hi], .agg #[.int .i64 lo, .int .i64 hi]] w fun e w' => e = .returned (.bool true) ∧ Below w.heap.size w w') := fun w => eqSide_same lo hi w
      go_wp2_with fail
      go_region_with (go_at_call 86; refine (C2.out _).mono ?_; rintro e w2 ⟨rfl, hb2⟩; have hbw2 : Below w.heap.size w w2 := hbw.drew.trans (hb2.mono hbw.size))
      all_goals
        go_wp2
        go_roundw
        case rel => exact ⟨k + 1, by omega, by go_num, hbw2⟩
        case measure => simp [intOf]; omega
    · have hke : k = T.length := by omega
      subst hke
      have hge : ¬ ((T.length : Int) < (T.length : Int)) := by omega
      go_wp2
      go_ret
      exact ⟨rfl, hbw⟩

set_option maxRecDepth 100000 in
set_option maxHeartbeats 1000000 in
theorem eqBox_same (T : List Sd) (v1 v2 : Value) (w : World) (h1 : SdsAt w w.heap.size v1 T) (h2 : SdsAt w w.heap.size v2 T) (hl : T.length ≤ 2097152) :
    Calls Try.prog 18 #[.agg #[v1], .agg #[v2]] w fun e w' => e = .returned (.bool true) ∧ Below w.heap.size w w' := by
  have H1 : Hid (SdsAt w w.heap.size v1 T) := h1
  have H2 : Hid (SdsAt w w.heap.size v2 T) := h2
  obtain ⟨ao, cap, rfl, _⟩ := h1
  obtain ⟨ao2, cap2, rfl, _⟩ := h2
  have hB1 : ∀ o1 o2, Below w.heap.size w ((w.alloc o1).alloc o2) := fun o1 o2 => ((Below.refl _ w).alloc (Nat.le_refl _) o1).alloc (by simp) o2
  go_enter Try.func18, Try.ntmps18
  go_wp2_with fail
  refine (eqSideS_same T _ _ _ (H1.out.below (hB1 _ _)) (H2.out.below (hB1 _ _)) hl).mono ?_
  rintro e w2 ⟨rfl, hb2⟩
  go_wp2
  go_ret
  exact ⟨rfl, (hB1 _ _).trans (hb2.mono (by simp; omega))⟩

end Go.Proofs.Ytaddiljgpeidgaa
