/- Numbers, small numbers and spoilt texts that the model draws. -/
import Derived.Test.YtmjpmmkjfimopaaDoorGn
import Derived.Test.YtmjpmmkjfimopaaDoorHa
namespace Go.Proofs.YtmjpmmkjfimopaaDoor
open Go.RowKit

set_option maxRecDepth 100000 in
set_option maxHeartbeats 4000000 in
theorem number_any (b m : Nat) (w : World) (hc : Cur w b m) (hm : m ≤ 900000000) :
    Calls Tryd.prog 70 #[.pointer (some ⟨b, 0, none⟩)] w fun e w' => ∃ n : Int, e = .returned (.int .i64 n) ∧ -1000000001 ≤ n ∧ n ≤ 1000000001 ∧ Cur w' b (m + 4) ∧ w.grownBy w' (some b) := by
  go_enter Tryd.func70, Tryd.ntmps70
  go_wp2_with fail
  refine (pick_any b m _ _ hc (by omega)).mono ?_
  rintro e w1 ⟨x, rfl, hx, hc1, hg1⟩
  clear hc hx
  by_cases h0 : x = 0
  · have e0 : ((x : Int) == 0) = true := by simp [h0]
    clear h0
    go_wp2_with fail
    refine (among_any b (m + 2) w1.heap.size 10 10 (fun i => [-1000000001, -1000000000, -1, 0, 63, 64, -64, -65, 1000000000, 1000000001].getD i 0) _ (hc1.alloc _) (by omega) (by omega) (by omega) (by have := hc1.lt; omega) (fun i hi => lit_cells w1 _ [-1000000001, -1000000000, -1, 0, 63, 64, -64, -65, 1000000000, 1000000001] i hi)).mono ?_
    rintro e w2 ⟨i, hi, rfl, hc2, hg2⟩
    go_wp2
    go_ret
    have hbt := between [-1000000001, -1000000000, -1, 0, 63, 64, -64, -65, 1000000000, 1000000001] (-1000000001) 1000000001 (by decide) i hi
    exact ⟨_, rfl, hbt.1, hbt.2, hc2, Lib.grownBy_trans (Lib.grownBy_allocR hg1 _) hg2⟩
  · have e0 : ((x : Int) == 0) = false := by simp [h0]
    by_cases h1 : x = 1
    · have e1 : ((x : Int) == 1) = true := by simp [h1]
      clear h0 h1
      go_wp2_with fail
      refine (pick_any b (m + 2) _ _ hc1 (by omega)).mono ?_
      rintro e w2 ⟨y, rfl, hy, hc2, hg2⟩
      have hy' : y < 100000 := by omega
      clear hy
      go_wp2
      go_ret
      exact ⟨_, rfl, by omega, by omega, hc2, Lib.grownBy_trans hg1 hg2⟩
    · have e1 : ((x : Int) == 1) = false := by simp; omega
      clear h0 h1
      go_wp2_with fail
      refine (pick_any b (m + 2) _ _ hc1 (by omega)).mono ?_
      rintro e w2 ⟨y, rfl, hy, hc2, hg2⟩
      have hy' : y < 20 := by omega
      clear hy
      go_wp2
      go_ret
      exact ⟨_, rfl, by omega, by omega, hc2, Lib.grownBy_trans hg1 hg2⟩


set_option maxRecDepth 100000 in
set_option maxHeartbeats 4000000 in
theorem small_any (b m : Nat) (w : World) (hc : Cur w b m) (hm : m ≤ 900000000) :
    Calls Tryd.prog 41 #[.pointer (some ⟨b, 0, none⟩)] w fun e w' => ∃ n : Int, e = .returned (.int .i64 n) ∧ -1000000000 ≤ n ∧ n ≤ 1000000000 ∧ Cur w' b (m + 4) ∧ w.grownBy w' (some b) := by
  go_enter Tryd.func41, Tryd.ntmps41
  go_wp2_with fail
  refine (number_any b m _ hc hm).mono ?_
  rintro e w1 ⟨n, rfl, h1, h2, hc1, hg1⟩
  clear hc
  by_cases ha : n < -1000000000
  · go_wp2
    go_ret
    exact ⟨7, rfl, by omega, by omega, hc1, hg1⟩
  · have ha' : -1000000000 ≤ n := by omega
    clear ha
    by_cases hb : 1000000000 < n
    · have hb' : decide (n ≤ 1000000000) = false := by simp; omega
      go_wp2
      go_ret
      exact ⟨7, rfl, by omega, by omega, hc1, hg1⟩
    · have hb' : n ≤ 1000000000 := by omega
      clear hb
      go_wp2
      go_ret
      exact ⟨n, rfl, ha', hb', hc1, hg1⟩

theorem below_drewF {B : Nat} {a w : World} (h : Below B a w) (q : Nat) : Below B a (w.drewN q) := ⟨h.os, h.tape, h.output, h.size, h.block⟩
theorem grown_drewF {a w : World} {r : Option Nat} (h : a.grownBy w r) (q : Nat) : a.grownBy (w.drewN q) r := ⟨h.os, h.tape, h.output, h.size, h.block⟩

theorem size_oneF (c : UInt8) : ({ data := #[c] } : ByteArray).size = 1 := rfl

theorem index_someF (s : ByteArray) (j : Nat) (hj : j < s.size) : ∃ x : Nat, x < 256 ∧ ∀ w : World, (Instr.index 9 (.string s) (.int .i64 (j : Int))).run Tryd.prog w = .ok (.int .u8 (x : Int)) w := by
  refine ⟨(s[j]'hj).toNat, UInt8.toNat_lt _, fun w => ?_⟩
  rw [run_index_string w 9 s .i64 (j : Int) Tryd.underlying9, dif_pos ⟨by omega, by omega⟩]
  simp only [Int.toNat_natCast]

set_option maxRecDepth 100000 in
set_option maxHeartbeats 4000000 in
theorem spoilt_any (b m : Nat) (t wi : ByteArray) (w : World) (hc : Cur w b m) (hm : m ≤ 900000000) (ht : t.size ≤ 1048576) (hw0 : 0 < wi.size) (hw : wi.size ≤ 100) :
    Calls Tryd.prog 44 #[.pointer (some ⟨b, 0, none⟩), .string t, .string wi] w fun e w' => ∃ t' : ByteArray, e = .returned (.string t') ∧ t'.size ≤ t.size + 2 ∧ Cur w' b (m + 14) ∧ w.grownBy w' (some b) := by
  go_enter Tryd.func44, Tryd.ntmps44
  go_wp2_with fail
  refine (pick_any b m _ _ hc (by omega)).mono ?_
  rintro e w1 ⟨x, rfl, hx, hc1, hg1⟩
  have hx3 : x ≤ 2 := by omega
  clear hx hc
  go_wp2_with fail
  go_loopw [1, 7] (fun vt vn wr => ∃ (u : ByteArray) (n : Nat), n ≤ 2 ∧ vn = .int .i64 (n : Int) ∧ vt = .string u ∧ u.size + n ≤ t.size + 2 ∧ Cur wr b (m + 2 + 6 * (2 - n)) ∧ w.grownBy wr (some b))
    (fun _ vn _ => (intOf vn).toNat)
  case atStart => exact ⟨t, x, hx3, rfl, rfl, by omega, hc1.le (by omega), hg1⟩
  case round =>
    obtain ⟨u, n, hn, rfl, rfl, hu, hcr, hgr⟩ := hrel
    clear hc1 hg1 hx3
    by_cases h0 : n = 0
    · subst h0
      go_wp2
      go_ret
      exact ⟨u, rfl, by omega, hcr.le (by omega), hgr⟩
    · have hn0 : (0 : Int) < (n : Int) := by omega
      by_cases hu0 : u.size = 0
      · have hz : (u.size : Int) ≤ 0 := by omega
        clear h0
        go_wp2
        go_ret
        exact ⟨u, rfl, by omega, hcr.le (by omega), hgr⟩
      · have hup : (0 : Int) < (u.size : Int) := by omega
        go_wp2_with fail
        refine (pick_any b _ _ _ hcr (by omega)).mono ?_
        rintro e w2 ⟨i, rfl, hi, hc2, hg2⟩
        have hiu : i < u.size := by omega
        have hg2' := Lib.grownBy_trans hgr hg2
        clear hi hcr hgr hg2
        go_wp2_with fail
        refine (pick_any b _ _ _ hc2 (by omega)).mono ?_
        rintro e w3 ⟨j, rfl, hj, hc3, hg3⟩
        have hjw : j < wi.size := by omega
        have hjw' : (j : Int) < (wi.size : Int) := by omega
        have hg3' := Lib.grownBy_trans hg2' hg3
        clear hj hc2 hg2' hg3
        obtain ⟨c, _, hix⟩ := index_someF wi j hjw
        have hcv := convert_one w3 c
        go_wp2_with fail
        refine (pick_any b _ _ _ (hc3.alloc _) (by omega)).mono ?_
        rintro e w4 ⟨z, rfl, hz, hc4, hg4⟩
        have hg4' := Lib.grownBy_trans (Lib.grownBy_allocR hg3' _) hg4
        have hz3 : z ≤ 2 := by omega
        clear hc3 hg3' hg4 hcv hix hz
        have hiu' : (i : Int) < (u.size : Int) := by omega
        have hul : u.size ≤ 1048578 := by omega
        have hz' : z = 0 ∨ z = 1 ∨ z = 2 := by omega
        rcases hz' with rfl | rfl | rfl
        · go_wp2
          go_quiet (fail)
          go_wp2
          go_roundw
          case rel => exact ⟨_, n - 1, by omega, by go_num, rfl, by have e1 := size_oneF (UInt8.ofNat c); simp; omega, (hc4.below (below_drewF (Below.refl _ _) _)).le (by omega), grown_drewF hg4' _⟩
          case measure => simp [intOf]; omega
        · go_wp2
          go_quiet (fail)
          go_wp2
          go_roundw
          case rel => exact ⟨_, n - 1, by omega, by go_num, rfl, by have e1 := size_oneF (UInt8.ofNat c); simp; omega, (hc4.below (below_drewF (Below.refl _ _) _)).le (by omega), grown_drewF hg4' _⟩
          case measure => simp [intOf]; omega
        · go_wp2
          go_quiet (fail)
          go_wp2
          go_roundw
          case rel => exact ⟨_, n - 1, by omega, by go_num, rfl, by have e1 := size_oneF (UInt8.ofNat c); simp; omega, (hc4.below (below_drewF (Below.refl _ _) _)).le (by omega), grown_drewF hg4' _⟩
          case measure => simp [intOf]; omega
end Go.Proofs.YtmjpmmkjfimopaaDoor
