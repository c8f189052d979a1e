/- The program's sums and splits of logs. -/
import Derived.Test.YtlglngmlaknmlaaLgF
namespace Go.Proofs.Ytlglngmlaknmlaa
open Go.RowKit Plain Lgs Tpc

set_option maxRecDepth 100000 in
set_option maxHeartbeats 4000000 in
theorem implLeaf (s : ByteArray) (w : World) (hs : s.size ≤ maxLen) :
    Calls Try.prog 16 #[.string s] w fun e w' => e = .returned (.int .i64 ((leaf s : Nat) : Int)) ∧ w' = w := by
  unfold maxLen at hs
  obtain ⟨R, hR⟩ : ∃ R, R = leaf s := ⟨_, rfl⟩
  have HR : Hid (R = leaf s) := hR
  rw [← hR]
  clear hR
  go_enter Try.func16, Try.ntmps16
  go_wp2
  go_loopw [3, 7] (fun vh vi wr => ∃ (i h : Nat), i ≤ s.size ∧ vi = .int .i64 (i : Int) ∧ vh = .int .i64 (h : Int) ∧ Hid (h = lfN s i) ∧ wr = w)
    (fun _ vi _ => s.size - (intOf vi).toNat)
  case atStart => exact ⟨0, 7, by omega, rfl, rfl, rfl, rfl⟩
  case round =>
    obtain ⟨i, h, hi, rfl, rfl, hh, rfl⟩ := hrel
    have hl : h < 1000003 := by rw [hh.out]; exact lfN_lt s i
    by_cases hlt : i < s.size
    · have hlt' : (i : Int) < (s.size : Int) := by omega
      have ixs := idxL s i hlt
      have HN : Hid (lfN s (i + 1) = (263 * h + bt s i + 1) % 1000003) := by rw [hh.out]; rfl
      have hb : bt s i < 256 := by unfold bt; rw [dif_pos hlt]; exact UInt8.toNat_lt _
      generalize bt s i = b at ixs HN hb
      go_wp2
      go_roundw
      case rel => exact ⟨i + 1, (263 * h + b + 1) % 1000003, by omega, by go_num, by first | (go_num; done) | (congr 1; omega) | (simp; omega), HN.out.symm, by first | rfl | trivial⟩
      case measure => simp [intOf]; omega
    · have hke : i = s.size := by omega
      have hge : ¬ ((i : Int) < (s.size : Int)) := by omega
      have HF : Hid (R = h) := by show _ = _; rw [HR.out, hh.out, hke]; rfl
      clear hke hh
      go_wp2
      go_ret
      exact ⟨by rw [HF.out]; rfl, rfl⟩

set_option maxRecDepth 100000 in
set_option maxHeartbeats 4000000 in
theorem nodeSum_any (a b : Nat) (w : World) (ha : a < 1000003) (hb : b < 1000003) :
    Calls Try.prog 53 #[.int .i64 (a : Int), .int .i64 (b : Int)] w fun e w' => e = .returned (.int .i64 ((node a b : Nat) : Int)) ∧ w' = w := by
  have HN : Hid (((node a b : Nat) : Int) = (131 * (a : Int) + 17 * (b : Int) + 11) % 1000003) := by show _ = _; unfold node; omega
  go_enter Try.func53, Try.ntmps53
  go_wp2
  go_ret
  exact ⟨by rw [HN.out]; rfl, rfl⟩

theorem isSum_any (n : Int) (w : World) :
    Calls Try.prog 52 #[.int .i64 n] w fun e w' => e = .returned (.bool (decide (0 ≤ n ∧ n ≤ 1000002))) ∧ w' = w := by
  by_cases h1 : 0 ≤ n
  · have d1 : decide (0 ≤ n) = true := by simpa using h1
    by_cases h2 : n ≤ 1000002
    · have d2 : decide (n < 1000003) = true := by simp; omega
      rw [decide_eq_true ⟨h1, h2⟩]
      clear h1 h2
      go_enter Try.func52, Try.ntmps52
      go_wp2
      go_ret
      exact ⟨rfl, rfl⟩
    · have d2 : decide (n < 1000003) = false := by simp; omega
      rw [decide_eq_false (fun h => h2 h.2)]
      clear h1 h2
      go_enter Try.func52, Try.ntmps52
      go_wp2
      go_ret
      exact ⟨rfl, rfl⟩
  · have d1 : decide (0 ≤ n) = false := by simpa using h1
    rw [decide_eq_false (fun h => h1 h.1)]
    clear h1
    go_enter Try.func52, Try.ntmps52
    go_wp2
    go_ret
    exact ⟨rfl, rfl⟩

end Go.Proofs.Ytlglngmlaknmlaa
