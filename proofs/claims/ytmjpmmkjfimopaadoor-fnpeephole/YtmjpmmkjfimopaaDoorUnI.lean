/- The contract of the program's UnfoldNumber. -/
import Derived.Test.YtmjpmmkjfimopaaDoorHf
namespace Go.Proofs.YtmjpmmkjfimopaaDoor
open Go.RowKit

/-- what UnfoldNumber answers -/
def un (a : Int) : Int × Bool := if 0 ≤ a ∧ a ≤ 2000000000 then (if a % 2 = 0 then a / 2 else -((a + 1) / 2), true) else (0, false)

theorem un_out (a : Int) (h : ¬ (0 ≤ a ∧ a ≤ 2000000000)) : un a = (0, false) := by unfold un; rw [if_neg h]
theorem un_even (a : Int) (h : 0 ≤ a ∧ a ≤ 2000000000) (h2 : a % 2 = 0) : un a = (a / 2, true) := by unfold un; rw [if_pos h, if_pos h2]
theorem un_odd (a : Int) (h : 0 ≤ a ∧ a ≤ 2000000000) (h2 : a % 2 = 1) : un a = (-((a + 1) / 2), true) := by unfold un; rw [if_pos h, if_neg (by omega)]

theorem odd_half (a : Int) (h0 : 0 ≤ a) (h1 : a ≤ 2000000000) : wrap64 (-(a + 1).tdiv 2) = -((a + 1) / 2) := by
  rw [Int.tdiv_eq_ediv_of_nonneg (by omega)]; unfold wrap64; omega

set_option maxRecDepth 100000 in
set_option maxHeartbeats 1000000 in
theorem implUnfold (a : Int) (w : World) :
    Calls Tryd.prog 109 #[.int .i64 a] w fun e w' => e = .returned (.tuple #[.int .i64 (un a).1, .bool (un a).2]) ∧ w' = w := by
  by_cases h1 : a < 0
  · rw [un_out a (by omega)]
    go_enter Tryd.func109, Tryd.ntmps109
    go_wp2
    go_ret2
    exact ⟨rfl, rfl⟩
  · have k1 : 0 ≤ a := by omega
    have n1 : decide (a < 0) = false := by simp; omega
    have n4 : decide (0 ≤ a) = true := by simp; omega
    by_cases h2 : 2000000000 < a
    · rw [un_out a (by omega)]
      have n2 : decide (2000000000 < a) = true := by simp; omega
      have n3 : decide (a ≤ 2000000000) = false := by simp; omega
      clear h1
      go_enter Tryd.func109, Tryd.ntmps109
      go_wp2
      go_ret2
      exact ⟨rfl, rfl⟩
    · have k2 : a ≤ 2000000000 := by omega
      have n2 : decide (2000000000 < a) = false := by simp; omega
      clear h1 h2
      by_cases h3 : a % 2 = 1
      · rw [un_odd a ⟨k1, k2⟩ h3]
        have e1 : (a % 2 == 1) = true := by simp [h3]
        have e0 : (a % 2 == 0) = false := by simp [h3]
        have HO : Hid (wrap64 (-(a + 1).tdiv 2) = -((a + 1) / 2)) := odd_half a k1 k2
        clear h3
        go_enter Tryd.func109, Tryd.ntmps109
        go_wp2
        go_ret2
        exact ⟨by rw [← HO.out]; rfl, rfl⟩
      · have h3' : a % 2 = 0 := by omega
        rw [un_even a ⟨k1, k2⟩ h3']
        have e1 : (a % 2 == 1) = false := by simp [h3]
        have e0 : (a % 2 == 0) = true := by simp; omega
        clear h3 h3'
        go_enter Tryd.func109, Tryd.ntmps109
        go_wp2
        go_ret2
        exact ⟨rfl, rfl⟩

end Go.Proofs.YtmjpmmkjfimopaaDoor
