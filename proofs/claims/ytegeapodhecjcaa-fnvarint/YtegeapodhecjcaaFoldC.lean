/- The contracts of the two FoldNumber and the two UnfoldNumber at every int. -/
import Derived.Test.YtegeapodhecjcaaFldB
namespace Go.Proofs.Ytegeapodhecjcaa
open Go.RowKit

/-- what FoldNumber answers -/
def fo (a : Int) : Int × Bool := if -1000000000 ≤ a ∧ a ≤ 1000000000 then ((foldN a : Int), true) else (0, false)

/-- what UnfoldNumber answers -/
def un (a : Int) : Int × Bool := if 0 ≤ a ∧ a ≤ 2000000000 then (if a % 2 = 0 then a / 2 else -((a + 1) / 2), true) else (0, false)

theorem fo_out (a : Int) (h : ¬ (-1000000000 ≤ a ∧ a ≤ 1000000000)) : fo a = (0, false) := by unfold fo; rw [if_neg h]
theorem fo_pos (a : Int) (h : 0 ≤ a ∧ a ≤ 1000000000) : fo a = (2 * a, true) := by
  unfold fo; rw [if_pos ⟨by omega, h.2⟩]; unfold foldN; rw [if_pos h.1]; congr 1; omega
theorem fo_neg (a : Int) (h : -1000000000 ≤ a ∧ a < 0) : fo a = (-2 * a - 1, true) := by
  unfold fo; rw [if_pos ⟨h.1, by omega⟩]; unfold foldN; rw [if_neg (by omega)]; congr 1; omega
theorem un_out (a : Int) (h : ¬ (0 ≤ a ∧ a ≤ 2000000000)) : un a = (0, false) := by unfold un; rw [if_neg h]
theorem un_even (a : Int) (h : 0 ≤ a ∧ a ≤ 2000000000) (h2 : a % 2 = 0) : un a = (a / 2, true) := by unfold un; rw [if_pos h, if_pos h2]
theorem un_odd (a : Int) (h : 0 ≤ a ∧ a ≤ 2000000000) (h2 : a % 2 = 1) : un a = (-((a + 1) / 2), true) := by unfold un; rw [if_pos h, if_neg (by omega)]

/-- what was folded is unfolded -/
theorem un_fo (a : Int) (h : -1000000000 ≤ a ∧ a ≤ 1000000000) : un (fo a).1 = (a, true) ∧ 0 ≤ (fo a).1 ∧ (fo a).2 = true := by
  by_cases h0 : 0 ≤ a
  · rw [fo_pos a ⟨h0, h.2⟩]
    refine ⟨?_, by show 0 ≤ 2 * a; omega, rfl⟩
    show un (2 * a) = _
    rw [un_even (2 * a) ⟨by omega, by omega⟩ (by omega)]; congr 1; omega
  · rw [fo_neg a ⟨h.1, by omega⟩]
    refine ⟨?_, by show 0 ≤ -2 * a - 1; omega, rfl⟩
    show un (-2 * a - 1) = _
    rw [un_odd (-2 * a - 1) ⟨by omega, by omega⟩ (by omega)]; congr 1; omega

theorem odd_half (a : Int) (h0 : 0 ≤ a) (h1 : a ≤ 2000000000) : wrap64 (-(a + 1).tdiv 2) = -((a + 1) / 2) := by
  rw [Int.tdiv_eq_ediv_of_nonneg (by omega)]; unfold wrap64; omega

set_option maxRecDepth 100000 in
set_option maxHeartbeats 1000000 in
theorem implFold (a : Int) (w : World) :
    Calls Try.prog 9 #[.int .i64 a] w fun e w' => e = .returned (.tuple #[.int .i64 (fo a).1, .bool (fo a).2]) ∧ w' = w := by
  by_cases h1 : a < -1000000000
  · rw [fo_out a (by omega)]
    go_enter Try.func9, Try.ntmps9
    go_wp2
    go_ret2
    exact ⟨rfl, rfl⟩
  · have k1 : -1000000000 ≤ a := by omega
    by_cases h2 : 1000000000 < a
    · rw [fo_out a (by omega)]
      have n2 : decide (a ≤ 1000000000) = false := by simp; omega
      clear h1
      go_enter Try.func9, Try.ntmps9
      go_wp2
      go_ret2
      exact ⟨rfl, rfl⟩
    · have k2 : a ≤ 1000000000 := by omega
      by_cases h3 : a < 0
      · rw [fo_neg a ⟨k1, h3⟩]
        clear h1 h2
        go_enter Try.func9, Try.ntmps9
        go_wp2
        go_ret2
        exact ⟨rfl, rfl⟩
      · have k3 : 0 ≤ a := by omega
        rw [fo_pos a ⟨k3, k2⟩]
        clear h1 h2 h3
        go_enter Try.func9, Try.ntmps9
        go_wp2
        go_ret2
        exact ⟨rfl, rfl⟩

set_option maxRecDepth 100000 in
set_option maxHeartbeats 1000000 in
theorem implUnfold (a : Int) (w : World) :
    Calls Try.prog 11 #[.int .i64 a] w fun e w' => e = .returned (.tuple #[.int .i64 (un a).1, .bool (un a).2]) ∧ w' = w := by
  by_cases h1 : a < 0
  · rw [un_out a (by omega)]
    go_enter Try.func11, Try.ntmps11
    go_wp2
    go_ret2
    exact ⟨rfl, rfl⟩
  · have k1 : 0 ≤ a := by omega
    have n1 : decide (a < 0) = false := by simp; omega
    have n4 : decide (0 ≤ a) = true := by simp; omega
    by_cases h2 : 2000000000 < a
    · rw [un_out a (by omega)]
      have n2 : decide (2000000000 < a) = true := by simp; omega
      have n3 : decide (a ≤ 2000000000) = false := by simp; omega
      clear h1
      go_enter Try.func11, Try.ntmps11
      go_wp2
      go_ret2
      exact ⟨rfl, rfl⟩
    · have k2 : a ≤ 2000000000 := by omega
      have n2 : decide (2000000000 < a) = false := by simp; omega
      clear h1 h2
      by_cases h3 : a % 2 = 1
      · rw [un_odd a ⟨k1, k2⟩ h3]
        have e1 : (a % 2 == 1) = true := by simp [h3]
        have e0 : (a % 2 == 0) = false := by simp [h3]
        have HO : Hid (wrap64 (-(a + 1).tdiv 2) = -((a + 1) / 2)) := odd_half a k1 k2
        clear h3
        go_enter Try.func11, Try.ntmps11
        go_wp2
        go_ret2
        exact ⟨by rw [← HO.out]; rfl, rfl⟩
      · have h3' : a % 2 = 0 := by omega
        rw [un_even a ⟨k1, k2⟩ h3']
        have e1 : (a % 2 == 1) = false := by simp [h3]
        have e0 : (a % 2 == 0) = true := by simp; omega
        clear h3 h3'
        go_enter Try.func11, Try.ntmps11
        go_wp2
        go_ret2
        exact ⟨rfl, rfl⟩

set_option maxRecDepth 100000 in
set_option maxHeartbeats 1000000 in
theorem specFold (a : Int) (w : World) :
    Calls Try.prog 10 #[.int .i64 a] w fun e w' => e = .returned (.tuple #[.int .i64 (fo a).1, .bool (fo a).2]) ∧ w' = w := by
  by_cases h1 : a < -1000000000
  · rw [fo_out a (by omega)]
    go_enter Try.func10, Try.ntmps10
    go_wp2
    go_ret2
    exact ⟨rfl, rfl⟩
  · have k1 : -1000000000 ≤ a := by omega
    by_cases h2 : 1000000000 < a
    · rw [fo_out a (by omega)]
      have n2 : decide (a ≤ 1000000000) = false := by simp; omega
      clear h1
      go_enter Try.func10, Try.ntmps10
      go_wp2
      go_ret2
      exact ⟨rfl, rfl⟩
    · have k2 : a ≤ 1000000000 := by omega
      by_cases h3 : a < 0
      · rw [fo_neg a ⟨k1, h3⟩]
        clear h1 h2
        go_enter Try.func10, Try.ntmps10
        go_wp2
        go_ret2
        exact ⟨rfl, rfl⟩
      · have k3 : 0 ≤ a := by omega
        rw [fo_pos a ⟨k3, k2⟩]
        clear h1 h2 h3
        go_enter Try.func10, Try.ntmps10
        go_wp2
        go_ret2
        exact ⟨rfl, rfl⟩

set_option maxRecDepth 100000 in
set_option maxHeartbeats 1000000 in
theorem specUnfold (a : Int) (w : World) :
    Calls Try.prog 13 #[.int .i64 a] w fun e w' => e = .returned (.tuple #[.int .i64 (un a).1, .bool (un a).2]) ∧ w' = w := by
  by_cases h1 : a < 0
  · rw [un_out a (by omega)]
    go_enter Try.func13, Try.ntmps13
    go_wp2
    go_ret2
    exact ⟨rfl, rfl⟩
  · have k1 : 0 ≤ a := by omega
    have n1 : decide (a < 0) = false := by simp; omega
    have n4 : decide (0 ≤ a) = true := by simp; omega
    by_cases h2 : 2000000000 < a
    · rw [un_out a (by omega)]
      have n2 : decide (2000000000 < a) = true := by simp; omega
      have n3 : decide (a ≤ 2000000000) = false := by simp; omega
      clear h1
      go_enter Try.func13, Try.ntmps13
      go_wp2
      go_ret2
      exact ⟨rfl, rfl⟩
    · have k2 : a ≤ 2000000000 := by omega
      have n2 : decide (2000000000 < a) = false := by simp; omega
      clear h1 h2
      by_cases h3 : a % 2 = 1
      · rw [un_odd a ⟨k1, k2⟩ h3]
        have e1 : (a % 2 == 1) = true := by simp [h3]
        have e0 : (a % 2 == 0) = false := by simp [h3]
        have HO : Hid (wrap64 (-(a + 1).tdiv 2) = -((a + 1) / 2)) := odd_half a k1 k2
        clear h3
        go_enter Try.func13, Try.ntmps13
        go_wp2
        go_ret2
        exact ⟨by rw [← HO.out]; rfl, rfl⟩
      · have h3' : a % 2 = 0 := by omega
        rw [un_even a ⟨k1, k2⟩ h3']
        have e1 : (a % 2 == 1) = false := by simp [h3]
        have e0 : (a % 2 == 0) = true := by simp; omega
        clear h3 h3'
        go_enter Try.func13, Try.ntmps13
        go_wp2
        go_ret2
        exact ⟨rfl, rfl⟩

end Go.Proofs.Ytegeapodhecjcaa
