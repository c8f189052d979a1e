/- The program's split of a log. -/
import Derived.Test.YtlglngmlaknmlaaLgG
import Derived.Test.YtlglngmlaknmlaaLgJ
namespace Go.Proofs.Ytlglngmlaknmlaa
open Go.RowKit Plain Lgs Tpc

/-- how many bits a number has -/
def Lgs.ln (m : Nat) : Nat := if m < 1 then 0 else if m < 2 then 1 else if m < 4 then 2 else if m < 8 then 3 else if m < 16 then 4 else if m < 32 then 5 else 6

theorem spl_ln_all : ∀ n, n < 41 → 2 ≤ n → 1 ≤ ln (n - 1) ∧ ln (n - 1) ≤ 6 ∧ spl n = 2 ^ (ln (n - 1) - 1) := by decide

set_option maxRecDepth 100000 in
set_option maxHeartbeats 4000000 in
theorem len64_any (m : Nat) (w : World) (h : m < 64) :
    Calls Try.prog 93 #[.int .u64 (m : Int)] w fun e w' => (∃ r : Int, e = .returned (.int .i64 r) ∧ r = ((ln m : Nat) : Int)) ∧ w' = w := by
  have d1 : decide ((4294967296 : Int) ≤ (m : Int)) = false := by simp; omega
  have d2 : decide ((65536 : Int) ≤ (m : Int)) = false := by simp; omega
  have d3 : decide ((256 : Int) ≤ (m : Int)) = false := by simp; omega
  go_enter Try.func93, Try.ntmps93
  go_wp2
  go_ret
  refine ⟨⟨_, rfl, ?_⟩, rfl⟩
  have e : ∀ (T : ByteArray) (h : m < T.size), T[m].toNat = bt T m := fun T h => by unfold bt; rw [dif_pos h]
  rw [e]
  clear e d1 d2 d3
  rename_i hx
  clear hx
  revert m
  decide +kernel

set_option maxRecDepth 100000 in
set_option maxHeartbeats 4000000 in
theorem len_any (m : Nat) (w : World) (h : m < 64) :
    Calls Try.prog 86 #[.int .u64 (m : Int)] w fun e w' => e = .returned (.int .i64 ((ln m : Nat) : Int)) ∧ w' = w := by
  have C := len64_any m w h
  generalize ln m = R at C ⊢
  go_enter Try.func86, Try.ntmps86
  go_wp2_with fail
  go_at_call 93
  refine C.mono ?_
  rintro e w' ⟨⟨r, rfl, rfl⟩, rfl⟩
  go_wp2_with fail
  go_ret
  exact ⟨rfl, rfl⟩

set_option maxRecDepth 100000 in
set_option maxHeartbeats 4000000 in
theorem splitAt_any (n : Nat) (w : World) (h2 : 2 ≤ n) (h : n ≤ 40) :
    Calls Try.prog 49 #[.int .i64 (n : Int)] w fun e w' => e = .returned (.int .i64 ((spl n : Nat) : Int)) ∧ w' = w := by
  obtain ⟨m, rfl⟩ : ∃ m, n = m + 1 := ⟨n - 1, by omega⟩
  obtain ⟨l1, l6, hs⟩ := spl_ln_all (m + 1) (by omega) h2
  rw [Nat.add_sub_cancel] at l1 l6 hs
  have C : Hid (Calls Try.prog 86 #[.int .u64 (m : Int)] w fun e w' => e = .returned (.int .i64 ((ln m : Nat) : Int)) ∧ w' = w) := len_any m w (by omega)
  rw [hs]
  clear hs
  generalize ln m = k at *
  have hk : k = 1 ∨ k = 2 ∨ k = 3 ∨ k = 4 ∨ k = 5 ∨ k = 6 := by omega
  rcases hk with rfl | rfl | rfl | rfl | rfl | rfl
  all_goals
    go_enter Try.func49, Try.ntmps49
    go_wp2_with fail
    go_at_call 86
    refine C.out.mono ?_
    rintro e w' ⟨rfl, rfl⟩
    go_wp2_with fail
    go_ret
    exact ⟨rfl, rfl⟩

set_option maxRecDepth 100000 in
theorem implSplit (n : Int) (w : World) :
    Calls Try.prog 14 #[.int .i64 n] w fun e w' => e = .returned (.tuple #[.int .i64 (if 2 ≤ n ∧ n ≤ 40 then ((spl n.toNat : Nat) : Int) else 0), .bool (decide (2 ≤ n ∧ n ≤ 40))]) ∧ w' = w := by
  by_cases h : 2 ≤ n ∧ n ≤ 40
  · rw [if_pos h, decide_eq_true h]
    obtain ⟨m, rfl⟩ : ∃ m : Nat, n = m := ⟨n.toNat, by omega⟩
    have CS : Hid (Calls Try.prog 49 #[.int .i64 (m : Int)] w fun e w' => e = .returned (.int .i64 ((spl m : Nat) : Int)) ∧ w' = w) := splitAt_any m w (by omega) (by omega)
    rw [Int.toNat_natCast]
    generalize spl m = S at CS
    have d1 : decide ((m : Int) < 2) = false := by simp; omega
    have d2 : decide ((40 : Int) < (m : Int)) = false := by simp; omega
    clear h
    go_enter Try.func14, Try.ntmps14
    go_wp2_with fail
    go_at_call 49
    refine CS.out.mono ?_
    rintro e w' ⟨rfl, rfl⟩
    go_wp2_with fail
    go_ret2
    exact ⟨rfl, rfl⟩
  · rw [if_neg h, decide_eq_false h]
    by_cases h1 : n < 2
    · have d1 : decide (n < 2) = true := by simpa using h1
      clear h h1
      go_enter Try.func14, Try.ntmps14
      go_wp2_with fail
      go_ret2
      exact ⟨rfl, rfl⟩
    · have d1 : decide (n < 2) = false := by simpa using h1
      have d2 : decide (40 < n) = true := by simp; omega
      clear h h1
      go_enter Try.func14, Try.ntmps14
      go_wp2_with fail
      go_ret2
      exact ⟨rfl, rfl⟩

theorem implNode (a b : Int) (w : World) :
    Calls Try.prog 18 #[.int .i64 a, .int .i64 b] w fun e w' => e = .returned (.tuple #[.int .i64 (nsum a b).1, .bool (nsum a b).2]) ∧ w' = w := by
  obtain ⟨p, hp⟩ : ∃ p, p = decide (0 ≤ a ∧ a ≤ 1000002) := ⟨_, rfl⟩
  obtain ⟨q, hq⟩ : ∃ q, q = decide (0 ≤ b ∧ b ≤ 1000002) := ⟨_, rfl⟩
  have CA : Hid (∀ W : World, Calls Try.prog 52 #[.int .i64 a] W fun e w' => e = .returned (.bool p) ∧ w' = W) := fun W => by rw [hp]; exact isSum_any a W
  have CB : Hid (∀ W : World, Calls Try.prog 52 #[.int .i64 b] W fun e w' => e = .returned (.bool q) ∧ w' = W) := fun W => by rw [hq]; exact isSum_any b W
  have HP : Hid (p = decide (0 ≤ a ∧ a ≤ 1000002)) := hp
  have HQ : Hid (q = decide (0 ≤ b ∧ b ≤ 1000002)) := hq
  clear hp hq
  cases p with
  | false =>
    have HF : Hid (nsum a b = (0, false)) := by
      show _ = _
      unfold nsum
      rw [if_neg (fun h => of_decide_eq_false HP.out.symm h.1)]
    generalize nsum a b = R at HF ⊢
    go_enter Try.func18, Try.ntmps18
    go_wp2_with fail
    go_at_call 52
    refine (CA.out _).mono ?_
    rintro e w' ⟨rfl, rfl⟩
    go_wp2_with fail
    go_ret2
    exact ⟨by rw [HF.out]; rfl, rfl⟩
  | true =>
    cases q with
    | false =>
      have HF : Hid (nsum a b = (0, false)) := by
        show _ = _
        unfold nsum
        rw [if_neg (fun h => of_decide_eq_false HQ.out.symm h.2)]
      generalize nsum a b = R at HF ⊢
      go_enter Try.func18, Try.ntmps18
      go_wp2_with fail
      go_at_call 52
      refine (CA.out _).mono ?_
      rintro e w' ⟨rfl, rfl⟩
      go_wp2_with fail
      go_at_call 52
      refine (CB.out _).mono ?_
      rintro e w' ⟨rfl, rfl⟩
      go_wp2_with fail
      go_ret2
      exact ⟨by rw [HF.out]; rfl, rfl⟩
    | true =>
      have ha := of_decide_eq_true HP.out.symm
      have hb := of_decide_eq_true HQ.out.symm
      obtain ⟨x, rfl⟩ : ∃ x : Nat, a = x := ⟨a.toNat, by omega⟩
      obtain ⟨y, rfl⟩ : ∃ y : Nat, b = y := ⟨b.toNat, by omega⟩
      have CN : Hid (Calls Try.prog 53 #[.int .i64 (x : Int), .int .i64 (y : Int)] w fun e w' => e = .returned (.int .i64 ((node x y : Nat) : Int)) ∧ w' = w) := nodeSum_any _ _ _ (by omega) (by omega)
      have HF : Hid (nsum (x : Int) (y : Int) = (((node x y : Nat) : Int), true)) := by
        show _ = _
        unfold nsum
        rw [if_pos ⟨ha, hb⟩, Int.toNat_natCast, Int.toNat_natCast]
      generalize nsum (x : Int) (y : Int) = R at HF ⊢
      generalize node x y = S at HF CN
      go_enter Try.func18, Try.ntmps18
      go_wp2_with fail
      go_at_call 52
      refine (CA.out _).mono ?_
      rintro e w' ⟨rfl, rfl⟩
      go_wp2_with fail
      go_at_call 52
      refine (CB.out _).mono ?_
      rintro e w' ⟨rfl, rfl⟩
      go_wp2_with fail
      go_at_call 53
      refine CN.out.mono ?_
      rintro e w' ⟨rfl, rfl⟩
      go_wp2_with fail
      go_ret2
      exact ⟨by rw [HF.out]; rfl, rfl⟩

end Go.Proofs.Ytlglngmlaknmlaa
