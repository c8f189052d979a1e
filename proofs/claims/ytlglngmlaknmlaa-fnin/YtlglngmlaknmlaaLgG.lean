/- The model's NodeSum, SplitAt, RootOf. -/
import Derived.Test.YtlglngmlaknmlaaLgF
namespace Go.Proofs.Ytlglngmlaknmlaa
open Go.RowKit Plain Lgs Tpc

/-- what NodeSum tells -/
def Lgs.nsum (a b : Int) : Int × Bool := if (0 ≤ a ∧ a ≤ 1000002) ∧ (0 ≤ b ∧ b ≤ 1000002) then ((node a.toNat b.toNat : Nat), true) else (0, false)

theorem specSplit (n : Int) (w : World) :
    Calls Try.prog 13 #[.int .i64 n] w fun e w' => e = .returned (.tuple #[.int .i64 (if 2 ≤ n ∧ n ≤ 40 then ((spl n.toNat : Nat) : Int) else 0), .bool (decide (2 ≤ n ∧ n ≤ 40))]) ∧ w' = w := by
  have C : Hid (Calls Try.prog 47 #[.int .i64 n, .int .i64 2, .int .i64 40] w fun e w' => e = .returned (.bool (decide (2 ≤ n ∧ n ≤ 40))) ∧ w' = w) := l1In_any n 2 40 w
  by_cases h : 2 ≤ n ∧ n ≤ 40
  · rw [if_pos h]
    rw [decide_eq_true h] at C ⊢
    obtain ⟨m, rfl⟩ : ∃ m : Nat, n = m := ⟨n.toNat, by omega⟩
    have CS : Hid (Calls Try.prog 48 #[.int .i64 (m : Int)] w fun e w' => e = .returned (.int .i64 ((spl m : Nat) : Int)) ∧ w' = w) := l13Split_any m w (by omega)
    rw [Int.toNat_natCast]
    generalize spl m = S at CS
    go_enter Try.func13, Try.ntmps13
    go_wp2_with fail
    go_at_call 47
    refine C.out.mono ?_
    rintro e w' ⟨rfl, rfl⟩
    go_wp2_with fail
    go_at_call 48
    refine CS.out.mono ?_
    rintro e w' ⟨rfl, rfl⟩
    go_wp2_with fail
    go_ret2
    exact ⟨rfl, rfl⟩
  · rw [if_neg h]
    rw [decide_eq_false h] at C ⊢
    go_enter Try.func13, Try.ntmps13
    go_wp2_with fail
    go_at_call 47
    refine C.out.mono ?_
    rintro e w' ⟨rfl, rfl⟩
    go_wp2_with fail
    go_ret2
    exact ⟨rfl, rfl⟩

theorem specRoot (l : List ByteArray) (v : Value) (w : World) (hv : StAt w w.heap.size v l) :
    Calls Try.prog 20 #[v] w fun e w' => e = .returned (.tuple #[.int .i64 (if lok l then ((root l : Nat) : Int) else 0), .bool (lok l)]) ∧ ∃ m, w' = w.drewN m := by
  have C : Hid (Calls Try.prog 54 #[v] w fun e w' => e = .returned (.bool (lok l)) ∧ w' = w) := l13Log_any l v w hv
  cases hl : lok l with
  | true =>
    rw [hl] at C
    have hlok := hl
    unfold lok at hlok
    rw [Bool.and_eq_true, List.all_eq_true, decide_eq_true_eq] at hlok
    have CR : Hid (Calls Try.prog 55 #[v] w fun e w' => e = .returned (.int .i64 ((root l : Nat) : Int)) ∧ ∃ m, w' = w.drewN m) :=
      l13Root_any (l.length + 1) l v w (by omega) hlok.2 (fun i hi => of_decide_eq_true (hlok.1 _ (lq_mem hi))) hv
    obtain ⟨ao, cap, rfl, hlc, hcm, hrow⟩ := hv
    clear hrow hlok hl
    generalize root l = S at CR
    go_enter Try.func20, Try.ntmps20
    go_wp2_with fail
    go_at_call 54
    refine C.out.mono ?_
    rintro e w' ⟨rfl, rfl⟩
    go_wp2_with fail
    go_at_call 55
    refine CR.out.mono ?_
    rintro e w' ⟨rfl, m, rfl⟩
    go_wp2_with fail
    go_ret2
    exact ⟨rfl, m, rfl⟩
  | false =>
    rw [hl] at C
    obtain ⟨ao, cap, rfl, hlc, hcm, hrow⟩ := hv
    clear hrow hl
    go_enter Try.func20, Try.ntmps20
    go_wp2_with fail
    go_at_call 54
    refine C.out.mono ?_
    rintro e w' ⟨rfl, rfl⟩
    go_wp2_with fail
    go_ret2
    exact ⟨rfl, 0, rfl⟩

theorem specNode (a b : Int) (w : World) :
    Calls Try.prog 17 #[.int .i64 a, .int .i64 b] w fun e w' => e = .returned (.tuple #[.int .i64 (nsum a b).1, .bool (nsum a b).2]) ∧ w' = w := by
  obtain ⟨p, hp⟩ : ∃ p, p = decide (0 ≤ a ∧ a ≤ 1000002) := ⟨_, rfl⟩
  obtain ⟨q, hq⟩ : ∃ q, q = decide (0 ≤ b ∧ b ≤ 1000002) := ⟨_, rfl⟩
  have CA : Hid (∀ W : World, Calls Try.prog 50 #[.int .i64 a] W fun e w' => e = .returned (.bool p) ∧ w' = W) := fun W => by rw [hp]; exact l13Sum_any a W
  have CB : Hid (∀ W : World, Calls Try.prog 50 #[.int .i64 b] W fun e w' => e = .returned (.bool q) ∧ w' = W) := fun W => by rw [hq]; exact l13Sum_any b W
  have HP : Hid (p = decide (0 ≤ a ∧ a ≤ 1000002)) := hp
  have HQ : Hid (q = decide (0 ≤ b ∧ b ≤ 1000002)) := hq
  clear hp hq
  cases p with
  | false =>
    have HF : Hid (nsum a b = (0, false)) := by
      show _ = _
      unfold nsum
      rw [if_neg (fun h => of_decide_eq_false HP.out.symm h.1)]
    generalize nsum a b = R at HF ⊢
    go_enter Try.func17, Try.ntmps17
    go_wp2_with fail
    go_at_call 50
    refine (CA.out _).mono ?_
    rintro e w' ⟨rfl, rfl⟩
    go_wp2_with fail
    go_ret2
    exact ⟨by rw [HF.out]; rfl, rfl⟩
  | true =>
    cases q with
    | false =>
      have HF : Hid (nsum a b = (0, false)) := by
        show _ = _
        unfold nsum
        rw [if_neg (fun h => of_decide_eq_false HQ.out.symm h.2)]
      generalize nsum a b = R at HF ⊢
      go_enter Try.func17, Try.ntmps17
      go_wp2_with fail
      go_at_call 50
      refine (CA.out _).mono ?_
      rintro e w' ⟨rfl, rfl⟩
      go_wp2_with fail
      go_at_call 50
      refine (CB.out _).mono ?_
      rintro e w' ⟨rfl, rfl⟩
      go_wp2_with fail
      go_ret2
      exact ⟨by rw [HF.out]; rfl, rfl⟩
    | true =>
      have ha := of_decide_eq_true HP.out.symm
      have hb := of_decide_eq_true HQ.out.symm
      obtain ⟨x, rfl⟩ : ∃ x : Nat, a = x := ⟨a.toNat, by omega⟩
      obtain ⟨y, rfl⟩ : ∃ y : Nat, b = y := ⟨b.toNat, by omega⟩
      have CN : Hid (Calls Try.prog 51 #[.int .i64 (x : Int), .int .i64 (y : Int)] w fun e w' => e = .returned (.int .i64 ((node x y : Nat) : Int)) ∧ w' = w) := l13Node_any _ _ _ (by omega) (by omega)
      have HF : Hid (nsum (x : Int) (y : Int) = (((node x y : Nat) : Int), true)) := by
        show _ = _
        unfold nsum
        rw [if_pos ⟨ha, hb⟩, Int.toNat_natCast, Int.toNat_natCast]
      generalize nsum (x : Int) (y : Int) = R at HF ⊢
      generalize node x y = S at HF CN
      go_enter Try.func17, Try.ntmps17
      go_wp2_with fail
      go_at_call 50
      refine (CA.out _).mono ?_
      rintro e w' ⟨rfl, rfl⟩
      go_wp2_with fail
      go_at_call 50
      refine (CB.out _).mono ?_
      rintro e w' ⟨rfl, rfl⟩
      go_wp2_with fail
      go_at_call 51
      refine CN.out.mono ?_
      rintro e w' ⟨rfl, rfl⟩
      go_wp2_with fail
      go_ret2
      exact ⟨by rw [HF.out]; rfl, rfl⟩

end Go.Proofs.Ytlglngmlaknmlaa
