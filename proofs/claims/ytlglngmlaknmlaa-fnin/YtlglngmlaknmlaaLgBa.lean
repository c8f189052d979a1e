/- The model's way up to both roots. -/
import Derived.Test.YtlglngmlaknmlaaLgE
import Derived.Test.YtlglngmlaknmlaaLgB
import Derived.Deep.QuietTactic
import Derived.BigQuiet
import Derived.OwnWalk
namespace Go.Proofs.Ytlglngmlaknmlaa
open Go.RowKit Plain Lgs Tpc

theorem drewNN (w : World) (m n : Nat) : (w.drewN m).drewN n = w.drewN (m + n) := by
  first
  | exact World.drewN_drewN w m n
  | (unfold World.drewN; simp [Nat.add_assoc])

theorem botF_lt : ∀ (f o n m : Nat) (wh : Bool) (p : List Nat), o < 1000003 → (∀ y ∈ p, y < 1000003) → (botF f o n m wh p).1 < 1000003 ∧ (botF f o n m wh p).2.1 < 1000003 := by
  intro f
  induction f with
  | zero => intro o n m wh p _ _; exact ⟨by show 0 < _; omega, by show 0 < _; omega⟩
  | succ f ih =>
    intro o n m wh p ho hp
    rw [botF]
    have hpd : ∀ y ∈ p.dropLast, y < 1000003 := fun y hy => hp y (List.dropLast_subset p hy)
    split
    · split
      · exact ⟨ho, ho⟩
      · split
        · rename_i h1
          have : p.getD 0 0 < 1000003 := by
            rw [List.getD, List.getElem?_eq_getElem (by omega)]
            exact hp _ (List.getElem_mem _)
          exact ⟨this, this⟩
        · exact ⟨by show 0 < _; omega, by show 0 < _; omega⟩
    · split
      · exact ⟨by show 0 < _; omega, by show 0 < _; omega⟩
      · split
        · exact ⟨(ih _ _ _ _ _ ho hpd).1, node_lt _ _⟩
        · exact ⟨node_lt _ _, node_lt _ _⟩

set_option maxRecDepth 100000 in
set_option maxHeartbeats 4000000 in
theorem l13Both_any : ∀ (f o n m : Nat) (wh : Bool) (p : List Nat) (v : Value) (w : World), n ≤ f → 1 ≤ m → m ≤ n → n ≤ 40 → o < 1000003 → (∀ y ∈ p, y < 1000003) → ZAt w w.heap.size v (zl p) →
    Calls Try.prog 78 #[.int .i64 (o : Int), .int .i64 (n : Int), .int .i64 (m : Int), .bool wh, v] w fun e w' => e = .returned (.tuple #[.int .i64 (((botF f o n m wh p).1 : Nat) : Int), .int .i64 (((botF f o n m wh p).2.1 : Nat) : Int), .bool (botF f o n m wh p).2.2]) ∧ ∃ q, w' = w.drewN q := by
  intro f
  induction f with
  | zero => intro o n m wh p v w hf h1 h2; omega
  | succ f ih =>
    intro o n m wh p v w hf h1 h2 h40 ho hp hv
    have hv0 := hv
    obtain ⟨ao, cap, rfl, hlc, hcm, hrow⟩ := hv
    unfold maxLen at hcm
    rw [zl_len] at hlc
    rw [zl_len] at hv0 ⊢
    obtain ⟨R, hR⟩ : ∃ R, R = botF (f + 1) o n m wh p := ⟨_, rfl⟩
    have HR : Hid (R = botF (f + 1) o n m wh p) := hR
    rw [← hR]
    clear hR
    by_cases hmn : m = n
    · subst hmn
      cases wh with
      | true =>
        have HF : Hid (R = (o, o, decide (p.length = 0))) := by show _ = _; rw [HR.out, botF, if_pos rfl]; rfl
        have HB : Hid (decide ((p.length : Int) = 0) = decide (p.length = 0)) := by show _ = _; rw [decide_eq_decide]; omega
        clear hrow ih hv0 HR
        go_enter Try.func78, Try.ntmps78
        go_wp2_with fail
        go_ret3
        exact ⟨by rw [HF.out]; first | rfl | (rw [← HB.out]; rfl), 0, rfl⟩
      | false =>
        by_cases hp1 : p.length = 1
        · obtain ⟨g, o', rfl, hg, c⟩ := hrow 0 _ (zl_at p (by omega))
          rw [Nat.add_zero] at c
          have HF : Hid (R = (p.getD 0 0, p.getD 0 0, true)) := by show _ = _; rw [HR.out, botF, if_pos rfl, if_neg (by simp), if_pos hp1]
          generalize p.getD 0 0 = q at c HF
          clear hrow ih hv0 HR
          rw [hp1]
          go_enter Try.func78, Try.ntmps78
          go_wp2_with fail
          go_quiet (fail)
          go_wp2_with fail
          go_ret3
          exact ⟨by rw [HF.out]; rfl, _, rfl⟩
        · have HF : Hid (R = (0, 0, false)) := by show _ = _; rw [HR.out, botF, if_pos rfl, if_neg (by simp), if_neg hp1]
          have hp1' : ¬ (p.length : Int) = 1 := by omega
          clear hrow ih hv0 HR
          go_enter Try.func78, Try.ntmps78
          go_wp2_with fail
          go_ret3
          exact ⟨by rw [HF.out]; rfl, 0, rfl⟩
    · have hmn' : ¬ (m : Int) = (n : Int) := by omega
      by_cases h0 : p.length = 0
      · have HF : Hid (R = (0, 0, false)) := by show _ = _; rw [HR.out, botF, if_neg hmn, if_pos h0]
        clear hrow ih hv0 HR
        rw [h0]
        go_enter Try.func78, Try.ntmps78
        go_wp2_with fail
        go_ret3
        exact ⟨by rw [HF.out]; rfl, 0, rfl⟩
      · obtain ⟨s1, s2, s3⟩ := spl_pos (n := n) (by omega) h40
        obtain ⟨g, o', rfl, hg, c⟩ := hrow (p.length - 1) _ (zl_at p (by omega))
        have hT := ZAt.take hv0 (k := p.length - 1) (by rw [zl_len]; omega)
        rw [zl_take] at hT
        have hpd : ∀ y ∈ p.dropLast, y < 1000003 := fun y hy => hp y (List.dropLast_subset p hy)
        have hpl : p.getD (p.length - 1) 0 < 1000003 := by
          rw [List.getD, List.getElem?_eq_getElem (by omega)]
          exact hp _ (List.getElem_mem _)
        have CS : Hid (Calls Try.prog 48 #[.int .i64 (n : Int)] w fun e w' => e = .returned (.int .i64 ((spl n : Nat) : Int)) ∧ w' = w) := l13Split_any n w (by omega)
        by_cases hkk : m ≤ spl n
        · have hkk' : (m : Int) ≤ ((spl n : Nat) : Int) := by omega
          have CU : Hid (Calls Try.prog 78 #[.int .i64 (o : Int), .int .i64 ((spl n : Nat) : Int), .int .i64 (m : Int), .bool wh, .slice (some ⟨g, o', none⟩) (p.length - 1) cap] w fun e w' => e = .returned (.tuple #[.int .i64 (((botF f o (spl n) m wh p.dropLast).1 : Nat) : Int), .int .i64 (((botF f o (spl n) m wh p.dropLast).2.1 : Nat) : Int), .bool (botF f o (spl n) m wh p.dropLast).2.2]) ∧ ∃ q, w' = w.drewN q) := ih _ _ _ _ _ _ _ (by omega) h1 hkk (by omega) ho hpd hT
          have CN : Hid (∀ q, Calls Try.prog 51 #[.int .i64 (((botF f o (spl n) m wh p.dropLast).2.1 : Nat) : Int), .int .i64 ((p.getD (p.length - 1) 0 : Nat) : Int)] (w.drewN q) fun e w' => e = .returned (.int .i64 ((node (botF f o (spl n) m wh p.dropLast).2.1 (p.getD (p.length - 1) 0) : Nat) : Int)) ∧ w' = w.drewN q) := fun q => l13Node_any _ _ _ (botF_lt _ _ _ _ _ _ ho hpd).2 hpl
          have HF : Hid (R = ((botF f o (spl n) m wh p.dropLast).1, node (botF f o (spl n) m wh p.dropLast).2.1 (p.getD (p.length - 1) 0), (botF f o (spl n) m wh p.dropLast).2.2)) := by
            show _ = _; rw [HR.out, botF, if_neg hmn, if_neg h0, if_pos hkk]
          generalize botF f o (spl n) m wh p.dropLast = U at CU CN HF
          generalize p.getD (p.length - 1) 0 = q at c CN HF hpl
          obtain ⟨U1, U2, U3⟩ := U
          simp only at CU CN HF
          generalize node U2 q = S at CN HF
          clear hrow ih hv0 HR hT hpd hp
          generalize spl n = h at *
          obtain ⟨l, hm⟩ : ∃ l, p.length = l + 1 := ⟨p.length - 1, by omega⟩
          rw [hm] at hlc c CU ⊢
          simp only [Nat.add_sub_cancel] at c CU
          have cq : ∀ q, (w.drewN q).cell? ⟨g, o' + l, none⟩ = w.cell? ⟨g, o' + l, none⟩ := fun q => rfl
          go_enter Try.func78, Try.ntmps78
          go_wp2_with fail
          go_at_call 48
          refine CS.out.mono ?_
          rintro e w' ⟨rfl, h9⟩
          have h9 := h9.symm
          subst h9
          go_wp2_with fail
          go_at_call 78
          refine CU.out.mono ?_
          rintro e w' ⟨rfl, q1, rfl⟩
          go_wp2_with fail
          go_at_call 51
          refine (CN.out q1).mono ?_
          rintro e w' ⟨rfl, rfl⟩
          go_wp2_with fail
          go_ret3
          exact ⟨by rw [HF.out]; rfl, q1, rfl⟩
        · have hkk' : ¬ (m : Int) ≤ ((spl n : Nat) : Int) := by omega
          have CU : Hid (Calls Try.prog 78 #[.int .i64 (o : Int), .int .i64 ((n - spl n : Nat) : Int), .int .i64 ((m - spl n : Nat) : Int), .bool false, .slice (some ⟨g, o', none⟩) (p.length - 1) cap] w fun e w' => e = .returned (.tuple #[.int .i64 (((botF f o (n - spl n) (m - spl n) false p.dropLast).1 : Nat) : Int), .int .i64 (((botF f o (n - spl n) (m - spl n) false p.dropLast).2.1 : Nat) : Int), .bool (botF f o (n - spl n) (m - spl n) false p.dropLast).2.2]) ∧ ∃ q, w' = w.drewN q) := ih _ _ _ _ _ _ _ (by omega) (by omega) (by omega) (by omega) ho hpd hT
          have CN1 : Hid (∀ W, Calls Try.prog 51 #[.int .i64 ((p.getD (p.length - 1) 0 : Nat) : Int), .int .i64 (((botF f o (n - spl n) (m - spl n) false p.dropLast).1 : Nat) : Int)] W fun e w' => e = .returned (.int .i64 ((node (p.getD (p.length - 1) 0) (botF f o (n - spl n) (m - spl n) false p.dropLast).1 : Nat) : Int)) ∧ w' = W) := fun W => l13Node_any _ _ _ hpl (botF_lt _ _ _ _ _ _ ho hpd).1
          have CN2 : Hid (∀ W, Calls Try.prog 51 #[.int .i64 ((p.getD (p.length - 1) 0 : Nat) : Int), .int .i64 (((botF f o (n - spl n) (m - spl n) false p.dropLast).2.1 : Nat) : Int)] W fun e w' => e = .returned (.int .i64 ((node (p.getD (p.length - 1) 0) (botF f o (n - spl n) (m - spl n) false p.dropLast).2.1 : Nat) : Int)) ∧ w' = W) := fun W => l13Node_any _ _ _ hpl (botF_lt _ _ _ _ _ _ ho hpd).2
          have HF : Hid (R = (node (p.getD (p.length - 1) 0) (botF f o (n - spl n) (m - spl n) false p.dropLast).1, node (p.getD (p.length - 1) 0) (botF f o (n - spl n) (m - spl n) false p.dropLast).2.1, (botF f o (n - spl n) (m - spl n) false p.dropLast).2.2)) := by
            show _ = _; rw [HR.out, botF, if_neg hmn, if_neg h0, if_neg hkk]
          generalize botF f o (n - spl n) (m - spl n) false p.dropLast = U at CU CN1 CN2 HF
          generalize p.getD (p.length - 1) 0 = q at c CN1 CN2 HF hpl
          obtain ⟨U1, U2, U3⟩ := U
          simp only at CU CN1 CN2 HF
          generalize hS1 : node q U1 = S1 at CN1 HF
          generalize hS2 : node q U2 = S2 at CN2 HF
          clear hrow ih hv0 HR hT hpd hp hS1 hS2
          have hn2 : ((n : Int) - ((spl n : Nat) : Int)) = ((n - spl n : Nat) : Int) := by omega
          have hk2 : ((m : Int) - ((spl n : Nat) : Int)) = ((m - spl n : Nat) : Int) := by omega
          rw [← hn2, ← hk2] at CU
          clear hn2 hk2
          generalize spl n = h at *
          obtain ⟨l, hm⟩ : ∃ l, p.length = l + 1 := ⟨p.length - 1, by omega⟩
          rw [hm] at hlc c CU ⊢
          simp only [Nat.add_sub_cancel] at c CU
          go_enter Try.func78, Try.ntmps78
          go_wp2_with fail
          go_at_call 48
          refine CS.out.mono ?_
          rintro e w' ⟨rfl, h9⟩
          have h9 := h9.symm
          subst h9
          go_wp2_with fail
          go_at_call 78
          refine CU.out.mono ?_
          rintro e w1 ⟨rfl, q1, hw1⟩
          have c1 : w1.cell? ⟨g, o' + l, none⟩ = some (.int .i64 (q : Int)) := by rw [hw1]; exact c
          have hg1 : g < w1.heap.size := by rw [hw1]; exact hg
          have HW1 : Hid (w1 = w.drewN q1) := hw1
          clear hw1
          go_wp2_with fail
          go_quiet (first
            | (go_at_call 51; with_reducible exact Calls.quiet_of_same (CN1.out _))
            | (go_at_call 51; with_reducible exact Calls.quiet_of_same (CN2.out _)))
          go_wp2_with fail
          go_ret3
          exact ⟨by rw [HF.out]; rfl, _, by rw [HW1.out]; exact drewNN _ _ _⟩

end Go.Proofs.Ytlglngmlaknmlaa
