/- The program's CheckIn where sums are wrong. -/
import Derived.Test.YtlglngmlaknmlaaLgCa
namespace Go.Proofs.Ytlglngmlaknmlaa
open Go.RowKit Plain Lgs Tpc

set_option maxRecDepth 100000 in
set_option maxHeartbeats 4000000 in
theorem implCheckIn_mis (r : Int) (N K : Nat) (s : ByteArray) (p : List Int) (v : Value) (w : World) (hK : K < N) (hN : N ≤ 40) (hs : s.size ≤ 20) (hv : ZAt w w.heap.size v p)
    (hbad : ¬ (p.length = (rt isOne K 41 0 N).2.length ∧ (0 ≤ r ∧ r ≤ 1000002) ∧ p.all (fun n => decide (0 ≤ n ∧ n ≤ 1000002)) = true)) :
    Calls Try.prog 33 #[.int .i64 r, .int .i64 (N : Int), .int .i64 (K : Int), .string s, .agg #[v]] w fun e w' => e = .returned (.tuple #[.bool false, .bool false]) ∧ Below w.heap.size w w' := by
  have HV : Hid (ZAt w w.heap.size v p) := hv
  obtain ⟨ao, cap, rfl, hlc, hcm, _⟩ := hv
  obtain ⟨W0, hW0⟩ : ∃ W, W = w.alloc (.cells #[.slice ao p.length cap] 37) := ⟨_, rfl⟩
  have hB0 : Below w.heap.size w W0 := by rw [hW0]; exact (Below.refl _ w).alloc (Nat.le_refl _) _
  have hs0 : W0.heap.size = w.heap.size + 1 := by rw [hW0]; simp
  have q0 : W0.cell? ⟨w.heap.size, 0, none⟩ = some (.slice ao p.length cap) := by rw [hW0]; go_simp
  obtain ⟨W1, hW1⟩ : ∃ W, W = W0.alloc (.cells #[.string s] 9) := ⟨_, rfl⟩
  have hB1 : Below W0.heap.size W0 W1 := by rw [hW1]; exact (Below.refl _ W0).alloc (Nat.le_refl _) _
  have hs1 := hB1.size
  have C : Hid (Calls Try.prog 69 #[.int .i64 0, .int .i64 20, .slice (some ⟨w.heap.size + 1, 0, none⟩) 1 1] W1 fun e w' => e = .returned (.bool true) ∧ w' = W1) := by
    have h := haveBytes_any 0 20 [s] _ _ (one_textL s W0) (fun i hi => by
      obtain rfl : i = 0 := by simpa using hi
      show s.size ≤ _
      omega) (by simp)
    rw [hv_one, show decide ((s.size : Int) ≤ 20) = true by simp; omega, show decide ((0 : Int) ≤ (s.size : Int)) = true by simp, Bool.and_true, ← hW1, hs0] at h
    exact h
  have d1 : decide ((40 : Int) < (N : Int)) = false := by simp; omega
  have d1' : decide (40 < N) = false := by simp; omega
  have d1'' : ¬ 40 < N := by omega
  have d2 : decide ((K : Int) < 0) = false := by simp
  have d3 : decide (N ≤ K) = false := by simp; omega
  have CT : Hid (Calls Try.prog 59 #[.int .i64 (N : Int), .int .i64 (K : Int)] W1 fun e w' => ORt W1 w' e (rt isOne K 41 0 N)) := routeOfText_any N K W1 hK hN
  have HLN : (rt isOne K 41 0 N).2.length ≤ 6 := rt_len (one_fit K) 41 6 0 N (by omega) (by omega) hK (by omega) (by omega)
  have CS : Hid (∀ W, Calls Try.prog 52 #[.int .i64 r] W fun e w' => e = .returned (.bool (decide (0 ≤ r ∧ r ≤ 1000002))) ∧ w' = W) := fun W => isSum_any r W
  have CA : Hid (∀ W, Below w.heap.size w W → Calls Try.prog 70 #[.slice ao p.length cap] W fun e w' => e = .returned (.bool (p.all (fun n => decide (0 ≤ n ∧ n ≤ 1000002)))) ∧ w' = W) := fun W hW => areSums_any p _ W (HV.out.below hW)
  generalize rt isOne K 41 0 N = Q at CT hbad HLN
  generalize p.all (fun n => decide (0 ≤ n ∧ n ≤ 1000002)) = A at CA hbad
  have hd : ¬ p.length = Q.2.length ∨ (p.length = Q.2.length ∧ ¬ (0 ≤ r ∧ r ≤ 1000002)) ∨ (p.length = Q.2.length ∧ (0 ≤ r ∧ r ≤ 1000002) ∧ A = false) := by
    by_cases h1 : p.length = Q.2.length
    · by_cases h2 : 0 ≤ r ∧ r ≤ 1000002
      · exact .inr (.inr ⟨h1, h2, by cases A with | false => rfl | true => exact absurd ⟨h1, h2, rfl⟩ hbad⟩)
      · exact .inr (.inl ⟨h1, h2⟩)
    · exact .inl h1
  clear hbad
  have HD : Hid (¬ p.length = Q.2.length ∨ (p.length = Q.2.length ∧ ¬ (0 ≤ r ∧ r ≤ 1000002)) ∨ (p.length = Q.2.length ∧ (0 ≤ r ∧ r ≤ 1000002) ∧ A = false)) := hd
  clear hd
  go_enter Try.func33, Try.ntmps33
  go_upto_region 1 with fail
  rw [← hW0]
  clear hW0
  go_wp2_with fail
  rw [← hW1]
  clear hW1
  go_at_call 69
  refine C.out.mono ?_
  rintro e w' ⟨rfl, h9⟩
  have h9 := h9.symm
  subst h9
  go_wp2_with fail
  go_at_call 59
  refine CT.out.mono ?_
  rintro e w2 ⟨u, rfl, hr2, hb2⟩
  have hs2 := hb2.size
  obtain ⟨ar, cr, hu, _, _⟩ := hr2.slice
  subst hu
  obtain ⟨W3, hW3⟩ : ∃ W, W = w2.alloc (.cells #[.int .i64 (Q.1.1 : Int), .int .i64 (Q.1.2 : Int), .slice ar Q.2.length cr] 75) := ⟨_, rfl⟩
  have hB3 : Below w2.heap.size w2 W3 := by rw [hW3]; exact (Below.refl _ w2).alloc (Nat.le_refl _) _
  have r2 : W3.cell? ⟨w2.heap.size, 2, none⟩ = some (.slice ar Q.2.length cr) := by rw [hW3]; go_simp
  have hB03 : Below W0.heap.size W0 W3 := hB1.trans ((hb2.trans (hB3.mono hs2)).mono hs1)
  have hBw : Below w.heap.size w W3 := hB0.trans (hB03.mono hB0.size)
  have q3 := (hB03.cell (p := ⟨w.heap.size, 0, none⟩) (by show w.heap.size < _; omega)).trans q0
  have CA3 := CA.out _ hBw
  have HCA3 : Hid (Calls Try.prog 70 #[.slice ao p.length cap] W3 fun e w' => e = .returned (.bool A) ∧ w' = W3) := CA3
  clear CA CA3 hr2 hb2
  go_upto_region 4 with fail
  rw [← hW3]
  clear hW3
  rcases HD.out with h1 | ⟨h1, h2⟩ | ⟨h1, h2, h3⟩
  · have hne : ((p.length : Int) == (Q.2.length : Int)) = false := by simp; omega
    have hne' : ¬ ((p.length : Int) = (Q.2.length : Int)) := by omega
    clear HD
    go_wp2_with fail
    go_ret2
    exact ⟨rfl, hBw⟩
  · rw [decide_eq_false h2] at CS
    have h1' : (p.length : Int) = (Q.2.length : Int) := by omega
    rw [h1] at q3
    clear HD h2
    go_wp2_with fail
    go_at_call 52
    refine (CS.out _).mono ?_
    rintro e w' ⟨rfl, rfl⟩
    go_wp2_with fail
    go_ret2
    exact ⟨rfl, hBw⟩
  · rw [decide_eq_true h2] at CS
    rw [h3] at HCA3
    have h1' : (p.length : Int) = (Q.2.length : Int) := by omega
    rw [h1] at q3 HCA3
    clear HD h2 h3
    go_wp2_with fail
    go_at_call 52
    refine (CS.out _).mono ?_
    rintro e w' ⟨rfl, h9⟩
    have h9 := h9.symm
    subst h9
    go_wp2_with fail
    go_at_call 70
    refine HCA3.out.mono ?_
    rintro e w' ⟨rfl, rfl⟩
    go_wp2_with fail
    go_ret2
    exact ⟨rfl, hBw⟩

end Go.Proofs.Ytlglngmlaknmlaa
