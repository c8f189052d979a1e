/- The program's CheckGrew where something is wrong. -/
import Derived.Test.YtlglngmlaknmlaaLgCc
import Derived.Test.YtlglngmlaknmlaaLgBb
namespace Go.Proofs.Ytlglngmlaknmlaa
open Go.RowKit Plain Lgs Tpc

theorem off_le (x : Nat) : off x ≤ 1 := by
  unfold off
  split <;> omega

theorem cgr_prog {a b : Int} {N k : Nat} {p : List Int} (hK : k < N) (hN : N ≤ 40) :
    cgr a ((k : Int) + 1) b (N : Int) p = (if p.length = (rt (isEld (k + 1)) k 41 0 N).2.length + off (rt (isEld (k + 1)) k 41 0 N).1.1 ∧ (0 ≤ a ∧ a ≤ 1000002) ∧ (0 ≤ b ∧ b ≤ 1000002) ∧ p.all (fun n => decide (0 ≤ n ∧ n ≤ 1000002)) = true then
      (decide (((eldN (beg (rt (isEld (k + 1)) k 41 0 N).1.1 a.toNat (p.map Int.toNat)) (rt (isEld (k + 1)) k 41 0 N).2 ((p.map Int.toNat).drop (off (rt (isEld (k + 1)) k 41 0 N).1.1)) (rt (isEld (k + 1)) k 41 0 N).2.length : Nat) : Int) = a) && decide (((fld (beg (rt (isEld (k + 1)) k 41 0 N).1.1 a.toNat (p.map Int.toNat)) (rt (isEld (k + 1)) k 41 0 N).2 ((p.map Int.toNat).drop (off (rt (isEld (k + 1)) k 41 0 N).1.1)) (rt (isEld (k + 1)) k 41 0 N).2.length : Nat) : Int) = b), true) else (false, false)) := by
  have hL : (rt (isEld (k + 1)) k 41 0 N).2.length ≤ 6 := rt_len (eld_fit k) 41 6 0 N (by omega) (by omega) hK (by omega) (by omega)
  have hb := bot_rt a.toNat k 41 0 N (p.map Int.toNat) (by omega) hK (by omega) (by omega)
  rw [Nat.sub_zero, Nat.sub_zero, decide_eq_true (rfl : 0 = 0)] at hb
  obtain ⟨u1, u2, u3⟩ := hb
  rw [List.length_map] at u1 u2 u3
  unfold cgr
  rw [Int.toNat_natCast, show ((k : Int) + 1).toNat = k + 1 by omega]
  generalize rt (isEld (k + 1)) k 41 0 N = Q at hL u1 u2 u3
  have ho := off_le Q.1.1
  by_cases h1 : p.length = Q.2.length + off Q.1.1
  · rw [u1, u2 h1, u3 h1, decide_eq_true h1, if_pos rfl]
    have e : pok p = p.all (fun n => decide (0 ≤ n ∧ n ≤ 1000002)) := by
      unfold pok
      rw [decide_eq_true (show p.length ≤ 20 by omega), Bool.and_true]
    rw [e]
    by_cases h2 : (0 ≤ a ∧ a ≤ 1000002) ∧ (0 ≤ b ∧ b ≤ 1000002) ∧ p.all (fun n => decide (0 ≤ n ∧ n ≤ 1000002)) = true
    · rw [if_pos ⟨h2.1, h2.2.1, by omega, by omega, h2.2.2⟩, if_pos ⟨h1, h2⟩]
    · rw [if_neg (fun h => h2 ⟨h.1, h.2.1, h.2.2.2.2⟩), if_neg (fun h => h2 h.2)]
  · have hne : ¬ (p.length = Q.2.length + off Q.1.1 ∧ (0 ≤ a ∧ a ≤ 1000002) ∧ (0 ≤ b ∧ b ≤ 1000002) ∧ p.all (fun n => decide (0 ≤ n ∧ n ≤ 1000002)) = true) := fun h => h1 h.1
    rw [u1, decide_eq_false h1, if_neg hne]
    split
    · rfl
    · rfl

theorem cgr_bad {a o b n : Int} {p : List Int} (h : ¬ (1 ≤ o ∧ o ≤ n ∧ n ≤ 40)) : cgr a o b n p = (false, false) := by
  unfold cgr
  rw [if_neg (fun g => h ⟨g.2.2.2.1.1, g.2.2.2.1.2, g.2.2.1.2⟩)]

set_option maxRecDepth 100000 in
set_option maxHeartbeats 4000000 in
theorem implCheckGrew_bad (a o b n : Int) (p : List Int) (v : Value) (w : World) (hv : ZAt w w.heap.size v p) (hbad : ¬ (1 ≤ o ∧ o ≤ n ∧ n ≤ 40)) :
    Calls Try.prog 37 #[.int .i64 a, .int .i64 o, .int .i64 b, .int .i64 n, .agg #[v]] w fun e w' => e = .returned (.tuple #[.bool false, .bool false]) ∧ Below w.heap.size w w' := by
  obtain ⟨ao, cap, rfl, hlc, hcm, _⟩ := hv
  have hd : o < 1 ∨ (¬ o < 1 ∧ n < o) ∨ (¬ o < 1 ∧ ¬ n < o ∧ (40 : Int) < n) := by omega
  obtain ⟨W0, hW0⟩ : ∃ W, W = w.alloc (.cells #[.slice ao p.length cap] 37) := ⟨_, rfl⟩
  have hB0 : Below w.heap.size w W0 := by rw [hW0]; exact (Below.refl _ w).alloc (Nat.le_refl _) _
  clear hbad
  rcases hd with hd | ⟨hd, hd2⟩ | ⟨hd, hd2, hd3⟩
  all_goals
    go_enter Try.func37, Try.ntmps37
    go_upto_region 1 with fail
    rw [← hW0]
    clear hW0
    go_wp2_with fail
    go_ret2
    exact ⟨rfl, hB0⟩

theorem Rt.drewN {w : World} {b B : Nat} {v : Value} {x y : Nat} {L : List As} (n : Nat) (h : Rt w b B v x y L) : Rt (w.drewN n) b B v x y L := h.below (below_drewT (Below.refl _ w))

set_option maxRecDepth 100000 in
set_option maxHeartbeats 4000000 in
theorem implCheckGrew_mis (a b : Int) (N k : Nat) (p : List Int) (v : Value) (w : World) (hK : k < N) (hN : N ≤ 40) (hv : ZAt w w.heap.size v p)
    (hbad : ¬ (p.length = (rt (isEld (k + 1)) k 41 0 N).2.length + off (rt (isEld (k + 1)) k 41 0 N).1.1 ∧ (0 ≤ a ∧ a ≤ 1000002) ∧ (0 ≤ b ∧ b ≤ 1000002) ∧ p.all (fun n => decide (0 ≤ n ∧ n ≤ 1000002)) = true)) :
    Calls Try.prog 37 #[.int .i64 a, .int .i64 ((k : Int) + 1), .int .i64 b, .int .i64 (N : Int), .agg #[v]] w fun e w' => e = .returned (.tuple #[.bool false, .bool false]) ∧ Below w.heap.size w w' := by
  have HV : Hid (ZAt w w.heap.size v p) := hv
  obtain ⟨ao, cap, rfl, hlc, hcm, _⟩ := hv
  obtain ⟨W0, hW0⟩ : ∃ W, W = w.alloc (.cells #[.slice ao p.length cap] 37) := ⟨_, rfl⟩
  have hB0 : Below w.heap.size w W0 := by rw [hW0]; exact (Below.refl _ w).alloc (Nat.le_refl _) _
  have hs0 : Hid (W0.heap.size = w.heap.size + 1) := by show _ = _; rw [hW0]; simp
  have q0 : W0.cell? ⟨w.heap.size, 0, none⟩ = some (.slice ao p.length cap) := by rw [hW0]; go_simp
  have d1 : ¬ ((k : Int) + 1 < 1) := by omega
  have d2 : ¬ ((N : Int) < (k : Int) + 1) := by omega
  have d3 : ¬ ((40 : Int) < (N : Int)) := by omega
  have d3' : ¬ 40 < N := by omega
  have CT : Hid (Calls Try.prog 74 #[.int .i64 (N : Int), .int .i64 ((k : Int) + 1)] W0 fun e w' => ORt W0 w' e (rt (isEld (k + 1)) k 41 0 N)) := routeOfElder_any N k W0 hK hN
  have HLN : (rt (isEld (k + 1)) k 41 0 N).2.length ≤ 6 := rt_len (eld_fit k) 41 6 0 N (by omega) (by omega) hK (by omega) (by omega)
  have CS1 : Hid (∀ W, Calls Try.prog 52 #[.int .i64 a] W fun e w' => e = .returned (.bool (decide (0 ≤ a ∧ a ≤ 1000002))) ∧ w' = W) := fun W => isSum_any a W
  have CS2 : Hid (∀ W, Calls Try.prog 52 #[.int .i64 b] W fun e w' => e = .returned (.bool (decide (0 ≤ b ∧ b ≤ 1000002))) ∧ w' = W) := fun W => isSum_any b W
  have CA : Hid (∀ W, Below w.heap.size w W → Calls Try.prog 70 #[.slice ao p.length cap] W fun e w' => e = .returned (.bool (p.all (fun n => decide (0 ≤ n ∧ n ≤ 1000002)))) ∧ w' = W) := fun W hW => areSums_any p _ W (HV.out.below hW)
  generalize rt (isEld (k + 1)) k 41 0 N = Q at CT hbad HLN
  generalize p.all (fun n => decide (0 ≤ n ∧ n ≤ 1000002)) = A at CA hbad
  obtain ⟨M, hM⟩ : ∃ M, M = Q.2.length + off Q.1.1 := ⟨_, rfl⟩
  have HM : Hid (M = Q.2.length + off Q.1.1) := hM
  rw [← hM] at hbad
  clear hM
  have hd : ¬ p.length = M ∨ (p.length = M ∧ ¬ (0 ≤ a ∧ a ≤ 1000002)) ∨ (p.length = M ∧ (0 ≤ a ∧ a ≤ 1000002) ∧ ¬ (0 ≤ b ∧ b ≤ 1000002)) ∨ (p.length = M ∧ (0 ≤ a ∧ a ≤ 1000002) ∧ (0 ≤ b ∧ b ≤ 1000002) ∧ A = false) := by
    by_cases h1 : p.length = M
    · by_cases h2 : 0 ≤ a ∧ a ≤ 1000002
      · by_cases h3 : 0 ≤ b ∧ b ≤ 1000002
        · exact .inr (.inr (.inr ⟨h1, h2, h3, by cases A with | false => rfl | true => exact absurd ⟨h1, h2, h3, rfl⟩ hbad⟩))
        · exact .inr (.inr (.inl ⟨h1, h2, h3⟩))
      · exact .inr (.inl ⟨h1, h2⟩)
    · exact .inl h1
  clear hbad
  have HD : Hid (¬ p.length = M ∨ (p.length = M ∧ ¬ (0 ≤ a ∧ a ≤ 1000002)) ∨ (p.length = M ∧ (0 ≤ a ∧ a ≤ 1000002) ∧ ¬ (0 ≤ b ∧ b ≤ 1000002)) ∨ (p.length = M ∧ (0 ≤ a ∧ a ≤ 1000002) ∧ (0 ≤ b ∧ b ≤ 1000002) ∧ A = false)) := hd
  clear hd
  go_enter Try.func37, Try.ntmps37
  go_upto_region 1 with fail
  rw [← hW0]
  clear hW0
  go_wp2_with fail
  go_at_call 74
  refine CT.out.mono ?_
  rintro e w2 ⟨u, rfl, hr2, hb2⟩
  have hs2 := hb2.size
  obtain ⟨ar, cr, hu, _, _⟩ := hr2.slice
  subst hu
  have hRt := Rt.made (x := Q.1.1) (y := Q.1.2) hr2
  obtain ⟨W3, hW3⟩ : ∃ W, W = w2.alloc (.cells #[.int .i64 (Q.1.1 : Int), .int .i64 (Q.1.2 : Int), .slice ar Q.2.length cr] 75) := ⟨_, rfl⟩
  rw [← hW3] at hRt
  have hB3 : Below w2.heap.size w2 W3 := by rw [hW3]; exact (Below.refl _ w2).alloc (Nat.le_refl _) _
  have hB03 : Below W0.heap.size W0 W3 := hb2.trans (hB3.mono hs2)
  have hBw : Below w.heap.size w W3 := hB0.trans (hB03.mono hB0.size)
  have q3 := (hB03.cell (p := ⟨w.heap.size, 0, none⟩) (by show w.heap.size < W0.heap.size; have := hs0.out; omega)).trans q0
  have HCA3 : Hid (∀ n, Calls Try.prog 70 #[.slice ao p.length cap] (W3.drewN n) fun e w' => e = .returned (.bool A) ∧ w' = W3.drewN n) := fun n => CA.out _ (below_drewT hBw)
  have CM : Hid (∀ n, Calls Try.prog 79 #[.pointer (some ⟨w2.heap.size, 0, none⟩)] (W3.drewN n) fun e w' => e = .returned (.int .i64 (M : Int)) ∧ w' = W3.drewN n) := fun n => by
    rw [HM.out]
    exact manySums_any w2.heap.size _ _ Q.1.1 Q.1.2 Q.2 (W3.drewN n) (hRt.drewN n) (by omega)
  clear CA hr2 hb2 hRt HM
  go_upto_region 4 with fail
  rw [← hW3]
  clear hW3
  rcases HD.out with h1 | ⟨h1, h2⟩ | ⟨h1, h2, h3⟩ | ⟨h1, h2, h3, h4⟩
  · have hne : ((p.length : Int) == (M : Int)) = false := by simp; omega
    have hne' : ¬ ((p.length : Int) = (M : Int)) := by omega
    clear HD
    go_quiet (first
      | (go_at_call 79; with_reducible exact Calls.quiet_of_same (CM.out _)))
    go_wp2_with fail
    go_ret2
    exact ⟨rfl, below_drewT hBw⟩
  · rw [decide_eq_false h2] at CS1
    subst h1
    clear HD h2
    go_quiet (first
      | (go_at_call 79; with_reducible exact Calls.quiet_of_same (CM.out _))
      | (go_at_call 52; with_reducible exact Calls.quiet_of_same (CS1.out _)))
    go_wp2_with fail
    go_ret2
    exact ⟨rfl, below_drewT hBw⟩
  · rw [decide_eq_true h2] at CS1
    rw [decide_eq_false h3] at CS2
    subst h1
    clear HD h2 h3
    go_quiet (first
      | (go_at_call 79; with_reducible exact Calls.quiet_of_same (CM.out _))
      | (go_at_call 52; with_reducible exact Calls.quiet_of_same (CS1.out _))
      | (go_at_call 52; with_reducible exact Calls.quiet_of_same (CS2.out _)))
    go_wp2_with fail
    go_ret2
    exact ⟨rfl, below_drewT hBw⟩
  · rw [decide_eq_true h2] at CS1
    rw [decide_eq_true h3] at CS2
    rw [h4] at HCA3
    subst h1
    clear HD h2 h3 h4
    go_quiet (first
      | (go_at_call 79; with_reducible exact Calls.quiet_of_same (CM.out _))
      | (go_at_call 52; with_reducible exact Calls.quiet_of_same (CS1.out _))
      | (go_at_call 52; with_reducible exact Calls.quiet_of_same (CS2.out _))
      | (go_at_call 70; with_reducible exact Calls.quiet_of_same (HCA3.out _)))
    go_wp2_with fail
    go_ret2
    exact ⟨rfl, below_drewT hBw⟩

end Go.Proofs.Ytlglngmlaknmlaa
