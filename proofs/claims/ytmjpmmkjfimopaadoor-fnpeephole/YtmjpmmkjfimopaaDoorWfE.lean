/- The program's goodWant. -/
import Derived.Test.YtmjpmmkjfimopaaDoorWfC
import Derived.Test.YtmjpmmkjfimopaaDoorWfD
namespace Go.Proofs.YtmjpmmkjfimopaaDoor
open Go.RowKit Plain Sch Wan

attribute [local go_sem] storeJ storeF

theorem askOk_eq (x : Wa) (h : isAsk x.kind = true) : askOk (askN x.kind) (askT x.kind) x = okAsk x := by
  have hb := ask_bounds h
  obtain ⟨k, n, m, t, a, b⟩ := x
  unfold askOk okAsk askN askT askedOk
  dsimp only at *
  have e1 : (decide (1 ≤ k) && decide (k ≤ 3)) = decide (k ≤ 3) := by simp [hb.1]
  rw [e1]
  simp only [Wa.mk.injEq, true_and]
  by_cases q1 : 1 ≤ n
  · by_cases q2 : n ≤ 30
    · by_cases q3 : a = 0
      · by_cases q4 : b = 0
        · by_cases q5 : k ≤ 3
          · have q6 : ¬ k = 5 := by omega
            by_cases q7 : t = ⟨#[]⟩ <;> simp [q1, q2, q3, q4, q5, q6, q7]
          · by_cases q6 : k = 5
            · by_cases q8 : m = 0 <;> simp [q1, q2, q3, q4, q6, q8]
            · by_cases q8 : m = 0 <;> by_cases q7 : t = ⟨#[]⟩ <;> simp [q1, q2, q3, q4, q5, q6, q7, q8]
        · simp [q4]
      · simp [q3]
    · simp [q2]
  · simp [q1]

theorem join_eq (x : Wa) (i : Nat) (h : isJoin x.kind = true) : (riseO (-1) i (own x) && weq x ⟨x.kind, 0, 0, ⟨#[]⟩, x.a, if isBin x.kind then x.b else 0⟩) = okW x i := by
  unfold okW
  by_cases hb : isBin x.kind = true
  · have ha : ¬ isAsk x.kind = true := by intro e; have := ask_bounds e; have := bin_bounds hb; omega
    rw [if_neg ha, if_pos hb, own_bin hb, if_pos hb]
    unfold okBin weq riseO
    unfold riseO
    unfold riseO
    cases h0 : decide (x = ⟨x.kind, 0, 0, ⟨#[]⟩, x.a, x.b⟩) with
    | false => simp
    | true =>
      by_cases p1 : 0 ≤ x.a <;> by_cases p2 : x.a < x.b <;> by_cases p3 : x.b < i <;> by_cases p4 : x.a < (i : Int) <;> by_cases p5 : -1 < x.a <;> simp [p1, p2, p3, p4, p5] <;> omega
  · have hn : isNot x.kind = true := by unfold isJoin at h; simpa [hb] using h
    have ha : ¬ isAsk x.kind = true := by intro e; have := ask_bounds e; have := not_bounds hn; omega
    rw [if_neg ha, if_neg hb, if_pos hn, own_not hn, if_neg hb]
    unfold okNot weq riseO
    unfold riseO
    cases h0 : decide (x = ⟨x.kind, 0, 0, ⟨#[]⟩, x.a, 0⟩) with
    | false => simp
    | true =>
      by_cases p1 : 0 ≤ x.a <;> by_cases p4 : x.a < (i : Int) <;> by_cases p5 : -1 < x.a <;> simp [p1, p4, p5] <;> omega

theorem goodAsking_any (x : Wa) (p1 p2 : Fn) (q1 r1 q2 r2 : Array Value) (w : World) (hs : x.text.size ≤ maxLen) (h : isAsk x.kind = true) :
    Calls Tryd.prog 74 #[.agg #[.int .i64 x.kind, .int .i64 x.no, .int .i64 x.num, .string x.text, .int .i64 x.a, .int .i64 x.b], .agg #[.bool (askN x.kind), .bool (askT x.kind), .func p1 q1 r1, .func p2 q2 r2]] w fun e w' => e = .returned (.bool (okAsk x)) ∧ Below w.heap.size w w' := by
  rw [← askOk_eq x h]
  obtain ⟨k, n, m, t, a, b⟩ := x
  exact goodAsking_bb (askN k) (askT k) k n m t a b p1 p2 q1 r1 q2 r2 w hs

theorem fnF_func {k : Int} (h : isAsk k = true) : ∃ p q r, fnF k = .func p q r := by
  have hb := ask_bounds h
  unfold fnF
  by_cases h3 : 1 ≤ k ∧ k ≤ 3
  · rw [if_pos h3]; exact ⟨_, _, _, rfl⟩
  · rw [if_neg h3]
    by_cases h4 : k = 4
    · rw [if_pos h4]; exact ⟨_, _, _, rfl⟩
    · rw [if_neg h4, if_pos (by omega)]; exact ⟨_, _, _, rfl⟩

theorem IsoF.func {k : Int} {w : World} {v : Value} (h : IsoF k w v) (ha : isAsk k = true) : ∃ p q r, v = .func p q r := by
  rcases h with ⟨_, g, rfl, _⟩ | ⟨_, rfl⟩ | ⟨_, rfl⟩ | ⟨h, rfl⟩
  · exact ⟨_, _, _, rfl⟩
  · exact ⟨_, _, _, rfl⟩
  · exact ⟨_, _, _, rfl⟩
  · rw [ha] at h; cases h

set_option maxRecDepth 100000 in
set_option maxHeartbeats 4000000 in
theorem goodWant_any (x : Wa) (i : Nat) (w : World) (hs : x.text.size ≤ maxLen) :
    Calls Tryd.prog 45 #[.agg #[.int .i64 x.kind, .int .i64 x.no, .int .i64 x.num, .string x.text, .int .i64 x.a, .int .i64 x.b], .int .i64 i] w fun e w' => e = .returned (.bool (okW x i)) ∧ Below w.heap.size w w' := by
  have CA : Hid (∀ (p1 p2 : Fn) (q1 r1 q2 r2 : Array Value) (W : World), isAsk x.kind = true → Calls Tryd.prog 74 #[.agg #[.int .i64 x.kind, .int .i64 x.no, .int .i64 x.num, .string x.text, .int .i64 x.a, .int .i64 x.b], .agg #[.bool (askN x.kind), .bool (askT x.kind), .func p1 q1 r1, .func p2 q2 r2]] W fun e w' => e = .returned (.bool (okAsk x)) ∧ Below W.heap.size W w') := fun p1 p2 q1 r1 q2 r2 W h => goodAsking_any x p1 p2 q1 r1 q2 r2 W hs h
  have CJ : Hid (∀ (W : World), isJoin x.kind = true → Calls Tryd.prog 75 #[.agg #[.int .i64 x.kind, .int .i64 x.no, .int .i64 x.num, .string x.text, .int .i64 x.a, .int .i64 x.b], .agg #[.bool (isBin x.kind), fnJ x.kind], .int .i64 i] W fun e w' => e = .returned (.bool (okW x i)) ∧ Below W.heap.size W w') := fun W h => by
    have := goodJoining_one (isBin x.kind) x.kind x.no x.num x.text x.a x.b x.kind i W _ rfl
    have e := join_eq x i h
    rw [← e]
    exact this
  have hA : isAsk x.kind = true → okW x i = okAsk x := fun h => by unfold okW; rw [if_pos h]
  have hN : isAsk x.kind = false → isJoin x.kind = false → okW x i = false := fun h1 h2 => by
    unfold okW isJoin at *
    simp at h2
    rw [h1, h2.1, h2.2]; rfl
  obtain ⟨R, hR⟩ : ∃ R, R = okW x i := ⟨_, rfl⟩
  rw [← hR] at CJ hA hN ⊢
  obtain ⟨RA, hRA⟩ : ∃ R, R = okAsk x := ⟨_, rfl⟩
  rw [← hRA] at CA hA
  clear hR hRA
  obtain ⟨k, n, m, t, a, b⟩ := x
  dsimp only at *
  have hB1 : ∀ o, Below w.heap.size w (w.alloc o) := fun o => (Below.refl _ w).alloc (Nat.le_refl _) o
  go_enter Tryd.func45, Tryd.ntmps45
  go_wp2_with fail
  refine (fieldAskOf_any k _).mono ?_
  rintro e w1 ⟨v, rfl, hv, hb1⟩
  have hB2 : Below w.heap.size w w1 := (hB1 _).trans (hb1.mono (by simp))
  have hs1 : w.heap.size < w1.heap.size := by have := hb1.size; simp at this; omega
  have x0 := (hb1.cell (p := ⟨w.heap.size, 0, none⟩) (by simp)).trans (show _ = some (.int .i64 k) by simp)
  have x1 := (hb1.cell (p := ⟨w.heap.size, 1, none⟩) (by simp)).trans (show _ = some (.int .i64 n) by simp)
  have x2 := (hb1.cell (p := ⟨w.heap.size, 2, none⟩) (by simp)).trans (show _ = some (.int .i64 m) by simp)
  have x3 := (hb1.cell (p := ⟨w.heap.size, 3, none⟩) (by simp)).trans (show _ = some (.string t) by simp)
  have x4 := (hb1.cell (p := ⟨w.heap.size, 4, none⟩) (by simp)).trans (show _ = some (.int .i64 a) by simp)
  have x5 := (hb1.cell (p := ⟨w.heap.size, 5, none⟩) (by simp)).trans (show _ = some (.int .i64 b) by simp)
  clear hb1
  cases hk : isAsk k with
  | true =>
    have hF : Hid (R = RA) := hA hk
    obtain ⟨p1, q1, r1, e1⟩ := fnF_func hk
    obtain ⟨p2, q2, r2, rfl⟩ := hv.func hk
    have CA2 : Hid (∀ (W : World), Calls Tryd.prog 74 #[.agg #[.int .i64 k, .int .i64 n, .int .i64 m, .string t, .int .i64 a, .int .i64 b], .agg #[.bool (askN k), .bool (askT k), .func p1 q1 r1, .func p2 q2 r2]] W fun e w' => e = .returned (.bool RA) ∧ Below W.heap.size W w') := fun W => CA.out p1 p2 q1 r1 q2 r2 W hk
    rw [e1]
    clear e1 hA hN hv CA CJ hk
    generalize askN k = b1 at *
    generalize askT k = b2 at *
    go_wp2_with fail
    refine (CA2.out _).mono ?_
    rintro e w2 ⟨rfl, hb2⟩
    go_wp2
    go_ret
    exact ⟨by rw [hF.out]; rfl, (hB2.alloc (by omega) _).trans (hb2.mono (by simp; omega))⟩
  | false =>
    have hvn : v = .nilFunc := by
      rcases hv with ⟨h, _⟩ | ⟨h, _⟩ | ⟨h, _⟩ | ⟨_, h⟩
      · unfold askN at h; unfold isAsk at hk; simp at h hk; omega
      · rw [h] at hk; cases hk
      · rw [h] at hk; cases hk
      · exact h
    subst hvn
    have HN : Hid (isJoin k = false → R = false) := fun h => hN hk h
    clear hv CA hA hN hk
    generalize askN k = b1 at *
    generalize askT k = b2 at *
    obtain ⟨W2, hW2⟩ : ∃ W, W = w1.alloc (.cells #[.bool b1, .bool b2, fnF k, .nilFunc] 107) := ⟨_, rfl⟩
    have hB3 : Below w.heap.size w W2 := by rw [hW2]; exact hB2.alloc (by omega) _
    have hs2 : Hid (w.heap.size + 1 < W2.heap.size) := by show _ < _; rw [hW2]; simp; omega
    have hA2 : Below w1.heap.size w1 W2 := by rw [hW2]; exact (Below.refl _ w1).alloc (Nat.le_refl _) _
    have x0 := (hA2.cell (p := ⟨w.heap.size, 0, none⟩) hs1).trans x0
    have x1 := (hA2.cell (p := ⟨w.heap.size, 1, none⟩) hs1).trans x1
    have x2 := (hA2.cell (p := ⟨w.heap.size, 2, none⟩) hs1).trans x2
    have x3 := (hA2.cell (p := ⟨w.heap.size, 3, none⟩) hs1).trans x3
    have x4 := (hA2.cell (p := ⟨w.heap.size, 4, none⟩) hs1).trans x4
    have x5 := (hA2.cell (p := ⟨w.heap.size, 5, none⟩) hs1).trans x5
    go_wp2_with fail
    rw [← hW2]
    clear hW2 hA2
    refine (wantJoinOf_any k _).mono ?_
    rintro e w3 ⟨rfl, hb3⟩
    have hlt2 : w.heap.size < W2.heap.size := by have := hs2.out; omega
    have hB4 : Below w.heap.size w w3 := hB3.trans (hb3.mono (by omega))
    have hs3 : w.heap.size < w3.heap.size := by have := hb3.size; omega
    have x0 := (hb3.cell (p := ⟨w.heap.size, 0, none⟩) hlt2).trans x0
    have x1 := (hb3.cell (p := ⟨w.heap.size, 1, none⟩) hlt2).trans x1
    have x2 := (hb3.cell (p := ⟨w.heap.size, 2, none⟩) hlt2).trans x2
    have x3 := (hb3.cell (p := ⟨w.heap.size, 3, none⟩) hlt2).trans x3
    have x4 := (hb3.cell (p := ⟨w.heap.size, 4, none⟩) hlt2).trans x4
    have x5 := (hb3.cell (p := ⟨w.heap.size, 5, none⟩) hlt2).trans x5
    clear hb3 hB3 hs2 hlt2
    cases hj : isJoin k with
    | false =>
      have hF : Hid (R = false) := HN.out hj
      clear HN CJ
      go_wp2
      go_ret
      exact ⟨by rw [hF.out]; rfl, hB4.alloc (by omega) _⟩
    | true =>
      have CJ2 : Hid (∀ (W : World), Calls Tryd.prog 75 #[.agg #[.int .i64 k, .int .i64 n, .int .i64 m, .string t, .int .i64 a, .int .i64 b], .agg #[.bool (isBin k), fnJ k], .int .i64 i] W fun e w' => e = .returned (.bool R) ∧ Below W.heap.size W w') := fun W => CJ.out W hj
      clear HN CJ
      go_wp2_with fail
      refine (CJ2.out _).mono ?_
      rintro e w5 ⟨rfl, hb5⟩
      go_wp2
      go_ret
      exact ⟨rfl, (hB4.alloc (by omega) _).trans (hb5.mono (by simp; omega))⟩

end Go.Proofs.YtmjpmmkjfimopaaDoor
