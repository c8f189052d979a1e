/- The model's look at one instruction. -/
import Derived.Test.YtpopjapcgcnnfaaPwM
import Derived.Test.YtpopjapcgcnnfaaWsA
import Derived.BigQuiet
namespace Go.Proofs.Ytpopjapcgcnnfaa
open Go.RowKit Plain Sch Wan Prg

set_option maxRecDepth 100000 in
set_option maxHeartbeats 8000000 in
theorem l8Instr_any (x : Ins) (i n : Nat) (w : World) (hs : x.text.size ≤ maxLen) (hn : n ≤ 60) (_hin : i < n) :
    Calls Try.prog 51 #[.agg #[.int .i64 x.code, .int .i64 x.kind, .int .i64 x.no, .int .i64 x.num, .string x.text, .int .i64 x.dst], .int .i64 i, .int .i64 n] w fun e w' => e = .returned (.bool (speI x i n)) ∧ Below w.heap.size w w' := by
  obtain ⟨c, k, o, m, t, jt⟩ := x
  obtain ⟨R, hR⟩ : ∃ R, R = speI ⟨c, k, o, m, t, jt⟩ i n := ⟨_, rfl⟩
  rw [← hR]
  have HR : Hid (R = speI ⟨c, k, o, m, t, jt⟩ i n) := hR
  clear hR
  dsimp only at hs ⊢
  unfold maxLen at hs
  have hs' : (t.size : Int) ≤ 9223372036854775807 := by omega
  have hB : ∀ o, Below w.heap.size w (w.alloc o) := fun o => (Below.refl _ w).alloc (Nat.le_refl _) o
  go_enter Try.func51, Try.ntmps51
  go_wp2_with fail
  refine (l1Number_w m _).mono ?_
  rintro e w1 ⟨rfl, rfl⟩
  cases h1 : nOk m with
  | false =>
    have hF : Hid (R = false) := by show R = _; rw [HR.out]; unfold speI; dsimp only; simp [h1]
    clear HR 
    go_wp2
    go_ret
    exact ⟨by rw [hF.out]; rfl, hB _⟩
  | true =>
    by_cases h2 : t.size ≤ 30
    · have h2' : ¬ (30 : Int) < (t.size : Int) := by omega
      have h2n : ¬ 30 < t.size := by omega
      by_cases c1 : c = 1
      · subst c1
        go_wp2_with fail
        refine (l1In_any o 1 30 _).mono ?_
        rintro e w1 ⟨rfl, rfl⟩
        by_cases a1 : 1 ≤ o ∧ o ≤ 30
        · rw [show decide (1 ≤ o ∧ o ≤ 30) = true by simp [a1]]
          by_cases a2 : k = 0
          · subst a2
            by_cases a3 : m = 0
            · subst a3
              by_cases a4 : t = ⟨#[]⟩
              · subst a4
                by_cases a5 : jt = 0
                · subst a5
                  have hF : Hid (R = true) := by show R = _; rw [HR.out]; unfold speI; dsimp only; simp [h1, h2, a1]
                  clear HR 
                  go_wp2
                  go_ret
                  exact ⟨by rw [hF.out]; rfl, hB _⟩
                · have a5' : (jt == 0) = false := by simp [a5]
                  have hF : Hid (R = false) := by show R = _; rw [HR.out]; unfold speI; dsimp only; simp [h1, h2, a1, a5]
                  clear HR a5
                  go_wp2
                  go_ret
                  exact ⟨by rw [hF.out]; rfl, hB _⟩
              · have a4' : (t.toList == (ByteArray.mk #[]).toList) = false := str_neB a4
                have a4b : t.toList.isEmpty = false := str_some a4
                have hF : Hid (R = false) := by show R = _; rw [HR.out]; unfold speI; dsimp only; simp [h1, h2, a1, a4]
                clear HR a4
                go_wp2
                go_ret
                exact ⟨by rw [hF.out]; rfl, hB _⟩
            · have a3' : (m == 0) = false := by simp [a3]
              have hF : Hid (R = false) := by show R = _; rw [HR.out]; unfold speI; dsimp only; simp [h1, h2, a1, a3]
              clear HR a3
              go_wp2
              go_ret
              exact ⟨by rw [hF.out]; rfl, hB _⟩
          · have a2' : (k == 0) = false := by simp [a2]
            have hF : Hid (R = false) := by show R = _; rw [HR.out]; unfold speI; dsimp only; simp [h1, h2, a1, a2]
            clear HR a2
            go_wp2
            go_ret
            exact ⟨by rw [hF.out]; rfl, hB _⟩
        · rw [show decide (1 ≤ o ∧ o ≤ 30) = false by simp only [decide_eq_false_iff_not]; exact a1]
          have hF : Hid (R = false) := by show R = _; rw [HR.out]; unfold speI; dsimp only; simp [h1, h2, a1]
          clear HR 
          go_wp2
          go_ret
          exact ⟨by rw [hF.out]; rfl, hB _⟩
      · have c1' : (c == 1) = false := by simp [c1]
        by_cases c2 : c = 2
        · subst c2
          go_wp2_with fail
          refine (l1In_any k 1 5 _).mono ?_
          rintro e w1 ⟨rfl, rfl⟩
          by_cases b1 : 1 ≤ k ∧ k ≤ 5
          · rw [show decide (1 ≤ k ∧ k ≤ 5) = true by simp [b1]]
            by_cases b2 : o = 0
            · subst b2
              by_cases b3 : jt = 0
              · subst b3
                by_cases b4 : k ≤ 3
                · have b6 : ¬ k = 5 := by omega
                  have b6' : (k == 5) = false := by simp [b6]
                  by_cases b7 : t = ⟨#[]⟩
                  · subst b7
                    have hF : Hid (R = true) := by show R = _; rw [HR.out]; unfold speI; dsimp only; simp [h1, h2, b1, b4, b6]
                    clear HR 
                    go_wp2
                    go_ret
                    exact ⟨by rw [hF.out]; rfl, hB _⟩
                  · have b7' : (t.toList == (ByteArray.mk #[]).toList) = false := str_neB b7
                    have b7b : t.toList.isEmpty = false := str_some b7
                    have hF : Hid (R = false) := by show R = _; rw [HR.out]; unfold speI; dsimp only; simp [h1, h2, b1, b4, b6, b7]
                    clear HR b7
                    go_wp2
                    go_ret
                    exact ⟨by rw [hF.out]; rfl, hB _⟩
                · have b4' : decide (k ≤ 3) = false := by simpa using b4
                  by_cases b5 : m = 0
                  · subst b5
                    by_cases b6 : k = 5
                    · subst b6
                      have hF : Hid (R = true) := by show R = _; rw [HR.out]; unfold speI; dsimp only; simp [h1, h2, b1]
                      clear HR 
                      go_wp2
                      go_ret
                      exact ⟨by rw [hF.out]; rfl, hB _⟩
                    · have b6' : (k == 5) = false := by simp [b6]
                      by_cases b7 : t = ⟨#[]⟩
                      · subst b7
                        have hF : Hid (R = true) := by show R = _; rw [HR.out]; unfold speI; dsimp only; simp [h1, h2, b1, b4, b6]
                        clear HR 
                        go_wp2
                        go_ret
                        exact ⟨by rw [hF.out]; rfl, hB _⟩
                      · have b7' : (t.toList == (ByteArray.mk #[]).toList) = false := str_neB b7
                        have b7b : t.toList.isEmpty = false := str_some b7
                        have hF : Hid (R = false) := by show R = _; rw [HR.out]; unfold speI; dsimp only; simp [h1, h2, b1, b4, b6, b7]
                        clear HR b7
                        go_wp2
                        go_ret
                        exact ⟨by rw [hF.out]; rfl, hB _⟩
                  · have b5' : (m == 0) = false := by simp [b5]
                    have hF : Hid (R = false) := by show R = _; rw [HR.out]; unfold speI; dsimp only; simp [h1, h2, b1, b4, b5]
                    clear HR b5
                    go_wp2
                    go_ret
                    exact ⟨by rw [hF.out]; rfl, hB _⟩
              · have b3' : (jt == 0) = false := by simp [b3]
                have hF : Hid (R = false) := by show R = _; rw [HR.out]; unfold speI; dsimp only; simp [h1, h2, b1, b3]
                clear HR b3
                go_wp2
                go_ret
                exact ⟨by rw [hF.out]; rfl, hB _⟩
            · have b2' : (o == 0) = false := by simp [b2]
              have hF : Hid (R = false) := by show R = _; rw [HR.out]; unfold speI; dsimp only; simp [h1, h2, b1, b2]
              clear HR b2
              go_wp2
              go_ret
              exact ⟨by rw [hF.out]; rfl, hB _⟩
          · rw [show decide (1 ≤ k ∧ k ≤ 5) = false by simp only [decide_eq_false_iff_not]; exact b1]
            have hF : Hid (R = false) := by show R = _; rw [HR.out]; unfold speI; dsimp only; simp [h1, h2, b1]
            clear HR 
            go_wp2
            go_ret
            exact ⟨by rw [hF.out]; rfl, hB _⟩
        · have c2' : (c == 2) = false := by simp [c2]
          by_cases c3 : c = 3
          · subst c3
            by_cases d1 : o = 0
            · subst d1
              by_cases d2 : k = 0
              · subst d2
                by_cases d3 : t = ⟨#[]⟩
                · subst d3
                  go_wp2_with fail
                  refine (l1In_any m 0 1 _).mono ?_
                  rintro e w1 ⟨rfl, rfl⟩
                  by_cases d4 : 0 ≤ m ∧ m ≤ 1
                  · rw [show decide (0 ≤ m ∧ m ≤ 1) = true by simp [d4]]
                    by_cases d5 : (i : Int) < jt
                    · skip
                      by_cases d6 : jt < (n : Int)
                      · skip
                        have hF : Hid (R = true) := by show R = _; rw [HR.out]; unfold speI; dsimp only; simp [h1, h2, d4, d5, d6]
                        clear HR 
                        go_wp2
                        go_ret
                        exact ⟨by rw [hF.out]; rfl, hB _⟩
                      · have d6' : decide (jt < (n : Int)) = false := by simpa using d6
                        have hF : Hid (R = false) := by show R = _; rw [HR.out]; unfold speI; dsimp only; simp [h1, h2, d4, d5, d6]
                        clear HR d6
                        go_wp2
                        go_ret
                        exact ⟨by rw [hF.out]; rfl, hB _⟩
                    · have d5' : decide ((i : Int) < jt) = false := by simpa using d5
                      have hF : Hid (R = false) := by show R = _; rw [HR.out]; unfold speI; dsimp only; simp [h1, h2, d4, d5]
                      clear HR d5
                      go_wp2
                      go_ret
                      exact ⟨by rw [hF.out]; rfl, hB _⟩
                  · rw [show decide (0 ≤ m ∧ m ≤ 1) = false by simp only [decide_eq_false_iff_not]; exact d4]
                    have hF : Hid (R = false) := by show R = _; rw [HR.out]; unfold speI; dsimp only; simp [h1, h2, d4]
                    clear HR 
                    go_wp2
                    go_ret
                    exact ⟨by rw [hF.out]; rfl, hB _⟩
                · have d3' : (t.toList == (ByteArray.mk #[]).toList) = false := str_neB d3
                  have d3b : t.toList.isEmpty = false := str_some d3
                  have hF : Hid (R = false) := by show R = _; rw [HR.out]; unfold speI; dsimp only; simp [h1, h2, d3]
                  clear HR d3
                  go_wp2
                  go_ret
                  exact ⟨by rw [hF.out]; rfl, hB _⟩
              · have d2' : (k == 0) = false := by simp [d2]
                have hF : Hid (R = false) := by show R = _; rw [HR.out]; unfold speI; dsimp only; simp [h1, h2, d2]
                clear HR d2
                go_wp2
                go_ret
                exact ⟨by rw [hF.out]; rfl, hB _⟩
            · have d1' : (o == 0) = false := by simp [d1]
              have hF : Hid (R = false) := by show R = _; rw [HR.out]; unfold speI; dsimp only; simp [h1, h2, d1]
              clear HR d1
              go_wp2
              go_ret
              exact ⟨by rw [hF.out]; rfl, hB _⟩
          · have c3' : (c == 3) = false := by simp [c3]
            by_cases c4 : c = 4
            · subst c4
              by_cases e1 : o = 0
              · subst e1
                by_cases e2 : k = 0
                · subst e2
                  by_cases e3 : t = ⟨#[]⟩
                  · subst e3
                    by_cases e4 : m = 0
                    · subst e4
                      by_cases e5 : jt = 0
                      · subst e5
                        by_cases e6 : (i : Int) < (n : Int) - 1
                        · skip
                          have hF : Hid (R = true) := by show R = _; rw [HR.out]; unfold speI; dsimp only; simp [h1, h2, e6]
                          clear HR 
                          go_wp2
                          go_ret
                          exact ⟨by rw [hF.out]; rfl, hB _⟩
                        · have e6' : decide ((i : Int) < (n : Int) - 1) = false := by simpa using e6
                          have hF : Hid (R = false) := by show R = _; rw [HR.out]; unfold speI; dsimp only; simp [h1, h2, e6]
                          clear HR e6
                          go_wp2
                          go_ret
                          exact ⟨by rw [hF.out]; rfl, hB _⟩
                      · have e5' : (jt == 0) = false := by simp [e5]
                        have hF : Hid (R = false) := by show R = _; rw [HR.out]; unfold speI; dsimp only; simp [h1, h2, e5]
                        clear HR e5
                        go_wp2
                        go_ret
                        exact ⟨by rw [hF.out]; rfl, hB _⟩
                    · have e4' : (m == 0) = false := by simp [e4]
                      have hF : Hid (R = false) := by show R = _; rw [HR.out]; unfold speI; dsimp only; simp [h1, h2, e4]
                      clear HR e4
                      go_wp2
                      go_ret
                      exact ⟨by rw [hF.out]; rfl, hB _⟩
                  · have e3' : (t.toList == (ByteArray.mk #[]).toList) = false := str_neB e3
                    have e3b : t.toList.isEmpty = false := str_some e3
                    have hF : Hid (R = false) := by show R = _; rw [HR.out]; unfold speI; dsimp only; simp [h1, h2, e3]
                    clear HR e3
                    go_wp2
                    go_ret
                    exact ⟨by rw [hF.out]; rfl, hB _⟩
                · have e2' : (k == 0) = false := by simp [e2]
                  have hF : Hid (R = false) := by show R = _; rw [HR.out]; unfold speI; dsimp only; simp [h1, h2, e2]
                  clear HR e2
                  go_wp2
                  go_ret
                  exact ⟨by rw [hF.out]; rfl, hB _⟩
              · have e1' : (o == 0) = false := by simp [e1]
                have hF : Hid (R = false) := by show R = _; rw [HR.out]; unfold speI; dsimp only; simp [h1, h2, e1]
                clear HR e1
                go_wp2
                go_ret
                exact ⟨by rw [hF.out]; rfl, hB _⟩
            · have c4' : (c == 4) = false := by simp [c4]
              by_cases c5 : c = 5
              · subst c5
                by_cases f1 : o = 0
                · subst f1
                  by_cases f2 : k = 0
                  · subst f2
                    by_cases f3 : t = ⟨#[]⟩
                    · subst f3
                      by_cases f4 : m = 0
                      · subst f4
                        by_cases f5 : jt = 0
                        · subst f5
                          by_cases f6 : (i : Int) < (n : Int) - 1
                          · skip
                            have hF : Hid (R = false) := by show R = _; rw [HR.out]; unfold speI; dsimp only; simp [h1, h2, f6]
                            clear HR 
                            go_wp2
                            go_ret
                            exact ⟨by rw [hF.out]; rfl, hB _⟩
                          · have f6' : decide ((i : Int) < (n : Int) - 1) = false := by simpa using f6
                            have hF : Hid (R = true) := by show R = _; rw [HR.out]; unfold speI; dsimp only; simp [h1, h2, f6]
                            clear HR f6
                            go_wp2
                            go_ret
                            exact ⟨by rw [hF.out]; rfl, hB _⟩
                        · have f5' : (jt == 0) = false := by simp [f5]
                          have hF : Hid (R = false) := by show R = _; rw [HR.out]; unfold speI; dsimp only; simp [h1, h2, f5]
                          clear HR f5
                          go_wp2
                          go_ret
                          exact ⟨by rw [hF.out]; rfl, hB _⟩
                      · have f4' : (m == 0) = false := by simp [f4]
                        have hF : Hid (R = false) := by show R = _; rw [HR.out]; unfold speI; dsimp only; simp [h1, h2, f4]
                        clear HR f4
                        go_wp2
                        go_ret
                        exact ⟨by rw [hF.out]; rfl, hB _⟩
                    · have f3' : (t.toList == (ByteArray.mk #[]).toList) = false := str_neB f3
                      have f3b : t.toList.isEmpty = false := str_some f3
                      have hF : Hid (R = false) := by show R = _; rw [HR.out]; unfold speI; dsimp only; simp [h1, h2, f3]
                      clear HR f3
                      go_wp2
                      go_ret
                      exact ⟨by rw [hF.out]; rfl, hB _⟩
                  · have f2' : (k == 0) = false := by simp [f2]
                    have hF : Hid (R = false) := by show R = _; rw [HR.out]; unfold speI; dsimp only; simp [h1, h2, f2]
                    clear HR f2
                    go_wp2
                    go_ret
                    exact ⟨by rw [hF.out]; rfl, hB _⟩
                · have f1' : (o == 0) = false := by simp [f1]
                  have hF : Hid (R = false) := by show R = _; rw [HR.out]; unfold speI; dsimp only; simp [h1, h2, f1]
                  clear HR f1
                  go_wp2
                  go_ret
                  exact ⟨by rw [hF.out]; rfl, hB _⟩
              · have c5' : (c == 5) = false := by simp [c5]
                have hF : Hid (R = false) := by show R = _; rw [HR.out]; unfold speI; dsimp only; simp [h1, h2, c1, c2, c3, c4, c5]
                clear HR c1 c2 c3 c4 c5
                go_wp2
                go_ret
                exact ⟨by rw [hF.out]; rfl, hB _⟩
    · have h2' : (30 : Int) < (t.size : Int) := by omega
      have h2n : 30 < t.size := by omega
      have hF : Hid (R = false) := by show R = _; rw [HR.out]; unfold speI; dsimp only; simp [h1, h2]
      clear HR h2
      go_wp2
      go_ret
      exact ⟨by rw [hF.out]; rfl, hB _⟩

end Go.Proofs.Ytpopjapcgcnnfaa
