/- The model's look at one instruction. The model's GoodProgram. StepsOf, the program's and the model's. -/
import Derived.Test.YtmjpmmkjfimopaaDoorHe
import Derived.Test.YtmjpmmkjfimopaaDoorHs
import Derived.BigQuiet
import Derived.Test.YtmjpmmkjfimopaaDoorPiD
namespace Go.Proofs.YtmjpmmkjfimopaaDoor
open Go.RowKit Plain Sch Wan Prg

set_option maxRecDepth 100000 in
set_option maxHeartbeats 8000000 in
theorem l8Instr_any (x : Ins) (i n : Nat) (w : World) (hs : x.text.size ≤ maxLen) (hn : n ≤ 60) (_hin : i < n) :
    Calls Tryd.prog 60 #[.agg #[.int .i64 x.code, .int .i64 x.kind, .int .i64 x.no, .int .i64 x.num, .string x.text, .int .i64 x.dst], .int .i64 i, .int .i64 n] w fun e w' => e = .returned (.bool (speI x i n)) ∧ Below w.heap.size w w' := by
  obtain ⟨c, k, o, m, t, jt⟩ := x
  obtain ⟨R, hR⟩ : ∃ R, R = speI ⟨c, k, o, m, t, jt⟩ i n := ⟨_, rfl⟩
  rw [← hR]
  have HR : Hid (R = speI ⟨c, k, o, m, t, jt⟩ i n) := hR
  clear hR
  dsimp only at hs ⊢
  unfold maxLen at hs
  have hs' : (t.size : Int) ≤ 9223372036854775807 := by omega
  have hB : ∀ o, Below w.heap.size w (w.alloc o) := fun o => (Below.refl _ w).alloc (Nat.le_refl _) o
  go_enter Tryd.func60, Tryd.ntmps60
  go_wp2_with fail
  refine (l1Number_w m _).mono ?_
  rintro e w1 ⟨rfl, rfl⟩
  cases h1 : nOk m with
  | false =>
    have hF : Hid (R = false) := by show R = _; rw [HR.out]; unfold speI; dsimp only; simp [h1]
    clear HR 
    go_wp2
    go_ret
    exact ⟨by rw [hF.out]; rfl, hB _⟩
  | true =>
    by_cases h2 : t.size ≤ 30
    · have h2' : ¬ (30 : Int) < (t.size : Int) := by omega
      have h2n : ¬ 30 < t.size := by omega
      by_cases c1 : c = 1
      · subst c1
        go_wp2_with fail
        refine (l1In_any o 1 30 _).mono ?_
        rintro e w1 ⟨rfl, rfl⟩
        by_cases a1 : 1 ≤ o ∧ o ≤ 30
        · rw [show decide (1 ≤ o ∧ o ≤ 30) = true by simp [a1]]
          by_cases a2 : k = 0
          · subst a2
            by_cases a3 : m = 0
            · subst a3
              by_cases a4 : t = ⟨#[]⟩
              · subst a4
                by_cases a5 : jt = 0
                · subst a5
                  have hF : Hid (R = true) := by show R = _; rw [HR.out]; unfold speI; dsimp only; simp [h1, h2, a1]
                  clear HR 
                  go_wp2
                  go_ret
                  exact ⟨by rw [hF.out]; rfl, hB _⟩
                · have a5' : (jt == 0) = false := by simp [a5]
                  have hF : Hid (R = false) := by show R = _; rw [HR.out]; unfold speI; dsimp only; simp [h1, h2, a1, a5]
                  clear HR a5
                  go_wp2
                  go_ret
                  exact ⟨by rw [hF.out]; rfl, hB _⟩
              · have a4' : (t.toList == (ByteArray.mk #[]).toList) = false := str_neB a4
                have a4b : t.toList.isEmpty = false := str_some a4
                have hF : Hid (R = false) := by show R = _; rw [HR.out]; unfold speI; dsimp only; simp [h1, h2, a1, a4]
                clear HR a4
                go_wp2
                go_ret
                exact ⟨by rw [hF.out]; rfl, hB _⟩
            · have a3' : (m == 0) = false := by simp [a3]
              have hF : Hid (R = false) := by show R = _; rw [HR.out]; unfold speI; dsimp only; simp [h1, h2, a1, a3]
              clear HR a3
              go_wp2
              go_ret
              exact ⟨by rw [hF.out]; rfl, hB _⟩
          · have a2' : (k == 0) = false := by simp [a2]
            have hF : Hid (R = false) := by show R = _; rw [HR.out]; unfold speI; dsimp only; simp [h1, h2, a1, a2]
            clear HR a2
            go_wp2
            go_ret
            exact ⟨by rw [hF.out]; rfl, hB _⟩
        · rw [show decide (1 ≤ o ∧ o ≤ 30) = false by simp only [decide_eq_false_iff_not]; exact a1]
          have hF : Hid (R = false) := by show R = _; rw [HR.out]; unfold speI; dsimp only; simp [h1, h2, a1]
          clear HR 
          go_wp2
          go_ret
          exact ⟨by rw [hF.out]; rfl, hB _⟩
      · have c1' : (c == 1) = false := by simp [c1]
        by_cases c2 : c = 2
        · subst c2
          go_wp2_with fail
          refine (l1In_any k 1 5 _).mono ?_
          rintro e w1 ⟨rfl, rfl⟩
          by_cases b1 : 1 ≤ k ∧ k ≤ 5
          · rw [show decide (1 ≤ k ∧ k ≤ 5) = true by simp [b1]]
            by_cases b2 : o = 0
            · subst b2
              by_cases b3 : jt = 0
              · subst b3
                by_cases b4 : k ≤ 3
                · have b6 : ¬ k = 5 := by omega
                  have b6' : (k == 5) = false := by simp [b6]
                  by_cases b7 : t = ⟨#[]⟩
                  · subst b7
                    have hF : Hid (R = true) := by show R = _; rw [HR.out]; unfold speI; dsimp only; simp [h1, h2, b1, b4, b6]
                    clear HR 
                    go_wp2
                    go_ret
                    exact ⟨by rw [hF.out]; rfl, hB _⟩
                  · have b7' : (t.toList == (ByteArray.mk #[]).toList) = false := str_neB b7
                    have b7b : t.toList.isEmpty = false := str_some b7
                    have hF : Hid (R = false) := by show R = _; rw [HR.out]; unfold speI; dsimp only; simp [h1, h2, b1, b4, b6, b7]
                    clear HR b7
                    go_wp2
                    go_ret
                    exact ⟨by rw [hF.out]; rfl, hB _⟩
                · have b4' : decide (k ≤ 3) = false := by simpa using b4
                  by_cases b5 : m = 0
                  · subst b5
                    by_cases b6 : k = 5
                    · subst b6
                      have hF : Hid (R = true) := by show R = _; rw [HR.out]; unfold speI; dsimp only; simp [h1, h2, b1]
                      clear HR 
                      go_wp2
                      go_ret
                      exact ⟨by rw [hF.out]; rfl, hB _⟩
                    · have b6' : (k == 5) = false := by simp [b6]
                      by_cases b7 : t = ⟨#[]⟩
                      · subst b7
                        have hF : Hid (R = true) := by show R = _; rw [HR.out]; unfold speI; dsimp only; simp [h1, h2, b1, b4, b6]
                        clear HR 
                        go_wp2
                        go_ret
                        exact ⟨by rw [hF.out]; rfl, hB _⟩
                      · have b7' : (t.toList == (ByteArray.mk #[]).toList) = false := str_neB b7
                        have b7b : t.toList.isEmpty = false := str_some b7
                        have hF : Hid (R = false) := by show R = _; rw [HR.out]; unfold speI; dsimp only; simp [h1, h2, b1, b4, b6, b7]
                        clear HR b7
                        go_wp2
                        go_ret
                        exact ⟨by rw [hF.out]; rfl, hB _⟩
                  · have b5' : (m == 0) = false := by simp [b5]
                    have hF : Hid (R = false) := by show R = _; rw [HR.out]; unfold speI; dsimp only; simp [h1, h2, b1, b4, b5]
                    clear HR b5
                    go_wp2
                    go_ret
                    exact ⟨by rw [hF.out]; rfl, hB _⟩
              · have b3' : (jt == 0) = false := by simp [b3]
                have hF : Hid (R = false) := by show R = _; rw [HR.out]; unfold speI; dsimp only; simp [h1, h2, b1, b3]
                clear HR b3
                go_wp2
                go_ret
                exact ⟨by rw [hF.out]; rfl, hB _⟩
            · have b2' : (o == 0) = false := by simp [b2]
              have hF : Hid (R = false) := by show R = _; rw [HR.out]; unfold speI; dsimp only; simp [h1, h2, b1, b2]
              clear HR b2
              go_wp2
              go_ret
              exact ⟨by rw [hF.out]; rfl, hB _⟩
          · rw [show decide (1 ≤ k ∧ k ≤ 5) = false by simp only [decide_eq_false_iff_not]; exact b1]
            have hF : Hid (R = false) := by show R = _; rw [HR.out]; unfold speI; dsimp only; simp [h1, h2, b1]
            clear HR 
            go_wp2
            go_ret
            exact ⟨by rw [hF.out]; rfl, hB _⟩
        · have c2' : (c == 2) = false := by simp [c2]
          by_cases c3 : c = 3
          · subst c3
            by_cases d1 : o = 0
            · subst d1
              by_cases d2 : k = 0
              · subst d2
                by_cases d3 : t = ⟨#[]⟩
                · subst d3
                  go_wp2_with fail
                  refine (l1In_any m 0 1 _).mono ?_
                  rintro e w1 ⟨rfl, rfl⟩
                  by_cases d4 : 0 ≤ m ∧ m ≤ 1
                  · rw [show decide (0 ≤ m ∧ m ≤ 1) = true by simp [d4]]
                    by_cases d5 : (i : Int) < jt
                    · skip
                      by_cases d6 : jt < (n : Int)
                      · skip
                        have hF : Hid (R = true) := by show R = _; rw [HR.out]; unfold speI; dsimp only; simp [h1, h2, d4, d5, d6]
                        clear HR 
                        go_wp2
                        go_ret
                        exact ⟨by rw [hF.out]; rfl, hB _⟩
                      · have d6' : decide (jt < (n : Int)) = false := by simpa using d6
                        have hF : Hid (R = false) := by show R = _; rw [HR.out]; unfold speI; dsimp only; simp [h1, h2, d4, d5, d6]
                        clear HR d6
                        go_wp2
                        go_ret
                        exact ⟨by rw [hF.out]; rfl, hB _⟩
                    · have d5' : decide ((i : Int) < jt) = false := by simpa using d5
                      have hF : Hid (R = false) := by show R = _; rw [HR.out]; unfold speI; dsimp only; simp [h1, h2, d4, d5]
                      clear HR d5
                      go_wp2
                      go_ret
                      exact ⟨by rw [hF.out]; rfl, hB _⟩
                  · rw [show decide (0 ≤ m ∧ m ≤ 1) = false by simp only [decide_eq_false_iff_not]; exact d4]
                    have hF : Hid (R = false) := by show R = _; rw [HR.out]; unfold speI; dsimp only; simp [h1, h2, d4]
                    clear HR 
                    go_wp2
                    go_ret
                    exact ⟨by rw [hF.out]; rfl, hB _⟩
                · have d3' : (t.toList == (ByteArray.mk #[]).toList) = false := str_neB d3
                  have d3b : t.toList.isEmpty = false := str_some d3
                  have hF : Hid (R = false) := by show R = _; rw [HR.out]; unfold speI; dsimp only; simp [h1, h2, d3]
                  clear HR d3
                  go_wp2
                  go_ret
                  exact ⟨by rw [hF.out]; rfl, hB _⟩
              · have d2' : (k == 0) = false := by simp [d2]
                have hF : Hid (R = false) := by show R = _; rw [HR.out]; unfold speI; dsimp only; simp [h1, h2, d2]
                clear HR d2
                go_wp2
                go_ret
                exact ⟨by rw [hF.out]; rfl, hB _⟩
            · have d1' : (o == 0) = false := by simp [d1]
              have hF : Hid (R = false) := by show R = _; rw [HR.out]; unfold speI; dsimp only; simp [h1, h2, d1]
              clear HR d1
              go_wp2
              go_ret
              exact ⟨by rw [hF.out]; rfl, hB _⟩
          · have c3' : (c == 3) = false := by simp [c3]
            by_cases c4 : c = 4
            · subst c4
              by_cases e1 : o = 0
              · subst e1
                by_cases e2 : k = 0
                · subst e2
                  by_cases e3 : t = ⟨#[]⟩
                  · subst e3
                    by_cases e4 : m = 0
                    · subst e4
                      by_cases e5 : jt = 0
                      · subst e5
                        by_cases e6 : (i : Int) < (n : Int) - 1
                        · skip
                          have hF : Hid (R = true) := by show R = _; rw [HR.out]; unfold speI; dsimp only; simp [h1, h2, e6]
                          clear HR 
                          go_wp2
                          go_ret
                          exact ⟨by rw [hF.out]; rfl, hB _⟩
                        · have e6' : decide ((i : Int) < (n : Int) - 1) = false := by simpa using e6
                          have hF : Hid (R = false) := by show R = _; rw [HR.out]; unfold speI; dsimp only; simp [h1, h2, e6]
                          clear HR e6
                          go_wp2
                          go_ret
                          exact ⟨by rw [hF.out]; rfl, hB _⟩
                      · have e5' : (jt == 0) = false := by simp [e5]
                        have hF : Hid (R = false) := by show R = _; rw [HR.out]; unfold speI; dsimp only; simp [h1, h2, e5]
                        clear HR e5
                        go_wp2
                        go_ret
                        exact ⟨by rw [hF.out]; rfl, hB _⟩
                    · have e4' : (m == 0) = false := by simp [e4]
                      have hF : Hid (R = false) := by show R = _; rw [HR.out]; unfold speI; dsimp only; simp [h1, h2, e4]
                      clear HR e4
                      go_wp2
                      go_ret
                      exact ⟨by rw [hF.out]; rfl, hB _⟩
                  · have e3' : (t.toList == (ByteArray.mk #[]).toList) = false := str_neB e3
                    have e3b : t.toList.isEmpty = false := str_some e3
                    have hF : Hid (R = false) := by show R = _; rw [HR.out]; unfold speI; dsimp only; simp [h1, h2, e3]
                    clear HR e3
                    go_wp2
                    go_ret
                    exact ⟨by rw [hF.out]; rfl, hB _⟩
                · have e2' : (k == 0) = false := by simp [e2]
                  have hF : Hid (R = false) := by show R = _; rw [HR.out]; unfold speI; dsimp only; simp [h1, h2, e2]
                  clear HR e2
                  go_wp2
                  go_ret
                  exact ⟨by rw [hF.out]; rfl, hB _⟩
              · have e1' : (o == 0) = false := by simp [e1]
                have hF : Hid (R = false) := by show R = _; rw [HR.out]; unfold speI; dsimp only; simp [h1, h2, e1]
                clear HR e1
                go_wp2
                go_ret
                exact ⟨by rw [hF.out]; rfl, hB _⟩
            · have c4' : (c == 4) = false := by simp [c4]
              by_cases c5 : c = 5
              · subst c5
                by_cases f1 : o = 0
                · subst f1
                  by_cases f2 : k = 0
                  · subst f2
                    by_cases f3 : t = ⟨#[]⟩
                    · subst f3
                      by_cases f4 : m = 0
                      · subst f4
                        by_cases f5 : jt = 0
                        · subst f5
                          by_cases f6 : (i : Int) < (n : Int) - 1
                          · skip
                            have hF : Hid (R = false) := by show R = _; rw [HR.out]; unfold speI; dsimp only; simp [h1, h2, f6]
                            clear HR 
                            go_wp2
                            go_ret
                            exact ⟨by rw [hF.out]; rfl, hB _⟩
                          · have f6' : decide ((i : Int) < (n : Int) - 1) = false := by simpa using f6
                            have hF : Hid (R = true) := by show R = _; rw [HR.out]; unfold speI; dsimp only; simp [h1, h2, f6]
                            clear HR f6
                            go_wp2
                            go_ret
                            exact ⟨by rw [hF.out]; rfl, hB _⟩
                        · have f5' : (jt == 0) = false := by simp [f5]
                          have hF : Hid (R = false) := by show R = _; rw [HR.out]; unfold speI; dsimp only; simp [h1, h2, f5]
                          clear HR f5
                          go_wp2
                          go_ret
                          exact ⟨by rw [hF.out]; rfl, hB _⟩
                      · have f4' : (m == 0) = false := by simp [f4]
                        have hF : Hid (R = false) := by show R = _; rw [HR.out]; unfold speI; dsimp only; simp [h1, h2, f4]
                        clear HR f4
                        go_wp2
                        go_ret
                        exact ⟨by rw [hF.out]; rfl, hB _⟩
                    · have f3' : (t.toList == (ByteArray.mk #[]).toList) = false := str_neB f3
                      have f3b : t.toList.isEmpty = false := str_some f3
                      have hF : Hid (R = false) := by show R = _; rw [HR.out]; unfold speI; dsimp only; simp [h1, h2, f3]
                      clear HR f3
                      go_wp2
                      go_ret
                      exact ⟨by rw [hF.out]; rfl, hB _⟩
                  · have f2' : (k == 0) = false := by simp [f2]
                    have hF : Hid (R = false) := by show R = _; rw [HR.out]; unfold speI; dsimp only; simp [h1, h2, f2]
                    clear HR f2
                    go_wp2
                    go_ret
                    exact ⟨by rw [hF.out]; rfl, hB _⟩
                · have f1' : (o == 0) = false := by simp [f1]
                  have hF : Hid (R = false) := by show R = _; rw [HR.out]; unfold speI; dsimp only; simp [h1, h2, f1]
                  clear HR f1
                  go_wp2
                  go_ret
                  exact ⟨by rw [hF.out]; rfl, hB _⟩
              · have c5' : (c == 5) = false := by simp [c5]
                have hF : Hid (R = false) := by show R = _; rw [HR.out]; unfold speI; dsimp only; simp [h1, h2, c1, c2, c3, c4, c5]
                clear HR c1 c2 c3 c4 c5
                go_wp2
                go_ret
                exact ⟨by rw [hF.out]; rfl, hB _⟩
    · have h2' : (30 : Int) < (t.size : Int) := by omega
      have h2n : 30 < t.size := by omega
      have hF : Hid (R = false) := by show R = _; rw [HR.out]; unfold speI; dsimp only; simp [h1, h2]
      clear HR h2
      go_wp2
      go_ret
      exact ⟨by rw [hF.out]; rfl, hB _⟩

end Go.Proofs.YtmjpmmkjfimopaaDoor

namespace Go.Proofs.YtmjpmmkjfimopaaDoor
open Go.RowKit Plain Sch Wan Prg

set_option maxRecDepth 100000 in
set_option maxHeartbeats 4000000 in
theorem specGoodP (T : List Ins) (v : Value) (w : World) (hT : InsAt w w.heap.size v T) :
    Calls Tryd.prog 33 #[.agg #[v]] w fun e w' => e = .returned (.bool (gp T)) ∧ Below w.heap.size w w' := by
  obtain ⟨ao, cap, rfl, hlc, hcm, hrow, hnm⟩ := hT
  have HROW : Hid (∀ i, i < T.length → ∃ g o, ao = some ⟨g, o, none⟩ ∧ g < w.heap.size ∧ InsIn w g (o + i * 6) (ins T i)) := hrow
  have HNM : Hid (∀ i, i < T.length → (ins T i).text.size ≤ maxLen) := hnm
  clear hrow hnm
  unfold maxLen at hcm
  have hB1 : ∀ o, Below w.heap.size w (w.alloc o) := fun o => (Below.refl _ w).alloc (Nat.le_refl _) o
  go_enter Tryd.func33, Tryd.ntmps33
  go_wp2_with fail
  refine (l1In_any (T.length : Int) 1 60 _).mono ?_
  rintro e w1 ⟨rfl, rfl⟩
  by_cases h60 : 1 ≤ T.length ∧ T.length ≤ 60
  · have h60' : decide ((1 : Int) ≤ (T.length : Int) ∧ (T.length : Int) ≤ 60) = true := by simp; omega
    rw [h60']
    clear h60'
    obtain ⟨h0, h60⟩ := h60
    have hBX := hB1 (.cells #[.slice ao T.length cap] 30)
    go_wp2
    go_loopw [15] (fun vi wr => ∃ i : Nat, i ≤ T.length ∧ vi = .int .i64 (i : Int) ∧ Hid (∀ j, j < i → okP (ins T j) j ((T.length : Int) - 1) = true) ∧ Hid (Below w.heap.size w wr) ∧ w.heap.size < wr.heap.size)
      (fun vi _ => T.length - (intOf vi).toNat)
    case atStart => exact ⟨0, by omega, rfl, fun j hj => by omega, hBX, by simp⟩
    case round =>
      obtain ⟨i, hi, rfl, hall, hBw, hsz⟩ := hrel
      by_cases hlt : i < T.length
      · have hlt' : (i : Int) < (T.length : Int) := by omega
        obtain ⟨g, o, rfl, hg, hty⟩ := HROW.out i hlt
        have hci := hty.below hBw.out hg
        have hni := HNM.out i hlt
        have hBad : Hid (okP (ins T i) i ((T.length : Int) - 1) = false → gp T = false) := fun h => gp_bad hlt h
        have hNx : Hid (okP (ins T i) i ((T.length : Int) - 1) = true → ∀ j, j < i + 1 → okP (ins T j) j ((T.length : Int) - 1) = true) := fun h j hj => by
          by_cases e : j = i
          · rw [e]; exact h
          · exact hall.out j (by omega)
        have hEQ : Hid ((speI (ins T i) i T.length && !(decide ((i : Int) = T.length - 1) && decide ((ins T i).code ≠ 5))) = okP (ins T i) i ((T.length : Int) - 1)) := speI_eq (ins T i) i T.length hlt
        have CG : Hid (∀ W : World, Calls Tryd.prog 60 #[.agg #[.int .i64 (ins T i).code, .int .i64 (ins T i).kind, .int .i64 (ins T i).no, .int .i64 (ins T i).num, .string (ins T i).text, .int .i64 (ins T i).dst], .int .i64 i, .int .i64 T.length] W fun e w' => e = .returned (.bool (speI (ins T i) i T.length)) ∧ Below W.heap.size W w') := fun W => l8Instr_any (ins T i) i T.length W hni h60 hlt
        generalize okP (ins T i) i ((T.length : Int) - 1) = ok at hBad hNx hEQ
        generalize speI (ins T i) i T.length = ok2 at CG hEQ
        generalize ins T i = x at hci hni CG hEQ
        obtain ⟨c, k, n, m, t, jt⟩ := x
        dsimp only at hci hni CG hEQ
        obtain ⟨c0, c1, c2, c3, c4, c5⟩ := hci
        dsimp only at c0 c1 c2 c3 c4 c5
        clear hty hni hall
        obtain ⟨W3, hW3⟩ : ∃ W, W = wr.alloc (.cells #[.int .i64 c, .int .i64 k, .int .i64 n, .int .i64 m, .string t, .int .i64 jt] 59) := ⟨_, rfl⟩
        have hA3 : Below wr.heap.size wr W3 := by rw [hW3]; exact (Below.refl _ wr).alloc (Nat.le_refl _) _
        have hl3 : wr.heap.size < W3.heap.size := by rw [hW3]; simp
        have z0 : W3.cell? ⟨wr.heap.size, 0, none⟩ = some (.int .i64 c) := by rw [hW3]; go_simp
        go_wp2_with fail
        rw [← hW3]
        clear hW3 c0 c1 c2 c3 c4 c5
        refine (CG.out _).mono ?_
        rintro e w4 ⟨rfl, hb4⟩
        have hA4 : Hid (Below wr.heap.size wr w4) := hA3.trans (hb4.mono (by omega))
        have hl4 : w.heap.size < w4.heap.size := by have := hb4.size; omega
        have z0 := (hb4.cell (p := ⟨wr.heap.size, 0, none⟩) hl3).trans z0
        have hB4 : Hid (Below w.heap.size w w4) := hBw.out.trans (hA4.out.mono (by omega))
        clear hb4 hA3 CG
        cases ok2 with
        | false =>
          have hF : Hid (gp T = false) := hBad.out (by rw [← hEQ.out]; rfl)
          clear hBad hNx hEQ
          go_wp2
          go_ret
          exact ⟨by rw [hF.out]; rfl, hB4.out⟩
        | true =>
          by_cases hl : (i : Int) = T.length - 1
          · by_cases h5 : c = 5
            · subst h5
              have hNx2 : Hid (∀ j, j < i + 1 → okP (ins T j) j ((T.length : Int) - 1) = true) := hNx.out (by rw [← hEQ.out]; simp)
              clear hBad hNx hEQ
              go_wp2
              go_roundw
              case rel => exact ⟨i + 1, by omega, by go_num, hNx2, hB4, hl4⟩
              case measure => simp [intOf]; omega
            · have h5' : (c != 5) = true := by simp [h5]
              have hF : Hid (gp T = false) := hBad.out (by rw [← hEQ.out]; simp [hl, h5])
              clear hBad hNx hEQ h5
              go_wp2
              go_ret
              exact ⟨by rw [hF.out]; rfl, hB4.out⟩
          · have hl' : ((i : Int) == (T.length : Int) - 1) = false := by simp [hl]
            have hNx2 : Hid (∀ j, j < i + 1 → okP (ins T j) j ((T.length : Int) - 1) = true) := hNx.out (by rw [← hEQ.out]; simp [hl])
            clear hBad hNx hEQ hl
            go_wp2
            go_roundw
            case rel => exact ⟨i + 1, by omega, by go_num, hNx2, hB4, hl4⟩
            case measure => simp [intOf]; omega
      · have hlt' : ¬ (i : Int) < (T.length : Int) := by omega
        have hT : Hid (gp T = true) := gp_all h0 h60 (fun j hj => hall.out j (by omega))
        clear hall
        go_wp2
        go_ret
        exact ⟨by rw [hT.out]; rfl, hBw.out⟩
  · have h60' : decide ((1 : Int) ≤ (T.length : Int) ∧ (T.length : Int) ≤ 60) = false := by simp only [decide_eq_false_iff_not]; omega
    rw [h60']
    have hF : Hid (gp T = false) := by
      show gp T = false
      by_cases q : T.length < 1
      · exact gp_none q
      · exact gp_many (by omega)
    clear h60'
    go_wp2
    go_ret
    exact ⟨by rw [hF.out]; rfl, hB1 _⟩

end Go.Proofs.YtmjpmmkjfimopaaDoor

namespace Go.Proofs.YtmjpmmkjfimopaaDoor
open Go.RowKit Plain Sch Wan Prg

def sto (T : List Ins) : Int × Bool := if gp T then ((T.length : Int), true) else (0, false)

set_option maxRecDepth 100000 in
set_option maxHeartbeats 2000000 in
theorem implSteps (T : List Ins) (v : Value) (w : World) (hT : InsAt w w.heap.size v T) :
    Calls Tryd.prog 11 #[.agg #[v]] w fun e w' => e = .returned (.tuple #[.int .i64 (sto T).1, .bool (sto T).2]) ∧ Below w.heap.size w w' := by
  have HT : Hid (InsAt w w.heap.size v T) := hT
  obtain ⟨ao, cap, rfl, hlc, hcm, _⟩ := hT
  unfold maxLen at hcm
  have hB1 : Below w.heap.size w (w.alloc (.cells #[.slice ao T.length cap] 30)) := (Below.refl _ w).alloc (Nat.le_refl _) _
  have hX1 : Hid (InsAt (w.alloc (.cells #[.slice ao T.length cap] 30)) (w.alloc (.cells #[.slice ao T.length cap] 30)).heap.size (.slice ao T.length cap) T) := HT.out.below hB1
  go_enter Tryd.func11, Tryd.ntmps11
  go_wp2_with fail
  refine (implGoodP T _ _ hX1.out).mono ?_
  rintro e w2 ⟨rfl, hb2⟩
  have hB2 : Below w.heap.size w w2 := hB1.trans (hb2.mono (by simp))
  have q2 : w2.cell? ⟨w.heap.size, 0, none⟩ = some (.slice ao T.length cap) := (hb2.cell (p := ⟨w.heap.size, 0, none⟩) (by simp)).trans (by simp)
  clear hb2 hX1
  cases hg : gp T with
  | false =>
    have hF : Hid (sto T = (0, false)) := by show sto T = _; unfold sto; rw [hg]; rfl
    clear hg
    go_wp2
    go_ret2
    exact ⟨by rw [hF.out]; rfl, hB2⟩
  | true =>
    have hF : Hid (sto T = ((T.length : Int), true)) := by show sto T = _; unfold sto; rw [hg]; rfl
    clear hg
    go_wp2
    go_ret2
    exact ⟨by rw [hF.out]; rfl, hB2⟩

set_option maxRecDepth 100000 in
set_option maxHeartbeats 2000000 in
theorem specSteps (T : List Ins) (v : Value) (w : World) (hT : InsAt w w.heap.size v T) :
    Calls Tryd.prog 18 #[.agg #[v]] w fun e w' => e = .returned (.tuple #[.int .i64 (sto T).1, .bool (sto T).2]) ∧ Below w.heap.size w w' := by
  have HT : Hid (InsAt w w.heap.size v T) := hT
  obtain ⟨ao, cap, rfl, hlc, hcm, _⟩ := hT
  unfold maxLen at hcm
  have hB1 : Below w.heap.size w (w.alloc (.cells #[.slice ao T.length cap] 30)) := (Below.refl _ w).alloc (Nat.le_refl _) _
  have hX1 : Hid (InsAt (w.alloc (.cells #[.slice ao T.length cap] 30)) (w.alloc (.cells #[.slice ao T.length cap] 30)).heap.size (.slice ao T.length cap) T) := HT.out.below hB1
  go_enter Tryd.func18, Tryd.ntmps18
  go_wp2_with fail
  refine (specGoodP T _ _ hX1.out).mono ?_
  rintro e w2 ⟨rfl, hb2⟩
  have hB2 : Below w.heap.size w w2 := hB1.trans (hb2.mono (by simp))
  have q2 : w2.cell? ⟨w.heap.size, 0, none⟩ = some (.slice ao T.length cap) := (hb2.cell (p := ⟨w.heap.size, 0, none⟩) (by simp)).trans (by simp)
  clear hb2 hX1
  cases hg : gp T with
  | false =>
    have hF : Hid (sto T = (0, false)) := by show sto T = _; unfold sto; rw [hg]; rfl
    clear hg
    go_wp2
    go_ret2
    exact ⟨by rw [hF.out]; rfl, hB2⟩
  | true =>
    have hF : Hid (sto T = ((T.length : Int), true)) := by show sto T = _; unfold sto; rw [hg]; rfl
    clear hg
    go_wp2
    go_ret2
    exact ⟨by rw [hF.out]; rfl, hB2⟩

end Go.Proofs.YtmjpmmkjfimopaaDoor
