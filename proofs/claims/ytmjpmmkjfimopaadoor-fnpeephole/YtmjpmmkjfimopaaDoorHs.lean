/- The model's look at one want. The model's GoodFilter. The model's CompileFilter. -/
import Derived.Test.YtmjpmmkjfimopaaDoorFwM
import Derived.Test.YtmjpmmkjfimopaaDoorHb
import Derived.Test.YtmjpmmkjfimopaaDoorGd
import Derived.BigQuiet
import Derived.Deep.RegionWith
import Derived.Test.YtmjpmmkjfimopaaDoorHd
import Derived.Laws.OwnMore
import Derived.Deep.DeepCutAuto
import Derived.Test.YtmjpmmkjfimopaaDoorCsA
import Derived.Test.YtmjpmmkjfimopaaDoorHh
namespace Go.Proofs.YtmjpmmkjfimopaaDoor
open Go.RowKit Plain Sch Wan

set_option maxRecDepth 100000 in
set_option maxHeartbeats 1000000 in
theorem l1Number_w (n : Int) (w : World) : Calls Tryd.prog 71 #[.int .i64 n] w fun e w' => e = .returned (.bool (nOk n)) ∧ w' = w := by
  have hn : decide (-1000000000 ≤ n ∧ n ≤ 1000000000) = nOk n := by unfold nOk; by_cases h1 : -1000000000 ≤ n <;> by_cases h2 : n ≤ 1000000000 <;> simp [h1, h2]
  go_enter Tryd.func71, Tryd.ntmps71
  go_wp2_with fail
  refine (l1In_any n (-1000000000) 1000000000 _).mono ?_
  rintro e w1 ⟨rfl, rfl⟩
  rw [hn]
  go_wp2
  go_ret
  exact ⟨rfl, rfl⟩

/-- the model's words -/
def speW (x : Wa) (i : Int) : Bool :=
  if isAsk x.kind != (x.no != 0) then false
  else if ¬ (0 ≤ x.no ∧ x.no ≤ 30) then false
  else if ¬ x.text.size ≤ 30 then false
  else if nOk x.num = false then false
  else if 3 < x.kind ∧ x.num ≠ 0 then false
  else if x.kind ≠ 5 ∧ x.text ≠ ⟨#[]⟩ then false
  else if isAsk x.kind then decide (x.a = 0 ∧ x.b = 0)
  else if x.kind = 8 then decide (0 ≤ x.a ∧ x.a < i ∧ x.b = 0)
  else decide (6 ≤ x.kind ∧ x.kind ≤ 7) && decide (0 ≤ x.a ∧ x.a < x.b ∧ x.b < i)

theorem nOk_zero : nOk 0 = true := by decide

theorem speW_eq (x : Wa) (i : Nat) : speW x i = okW x i := by
  obtain ⟨k, n, m, t, a, b⟩ := x
  unfold speW okW
  dsimp only
  by_cases ha : isAsk k = true
  · rw [ha]
    have hb := ask_bounds ha
    simp only [if_true, okAsk]
    by_cases h1 : n = 0
    · simp [h1]
    · have h1' : (n != 0) = true := by simp [h1]
      rw [h1']
      simp only [bne_self_eq_false, Bool.false_eq_true, if_false]
      by_cases h2 : 0 ≤ n ∧ n ≤ 30
      · rw [if_neg (by simpa using h2)]
        by_cases h3 : t.size ≤ 30
        · rw [if_neg (by simpa using h3)]
          by_cases h4 : nOk m = true
          · rw [if_neg (by simp [h4]), h4]
            have h21 : decide (1 ≤ n) = true := by simp; omega
            rw [h21]
            simp only [h2.2, h3, decide_true, Bool.and_true, Wa.mk.injEq, true_and]
            by_cases h5 : 3 < k ∧ m ≠ 0
            · rw [if_pos h5, if_neg (by omega)]
              simp [h5.2]
            · rw [if_neg h5]
              by_cases h6 : k ≠ 5 ∧ t ≠ ⟨#[]⟩
              · rw [if_pos h6, if_neg (by omega : ¬ k = 5)]
                simp [h6.2]
              · rw [if_neg h6]
                have e1 : (m = if k ≤ 3 then m else 0) := by
                  by_cases q : k ≤ 3
                  · rw [if_pos q]
                  · rw [if_neg q]
                    by_cases q2 : m = 0
                    · exact q2
                    · exact absurd ⟨by omega, q2⟩ h5
                have e2 : (t = if k = 5 then t else ⟨#[]⟩) := by
                  by_cases q : k = 5
                  · rw [if_pos q]
                  · rw [if_neg q]
                    by_cases q2 : t = ⟨#[]⟩
                    · exact q2
                    · exact absurd ⟨q, q2⟩ h6
                rw [← e1, ← e2]
                simp
          · have h4' : nOk m = false := by simpa using h4
            rw [if_pos h4', h4']; simp
        · rw [if_pos h3]; simp [h3]
      · rw [if_pos h2]
        by_cases q : 1 ≤ n
        · have : ¬ n ≤ 30 := by omega
          simp [this]
        · simp [q]
  · have ha' : isAsk k = false := by simpa using ha
    rw [ha']
    simp only [Bool.false_eq_true, if_false]
    by_cases h1 : n = 0
    · subst h1
      simp only [bne_self_eq_false, Bool.false_eq_true, if_false]
      rw [if_neg (by omega)]
      by_cases hb : isBin k = true
      · have hbb := bin_bounds hb
        rw [if_pos hb]
        unfold okBin
        simp only [Wa.mk.injEq, true_and, and_true]
        by_cases h5 : m = 0
        · subst h5
          by_cases h6 : t = ⟨#[]⟩
          · subst h6
            rw [if_neg (show ¬ ¬ (ByteArray.mk #[]).size ≤ 30 by decide), if_neg (show ¬ nOk 0 = false by rw [nOk_zero]; decide), if_neg (by simp), if_neg (by simp)]
            rw [if_neg (by omega)]
            have : 6 ≤ k ∧ k ≤ 7 := by omega
            rw [show decide (6 ≤ k ∧ k ≤ 7) = true by simp [this]]
            by_cases q1 : 0 ≤ a <;> by_cases q2 : a < b <;> by_cases q3 : b < (i : Int) <;> simp [q1, q2, q3]
          · have hr : ∀ q : Prop, [Decidable q] → decide (0 = (0 : Int) ∧ t = ⟨#[]⟩ ∧ q) = false := fun q _ => by simp [h6]
            have hr2 : decide (0 = (0 : Int) ∧ t = ⟨#[]⟩) = false := by simp [h6]
            by_cases h3 : t.size ≤ 30
            · rw [if_neg (by simp [h3]), if_neg (show ¬ nOk 0 = false by rw [nOk_zero]; decide), if_neg (by simp), if_pos (by exact ⟨by omega, h6⟩)]
              first | rw [hr2]; rfl | (rw [hr]; rfl)
            · rw [if_pos h3]
              first | rw [hr2]; rfl | (rw [hr]; rfl)
        · have hr : ∀ q : Prop, [Decidable q] → decide (m = 0 ∧ q) = false := fun q _ => by simp [h5]
          by_cases h3 : t.size ≤ 30
          · rw [if_neg (by simp [h3])]
            by_cases h4 : nOk m = false
            · rw [if_pos h4, hr]; rfl
            · rw [if_neg h4, if_pos (by exact ⟨by omega, h5⟩), hr]; rfl
          · rw [if_pos h3, hr]; rfl
      · rw [if_neg hb]
        by_cases hn : isNot k = true
        · have hbb := not_bounds hn
          rw [if_pos hn]
          unfold okNot
          simp only [Wa.mk.injEq, true_and]
          by_cases h5 : m = 0
          · subst h5
            by_cases h6 : t = ⟨#[]⟩
            · subst h6
              rw [if_neg (show ¬ ¬ (ByteArray.mk #[]).size ≤ 30 by decide), if_neg (show ¬ nOk 0 = false by rw [nOk_zero]; decide), if_neg (by simp), if_neg (by simp)]
              rw [if_pos hbb]
              by_cases q1 : 0 ≤ a <;> by_cases q2 : b = 0 <;> by_cases q3 : a < (i : Int) <;> simp [q1, q2, q3]
            · have hr : ∀ q : Prop, [Decidable q] → decide (0 = (0 : Int) ∧ t = ⟨#[]⟩ ∧ q) = false := fun q _ => by simp [h6]
              have hr2 : decide (0 = (0 : Int) ∧ t = ⟨#[]⟩) = false := by simp [h6]
              by_cases h3 : t.size ≤ 30
              · rw [if_neg (by simp [h3]), if_neg (show ¬ nOk 0 = false by rw [nOk_zero]; decide), if_neg (by simp), if_pos (by exact ⟨by omega, h6⟩)]
                first | rw [hr2]; rfl | (rw [hr]; rfl)
              · rw [if_pos h3]
                first | rw [hr2]; rfl | (rw [hr]; rfl)
          · have hr : ∀ q : Prop, [Decidable q] → decide (m = 0 ∧ q) = false := fun q _ => by simp [h5]
            by_cases h3 : t.size ≤ 30
            · rw [if_neg (by simp [h3])]
              by_cases h4 : nOk m = false
              · rw [if_pos h4, hr]; rfl
              · rw [if_neg h4, if_pos (by exact ⟨by omega, h5⟩), hr]; rfl
            · rw [if_pos h3, hr]; rfl
        · rw [if_neg hn]
          have k8 : ¬ k = 8 := by intro e; apply hn; simp [isNot, e]
          have k67 : ¬ (6 ≤ k ∧ k ≤ 7) := by intro e; apply hb; simp [isBin]; omega
          rw [if_neg k8]
          simp [k67]
    · have h1' : (n != 0) = true := by simp [h1]
      rw [h1']
      simp only [Bool.false_bne, if_true]
      by_cases hb : isBin k = true
      · rw [if_pos hb]; unfold okBin; simp [h1]
      · rw [if_neg hb]
        by_cases hn : isNot k = true
        · rw [if_pos hn]; unfold okNot; simp [h1]
        · rw [if_neg hn]

set_option maxRecDepth 100000 in
set_option maxHeartbeats 8000000 in
theorem l7Want_any (x : Wa) (i : Nat) (w : World) (hs : x.text.size ≤ maxLen) :
    Calls Tryd.prog 48 #[.agg #[.int .i64 x.kind, .int .i64 x.no, .int .i64 x.num, .string x.text, .int .i64 x.a, .int .i64 x.b], .int .i64 i] w fun e w' => e = .returned (.bool (okW x i)) ∧ Below w.heap.size w w' := by
  rw [← speW_eq]
  obtain ⟨k, n, m, t, a, b⟩ := x
  obtain ⟨R, hR⟩ : ∃ R, R = speW ⟨k, n, m, t, a, b⟩ i := ⟨_, rfl⟩
  rw [← hR]
  have HR : Hid (R = speW ⟨k, n, m, t, a, b⟩ i) := hR
  clear hR
  dsimp only at hs ⊢
  unfold maxLen at hs
  have hs' : (t.size : Int) ≤ 9223372036854775807 := by omega
  have hB : ∀ o, Below w.heap.size w (w.alloc o) := fun o => (Below.refl _ w).alloc (Nat.le_refl _) o
  have hk1 : decide (1 ≤ k ∧ k ≤ 5) = isAsk k := by unfold isAsk; by_cases h1 : 1 ≤ k <;> by_cases h2 : k ≤ 5 <;> simp [h1, h2]
  go_enter Tryd.func48, Tryd.ntmps48
  go_wp2_with fail
  refine (l1In_any k 1 5 _).mono ?_
  rintro e w1 ⟨rfl, rfl⟩
  rw [hk1]
  clear hk1
  cases hk : isAsk k with
  | true =>
    have hk5 := ask_bounds hk
    by_cases h1 : n = 0
    · subst h1
      have hF : Hid (R = false) := by show R = _; rw [HR.out]; unfold speW; dsimp only; simp [hk]
      clear HR 
      go_wp2
      go_ret
      exact ⟨by rw [hF.out]; rfl, hB _⟩
    · have h1' : (n != 0) = true := by simp [h1]
      go_wp2_with fail
      refine (l1In_any n 0 30 _).mono ?_
      rintro e w1 ⟨rfl, rfl⟩
      by_cases h2 : 0 ≤ n ∧ n ≤ 30
      · rw [show decide (0 ≤ n ∧ n ≤ 30) = true by simp [h2]]
        by_cases h3 : t.size ≤ 30
        · have h3' : ¬ (30 : Int) < (t.size : Int) := by omega
          have h3n : ¬ 30 < t.size := by omega
          go_wp2_with fail
          refine (l1Number_w m _).mono ?_
          rintro e w1 ⟨rfl, rfl⟩
          cases h4 : nOk m with
          | false =>
            have hF : Hid (R = false) := by show R = _; rw [HR.out]; unfold speW; dsimp only; simp [hk, h1, h2, h3, h4]
            clear HR 
            go_wp2
            go_ret
            exact ⟨by rw [hF.out]; rfl, hB _⟩
          | true =>
            by_cases h5 : 3 < k ∧ m ≠ 0
            · obtain ⟨h51, h52⟩ := h5
              have h52' : (m != 0) = true := by simp [h52]
              have h51' : (3 : Int) < k := h51
              have hF : Hid (R = false) := by show R = _; rw [HR.out]; unfold speW; dsimp only; simp [hk, h1, h2, h3, h4, h51, h52]
              clear HR 
              go_wp2
              go_ret
              exact ⟨by rw [hF.out]; rfl, hB _⟩
            · by_cases h6 : k ≠ 5 ∧ t ≠ ⟨#[]⟩
              · obtain ⟨h61, h62⟩ := h6
                have h61' : (k != 5) = true := by simp [h61]
                have h62' : (t.toList == (ByteArray.mk #[]).toList) = false := str_neB h62
                have h62b : t.toList.isEmpty = false := str_some h62
                have hF : Hid (R = false) := by show R = _; rw [HR.out]; unfold speW; dsimp only; simp [hk, h1, h2, h3, h4, h61, h62]
                clear HR h62
                by_cases h7 : 3 < k
                · have h8 : m = 0 := by by_cases q : m = 0; exact q; exact absurd ⟨h7, q⟩ h5
                  subst h8
                  go_wp2
                  go_ret
                  exact ⟨by rw [hF.out]; rfl, hB _⟩
                · clear h5
                  go_wp2
                  go_ret
                  exact ⟨by rw [hF.out]; rfl, hB _⟩
              · have h45 : Hid (R = (if isAsk k then decide (a = 0 ∧ b = 0) else if k = 8 then decide (0 ≤ a ∧ a < i ∧ b = 0) else decide (6 ≤ k ∧ k ≤ 7) && decide (0 ≤ a ∧ a < b ∧ b < i))) := by show R = _; rw [HR.out]; unfold speW; dsimp only; rw [if_neg h6, if_neg h5]; simp [hk, h1, h2, h3, h4]
                clear HR
                rw [hk] at h45
                obtain ⟨k0, hk0⟩ : ∃ q : Bool, q = decide (3 < k) := ⟨_, rfl⟩
                by_cases h7 : 3 < k
                · clear hk0
                  have h8 : m = 0 := by by_cases q : m = 0; exact q; exact absurd ⟨h7, q⟩ h5
                  subst h8
                  clear h5
                  by_cases h9 : k = 5
                  · subst h9
                    simp only [if_true] at h45
                    by_cases ha : a = 0
                    · subst ha
                      by_cases hb : b = 0
                      · subst hb
                        have hF : Hid (R = true) := by show R = _; rw [h45.out]; simp
                        clear h45
                        go_wp2
                        go_ret
                        exact ⟨by rw [hF.out]; rfl, hB _⟩
                      · have hb' : (b == 0) = false := by simp [hb]
                        have hF : Hid (R = false) := by show R = _; rw [h45.out]; simp [hb]
                        clear h45 hb
                        go_wp2
                        go_ret
                        exact ⟨by rw [hF.out]; rfl, hB _⟩
                    · have ha' : (a == 0) = false := by simp [ha]
                      have hF : Hid (R = false) := by show R = _; rw [h45.out]; simp [ha]
                      clear h45 ha
                      go_wp2
                      go_ret
                      exact ⟨by rw [hF.out]; rfl, hB _⟩
                  · have h9' : (k != 5) = true := by simp [h9]
                    have h10 : t = ⟨#[]⟩ := by by_cases q : t = ⟨#[]⟩; exact q; exact absurd ⟨h9, q⟩ h6
                    subst h10
                    clear h6
                    simp only [if_true] at h45
                    by_cases ha : a = 0
                    · subst ha
                      by_cases hb : b = 0
                      · subst hb
                        have hF : Hid (R = true) := by show R = _; rw [h45.out]; simp
                        clear h45
                        go_wp2
                        go_ret
                        exact ⟨by rw [hF.out]; rfl, hB _⟩
                      · have hb' : (b == 0) = false := by simp [hb]
                        have hF : Hid (R = false) := by show R = _; rw [h45.out]; simp [hb]
                        clear h45 hb
                        go_wp2
                        go_ret
                        exact ⟨by rw [hF.out]; rfl, hB _⟩
                    · have ha' : (a == 0) = false := by simp [ha]
                      have hF : Hid (R = false) := by show R = _; rw [h45.out]; simp [ha]
                      clear h45 ha
                      go_wp2
                      go_ret
                      exact ⟨by rw [hF.out]; rfl, hB _⟩
                · clear hk0
                  clear h5
                  by_cases h9 : k = 5
                  · subst h9
                    omega
                  · have h9' : (k != 5) = true := by simp [h9]
                    have h10 : t = ⟨#[]⟩ := by by_cases q : t = ⟨#[]⟩; exact q; exact absurd ⟨h9, q⟩ h6
                    subst h10
                    clear h6
                    simp only [if_true] at h45
                    by_cases ha : a = 0
                    · subst ha
                      by_cases hb : b = 0
                      · subst hb
                        have hF : Hid (R = true) := by show R = _; rw [h45.out]; simp
                        clear h45
                        go_wp2
                        go_ret
                        exact ⟨by rw [hF.out]; rfl, hB _⟩
                      · have hb' : (b == 0) = false := by simp [hb]
                        have hF : Hid (R = false) := by show R = _; rw [h45.out]; simp [hb]
                        clear h45 hb
                        go_wp2
                        go_ret
                        exact ⟨by rw [hF.out]; rfl, hB _⟩
                    · have ha' : (a == 0) = false := by simp [ha]
                      have hF : Hid (R = false) := by show R = _; rw [h45.out]; simp [ha]
                      clear h45 ha
                      go_wp2
                      go_ret
                      exact ⟨by rw [hF.out]; rfl, hB _⟩
        · have h3' : (30 : Int) < (t.size : Int) := by omega
          have h3n : 30 < t.size := by omega
          have hF : Hid (R = false) := by show R = _; rw [HR.out]; unfold speW; dsimp only; simp [hk, h1, h2, h3]
          clear HR h3
          go_wp2
          go_ret
          exact ⟨by rw [hF.out]; rfl, hB _⟩
      · rw [show decide (0 ≤ n ∧ n ≤ 30) = false by simp only [decide_eq_false_iff_not]; exact h2]
        have hF : Hid (R = false) := by show R = _; rw [HR.out]; unfold speW; dsimp only; rw [if_neg (by simp [hk, h1]), if_pos h2]
        clear HR h2
        go_wp2
        go_ret
        exact ⟨by rw [hF.out]; rfl, hB _⟩
  | false =>
    by_cases h1 : n = 0
    · subst h1
      go_wp2_with fail
      refine (l1In_any 0 0 30 _).mono ?_
      rintro e w1 ⟨rfl, rfl⟩
      · rw [show decide ((0 : Int) ≤ 0 ∧ (0 : Int) ≤ 30) = true by simp]
        by_cases h3 : t.size ≤ 30
        · have h3' : ¬ (30 : Int) < (t.size : Int) := by omega
          have h3n : ¬ 30 < t.size := by omega
          go_wp2_with fail
          refine (l1Number_w m _).mono ?_
          rintro e w1 ⟨rfl, rfl⟩
          cases h4 : nOk m with
          | false =>
            have hF : Hid (R = false) := by show R = _; rw [HR.out]; unfold speW; dsimp only; simp [hk, h3, h4]
            clear HR 
            go_wp2
            go_ret
            exact ⟨by rw [hF.out]; rfl, hB _⟩
          | true =>
            by_cases h5 : 3 < k ∧ m ≠ 0
            · obtain ⟨h51, h52⟩ := h5
              have h52' : (m != 0) = true := by simp [h52]
              have h51' : (3 : Int) < k := h51
              have hF : Hid (R = false) := by show R = _; rw [HR.out]; unfold speW; dsimp only; simp [hk, h3, h4, h51, h52]
              clear HR 
              go_wp2
              go_ret
              exact ⟨by rw [hF.out]; rfl, hB _⟩
            · by_cases h6 : k ≠ 5 ∧ t ≠ ⟨#[]⟩
              · obtain ⟨h61, h62⟩ := h6
                have h61' : (k != 5) = true := by simp [h61]
                have h62' : (t.toList == (ByteArray.mk #[]).toList) = false := str_neB h62
                have h62b : t.toList.isEmpty = false := str_some h62
                have hF : Hid (R = false) := by show R = _; rw [HR.out]; unfold speW; dsimp only; simp [hk, h3, h4, h61, h62]
                clear HR h62
                by_cases h7 : 3 < k
                · have h8 : m = 0 := by by_cases q : m = 0; exact q; exact absurd ⟨h7, q⟩ h5
                  subst h8
                  go_wp2
                  go_ret
                  exact ⟨by rw [hF.out]; rfl, hB _⟩
                · clear h5
                  go_wp2
                  go_ret
                  exact ⟨by rw [hF.out]; rfl, hB _⟩
              · have h45 : Hid (R = (if isAsk k then decide (a = 0 ∧ b = 0) else if k = 8 then decide (0 ≤ a ∧ a < i ∧ b = 0) else decide (6 ≤ k ∧ k ≤ 7) && decide (0 ≤ a ∧ a < b ∧ b < i))) := by show R = _; rw [HR.out]; unfold speW; dsimp only; rw [if_neg h6, if_neg h5]; simp [hk, h3, h4]
                clear HR
                rw [hk] at h45
                obtain ⟨k0, hk0⟩ : ∃ q : Bool, q = decide (3 < k) := ⟨_, rfl⟩
                by_cases h7 : 3 < k
                · clear hk0
                  have h8 : m = 0 := by by_cases q : m = 0; exact q; exact absurd ⟨h7, q⟩ h5
                  subst h8
                  clear h5
                  by_cases h9 : k = 5
                  · subst h9
                    exact absurd hk (by decide)
                  · have h9' : (k != 5) = true := by simp [h9]
                    have h10 : t = ⟨#[]⟩ := by by_cases q : t = ⟨#[]⟩; exact q; exact absurd ⟨h9, q⟩ h6
                    subst h10
                    clear h6
                    simp only [Bool.false_eq_true, if_false] at h45
                    by_cases hk8 : k = 8
                    · subst hk8
                      by_cases ha : 0 ≤ a
                      · by_cases hai : a < (i : Int)
                        · by_cases hb : b = 0
                          · subst hb
                            have hF : Hid (R = true) := by show R = _; rw [h45.out]; simp [ha, hai]
                            clear h45 
                            go_wp2
                            go_ret
                            exact ⟨by rw [hF.out]; rfl, hB _⟩
                          · have hb' : (b == 0) = false := by simp [hb]
                            have hF : Hid (R = false) := by show R = _; rw [h45.out]; simp [hb]
                            clear h45 hb
                            go_wp2
                            go_ret
                            exact ⟨by rw [hF.out]; rfl, hB _⟩
                        · have hai' : decide (a < (i : Int)) = false := by simpa using hai
                          have hF : Hid (R = false) := by show R = _; rw [h45.out]; simp [hai]
                          clear h45 hai
                          go_wp2
                          go_ret
                          exact ⟨by rw [hF.out]; rfl, hB _⟩
                      · have ha' : decide (0 ≤ a) = false := by simpa using ha
                        have hF : Hid (R = false) := by show R = _; rw [h45.out]; simp [ha]
                        clear h45 ha
                        go_wp2
                        go_ret
                        exact ⟨by rw [hF.out]; rfl, hB _⟩
                    · have hk8' : (k == 8) = false := by simp [hk8]
                      rw [if_neg hk8] at h45
                      go_wp2_with fail
                      refine (l1In_any k 6 7 _).mono ?_
                      rintro e w1 ⟨rfl, rfl⟩
                      by_cases h67 : 6 ≤ k ∧ k ≤ 7
                      · have h67' : decide (6 ≤ k ∧ k ≤ 7) = true := by simp [h67]
                        rw [h67'] at h45 ⊢
                        by_cases ha : 0 ≤ a
                        · by_cases hab : a < b
                          · by_cases hbi : b < (i : Int)
                            · skip
                              have hF : Hid (R = true) := by show R = _; rw [h45.out]; simp [ha, hab, hbi]
                              clear h45 
                              go_wp2
                              go_ret
                              exact ⟨by rw [hF.out]; rfl, hB _⟩
                            · have hbi' : decide (b < (i : Int)) = false := by simpa using hbi
                              have hF : Hid (R = false) := by show R = _; rw [h45.out]; simp [hbi]
                              clear h45 hbi
                              go_wp2
                              go_ret
                              exact ⟨by rw [hF.out]; rfl, hB _⟩
                          · have hab' : decide (a < b) = false := by simpa using hab
                            have hF : Hid (R = false) := by show R = _; rw [h45.out]; simp [hab]
                            clear h45 hab
                            go_wp2
                            go_ret
                            exact ⟨by rw [hF.out]; rfl, hB _⟩
                        · have ha' : decide (0 ≤ a) = false := by simpa using ha
                          have hF : Hid (R = false) := by show R = _; rw [h45.out]; simp [ha]
                          clear h45 ha
                          go_wp2
                          go_ret
                          exact ⟨by rw [hF.out]; rfl, hB _⟩
                      · have h67' : decide (6 ≤ k ∧ k ≤ 7) = false := by simp only [decide_eq_false_iff_not]; exact h67
                        rw [h67'] at h45 ⊢
                        have hF : Hid (R = false) := by show R = _; rw [h45.out]; simp []
                        clear h45 
                        go_wp2
                        go_ret
                        exact ⟨by rw [hF.out]; rfl, hB _⟩
                · clear hk0
                  clear h5
                  by_cases h9 : k = 5
                  · subst h9
                    omega
                  · have h9' : (k != 5) = true := by simp [h9]
                    have h10 : t = ⟨#[]⟩ := by by_cases q : t = ⟨#[]⟩; exact q; exact absurd ⟨h9, q⟩ h6
                    subst h10
                    clear h6
                    simp only [Bool.false_eq_true, if_false] at h45
                    by_cases hk8 : k = 8
                    · subst hk8
                      exact absurd (by decide) h7
                    · have hk8' : (k == 8) = false := by simp [hk8]
                      rw [if_neg hk8] at h45
                      go_wp2_with fail
                      refine (l1In_any k 6 7 _).mono ?_
                      rintro e w1 ⟨rfl, rfl⟩
                      by_cases h67 : 6 ≤ k ∧ k ≤ 7
                      · have h67' : decide (6 ≤ k ∧ k ≤ 7) = true := by simp [h67]
                        exfalso; omega
                      · have h67' : decide (6 ≤ k ∧ k ≤ 7) = false := by simp only [decide_eq_false_iff_not]; exact h67
                        rw [h67'] at h45 ⊢
                        have hF : Hid (R = false) := by show R = _; rw [h45.out]; simp []
                        clear h45 
                        go_wp2
                        go_ret
                        exact ⟨by rw [hF.out]; rfl, hB _⟩
        · have h3' : (30 : Int) < (t.size : Int) := by omega
          have h3n : 30 < t.size := by omega
          have hF : Hid (R = false) := by show R = _; rw [HR.out]; unfold speW; dsimp only; simp [hk, h3]
          clear HR h3
          go_wp2
          go_ret
          exact ⟨by rw [hF.out]; rfl, hB _⟩
    · have h1' : (n != 0) = true := by simp [h1]
      have hF : Hid (R = false) := by show R = _; rw [HR.out]; unfold speW; dsimp only; simp [hk, h1]
      clear HR 
      go_wp2
      go_ret
      exact ⟨by rw [hF.out]; rfl, hB _⟩

end Go.Proofs.YtmjpmmkjfimopaaDoor

namespace Go.Proofs.YtmjpmmkjfimopaaDoor
open Go.RowKit Plain Sch Wan

/-- n counters in a block -/
def UsAt (w : World) (g N : Nat) (f : Nat → Nat) : Prop := g < w.heap.size ∧ ∀ j, j < N → w.cell? ⟨g, j, none⟩ = some (.int .i64 (f j : Int)) ∧ w.frozen? ⟨g, j, none⟩ = false

theorem UsAt.below {w w' : World} {g N B : Nat} {f : Nat → Nat} (h : UsAt w g N f) (hb : Below B w w') (hg : g < B) : UsAt w' g N f :=
  ⟨Nat.lt_of_lt_of_le h.1 hb.size, fun j hj => ⟨(hb.cell (p := ⟨g, j, none⟩) hg).trans (h.2 j hj).1, (hb.frozen (p := ⟨g, j, none⟩) hg).trans (h.2 j hj).2⟩⟩

theorem UsAt.inc {w : World} {g N : Nat} {f : Nat → Nat} (h : UsAt w g N f) {y : Nat} (hy : y < N) {f' : Nat → Nat} (hf : ∀ j, f' j = if j = y then f y + 1 else f j) : UsAt (w.setCell ⟨g, y, none⟩ (.int .i64 ((f y : Int) + 1))) g N f' := by
  refine ⟨by simpa [World.setCell] using h.1, fun j hj => ⟨?_, ?_⟩⟩
  · rw [hf j]
    by_cases e : j = y
    · subst e
      rw [if_pos rfl, World.cell?_setCell_same _ _ _ (h.2 j hj).1]
      simp
    · rw [if_neg e, World.cell?_setCell_other _ _ _ _ (by intro h; injection h; omega)]
      exact (h.2 j hj).1
  · rw [World.frozen?_setCell]
    exact (h.2 j hj).2

theorem use_bin {T : List Wa} {i : Nat} (h : i < T.length) (hb : isBin (wa T i).kind = true) {x y : Nat} (ha : (wa T i).a = x) (hbb : (wa T i).b = y) (hxy : x < y) (j : Nat) :
    use (T.take (i + 1)) j = if j = y then (if y = x then use (T.take i) x + 1 else use (T.take i) y) + 1 else (if j = x then use (T.take i) x + 1 else use (T.take i) j) := by
  rw [use_step T i j h, own_bin hb, ha, hbb]
  have e : List.count (j : Int) [(x : Int), (y : Int)] = (if j = x then 1 else 0) + (if j = y then 1 else 0) := by
    by_cases h1 : j = x
    · have h2 : ¬ j = y := by omega
      rw [if_pos h1, if_neg h2, h1]
      have : ¬ (x : Int) = (y : Int) := by omega
      simp [List.count_cons]; omega
    · rw [if_neg h1]
      by_cases h2 : j = y
      · rw [if_pos h2, h2]; simp [List.count_cons]; omega
      · rw [if_neg h2]; simp [List.count_cons]; omega
  rw [e]
  by_cases h1 : j = x
  · have h2 : ¬ j = y := by omega
    rw [if_pos h1, if_neg h2, if_neg h2, if_pos h1, h1]
  · rw [if_neg h1]
    by_cases h2 : j = y
    · rw [if_pos h2, if_pos h2, if_neg (by omega), h2]
    · rw [if_neg h2, if_neg h2, if_neg h1]; omega

theorem use_not {T : List Wa} {i : Nat} (h : i < T.length) (hb : isNot (wa T i).kind = true) {x : Nat} (ha : (wa T i).a = x) (j : Nat) :
    use (T.take (i + 1)) j = if j = x then use (T.take i) x + 1 else use (T.take i) j := by
  rw [use_step T i j h, own_not hb, ha]
  by_cases h1 : j = x
  · rw [if_pos h1, h1]; simp
  · rw [if_neg h1]; simp [List.count_cons]; omega

theorem use_ask {T : List Wa} {i : Nat} (h : i < T.length) (hb : isAsk (wa T i).kind = true) (j : Nat) : use (T.take (i + 1)) j = use (T.take i) j := by
  rw [use_step T i j h, own_ask hb]; simp

theorem okW_bin {x : Wa} {i : Nat} (h : okW x i = true) (hb : isBin x.kind = true) : 0 ≤ x.a ∧ x.a < x.b ∧ x.b < i := by
  unfold okW at h
  rw [if_neg (by intro e; have := ask_bounds e; have := bin_bounds hb; omega), if_pos hb] at h
  simp only [okBin, Bool.and_eq_true, decide_eq_true_eq] at h
  omega

theorem okW_not {x : Wa} {i : Nat} (h : okW x i = true) (hb : isNot x.kind = true) : 0 ≤ x.a ∧ x.a < i := by
  unfold okW at h
  rw [if_neg (by intro e; have := ask_bounds e; have := not_bounds hb; omega), if_neg (by intro e; have := bin_bounds e; have := not_bounds hb; omega), if_pos hb] at h
  simp only [okNot, Bool.and_eq_true, decide_eq_true_eq] at h
  omega

set_option maxRecDepth 100000 in
set_option maxHeartbeats 8000000 in
theorem specGoodF (T : List Wa) (v : Value) (w : World) (hT : WasAt w w.heap.size v T) :
    Calls Tryd.prog 24 #[.agg #[v]] w fun e w' => e = .returned (.bool (gf T)) ∧ Below w.heap.size w w' := by
  obtain ⟨ao, cap, rfl, hlc, hcm, hrow, hnm⟩ := hT
  have HROW : Hid (∀ i, i < T.length → ∃ g o, ao = some ⟨g, o, none⟩ ∧ g < w.heap.size ∧ WaIn w g (o + i * 6) (wa T i)) := hrow
  have HNM : Hid (∀ i, i < T.length → (wa T i).text.size ≤ maxLen) := hnm
  clear hrow hnm
  unfold maxLen at hcm
  obtain ⟨W1, hW1⟩ : ∃ W, W = w.alloc (.cells #[.slice ao T.length cap] 25) := ⟨_, rfl⟩
  have hB1 : Below w.heap.size w W1 := by rw [hW1]; exact (Below.refl _ w).alloc (Nat.le_refl _) _
  have hs1 : Hid (W1.heap.size = w.heap.size + 1) := by show _ = _; rw [hW1]; simp
  have hl1 : w.heap.size < W1.heap.size := by rw [hs1.out]; omega
  have q1 : W1.cell? ⟨w.heap.size, 0, none⟩ = some (.slice ao T.length cap) := by rw [hW1]; go_simp
  go_enter Tryd.func24, Tryd.ntmps24
  go_wp2_with fail
  rw [← hW1]
  clear hW1
  refine (l1In_any (T.length : Int) 1 20 _).mono ?_
  rintro e w1 ⟨rfl, rfl⟩
  by_cases h20 : 1 ≤ T.length ∧ T.length ≤ 20
  · have h20' : decide ((1 : Int) ≤ (T.length : Int) ∧ (T.length : Int) ≤ 20) = true := by simp; omega
    rw [h20']
    clear h20'
    obtain ⟨h0, h20⟩ := h20
    obtain ⟨i0, hi, hz0, hz1, hz2⟩ := info_parts Tryd.infoInt
    obtain ⟨M, hM⟩ : ∃ M, M = madeCells (Value.int .i64 0).cells (((T.length : Nat) : Int).toNat * i0.size) := ⟨_, rfl⟩
    have hMc : M = madeCells #[Value.int .i64 0] T.length := by rw [hM, hz1]; simp [Value.cells]
    have hmk : ∀ W : World, (Instr.makeSlice 96 (.int .i64 (T.length : Int)) (.int .i64 (T.length : Int))).run Tryd.prog W = .ok (.slice (some ⟨W.heap.size, 0, none⟩) T.length T.length) (W.alloc (.cells M 3)) := fun W => by
      have h := run_make (P := Tryd.prog) W 96 3 i0 (.int .i64 0) Tryd.underlying96 hi hz0 .i64 .i64 (T.length : Int) (T.length : Int) (by omega) (by omega) (by rw [hz2]; omega) (by omega)
      rw [← hM] at h
      simpa using h
    clear hM
    obtain ⟨W2, hW2⟩ : ∃ W, W = w1.alloc (.cells M 3) := ⟨_, rfl⟩
    have hB2 : Hid (Below w1.heap.size w1 W2) := by show Below _ _ _; rw [hW2]; exact (Below.refl _ w1).alloc (Nat.le_refl _) _
    have hT2 : Hid (UsAt W2 w1.heap.size T.length (fun j => use (T.take 0) j)) := by
      show UsAt _ _ _ _
      refine ⟨by rw [hW2]; simp, fun j hj => ?_⟩
      dsimp only
      rw [use_zero, hW2]
      have e : M[j]? = some (.int .i64 0) := by
        rw [← Array.getElem?_toList, hMc, toList_madeCells_one]
        simp [hj]
      exact ⟨by rw [World.cell?_alloc_new]; exact e, by go_simp⟩
    clear hMc hz0 hz1 hz2 hi
    go_upto_region 5 with fail
    rw [← hW2]
    clear hW2 hmk
    have q2 := (hB2.out.cell (p := ⟨w.heap.size, 0, none⟩) hl1).trans q1
    go_wp2
    go_loopw [20] (fun vi wr => ∃ i : Nat, i ≤ T.length ∧ vi = .int .i64 (i : Int) ∧ Hid (∀ j, j < i → okW (wa T j) j = true) ∧ Hid (UsAt wr w1.heap.size T.length (fun j => use (T.take i) j)) ∧ Hid (Below w1.heap.size w1 wr))
      (fun vi _ => T.length - (intOf vi).toNat)
    case atStart => exact ⟨0, by omega, rfl, fun j hj => by omega, hT2, hB2⟩
    case round =>
      clear hT2 hB2 q2
      obtain ⟨i, hi, rfl, hall, hTm, hBw⟩ := hrel
      have hB0 : Below w.heap.size w wr := hB1.trans (hBw.out.mono (by omega))
      have hsz : w1.heap.size < wr.heap.size := hTm.out.1
      have hsz' : w.heap.size < wr.heap.size := by omega
      by_cases hlt : i < T.length
      · have hlt' : (i : Int) < (T.length : Int) := by omega
        obtain ⟨g, o, rfl, hg, hty⟩ := HROW.out i hlt
        have hci := hty.below hB0 hg
        have hni := HNM.out i hlt
        have hUL : Hid (∀ j, use (T.take i) j ≤ 2 * i) := fun j => use_le T j i hi
        have hBad : Hid (okW (wa T i) i = false → gf T = false) := fun h => gf_bad hlt h
        have hNx : Hid (okW (wa T i) i = true → ∀ j, j < i + 1 → okW (wa T j) j = true) := fun h j hj => by
          by_cases e : j = i
          · rw [e]; exact h
          · exact hall.out j (by omega)
        have hKC : Hid (okW (wa T i) i = true → isAsk (wa T i).kind = true ∨ isBin (wa T i).kind = true ∨ isNot (wa T i).kind = true) := kind_cases
        have hOB : Hid (okW (wa T i) i = true → isBin (wa T i).kind = true → 0 ≤ (wa T i).a ∧ (wa T i).a < (wa T i).b ∧ (wa T i).b < i) := okW_bin
        have hON : Hid (okW (wa T i) i = true → isNot (wa T i).kind = true → 0 ≤ (wa T i).a ∧ (wa T i).a < i) := okW_not
        have hUB : Hid (isBin (wa T i).kind = true → ∀ x y : Nat, (wa T i).a = x → (wa T i).b = y → x < y → ∀ j, use (T.take (i + 1)) j = if j = y then (if y = x then use (T.take i) x + 1 else use (T.take i) y) + 1 else (if j = x then use (T.take i) x + 1 else use (T.take i) j)) := fun h x y => use_bin hlt h
        have hUN : Hid (isNot (wa T i).kind = true → ∀ x : Nat, (wa T i).a = x → ∀ j, use (T.take (i + 1)) j = if j = x then use (T.take i) x + 1 else use (T.take i) j) := fun h x => use_not hlt h
        have hUA : Hid (isAsk (wa T i).kind = true → ∀ j, use (T.take (i + 1)) j = use (T.take i) j) := fun h => use_ask hlt h
        have CG : Hid (∀ W : World, Calls Tryd.prog 48 #[.agg #[.int .i64 (wa T i).kind, .int .i64 (wa T i).no, .int .i64 (wa T i).num, .string (wa T i).text, .int .i64 (wa T i).a, .int .i64 (wa T i).b], .int .i64 i] W fun e w' => e = .returned (.bool (okW (wa T i) i)) ∧ Below W.heap.size W w') := fun W => l7Want_any (wa T i) i W hni
        generalize okW (wa T i) i = ok at hBad hNx CG hKC hOB hON
        generalize wa T i = x at hci hni CG hKC hOB hON hUB hUN hUA
        obtain ⟨k, n, m, t, a, b⟩ := x
        dsimp only at hci hni CG hKC hOB hON hUB hUN hUA
        obtain ⟨c0, c1, c2, c3, c4, c5⟩ := hci
        dsimp only at c0 c1 c2 c3 c4 c5
        clear hty hni hall
        obtain ⟨W3, hW3⟩ : ∃ W, W = wr.alloc (.cells #[.int .i64 k, .int .i64 n, .int .i64 m, .string t, .int .i64 a, .int .i64 b] 66) := ⟨_, rfl⟩
        have hA3 : Below wr.heap.size wr W3 := by rw [hW3]; exact (Below.refl _ wr).alloc (Nat.le_refl _) _
        have hs3 : Hid (W3.heap.size = wr.heap.size + 1) := by show _ = _; rw [hW3]; simp
        have z0 : W3.cell? ⟨wr.heap.size, 0, none⟩ = some (.int .i64 k) := by rw [hW3]; go_simp
        have z4 : W3.cell? ⟨wr.heap.size, 4, none⟩ = some (.int .i64 a) := by rw [hW3]; go_simp
        have z5 : W3.cell? ⟨wr.heap.size, 5, none⟩ = some (.int .i64 b) := by rw [hW3]; go_simp
        go_wp2_with fail
        rw [← hW3]
        clear hW3 c0 c1 c2 c3 c4 c5
        refine (CG.out _).mono ?_
        rintro e w4 ⟨rfl, hb4⟩
        have hl3 : wr.heap.size < W3.heap.size := by rw [hs3.out]; omega
        have hA4 : Hid (Below wr.heap.size wr w4) := hA3.trans (hb4.mono (by omega))
        have hl4 : wr.heap.size < w4.heap.size := by have := hb4.size; omega
        have hne4 : w1.heap.size ≠ wr.heap.size := by omega
        have z0 := (hb4.cell (p := ⟨wr.heap.size, 0, none⟩) hl3).trans z0
        have z4 := (hb4.cell (p := ⟨wr.heap.size, 4, none⟩) hl3).trans z4
        have z5 := (hb4.cell (p := ⟨wr.heap.size, 5, none⟩) hl3).trans z5
        clear hb4 hs3 hA3 CG
        have hB4 : Hid (Below w1.heap.size w1 w4) := hBw.out.trans (hA4.out.mono (by omega))
        have hT4 : Hid (UsAt w4 w1.heap.size T.length (fun j => use (T.take i) j)) := hTm.out.below hA4.out hsz
        cases ok with
        | false =>
          have hF : Hid (gf T = false) := hBad.out rfl
          clear hBad hNx hUL hKC hOB hON hUB hUN hUA
          go_wp2
          go_ret
          exact ⟨by rw [hF.out]; rfl, hB0.trans (hA4.out.mono (by omega))⟩
        | true =>
          have hNx2 : Hid (∀ j, j < i + 1 → okW (wa T j) j = true) := hNx.out rfl
          clear hBad hNx
          rcases hKC.out rfl with hk | hk | hk
          · have hkb := ask_bounds hk
            have hk6 : ¬ (6 : Int) ≤ k := by omega
            have hT5 : Hid (UsAt w4 w1.heap.size T.length (fun j => use (T.take (i + 1)) j)) := by
              show UsAt _ _ _ _
              have e : (fun j => use (T.take (i + 1)) j) = (fun j => use (T.take i) j) := funext fun j => hUA.out hk j
              rw [e]; exact hT4.out
            clear hKC hOB hON hUB hUN hUA hUL
            go_wp2_with fail
            refine (l1In_any k 6 7 _).mono ?_
            rintro e w5 ⟨rfl, rfl⟩
            rw [show decide (6 ≤ k ∧ k ≤ 7) = false by simp only [decide_eq_false_iff_not]; omega]
            go_wp2
            go_roundw
            case rel => exact ⟨i + 1, by omega, by go_num, hNx2, hT5, hB4⟩
            case measure => simp [intOf]; omega
          · have hkb := bin_bounds hk
            have hk6 : (6 : Int) ≤ k := by omega
            obtain ⟨ha0, hab, hbi⟩ := hOB.out rfl hk
            obtain ⟨x, rfl⟩ := Int.eq_ofNat_of_zero_le ha0
            obtain ⟨y, rfl⟩ := Int.eq_ofNat_of_zero_le (show 0 ≤ b by omega)
            have hxl : x < T.length := by omega
            have hyl : y < T.length := by omega
            have hxl' : (x : Int) < (T.length : Int) := by omega
            have hyl' : (y : Int) < (T.length : Int) := by omega
            have hcx := (hT4.out.2 x hxl).1
            have hfx := (hT4.out.2 x hxl).2
            have hux : ((use (T.take i) x : Nat) : Int) ≤ 40 := by have := hUL.out x; omega
            have huy : ((use (T.take i) y : Nat) : Int) ≤ 40 := by have := hUL.out y; omega
            try dsimp only at hcx
            obtain ⟨W5, hW5⟩ : ∃ W, W = w4.setCell ⟨w1.heap.size, x, none⟩ (.int .i64 ((use (T.take i) x : Int) + 1)) := ⟨_, rfl⟩
            have hT5 : Hid (UsAt W5 w1.heap.size T.length (fun j => if j = x then use (T.take i) x + 1 else use (T.take i) j)) := by show UsAt _ _ _ _; rw [hW5]; exact hT4.out.inc hxl (fun j => rfl)
            have hB5 : Hid (Below w1.heap.size w1 W5) := by show Below _ _ _; rw [hW5]; exact hB4.out.setCell (Nat.le_refl _) _
            have z05 : W5.cell? ⟨wr.heap.size, 0, none⟩ = some (.int .i64 k) := by rw [hW5, World.cell?_setCell_other _ _ _ _ (by intro h; injection h; omega)]; exact z0
            have z55 : W5.cell? ⟨wr.heap.size, 5, none⟩ = some (.int .i64 (y : Int)) := by rw [hW5, World.cell?_setCell_other _ _ _ _ (by intro h; injection h; omega)]; exact z5
            have hcy := (hT5.out.2 y hyl).1
            have hfy := (hT5.out.2 y hyl).2
            try dsimp only at hcy
            rw [if_neg (by omega)] at hcy
            have hT6 : Hid (UsAt (W5.setCell ⟨w1.heap.size, y, none⟩ (.int .i64 ((use (T.take i) y : Int) + 1))) w1.heap.size T.length (fun j => use (T.take (i + 1)) j)) := by
              show UsAt _ _ _ _
              have h := hT5.out.inc hyl (f' := fun j => use (T.take (i + 1)) j) (fun j => hUB.out hk x y rfl rfl (by omega) j)
              try dsimp only at h
              rw [if_neg (by omega)] at h
              exact h
            have hB6 : Hid (Below w1.heap.size w1 (W5.setCell ⟨w1.heap.size, y, none⟩ (.int .i64 ((use (T.take i) y : Int) + 1)))) := hB5.out.setCell (Nat.le_refl _) _
            generalize use (T.take i) x = ux at *
            generalize use (T.take i) y = uy at *
            clear hKC hOB hON hUB hUN hUA hUL
            go_wp2_with fail
            rw [← hW5]
            clear hW5
            refine (l1In_any k 6 7 _).mono ?_
            rintro e w5 ⟨rfl, rfl⟩
            rw [show decide (6 ≤ k ∧ k ≤ 7) = true by simp; omega]
            clear hcx hfx z0 z4 z5
            go_wp2
            go_roundw
            case rel => exact ⟨i + 1, by omega, by go_num, hNx2, hT6, hB6⟩
            case measure => simp [intOf]; omega
          · have hkb := not_bounds hk
            have hk6 : (6 : Int) ≤ k := by omega
            have h678 : decide (6 ≤ k ∧ k ≤ 7) = false := by simp only [decide_eq_false_iff_not]; omega
            clear hkb
            obtain ⟨ha0, hai⟩ := hON.out rfl hk
            obtain ⟨x, rfl⟩ := Int.eq_ofNat_of_zero_le ha0
            have hxl : x < T.length := by omega
            have hxl' : (x : Int) < (T.length : Int) := by omega
            have hcx := (hT4.out.2 x hxl).1
            have hfx := (hT4.out.2 x hxl).2
            have hux : ((use (T.take i) x : Nat) : Int) ≤ 40 := by have := hUL.out x; omega
            try dsimp only at hcx
            obtain ⟨W5, hW5⟩ : ∃ W, W = w4.setCell ⟨w1.heap.size, x, none⟩ (.int .i64 ((use (T.take i) x : Int) + 1)) := ⟨_, rfl⟩
            have hT5 : Hid (UsAt W5 w1.heap.size T.length (fun j => use (T.take (i + 1)) j)) := by show UsAt _ _ _ _; rw [hW5]; exact hT4.out.inc hxl (fun j => hUN.out hk x rfl j)
            have hB5 : Hid (Below w1.heap.size w1 W5) := by show Below _ _ _; rw [hW5]; exact hB4.out.setCell (Nat.le_refl _) _
            have z05 : W5.cell? ⟨wr.heap.size, 0, none⟩ = some (.int .i64 k) := by rw [hW5, World.cell?_setCell_other _ _ _ _ (by intro h; injection h; omega)]; exact z0
            generalize use (T.take i) x = ux at *
            clear hKC hOB hON hUB hUN hUA hUL
            go_wp2_with fail
            rw [← hW5]
            clear hW5
            refine (l1In_any k 6 7 _).mono ?_
            rintro e w5 ⟨rfl, rfl⟩
            rw [h678]
            clear hcx hfx z0 z4 z5
            go_wp2
            go_roundw
            case rel => exact ⟨i + 1, by omega, by go_num, hNx2, hT5, hB5⟩
            case measure => simp [intOf]; omega
      · have hke : i = T.length := by omega
        subst hke
        have hge : ¬ ((T.length : Int) < (T.length : Int)) := by omega
        have hTe : Hid (∀ j, j < T.length → wr.cell? ⟨w1.heap.size, j, none⟩ = some (.int .i64 (use T j : Int))) := fun j hj => by
          have := (hTm.out.2 j hj).1
          rw [List.take_length] at this
          exact this
        have hr1 : (0 : Int) ≤ (T.length : Int) - 1 := by omega
        have hr2 : (T.length : Int) - 1 ≤ (T.length : Int) := by omega
        clear hTm
        go_wp2
        go_loop [55] (fun vi => ∃ q : Nat, q ≤ T.length - 1 ∧ vi = .int .i64 (q : Int) ∧ Hid (∀ j, j < q → use T j = 1))
          (fun vi => T.length - (intOf vi).toNat)
        case atStart => exact ⟨0, by omega, rfl, fun j hj => by omega⟩
        case round =>
          obtain ⟨q, hq, rfl, hu⟩ := hrel
          by_cases hlq : q < T.length - 1
          · have hlq' : (q : Int) < (T.length : Int) - 1 := by omega
            have hcq := hTe.out q (by omega)
            by_cases h1 : use T q = 1
            · have hu2 : Hid (∀ j, j < q + 1 → use T j = 1) := fun j hj => by
                by_cases e : j = q
                · rw [e]; exact h1
                · exact hu.out j (by omega)
              rw [h1] at hcq
              clear h1 hu
              go_wp2
              go_round
              case rel => exact ⟨q + 1, by omega, by go_num, hu2⟩
              case measure => simp [intOf]; omega
            · have hF : Hid (gf T = false) := gf_uses hlq h1
              have h1' : (((use T q : Nat) : Int) != 1) = true := by simp; omega
              generalize use T q = u at hcq h1 h1'
              clear h1
              go_wp2
              go_ret
              exact ⟨by rw [hF.out]; rfl, hB0⟩
          · have hke : (q : Int) = (T.length : Int) - 1 := by omega
            have hge2 : ¬ ((q : Int) < (T.length : Int) - 1) := by omega
            have hF : Hid (gf T = true) := by
              show gf T = true
              simp only [gf, Bool.and_eq_true, decide_eq_true_eq]
              exact ⟨⟨⟨h0, h20⟩, hall.out⟩, fun j hj => hu.out j (by omega)⟩
            clear hke hu
            go_wp2
            go_ret
            exact ⟨by rw [hF.out]; rfl, hB0⟩
  · have hR : gf T = false := by
      unfold gf
      by_cases q : 1 ≤ T.length
      · have : ¬ T.length ≤ 20 := by omega
        simp [this]
      · simp [q]
    have h20' : decide ((1 : Int) ≤ (T.length : Int) ∧ (T.length : Int) ≤ 20) = false := by simp only [decide_eq_false_iff_not]; omega
    rw [h20']
    have HR : Hid (gf T = false) := hR
    clear hR h20 h20'
    go_wp2
    go_ret
    exact ⟨by rw [HR.out]; rfl, hB1⟩

end Go.Proofs.YtmjpmmkjfimopaaDoor

namespace Go.Proofs.YtmjpmmkjfimopaaDoor
open Go.RowKit Plain Sch Wan Prg

set_option maxRecDepth 100000 in
set_option maxHeartbeats 4000000 in
theorem specCompile (T : List Wa) (v : Value) (w : World) (hT : WasAt w w.heap.size v T) :
    Calls Tryd.prog 7 #[.agg #[v]] w fun e w' => OPro w w' e (cpo T) := by
  obtain ⟨i0, hi, hz0, hz1, hz2⟩ := info_parts Tryd.infoIns
  have HT : Hid (WasAt w w.heap.size v T) := hT
  obtain ⟨ao, cap, rfl, hlc, hcm, _⟩ := hT
  unfold maxLen at hcm
  obtain ⟨R, hR⟩ : ∃ R, R = cpo T := ⟨_, rfl⟩
  rw [← hR]
  have HR : Hid (R = cpo T) := hR
  clear hR
  unfold OPro
  obtain ⟨W1, hW1⟩ : ∃ W, W = (w.alloc (.cells #[.slice ao T.length cap] 25)).alloc (.cells #[.slice none 0 0] 30) := ⟨_, rfl⟩
  have hB1 : Below w.heap.size w W1 := by rw [hW1]; exact ((Below.refl _ w).alloc (Nat.le_refl _) _).alloc (by simp) _
  have hs1 : Hid (W1.heap.size = w.heap.size + 2) := by show _ = _; rw [hW1]; simp
  have hl1 : w.heap.size + 1 < W1.heap.size := by rw [hs1.out]; omega
  have q1 : W1.cell? ⟨w.heap.size, 0, none⟩ = some (.slice ao T.length cap) := by rw [hW1]; go_simp
  have r1 : W1.cell? ⟨w.heap.size + 1, 0, none⟩ = some (.slice none 0 0) := by rw [hW1]; go_simp
  have f1 : W1.frozen? ⟨w.heap.size + 1, 0, none⟩ = false := by rw [hW1]; go_simp
  go_enter Tryd.func7, Tryd.ntmps7
  go_wp2_with fail
  rw [← hW1]
  clear hW1
  refine (specGoodF T _ _ (HT.out.below hB1)).mono ?_
  rintro e w2 ⟨rfl, hb2⟩
  have hB2 : Below w.heap.size w w2 := hB1.trans (hb2.mono (by omega))
  have hl2 : w.heap.size + 1 < w2.heap.size := by have := hb2.size; omega
  have hl2' : w.heap.size < w2.heap.size := by omega
  have q2 := (hb2.cell (p := ⟨w.heap.size, 0, none⟩) (by show w.heap.size < _; omega)).trans q1
  have r2 := (hb2.cell (p := ⟨w.heap.size + 1, 0, none⟩) hl1).trans r1
  have f2 := (hb2.frozen (p := ⟨w.heap.size + 1, 0, none⟩) hl1).trans f1
  clear hb2 q1 r1 f1 hs1 hl1
  cases hg : gf T with
  | false =>
    have hn : Hid (R = ([], false)) := HR.out.trans (by unfold cpo; rw [hg]; rfl)
    clear HR hg
    go_wp2
    (try simp only [Exit.inBlock, Exit.then])
    refine bodyPost_ret (v := .tuple #[.agg #[.slice none 0 0], .bool false]) ?_ rfl ⟨.slice none 0 0, by rw [hn.out], by rw [hn.out]; exact World.ownsRow_nil _ _ _ _, ?_⟩
    · rw [results_cell_tmp rfl]
      go_simp
    · exact hB2.setCell (by simp) _
  | true =>
    obtain ⟨h0, h20⟩ := gf_len hg
    have hn : Hid (R = (cmp T (T.length - 1) 0 ++ [iEnd], true)) := HR.out.trans (by unfold cpo; rw [hg]; rfl)
    have HG : Hid (gf T = true) := hg
    clear HR hg
    have hk1 : (((T.length - 1 : Nat)) : Int) = (T.length : Int) - 1 := by omega
    have HT2 : Hid (WasAt w2 w2.heap.size (.slice ao T.length cap) T) := HT.out.below hB2
    have CP : Hid (∀ W : World, WasAt W W.heap.size (.slice ao T.length cap) T → Calls Tryd.prog 25 #[.agg #[.slice ao T.length cap], .int .i64 ((T.length : Int) - 1), .slice none 0 0] W (CmpOut W W.heap.size (.slice none 0 0) (cmp T (T.length - 1) 0))) := fun W h2 => by
      have hp : 2 ^ (T.length - 1 + 2) ≤ 2 ^ 21 := Nat.pow_le_pow_right (by omega) (by omega)
      have hp2 : (2 : Nat) ^ 21 = 2097152 := by decide
      have := l8Compile_any T HG.out (T.length - 1) (by omega) W.heap.size _ (.slice none 0 0) [] W (World.ownsRow_nil _ _ _ _) (Nat.le_refl _) h2 (by simp only [List.length_nil]; omega)
      rw [hk1] at this
      simpa using this
    have hql : 1 ≤ T.length := h0
    clear hk1
    go_wp2_with fail
    refine (CP.out _ HT2.out).mono ?_
    rintro e w4 ⟨v4, rfl, hR4, hP4⟩
    have hsm : (cmp T (T.length - 1) 0).length ≤ 9999999 := by have := cmp_small T (T.length - 1) 0 (by omega); omega
    generalize cmp T (T.length - 1) 0 = L at hR4 hsm hn CP
    clear CP
    obtain ⟨ar4, cap4, rfl, hn4, hcm4⟩ := hR4.slice
    have HR4 : Hid (IRow w4 w2.heap.size (.slice ar4 L.length cap4) L) := hR4
    have hB4 : Below w2.heap.size w2 w4 := hP4.below (Nat.le_refl _) (fun g h => by cases h) (fun g h => by simp [Value.ownBlock] at h)
    have hs4 := hB4.size
    clear hR4 hP4
    go_wp2_with (at_builtin; refine wpList_append_lies _ rfl _ _ 28 rfl w2.heap.size 59 i0 (.agg #[.int .i64 0, .int .i64 0, .int .i64 0, .int .i64 0, .string ⟨#[]⟩, .int .i64 0]) 6 56 Tryd.underlying28 hi hz0 hz1 hz2 rfl (by decide) _ L.length _ rfl (World.ownsRow.alloc HR4.out _) ⟨w4.heap.size, 0, none⟩ 1 1 [.int .i64 5, .int .i64 0, .int .i64 0, .int .i64 0, .string ⟨#[]⟩, .int .i64 0] rfl rfl ?c1 (one6I _ _ _ _ _ _) ?c2 ?c3 ?c4 ?c5 (w4.heap.size + 1) ?c6 ?_)
    case c1 => exact World.news_of_block (heap_alloc_new w4 _)
    case c2 => omega
    case c3 => unfold maxLen; omega
    case c4 => omega
    case c5 => simp; omega
    case c6 => simp
    intro g5 cap5 w5 hown5 hgrow5 hat5 hlt5
    have hE5 := app_end (L := L) (x := iEnd) hown5 hgrow5 hat5
    rw [show (L ++ [iEnd]).length = L.length + 1 by simp] at hE5
    have HR5 : Hid (IRow w5 w2.heap.size (.slice (some ⟨g5, 0, none⟩) (L.length + 1) cap5) (L ++ [iEnd])) := hE5.1
    have hB5 : Below w2.heap.size w4 w5 := HR4.out.keeps hs4 hE5.2
    have hB25 : Below w2.heap.size w2 w5 := hB4.trans hB5
    have r5 := (hB25.cell (p := ⟨w.heap.size + 1, 0, none⟩) hl2).trans r2
    have f5 := (hB25.frozen (p := ⟨w.heap.size + 1, 0, none⟩) hl2).trans f2
    have hBw5 : Hid (Below w.heap.size w w5) := hB2.trans (hB25.mono (by omega))
    clear hown5 hgrow5 hat5 hE5 hB5 hB4 HR4 hB25
    go_wp2
    (try simp only [Exit.inBlock, Exit.then])
    refine bodyPost_ret (v := .tuple #[.agg #[.slice (some ⟨g5, 0, none⟩) (L.length + 1) cap5], .bool true]) ?_ rfl ⟨.slice (some ⟨g5, 0, none⟩) (L.length + 1) cap5, by rw [hn.out], by rw [hn.out]; exact (HR5.out.setCell (a := ⟨w.heap.size + 1, 0, none⟩) (by show w.heap.size + 1 < _; omega) _).lower (by omega), hBw5.out.setCell (by simp) _⟩
    rw [results_cell_tmp rfl]
    go_simp

end Go.Proofs.YtmjpmmkjfimopaaDoor
