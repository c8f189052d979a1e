/- The model's look at one want. -/
import Derived.Test.YtmjpmmkjfimopaaDoorFwM
import Derived.Test.YtmjpmmkjfimopaaDoorHb
import Derived.Test.YtmjpmmkjfimopaaDoorGd
import Derived.BigQuiet
import Derived.Deep.RegionWith
namespace Go.Proofs.YtmjpmmkjfimopaaDoor
open Go.RowKit Plain Sch Wan

set_option maxRecDepth 100000 in
set_option maxHeartbeats 1000000 in
theorem l1Number_w (n : Int) (w : World) : Calls Tryd.prog 71 #[.int .i64 n] w fun e w' => e = .returned (.bool (nOk n)) ∧ w' = w := by
  have hn : decide (-1000000000 ≤ n ∧ n ≤ 1000000000) = nOk n := by unfold nOk; by_cases h1 : -1000000000 ≤ n <;> by_cases h2 : n ≤ 1000000000 <;> simp [h1, h2]
  go_enter Tryd.func71, Tryd.ntmps71
  go_wp2_with fail
  refine (l1In_any n (-1000000000) 1000000000 _).mono ?_
  rintro e w1 ⟨rfl, rfl⟩
  rw [hn]
  go_wp2
  go_ret
  exact ⟨rfl, rfl⟩

/-- the model's words -/
def speW (x : Wa) (i : Int) : Bool :=
  if isAsk x.kind != (x.no != 0) then false
  else if ¬ (0 ≤ x.no ∧ x.no ≤ 30) then false
  else if ¬ x.text.size ≤ 30 then false
  else if nOk x.num = false then false
  else if 3 < x.kind ∧ x.num ≠ 0 then false
  else if x.kind ≠ 5 ∧ x.text ≠ ⟨#[]⟩ then false
  else if isAsk x.kind then decide (x.a = 0 ∧ x.b = 0)
  else if x.kind = 8 then decide (0 ≤ x.a ∧ x.a < i ∧ x.b = 0)
  else decide (6 ≤ x.kind ∧ x.kind ≤ 7) && decide (0 ≤ x.a ∧ x.a < x.b ∧ x.b < i)

theorem nOk_zero : nOk 0 = true := by decide

theorem speW_eq (x : Wa) (i : Nat) : speW x i = okW x i := by
  obtain ⟨k, n, m, t, a, b⟩ := x
  unfold speW okW
  dsimp only
  by_cases ha : isAsk k = true
  · rw [ha]
    have hb := ask_bounds ha
    simp only [if_true, okAsk]
    by_cases h1 : n = 0
    · simp [h1]
    · have h1' : (n != 0) = true := by simp [h1]
      rw [h1']
      simp only [bne_self_eq_false, Bool.false_eq_true, if_false]
      by_cases h2 : 0 ≤ n ∧ n ≤ 30
      · rw [if_neg (by simpa using h2)]
        by_cases h3 : t.size ≤ 30
        · rw [if_neg (by simpa using h3)]
          by_cases h4 : nOk m = true
          · rw [if_neg (by simp [h4]), h4]
            have h21 : decide (1 ≤ n) = true := by simp; omega
            rw [h21]
            simp only [h2.2, h3, decide_true, Bool.and_true, Wa.mk.injEq, true_and]
            by_cases h5 : 3 < k ∧ m ≠ 0
            · rw [if_pos h5, if_neg (by omega)]
              simp [h5.2]
            · rw [if_neg h5]
              by_cases h6 : k ≠ 5 ∧ t ≠ ⟨#[]⟩
              · rw [if_pos h6, if_neg (by omega : ¬ k = 5)]
                simp [h6.2]
              · rw [if_neg h6]
                have e1 : (m = if k ≤ 3 then m else 0) := by
                  by_cases q : k ≤ 3
                  · rw [if_pos q]
                  · rw [if_neg q]
                    by_cases q2 : m = 0
                    · exact q2
                    · exact absurd ⟨by omega, q2⟩ h5
                have e2 : (t = if k = 5 then t else ⟨#[]⟩) := by
                  by_cases q : k = 5
                  · rw [if_pos q]
                  · rw [if_neg q]
                    by_cases q2 : t = ⟨#[]⟩
                    · exact q2
                    · exact absurd ⟨q, q2⟩ h6
                rw [← e1, ← e2]
                simp
          · have h4' : nOk m = false := by simpa using h4
            rw [if_pos h4', h4']; simp
        · rw [if_pos h3]; simp [h3]
      · rw [if_pos h2]
        by_cases q : 1 ≤ n
        · have : ¬ n ≤ 30 := by omega
          simp [this]
        · simp [q]
  · have ha' : isAsk k = false := by simpa using ha
    rw [ha']
    simp only [Bool.false_eq_true, if_false]
    by_cases h1 : n = 0
    · subst h1
      simp only [bne_self_eq_false, Bool.false_eq_true, if_false]
      rw [if_neg (by omega)]
      by_cases hb : isBin k = true
      · have hbb := bin_bounds hb
        rw [if_pos hb]
        unfold okBin
        simp only [Wa.mk.injEq, true_and, and_true]
        by_cases h5 : m = 0
        · subst h5
          by_cases h6 : t = ⟨#[]⟩
          · subst h6
            rw [if_neg (show ¬ ¬ (ByteArray.mk #[]).size ≤ 30 by decide), if_neg (show ¬ nOk 0 = false by rw [nOk_zero]; decide), if_neg (by simp), if_neg (by simp)]
            rw [if_neg (by omega)]
            have : 6 ≤ k ∧ k ≤ 7 := by omega
            rw [show decide (6 ≤ k ∧ k ≤ 7) = true by simp [this]]
            by_cases q1 : 0 ≤ a <;> by_cases q2 : a < b <;> by_cases q3 : b < (i : Int) <;> simp [q1, q2, q3]
          · have hr : ∀ q : Prop, [Decidable q] → decide (0 = (0 : Int) ∧ t = ⟨#[]⟩ ∧ q) = false := fun q _ => by simp [h6]
            have hr2 : decide (0 = (0 : Int) ∧ t = ⟨#[]⟩) = false := by simp [h6]
            by_cases h3 : t.size ≤ 30
            · rw [if_neg (by simp [h3]), if_neg (show ¬ nOk 0 = false by rw [nOk_zero]; decide), if_neg (by simp), if_pos (by exact ⟨by omega, h6⟩)]
              first | rw [hr2]; rfl | (rw [hr]; rfl)
            · rw [if_pos h3]
              first | rw [hr2]; rfl | (rw [hr]; rfl)
        · have hr : ∀ q : Prop, [Decidable q] → decide (m = 0 ∧ q) = false := fun q _ => by simp [h5]
          by_cases h3 : t.size ≤ 30
          · rw [if_neg (by simp [h3])]
            by_cases h4 : nOk m = false
            · rw [if_pos h4, hr]; rfl
            · rw [if_neg h4, if_pos (by exact ⟨by omega, h5⟩), hr]; rfl
          · rw [if_pos h3, hr]; rfl
      · rw [if_neg hb]
        by_cases hn : isNot k = true
        · have hbb := not_bounds hn
          rw [if_pos hn]
          unfold okNot
          simp only [Wa.mk.injEq, true_and]
          by_cases h5 : m = 0
          · subst h5
            by_cases h6 : t = ⟨#[]⟩
            · subst h6
              rw [if_neg (show ¬ ¬ (ByteArray.mk #[]).size ≤ 30 by decide), if_neg (show ¬ nOk 0 = false by rw [nOk_zero]; decide), if_neg (by simp), if_neg (by simp)]
              rw [if_pos hbb]
              by_cases q1 : 0 ≤ a <;> by_cases q2 : b = 0 <;> by_cases q3 : a < (i : Int) <;> simp [q1, q2, q3]
            · have hr : ∀ q : Prop, [Decidable q] → decide (0 = (0 : Int) ∧ t = ⟨#[]⟩ ∧ q) = false := fun q _ => by simp [h6]
              have hr2 : decide (0 = (0 : Int) ∧ t = ⟨#[]⟩) = false := by simp [h6]
              by_cases h3 : t.size ≤ 30
              · rw [if_neg (by simp [h3]), if_neg (show ¬ nOk 0 = false by rw [nOk_zero]; decide), if_neg (by simp), if_pos (by exact ⟨by omega, h6⟩)]
                first | rw [hr2]; rfl | (rw [hr]; rfl)
              · rw [if_pos h3]
                first | rw [hr2]; rfl | (rw [hr]; rfl)
          · have hr : ∀ q : Prop, [Decidable q] → decide (m = 0 ∧ q) = false := fun q _ => by simp [h5]
            by_cases h3 : t.size ≤ 30
            · rw [if_neg (by simp [h3])]
              by_cases h4 : nOk m = false
              · rw [if_pos h4, hr]; rfl
              · rw [if_neg h4, if_pos (by exact ⟨by omega, h5⟩), hr]; rfl
            · rw [if_pos h3, hr]; rfl
        · rw [if_neg hn]
          have k8 : ¬ k = 8 := by intro e; apply hn; simp [isNot, e]
          have k67 : ¬ (6 ≤ k ∧ k ≤ 7) := by intro e; apply hb; simp [isBin]; omega
          rw [if_neg k8]
          simp [k67]
    · have h1' : (n != 0) = true := by simp [h1]
      rw [h1']
      simp only [Bool.false_bne, if_true]
      by_cases hb : isBin k = true
      · rw [if_pos hb]; unfold okBin; simp [h1]
      · rw [if_neg hb]
        by_cases hn : isNot k = true
        · rw [if_pos hn]; unfold okNot; simp [h1]
        · rw [if_neg hn]

set_option maxRecDepth 100000 in
set_option maxHeartbeats 8000000 in
theorem l7Want_any (x : Wa) (i : Nat) (w : World) (hs : x.text.size ≤ maxLen) :
    Calls Tryd.prog 48 #[.agg #[.int .i64 x.kind, .int .i64 x.no, .int .i64 x.num, .string x.text, .int .i64 x.a, .int .i64 x.b], .int .i64 i] w fun e w' => e = .returned (.bool (okW x i)) ∧ Below w.heap.size w w' := by
  rw [← speW_eq]
  obtain ⟨k, n, m, t, a, b⟩ := x
  obtain ⟨R, hR⟩ : ∃ R, R = speW ⟨k, n, m, t, a, b⟩ i := ⟨_, rfl⟩
  rw [← hR]
  have HR : Hid (R = speW ⟨k, n, m, t, a, b⟩ i) := hR
  clear hR
  dsimp only at hs ⊢
  unfold maxLen at hs
  have hs' : (t.size : Int) ≤ 9223372036854775807 := by omega
  have hB : ∀ o, Below w.heap.size w (w.alloc o) := fun o => (Below.refl _ w).alloc (Nat.le_refl _) o
  have hk1 : decide (1 ≤ k ∧ k ≤ 5) = isAsk k := by unfold isAsk; by_cases h1 : 1 ≤ k <;> by_cases h2 : k ≤ 5 <;> simp [h1, h2]
  go_enter Tryd.func48, Tryd.ntmps48
  go_wp2_with fail
  refine (l1In_any k 1 5 _).mono ?_
  rintro e w1 ⟨rfl, rfl⟩
  rw [hk1]
  clear hk1
  cases hk : isAsk k with
  | true =>
    have hk5 := ask_bounds hk
    by_cases h1 : n = 0
    · subst h1
      have hF : Hid (R = false) := by show R = _; rw [HR.out]; unfold speW; dsimp only; simp [hk]
      clear HR 
      go_wp2
      go_ret
      exact ⟨by rw [hF.out]; rfl, hB _⟩
    · have h1' : (n != 0) = true := by simp [h1]
      go_wp2_with fail
      refine (l1In_any n 0 30 _).mono ?_
      rintro e w1 ⟨rfl, rfl⟩
      by_cases h2 : 0 ≤ n ∧ n ≤ 30
      · rw [show decide (0 ≤ n ∧ n ≤ 30) = true by simp [h2]]
        by_cases h3 : t.size ≤ 30
        · have h3' : ¬ (30 : Int) < (t.size : Int) := by omega
          have h3n : ¬ 30 < t.size := by omega
          go_wp2_with fail
          refine (l1Number_w m _).mono ?_
          rintro e w1 ⟨rfl, rfl⟩
          cases h4 : nOk m with
          | false =>
            have hF : Hid (R = false) := by show R = _; rw [HR.out]; unfold speW; dsimp only; simp [hk, h1, h2, h3, h4]
            clear HR 
            go_wp2
            go_ret
            exact ⟨by rw [hF.out]; rfl, hB _⟩
          | true =>
            by_cases h5 : 3 < k ∧ m ≠ 0
            · obtain ⟨h51, h52⟩ := h5
              have h52' : (m != 0) = true := by simp [h52]
              have h51' : (3 : Int) < k := h51
              have hF : Hid (R = false) := by show R = _; rw [HR.out]; unfold speW; dsimp only; simp [hk, h1, h2, h3, h4, h51, h52]
              clear HR 
              go_wp2
              go_ret
              exact ⟨by rw [hF.out]; rfl, hB _⟩
            · by_cases h6 : k ≠ 5 ∧ t ≠ ⟨#[]⟩
              · obtain ⟨h61, h62⟩ := h6
                have h61' : (k != 5) = true := by simp [h61]
                have h62' : (t.toList == (ByteArray.mk #[]).toList) = false := str_neB h62
                have h62b : t.toList.isEmpty = false := str_some h62
                have hF : Hid (R = false) := by show R = _; rw [HR.out]; unfold speW; dsimp only; simp [hk, h1, h2, h3, h4, h61, h62]
                clear HR h62
                by_cases h7 : 3 < k
                · have h8 : m = 0 := by by_cases q : m = 0; exact q; exact absurd ⟨h7, q⟩ h5
                  subst h8
                  go_wp2
                  go_ret
                  exact ⟨by rw [hF.out]; rfl, hB _⟩
                · clear h5
                  go_wp2
                  go_ret
                  exact ⟨by rw [hF.out]; rfl, hB _⟩
              · have h45 : Hid (R = (if isAsk k then decide (a = 0 ∧ b = 0) else if k = 8 then decide (0 ≤ a ∧ a < i ∧ b = 0) else decide (6 ≤ k ∧ k ≤ 7) && decide (0 ≤ a ∧ a < b ∧ b < i))) := by show R = _; rw [HR.out]; unfold speW; dsimp only; rw [if_neg h6, if_neg h5]; simp [hk, h1, h2, h3, h4]
                clear HR
                rw [hk] at h45
                obtain ⟨k0, hk0⟩ : ∃ q : Bool, q = decide (3 < k) := ⟨_, rfl⟩
                by_cases h7 : 3 < k
                · clear hk0
                  have h8 : m = 0 := by by_cases q : m = 0; exact q; exact absurd ⟨h7, q⟩ h5
                  subst h8
                  clear h5
                  by_cases h9 : k = 5
                  · subst h9
                    simp only [if_true] at h45
                    by_cases ha : a = 0
                    · subst ha
                      by_cases hb : b = 0
                      · subst hb
                        have hF : Hid (R = true) := by show R = _; rw [h45.out]; simp
                        clear h45
                        go_wp2
                        go_ret
                        exact ⟨by rw [hF.out]; rfl, hB _⟩
                      · have hb' : (b == 0) = false := by simp [hb]
                        have hF : Hid (R = false) := by show R = _; rw [h45.out]; simp [hb]
                        clear h45 hb
                        go_wp2
                        go_ret
                        exact ⟨by rw [hF.out]; rfl, hB _⟩
                    · have ha' : (a == 0) = false := by simp [ha]
                      have hF : Hid (R = false) := by show R = _; rw [h45.out]; simp [ha]
                      clear h45 ha
                      go_wp2
                      go_ret
                      exact ⟨by rw [hF.out]; rfl, hB _⟩
                  · have h9' : (k != 5) = true := by simp [h9]
                    have h10 : t = ⟨#[]⟩ := by by_cases q : t = ⟨#[]⟩; exact q; exact absurd ⟨h9, q⟩ h6
                    subst h10
                    clear h6
                    simp only [if_true] at h45
                    by_cases ha : a = 0
                    · subst ha
                      by_cases hb : b = 0
                      · subst hb
                        have hF : Hid (R = true) := by show R = _; rw [h45.out]; simp
                        clear h45
                        go_wp2
                        go_ret
                        exact ⟨by rw [hF.out]; rfl, hB _⟩
                      · have hb' : (b == 0) = false := by simp [hb]
                        have hF : Hid (R = false) := by show R = _; rw [h45.out]; simp [hb]
                        clear h45 hb
                        go_wp2
                        go_ret
                        exact ⟨by rw [hF.out]; rfl, hB _⟩
                    · have ha' : (a == 0) = false := by simp [ha]
                      have hF : Hid (R = false) := by show R = _; rw [h45.out]; simp [ha]
                      clear h45 ha
                      go_wp2
                      go_ret
                      exact ⟨by rw [hF.out]; rfl, hB _⟩
                · clear hk0
                  clear h5
                  by_cases h9 : k = 5
                  · subst h9
                    omega
                  · have h9' : (k != 5) = true := by simp [h9]
                    have h10 : t = ⟨#[]⟩ := by by_cases q : t = ⟨#[]⟩; exact q; exact absurd ⟨h9, q⟩ h6
                    subst h10
                    clear h6
                    simp only [if_true] at h45
                    by_cases ha : a = 0
                    · subst ha
                      by_cases hb : b = 0
                      · subst hb
                        have hF : Hid (R = true) := by show R = _; rw [h45.out]; simp
                        clear h45
                        go_wp2
                        go_ret
                        exact ⟨by rw [hF.out]; rfl, hB _⟩
                      · have hb' : (b == 0) = false := by simp [hb]
                        have hF : Hid (R = false) := by show R = _; rw [h45.out]; simp [hb]
                        clear h45 hb
                        go_wp2
                        go_ret
                        exact ⟨by rw [hF.out]; rfl, hB _⟩
                    · have ha' : (a == 0) = false := by simp [ha]
                      have hF : Hid (R = false) := by show R = _; rw [h45.out]; simp [ha]
                      clear h45 ha
                      go_wp2
                      go_ret
                      exact ⟨by rw [hF.out]; rfl, hB _⟩
        · have h3' : (30 : Int) < (t.size : Int) := by omega
          have h3n : 30 < t.size := by omega
          have hF : Hid (R = false) := by show R = _; rw [HR.out]; unfold speW; dsimp only; simp [hk, h1, h2, h3]
          clear HR h3
          go_wp2
          go_ret
          exact ⟨by rw [hF.out]; rfl, hB _⟩
      · rw [show decide (0 ≤ n ∧ n ≤ 30) = false by simp only [decide_eq_false_iff_not]; exact h2]
        have hF : Hid (R = false) := by show R = _; rw [HR.out]; unfold speW; dsimp only; rw [if_neg (by simp [hk, h1]), if_pos h2]
        clear HR h2
        go_wp2
        go_ret
        exact ⟨by rw [hF.out]; rfl, hB _⟩
  | false =>
    by_cases h1 : n = 0
    · subst h1
      go_wp2_with fail
      refine (l1In_any 0 0 30 _).mono ?_
      rintro e w1 ⟨rfl, rfl⟩
      · rw [show decide ((0 : Int) ≤ 0 ∧ (0 : Int) ≤ 30) = true by simp]
        by_cases h3 : t.size ≤ 30
        · have h3' : ¬ (30 : Int) < (t.size : Int) := by omega
          have h3n : ¬ 30 < t.size := by omega
          go_wp2_with fail
          refine (l1Number_w m _).mono ?_
          rintro e w1 ⟨rfl, rfl⟩
          cases h4 : nOk m with
          | false =>
            have hF : Hid (R = false) := by show R = _; rw [HR.out]; unfold speW; dsimp only; simp [hk, h3, h4]
            clear HR 
            go_wp2
            go_ret
            exact ⟨by rw [hF.out]; rfl, hB _⟩
          | true =>
            by_cases h5 : 3 < k ∧ m ≠ 0
            · obtain ⟨h51, h52⟩ := h5
              have h52' : (m != 0) = true := by simp [h52]
              have h51' : (3 : Int) < k := h51
              have hF : Hid (R = false) := by show R = _; rw [HR.out]; unfold speW; dsimp only; simp [hk, h3, h4, h51, h52]
              clear HR 
              go_wp2
              go_ret
              exact ⟨by rw [hF.out]; rfl, hB _⟩
            · by_cases h6 : k ≠ 5 ∧ t ≠ ⟨#[]⟩
              · obtain ⟨h61, h62⟩ := h6
                have h61' : (k != 5) = true := by simp [h61]
                have h62' : (t.toList == (ByteArray.mk #[]).toList) = false := str_neB h62
                have h62b : t.toList.isEmpty = false := str_some h62
                have hF : Hid (R = false) := by show R = _; rw [HR.out]; unfold speW; dsimp only; simp [hk, h3, h4, h61, h62]
                clear HR h62
                by_cases h7 : 3 < k
                · have h8 : m = 0 := by by_cases q : m = 0; exact q; exact absurd ⟨h7, q⟩ h5
                  subst h8
                  go_wp2
                  go_ret
                  exact ⟨by rw [hF.out]; rfl, hB _⟩
                · clear h5
                  go_wp2
                  go_ret
                  exact ⟨by rw [hF.out]; rfl, hB _⟩
              · have h45 : Hid (R = (if isAsk k then decide (a = 0 ∧ b = 0) else if k = 8 then decide (0 ≤ a ∧ a < i ∧ b = 0) else decide (6 ≤ k ∧ k ≤ 7) && decide (0 ≤ a ∧ a < b ∧ b < i))) := by show R = _; rw [HR.out]; unfold speW; dsimp only; rw [if_neg h6, if_neg h5]; simp [hk, h3, h4]
                clear HR
                rw [hk] at h45
                obtain ⟨k0, hk0⟩ : ∃ q : Bool, q = decide (3 < k) := ⟨_, rfl⟩
                by_cases h7 : 3 < k
                · clear hk0
                  have h8 : m = 0 := by by_cases q : m = 0; exact q; exact absurd ⟨h7, q⟩ h5
                  subst h8
                  clear h5
                  by_cases h9 : k = 5
                  · subst h9
                    exact absurd hk (by decide)
                  · have h9' : (k != 5) = true := by simp [h9]
                    have h10 : t = ⟨#[]⟩ := by by_cases q : t = ⟨#[]⟩; exact q; exact absurd ⟨h9, q⟩ h6
                    subst h10
                    clear h6
                    simp only [Bool.false_eq_true, if_false] at h45
                    by_cases hk8 : k = 8
                    · subst hk8
                      by_cases ha : 0 ≤ a
                      · by_cases hai : a < (i : Int)
                        · by_cases hb : b = 0
                          · subst hb
                            have hF : Hid (R = true) := by show R = _; rw [h45.out]; simp [ha, hai]
                            clear h45 
                            go_wp2
                            go_ret
                            exact ⟨by rw [hF.out]; rfl, hB _⟩
                          · have hb' : (b == 0) = false := by simp [hb]
                            have hF : Hid (R = false) := by show R = _; rw [h45.out]; simp [hb]
                            clear h45 hb
                            go_wp2
                            go_ret
                            exact ⟨by rw [hF.out]; rfl, hB _⟩
                        · have hai' : decide (a < (i : Int)) = false := by simpa using hai
                          have hF : Hid (R = false) := by show R = _; rw [h45.out]; simp [hai]
                          clear h45 hai
                          go_wp2
                          go_ret
                          exact ⟨by rw [hF.out]; rfl, hB _⟩
                      · have ha' : decide (0 ≤ a) = false := by simpa using ha
                        have hF : Hid (R = false) := by show R = _; rw [h45.out]; simp [ha]
                        clear h45 ha
                        go_wp2
                        go_ret
                        exact ⟨by rw [hF.out]; rfl, hB _⟩
                    · have hk8' : (k == 8) = false := by simp [hk8]
                      rw [if_neg hk8] at h45
                      go_wp2_with fail
                      refine (l1In_any k 6 7 _).mono ?_
                      rintro e w1 ⟨rfl, rfl⟩
                      by_cases h67 : 6 ≤ k ∧ k ≤ 7
                      · have h67' : decide (6 ≤ k ∧ k ≤ 7) = true := by simp [h67]
                        rw [h67'] at h45 ⊢
                        by_cases ha : 0 ≤ a
                        · by_cases hab : a < b
                          · by_cases hbi : b < (i : Int)
                            · skip
                              have hF : Hid (R = true) := by show R = _; rw [h45.out]; simp [ha, hab, hbi]
                              clear h45 
                              go_wp2
                              go_ret
                              exact ⟨by rw [hF.out]; rfl, hB _⟩
                            · have hbi' : decide (b < (i : Int)) = false := by simpa using hbi
                              have hF : Hid (R = false) := by show R = _; rw [h45.out]; simp [hbi]
                              clear h45 hbi
                              go_wp2
                              go_ret
                              exact ⟨by rw [hF.out]; rfl, hB _⟩
                          · have hab' : decide (a < b) = false := by simpa using hab
                            have hF : Hid (R = false) := by show R = _; rw [h45.out]; simp [hab]
                            clear h45 hab
                            go_wp2
                            go_ret
                            exact ⟨by rw [hF.out]; rfl, hB _⟩
                        · have ha' : decide (0 ≤ a) = false := by simpa using ha
                          have hF : Hid (R = false) := by show R = _; rw [h45.out]; simp [ha]
                          clear h45 ha
                          go_wp2
                          go_ret
                          exact ⟨by rw [hF.out]; rfl, hB _⟩
                      · have h67' : decide (6 ≤ k ∧ k ≤ 7) = false := by simp only [decide_eq_false_iff_not]; exact h67
                        rw [h67'] at h45 ⊢
                        have hF : Hid (R = false) := by show R = _; rw [h45.out]; simp []
                        clear h45 
                        go_wp2
                        go_ret
                        exact ⟨by rw [hF.out]; rfl, hB _⟩
                · clear hk0
                  clear h5
                  by_cases h9 : k = 5
                  · subst h9
                    omega
                  · have h9' : (k != 5) = true := by simp [h9]
                    have h10 : t = ⟨#[]⟩ := by by_cases q : t = ⟨#[]⟩; exact q; exact absurd ⟨h9, q⟩ h6
                    subst h10
                    clear h6
                    simp only [Bool.false_eq_true, if_false] at h45
                    by_cases hk8 : k = 8
                    · subst hk8
                      exact absurd (by decide) h7
                    · have hk8' : (k == 8) = false := by simp [hk8]
                      rw [if_neg hk8] at h45
                      go_wp2_with fail
                      refine (l1In_any k 6 7 _).mono ?_
                      rintro e w1 ⟨rfl, rfl⟩
                      by_cases h67 : 6 ≤ k ∧ k ≤ 7
                      · have h67' : decide (6 ≤ k ∧ k ≤ 7) = true := by simp [h67]
                        exfalso; omega
                      · have h67' : decide (6 ≤ k ∧ k ≤ 7) = false := by simp only [decide_eq_false_iff_not]; exact h67
                        rw [h67'] at h45 ⊢
                        have hF : Hid (R = false) := by show R = _; rw [h45.out]; simp []
                        clear h45 
                        go_wp2
                        go_ret
                        exact ⟨by rw [hF.out]; rfl, hB _⟩
        · have h3' : (30 : Int) < (t.size : Int) := by omega
          have h3n : 30 < t.size := by omega
          have hF : Hid (R = false) := by show R = _; rw [HR.out]; unfold speW; dsimp only; simp [hk, h3]
          clear HR h3
          go_wp2
          go_ret
          exact ⟨by rw [hF.out]; rfl, hB _⟩
    · have h1' : (n != 0) = true := by simp [h1]
      have hF : Hid (R = false) := by show R = _; rw [HR.out]; unfold speW; dsimp only; simp [hk, h1]
      clear HR 
      go_wp2
      go_ret
      exact ⟨by rw [hF.out]; rfl, hB _⟩

end Go.Proofs.YtmjpmmkjfimopaaDoor
