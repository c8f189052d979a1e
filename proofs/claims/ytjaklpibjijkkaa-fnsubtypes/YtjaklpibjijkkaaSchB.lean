/- The program's looks at one type of a schema. -/
import Derived.Test.YtjaklpibjijkkaaSchM
namespace Go.Proofs.Ytjaklpibjijkkaa
open Go.RowKit Plain Sch

set_option maxRecDepth 100000 in
set_option maxHeartbeats 1000000 in
theorem hasParts_any (kind : Int) (name : ByteArray) (no : Int) (must : Bool) (up most : Int) (w : World) :
    Calls Try.prog 86 #[.agg #[.int .i64 kind, .string name, .int .i64 no, .bool must, .int .i64 up, .int .i64 most]] w fun e w' => e = .returned (.bool (holds kind)) ∧ Below w.heap.size w w' := by
  by_cases h4 : kind = 4
  · subst h4
    go_enter Try.func86, Try.ntmps86
    go_wp2
    go_ret
    exact ⟨rfl, (Below.refl _ w).alloc (Nat.le_refl _) _⟩
  · have d4 : (kind == 4) = false := by simpa using h4
    by_cases h5 : kind = 5
    · subst h5
      go_enter Try.func86, Try.ntmps86
      go_wp2
      go_ret
      exact ⟨rfl, (Below.refl _ w).alloc (Nat.le_refl _) _⟩
    · have d5 : (kind == 5) = false := by simpa using h5
      have hh : holds kind = false := by unfold holds; simp [h4, h5]
      rw [hh]
      go_enter Try.func86, Try.ntmps86
      go_wp2
      go_ret
      exact ⟨rfl, (Below.refl _ w).alloc (Nat.le_refl _) _⟩

set_option maxRecDepth 100000 in
set_option maxHeartbeats 1000000 in
theorem goodKind_any (kind : Int) (name : ByteArray) (no : Int) (must : Bool) (up most : Int) (w : World) :
    Calls Try.prog 79 #[.agg #[.int .i64 kind, .string name, .int .i64 no, .bool must, .int .i64 up, .int .i64 most]] w fun e w' => e = .returned (.bool (okKind ⟨kind, name, no, must, up, most⟩)) ∧ Below w.heap.size w w' := by
  have hB : ∀ o, Below w.heap.size w (w.alloc o) := fun o => (Below.refl _ w).alloc (Nat.le_refl _) o
  unfold okKind
  dsimp only
  by_cases h3 : kind = 3
  · subst h3
    by_cases m0 : 0 ≤ most
    · by_cases m20 : most ≤ 20
      · have hd : (decide ((1 : Int) ≤ 3) && decide ((3 : Int) ≤ 5) && (if (3 : Int) = 3 then decide (0 ≤ most) && decide (most ≤ 20) else decide (most = 0))) = true := by simp [m0, m20]
        rw [hd]
        go_enter Try.func79, Try.ntmps79
        go_wp2
        go_ret
        exact ⟨rfl, hB _⟩
      · have hd : (decide ((1 : Int) ≤ 3) && decide ((3 : Int) ≤ 5) && (if (3 : Int) = 3 then decide (0 ≤ most) && decide (most ≤ 20) else decide (most = 0))) = false := by simp [m20]
        rw [hd]
        have m20' : decide (most ≤ 20) = false := by simpa using m20
        clear m20
        go_enter Try.func79, Try.ntmps79
        go_wp2
        go_ret
        exact ⟨rfl, hB _⟩
    · have hd : (decide ((1 : Int) ≤ 3) && decide ((3 : Int) ≤ 5) && (if (3 : Int) = 3 then decide (0 ≤ most) && decide (most ≤ 20) else decide (most = 0))) = false := by simp [m0]
      rw [hd]
      have m0' : decide (0 ≤ most) = false := by simpa using m0
      clear m0
      go_enter Try.func79, Try.ntmps79
      go_wp2
      go_ret
      exact ⟨rfl, hB _⟩
  · rw [if_neg h3]
    have d3 : (kind == 3) = false := by simpa using h3
    by_cases hk : kind = 1 ∨ kind = 2 ∨ kind = 4 ∨ kind = 5
    · have hd : (decide (1 ≤ kind) && decide (kind ≤ 5) && decide (most = 0)) = (most == 0) := by
        have : decide (1 ≤ kind) = true := by simp; omega
        rw [this]
        have : decide (kind ≤ 5) = true := by simp; omega
        rw [this]
        simp
        rfl
      rw [hd]
      clear hd h3
      rcases hk with rfl | rfl | rfl | rfl
      all_goals
        go_enter Try.func79, Try.ntmps79
        go_wp2
        go_ret
        exact ⟨rfl, hB _⟩
    · have hd : (decide (1 ≤ kind) && decide (kind ≤ 5) && decide (most = 0)) = false := by
        by_cases h1 : 1 ≤ kind
        · have : decide (kind ≤ 5) = false := by simp; omega
          simp [this]
        · simp [h1]
      rw [hd]
      have d1 : (kind == 1) = false := by simp; omega
      have d2 : (kind == 2) = false := by simp; omega
      have d4 : (kind == 4) = false := by simp; omega
      have d5 : (kind == 5) = false := by simp; omega
      clear hk hd h3
      go_enter Try.func79, Try.ntmps79
      go_wp2
      go_ret
      exact ⟨rfl, hB _⟩

set_option maxRecDepth 100000 in
set_option maxHeartbeats 4000000 in
theorem isName_any (s : ByteArray) (w : World) (hs : s.size ≤ maxLen) :
    Calls Try.prog 81 #[.string s] w fun e w' => e = .returned (.bool (isName s)) ∧ w' = w := by
  unfold maxLen at hs
  by_cases h1 : 1 ≤ s.size
  · by_cases h10 : s.size ≤ 10
    · have h1' : (1 : Int) ≤ (s.size : Int) := by omega
      have h10' : (s.size : Int) ≤ 10 := by omega
      obtain ⟨R, hR⟩ : ∃ R, R = isName s := ⟨_, rfl⟩
      have HR : Hid (R = decide (1 ≤ s.size ∧ s.size ≤ 10 ∧ ∀ i, i < s.size → 97 ≤ bt s i ∧ bt s i ≤ 122)) := hR
      rw [← hR]
      clear hR hs
      go_enter Try.func81, Try.ntmps81
      go_wp2
      go_loopw [3] (fun vi wr => ∃ i : Nat, i ≤ s.size ∧ vi = .int .i64 (i : Int) ∧ Hid (∀ j, j < i → 97 ≤ bt s j ∧ bt s j ≤ 122) ∧ wr = w)
        (fun vi _ => s.size - (intOf vi).toNat)
      case atStart => exact ⟨0, by omega, rfl, fun j hj => by omega, rfl⟩
      case round =>
        obtain ⟨i, hi, rfl, hall, rfl⟩ := hrel
        by_cases hlt : i < s.size
        · have hlt' : (i : Int) < (s.size : Int) := by omega
          obtain ⟨x, hx⟩ : ∃ x, bt s i = x := ⟨_, rfl⟩
          have hx256 : x < 256 := by rw [← hx]; exact bt_lt s i
          have hrun : ∀ w : World, (Instr.index 9 (.string s) (.int .i64 (i : Int))).run Try.prog w = .ok (.int .u8 (x : Int)) w := fun w => index_atS s i i x w (by omega) rfl hlt hx
          have HX : Hid (bt s i = x) := hx
          clear hx
          by_cases ha : x < 97
          · have hn : Hid (R = false) := by
              show R = _
              rw [HR.out]
              simp only [decide_eq_false_iff_not]
              rintro ⟨_, _, h⟩
              have := (h i hlt).1
              rw [HX.out] at this
              omega
            have ha' : (x : Int) < 97 := by omega
            clear HR
            go_wp2
            go_ret
            exact ⟨by rw [hn.out]; rfl, rfl⟩
          · by_cases hz : 122 < x
            · have hn : Hid (R = false) := by
                show R = _
                rw [HR.out]
                simp only [decide_eq_false_iff_not]
                rintro ⟨_, _, h⟩
                have := (h i hlt).2
                rw [HX.out] at this
                omega
              have ha' : (97 : Int) ≤ (x : Int) := by omega
              have hz' : (122 : Int) < (x : Int) := by omega
              clear HR ha
              go_wp2
              go_ret
              exact ⟨by rw [hn.out]; rfl, rfl⟩
            · have ha' : (97 : Int) ≤ (x : Int) := by omega
              have hz' : (x : Int) ≤ 122 := by omega
              have hall2 : Hid (∀ j, j < i + 1 → 97 ≤ bt s j ∧ bt s j ≤ 122) := fun j hj => by
                by_cases hji : j = i
                · rw [hji, HX.out]; omega
                · exact hall.out j (by omega)
              clear ha hz
              go_wp2
              go_roundw
              case rel => exact ⟨i + 1, by omega, by go_num, hall2, trivial⟩
              case measure => simp [intOf]; omega
        · have hke : i = s.size := by omega
          subst hke
          have hge : ¬ ((s.size : Int) < (s.size : Int)) := by omega
          have hn : Hid (R = true) := by
            show R = _
            rw [HR.out]
            simp only [decide_eq_true_eq]
            exact ⟨h1, h10, hall.out⟩
          go_wp2
          go_ret
          exact ⟨by rw [hn.out]; rfl, rfl⟩
    · have hn : isName s = false := by unfold isName; simp only [decide_eq_false_iff_not]; omega
      rw [hn]
      have h1' : ¬ ((s.size : Int) < 1) := by omega
      have h10' : (10 : Int) < (s.size : Int) := by omega
      clear hn h1 h10
      go_enter Try.func81, Try.ntmps81
      go_wp2
      go_ret
      exact ⟨rfl, rfl⟩
  · have hn : isName s = false := by unfold isName; simp only [decide_eq_false_iff_not]; omega
    rw [hn]
    have h1' : (s.size : Int) < 1 := by omega
    clear hn h1
    go_enter Try.func81, Try.ntmps81
    go_wp2
    go_ret
    exact ⟨rfl, rfl⟩

end Go.Proofs.Ytjaklpibjijkkaa
