/- Filters as lists of wants: what a good one is; what is told of each want by those ahead of it. -/
import Derived.Laws.Bits128
import Derived.Test.YtecgjhnihagleaaGa
namespace Go.Proofs.Ytecgjhnihagleaa.Wan
open Plain Sch

structure Wa where
  kind : Int
  no : Int
  num : Int
  text : ByteArray
  a : Int
  b : Int

instance : Inhabited Wa := ⟨⟨0, 0, 0, ⟨#[]⟩, 0, 0⟩⟩
instance : DecidableEq Wa := fun x y => decidable_of_iff (x.kind = y.kind ∧ x.no = y.no ∧ x.num = y.num ∧ x.text = y.text ∧ x.a = y.a ∧ x.b = y.b) (by cases x; cases y; simp)

def wa (T : List Wa) (i : Nat) : Wa := T.getD i default

def nOk (n : Int) : Bool := decide (-1000000000 ≤ n) && decide (n ≤ 1000000000)

def isAsk (k : Int) : Bool := decide (1 ≤ k) && decide (k ≤ 5)
def isBin (k : Int) : Bool := decide (k = 6) || decide (k = 7)
def isNot (k : Int) : Bool := decide (k = 8)

/-- the wants that one asks -/
def own (w : Wa) : List Int := if isBin w.kind then [w.a, w.b] else if isNot w.kind then [w.a] else []

def okAsk (w : Wa) : Bool :=
  decide (w = ⟨w.kind, w.no, if w.kind ≤ 3 then w.num else 0, if w.kind = 5 then w.text else ⟨#[]⟩, 0, 0⟩) && decide (1 ≤ w.no) && decide (w.no ≤ 30) && nOk w.num && decide (w.text.size ≤ 30)
def okBin (w : Wa) (i : Nat) : Bool := decide (w = ⟨w.kind, 0, 0, ⟨#[]⟩, w.a, w.b⟩) && decide (0 ≤ w.a) && decide (w.a < w.b) && decide (w.b < i)
def okNot (w : Wa) (i : Nat) : Bool := decide (w = ⟨w.kind, 0, 0, ⟨#[]⟩, w.a, 0⟩) && decide (0 ≤ w.a) && decide (w.a < i)

def okW (w : Wa) (i : Nat) : Bool := if isAsk w.kind then okAsk w else if isBin w.kind then okBin w i else if isNot w.kind then okNot w i else false

theorem okW_own {w : Wa} {i : Nat} (h : okW w i = true) : ∀ x ∈ own w, 0 ≤ x ∧ x < i := by
  intro x hx
  unfold okW at h
  unfold own at hx
  by_cases h1 : isBin w.kind = true
  · have h0 : isAsk w.kind = false := by
      simp only [isBin, isAsk, Bool.or_eq_true, decide_eq_true_eq] at h1 ⊢
      rcases h1 with h1 | h1 <;> rw [h1] <;> decide
    rw [if_pos h1] at hx
    rw [if_neg (by rw [h0]; decide), if_pos h1] at h
    simp only [okBin, Bool.and_eq_true, decide_eq_true_eq] at h
    simp at hx
    rcases hx with rfl | rfl <;> omega
  · rw [if_neg h1] at hx
    by_cases h2 : isNot w.kind = true
    · have h0 : isAsk w.kind = false := by
        simp only [isNot, isAsk, decide_eq_true_eq] at h2 ⊢
        rw [h2]; decide
      rw [if_pos h2] at hx
      rw [if_neg (by rw [h0]; decide), if_neg h1, if_pos h2] at h
      simp only [okNot, Bool.and_eq_true, decide_eq_true_eq] at h
      simp at hx
      rw [hx]; omega
    · rw [if_neg h2] at hx; simp at hx

/-- how often a want is asked -/
def use (L : List Wa) (j : Nat) : Nat := (L.flatMap own).count (j : Int)

theorem use_step (T : List Wa) (i j : Nat) (h : i < T.length) : use (T.take (i + 1)) j = use (T.take i) j + (own (wa T i)).count (j : Int) := by
  have e : T.take (i + 1) = T.take i ++ [wa T i] := by
    rw [List.take_add_one]
    congr 1
    simp [wa, List.getD, List.getElem?_eq_getElem h]
  rw [e]
  simp [use, List.count_append]

theorem use_zero (T : List Wa) (j : Nat) : use (T.take 0) j = 0 := by simp [use]

theorem use_le (T : List Wa) (j : Nat) : ∀ i, i ≤ T.length → use (T.take i) j ≤ 2 * i := by
  intro i
  induction i with
  | zero => intro _; rw [use_zero]; omega
  | succ i ih =>
    intro h
    rw [use_step T i j (by omega)]
    have h1 := ih (by omega)
    have h2 : (own (wa T i)).count (j : Int) ≤ 2 := by
      refine Nat.le_trans List.count_le_length ?_
      unfold own
      by_cases h1 : isBin (wa T i).kind = true
      · rw [if_pos h1]; simp
      · rw [if_neg h1]
        by_cases h2 : isNot (wa T i).kind = true
        · rw [if_pos h2]; simp
        · rw [if_neg h2]; simp
    omega

def gf (T : List Wa) : Bool := decide (1 ≤ T.length) && decide (T.length ≤ 20) && decide (∀ i, i < T.length → okW (wa T i) i = true) && decide (∀ j, j < T.length - 1 → use T j = 1)

theorem gf_len {T : List Wa} (h : gf T = true) : 1 ≤ T.length ∧ T.length ≤ 20 := by
  simp only [gf, Bool.and_eq_true, decide_eq_true_eq] at h; exact ⟨h.1.1.1, h.1.1.2⟩
theorem gf_ok {T : List Wa} (h : gf T = true) : ∀ i, i < T.length → okW (wa T i) i = true := by
  simp only [gf, Bool.and_eq_true, decide_eq_true_eq] at h; exact h.1.2
theorem gf_own {T : List Wa} (h : gf T = true) (i : Nat) (hi : i < T.length) : ∀ x ∈ own (wa T i), 0 ≤ x ∧ x < i := okW_own (gf_ok h i hi)

theorem gf_bad {T : List Wa} {i : Nat} (hi : i < T.length) (h : okW (wa T i) i = false) : gf T = false := by
  rw [Bool.eq_false_iff]
  intro hg
  rw [gf_ok hg i hi] at h
  cases h
theorem gf_uses {T : List Wa} {j : Nat} (hj : j < T.length - 1) (h : ¬ use T j = 1) : gf T = false := by
  rw [Bool.eq_false_iff]
  intro hg
  simp only [gf, Bool.and_eq_true, decide_eq_true_eq] at hg
  exact h (hg.2 j hj)

/-- told one by one, each by what was told of those ahead -/
def fld {α : Type} (s : List α → Wa → α) (T : List Wa) : List α := T.foldl (fun acc w => acc ++ [s acc w]) []

theorem fld_snoc {α : Type} (s : List α → Wa → α) (T : List Wa) (w : Wa) : fld s (T ++ [w]) = fld s T ++ [s (fld s T) w] := by simp [fld]
theorem fld_len {α : Type} (s : List α → Wa → α) (T : List Wa) : (fld s T).length = T.length := by
  have h : ∀ (n : Nat) (T : List Wa), T.length = n → (fld s T).length = T.length := by
    intro n
    induction n with
    | zero => intro T h; rw [List.length_eq_zero_iff.1 h]; rfl
    | succ n ih =>
      intro T h
      have hne : T ≠ [] := by intro e; rw [e] at h; simp at h
      have e := List.dropLast_concat_getLast hne
      rw [← e, fld_snoc, List.length_append, List.length_append, ih T.dropLast (by simp [h])]
      rfl
  exact h _ T rfl

theorem take_snoc (T : List Wa) (i : Nat) (h : i < T.length) : T.take (i + 1) = T.take i ++ [wa T i] := by
  rw [List.take_add_one]
  congr 1
  simp [wa, List.getD, List.getElem?_eq_getElem h]

theorem fld_take {α : Type} (s : List α → Wa → α) (T : List Wa) (i : Nat) (h : i < T.length) : fld s (T.take (i + 1)) = fld s (T.take i) ++ [s (fld s (T.take i)) (wa T i)] := by
  rw [take_snoc T i h, fld_snoc]

theorem fld_prefix {α : Type} (s : List α → Wa → α) (T : List Wa) (k : Nat) : ∀ i, k ≤ i → i ≤ T.length → ∀ j, j < k → (fld s (T.take i))[j]? = (fld s (T.take k))[j]? := by
  intro i
  induction i with
  | zero => intro h1 _ j hj; omega
  | succ i ih =>
    intro h1 h2 j hj
    by_cases hk : k = i + 1
    · rw [hk]
    · rw [fld_take s T i (by omega), List.getElem?_append_left (by rw [fld_len]; simp; omega)]
      exact ih (by omega) (by omega) j hj

theorem fld_get {α : Type} (s : List α → Wa → α) (T : List Wa) (k : Nat) (h : k < T.length) : (fld s T)[k]? = some (s (fld s (T.take k)) (wa T k)) := by
  have h1 := fld_prefix s T (k + 1) T.length (by omega) (Nat.le_refl _) k (by omega)
  rw [List.take_length] at h1
  rw [h1, fld_take s T k h, List.getElem?_append_right (by rw [fld_len]; simp; omega), fld_len]
  simp [Nat.min_eq_left (Nat.le_of_lt h)]

theorem wa_take (T : List Wa) (i j : Nat) (h : j < i) : wa (T.take i) j = wa T j := by
  simp [wa, List.getD, h]

end Go.Proofs.Ytecgjhnihagleaa.Wan
