/- Filters as lists of wants: what a good one is; what is told of each want by those ahead of it. How deep a filter is; wants that go behind others; the kinds of good wants. What a want or an instruction is held against: the words of 'good' for its number and its text. Programs as lists of instructions: what a good one is, in the program's words and in the model's. A filter's program, in plain words. A program made better, in plain words. -/
import Derived.Laws.Bits128
import Derived.Test.YtmjpmmkjfimopaaDoorGa
import Derived.Laws.Strings
namespace Go.Proofs.YtmjpmmkjfimopaaDoor.Wan
open Plain Sch

structure Wa where
  kind : Int
  no : Int
  num : Int
  text : ByteArray
  a : Int
  b : Int

instance : Inhabited Wa := ⟨⟨0, 0, 0, ⟨#[]⟩, 0, 0⟩⟩
instance : DecidableEq Wa := fun x y => decidable_of_iff (x.kind = y.kind ∧ x.no = y.no ∧ x.num = y.num ∧ x.text = y.text ∧ x.a = y.a ∧ x.b = y.b) (by cases x; cases y; simp)

def wa (T : List Wa) (i : Nat) : Wa := T.getD i default

def nOk (n : Int) : Bool := decide (-1000000000 ≤ n) && decide (n ≤ 1000000000)

def isAsk (k : Int) : Bool := decide (1 ≤ k) && decide (k ≤ 5)
def isBin (k : Int) : Bool := decide (k = 6) || decide (k = 7)
def isNot (k : Int) : Bool := decide (k = 8)

/-- the wants that one asks -/
def own (w : Wa) : List Int := if isBin w.kind then [w.a, w.b] else if isNot w.kind then [w.a] else []

def okAsk (w : Wa) : Bool :=
  decide (w = ⟨w.kind, w.no, if w.kind ≤ 3 then w.num else 0, if w.kind = 5 then w.text else ⟨#[]⟩, 0, 0⟩) && decide (1 ≤ w.no) && decide (w.no ≤ 30) && nOk w.num && decide (w.text.size ≤ 30)
def okBin (w : Wa) (i : Nat) : Bool := decide (w = ⟨w.kind, 0, 0, ⟨#[]⟩, w.a, w.b⟩) && decide (0 ≤ w.a) && decide (w.a < w.b) && decide (w.b < i)
def okNot (w : Wa) (i : Nat) : Bool := decide (w = ⟨w.kind, 0, 0, ⟨#[]⟩, w.a, 0⟩) && decide (0 ≤ w.a) && decide (w.a < i)

def okW (w : Wa) (i : Nat) : Bool := if isAsk w.kind then okAsk w else if isBin w.kind then okBin w i else if isNot w.kind then okNot w i else false

theorem okW_own {w : Wa} {i : Nat} (h : okW w i = true) : ∀ x ∈ own w, 0 ≤ x ∧ x < i := by
  intro x hx
  unfold okW at h
  unfold own at hx
  by_cases h1 : isBin w.kind = true
  · have h0 : isAsk w.kind = false := by
      simp only [isBin, isAsk, Bool.or_eq_true, decide_eq_true_eq] at h1 ⊢
      rcases h1 with h1 | h1 <;> rw [h1] <;> decide
    rw [if_pos h1] at hx
    rw [if_neg (by rw [h0]; decide), if_pos h1] at h
    simp only [okBin, Bool.and_eq_true, decide_eq_true_eq] at h
    simp at hx
    rcases hx with rfl | rfl <;> omega
  · rw [if_neg h1] at hx
    by_cases h2 : isNot w.kind = true
    · have h0 : isAsk w.kind = false := by
        simp only [isNot, isAsk, decide_eq_true_eq] at h2 ⊢
        rw [h2]; decide
      rw [if_pos h2] at hx
      rw [if_neg (by rw [h0]; decide), if_neg h1, if_pos h2] at h
      simp only [okNot, Bool.and_eq_true, decide_eq_true_eq] at h
      simp at hx
      rw [hx]; omega
    · rw [if_neg h2] at hx; simp at hx

/-- how often a want is asked -/
def use (L : List Wa) (j : Nat) : Nat := (L.flatMap own).count (j : Int)

theorem use_step (T : List Wa) (i j : Nat) (h : i < T.length) : use (T.take (i + 1)) j = use (T.take i) j + (own (wa T i)).count (j : Int) := by
  have e : T.take (i + 1) = T.take i ++ [wa T i] := by
    rw [List.take_add_one]
    congr 1
    simp [wa, List.getD, List.getElem?_eq_getElem h]
  rw [e]
  simp [use, List.count_append]

theorem use_zero (T : List Wa) (j : Nat) : use (T.take 0) j = 0 := by simp [use]

theorem use_le (T : List Wa) (j : Nat) : ∀ i, i ≤ T.length → use (T.take i) j ≤ 2 * i := by
  intro i
  induction i with
  | zero => intro _; rw [use_zero]; omega
  | succ i ih =>
    intro h
    rw [use_step T i j (by omega)]
    have h1 := ih (by omega)
    have h2 : (own (wa T i)).count (j : Int) ≤ 2 := by
      refine Nat.le_trans List.count_le_length ?_
      unfold own
      by_cases h1 : isBin (wa T i).kind = true
      · rw [if_pos h1]; simp
      · rw [if_neg h1]
        by_cases h2 : isNot (wa T i).kind = true
        · rw [if_pos h2]; simp
        · rw [if_neg h2]; simp
    omega

def gf (T : List Wa) : Bool := decide (1 ≤ T.length) && decide (T.length ≤ 20) && decide (∀ i, i < T.length → okW (wa T i) i = true) && decide (∀ j, j < T.length - 1 → use T j = 1)

theorem gf_len {T : List Wa} (h : gf T = true) : 1 ≤ T.length ∧ T.length ≤ 20 := by
  simp only [gf, Bool.and_eq_true, decide_eq_true_eq] at h; exact ⟨h.1.1.1, h.1.1.2⟩
theorem gf_ok {T : List Wa} (h : gf T = true) : ∀ i, i < T.length → okW (wa T i) i = true := by
  simp only [gf, Bool.and_eq_true, decide_eq_true_eq] at h; exact h.1.2
theorem gf_own {T : List Wa} (h : gf T = true) (i : Nat) (hi : i < T.length) : ∀ x ∈ own (wa T i), 0 ≤ x ∧ x < i := okW_own (gf_ok h i hi)

theorem gf_bad {T : List Wa} {i : Nat} (hi : i < T.length) (h : okW (wa T i) i = false) : gf T = false := by
  rw [Bool.eq_false_iff]
  intro hg
  rw [gf_ok hg i hi] at h
  cases h
theorem gf_uses {T : List Wa} {j : Nat} (hj : j < T.length - 1) (h : ¬ use T j = 1) : gf T = false := by
  rw [Bool.eq_false_iff]
  intro hg
  simp only [gf, Bool.and_eq_true, decide_eq_true_eq] at hg
  exact h (hg.2 j hj)

/-- told one by one, each by what was told of those ahead -/
def fld {α : Type} (s : List α → Wa → α) (T : List Wa) : List α := T.foldl (fun acc w => acc ++ [s acc w]) []

theorem fld_snoc {α : Type} (s : List α → Wa → α) (T : List Wa) (w : Wa) : fld s (T ++ [w]) = fld s T ++ [s (fld s T) w] := by simp [fld]
theorem fld_len {α : Type} (s : List α → Wa → α) (T : List Wa) : (fld s T).length = T.length := by
  have h : ∀ (n : Nat) (T : List Wa), T.length = n → (fld s T).length = T.length := by
    intro n
    induction n with
    | zero => intro T h; rw [List.length_eq_zero_iff.1 h]; rfl
    | succ n ih =>
      intro T h
      have hne : T ≠ [] := by intro e; rw [e] at h; simp at h
      have e := List.dropLast_concat_getLast hne
      rw [← e, fld_snoc, List.length_append, List.length_append, ih T.dropLast (by simp [h])]
      rfl
  exact h _ T rfl

theorem take_snoc (T : List Wa) (i : Nat) (h : i < T.length) : T.take (i + 1) = T.take i ++ [wa T i] := by
  rw [List.take_add_one]
  congr 1
  simp [wa, List.getD, List.getElem?_eq_getElem h]

theorem fld_take {α : Type} (s : List α → Wa → α) (T : List Wa) (i : Nat) (h : i < T.length) : fld s (T.take (i + 1)) = fld s (T.take i) ++ [s (fld s (T.take i)) (wa T i)] := by
  rw [take_snoc T i h, fld_snoc]

theorem fld_prefix {α : Type} (s : List α → Wa → α) (T : List Wa) (k : Nat) : ∀ i, k ≤ i → i ≤ T.length → ∀ j, j < k → (fld s (T.take i))[j]? = (fld s (T.take k))[j]? := by
  intro i
  induction i with
  | zero => intro h1 _ j hj; omega
  | succ i ih =>
    intro h1 h2 j hj
    by_cases hk : k = i + 1
    · rw [hk]
    · rw [fld_take s T i (by omega), List.getElem?_append_left (by rw [fld_len]; simp; omega)]
      exact ih (by omega) (by omega) j hj

theorem fld_get {α : Type} (s : List α → Wa → α) (T : List Wa) (k : Nat) (h : k < T.length) : (fld s T)[k]? = some (s (fld s (T.take k)) (wa T k)) := by
  have h1 := fld_prefix s T (k + 1) T.length (by omega) (Nat.le_refl _) k (by omega)
  rw [List.take_length] at h1
  rw [h1, fld_take s T k h, List.getElem?_append_right (by rw [fld_len]; simp; omega), fld_len]
  simp [Nat.min_eq_left (Nat.le_of_lt h)]

theorem wa_take (T : List Wa) (i j : Nat) (h : j < i) : wa (T.take i) j = wa T j := by
  simp [wa, List.getD, h]

end Go.Proofs.YtmjpmmkjfimopaaDoor.Wan

namespace Go.Proofs.YtmjpmmkjfimopaaDoor.Wan
open Plain Sch

theorem kind_cases {w : Wa} {i : Nat} (h : okW w i = true) : isAsk w.kind = true ∨ isBin w.kind = true ∨ isNot w.kind = true := by
  unfold okW at h
  by_cases h1 : isAsk w.kind = true
  · exact .inl h1
  · by_cases h2 : isBin w.kind = true
    · exact .inr (.inl h2)
    · by_cases h3 : isNot w.kind = true
      · exact .inr (.inr h3)
      · rw [if_neg h1, if_neg h2, if_neg h3] at h; cases h

theorem ask_bounds {k : Int} (h : isAsk k = true) : 1 ≤ k ∧ k ≤ 5 := by simpa [isAsk] using h
theorem bin_bounds {k : Int} (h : isBin k = true) : k = 6 ∨ k = 7 := by simpa [isBin] using h
theorem not_bounds {k : Int} (h : isNot k = true) : k = 8 := by simpa [isNot] using h

theorem own_ask {w : Wa} (h : isAsk w.kind = true) : own w = [] := by
  have := ask_bounds h
  unfold own
  rw [if_neg (by intro e; have := bin_bounds e; omega), if_neg (by intro e; have := not_bounds e; omega)]
theorem own_bin {w : Wa} (h : isBin w.kind = true) : own w = [w.a, w.b] := by unfold own; rw [if_pos h]
theorem own_not {w : Wa} (h : isNot w.kind = true) : own w = [w.a] := by
  unfold own
  rw [if_neg (by intro e; have := bin_bounds e; have := not_bounds h; omega), if_pos h]

/-- what one want is deep, by those ahead -/
def depS (acc : List Int) (w : Wa) : Int := (own w).foldl (fun m x => max m (acc.getD x.toNat 0)) 0 + 1

def dp (T : List Wa) (k : Nat) : Int := (fld depS T).getD k 0
def dpo (T : List Wa) : Int × Bool := if gf T then (dp T (T.length - 1), true) else (0, false)

theorem fldD_get {s : List Int → Wa → Int} {T : List Wa} {k j : Nat} (hk : k ≤ T.length) (hj : j < k) : (fld s (T.take k)).getD j 0 = (fld s T).getD j 0 := by
  have h1 := fld_prefix s T k T.length hk (Nat.le_refl _) j hj
  rw [List.take_length] at h1
  simp only [List.getD, h1]

theorem dp_eq (T : List Wa) (k : Nat) (hk : k < T.length) : dp T k = depS (fld depS (T.take k)) (wa T k) := by
  unfold dp
  rw [List.getD, fld_get depS T k hk]
  rfl

theorem dp_ask {T : List Wa} {k : Nat} (hk : k < T.length) (h : isAsk (wa T k).kind = true) : dp T k = 1 := by
  rw [dp_eq T k hk, depS, own_ask h]; rfl

theorem dp_pos (T : List Wa) (k : Nat) (hk : k < T.length) : 1 ≤ dp T k := by
  rw [dp_eq T k hk, depS]
  have h : ∀ (l : List Int) (acc : List Int) (m : Int), 0 ≤ m → 0 ≤ l.foldl (fun m x => max m (acc.getD x.toNat 0)) m := by
    intro l acc
    induction l with
    | nil => intro m h; exact h
    | cons a l ih => intro m h; exact ih _ (by dsimp only; omega)
  have := h (own (wa T k)) (fld depS (T.take k)) 0 (by omega)
  omega

theorem dp_bin {T : List Wa} {k : Nat} (hg : gf T = true) (hk : k < T.length) (h : isBin (wa T k).kind = true) : dp T k = max (dp T (wa T k).a.toNat) (dp T (wa T k).b.toNat) + 1 := by
  have hx := gf_own hg k hk
  rw [own_bin h] at hx
  have ha := hx (wa T k).a (by simp)
  have hb := hx (wa T k).b (by simp)
  have pa := dp_pos T (wa T k).a.toNat (by omega)
  rw [dp_eq T k hk, depS, own_bin h]
  simp only [List.foldl]
  rw [fldD_get (by omega) (by omega), fldD_get (by omega) (by omega)]
  show max (max 0 (dp T _)) (dp T _) + 1 = _
  omega

theorem dp_not {T : List Wa} {k : Nat} (hg : gf T = true) (hk : k < T.length) (h : isNot (wa T k).kind = true) : dp T k = dp T (wa T k).a.toNat + 1 := by
  have hx := gf_own hg k hk
  rw [own_not h] at hx
  have ha := hx (wa T k).a (by simp)
  have pa := dp_pos T (wa T k).a.toNat (by omega)
  rw [dp_eq T k hk, depS, own_not h]
  simp only [List.foldl]
  rw [fldD_get (by omega) (by omega)]
  show max 0 (dp T _) + 1 = _
  omega

theorem dp_le {T : List Wa} (hg : gf T = true) : ∀ k, k < T.length → dp T k ≤ k + 1 := by
  intro k
  induction k using Nat.strongRecOn with
  | _ k ih =>
    intro hk
    rcases kind_cases (gf_ok hg k hk) with h | h | h
    · rw [dp_ask hk h]; omega
    · have hx := gf_own hg k hk
      rw [own_bin h] at hx
      have ha := hx (wa T k).a (by simp)
      have hb := hx (wa T k).b (by simp)
      rw [dp_bin hg hk h]
      have h1 := ih _ (show (wa T k).a.toNat < k by omega) (by omega)
      have h2 := ih _ (show (wa T k).b.toNat < k by omega) (by omega)
      omega
    · have hx := gf_own hg k hk
      rw [own_not h] at hx
      have ha := hx (wa T k).a (by simp)
      rw [dp_not hg hk h]
      have h1 := ih _ (show (wa T k).a.toNat < k by omega) (by omega)
      omega

/-- a want that goes n behind -/
def sh (n : Nat) (w : Wa) : Wa := if isBin w.kind then ⟨w.kind, w.no, w.num, w.text, w.a + n, w.b + n⟩ else if isNot w.kind then ⟨w.kind, w.no, w.num, w.text, w.a + n, w.b⟩ else w

theorem sh_zero (w : Wa) : sh 0 w = w := by
  unfold sh
  by_cases h1 : isBin w.kind = true
  · rw [if_pos h1]; simp
  · rw [if_neg h1]
    by_cases h2 : isNot w.kind = true
    · rw [if_pos h2]; simp
    · rw [if_neg h2]

theorem sh_zeros (T : List Wa) : T.map (sh 0) = T := by
  have : (sh 0) = id := funext sh_zero
  rw [this, List.map_id]

def notF (T : List Wa) : List Wa × Bool := if gf T && decide (T.length < 20) then (T ++ [⟨8, 0, 0, ⟨#[]⟩, (T.length : Int) - 1, 0⟩], true) else ([], false)
def bothF (T U : List Wa) : List Wa × Bool := if gf T && gf U && decide (T.length + U.length < 20) then (T ++ U.map (sh T.length) ++ [⟨6, 0, 0, ⟨#[]⟩, (T.length : Int) - 1, (T.length : Int) + U.length - 1⟩], true) else ([], false)

end Go.Proofs.YtmjpmmkjfimopaaDoor.Wan

namespace Go.Proofs.YtmjpmmkjfimopaaDoor
open Plain Sch Wan

theorem str_some {t : ByteArray} (h : ¬ t = ⟨#[]⟩) : t.toList.isEmpty = false := by
  cases e : t.toList with
  | nil =>
    exfalso
    apply h
    rw [ByteArray.toList_eq] at e
    cases t with
    | mk d =>
      have : d = #[] := Array.toList_eq_nil_iff.1 e
      rw [this]
  | cons => rfl

def askN (k : Int) : Bool := decide (1 ≤ k) && decide (k ≤ 3)
def askT (k : Int) : Bool := decide (k = 5)

/-- is what a field is held against good -/
def askedOk (hn ht : Bool) (m : Int) (t : ByteArray) : Bool := (hn || decide (m = 0)) && (ht || decide (t = ⟨#[]⟩)) && nOk m && decide (t.size ≤ 30)

end Go.Proofs.YtmjpmmkjfimopaaDoor

namespace Go.Proofs.YtmjpmmkjfimopaaDoor.Prg
open Plain Sch Wan

structure Ins where
  code : Int
  kind : Int
  no : Int
  num : Int
  text : ByteArray
  dst : Int

instance : Inhabited Ins := ⟨⟨0, 0, 0, 0, ⟨#[]⟩, 0⟩⟩
instance : DecidableEq Ins := fun x y => decidable_of_iff (x.code = y.code ∧ x.kind = y.kind ∧ x.no = y.no ∧ x.num = y.num ∧ x.text = y.text ∧ x.dst = y.dst) (by cases x; cases y; simp)

def ins (T : List Ins) (i : Nat) : Ins := T.getD i default

/-- is an instruction good, at its place, the last one's being told -/
def okI (x : Ins) (i : Nat) (last : Int) : Bool :=
  if x.code = 1 then decide (1 ≤ x.no) && decide (x.no ≤ 30) && decide (x = ⟨x.code, 0, x.no, 0, ⟨#[]⟩, 0⟩)
  else if x.code = 2 then isAsk x.kind && askedOk (askN x.kind) (askT x.kind) x.num x.text && decide (x = ⟨x.code, x.kind, 0, x.num, x.text, 0⟩)
  else if x.code = 3 then (decide (x.num = 0) || decide (x.num = 1)) && decide ((i : Int) < x.dst) && decide (x.dst ≤ last) && decide (x = ⟨x.code, 0, 0, x.num, ⟨#[]⟩, x.dst⟩)
  else if x.code = 4 ∨ x.code = 5 then decide (x = ⟨x.code, 0, 0, 0, ⟨#[]⟩, 0⟩)
  else false

/-- is one of a program's instructions good -/
def okP (x : Ins) (i : Nat) (last : Int) : Bool := (decide (x.code = 5) == decide ((i : Int) = last)) && okI x i last

def gp (T : List Ins) : Bool := decide (1 ≤ T.length) && decide (T.length ≤ 60) && decide (∀ i, i < T.length → okP (ins T i) i ((T.length : Int) - 1) = true)

theorem gp_len {T : List Ins} (h : gp T = true) : 1 ≤ T.length ∧ T.length ≤ 60 := by
  simp only [gp, Bool.and_eq_true, decide_eq_true_eq] at h; exact ⟨h.1.1, h.1.2⟩
theorem gp_ok {T : List Ins} (h : gp T = true) : ∀ i, i < T.length → okP (ins T i) i ((T.length : Int) - 1) = true := by
  simp only [gp, Bool.and_eq_true, decide_eq_true_eq] at h; exact h.2
theorem gp_all {T : List Ins} (h1 : 1 ≤ T.length) (h2 : T.length ≤ 60) (h : ∀ i, i < T.length → okP (ins T i) i ((T.length : Int) - 1) = true) : gp T = true := by
  simp only [gp, Bool.and_eq_true, decide_eq_true_eq]; exact ⟨⟨h1, h2⟩, h⟩
theorem gp_bad {T : List Ins} {i : Nat} (hi : i < T.length) (h : okP (ins T i) i ((T.length : Int) - 1) = false) : gp T = false := by
  rw [Bool.eq_false_iff]
  intro hg
  rw [gp_ok hg i hi] at h
  cases h
theorem gp_none {T : List Ins} (h : T.length < 1) : gp T = false := by
  rw [Bool.eq_false_iff]; intro hg; have := gp_len hg; omega
theorem gp_many {T : List Ins} (h : 60 < T.length) : gp T = false := by
  rw [Bool.eq_false_iff]; intro hg; have := gp_len hg; omega

theorem okP_ok {x : Ins} {i : Nat} {last : Int} (h : okP x i last = true) : okI x i last = true := by
  simp only [okP, Bool.and_eq_true] at h; exact h.2
theorem okP_end {x : Ins} {i : Nat} {last : Int} (h : okP x i last = true) : x.code = 5 ↔ (i : Int) = last := by
  simp only [okP, Bool.and_eq_true, beq_iff_eq, decide_eq_decide] at h; exact h.1

/-- the model's words -/
def speI (x : Ins) (i n : Int) : Bool :=
  if nOk x.num = false then false
  else if ¬ x.text.size ≤ 30 then false
  else if x.code = 1 then decide (1 ≤ x.no ∧ x.no ≤ 30) && decide (x.kind = 0) && decide (x.num = 0) && decide (x.text = ⟨#[]⟩) && decide (x.dst = 0)
  else if x.code = 2 then decide (1 ≤ x.kind ∧ x.kind ≤ 5) && decide (x.no = 0) && decide (x.dst = 0) && (decide (x.kind ≤ 3) || decide (x.num = 0)) && (decide (x.kind = 5) || decide (x.text = ⟨#[]⟩))
  else if x.code = 3 then decide (x.no = 0) && decide (x.kind = 0) && decide (x.text = ⟨#[]⟩) && decide (0 ≤ x.num ∧ x.num ≤ 1) && decide (i < x.dst) && decide (x.dst < n)
  else if x.code = 4 ∨ x.code = 5 then decide (x.no = 0) && decide (x.kind = 0) && decide (x.text = ⟨#[]⟩) && decide (x.num = 0) && decide (x.dst = 0) && (decide (x.code = 4) == decide (i < n - 1))
  else false

theorem nOk_small {m : Int} (h : 0 ≤ m ∧ m ≤ 1) : nOk m = true := by simp only [nOk, Bool.and_eq_true, decide_eq_true_eq]; omega
theorem nil_size : (ByteArray.mk #[]).size = 0 := rfl

theorem speI_eq (x : Ins) (i n : Nat) (hi : i < n) : (speI x i n && !(decide ((i : Int) = n - 1) && decide (x.code ≠ 5))) = okP x i ((n : Int) - 1) := by
  obtain ⟨c, k, o, m, t, jt⟩ := x
  rw [Bool.eq_iff_iff]
  simp only [okP, okI, speI, askedOk, askN, askT, isAsk]
  by_cases c1 : c = 1
  · subst c1
    by_cases h1 : nOk m = true <;> by_cases h2 : t.size ≤ 30 <;> by_cases h3 : m = 0 <;> by_cases h4 : t = ⟨#[]⟩ <;> by_cases h5 : (i : Int) = n - 1 <;> simp_all [nOk_small, nil_size] <;> omega
  · by_cases c2 : c = 2
    · subst c2
      by_cases h1 : nOk m = true <;> by_cases h2 : t.size ≤ 30 <;> by_cases h3 : m = 0 <;> by_cases h4 : t = ⟨#[]⟩ <;> by_cases h5 : (i : Int) = n - 1 <;> by_cases h6 : k = 5 <;> by_cases h7 : k ≤ 3 <;> simp_all [nOk_small, nil_size] <;> omega
    · by_cases c3 : c = 3
      · subst c3
        by_cases h1 : nOk m = true <;> by_cases h2 : t.size ≤ 30 <;> by_cases h3 : 0 ≤ m ∧ m ≤ 1 <;> by_cases h4 : t = ⟨#[]⟩ <;> by_cases h5 : (i : Int) = n - 1 <;> simp_all [nOk_small, nil_size] <;> omega
      · by_cases c4 : c = 4
        · subst c4
          by_cases h1 : nOk m = true <;> by_cases h2 : t.size ≤ 30 <;> by_cases h3 : m = 0 <;> by_cases h4 : t = ⟨#[]⟩ <;> by_cases h5 : (i : Int) = n - 1 <;> simp_all [nOk_small, nil_size] <;> omega
        · by_cases c5 : c = 5
          · subst c5
            by_cases h1 : nOk m = true <;> by_cases h2 : t.size ≤ 30 <;> by_cases h3 : m = 0 <;> by_cases h4 : t = ⟨#[]⟩ <;> by_cases h5 : (i : Int) = n - 1 <;> simp_all [nOk_small, nil_size] <;> omega
          · simp [c1, c2, c3, c4, c5]

end Go.Proofs.YtmjpmmkjfimopaaDoor.Prg

namespace Go.Proofs.YtmjpmmkjfimopaaDoor.Prg
open Plain Sch Wan

def iSeek (no : Int) : Ins := ⟨1, 0, no, 0, ⟨#[]⟩, 0⟩
def iTest (k m : Int) (t : ByteArray) : Ins := ⟨2, k, 0, m, t, 0⟩
def iJump (m jt : Int) : Ins := ⟨3, 0, 0, m, ⟨#[]⟩, jt⟩
def iFlip : Ins := ⟨4, 0, 0, 0, ⟨#[]⟩, 0⟩
def iEnd : Ins := ⟨5, 0, 0, 0, ⟨#[]⟩, 0⟩

/-- the program of a want, put behind so many instructions -/
def cmp (T : List Wa) (k base : Nat) : List Ins :=
  if isAsk (wa T k).kind then [iSeek (wa T k).no, iTest (wa T k).kind (wa T k).num (wa T k).text]
  else if isNot (wa T k).kind then (if _h : (wa T k).a.toNat < k then cmp T (wa T k).a.toNat base ++ [iFlip] else [])
  else if _h : (wa T k).a.toNat < k ∧ (wa T k).b.toNat < k then
    cmp T (wa T k).a.toNat base ++ [iJump ((wa T k).kind - 6) (((base + (cmp T (wa T k).a.toNat base).length + 1 + (cmp T (wa T k).b.toNat (base + (cmp T (wa T k).a.toNat base).length + 1)).length : Nat)) : Int)] ++ cmp T (wa T k).b.toNat (base + (cmp T (wa T k).a.toNat base).length + 1)
  else []
termination_by k
decreasing_by all_goals omega

theorem cmp_ask {T : List Wa} {k base : Nat} (h : isAsk (wa T k).kind = true) : cmp T k base = [iSeek (wa T k).no, iTest (wa T k).kind (wa T k).num (wa T k).text] := by
  rw [cmp, if_pos h]

theorem cmp_not {T : List Wa} {k base : Nat} (h : isNot (wa T k).kind = true) (h1 : (wa T k).a.toNat < k) : cmp T k base = cmp T (wa T k).a.toNat base ++ [iFlip] := by
  rw [cmp, if_neg (by intro e; have := ask_bounds e; have := not_bounds h; omega), if_pos h, dif_pos h1]

theorem cmp_bin {T : List Wa} {k base : Nat} (h : isBin (wa T k).kind = true) (h1 : (wa T k).a.toNat < k) (h2 : (wa T k).b.toNat < k) :
    cmp T k base = cmp T (wa T k).a.toNat base ++ [iJump ((wa T k).kind - 6) (((base + (cmp T (wa T k).a.toNat base).length + 1 + (cmp T (wa T k).b.toNat (base + (cmp T (wa T k).a.toNat base).length + 1)).length : Nat)) : Int)] ++ cmp T (wa T k).b.toNat (base + (cmp T (wa T k).a.toNat base).length + 1) := by
  conv => lhs; rw [cmp]
  rw [if_neg (by intro e; have := ask_bounds e; have := bin_bounds h; omega), if_neg (by intro e; have := not_bounds e; have := bin_bounds h; omega), dif_pos ⟨h1, h2⟩]

theorem cmp_len (T : List Wa) : ∀ (k base : Nat), (cmp T k base).length + 1 ≤ 2 ^ (k + 2) := by
  intro k
  induction k using Nat.strongRecOn with
  | ind k ih =>
    intro base
    have hp : ∀ j, j < k → 2 ^ (j + 2) ≤ 2 ^ (k + 1) := fun j hj => Nat.pow_le_pow_right (by omega) (by omega)
    have h2 : 2 ^ (k + 2) = 2 ^ (k + 1) + 2 ^ (k + 1) := by rw [Nat.pow_succ]; omega
    have h4 : 4 ≤ 2 ^ (k + 2) := by have : 2 ^ 2 ≤ 2 ^ (k + 2) := Nat.pow_le_pow_right (by omega) (by omega); omega
    rw [cmp]
    split
    · simp; omega
    · split
      · split
        · rename_i h
          have := ih _ h base
          have := hp _ h
          simp; omega
        · simp; omega
      · split
        · rename_i h
          have e1 := ih _ h.1 base
          have e2 := ih _ h.2 (base + (cmp T (wa T k).a.toNat base).length + 1)
          have := hp _ h.1
          have := hp _ h.2
          simp; omega
        · simp; omega

theorem cmp_small (T : List Wa) (k base : Nat) (hk : k < 20) : (cmp T k base).length ≤ 2097151 := by
  have h1 := cmp_len T k base
  have h2 : 2 ^ (k + 2) ≤ 2 ^ 21 := Nat.pow_le_pow_right (by omega) (by omega)
  have : (2 : Nat) ^ 21 = 2097152 := by decide
  omega

theorem cmp_text (T : List Wa) (hT : ∀ k, k < T.length → (wa T k).text.size ≤ 30) : ∀ (k base : Nat), k < T.length → ∀ x ∈ cmp T k base, x.text.size ≤ 30 := by
  intro k
  induction k using Nat.strongRecOn with
  | ind k ih =>
    intro base hk x hx
    rw [cmp] at hx
    have z : (ByteArray.mk #[]).size ≤ 30 := by decide
    split at hx
    · simp at hx
      rcases hx with rfl | rfl
      · exact z
      · exact hT k hk
    · split at hx
      · split at hx
        · rename_i h
          rw [List.mem_append] at hx
          rcases hx with hx | hx
          · exact ih _ h base (by omega) x hx
          · simp at hx; subst hx; exact z
        · simp at hx
      · split at hx
        · rename_i h
          rw [List.mem_append, List.mem_append] at hx
          rcases hx with (hx | hx) | hx
          · exact ih _ h.1 base (by omega) x hx
          · simp at hx; subst hx; exact z
          · exact ih _ h.2 _ (by omega) x hx
        · simp at hx

def cpo (T : List Wa) : List Ins × Bool := if gf T then (cmp T (T.length - 1) 0 ++ [iEnd], true) else ([], false)

end Go.Proofs.YtmjpmmkjfimopaaDoor.Prg

namespace Go.Proofs.YtmjpmmkjfimopaaDoor.Prg
open Plain Sch Wan

/-- does a jump lead there -/
def led (T : List Ins) (k : Int) : Bool := T.any fun x => decide (x.code = 3) && decide (x.dst = k)

def dwn (frm many : Nat) (x : Ins) : Ins := if x.code = 3 ∧ (frm : Int) < x.dst then ⟨x.code, x.kind, x.no, x.num, x.text, x.dst - many⟩ else x

def cutP (T : List Ins) (frm many : Nat) : List Ins := (T.take frm ++ T.drop (frm + many)).map (dwn frm many)

def ledOn (T : List Ins) (i : Nat) : List Ins := T.set i ⟨(ins T i).code, (ins T i).kind, (ins T i).no, (ins T i).num, (ins T i).text, (ins T (ins T i).dst.toNat).dst⟩

def isA (T : List Ins) (i : Nat) : Prop := (ins T i).code = 4 ∧ i + 1 < T.length ∧ (ins T (i + 1)).code = 4 ∧ led T ((i : Int) + 1) = false
def isB (T : List Ins) (i : Nat) : Prop := (ins T i).code = 3 ∧ (ins T (ins T i).dst.toNat).code = 3 ∧ (ins T (ins T i).dst.toNat).num = (ins T i).num
def isC (T : List Ins) (i : Nat) : Prop := (ins T i).code = 1 ∧ i + 2 < T.length ∧ (ins T (i + 1)).code = 2 ∧ (ins T (i + 2)).code = 1 ∧ (ins T (i + 2)).no = (ins T i).no ∧ led T ((i : Int) + 1) = false ∧ led T ((i : Int) + 2) = false

instance (T : List Ins) (i : Nat) : Decidable (isA T i) := by unfold isA; infer_instance
instance (T : List Ins) (i : Nat) : Decidable (isB T i) := by unfold isB; infer_instance
instance (T : List Ins) (i : Nat) : Decidable (isC T i) := by unfold isC; infer_instance

/-- made better at an instruction -/
def bet (T : List Ins) (i : Nat) : Option (List Ins) :=
  if isA T i then some (cutP T i 2) else if isB T i then some (ledOn T i) else if isC T i then some (cutP T (i + 2) 1) else none

/-- made better at the first one -/
def fstB (T : List Ins) : Nat → Nat → Option (List Ins)
  | 0, _ => none
  | f + 1, i => match bet T i with | some U => some U | none => fstB T f (i + 1)

def peep : Nat → List Ins → List Ins
  | 0, T => T
  | f + 1, T => match fstB T T.length 0 with | some U => peep f U | none => T

def tms (n : Nat) (x : Ins) : Nat := if x.code = 3 then n - x.dst.toNat else 0
def mea (T : List Ins) : Nat := T.length + (T.map (tms T.length)).sum

def peo (T : List Ins) : List Ins × Bool := if gp T then (peep (mea T) T, true) else ([], false)

theorem fstB_found (T : List Ins) (U : List Ins) : ∀ (f i j : Nat), i + j < i + f → (∀ q, q < j → bet T (i + q) = none) → bet T (i + j) = some U → fstB T f i = some U := by
  intro f
  induction f with
  | zero => intro i j h; omega
  | succ f ih =>
    intro i j h hn hs
    rw [fstB]
    cases j with
    | zero => rw [Nat.add_zero] at hs; rw [hs]
    | succ j =>
      have h0 := hn 0 (by omega)
      rw [Nat.add_zero] at h0
      rw [h0]
      exact ih (i + 1) j (by omega) (fun q hq => by have := hn (q + 1) (by omega); rwa [show i + (q + 1) = i + 1 + q by omega] at this) (by rwa [show i + (j + 1) = i + 1 + j by omega] at hs)

theorem fstB_none (T : List Ins) : ∀ (f i : Nat), (∀ q, q < f → bet T (i + q) = none) → fstB T f i = none := by
  intro f
  induction f with
  | zero => intro i _; rfl
  | succ f ih =>
    intro i hn
    rw [fstB]
    have h0 := hn 0 (by omega)
    rw [Nat.add_zero] at h0
    rw [h0]
    exact ih (i + 1) (fun q hq => by have := hn (q + 1) (by omega); rwa [show i + (q + 1) = i + 1 + q by omega] at this)

theorem fstB_some (T : List Ins) (U : List Ins) : ∀ (f i : Nat), fstB T f i = some U → ∃ j, i ≤ j ∧ j < i + f ∧ bet T j = some U := by
  intro f
  induction f with
  | zero => intro i h; cases h
  | succ f ih =>
    intro i h
    rw [fstB] at h
    cases hb : bet T i with
    | some V => rw [hb] at h; exact ⟨i, by omega, by omega, by rw [hb]; exact h⟩
    | none =>
      rw [hb] at h
      obtain ⟨j, h1, h2, h3⟩ := ih (i + 1) h
      exact ⟨j, by omega, by omega, h3⟩

theorem peep_some {T U : List Ins} {f : Nat} (h : fstB T T.length 0 = some U) : peep (f + 1) T = peep f U := by rw [peep, h]
theorem peep_none {T : List Ins} {f : Nat} (h : fstB T T.length 0 = none) : peep f T = T := by
  cases f with
  | zero => rfl
  | succ f => rw [peep, h]

theorem ins_get {T : List Ins} {i : Nat} (h : i < T.length) : T[i]? = some (ins T i) := by
  unfold ins; rw [List.getD, List.getElem?_eq_getElem h]; rfl
theorem ins_of {T : List Ins} {i : Nat} {x : Ins} (h : T[i]? = some x) : ins T i = x := by
  unfold ins; rw [List.getD, h]; rfl

theorem led_no {T : List Ins} {k : Int} (h : led T k = false) {i : Nat} (hi : i < T.length) (hc : (ins T i).code = 3) : (ins T i).dst ≠ k := by
  intro e
  have hm : ins T i ∈ T := List.mem_of_getElem? (ins_get hi)
  unfold led at h
  rw [List.any_eq_false] at h
  have := h _ hm
  simp [hc, e] at this

theorem okI_jump {x : Ins} {i : Nat} {last : Int} (h : okI x i last = true) (hc : x.code = 3) : (x.num = 0 ∨ x.num = 1) ∧ (i : Int) < x.dst ∧ x.dst ≤ last ∧ x = ⟨x.code, 0, 0, x.num, ⟨#[]⟩, x.dst⟩ := by
  unfold okI at h
  rw [if_neg (by omega), if_neg (by omega), if_pos hc] at h
  simp only [Bool.and_eq_true, Bool.or_eq_true, decide_eq_true_eq] at h
  exact ⟨h.1.1.1, h.1.1.2, h.1.2, h.2⟩

theorem okI_codes {x : Ins} {i : Nat} {last : Int} (h : okI x i last = true) : 1 ≤ x.code ∧ x.code ≤ 5 := by
  unfold okI at h
  by_cases c1 : x.code = 1
  · omega
  · by_cases c2 : x.code = 2
    · omega
    · by_cases c3 : x.code = 3
      · omega
      · by_cases c4 : x.code = 4 ∨ x.code = 5
        · omega
        · rw [if_neg c1, if_neg c2, if_neg c3, if_neg c4] at h; cases h

theorem okI_move {x : Ins} {i j : Nat} {last last' : Int} (h : okI x i last = true) (hc : x.code ≠ 3) : okI x j last' = true := by
  unfold okI at h ⊢
  by_cases c1 : x.code = 1
  · rw [if_pos c1] at h ⊢; exact h
  · by_cases c2 : x.code = 2
    · rw [if_neg c1, if_pos c2] at h ⊢; exact h
    · rw [if_neg c1, if_neg c2, if_neg hc] at h ⊢; exact h

theorem okI_to {x : Ins} {i j : Nat} {last last' t : Int} (h : okI x i last = true) (hc : x.code = 3) (h1 : (j : Int) < t) (h2 : t ≤ last') : okI ⟨x.code, x.kind, x.no, x.num, x.text, t⟩ j last' = true := by
  obtain ⟨a, _, _, d⟩ := okI_jump h hc
  have e1 : x.kind = 0 := by rw [d]
  have e2 : x.no = 0 := by rw [d]
  have e3 : x.text = ⟨#[]⟩ := by rw [d]
  unfold okI
  dsimp only
  rw [if_neg (by omega), if_neg (by omega), if_pos hc, e1, e2, e3]
  simp only [Bool.and_eq_true, Bool.or_eq_true, decide_eq_true_eq]
  exact ⟨⟨⟨a, h1⟩, h2⟩, trivial⟩

theorem okP_of {x : Ins} {i : Nat} {last : Int} (h1 : x.code = 5 ↔ (i : Int) = last) (h2 : okI x i last = true) : okP x i last = true := by
  simp only [okP, Bool.and_eq_true, beq_iff_eq, decide_eq_decide]; exact ⟨h1, h2⟩

theorem dwn_code (f m : Nat) (x : Ins) : (dwn f m x).code = x.code := by unfold dwn; split <;> rfl

theorem cutP_len (T : List Ins) (f m : Nat) (h : f + m ≤ T.length) : (cutP T f m).length = T.length - m := by
  unfold cutP; simp; omega

theorem cutP_lo (T : List Ins) (f m i : Nat) (h : f + m ≤ T.length) (hi : i < f) : ins (cutP T f m) i = dwn f m (ins T i) := by
  refine ins_of ?_
  unfold cutP
  rw [List.getElem?_map, List.getElem?_append_left (by simp; omega), List.getElem?_take, if_pos hi, ins_get (by omega)]
  rfl

theorem cutP_hi (T : List Ins) (f m i : Nat) (h : f + m ≤ T.length) (hi : f ≤ i) (hi2 : i + m < T.length) : ins (cutP T f m) i = dwn f m (ins T (i + m)) := by
  refine ins_of ?_
  unfold cutP
  rw [List.getElem?_map, List.getElem?_append_right (by simp; omega), List.getElem?_drop]
  have e : f + m + (i - (T.take f).length) = i + m := by simp; omega
  rw [e, ins_get hi2]
  rfl

/-- what is cut out of a good program leaves one, where no jump leads into it but to its first -/
theorem gp_cut {T : List Ins} (hg : gp T = true) {f m : Nat} (hfm : f + m < T.length) (hled : ∀ i, i < T.length → (ins T i).code = 3 → (f : Int) < (ins T i).dst → (f : Int) + m ≤ (ins T i).dst) : gp (cutP T f m) = true := by
  have hl := gp_len hg
  have hcl := cutP_len T f m (by omega)
  have hok := gp_ok hg
  refine gp_all (by omega) (by omega) fun i hi => ?_
  rw [hcl] at hi
  have key : ∀ p, p < T.length → (i < f ∧ p = i ∨ f ≤ i ∧ p = i + m) → okP (dwn f m (ins T p)) i (((cutP T f m).length : Int) - 1) = true := by
    intro p hp hpi
    have h0 := hok p hp
    have hI := okP_ok h0
    have hE := okP_end h0
    have hL := hled p hp
    rw [hcl]
    refine okP_of ?_ ?_
    · rw [dwn_code, hE]
      omega
    · unfold dwn
      by_cases hc : (ins T p).code = 3
      · obtain ⟨_, j1, j2, _⟩ := okI_jump hI hc
        have hL := hL hc
        by_cases ht : (f : Int) < (ins T p).dst
        · have hL := hL ht
          rw [if_pos ⟨hc, ht⟩]
          exact okI_to hI hc (by omega) (by omega)
        · rw [if_neg (fun e => ht e.2)]
          have := okI_to (j := i) (last' := ((T.length - m : Nat) : Int) - 1) (t := (ins T p).dst) hI hc (by omega) (by omega)
          exact this
      · rw [if_neg (fun e => hc e.1)]
        exact okI_move hI hc
  by_cases hif : i < f
  · rw [cutP_lo T f m i (by omega) hif]
    exact key i (by omega) (.inl ⟨hif, rfl⟩)
  · rw [cutP_hi T f m i (by omega) (by omega) (by omega)]
    exact key (i + m) (by omega) (.inr ⟨by omega, rfl⟩)

theorem sum_le {α : Type} (l : List α) (f g : α → Nat) (h : ∀ x ∈ l, f x ≤ g x) : (l.map f).sum ≤ (l.map g).sum := by
  induction l with
  | nil => simp
  | cons a l ih =>
    simp only [List.map_cons, List.sum_cons]
    have := h a (by simp)
    have := ih (fun x hx => h x (by simp [hx]))
    omega

theorem mea_cut {T : List Ins} {f m : Nat} (hfm : f + m ≤ T.length) (hm : 0 < m) : mea (cutP T f m) < mea T := by
  unfold mea
  rw [cutP_len T f m hfm]
  unfold cutP
  rw [List.map_map]
  have h1 : ((T.take f ++ T.drop (f + m)).map (tms (T.length - m) ∘ dwn f m)).sum ≤ ((T.take f ++ T.drop (f + m)).map (tms T.length)).sum := by
    refine sum_le _ _ _ fun x _ => ?_
    simp only [Function.comp, tms, dwn_code]
    by_cases hc : x.code = 3
    · rw [if_pos hc, if_pos hc]
      unfold dwn
      split
      · dsimp only; omega
      · omega
    · rw [if_neg hc, if_neg hc]; omega
  have h2 : ((T.take f ++ T.drop (f + m)).map (tms T.length)).sum ≤ (T.map (tms T.length)).sum := by
    have e : T = T.take f ++ ((T.drop f).take m ++ T.drop (f + m)) := by
      rw [← List.drop_drop, List.take_append_drop, List.take_append_drop]
    conv => rhs; rw [e]
    simp only [List.map_append, List.sum_append]
    have : T.length = (T.take f ++ ((T.drop f).take m ++ T.drop (f + m))).length := by rw [← e]
    rw [← this]
    omega
  omega

theorem ledOn_len (T : List Ins) (i : Nat) : (ledOn T i).length = T.length := by unfold ledOn; simp

theorem gp_led {T : List Ins} (hg : gp T = true) {i : Nat} (hi : i < T.length) (h : isB T i) : gp (ledOn T i) = true ∧ mea (ledOn T i) < mea T := by
  obtain ⟨h1, h2, _⟩ := h
  have hl := gp_len hg
  have hok := gp_ok hg
  obtain ⟨_, j1, j2, _⟩ := okI_jump (okP_ok (hok i hi)) h1
  have ht : (ins T i).dst.toNat < T.length := by omega
  obtain ⟨_, q1, q2, _⟩ := okI_jump (okP_ok (hok _ ht)) h2
  have hsame : ∀ p, p < T.length → p ≠ i → ins (ledOn T i) p = ins T p := by
    intro p hp hne
    refine ins_of ?_
    unfold ledOn
    rw [List.getElem?_set_ne (by omega), ins_get hp]
  have hat : ins (ledOn T i) i = ⟨(ins T i).code, (ins T i).kind, (ins T i).no, (ins T i).num, (ins T i).text, (ins T (ins T i).dst.toNat).dst⟩ := by
    refine ins_of ?_
    unfold ledOn
    rw [List.getElem?_set_self hi]
  constructor
  · refine gp_all (by rw [ledOn_len]; omega) (by rw [ledOn_len]; omega) fun p hp => ?_
    rw [ledOn_len] at hp ⊢
    by_cases hpi : p = i
    · subst hpi
      rw [hat]
      have hE := okP_end (hok p hp)
      exact okP_of (by exact hE) (okI_to (okP_ok (hok p hp)) h1 (by omega) (by omega))
    · rw [hsame p hp hpi]
      exact hok p hp
  · unfold mea
    rw [ledOn_len]
    have e : T = T.take i ++ (ins T i :: T.drop (i + 1)) := by
      have := List.getElem?_eq_getElem hi
      rw [ins_get hi] at this
      simp only [Option.some.injEq] at this
      rw [this, List.getElem_cons_drop, List.take_append_drop]
    have e2 : ledOn T i = T.take i ++ (⟨(ins T i).code, (ins T i).kind, (ins T i).no, (ins T i).num, (ins T i).text, (ins T (ins T i).dst.toNat).dst⟩ :: T.drop (i + 1)) := by
      unfold ledOn
      rw [List.set_eq_take_append_cons_drop, if_pos hi]
    obtain ⟨n, hn⟩ : ∃ n, n = T.length := ⟨_, rfl⟩
    rw [← hn] at hi j2 ht q2 ⊢
    have e3 : (T.map (tms n)).sum = ((T.take i).map (tms n)).sum + (tms n (ins T i) + ((T.drop (i + 1)).map (tms n)).sum) := by
      conv => lhs; rw [e]
      simp
    rw [e3, e2]
    simp only [List.map_append, List.map_cons, List.sum_append, List.sum_cons]
    simp only [tms, if_pos h1]
    omega

theorem bet_good {T U : List Ins} (hg : gp T = true) {i : Nat} (hi : i < T.length) (h : bet T i = some U) : gp U = true ∧ mea U < mea T := by
  have hok := gp_ok hg
  have hend : ∀ p, p < T.length → (ins T p).code ≠ 5 → p + 1 < T.length := fun p hp hc => by
    have := okP_end (hok p hp)
    by_cases q : (p : Int) = (T.length : Int) - 1
    · exact absurd (this.2 q) hc
    · omega
  unfold bet at h
  split at h
  · rename_i hA
    obtain ⟨a1, a2, a3, a4⟩ := hA
    cases h
    have := hend (i + 1) a2 (by omega)
    exact ⟨gp_cut hg (by omega) fun p hp hc hto => by have := led_no a4 hp hc; omega, mea_cut (by omega) (by omega)⟩
  · split at h
    · rename_i _ hB
      cases h
      exact gp_led hg hi hB
    · split at h
      · rename_i _ _ hC
        obtain ⟨c1, c2, c3, c4, c5, c6, c7⟩ := hC
        cases h
        have := hend (i + 2) c2 (by omega)
        exact ⟨gp_cut hg (by omega) fun p hp hc hto => by omega, mea_cut (by omega) (by omega)⟩
      · cases h

theorem gp_next {T : List Ins} (hg : gp T = true) {p : Nat} (hp : p < T.length) (hc : (ins T p).code ≠ 5) : p + 1 < T.length := by
  have := okP_end (gp_ok hg p hp)
  by_cases q : (p : Int) = (T.length : Int) - 1
  · exact absurd (this.2 q) hc
  · omega
theorem gp_jump {T : List Ins} (hg : gp T = true) {p : Nat} (hp : p < T.length) (hc : (ins T p).code = 3) : (p : Int) < (ins T p).dst ∧ (ins T p).dst < T.length ∧ ((ins T p).num = 0 ∨ (ins T p).num = 1) := by
  obtain ⟨a, b, c, _⟩ := okI_jump (okP_ok (gp_ok hg p hp)) hc
  exact ⟨b, by omega, a⟩
theorem gp_codes {T : List Ins} (hg : gp T = true) {p : Nat} (hp : p < T.length) : (ins T p).code = 1 ∨ (ins T p).code = 2 ∨ (ins T p).code = 3 ∨ (ins T p).code = 4 ∨ (ins T p).code = 5 := by
  have := okI_codes (okP_ok (gp_ok hg p hp)); omega
theorem gp_test {T : List Ins} (hg : gp T = true) {p : Nat} (hp : p < T.length) (hc : (ins T p).code = 2) : isAsk (ins T p).kind = true ∧ (ins T p).text.size ≤ 30 := by
  have h := okP_ok (gp_ok hg p hp)
  unfold okI at h
  rw [if_neg (by omega), if_pos hc] at h
  simp only [askedOk, Bool.and_eq_true, decide_eq_true_eq] at h
  exact ⟨h.1.1, h.1.2.2⟩
theorem gp_text {T : List Ins} (hg : gp T = true) {p : Nat} (hp : p < T.length) : (ins T p).text.size ≤ 30 := by
  have h := okP_ok (gp_ok hg p hp)
  have z : (ByteArray.mk #[]).size ≤ 30 := by decide
  rcases gp_codes hg hp with hc | hc | hc | hc | hc
  · unfold okI at h
    rw [if_pos hc] at h
    simp only [Bool.and_eq_true, decide_eq_true_eq] at h
    rw [h.2]; exact z
  · exact (gp_test hg hp hc).2
  · obtain ⟨_, _, _, d⟩ := okI_jump h hc
    rw [d]; exact z
  · unfold okI at h
    rw [if_neg (by omega), if_neg (by omega), if_neg (by omega), if_pos (.inl hc)] at h
    simp only [decide_eq_true_eq] at h
    rw [h]; exact z
  · unfold okI at h
    rw [if_neg (by omega), if_neg (by omega), if_neg (by omega), if_pos (.inr hc)] at h
    simp only [decide_eq_true_eq] at h
    rw [h]; exact z

end Go.Proofs.YtmjpmmkjfimopaaDoor.Prg
