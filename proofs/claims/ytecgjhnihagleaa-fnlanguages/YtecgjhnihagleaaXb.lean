/- Filters as lists of wants: what a good one is; what is told of each want by those ahead of it. How deep a filter is; wants that go behind others; the kinds of good wants. The Nos of a filter: told by going through the numbers, and by sorting and cutting out what is alike. Subs in plain words: who gets a topic, by putting each to its place or by sorting and cutting out what is alike. -/
import Derived.Laws.Bits128
import Derived.Test.YtecgjhnihagleaaGa
import Derived.Lib.SlicesCompact
import Derived.Test.YtecgjhnihagleaaXa
namespace Go.Proofs.Ytecgjhnihagleaa.Wan
open Plain Sch

structure Wa where
  kind : Int
  no : Int
  num : Int
  text : ByteArray
  a : Int
  b : Int

instance : Inhabited Wa := ⟨⟨0, 0, 0, ⟨#[]⟩, 0, 0⟩⟩
instance : DecidableEq Wa := fun x y => decidable_of_iff (x.kind = y.kind ∧ x.no = y.no ∧ x.num = y.num ∧ x.text = y.text ∧ x.a = y.a ∧ x.b = y.b) (by cases x; cases y; simp)

def wa (T : List Wa) (i : Nat) : Wa := T.getD i default

def nOk (n : Int) : Bool := decide (-1000000000 ≤ n) && decide (n ≤ 1000000000)

def isAsk (k : Int) : Bool := decide (1 ≤ k) && decide (k ≤ 5)
def isBin (k : Int) : Bool := decide (k = 6) || decide (k = 7)
def isNot (k : Int) : Bool := decide (k = 8)

/-- the wants that one asks -/
def own (w : Wa) : List Int := if isBin w.kind then [w.a, w.b] else if isNot w.kind then [w.a] else []

def okAsk (w : Wa) : Bool :=
  decide (w = ⟨w.kind, w.no, if w.kind ≤ 3 then w.num else 0, if w.kind = 5 then w.text else ⟨#[]⟩, 0, 0⟩) && decide (1 ≤ w.no) && decide (w.no ≤ 30) && nOk w.num && decide (w.text.size ≤ 30)
def okBin (w : Wa) (i : Nat) : Bool := decide (w = ⟨w.kind, 0, 0, ⟨#[]⟩, w.a, w.b⟩) && decide (0 ≤ w.a) && decide (w.a < w.b) && decide (w.b < i)
def okNot (w : Wa) (i : Nat) : Bool := decide (w = ⟨w.kind, 0, 0, ⟨#[]⟩, w.a, 0⟩) && decide (0 ≤ w.a) && decide (w.a < i)

def okW (w : Wa) (i : Nat) : Bool := if isAsk w.kind then okAsk w else if isBin w.kind then okBin w i else if isNot w.kind then okNot w i else false

theorem okW_own {w : Wa} {i : Nat} (h : okW w i = true) : ∀ x ∈ own w, 0 ≤ x ∧ x < i := by
  intro x hx
  unfold okW at h
  unfold own at hx
  by_cases h1 : isBin w.kind = true
  · have h0 : isAsk w.kind = false := by
      simp only [isBin, isAsk, Bool.or_eq_true, decide_eq_true_eq] at h1 ⊢
      rcases h1 with h1 | h1 <;> rw [h1] <;> decide
    rw [if_pos h1] at hx
    rw [if_neg (by rw [h0]; decide), if_pos h1] at h
    simp only [okBin, Bool.and_eq_true, decide_eq_true_eq] at h
    simp at hx
    rcases hx with rfl | rfl <;> omega
  · rw [if_neg h1] at hx
    by_cases h2 : isNot w.kind = true
    · have h0 : isAsk w.kind = false := by
        simp only [isNot, isAsk, decide_eq_true_eq] at h2 ⊢
        rw [h2]; decide
      rw [if_pos h2] at hx
      rw [if_neg (by rw [h0]; decide), if_neg h1, if_pos h2] at h
      simp only [okNot, Bool.and_eq_true, decide_eq_true_eq] at h
      simp at hx
      rw [hx]; omega
    · rw [if_neg h2] at hx; simp at hx

/-- how often a want is asked -/
def use (L : List Wa) (j : Nat) : Nat := (L.flatMap own).count (j : Int)

theorem use_step (T : List Wa) (i j : Nat) (h : i < T.length) : use (T.take (i + 1)) j = use (T.take i) j + (own (wa T i)).count (j : Int) := by
  have e : T.take (i + 1) = T.take i ++ [wa T i] := by
    rw [List.take_add_one]
    congr 1
    simp [wa, List.getD, List.getElem?_eq_getElem h]
  rw [e]
  simp [use, List.count_append]

theorem use_zero (T : List Wa) (j : Nat) : use (T.take 0) j = 0 := by simp [use]

theorem use_le (T : List Wa) (j : Nat) : ∀ i, i ≤ T.length → use (T.take i) j ≤ 2 * i := by
  intro i
  induction i with
  | zero => intro _; rw [use_zero]; omega
  | succ i ih =>
    intro h
    rw [use_step T i j (by omega)]
    have h1 := ih (by omega)
    have h2 : (own (wa T i)).count (j : Int) ≤ 2 := by
      refine Nat.le_trans List.count_le_length ?_
      unfold own
      by_cases h1 : isBin (wa T i).kind = true
      · rw [if_pos h1]; simp
      · rw [if_neg h1]
        by_cases h2 : isNot (wa T i).kind = true
        · rw [if_pos h2]; simp
        · rw [if_neg h2]; simp
    omega

def gf (T : List Wa) : Bool := decide (1 ≤ T.length) && decide (T.length ≤ 20) && decide (∀ i, i < T.length → okW (wa T i) i = true) && decide (∀ j, j < T.length - 1 → use T j = 1)

theorem gf_len {T : List Wa} (h : gf T = true) : 1 ≤ T.length ∧ T.length ≤ 20 := by
  simp only [gf, Bool.and_eq_true, decide_eq_true_eq] at h; exact ⟨h.1.1.1, h.1.1.2⟩
theorem gf_ok {T : List Wa} (h : gf T = true) : ∀ i, i < T.length → okW (wa T i) i = true := by
  simp only [gf, Bool.and_eq_true, decide_eq_true_eq] at h; exact h.1.2
theorem gf_own {T : List Wa} (h : gf T = true) (i : Nat) (hi : i < T.length) : ∀ x ∈ own (wa T i), 0 ≤ x ∧ x < i := okW_own (gf_ok h i hi)

theorem gf_bad {T : List Wa} {i : Nat} (hi : i < T.length) (h : okW (wa T i) i = false) : gf T = false := by
  rw [Bool.eq_false_iff]
  intro hg
  rw [gf_ok hg i hi] at h
  cases h
theorem gf_uses {T : List Wa} {j : Nat} (hj : j < T.length - 1) (h : ¬ use T j = 1) : gf T = false := by
  rw [Bool.eq_false_iff]
  intro hg
  simp only [gf, Bool.and_eq_true, decide_eq_true_eq] at hg
  exact h (hg.2 j hj)

/-- told one by one, each by what was told of those ahead -/
def fld {α : Type} (s : List α → Wa → α) (T : List Wa) : List α := T.foldl (fun acc w => acc ++ [s acc w]) []

theorem fld_snoc {α : Type} (s : List α → Wa → α) (T : List Wa) (w : Wa) : fld s (T ++ [w]) = fld s T ++ [s (fld s T) w] := by simp [fld]
theorem fld_len {α : Type} (s : List α → Wa → α) (T : List Wa) : (fld s T).length = T.length := by
  have h : ∀ (n : Nat) (T : List Wa), T.length = n → (fld s T).length = T.length := by
    intro n
    induction n with
    | zero => intro T h; rw [List.length_eq_zero_iff.1 h]; rfl
    | succ n ih =>
      intro T h
      have hne : T ≠ [] := by intro e; rw [e] at h; simp at h
      have e := List.dropLast_concat_getLast hne
      rw [← e, fld_snoc, List.length_append, List.length_append, ih T.dropLast (by simp [h])]
      rfl
  exact h _ T rfl

theorem take_snoc (T : List Wa) (i : Nat) (h : i < T.length) : T.take (i + 1) = T.take i ++ [wa T i] := by
  rw [List.take_add_one]
  congr 1
  simp [wa, List.getD, List.getElem?_eq_getElem h]

theorem fld_take {α : Type} (s : List α → Wa → α) (T : List Wa) (i : Nat) (h : i < T.length) : fld s (T.take (i + 1)) = fld s (T.take i) ++ [s (fld s (T.take i)) (wa T i)] := by
  rw [take_snoc T i h, fld_snoc]

theorem fld_prefix {α : Type} (s : List α → Wa → α) (T : List Wa) (k : Nat) : ∀ i, k ≤ i → i ≤ T.length → ∀ j, j < k → (fld s (T.take i))[j]? = (fld s (T.take k))[j]? := by
  intro i
  induction i with
  | zero => intro h1 _ j hj; omega
  | succ i ih =>
    intro h1 h2 j hj
    by_cases hk : k = i + 1
    · rw [hk]
    · rw [fld_take s T i (by omega), List.getElem?_append_left (by rw [fld_len]; simp; omega)]
      exact ih (by omega) (by omega) j hj

theorem fld_get {α : Type} (s : List α → Wa → α) (T : List Wa) (k : Nat) (h : k < T.length) : (fld s T)[k]? = some (s (fld s (T.take k)) (wa T k)) := by
  have h1 := fld_prefix s T (k + 1) T.length (by omega) (Nat.le_refl _) k (by omega)
  rw [List.take_length] at h1
  rw [h1, fld_take s T k h, List.getElem?_append_right (by rw [fld_len]; simp; omega), fld_len]
  simp [Nat.min_eq_left (Nat.le_of_lt h)]

theorem wa_take (T : List Wa) (i j : Nat) (h : j < i) : wa (T.take i) j = wa T j := by
  simp [wa, List.getD, h]

end Go.Proofs.Ytecgjhnihagleaa.Wan

namespace Go.Proofs.Ytecgjhnihagleaa.Wan
open Plain Sch

theorem kind_cases {w : Wa} {i : Nat} (h : okW w i = true) : isAsk w.kind = true ∨ isBin w.kind = true ∨ isNot w.kind = true := by
  unfold okW at h
  by_cases h1 : isAsk w.kind = true
  · exact .inl h1
  · by_cases h2 : isBin w.kind = true
    · exact .inr (.inl h2)
    · by_cases h3 : isNot w.kind = true
      · exact .inr (.inr h3)
      · rw [if_neg h1, if_neg h2, if_neg h3] at h; cases h

theorem ask_bounds {k : Int} (h : isAsk k = true) : 1 ≤ k ∧ k ≤ 5 := by simpa [isAsk] using h
theorem bin_bounds {k : Int} (h : isBin k = true) : k = 6 ∨ k = 7 := by simpa [isBin] using h
theorem not_bounds {k : Int} (h : isNot k = true) : k = 8 := by simpa [isNot] using h

theorem own_ask {w : Wa} (h : isAsk w.kind = true) : own w = [] := by
  have := ask_bounds h
  unfold own
  rw [if_neg (by intro e; have := bin_bounds e; omega), if_neg (by intro e; have := not_bounds e; omega)]
theorem own_bin {w : Wa} (h : isBin w.kind = true) : own w = [w.a, w.b] := by unfold own; rw [if_pos h]
theorem own_not {w : Wa} (h : isNot w.kind = true) : own w = [w.a] := by
  unfold own
  rw [if_neg (by intro e; have := bin_bounds e; have := not_bounds h; omega), if_pos h]

/-- what one want is deep, by those ahead -/
def depS (acc : List Int) (w : Wa) : Int := (own w).foldl (fun m x => max m (acc.getD x.toNat 0)) 0 + 1

def dp (T : List Wa) (k : Nat) : Int := (fld depS T).getD k 0
def dpo (T : List Wa) : Int × Bool := if gf T then (dp T (T.length - 1), true) else (0, false)

theorem fldD_get {s : List Int → Wa → Int} {T : List Wa} {k j : Nat} (hk : k ≤ T.length) (hj : j < k) : (fld s (T.take k)).getD j 0 = (fld s T).getD j 0 := by
  have h1 := fld_prefix s T k T.length hk (Nat.le_refl _) j hj
  rw [List.take_length] at h1
  simp only [List.getD, h1]

theorem dp_eq (T : List Wa) (k : Nat) (hk : k < T.length) : dp T k = depS (fld depS (T.take k)) (wa T k) := by
  unfold dp
  rw [List.getD, fld_get depS T k hk]
  rfl

theorem dp_ask {T : List Wa} {k : Nat} (hk : k < T.length) (h : isAsk (wa T k).kind = true) : dp T k = 1 := by
  rw [dp_eq T k hk, depS, own_ask h]; rfl

theorem dp_pos (T : List Wa) (k : Nat) (hk : k < T.length) : 1 ≤ dp T k := by
  rw [dp_eq T k hk, depS]
  have h : ∀ (l : List Int) (acc : List Int) (m : Int), 0 ≤ m → 0 ≤ l.foldl (fun m x => max m (acc.getD x.toNat 0)) m := by
    intro l acc
    induction l with
    | nil => intro m h; exact h
    | cons a l ih => intro m h; exact ih _ (by dsimp only; omega)
  have := h (own (wa T k)) (fld depS (T.take k)) 0 (by omega)
  omega

theorem dp_bin {T : List Wa} {k : Nat} (hg : gf T = true) (hk : k < T.length) (h : isBin (wa T k).kind = true) : dp T k = max (dp T (wa T k).a.toNat) (dp T (wa T k).b.toNat) + 1 := by
  have hx := gf_own hg k hk
  rw [own_bin h] at hx
  have ha := hx (wa T k).a (by simp)
  have hb := hx (wa T k).b (by simp)
  have pa := dp_pos T (wa T k).a.toNat (by omega)
  rw [dp_eq T k hk, depS, own_bin h]
  simp only [List.foldl]
  rw [fldD_get (by omega) (by omega), fldD_get (by omega) (by omega)]
  show max (max 0 (dp T _)) (dp T _) + 1 = _
  omega

theorem dp_not {T : List Wa} {k : Nat} (hg : gf T = true) (hk : k < T.length) (h : isNot (wa T k).kind = true) : dp T k = dp T (wa T k).a.toNat + 1 := by
  have hx := gf_own hg k hk
  rw [own_not h] at hx
  have ha := hx (wa T k).a (by simp)
  have pa := dp_pos T (wa T k).a.toNat (by omega)
  rw [dp_eq T k hk, depS, own_not h]
  simp only [List.foldl]
  rw [fldD_get (by omega) (by omega)]
  show max 0 (dp T _) + 1 = _
  omega

theorem dp_le {T : List Wa} (hg : gf T = true) : ∀ k, k < T.length → dp T k ≤ k + 1 := by
  intro k
  induction k using Nat.strongRecOn with
  | _ k ih =>
    intro hk
    rcases kind_cases (gf_ok hg k hk) with h | h | h
    · rw [dp_ask hk h]; omega
    · have hx := gf_own hg k hk
      rw [own_bin h] at hx
      have ha := hx (wa T k).a (by simp)
      have hb := hx (wa T k).b (by simp)
      rw [dp_bin hg hk h]
      have h1 := ih _ (show (wa T k).a.toNat < k by omega) (by omega)
      have h2 := ih _ (show (wa T k).b.toNat < k by omega) (by omega)
      omega
    · have hx := gf_own hg k hk
      rw [own_not h] at hx
      have ha := hx (wa T k).a (by simp)
      rw [dp_not hg hk h]
      have h1 := ih _ (show (wa T k).a.toNat < k by omega) (by omega)
      omega

/-- a want that goes n behind -/
def sh (n : Nat) (w : Wa) : Wa := if isBin w.kind then ⟨w.kind, w.no, w.num, w.text, w.a + n, w.b + n⟩ else if isNot w.kind then ⟨w.kind, w.no, w.num, w.text, w.a + n, w.b⟩ else w

theorem sh_zero (w : Wa) : sh 0 w = w := by
  unfold sh
  by_cases h1 : isBin w.kind = true
  · rw [if_pos h1]; simp
  · rw [if_neg h1]
    by_cases h2 : isNot w.kind = true
    · rw [if_pos h2]; simp
    · rw [if_neg h2]

theorem sh_zeros (T : List Wa) : T.map (sh 0) = T := by
  have : (sh 0) = id := funext sh_zero
  rw [this, List.map_id]

def notF (T : List Wa) : List Wa × Bool := if gf T && decide (T.length < 20) then (T ++ [⟨8, 0, 0, ⟨#[]⟩, (T.length : Int) - 1, 0⟩], true) else ([], false)
def bothF (T U : List Wa) : List Wa × Bool := if gf T && gf U && decide (T.length + U.length < 20) then (T ++ U.map (sh T.length) ++ [⟨6, 0, 0, ⟨#[]⟩, (T.length : Int) - 1, (T.length : Int) + U.length - 1⟩], true) else ([], false)

end Go.Proofs.Ytecgjhnihagleaa.Wan

namespace Go.Proofs.Ytecgjhnihagleaa.Wan
open Plain Sch

/-- the Nos up to k that a want has -/
def nz (T : List Wa) (k : Nat) : List Int := ((List.range k).map (fun i => ((i + 1 : Nat) : Int))).filter (fun n => T.any (fun w => w.no == n))
def nosF (T : List Wa) : List Int × Bool := if gf T then (nz T 30, true) else ([], false)
def asks (T : List Wa) : List Int := (T.filter (fun w => isAsk w.kind)).map (·.no)

theorem nz_step (T : List Wa) (k : Nat) : nz T (k + 1) = nz T k ++ if T.any (fun w => w.no == ((k + 1 : Nat) : Int)) then [((k + 1 : Nat) : Int)] else [] := by
  unfold nz
  rw [List.range_succ, List.map_append, List.filter_append]
  congr 1
  simp only [List.map_cons, List.map_nil, List.filter_cons, List.filter_nil]

theorem nz_mem (T : List Wa) (k : Nat) (x : Int) : x ∈ nz T k ↔ (1 ≤ x ∧ x ≤ k) ∧ ∃ w ∈ T, w.no = x := by
  unfold nz
  rw [List.mem_filter, List.mem_map]
  constructor
  · rintro ⟨⟨i, hi, rfl⟩, h⟩
    rw [List.mem_range] at hi
    rw [List.any_eq_true] at h
    obtain ⟨w, hw, he⟩ := h
    exact ⟨by omega, w, hw, by simpa using he⟩
  · rintro ⟨⟨h1, h2⟩, w, hw, he⟩
    refine ⟨⟨(x - 1).toNat, by rw [List.mem_range]; omega, by omega⟩, ?_⟩
    rw [List.any_eq_true]
    exact ⟨w, hw, by simpa using he⟩

theorem nz_len (T : List Wa) (k : Nat) : (nz T k).length ≤ k := by
  unfold nz
  refine Nat.le_trans (List.length_filter_le _ _) ?_
  simp

theorem nz_sorted (T : List Wa) (k : Nat) : (nz T k).Pairwise (· < ·) := by
  unfold nz
  refine List.Pairwise.filter _ ?_
  rw [List.pairwise_map]
  exact List.pairwise_lt_range.imp (fun h => by omega)

theorem sorted_ext : ∀ (a b : List Int), a.Pairwise (· < ·) → b.Pairwise (· < ·) → (∀ x, x ∈ a ↔ x ∈ b) → a = b
  | [], [], _, _, _ => rfl
  | [], y :: b, _, _, h => absurd ((h y).2 (by simp)) (by simp)
  | x :: a, [], _, _, h => absurd ((h x).1 (by simp)) (by simp)
  | x :: a, y :: b, ha, hb, h => by
    rw [List.pairwise_cons] at ha hb
    have hxy : x = y := by
      have h1 := (h x).1 (by simp)
      have h2 := (h y).2 (by simp)
      rw [List.mem_cons] at h1 h2
      rcases h1 with h1 | h1
      · exact h1
      · rcases h2 with h2 | h2
        · exact h2.symm
        · have := hb.1 x h1
          have := ha.1 y h2
          omega
    subst hxy
    have : a = b := by
      refine sorted_ext a b ha.2 hb.2 (fun z => ?_)
      have hz := h z
      rw [List.mem_cons, List.mem_cons] at hz
      constructor
      · intro hm
        rcases hz.1 (.inr hm) with e | e
        · have := ha.1 z hm; omega
        · exact e
      · intro hm
        rcases hz.2 (.inr hm) with e | e
        · have := hb.1 z hm; omega
        · exact e
    rw [this]

theorem compact_mem (zs : List Int) (x : Int) : x ∈ Lib.compact zs ↔ x ∈ zs := by
  unfold Lib.compact Lib.compactUpTo
  rw [List.mem_map]
  constructor
  · rintro ⟨j, hj, rfl⟩
    rw [List.mem_filter, List.mem_range] at hj
    rw [getElem!_pos _ j (by simpa using hj.1)]
    simp
  · intro hx
    obtain ⟨j, hj, hje⟩ := List.getElem_of_mem hx
    have key : ∀ j, (hj : j < zs.length) → zs[j] = x → ∃ i, i < zs.length ∧ Lib.keeps zs.toArray i = true ∧ zs.toArray[i]! = x := by
      intro j
      induction j with
      | zero =>
        intro hj he
        exact ⟨0, hj, by simp [Lib.keeps], by rw [getElem!_pos _ 0 (by simpa using hj)]; simpa using he⟩
      | succ j ih =>
        intro hj he
        by_cases hp : zs[j]'(by omega) = x
        · exact ih (by omega) hp
        · refine ⟨j + 1, hj, ?_, by rw [getElem!_pos _ (j + 1) (by simpa using hj)]; simpa using he⟩
          unfold Lib.keeps
          rw [getElem!_pos _ (j + 1) (by simpa using hj), getElem!_pos _ (j + 1 - 1) (by simp; omega)]
          simp only [decide_eq_true_eq]
          right
          intro e
          apply hp
          simp at e he
          rw [← he, e]
    obtain ⟨i, hi, hk, he⟩ := key j hj hje
    exact ⟨i, by rw [List.mem_filter, List.mem_range]; exact ⟨hi, hk⟩, he⟩

theorem compact_sorted (zs : List Int) (h : zs.Pairwise (· ≤ ·)) : (Lib.compact zs).Pairwise (· < ·) := by
  unfold Lib.compact Lib.compactUpTo
  rw [List.pairwise_map]
  refine (List.pairwise_lt_range.filter _).imp_of_mem ?_
  intro i j hi hj hlt
  rw [List.mem_filter, List.mem_range] at hi hj
  have hle := List.pairwise_iff_getElem.1 h
  have hk := hj.2
  unfold Lib.keeps at hk
  rw [getElem!_pos _ j (by simpa using hj.1), getElem!_pos _ (j - 1) (by simp; omega)] at hk
  simp only [decide_eq_true_eq] at hk
  rw [getElem!_pos _ i (by simpa using hi.1), getElem!_pos _ j (by simpa using hj.1)]
  simp only [List.getElem_toArray] at hk ⊢
  have h1 : zs[i]'hi.1 ≤ zs[j - 1]'(by omega) := by
    by_cases e : i = j - 1
    · subst e; exact Int.le_refl _
    · exact hle i (j - 1) hi.1 (by omega) (by omega)
  have h2 : zs[j - 1]'(by omega) ≤ zs[j]'hj.1 := hle (j - 1) j (by omega) hj.1 (by omega)
  rcases hk with hk | hk
  · omega
  · have : zs[j]'hj.1 ≠ zs[j - 1]'(by omega) := hk
    omega

theorem okW_no {x : Wa} {i : Nat} (h : okW x i = true) : (isAsk x.kind = true ∧ 1 ≤ x.no ∧ x.no ≤ 30) ∨ (isAsk x.kind = false ∧ x.no = 0) := by
  unfold okW at h
  by_cases h1 : isAsk x.kind = true
  · rw [if_pos h1] at h
    simp only [okAsk, Bool.and_eq_true, decide_eq_true_eq] at h
    exact .inl ⟨h1, by omega, by omega⟩
  · have h1' : isAsk x.kind = false := by simpa using h1
    rw [if_neg h1] at h
    refine .inr ⟨h1', ?_⟩
    by_cases h2 : isBin x.kind = true
    · rw [if_pos h2] at h
      simp only [okBin, Bool.and_eq_true, decide_eq_true_eq] at h
      exact congrArg (fun x : Wa => x.no) h.1.1.1
    · rw [if_neg h2] at h
      by_cases h3 : isNot x.kind = true
      · rw [if_pos h3] at h
        simp only [okNot, Bool.and_eq_true, decide_eq_true_eq] at h
        exact congrArg (fun x : Wa => x.no) h.1.1
      · rw [if_neg h3] at h; cases h

theorem mem_ok {T : List Wa} (hg : gf T = true) {x : Wa} (hx : x ∈ T) : ∃ i, okW x i = true := by
  obtain ⟨i, hi, rfl⟩ := List.getElem_of_mem hx
  have := gf_ok hg i hi
  unfold wa at this
  rw [List.getD, List.getElem?_eq_getElem hi] at this
  exact ⟨i, this⟩

theorem asks_nz {T : List Wa} (hg : gf T = true) : Lib.compact ((asks T).mergeSort fun x y => decide (x ≤ y)) = nz T 30 := by
  refine sorted_ext _ _ (compact_sorted _ ?_) (nz_sorted T 30) (fun x => ?_)
  · have h := List.pairwise_mergeSort (le := fun (x y : Int) => decide (x ≤ y)) (by intro a b c; simp; omega) (by intro a b; simp; omega) (asks T)
    exact h.imp (fun h => by simpa using h)
  · rw [compact_mem, List.mem_mergeSort, nz_mem]
    unfold asks
    rw [List.mem_map]
    constructor
    · rintro ⟨w, hw, rfl⟩
      rw [List.mem_filter] at hw
      obtain ⟨i, hi⟩ := mem_ok hg hw.1
      rcases okW_no hi with h | h
      · exact ⟨⟨h.2.1, h.2.2⟩, w, hw.1, rfl⟩
      · rw [h.1] at hw; cases hw.2
    · rintro ⟨h1, w, hw, rfl⟩
      obtain ⟨i, hi⟩ := mem_ok hg hw
      refine ⟨w, ?_, rfl⟩
      rw [List.mem_filter]
      rcases okW_no hi with h | h
      · exact ⟨hw, h.1⟩
      · omega

theorem asks_step (T : List Wa) (i : Nat) (h : i < T.length) : asks (T.take (i + 1)) = asks (T.take i) ++ if isAsk (wa T i).kind then [(wa T i).no] else [] := by
  rw [take_snoc T i h]
  unfold asks
  rw [List.filter_append, List.map_append]
  congr 1
  by_cases hk : isAsk (wa T i).kind = true
  · rw [if_pos hk]; simp [hk]
  · rw [if_neg hk]; simp [hk]

theorem asks_len (T : List Wa) (i : Nat) : (asks (T.take i)).length ≤ i := by
  unfold asks
  rw [List.length_map]
  refine Nat.le_trans (List.length_filter_le _ _) ?_
  simp; omega

theorem asks_some {T : List Wa} (hg : gf T = true) : 0 < (asks T).length := by
  obtain ⟨h0, _⟩ := gf_len hg
  have hk := Wan.kind_cases (gf_ok hg 0 (by omega))
  have hx := gf_own hg 0 (by omega)
  have ha : isAsk (wa T 0).kind = true := by
    rcases hk with h | h | h
    · exact h
    · rw [own_bin h] at hx; have := hx (wa T 0).a (by simp); omega
    · rw [own_not h] at hx; have := hx (wa T 0).a (by simp); omega
  have hm : (wa T 0).no ∈ asks T := by
    unfold asks
    rw [List.mem_map]
    refine ⟨wa T 0, ?_, rfl⟩
    rw [List.mem_filter]
    refine ⟨?_, ha⟩
    unfold wa
    rw [List.getD, List.getElem?_eq_getElem (by omega)]
    exact List.getElem_mem _
  exact List.length_pos_of_mem hm

theorem any_step (T : List Wa) (i : Nat) (n : Int) (h : i < T.length) : (T.take (i + 1)).any (fun w => w.no == n) = ((T.take i).any (fun w => w.no == n) || (wa T i).no == n) := by
  rw [take_snoc T i h, List.any_append]
  simp

/-- the same as naturals -/
def nzN (T : List Wa) (k : Nat) : List Nat := ((List.range k).map (· + 1)).filter (fun n => T.any (fun w => w.no == (n : Int)))
def nosV (T : List Wa) : List Nat × Bool := if gf T then (nzN T 30, true) else ([], false)

theorem nz_nat (T : List Wa) (k : Nat) : nz T k = (nzN T k).map (fun (n : Nat) => (n : Int)) := by
  unfold nz nzN
  rw [List.filter_map, List.filter_map, List.map_map]
  rfl

theorem nosV_len (T : List Wa) : (nosV T).1.length ≤ 1000 := by
  unfold nosV
  by_cases h : gf T = true
  · rw [if_pos h]
    have h1 := nz_len T 30
    rw [nz_nat, List.length_map] at h1
    show (nzN T 30).length ≤ 1000
    omega
  · rw [if_neg h]; simp

end Go.Proofs.Ytecgjhnihagleaa.Wan

namespace Go.Proofs.Ytecgjhnihagleaa
open Plain

namespace Tpc

structure Sb where
  pat : ByteArray
  who : Int

instance : Inhabited Sb := ⟨⟨⟨#[]⟩, 0⟩⟩

def sb (T : List Sb) (i : Nat) : Sb := T.getD i ⟨⟨#[]⟩, 0⟩

theorem sb_at {T : List Sb} {i : Nat} (h : i < T.length) : T[i]? = some (sb T i) := by
  unfold sb
  rw [List.getD_eq_getElem?_getD, List.getElem?_eq_getElem h]
  rfl

theorem sb_mem {T : List Sb} {i : Nat} (h : i < T.length) : sb T i ∈ T := List.mem_of_getElem? (sb_at h)

theorem sb_of_mem {T : List Sb} {x : Sb} (h : x ∈ T) : ∃ i, i < T.length ∧ sb T i = x := by
  obtain ⟨i, hi, e⟩ := List.getElem_of_mem h
  refine ⟨i, hi, ?_⟩
  have := sb_at hi
  rw [List.getElem?_eq_getElem hi, e] at this
  exact (Option.some.inj this).symm

theorem sb_take (T : List Sb) (i : Nat) (h : i < T.length) : T.take (i + 1) = T.take i ++ [sb T i] := by
  rw [List.take_add_one, sb_at h]
  rfl

/-- a good sub -/
def okSb (x : Sb) : Bool := gp x.pat && (decide (0 ≤ x.who) && decide (x.who ≤ 100))
def gsb (T : List Sb) : Bool := T.all okSb && decide (T.length ≤ 30)

theorem gsb_no {T : List Sb} {i : Nat} (hi : i < T.length) (h : okSb (sb T i) = false) : gsb T = false := by
  rw [Bool.eq_false_iff]
  intro hh
  unfold gsb at hh
  simp only [Bool.and_eq_true, List.all_eq_true] at hh
  rw [hh.1 _ (sb_mem hi)] at h
  cases h

theorem gsb_end {T : List Sb} (h : ∀ i, i < T.length → okSb (sb T i) = true) : gsb T = decide (T.length ≤ 30) := by
  unfold gsb
  rw [List.all_eq_true.2 (fun x hx => by obtain ⟨i, hi, rfl⟩ := sb_of_mem hx; exact h i hi)]
  rfl

theorem gsb_at {T : List Sb} (h : gsb T = true) : (∀ i, i < T.length → okSb (sb T i) = true) ∧ T.length ≤ 30 := by
  unfold gsb at h
  simp only [Bool.and_eq_true, List.all_eq_true, decide_eq_true_eq] at h
  exact ⟨fun i hi => h.1 _ (sb_mem hi), h.2⟩

theorem okSb_iff (x : Sb) : okSb x = true ↔ gp x.pat = true ∧ 0 ≤ x.who ∧ x.who ≤ 100 := by
  unfold okSb
  simp only [Bool.and_eq_true, decide_eq_true_eq]

/-- v put to its place in a rising list, once -/
def put (v : Nat) : List Nat → List Nat
  | [] => [v]
  | x :: l => if x < v then x :: put v l else if x = v then x :: l else v :: x :: l

theorem put_mem (v x : Nat) : ∀ l, x ∈ put v l ↔ x = v ∨ x ∈ l
  | [] => by simp [put]
  | y :: l => by
    unfold put
    split
    · rw [List.mem_cons, put_mem v x l, List.mem_cons]
      constructor
      · rintro (h | h | h)
        · exact .inr (.inl h)
        · exact .inl h
        · exact .inr (.inr h)
      · rintro (h | h | h)
        · exact .inr (.inl h)
        · exact .inl h
        · exact .inr (.inr h)
    · split
      · rename_i h1 h2
        subst h2
        rw [List.mem_cons]
        constructor
        · intro h; exact .inr h
        · rintro (h | h)
          · exact .inl h
          · exact h
      · rw [List.mem_cons]

theorem put_sorted (v : Nat) : ∀ l : List Nat, l.Pairwise (· < ·) → (put v l).Pairwise (· < ·)
  | [], _ => by simp [put]
  | y :: l, h => by
    rw [List.pairwise_cons] at h
    unfold put
    split
    · rename_i h1
      rw [List.pairwise_cons]
      refine ⟨fun z hz => ?_, put_sorted v l h.2⟩
      rcases (put_mem v z l).1 hz with e | e
      · omega
      · exact h.1 z e
    · split
      · rw [List.pairwise_cons]; exact h
      · rw [List.pairwise_cons]
        refine ⟨fun z hz => ?_, by rw [List.pairwise_cons]; exact h⟩
        rcases List.mem_cons.1 hz with e | e
        · omega
        · have := h.1 z e; omega

theorem put_len (v : Nat) : ∀ l : List Nat, (put v l).length ≤ l.length + 1
  | [] => by simp [put]
  | y :: l => by
    have := put_len v l
    unfold put
    split
    · simp only [List.length_cons]; omega
    · split
      · simp
      · simp

theorem put_at (v : Nat) : ∀ (L : List Nat) (k : Nat), (∀ j y, j < k → L[j]? = some y → y < v) → (k = L.length ∨ ∃ y, L[k]? = some y ∧ v < y) → k ≤ L.length → put v L = L.take k ++ v :: L.drop k
  | [], k, _, _, hk => by
    have : k = 0 := by simpa using hk
    subst this
    rfl
  | x :: L, 0, _, hd, _ => by
    rcases hd with hd | ⟨y, hy, hlt⟩
    · simp at hd
    · simp at hy
      subst hy
      rw [put, if_neg (by omega), if_neg (by omega)]
      rfl
  | x :: L, k + 1, hall, hd, hk => by
    have hx : x < v := hall 0 x (by omega) rfl
    rw [put, if_pos hx, put_at v L k (fun j y hj hy => hall (j + 1) y (by omega) (by simpa using hy)) (by
      rcases hd with hd | ⟨y, hy, hlt⟩
      · left; simpa using hd
      · right; exact ⟨y, by simpa using hy, hlt⟩) (by simpa using hk)]
    rfl

theorem put_has (v : Nat) : ∀ (L : List Nat) (k : Nat), (∀ j y, j < k → L[j]? = some y → y < v) → L[k]? = some v → put v L = L
  | [], k, _, h => by simp at h
  | x :: L, 0, _, h => by
    simp at h
    subst h
    rw [put, if_neg (by omega), if_pos rfl]
  | x :: L, k + 1, hall, h => by
    have hx : x < v := hall 0 x (by omega) rfl
    rw [put, if_pos hx, put_has v L k (fun j y hj hy => hall (j + 1) y (by omega) (by simpa using hy)) (by simpa using h)]

/-- all put to their places -/
def puts : List Nat → List Nat → List Nat
  | out, [] => out
  | out, v :: l => puts (put v out) l

theorem puts_snoc (v : Nat) : ∀ (l out : List Nat), puts out (l ++ [v]) = put v (puts out l)
  | [], _ => rfl
  | x :: l, out => by rw [List.cons_append, puts, puts, puts_snoc v l]

theorem puts_mem (x : Nat) : ∀ (l out : List Nat), x ∈ puts out l ↔ x ∈ out ∨ x ∈ l
  | [], out => by simp [puts]
  | v :: l, out => by
    rw [puts, puts_mem x l, put_mem, List.mem_cons]
    constructor
    · rintro ((h | h) | h)
      · exact .inr (.inl h)
      · exact .inl h
      · exact .inr (.inr h)
    · rintro (h | h | h)
      · exact .inl (.inr h)
      · exact .inl (.inl h)
      · exact .inr h

theorem puts_sorted : ∀ (l out : List Nat), out.Pairwise (· < ·) → (puts out l).Pairwise (· < ·)
  | [], _, h => h
  | v :: l, _, h => puts_sorted l _ (put_sorted v _ h)

theorem puts_len : ∀ (l out : List Nat), (puts out l).length ≤ out.length + l.length
  | [], _ => by simp [puts]
  | v :: l, out => by
    have h1 := puts_len l (put v out)
    have h2 := put_len v out
    rw [puts, List.length_cons]
    omega

def zn (l : List Nat) : List Int := l.map fun (n : Nat) => (n : Int)

/-- sorted, and what is alike cut out -/
theorem sort_puts (l : List Nat) : Lib.compact ((zn l).mergeSort fun x y => decide (x ≤ y)) = zn (puts [] l) := by
  refine Wan.sorted_ext _ _ (Wan.compact_sorted _ ?_) ?_ (fun x => ?_)
  · refine (List.pairwise_mergeSort (le := fun x y => decide (x ≤ y)) (by intro a b c h1 h2; simp at h1 h2 ⊢; omega) (by intro a b; simp; omega) (zn l)).imp ?_
    intro a b h
    simpa using h
  · unfold zn
    rw [List.pairwise_map]
    exact (puts_sorted l [] List.Pairwise.nil).imp (fun h => by omega)
  · rw [Wan.compact_mem, List.mem_mergeSort]
    unfold zn
    rw [List.mem_map, List.mem_map]
    constructor
    · rintro ⟨n, hn, rfl⟩
      exact ⟨n, (puts_mem n l []).2 (.inr hn), rfl⟩
    · rintro ⟨n, hn, rfl⟩
      rcases (puts_mem n l []).1 hn with h | h
      · simp at h
      · exact ⟨n, h, rfl⟩

/-- whom a topic's levels fit, in the subs' order -/
def wls (T : List Sb) (t : List ByteArray) : List Nat := (T.filter fun x => fts (spl x.pat) t).map fun x => x.who.toNat

theorem wls_step (T : List Sb) (t : List ByteArray) (i : Nat) (h : i < T.length) : wls (T.take (i + 1)) t = wls (T.take i) t ++ if fts (spl (sb T i).pat) t then [(sb T i).who.toNat] else [] := by
  unfold wls
  rw [sb_take T i h, List.filter_append, List.map_append]
  congr 1
  by_cases hf : fts (spl (sb T i).pat) t = true
  · rw [if_pos hf]; simp [hf]
  · rw [if_neg hf]; simp [hf]

theorem wls_len (T : List Sb) (t : List ByteArray) (i : Nat) : (wls (T.take i) t).length ≤ i := by
  unfold wls
  rw [List.length_map]
  refine Nat.le_trans (List.length_filter_le _ _) ?_
  rw [List.length_take]
  omega

/-- what WhoGets tells -/
def wgo (T : List Sb) (t : ByteArray) : List Nat × Bool := if gsb T && gt t then (puts [] (wls T (spl t)), true) else ([], false)

theorem wgo_len (T : List Sb) (t : ByteArray) : (wgo T t).1.length ≤ 30 := by
  unfold wgo
  by_cases h : (gsb T && gt t) = true
  · rw [if_pos h]
    rw [Bool.and_eq_true] at h
    have h1 := puts_len (wls T (spl t)) []
    have h2 := wls_len T (spl t) T.length
    rw [List.take_length] at h2
    have h3 := (gsb_at h.1).2
    simp only [List.length_nil] at h1
    show (puts [] (wls T (spl t))).length ≤ 30
    omega
  · rw [if_neg h]; simp

end Tpc
end Go.Proofs.Ytecgjhnihagleaa
