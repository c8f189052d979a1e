/- The Nos of a filter: told by going through the numbers, and by sorting and cutting out what is alike. -/
import Derived.Test.YtecgjhnihagleaaWnB
import Derived.Lib.SlicesCompact
namespace Go.Proofs.Ytecgjhnihagleaa.Wan
open Plain Sch

/-- the Nos up to k that a want has -/
def nz (T : List Wa) (k : Nat) : List Int := ((List.range k).map (fun i => ((i + 1 : Nat) : Int))).filter (fun n => T.any (fun w => w.no == n))
def nosF (T : List Wa) : List Int × Bool := if gf T then (nz T 30, true) else ([], false)
def asks (T : List Wa) : List Int := (T.filter (fun w => isAsk w.kind)).map (·.no)

theorem nz_step (T : List Wa) (k : Nat) : nz T (k + 1) = nz T k ++ if T.any (fun w => w.no == ((k + 1 : Nat) : Int)) then [((k + 1 : Nat) : Int)] else [] := by
  unfold nz
  rw [List.range_succ, List.map_append, List.filter_append]
  congr 1
  simp only [List.map_cons, List.map_nil, List.filter_cons, List.filter_nil]

theorem nz_mem (T : List Wa) (k : Nat) (x : Int) : x ∈ nz T k ↔ (1 ≤ x ∧ x ≤ k) ∧ ∃ w ∈ T, w.no = x := by
  unfold nz
  rw [List.mem_filter, List.mem_map]
  constructor
  · rintro ⟨⟨i, hi, rfl⟩, h⟩
    rw [List.mem_range] at hi
    rw [List.any_eq_true] at h
    obtain ⟨w, hw, he⟩ := h
    exact ⟨by omega, w, hw, by simpa using he⟩
  · rintro ⟨⟨h1, h2⟩, w, hw, he⟩
    refine ⟨⟨(x - 1).toNat, by rw [List.mem_range]; omega, by omega⟩, ?_⟩
    rw [List.any_eq_true]
    exact ⟨w, hw, by simpa using he⟩

theorem nz_len (T : List Wa) (k : Nat) : (nz T k).length ≤ k := by
  unfold nz
  refine Nat.le_trans (List.length_filter_le _ _) ?_
  simp

theorem nz_sorted (T : List Wa) (k : Nat) : (nz T k).Pairwise (· < ·) := by
  unfold nz
  refine List.Pairwise.filter _ ?_
  rw [List.pairwise_map]
  exact List.pairwise_lt_range.imp (fun h => by omega)

theorem sorted_ext : ∀ (a b : List Int), a.Pairwise (· < ·) → b.Pairwise (· < ·) → (∀ x, x ∈ a ↔ x ∈ b) → a = b
  | [], [], _, _, _ => rfl
  | [], y :: b, _, _, h => absurd ((h y).2 (by simp)) (by simp)
  | x :: a, [], _, _, h => absurd ((h x).1 (by simp)) (by simp)
  | x :: a, y :: b, ha, hb, h => by
    rw [List.pairwise_cons] at ha hb
    have hxy : x = y := by
      have h1 := (h x).1 (by simp)
      have h2 := (h y).2 (by simp)
      rw [List.mem_cons] at h1 h2
      rcases h1 with h1 | h1
      · exact h1
      · rcases h2 with h2 | h2
        · exact h2.symm
        · have := hb.1 x h1
          have := ha.1 y h2
          omega
    subst hxy
    have : a = b := by
      refine sorted_ext a b ha.2 hb.2 (fun z => ?_)
      have hz := h z
      rw [List.mem_cons, List.mem_cons] at hz
      constructor
      · intro hm
        rcases hz.1 (.inr hm) with e | e
        · have := ha.1 z hm; omega
        · exact e
      · intro hm
        rcases hz.2 (.inr hm) with e | e
        · have := hb.1 z hm; omega
        · exact e
    rw [this]

theorem compact_mem (zs : List Int) (x : Int) : x ∈ Lib.compact zs ↔ x ∈ zs := by
  unfold Lib.compact Lib.compactUpTo
  rw [List.mem_map]
  constructor
  · rintro ⟨j, hj, rfl⟩
    rw [List.mem_filter, List.mem_range] at hj
    rw [getElem!_pos _ j (by simpa using hj.1)]
    simp
  · intro hx
    obtain ⟨j, hj, hje⟩ := List.getElem_of_mem hx
    have key : ∀ j, (hj : j < zs.length) → zs[j] = x → ∃ i, i < zs.length ∧ Lib.keeps zs.toArray i = true ∧ zs.toArray[i]! = x := by
      intro j
      induction j with
      | zero =>
        intro hj he
        exact ⟨0, hj, by simp [Lib.keeps], by rw [getElem!_pos _ 0 (by simpa using hj)]; simpa using he⟩
      | succ j ih =>
        intro hj he
        by_cases hp : zs[j]'(by omega) = x
        · exact ih (by omega) hp
        · refine ⟨j + 1, hj, ?_, by rw [getElem!_pos _ (j + 1) (by simpa using hj)]; simpa using he⟩
          unfold Lib.keeps
          rw [getElem!_pos _ (j + 1) (by simpa using hj), getElem!_pos _ (j + 1 - 1) (by simp; omega)]
          simp only [decide_eq_true_eq]
          right
          intro e
          apply hp
          simp at e he
          rw [← he, e]
    obtain ⟨i, hi, hk, he⟩ := key j hj hje
    exact ⟨i, by rw [List.mem_filter, List.mem_range]; exact ⟨hi, hk⟩, he⟩

theorem compact_sorted (zs : List Int) (h : zs.Pairwise (· ≤ ·)) : (Lib.compact zs).Pairwise (· < ·) := by
  unfold Lib.compact Lib.compactUpTo
  rw [List.pairwise_map]
  refine (List.pairwise_lt_range.filter _).imp_of_mem ?_
  intro i j hi hj hlt
  rw [List.mem_filter, List.mem_range] at hi hj
  have hle := List.pairwise_iff_getElem.1 h
  have hk := hj.2
  unfold Lib.keeps at hk
  rw [getElem!_pos _ j (by simpa using hj.1), getElem!_pos _ (j - 1) (by simp; omega)] at hk
  simp only [decide_eq_true_eq] at hk
  rw [getElem!_pos _ i (by simpa using hi.1), getElem!_pos _ j (by simpa using hj.1)]
  simp only [List.getElem_toArray] at hk ⊢
  have h1 : zs[i]'hi.1 ≤ zs[j - 1]'(by omega) := by
    by_cases e : i = j - 1
    · subst e; exact Int.le_refl _
    · exact hle i (j - 1) hi.1 (by omega) (by omega)
  have h2 : zs[j - 1]'(by omega) ≤ zs[j]'hj.1 := hle (j - 1) j (by omega) hj.1 (by omega)
  rcases hk with hk | hk
  · omega
  · have : zs[j]'hj.1 ≠ zs[j - 1]'(by omega) := hk
    omega

theorem okW_no {x : Wa} {i : Nat} (h : okW x i = true) : (isAsk x.kind = true ∧ 1 ≤ x.no ∧ x.no ≤ 30) ∨ (isAsk x.kind = false ∧ x.no = 0) := by
  unfold okW at h
  by_cases h1 : isAsk x.kind = true
  · rw [if_pos h1] at h
    simp only [okAsk, Bool.and_eq_true, decide_eq_true_eq] at h
    exact .inl ⟨h1, by omega, by omega⟩
  · have h1' : isAsk x.kind = false := by simpa using h1
    rw [if_neg h1] at h
    refine .inr ⟨h1', ?_⟩
    by_cases h2 : isBin x.kind = true
    · rw [if_pos h2] at h
      simp only [okBin, Bool.and_eq_true, decide_eq_true_eq] at h
      exact congrArg (fun x : Wa => x.no) h.1.1.1
    · rw [if_neg h2] at h
      by_cases h3 : isNot x.kind = true
      · rw [if_pos h3] at h
        simp only [okNot, Bool.and_eq_true, decide_eq_true_eq] at h
        exact congrArg (fun x : Wa => x.no) h.1.1
      · rw [if_neg h3] at h; cases h

theorem mem_ok {T : List Wa} (hg : gf T = true) {x : Wa} (hx : x ∈ T) : ∃ i, okW x i = true := by
  obtain ⟨i, hi, rfl⟩ := List.getElem_of_mem hx
  have := gf_ok hg i hi
  unfold wa at this
  rw [List.getD, List.getElem?_eq_getElem hi] at this
  exact ⟨i, this⟩

theorem asks_nz {T : List Wa} (hg : gf T = true) : Lib.compact ((asks T).mergeSort fun x y => decide (x ≤ y)) = nz T 30 := by
  refine sorted_ext _ _ (compact_sorted _ ?_) (nz_sorted T 30) (fun x => ?_)
  · have h := List.pairwise_mergeSort (le := fun (x y : Int) => decide (x ≤ y)) (by intro a b c; simp; omega) (by intro a b; simp; omega) (asks T)
    exact h.imp (fun h => by simpa using h)
  · rw [compact_mem, List.mem_mergeSort, nz_mem]
    unfold asks
    rw [List.mem_map]
    constructor
    · rintro ⟨w, hw, rfl⟩
      rw [List.mem_filter] at hw
      obtain ⟨i, hi⟩ := mem_ok hg hw.1
      rcases okW_no hi with h | h
      · exact ⟨⟨h.2.1, h.2.2⟩, w, hw.1, rfl⟩
      · rw [h.1] at hw; cases hw.2
    · rintro ⟨h1, w, hw, rfl⟩
      obtain ⟨i, hi⟩ := mem_ok hg hw
      refine ⟨w, ?_, rfl⟩
      rw [List.mem_filter]
      rcases okW_no hi with h | h
      · exact ⟨hw, h.1⟩
      · omega

theorem asks_step (T : List Wa) (i : Nat) (h : i < T.length) : asks (T.take (i + 1)) = asks (T.take i) ++ if isAsk (wa T i).kind then [(wa T i).no] else [] := by
  rw [take_snoc T i h]
  unfold asks
  rw [List.filter_append, List.map_append]
  congr 1
  by_cases hk : isAsk (wa T i).kind = true
  · rw [if_pos hk]; simp [hk]
  · rw [if_neg hk]; simp [hk]

theorem asks_len (T : List Wa) (i : Nat) : (asks (T.take i)).length ≤ i := by
  unfold asks
  rw [List.length_map]
  refine Nat.le_trans (List.length_filter_le _ _) ?_
  simp; omega

theorem asks_some {T : List Wa} (hg : gf T = true) : 0 < (asks T).length := by
  obtain ⟨h0, _⟩ := gf_len hg
  have hk := Wan.kind_cases (gf_ok hg 0 (by omega))
  have hx := gf_own hg 0 (by omega)
  have ha : isAsk (wa T 0).kind = true := by
    rcases hk with h | h | h
    · exact h
    · rw [own_bin h] at hx; have := hx (wa T 0).a (by simp); omega
    · rw [own_not h] at hx; have := hx (wa T 0).a (by simp); omega
  have hm : (wa T 0).no ∈ asks T := by
    unfold asks
    rw [List.mem_map]
    refine ⟨wa T 0, ?_, rfl⟩
    rw [List.mem_filter]
    refine ⟨?_, ha⟩
    unfold wa
    rw [List.getD, List.getElem?_eq_getElem (by omega)]
    exact List.getElem_mem _
  exact List.length_pos_of_mem hm

theorem any_step (T : List Wa) (i : Nat) (n : Int) (h : i < T.length) : (T.take (i + 1)).any (fun w => w.no == n) = ((T.take i).any (fun w => w.no == n) || (wa T i).no == n) := by
  rw [take_snoc T i h, List.any_append]
  simp

/-- the same as naturals -/
def nzN (T : List Wa) (k : Nat) : List Nat := ((List.range k).map (· + 1)).filter (fun n => T.any (fun w => w.no == (n : Int)))
def nosV (T : List Wa) : List Nat × Bool := if gf T then (nzN T 30, true) else ([], false)

theorem nz_nat (T : List Wa) (k : Nat) : nz T k = (nzN T k).map (fun (n : Nat) => (n : Int)) := by
  unfold nz nzN
  rw [List.filter_map, List.filter_map, List.map_map]
  rfl

theorem nosV_len (T : List Wa) : (nosV T).1.length ≤ 1000 := by
  unfold nosV
  by_cases h : gf T = true
  · rw [if_pos h]
    have h1 := nz_len T 30
    rw [nz_nat, List.length_map] at h1
    show (nzN T 30).length ≤ 1000
    omega
  · rw [if_neg h]; simp

end Go.Proofs.Ytecgjhnihagleaa.Wan
