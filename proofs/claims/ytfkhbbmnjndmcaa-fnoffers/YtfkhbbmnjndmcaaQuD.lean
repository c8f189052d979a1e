/- Queues: offers, hands, gaps, plays: on marks and on lists. -/
import Derived.Test.YtfkhbbmnjndmcaaQuA
namespace Go.Proofs.Ytfkhbbmnjndmcaa

namespace Qus
/-- put to its place in a rising list, once -/
def putZ (n : Int) : List Int → List Int
  | [] => [n]
  | x :: l => if x < n then x :: putZ n l else if x = n then x :: l else n :: x :: l

theorem putZ_mem (n x : Int) : ∀ l, x ∈ putZ n l ↔ x = n ∨ x ∈ l
  | [] => by simp [putZ]
  | y :: l => by
    unfold putZ
    split
    · rw [List.mem_cons, putZ_mem n x l, List.mem_cons]
      constructor
      · rintro (h | h | h)
        · exact .inr (.inl h)
        · exact .inl h
        · exact .inr (.inr h)
      · rintro (h | h | h)
        · exact .inr (.inl h)
        · exact .inl h
        · exact .inr (.inr h)
    · split
      · rename_i h1
        subst h1
        constructor
        · exact fun h => .inr h
        · rintro (h | h)
          · rw [h]; simp
          · exact h
      · simp

theorem putZ_sorted (n : Int) : ∀ l : List Int, l.Pairwise (· < ·) → (putZ n l).Pairwise (· < ·)
  | [], _ => by simp [putZ]
  | y :: l, h => by
    have h' := List.pairwise_cons.1 h
    unfold putZ
    split
    · rename_i h1
      refine List.Pairwise.cons (fun x hx => ?_) (putZ_sorted n l h'.2)
      rcases (putZ_mem n x l).1 hx with h2 | h2
      · omega
      · exact h'.1 x h2
    · split
      · exact h
      · refine List.Pairwise.cons (fun x hx => ?_) h
        rcases List.mem_cons.1 hx with h2 | h2
        · omega
        · have := h'.1 x h2; omega

/-- at its place -/
theorem putZ_at (n : Int) : ∀ (L : List Int) (k : Nat), (∀ j y, j < k → L[j]? = some y → y < n) → (k = L.length ∨ ∃ y, L[k]? = some y ∧ n < y) → k ≤ L.length → putZ n L = L.take k ++ n :: L.drop k
  | [], k, _, _, hk => by
    have : k = 0 := by simpa using hk
    subst this
    rfl
  | x :: L, 0, _, hd, _ => by
    rcases hd with hd | ⟨y, hy, hlt⟩
    · simp at hd
    · simp at hy
      subst hy
      rw [putZ, if_neg (by omega), if_neg (by omega)]
      rfl
  | x :: L, k + 1, hall, hd, hk => by
    have hx := hall 0 x (by omega) rfl
    rw [putZ, if_pos hx, putZ_at n L k (fun j y hj hy => hall (j + 1) y (by omega) (by simpa using hy)) ?_ (by simpa using hk)]
    · rfl
    · rcases hd with hd | ⟨y, hy, hlt⟩
      · left; simpa using hd
      · right; exact ⟨y, by simpa using hy, hlt⟩

/-- the first and the last place that has a; -1 where none has -/
def fstM (M : List Int) (a : Int) : Int := match al M a with | [] => -1 | x :: _ => x
def lstM (M : List Int) (a : Int) : Int := match (al M a).getLast? with | none => -1 | some x => x

theorem al_lt {M : List Int} {a n : Int} (h : n ∈ al M a) : 0 ≤ n ∧ n < M.length ∧ M.getD n.toNat 0 = a := by
  obtain ⟨i, hi, rfl, e⟩ := mem_al.1 h
  exact ⟨by omega, by omega, by simpa using e⟩

theorem fstM_nat (M : List Int) (a : Int) : (fstM M a = -1 ∧ al M a = []) ∨ ∃ i, i < M.length ∧ fstM M a = (i : Int) ∧ M.getD i 0 = a ∧ ∃ l, al M a = (i : Int) :: l := by
  unfold fstM
  cases h : al M a with
  | nil => exact .inl ⟨rfl, rfl⟩
  | cons x l =>
    obtain ⟨i, hi, rfl, e⟩ := mem_al.1 (show x ∈ al M a by rw [h]; simp)
    exact .inr ⟨i, hi, rfl, e, l, rfl⟩

theorem lstM_nat (M : List Int) (a : Int) : (lstM M a = -1 ∧ al M a = []) ∨ ∃ i, i < M.length ∧ lstM M a = (i : Int) ∧ M.getD i 0 = a ∧ (al M a).getLast? = some (i : Int) := by
  unfold lstM
  cases h : (al M a).getLast? with
  | none =>
    left
    exact ⟨rfl, by simpa using h⟩
  | some x =>
    obtain ⟨i, hi, rfl, e⟩ := mem_al.1 (List.mem_of_getLast? h)
    exact .inr ⟨i, hi, rfl, e, rfl⟩

/-- the first place: found by looking at each in turn -/
theorem fstM_eq {M : List Int} {a : Int} {k : Nat} (hk : M[k]? = some a) (h : ∀ j x, j < k → M[j]? = some x → x ≠ a) : fstM M a = (k : Int) := by
  have hkl := (List.getElem?_eq_some_iff.1 hk).1
  rcases fstM_nat M a with ⟨_, h2⟩ | ⟨i, hi, h2, h3, l, h4⟩
  · have : (k : Int) ∈ al M a := mem_al.2 ⟨k, hkl, rfl, by rw [List.getD_eq_getElem?_getD, hk]; rfl⟩
    rw [h2] at this
    simp at this
  · rw [h2]
    have hs := al_sorted M a
    have hm : (k : Int) ∈ al M a := mem_al.2 ⟨k, hkl, rfl, by rw [List.getD_eq_getElem?_getD, hk]; rfl⟩
    rw [h4] at hm hs
    rcases List.mem_cons.1 hm with h5 | h5
    · exact h5.symm
    · have h6 := (List.pairwise_cons.1 hs).1 _ h5
      have := h i a (by omega) (by rw [List.getElem?_eq_getElem hi]; rw [List.getD_eq_getElem?_getD, List.getElem?_eq_getElem hi] at h3; simpa using h3)
      exact absurd rfl this

theorem fstM_none {M : List Int} {a : Int} (h : ∀ j x, j < M.length → M[j]? = some x → x ≠ a) : fstM M a = -1 := by
  rcases fstM_nat M a with ⟨h1, _⟩ | ⟨i, hi, h2, h3, _⟩
  · exact h1
  · exact absurd rfl (h i a hi (by rw [List.getElem?_eq_getElem hi]; rw [List.getD_eq_getElem?_getD, List.getElem?_eq_getElem hi] at h3; simpa using h3))

theorem last_max : ∀ {l : List Int} {x y : Int}, l.Pairwise (· < ·) → l.getLast? = some x → y ∈ l → y ≤ x
  | [], _, _, _, h, _ => by simp at h
  | [a], x, y, _, h, hy => by
    simp at h hy
    omega
  | a :: b :: l, x, y, hs, h, hy => by
    have hs' := List.pairwise_cons.1 hs
    have h' : (b :: l).getLast? = some x := by simpa using h
    rcases List.mem_cons.1 hy with h1 | h1
    · have := hs'.1 x (List.mem_of_getLast? h')
      omega
    · exact last_max hs'.2 h' h1

theorem lstM_eq {M : List Int} {a : Int} {k : Nat} (hk : M[k]? = some a) (h : ∀ j x, k < j → M[j]? = some x → x ≠ a) : lstM M a = (k : Int) := by
  have hkl := (List.getElem?_eq_some_iff.1 hk).1
  have hm : (k : Int) ∈ al M a := mem_al.2 ⟨k, hkl, rfl, by rw [List.getD_eq_getElem?_getD, hk]; rfl⟩
  rcases lstM_nat M a with ⟨_, h2⟩ | ⟨i, hi, h2, h3, h4⟩
  · rw [h2] at hm
    simp at hm
  · rw [h2]
    have h5 := last_max (al_sorted M a) h4 hm
    by_cases e : k = i
    · rw [e]
    · have := h i a (by omega) (by rw [List.getElem?_eq_getElem hi]; rw [List.getD_eq_getElem?_getD, List.getElem?_eq_getElem hi] at h3; simpa using h3)
      exact absurd rfl this

theorem lstM_none {M : List Int} {a : Int} (h : ∀ (j : Nat) x, M[j]? = some x → x ≠ a) : lstM M a = -1 := by
  rcases lstM_nat M a with ⟨h1, _⟩ | ⟨i, hi, h2, h3, _⟩
  · exact h1
  · exact absurd rfl (h i a (by rw [List.getElem?_eq_getElem hi]; rw [List.getD_eq_getElem?_getD, List.getElem?_eq_getElem hi] at h3; simpa using h3))

/-- whom the rule drops -/
def dropN (r : Int) (M : List Int) : Int := if r = 1 then fstM M 1 else if r = 2 then lstM M 1 else M.length
/-- an offer; a hand: the marks, the number, whether it was told true -/
def ofM (c r : Int) (M : List Int) : List Int × Int × Bool :=
  if M.length = 100 then (M, 0, false)
  else if ((al M 1).length : Int) < c then (M ++ [1], -1, true)
  else ((M ++ [1]).set (dropN r M).toNat 3, dropN r M, true)
def hnM (M : List Int) : List Int × Int × Bool := if fstM M 1 < 0 then (M, 0, false) else (M.set (fstM M 1).toNat 2, fstM M 1, true)

/-- on lists -/
def ofL (q : Qu) : Qu × Int × Bool :=
  if q.next = 100 then (qz, 0, false)
  else if (q.wt.length : Int) < q.cap then (⟨q.cap, q.rule, q.next + 1, q.wt ++ [q.next], q.hd, q.dr⟩, -1, true)
  else if q.rule = 1 then (⟨q.cap, q.rule, q.next + 1, q.wt.drop 1 ++ [q.next], q.hd, putZ (q.wt.getD 0 0) q.dr⟩, q.wt.getD 0 0, true)
  else if q.rule = 2 then (⟨q.cap, q.rule, q.next + 1, q.wt.take (q.wt.length - 1) ++ [q.next], q.hd, putZ (q.wt.getD (q.wt.length - 1) 0) q.dr⟩, q.wt.getD (q.wt.length - 1) 0, true)
  else (⟨q.cap, q.rule, q.next + 1, q.wt, q.hd, putZ q.next q.dr⟩, q.next, true)
def hnL (q : Qu) : Qu × Int × Bool :=
  if q.wt.length = 0 then (qz, 0, false) else (⟨q.cap, q.rule, q.next, q.wt.drop 1, putZ (q.wt.getD 0 0) q.hd, q.dr⟩, q.wt.getD 0 0, true)

theorem al_app (M : List Int) (x a : Int) : al (M ++ [x]) a = al M a ++ if x = a then [(M.length : Int)] else [] := by
  unfold al
  rw [alF_append]
  congr 1
  simp [alF]

theorem al_set_in {M : List Int} {k : Nat} {a : Int} (hk : k < M.length) : al (M.set k a) a = putZ (k : Int) (al M a) :=
  rise_ext _ _ (al_sorted _ _) (putZ_sorted _ _ (al_sorted _ _)) fun n => by
    rw [putZ_mem, mem_al, mem_al]
    constructor
    · rintro ⟨i, hi, rfl, e⟩
      rw [List.length_set] at hi
      rw [getD_set M k i a hk] at e
      by_cases h : i = k
      · left; rw [h]
      · rw [if_neg h] at e
        exact .inr ⟨i, hi, rfl, e⟩
    · rintro (rfl | ⟨i, hi, rfl, e⟩)
      · exact ⟨k, by simpa using hk, rfl, by rw [getD_set M k k a hk, if_pos rfl]⟩
      · refine ⟨i, by simpa using hi, rfl, ?_⟩
        rw [getD_set M k i a hk]
        split
        · rfl
        · exact e

theorem al_set_out {M : List Int} {k : Nat} {a x : Int} (hk : k < M.length) (hx : x ≠ a) : al (M.set k x) a = (al M a).filter (fun n => n ≠ (k : Int)) :=
  rise_ext _ _ (al_sorted _ _) ((al_sorted _ _).filter _) fun n => by
    rw [List.mem_filter, mem_al, mem_al]
    constructor
    · rintro ⟨i, hi, rfl, e⟩
      rw [List.length_set] at hi
      rw [getD_set M k i x hk] at e
      by_cases h : i = k
      · rw [if_pos h] at e
        exact absurd e hx
      · rw [if_neg h] at e
        exact ⟨⟨i, hi, rfl, e⟩, by simp; omega⟩
    · rintro ⟨⟨i, hi, rfl, e⟩, hne⟩
      refine ⟨i, by simpa using hi, rfl, ?_⟩
      rw [getD_set M k i x hk, if_neg (by intro h; subst h; simp at hne)]
      exact e

theorem filter_not_mem {l : List Int} {k : Int} (h : k ∉ l) : l.filter (fun n => n ≠ k) = l := by
  rw [List.filter_eq_self]
  intro n hn
  simp
  intro e
  rw [e] at hn
  exact h hn

theorem filter_first {x : Int} {l : List Int} (h : (x :: l).Pairwise (· < ·)) : (x :: l).filter (fun n => n ≠ x) = l := by
  have h' := List.pairwise_cons.1 h
  rw [List.filter_cons, if_neg (by simp)]
  exact filter_not_mem fun hx => by have := h'.1 x hx; omega

theorem filter_last : ∀ {l : List Int} {x : Int}, l.Pairwise (· < ·) → l.getLast? = some x → l.filter (fun n => n ≠ x) = l.take (l.length - 1)
  | [], _, _, h => by simp at h
  | [a], x, _, h => by
    simp at h
    subst h
    simp
  | a :: b :: l, x, hs, h => by
    have hs' := List.pairwise_cons.1 hs
    have h' : (b :: l).getLast? = some x := by simpa using h
    have hax := hs'.1 x (List.mem_of_getLast? h')
    rw [List.filter_cons, if_pos (by simp; omega), filter_last hs'.2 h']
    simp

/-- marks are all told -/
structure GdM (c : Int) (M : List Int) : Prop where
  len : M.length ≤ 100
  room : ((al M 1).length : Int) ≤ c
  each : ∀ i, i < M.length → M.getD i 0 = 1 ∨ M.getD i 0 = 2 ∨ M.getD i 0 = 3

theorem getLast_getD {l : List Int} {x : Int} (h : l.getLast? = some x) : l.getD (l.length - 1) 0 = x := by
  rw [List.getLast?_eq_getElem?] at h
  rw [List.getD_eq_getElem?_getD, h]
  rfl

theorem app_getD (M : List Int) (x : Int) (i : Nat) (hi : i < M.length) : (M ++ [x]).getD i 0 = M.getD i 0 := by
  rw [List.getD_eq_getElem?_getD, List.getD_eq_getElem?_getD, List.getElem?_append_left hi]
theorem app_last (M : List Int) (x : Int) : (M ++ [x]).getD M.length 0 = x := by
  rw [List.getD_eq_getElem?_getD, List.getElem?_append_right (Nat.le_refl _)]
  simp

/-- where one is dropped: its place, its mark -/
theorem dropN_is {c r : Int} {M : List Int} (hc : 1 ≤ c) (hfull : ¬ (((al M 1).length : Int) < c)) : ∃ k, dropN r M = ((k : Nat) : Int) ∧ k < (M ++ [(1 : Int)]).length ∧ (M ++ [(1 : Int)]).getD k 0 = 1 := by
  have hne : al M 1 ≠ [] := fun e => by rw [e] at hfull; simp at hfull; omega
  unfold dropN
  by_cases h1 : r = 1
  · rw [if_pos h1]
    rcases fstM_nat M 1 with ⟨_, h⟩ | ⟨i, hi, h2, h3, _⟩
    · exact absurd h hne
    · exact ⟨i, h2, by simp; omega, by rw [app_getD M 1 i hi]; exact h3⟩
  · rw [if_neg h1]
    by_cases h2 : r = 2
    · rw [if_pos h2]
      rcases lstM_nat M 1 with ⟨_, h⟩ | ⟨i, hi, h2, h3, _⟩
      · exact absurd h hne
      · exact ⟨i, h2, by simp; omega, by rw [app_getD M 1 i hi]; exact h3⟩
    · rw [if_neg h2]
      exact ⟨M.length, rfl, by simp, app_last M 1⟩

theorem each_set {M : List Int} {k : Nat} {x : Int} (hk : k < M.length) (hx : x = 1 ∨ x = 2 ∨ x = 3) (h : ∀ i, i < M.length → M.getD i 0 = 1 ∨ M.getD i 0 = 2 ∨ M.getD i 0 = 3) : ∀ i, i < (M.set k x).length → (M.set k x).getD i 0 = 1 ∨ (M.set k x).getD i 0 = 2 ∨ (M.set k x).getD i 0 = 3 := fun i hi => by
  rw [getD_set M k i x hk]
  split
  · exact hx
  · exact h i (by simpa using hi)

theorem each_app {M : List Int} (h : ∀ i, i < M.length → M.getD i 0 = 1 ∨ M.getD i 0 = 2 ∨ M.getD i 0 = 3) : ∀ i, i < (M ++ [(1 : Int)]).length → (M ++ [(1 : Int)]).getD i 0 = 1 ∨ (M ++ [(1 : Int)]).getD i 0 = 2 ∨ (M ++ [(1 : Int)]).getD i 0 = 3 := fun i hi => by
  by_cases e : i < M.length
  · rw [app_getD M 1 i e]; exact h i e
  · have : i = M.length := by simp at hi; omega
    rw [this, app_last]
    exact .inl rfl

theorem len_filter_in {l : List Int} {k : Int} (hs : l.Pairwise (· < ·)) (hk : k ∈ l) : (l.filter (fun n => n ≠ k)).length + 1 = l.length := by
  induction l with
  | nil => simp at hk
  | cons x l ih =>
    have hs' := List.pairwise_cons.1 hs
    by_cases e : x = k
    · subst e
      rw [filter_first hs]
      rfl
    · rcases List.mem_cons.1 hk with h | h
      · exact absurd h.symm e
      · rw [List.filter_cons, if_pos (by simpa using e)]
        have := ih hs'.2 h
        simp only [List.length_cons]
        omega

theorem GdM.nil (c : Int) (hc : 1 ≤ c) : GdM c [] := ⟨by simp, by simp [al, alF]; omega, fun i hi => by simp at hi⟩

theorem GdM.ofM {c r : Int} {M : List Int} (h : GdM c M) (hc : 1 ≤ c) : GdM c (ofM c r M).1 := by
  unfold Qus.ofM
  by_cases h1 : M.length = 100
  · rw [if_pos h1]; exact h
  · rw [if_neg h1]
    have hlen := h.len
    by_cases h2 : ((al M 1).length : Int) < c
    · rw [if_pos h2]
      refine ⟨by simp; omega, ?_, each_app h.each⟩
      show ((al (M ++ [1]) 1).length : Int) ≤ c
      rw [al_app, if_pos rfl]
      simp
      omega
    · rw [if_neg h2]
      obtain ⟨k, hk, hkl, hk1⟩ := dropN_is hc h2
      rw [hk]
      refine ⟨by simp; omega, ?_, each_set (by simpa using hkl) (.inr (.inr rfl)) (each_app h.each)⟩
      show ((al ((M ++ [1]).set ((k : Int).toNat) 3) 1).length : Int) ≤ c
      rw [Int.toNat_natCast, al_set_out hkl (by decide)]
      have hm : (k : Int) ∈ al (M ++ [1]) 1 := mem_al.2 ⟨k, hkl, rfl, hk1⟩
      have := len_filter_in (al_sorted (M ++ [1]) 1) hm
      rw [al_app, if_pos rfl] at this ⊢
      have hroom := h.room
      rw [List.length_append, List.length_singleton] at this
      omega

theorem GdM.hnM {c : Int} {M : List Int} (h : GdM c M) : GdM c (hnM M).1 := by
  unfold Qus.hnM
  rcases fstM_nat M 1 with ⟨h1, _⟩ | ⟨i, hi, h1, h3, _⟩
  · rw [h1, if_pos (by decide)]; exact h
  · rw [h1, if_neg (by omega)]
    refine ⟨by simpa using h.len, ?_, each_set (by simpa using hi) (.inr (.inl rfl)) h.each⟩
    show ((al (M.set ((i : Int).toNat) 2) 1).length : Int) ≤ c
    rw [Int.toNat_natCast, al_set_out hi (by decide)]
    have := List.length_filter_le (fun n => decide (n ≠ (i : Int))) (al M 1)
    have := h.room
    omega

/-- on lists as on marks -/
theorem ofL_tq {c r : Int} {M : List Int} (hc : 1 ≤ c) : ofL (tq c r M) = if (ofM c r M).2.2 then (tq c r (ofM c r M).1, (ofM c r M).2.1, true) else (qz, 0, false) := by
  unfold ofL ofM
  by_cases h1 : M.length = 100
  · rw [if_pos h1, if_pos (by show (M.length : Int) = 100; omega)]
    rfl
  · rw [if_neg h1, if_neg (by show ¬ (M.length : Int) = 100; omega)]
    by_cases h2 : ((al M 1).length : Int) < c
    · rw [if_pos h2, if_pos (show (((tq c r M).wt.length : Nat) : Int) < (tq c r M).cap from h2)]
      simp only [if_true]
      unfold tq
      rw [al_app, al_app, al_app, if_pos rfl, if_neg (by decide), if_neg (by decide), List.append_nil, List.append_nil]
      simp
    · rw [if_neg h2, if_neg (show ¬ (((tq c r M).wt.length : Nat) : Int) < (tq c r M).cap from h2)]
      simp only [if_true]
      obtain ⟨k, hk, hkl, hk1⟩ := dropN_is hc h2
      have hne : al M 1 ≠ [] := fun e => by rw [e] at h2; simp at h2; omega
      rw [hk, Int.toNat_natCast]
      have e2 : al ((M ++ [1]).set k 3) 2 = al M 2 := by
        rw [al_set_out hkl (by decide), al_app, if_neg (by decide), List.append_nil]
        refine filter_not_mem fun hm => ?_
        obtain ⟨_, hlt, e⟩ := al_lt hm
        rw [Int.toNat_natCast] at e
        rw [app_getD M 1 k (by omega), e] at hk1
        simp at hk1
      have e3 : al ((M ++ [1]).set k 3) 3 = putZ (k : Int) (al M 3) := by
        rw [al_set_in hkl, al_app, if_neg (by decide), List.append_nil]
      have e1 : al ((M ++ [1]).set k 3) 1 = (al M 1 ++ [(M.length : Int)]).filter (fun n => n ≠ (k : Int)) := by
        rw [al_set_out hkl (by decide), al_app, if_pos rfl]
      have hs := al_sorted M 1
      have hin : ∀ i, i < M.length → ((al M 1 ++ [(M.length : Int)]).filter (fun n => n ≠ (i : Int))) = (al M 1).filter (fun n => n ≠ (i : Int)) ++ [(M.length : Int)] := fun i hi => by
        rw [List.filter_append]
        congr 1
        rw [List.filter_cons, if_pos (by simp; omega)]
        rfl
      unfold dropN at hk
      unfold tq
      rw [e1, e2, e3]
      by_cases r1 : r = 1
      · rw [if_pos r1] at hk
        rw [if_pos (show r = 1 from r1)]
        rcases fstM_nat M 1 with ⟨_, h⟩ | ⟨i, hi, h3, _, l, h5⟩
        · exact absurd h hne
        · have : k = i := by omega
          subst this
          rw [h5] at hs
          rw [hin k hi, h5, filter_first hs]
          simp
      · rw [if_neg r1] at hk
        rw [if_neg (show ¬ r = 1 from r1)]
        by_cases r2 : r = 2
        · rw [if_pos r2] at hk
          rw [if_pos (show r = 2 from r2)]
          rcases lstM_nat M 1 with ⟨_, h⟩ | ⟨i, hi, h3, _, h5⟩
          · exact absurd h hne
          · have : k = i := by omega
            subst this
            rw [hin k hi, filter_last hs h5]
            simp only [getLast_getD h5]
            simp
        · rw [if_neg r2] at hk
          rw [if_neg (show ¬ r = 2 from r2)]
          have hkM : k = M.length := by omega
          subst hkM
          have : (al M 1 ++ [(M.length : Int)]).filter (fun n => n ≠ (M.length : Int)) = al M 1 := by
            rw [List.filter_append, filter_not_mem (fun hm => by have := (al_lt hm).2.1; omega)]
            simp
          rw [this]
          simp

theorem hnL_tq {c r : Int} {M : List Int} : hnL (tq c r M) = if (hnM M).2.2 then (tq c r (hnM M).1, (hnM M).2.1, true) else (qz, 0, false) := by
  rcases fstM_nat M 1 with ⟨h1, h2⟩ | ⟨k, hk, h1, h3, l, h5⟩
  · have hn : hnM M = (M, 0, false) := by unfold hnM; rw [h1, if_pos (show (-1 : Int) < 0 by decide)]
    rw [hn]
    unfold hnL
    rw [if_pos (show (tq c r M).wt.length = 0 from by show (al M 1).length = 0; rw [h2]; rfl)]
    rfl
  · have hn : hnM M = (M.set k 2, (k : Int), true) := by unfold hnM; rw [h1, if_neg (show ¬ (k : Int) < 0 by omega), Int.toNat_natCast]
    rw [hn]
    unfold hnL
    rw [if_neg (show ¬ (tq c r M).wt.length = 0 from by show ¬ (al M 1).length = 0; rw [h5]; simp)]
    simp only [if_true]
    have hs := al_sorted M 1
    have e1 : al (M.set k 2) 1 = l := by
      rw [al_set_out hk (by decide), h5]
      rw [h5] at hs
      exact filter_first hs
    have e2 : al (M.set k 2) 2 = putZ (k : Int) (al M 2) := al_set_in hk
    have e3 : al (M.set k 2) 3 = al M 3 := by
      rw [al_set_out hk (by decide)]
      refine filter_not_mem fun hm => ?_
      obtain ⟨_, hlt, e⟩ := al_lt hm
      rw [Int.toNat_natCast, h3] at e
      simp at e
    unfold tq
    rw [e1, e2, e3, h5]
    simp

/-- what a good queue's marks are -/
theorem gq_gd {q : Qu} (h : gq q = true) : GdM q.cap (mq q) ∧ 1 ≤ q.cap ∧ q.cap ≤ 10 ∧ (1 ≤ q.rule ∧ q.rule ≤ 3) := by
  obtain ⟨h1, _, h3, h4, h5⟩ := gq_parts h
  unfold g1 okR at h1
  simp only [Bool.and_eq_true, decide_eq_true_eq] at h1
  refine ⟨⟨by omega, ?_, h4⟩, by omega, by omega, by omega⟩
  have : al (mq q) 1 = q.wt := by
    have e := congrArg Qu.wt h3
    exact e.symm
  rw [this]
  omega

/-- Offer and Hand of any queue -/
def ofQ (q : Qu) : Qu × Int × Bool := if gq q then ofL q else (qz, 0, false)
def hnQ (q : Qu) : Qu × Int × Bool := if gq q then hnL q else (qz, 0, false)

theorem ofQ_marks {q : Qu} (h : gq q = true) : ofQ q = if (ofM q.cap q.rule (mq q)).2.2 then (tq q.cap q.rule (ofM q.cap q.rule (mq q)).1, (ofM q.cap q.rule (mq q)).2.1, true) else (qz, 0, false) := by
  obtain ⟨_, hc, _, _⟩ := gq_gd h
  unfold ofQ
  rw [if_pos h]
  conv => lhs; rw [(gq_parts h).2.2.1]
  exact ofL_tq hc
theorem hnQ_marks {q : Qu} (h : gq q = true) : hnQ q = if (hnM (mq q)).2.2 then (tq q.cap q.rule (hnM (mq q)).1, (hnM (mq q)).2.1, true) else (qz, 0, false) := by
  unfold hnQ
  rw [if_pos h]
  conv => lhs; rw [(gq_parts h).2.2.1]
  exact hnL_tq

/-- WhereIs -/
def whQ (q : Qu) (no : Int) : Int × Bool := if gq q = true ∧ 0 ≤ no ∧ no < q.next then (if no ∈ q.wt then 1 else if no ∈ q.hd then 2 else 3, true) else (0, false)
theorem wh_mark {q : Qu} (h : gq q = true) {i : Nat} (hi : (i : Int) < q.next) : (if (i : Int) ∈ q.wt then (1 : Int) else if (i : Int) ∈ q.hd then 2 else 3) = (mq q).getD i 0 := by
  obtain ⟨_, _, h3, h4, h5⟩ := gq_parts h
  have hw : ∀ n : Nat, n < (mq q).length → ((n : Int) ∈ q.wt ↔ (mq q).getD n 0 = 1) := fun n hn => by
    have e : q.wt = al (mq q) 1 := congrArg Qu.wt h3
    rw [e, mem_al]
    constructor
    · rintro ⟨j, _, e1, e2⟩
      have : n = j := by omega
      rw [this]; exact e2
    · intro e2
      exact ⟨n, hn, rfl, e2⟩
  have hh : ∀ n : Nat, n < (mq q).length → ((n : Int) ∈ q.hd ↔ (mq q).getD n 0 = 2) := fun n hn => by
    have e : q.hd = al (mq q) 2 := congrArg Qu.hd h3
    rw [e, mem_al]
    constructor
    · rintro ⟨j, _, e1, e2⟩
      have : n = j := by omega
      rw [this]; exact e2
    · intro e2
      exact ⟨n, hn, rfl, e2⟩
  have hil : i < (mq q).length := by omega
  by_cases a : (i : Int) ∈ q.wt
  · rw [if_pos a, (hw i hil).1 a]
  · rw [if_neg a]
    by_cases b : (i : Int) ∈ q.hd
    · rw [if_pos b, (hh i hil).1 b]
    · rw [if_neg b]
      rcases h4 i hil with e | e | e
      · exact absurd ((hw i hil).2 e) a
      · exact absurd ((hh i hil).2 e) b
      · exact e.symm

/-- GapsIn -/
def gpQ (q : Qu) : Int × Bool := if gq q = true then (if q.hd.length = 0 then 0 else q.hd.getD (q.hd.length - 1) 0 + 1 - (q.hd.length : Int), true) else (0, false)
/-- marks from place p on cleared -/
def clr (M : List Int) (p : Nat) : List Int := M.take p ++ List.replicate (M.length - p) 0

theorem alF_len (a : Int) : ∀ (M : List Int) (k : Nat), (alF a k M).length = M.countP (· == a)
  | [], k => by simp [alF]
  | x :: M, k => by
    simp only [alF]
    by_cases h : x = a
    · rw [if_pos h, List.length_cons, alF_len a M, List.countP_cons_of_pos (by simpa using h)]
    · rw [if_neg h, alF_len a M, List.countP_cons_of_neg (by simpa using h)]
theorem al_len (M : List Int) (a : Int) : (al M a).length = M.countP (· == a) := alF_len a M 0

theorem count_three : ∀ (M : List Int), (∀ x ∈ M, x = 1 ∨ x = 2 ∨ x = 3) → M.countP (· == 1) + M.countP (· == 2) + M.countP (· == 3) = M.length
  | [], _ => by simp
  | x :: M, h => by
    have ih := count_three M fun y hy => h y (List.mem_cons_of_mem _ hy)
    rcases h x (by simp) with e | e | e
    all_goals
      subst e
      simp only [List.countP_cons, List.length_cons]
      simp
      omega

theorem gaps_eq {q : Qu} (h : gq q = true) : (((al (clr (mq q) (lstM (mq q) 2 + 1).toNat) 1).length + (al (clr (mq q) (lstM (mq q) 2 + 1).toNat) 3).length : Nat) : Int) = (if q.hd.length = 0 then 0 else q.hd.getD (q.hd.length - 1) 0 + 1 - (q.hd.length : Int)) := by
  obtain ⟨_, _, h3, h4, h5⟩ := gq_parts h
  have e : q.hd = al (mq q) 2 := congrArg Qu.hd h3
  rw [e, al_len, al_len]
  generalize mq q = M at *
  have hz : ∀ n : Nat, ∀ a : Int, a ≠ 0 → (List.replicate n (0 : Int)).countP (· == a) = 0 := fun n a ha => by
    rw [List.countP_eq_zero]
    intro x hx
    have := List.eq_of_mem_replicate hx
    subst this
    simpa using fun e => ha e.symm
  unfold clr
  rw [List.countP_append, List.countP_append, hz _ 1 (by decide), hz _ 3 (by decide)]
  rcases lstM_nat M 2 with ⟨h1, h2⟩ | ⟨i, hi, h1, h7, h8⟩
  · rw [h1, h2]
    simp
  · rw [h1, show ((i : Int) + 1).toNat = i + 1 by omega]
    have hne : ¬ (al M 2).length = 0 := fun e => by
      have : al M 2 = [] := List.length_eq_zero_iff.1 e
      rw [this] at h8
      simp at h8
    rw [if_neg hne, getLast_getD h8, al_len]
    have hdrop : (M.drop (i + 1)).countP (· == 2) = 0 := by
      rw [List.countP_eq_zero]
      intro x hx e
      simp at e
      subst e
      obtain ⟨j, hj, ej⟩ := List.getElem_of_mem hx
      rw [List.length_drop] at hj
      rw [List.getElem_drop] at ej
      have hm : ((i + 1 + j : Nat) : Int) ∈ al M 2 := mem_al.2 ⟨i + 1 + j, by omega, rfl, by rw [List.getD_eq_getElem?_getD, List.getElem?_eq_getElem (by omega), ej]; rfl⟩
      have := last_max (al_sorted M 2) h8 hm
      omega
    have h2 : M.countP (· == 2) = (M.take (i + 1)).countP (· == 2) := by
      conv => lhs; rw [← List.take_append_drop (i + 1) M]
      rw [List.countP_append, hdrop]
      rfl
    have h3 := count_three (M.take (i + 1)) fun x hx => by
      obtain ⟨j, hj, ej⟩ := List.getElem_of_mem (List.mem_of_mem_take hx)
      have := h4 j hj
      rw [List.getD_eq_getElem?_getD, List.getElem?_eq_getElem hj] at this
      simp at this
      rw [← ej]
      exact this
    rw [List.length_take, Nat.min_eq_left (by omega)] at h3
    rw [h2]
    omega

/-- plays -/
def stepP (c r : Int) (s : List Int × List Int) (b : Bool) : List Int × List Int :=
  let x := if b then ofM c r s.1 else hnM s.1
  (x.1, s.2 ++ [if x.2.2 then x.2.1 else -2])
def plP (c r : Int) (l : List Bool) : List Int × List Int := l.foldl (stepP c r) ([], [])
def okP (c r : Int) (l : List Bool) : Bool := okR c r && decide (l.length ≤ 200)
def plQ (c r : Int) (l : List Bool) : Qu := if okP c r l then tq c r (plP c r l).1 else qz
def plT (c r : Int) (l : List Bool) : List Int := if okP c r l then (plP c r l).2 else []

theorem plP_step (c r : Int) (l : List Bool) (k : Nat) (b : Bool) (h : l[k]? = some b) : plP c r (l.take (k + 1)) = stepP c r (plP c r (l.take k)) b := by
  unfold plP
  rw [List.take_add_one, h]
  simp [List.foldl_append]
theorem GdM.play {c r : Int} (hc : 1 ≤ c) (l : List Bool) : GdM c (plP c r l).1 := by
  unfold plP
  have key : ∀ (l : List Bool) (s : List Int × List Int), GdM c s.1 → GdM c (l.foldl (stepP c r) s).1 := by
    intro l
    induction l with
    | nil => exact fun s h => h
    | cons b l ih =>
      intro s h
      refine ih _ ?_
      unfold stepP
      cases b
      · exact h.hnM
      · exact h.ofM hc
  exact key l _ (GdM.nil c hc)
theorem plP_len (c r : Int) (l : List Bool) : (plP c r l).2.length = l.length := by
  unfold plP
  have key : ∀ (l : List Bool) (s : List Int × List Int), (l.foldl (stepP c r) s).2.length = s.2.length + l.length := by
    intro l
    induction l with
    | nil => intro s; simp
    | cons b l ih =>
      intro s
      rw [List.foldl_cons, ih]
      simp [stepP]
      omega
  simpa using key l ([], [])
/-- a queue told by marks is good -/
theorem tq_lens {c r : Int} {M : List Int} (h : GdM c M) : (tq c r M).wt.length ≤ 100 ∧ (tq c r M).hd.length ≤ 100 ∧ (tq c r M).dr.length ≤ 100 := by
  have := h.len
  have a := List.countP_le_length (p := (· == (1 : Int))) (l := M)
  have b := List.countP_le_length (p := (· == (2 : Int))) (l := M)
  have d := List.countP_le_length (p := (· == (3 : Int))) (l := M)
  show (al M 1).length ≤ 100 ∧ (al M 2).length ≤ 100 ∧ (al M 3).length ≤ 100
  rw [al_len, al_len, al_len]
  omega
end Qus

end Go.Proofs.Ytfkhbbmnjndmcaa
