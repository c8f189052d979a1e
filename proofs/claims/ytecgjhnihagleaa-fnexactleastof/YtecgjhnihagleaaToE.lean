/- Subs in plain words: who gets a topic, by putting each to its place or by sorting and cutting out what is alike. -/
import Derived.Test.YtecgjhnihagleaaToA
import Derived.Test.YtecgjhnihagleaaNsA
namespace Go.Proofs.Ytecgjhnihagleaa
open Plain

namespace Tpc

structure Sb where
  pat : ByteArray
  who : Int

instance : Inhabited Sb := ⟨⟨⟨#[]⟩, 0⟩⟩

def sb (T : List Sb) (i : Nat) : Sb := T.getD i ⟨⟨#[]⟩, 0⟩

theorem sb_at {T : List Sb} {i : Nat} (h : i < T.length) : T[i]? = some (sb T i) := by
  unfold sb
  rw [List.getD_eq_getElem?_getD, List.getElem?_eq_getElem h]
  rfl

theorem sb_mem {T : List Sb} {i : Nat} (h : i < T.length) : sb T i ∈ T := List.mem_of_getElem? (sb_at h)

theorem sb_of_mem {T : List Sb} {x : Sb} (h : x ∈ T) : ∃ i, i < T.length ∧ sb T i = x := by
  obtain ⟨i, hi, e⟩ := List.getElem_of_mem h
  refine ⟨i, hi, ?_⟩
  have := sb_at hi
  rw [List.getElem?_eq_getElem hi, e] at this
  exact (Option.some.inj this).symm

theorem sb_take (T : List Sb) (i : Nat) (h : i < T.length) : T.take (i + 1) = T.take i ++ [sb T i] := by
  rw [List.take_add_one, sb_at h]
  rfl

/-- a good sub -/
def okSb (x : Sb) : Bool := gp x.pat && (decide (0 ≤ x.who) && decide (x.who ≤ 100))
def gsb (T : List Sb) : Bool := T.all okSb && decide (T.length ≤ 30)

theorem gsb_no {T : List Sb} {i : Nat} (hi : i < T.length) (h : okSb (sb T i) = false) : gsb T = false := by
  rw [Bool.eq_false_iff]
  intro hh
  unfold gsb at hh
  simp only [Bool.and_eq_true, List.all_eq_true] at hh
  rw [hh.1 _ (sb_mem hi)] at h
  cases h

theorem gsb_end {T : List Sb} (h : ∀ i, i < T.length → okSb (sb T i) = true) : gsb T = decide (T.length ≤ 30) := by
  unfold gsb
  rw [List.all_eq_true.2 (fun x hx => by obtain ⟨i, hi, rfl⟩ := sb_of_mem hx; exact h i hi)]
  rfl

theorem gsb_at {T : List Sb} (h : gsb T = true) : (∀ i, i < T.length → okSb (sb T i) = true) ∧ T.length ≤ 30 := by
  unfold gsb at h
  simp only [Bool.and_eq_true, List.all_eq_true, decide_eq_true_eq] at h
  exact ⟨fun i hi => h.1 _ (sb_mem hi), h.2⟩

theorem okSb_iff (x : Sb) : okSb x = true ↔ gp x.pat = true ∧ 0 ≤ x.who ∧ x.who ≤ 100 := by
  unfold okSb
  simp only [Bool.and_eq_true, decide_eq_true_eq]

/-- v put to its place in a rising list, once -/
def put (v : Nat) : List Nat → List Nat
  | [] => [v]
  | x :: l => if x < v then x :: put v l else if x = v then x :: l else v :: x :: l

theorem put_mem (v x : Nat) : ∀ l, x ∈ put v l ↔ x = v ∨ x ∈ l
  | [] => by simp [put]
  | y :: l => by
    unfold put
    split
    · rw [List.mem_cons, put_mem v x l, List.mem_cons]
      constructor
      · rintro (h | h | h)
        · exact .inr (.inl h)
        · exact .inl h
        · exact .inr (.inr h)
      · rintro (h | h | h)
        · exact .inr (.inl h)
        · exact .inl h
        · exact .inr (.inr h)
    · split
      · rename_i h1 h2
        subst h2
        rw [List.mem_cons]
        constructor
        · intro h; exact .inr h
        · rintro (h | h)
          · exact .inl h
          · exact h
      · rw [List.mem_cons]

theorem put_sorted (v : Nat) : ∀ l : List Nat, l.Pairwise (· < ·) → (put v l).Pairwise (· < ·)
  | [], _ => by simp [put]
  | y :: l, h => by
    rw [List.pairwise_cons] at h
    unfold put
    split
    · rename_i h1
      rw [List.pairwise_cons]
      refine ⟨fun z hz => ?_, put_sorted v l h.2⟩
      rcases (put_mem v z l).1 hz with e | e
      · omega
      · exact h.1 z e
    · split
      · rw [List.pairwise_cons]; exact h
      · rw [List.pairwise_cons]
        refine ⟨fun z hz => ?_, by rw [List.pairwise_cons]; exact h⟩
        rcases List.mem_cons.1 hz with e | e
        · omega
        · have := h.1 z e; omega

theorem put_len (v : Nat) : ∀ l : List Nat, (put v l).length ≤ l.length + 1
  | [] => by simp [put]
  | y :: l => by
    have := put_len v l
    unfold put
    split
    · simp only [List.length_cons]; omega
    · split
      · simp
      · simp

theorem put_at (v : Nat) : ∀ (L : List Nat) (k : Nat), (∀ j y, j < k → L[j]? = some y → y < v) → (k = L.length ∨ ∃ y, L[k]? = some y ∧ v < y) → k ≤ L.length → put v L = L.take k ++ v :: L.drop k
  | [], k, _, _, hk => by
    have : k = 0 := by simpa using hk
    subst this
    rfl
  | x :: L, 0, _, hd, _ => by
    rcases hd with hd | ⟨y, hy, hlt⟩
    · simp at hd
    · simp at hy
      subst hy
      rw [put, if_neg (by omega), if_neg (by omega)]
      rfl
  | x :: L, k + 1, hall, hd, hk => by
    have hx : x < v := hall 0 x (by omega) rfl
    rw [put, if_pos hx, put_at v L k (fun j y hj hy => hall (j + 1) y (by omega) (by simpa using hy)) (by
      rcases hd with hd | ⟨y, hy, hlt⟩
      · left; simpa using hd
      · right; exact ⟨y, by simpa using hy, hlt⟩) (by simpa using hk)]
    rfl

theorem put_has (v : Nat) : ∀ (L : List Nat) (k : Nat), (∀ j y, j < k → L[j]? = some y → y < v) → L[k]? = some v → put v L = L
  | [], k, _, h => by simp at h
  | x :: L, 0, _, h => by
    simp at h
    subst h
    rw [put, if_neg (by omega), if_pos rfl]
  | x :: L, k + 1, hall, h => by
    have hx : x < v := hall 0 x (by omega) rfl
    rw [put, if_pos hx, put_has v L k (fun j y hj hy => hall (j + 1) y (by omega) (by simpa using hy)) (by simpa using h)]

/-- all put to their places -/
def puts : List Nat → List Nat → List Nat
  | out, [] => out
  | out, v :: l => puts (put v out) l

theorem puts_snoc (v : Nat) : ∀ (l out : List Nat), puts out (l ++ [v]) = put v (puts out l)
  | [], _ => rfl
  | x :: l, out => by rw [List.cons_append, puts, puts, puts_snoc v l]

theorem puts_mem (x : Nat) : ∀ (l out : List Nat), x ∈ puts out l ↔ x ∈ out ∨ x ∈ l
  | [], out => by simp [puts]
  | v :: l, out => by
    rw [puts, puts_mem x l, put_mem, List.mem_cons]
    constructor
    · rintro ((h | h) | h)
      · exact .inr (.inl h)
      · exact .inl h
      · exact .inr (.inr h)
    · rintro (h | h | h)
      · exact .inl (.inr h)
      · exact .inl (.inl h)
      · exact .inr h

theorem puts_sorted : ∀ (l out : List Nat), out.Pairwise (· < ·) → (puts out l).Pairwise (· < ·)
  | [], _, h => h
  | v :: l, _, h => puts_sorted l _ (put_sorted v _ h)

theorem puts_len : ∀ (l out : List Nat), (puts out l).length ≤ out.length + l.length
  | [], _ => by simp [puts]
  | v :: l, out => by
    have h1 := puts_len l (put v out)
    have h2 := put_len v out
    rw [puts, List.length_cons]
    omega

def zn (l : List Nat) : List Int := l.map fun (n : Nat) => (n : Int)

/-- sorted, and what is alike cut out -/
theorem sort_puts (l : List Nat) : Lib.compact ((zn l).mergeSort fun x y => decide (x ≤ y)) = zn (puts [] l) := by
  refine Wan.sorted_ext _ _ (Wan.compact_sorted _ ?_) ?_ (fun x => ?_)
  · refine (List.pairwise_mergeSort (le := fun x y => decide (x ≤ y)) (by intro a b c h1 h2; simp at h1 h2 ⊢; omega) (by intro a b; simp; omega) (zn l)).imp ?_
    intro a b h
    simpa using h
  · unfold zn
    rw [List.pairwise_map]
    exact (puts_sorted l [] List.Pairwise.nil).imp (fun h => by omega)
  · rw [Wan.compact_mem, List.mem_mergeSort]
    unfold zn
    rw [List.mem_map, List.mem_map]
    constructor
    · rintro ⟨n, hn, rfl⟩
      exact ⟨n, (puts_mem n l []).2 (.inr hn), rfl⟩
    · rintro ⟨n, hn, rfl⟩
      rcases (puts_mem n l []).1 hn with h | h
      · simp at h
      · exact ⟨n, h, rfl⟩

/-- whom a topic's levels fit, in the subs' order -/
def wls (T : List Sb) (t : List ByteArray) : List Nat := (T.filter fun x => fts (spl x.pat) t).map fun x => x.who.toNat

theorem wls_step (T : List Sb) (t : List ByteArray) (i : Nat) (h : i < T.length) : wls (T.take (i + 1)) t = wls (T.take i) t ++ if fts (spl (sb T i).pat) t then [(sb T i).who.toNat] else [] := by
  unfold wls
  rw [sb_take T i h, List.filter_append, List.map_append]
  congr 1
  by_cases hf : fts (spl (sb T i).pat) t = true
  · rw [if_pos hf]; simp [hf]
  · rw [if_neg hf]; simp [hf]

theorem wls_len (T : List Sb) (t : List ByteArray) (i : Nat) : (wls (T.take i) t).length ≤ i := by
  unfold wls
  rw [List.length_map]
  refine Nat.le_trans (List.length_filter_le _ _) ?_
  rw [List.length_take]
  omega

/-- what WhoGets tells -/
def wgo (T : List Sb) (t : ByteArray) : List Nat × Bool := if gsb T && gt t then (puts [] (wls T (spl t)), true) else ([], false)

theorem wgo_len (T : List Sb) (t : ByteArray) : (wgo T t).1.length ≤ 30 := by
  unfold wgo
  by_cases h : (gsb T && gt t) = true
  · rw [if_pos h]
    rw [Bool.and_eq_true] at h
    have h1 := puts_len (wls T (spl t)) []
    have h2 := wls_len T (spl t) T.length
    rw [List.take_length] at h2
    have h3 := (gsb_at h.1).2
    simp only [List.length_nil] at h1
    show (puts [] (wls T (spl t))).length ≤ 30
    omega
  · rw [if_neg h]; simp

end Tpc
end Go.Proofs.Ytecgjhnihagleaa
