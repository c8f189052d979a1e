/- Trees laid flat: where each part lies in the list of types, and that the list's tree is the tree again. -/
import Derived.Test.YtjaklpibjijkkaaSchA
namespace Go.Proofs.Ytjaklpibjijkkaa.Sch
open Plain

mutual
def Tr.size : Tr → Nat
  | .mk _ _ _ _ _ ks => sizeL ks + 1
def sizeL : List Tr → Nat
  | [] => 0
  | x :: l => x.size + sizeL l
end

mutual
/-- the types of a tree, the first of them a part of the type up, and with the number s -/
def flat : Tr → Int → Nat → List Ty
  | .mk k n no mu mo ks, up, s => ⟨k, n, no, mu, up, mo⟩ :: flatL ks s (s + 1)
def flatL : List Tr → Nat → Nat → List Ty
  | [], _, _ => []
  | x :: l, up, s => flat x up s ++ flatL l up (s + x.size)
end

theorem Tr.size_eq (t : Tr) : t.size = sizeL t.kids + 1 := by cases t; simp [Tr.size, Tr.kids]
theorem Tr.size_pos (t : Tr) : 0 < t.size := by rw [Tr.size_eq]; omega
theorem flat_eq (t : Tr) (up : Int) (s : Nat) : flat t up s = ⟨t.kind, t.name, t.no, t.must, up, t.most⟩ :: flatL t.kids s (s + 1) := by cases t; simp [flat, Tr.kids, Tr.kind, Tr.name, Tr.no, Tr.must, Tr.most]

mutual
theorem flat_len (t : Tr) (up : Int) (s : Nat) : (flat t up s).length = t.size := by
  cases t with
  | mk k n no mu mo ks => simp [flat, Tr.size, flatL_len ks]
theorem flatL_len (l : List Tr) (up s : Nat) : (flatL l up s).length = sizeL l := by
  cases l with
  | nil => simp [flatL, sizeL]
  | cons x l => simp [flatL, sizeL, flat_len x, flatL_len l]
end

theorem sizeL_mem : ∀ (l : List Tr) (x : Tr), x ∈ l → x.size ≤ sizeL l
  | y :: l, x, h => by
    rw [sizeL]
    rcases List.mem_cons.1 h with rfl | h
    · omega
    · have := sizeL_mem l x h; omega

/-- a piece of a list -/
def Seg (T : List Ty) (s : Nat) (L : List Ty) : Prop := ∃ a b, T = a ++ L ++ b ∧ a.length = s

theorem Seg.lt {T : List Ty} {s : Nat} {L : List Ty} (h : Seg T s L) : s + L.length ≤ T.length := by
  obtain ⟨a, b, rfl, rfl⟩ := h; simp

theorem Seg.head {T : List Ty} {s : Nat} {x : Ty} {L : List Ty} (h : Seg T s (x :: L)) : ty T s = x := by
  obtain ⟨a, b, rfl, rfl⟩ := h; simp [ty, List.getD]

theorem Seg.tail {T : List Ty} {s : Nat} {x : Ty} {L : List Ty} (h : Seg T s (x :: L)) : Seg T (s + 1) L := by
  obtain ⟨a, b, rfl, rfl⟩ := h; exact ⟨a ++ [x], b, by simp, by simp⟩

theorem Seg.left {T : List Ty} {s : Nat} {L M : List Ty} (h : Seg T s (L ++ M)) : Seg T s L := by
  obtain ⟨a, b, rfl, rfl⟩ := h; exact ⟨a, M ++ b, by simp, rfl⟩

theorem Seg.right {T : List Ty} {s : Nat} {L M : List Ty} (h : Seg T s (L ++ M)) : Seg T (s + L.length) M := by
  obtain ⟨a, b, rfl, rfl⟩ := h; exact ⟨a ++ L, b, by simp, by simp⟩

theorem Seg.whole (T : List Ty) : Seg T 0 T := ⟨[], [], by simp, rfl⟩

theorem seg_join {T : List Ty} {s : Nat} {L M : List Ty} (h : Seg T s L) (h2 : Seg T (s + L.length) M) : Seg T s (L ++ M) := by
  obtain ⟨a, b, rfl, rfl⟩ := h
  obtain ⟨a', b', e, hl⟩ := h2
  have h3 : a ++ L = a' := by
    rw [List.append_assoc a'] at e
    exact (List.append_inj e (by simp; omega)).1
  refine ⟨a, b', ?_, rfl⟩
  rw [e, ← h3]; simp

theorem seg_one {T : List Ty} {s : Nat} (h : s < T.length) : Seg T s [ty T s] := by
  refine ⟨T.take s, T.drop (s + 1), ?_, by simp; omega⟩
  rw [List.append_assoc]
  have e : [ty T s] ++ T.drop (s + 1) = T.drop s := by
    rw [List.drop_eq_getElem_cons h]; simp [ty, List.getD, List.getElem?_eq_getElem h]
  rw [e, List.take_append_drop]

mutual
/-- within a tree's piece each type is a part of one ahead, within -/
theorem flat_ups (T : List Ty) (t : Tr) (up : Int) (s : Nat) (h : Seg T s (flat t up s)) : ∀ j, s < j → j < s + t.size → (s : Int) ≤ (ty T j).up ∧ (ty T j).up < j := by
  cases t with
  | mk k n no mu mo ks =>
    intro j h1 h2
    rw [Tr.size] at h2
    rw [flat] at h
    exact flatL_ups T ks s (s + 1) h.tail (by omega) j (by omega) (by omega)
theorem flatL_ups (T : List Ty) (l : List Tr) (p s : Nat) (h : Seg T s (flatL l p s)) (hp : p < s) : ∀ j, s ≤ j → j < s + sizeL l → (p : Int) ≤ (ty T j).up ∧ (ty T j).up < j := by
  cases l with
  | nil => intro j h1 h2; simp [sizeL] at h2; omega
  | cons x l =>
    intro j h1 h2
    rw [flatL] at h
    rw [sizeL] at h2
    by_cases hj : j < s + x.size
    · by_cases hs : j = s
      · subst hs
        have := h.left
        rw [flat_eq] at this
        rw [this.head]
        show (p : Int) ≤ (p : Int) ∧ (p : Int) < _
        omega
      · have := flat_ups T x p s h.left j (by omega) hj
        omega
    · have hr := h.right
      rw [flat_len] at hr
      exact flatL_ups T l p (s + x.size) hr (by omega) j (by omega) (by omega)
end

mutual
theorem flat_chain (T : List Ty) (t : Tr) (up : Int) (s : Nat) (h : Seg T s (flat t up s)) : ∀ j, s ≤ j → j < s + t.size → s ∈ chain T j := by
  cases t with
  | mk k n no mu mo ks =>
    intro j h1 h2
    rw [Tr.size] at h2
    rw [flat] at h
    by_cases hs : j = s
    · subst hs; exact self_chain T j
    · exact flatL_chain T ks s (s + 1) h.tail (by omega) j (by omega) (by omega)
theorem flatL_chain (T : List Ty) (l : List Tr) (p s : Nat) (h : Seg T s (flatL l p s)) (hp : p < s) : ∀ j, s ≤ j → j < s + sizeL l → p ∈ chain T j := by
  cases l with
  | nil => intro j h1 h2; simp [sizeL] at h2; omega
  | cons x l =>
    intro j h1 h2
    rw [flatL] at h
    rw [sizeL] at h2
    by_cases hj : j < s + x.size
    · have h3 := flat_chain T x p s h.left j h1 hj
      have h4 : (ty T s).up = (p : Int) := by
        have := h.left
        rw [flat_eq] at this
        rw [this.head]
      refine chain_trans T p s j ?_ h3
      rw [chain_up T s (by omega), h4, Int.toNat_natCast]
      exact List.mem_cons_of_mem _ (self_chain T p)
    · have hr := h.right
      rw [flat_len] at hr
      exact flatL_chain T l p (s + x.size) hr (by omega) j (by omega) (by omega)
end

/-- where the parts begin -/
def starts : List Tr → Nat → List Nat
  | [], _ => []
  | x :: l, s => s :: starts l (s + x.size)

theorem starts_len : ∀ (l : List Tr) (s : Nat), (starts l s).length = l.length
  | [], _ => rfl
  | x :: l, s => by simp [starts, starts_len l]

theorem starts_ge : ∀ (l : List Tr) (s i : Nat), i ∈ starts l s → s ≤ i
  | x :: l, s, i, h => by
    rcases List.mem_cons.1 h with rfl | h
    · omega
    · have := starts_ge l _ i h; omega

theorem starts_lt : ∀ (l : List Tr) (s i : Nat), i ∈ starts l s → i < s + sizeL l
  | x :: l, s, i, h => by
    have := x.size_pos
    rw [sizeL]
    rcases List.mem_cons.1 h with rfl | h
    · omega
    · have := starts_lt l _ i h; omega

theorem starts_sorted : ∀ (l : List Tr) (s : Nat), (starts l s).Pairwise (· < ·)
  | [], _ => List.Pairwise.nil
  | x :: l, s => by
    rw [starts, List.pairwise_cons]
    refine ⟨fun j hj => ?_, starts_sorted l _⟩
    have h1 := starts_ge l _ j hj
    have h2 := x.size_pos
    omega

theorem mem_starts (T : List Ty) : ∀ (l : List Tr) (p s : Nat), Seg T s (flatL l p s) → p < s → ∀ i, i ∈ starts l s ↔ s ≤ i ∧ i < s + sizeL l ∧ (ty T i).up = (p : Int)
  | [], p, s, h, hp, i => by simp [starts, sizeL]; omega
  | x :: l, p, s, h, hp, i => by
    rw [flatL] at h
    have hr := h.right
    rw [flat_len] at hr
    have hps := x.size_pos
    have h4 : (ty T s).up = (p : Int) := by
      have := h.left
      rw [flat_eq] at this
      rw [this.head]
    have ih := mem_starts T l p (s + x.size) hr (by omega) i
    rw [starts, List.mem_cons, ih, sizeL]
    constructor
    · rintro (rfl | h)
      · exact ⟨by omega, by omega, h4⟩
      · exact ⟨by omega, by omega, h.2.2⟩
    · rintro ⟨h1, h2, h3⟩
      by_cases hs : i = s
      · exact .inl hs
      · refine .inr ⟨?_, by omega, h3⟩
        by_cases hlt : i < s + x.size
        · have := flat_ups T x p s h.left i (by omega) hlt
          omega
        · omega

theorem sorted_ext : ∀ (a b : List Nat), a.Pairwise (· < ·) → b.Pairwise (· < ·) → (∀ i, i ∈ a ↔ i ∈ b) → a = b
  | [], [], _, _, _ => rfl
  | [], y :: b, _, _, h => by have := (h y).2 (by simp); simp at this
  | x :: a, [], _, _, h => by have := (h x).1 (by simp); simp at this
  | x :: a, y :: b, ha, hb, h => by
    rw [List.pairwise_cons] at ha hb
    have hx : x = y := by
      have h1 := (h x).1 (by simp)
      have h2 := (h y).2 (by simp)
      rcases List.mem_cons.1 h1 with h1 | h1
      · exact h1
      · rcases List.mem_cons.1 h2 with h2 | h2
        · exact h2.symm
        · have := hb.1 x h1; have := ha.1 y h2; omega
    subst hx
    rw [sorted_ext a b ha.2 hb.2 (fun i => ?_)]
    constructor
    · intro hi
      rcases List.mem_cons.1 ((h i).1 (List.mem_cons_of_mem _ hi)) with h1 | h1
      · have := ha.1 i hi; omega
      · exact h1
    · intro hi
      rcases List.mem_cons.1 ((h i).2 (List.mem_cons_of_mem _ hi)) with h1 | h1
      · have := hb.1 i hi; omega
      · exact h1

theorem kids_sorted (T : List Ty) (k : Nat) : (kids T k).Pairwise (· < ·) := List.Pairwise.filter _ List.pairwise_lt_range

/-- what lies behind a piece is no part of it -/
def Out (T : List Ty) (s n : Nat) : Prop := ∀ j, s + n ≤ j → j < T.length → (ty T j).up < s ∨ ((s + n : Nat) : Int) ≤ (ty T j).up

theorem flat_kids (T : List Ty) (t : Tr) (up : Int) (s : Nat) (h : Seg T s (flat t up s)) (ho : Out T s t.size) : kids T s = starts t.kids (s + 1) := by
  rw [flat_eq] at h
  have hl := h.lt
  rw [List.length_cons, flatL_len] at hl
  have hz := t.size_eq
  refine sorted_ext _ _ (kids_sorted T s) (starts_sorted _ _) (fun i => ?_)
  rw [mem_kids, mem_starts T t.kids s (s + 1) h.tail (by omega)]
  constructor
  · rintro ⟨h1, h2, h3⟩
    refine ⟨by omega, ?_, h3⟩
    by_cases hi : s + t.size ≤ i
    · have := ho i hi h1; omega
    · omega
  · rintro ⟨h1, h2, h3⟩
    exact ⟨by omega, by omega, h3⟩

theorem out_tail {T : List Ty} {t : Tr} {s : Nat} (ho : Out T s t.size) : Out T (s + 1) (sizeL t.kids) := by
  intro j h1 h2
  have hz := t.size_eq
  have := ho j (by omega) h2
  omega

theorem flatL_in (T : List Ty) : ∀ (l : List Tr) (p s : Nat), Seg T s (flatL l p s) → p < s → ∀ j, s ≤ j → j < s + sizeL l → j ∉ starts l s → (s : Int) ≤ (ty T j).up
  | [], p, s, h, hp, j, h1, h2, hm => by simp [sizeL] at h2; omega
  | x :: l, p, s, h, hp, j, h1, h2, hm => by
    rw [flatL] at h
    have hr := h.right
    rw [flat_len] at hr
    rw [sizeL] at h2
    rw [starts, List.mem_cons, not_or] at hm
    by_cases hj : j < s + x.size
    · exact (flat_ups T x p s h.left j (by omega) hj).1
    · have := flatL_in T l p (s + x.size) hr (by omega) j (by omega) (by omega) hm.2
      omega

theorem out_left {T : List Ty} {x : Tr} {l : List Tr} {p s : Nat} (h : Seg T s (flatL (x :: l) p s)) (hp : p < s) (ho : Out T s (sizeL (x :: l))) : Out T s x.size := by
  intro j h1 h2
  rw [flatL] at h
  have hr := h.right
  rw [flat_len] at hr
  rw [sizeL] at ho
  by_cases hj : j < s + x.size + sizeL l
  · by_cases hm : j ∈ starts l (s + x.size)
    · have := ((mem_starts T l p (s + x.size) hr (by omega) j).1 hm).2.2
      omega
    · have := flatL_in T l p (s + x.size) hr (by omega) j (by omega) hj hm
      omega
  · have := ho j (by omega) h2
    omega
theorem out_right {T : List Ty} {x : Tr} {l : List Tr} {s : Nat} (ho : Out T s (sizeL (x :: l))) : Out T (s + x.size) (sizeL l) := by
  intro j h1 h2
  rw [sizeL] at ho
  have := ho j (by omega) h2
  omega

mutual
theorem flat_tree (T : List Ty) (t : Tr) (up : Int) (s f : Nat) (h : Seg T s (flat t up s)) (ho : Out T s t.size) (hf : t.size ≤ f) : tree T f s = t := by
  have hk := flat_kids T t up s h ho
  cases f with
  | zero => have := t.size_pos; omega
  | succ f =>
    rw [tree, hk]
    have ho' := out_tail ho
    cases t with
    | mk k n no mu mo ks =>
      rw [Tr.size] at hf
      rw [flat] at h
      rw [h.head]
      show Tr.mk k n no mu mo ((starts ks (s + 1)).map (tree T f)) = _
      rw [flatL_tree T ks s (s + 1) f h.tail (by omega) ho' (by omega)]
theorem flatL_tree (T : List Ty) (l : List Tr) (p s f : Nat) (h : Seg T s (flatL l p s)) (hp : p < s) (ho : Out T s (sizeL l)) (hf : sizeL l ≤ f) : (starts l s).map (tree T f) = l := by
  cases l with
  | nil => rfl
  | cons x l =>
    have ho1 := out_left h hp ho
    have ho2 := out_right ho
    rw [flatL] at h
    have hr := h.right
    rw [flat_len] at hr
    rw [sizeL] at hf
    rw [starts, List.map_cons, flat_tree T x p s f h.left ho1 (by omega), flatL_tree T l p (s + x.size) f hr (by omega) ho2 (by omega)]
end

/-- a tree laid flat is its own tree again -/
theorem tree_flat (t : Tr) (f : Nat) (hf : t.size ≤ f) : tree (flat t (-1) 0) f 0 = t :=
  flat_tree _ t (-1) 0 f (Seg.whole _) (fun j h1 h2 => by rw [flat_len] at h2; omega) hf

end Go.Proofs.Ytjaklpibjijkkaa.Sch
