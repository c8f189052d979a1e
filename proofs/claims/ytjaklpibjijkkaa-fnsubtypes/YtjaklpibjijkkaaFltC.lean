/- Names within trees; how deep a subtree is; what a tree tells as a schema. -/
import Derived.Test.YtjaklpibjijkkaaFltB
namespace Go.Proofs.Ytjaklpibjijkkaa.Sch
open Plain

mutual
/-- all names are short -/
def NmT : Tr → Prop
  | .mk _ n _ _ _ ks => n.size ≤ 10 ∧ NmL ks
def NmL : List Tr → Prop
  | [] => True
  | x :: l => NmT x ∧ NmL l
end

theorem NmL_iff : ∀ (l : List Tr), NmL l ↔ ∀ x ∈ l, NmT x
  | [] => by simp [NmL]
  | x :: l => by rw [NmL, NmL_iff l]; simp

theorem NmT_iff (t : Tr) : NmT t ↔ t.name.size ≤ 10 ∧ ∀ x ∈ t.kids, NmT x := by
  cases t with
  | mk k n no mu mo ks => rw [NmT, NmL_iff]; rfl

mutual
theorem flat_names (t : Tr) (up : Int) (s : Nat) (h : NmT t) : ∀ x ∈ flat t up s, x.name.size ≤ 10 := by
  cases t with
  | mk k n no mu mo ks =>
    rw [NmT] at h
    intro x hx
    rw [flat] at hx
    rcases List.mem_cons.1 hx with rfl | hx
    · exact h.1
    · exact flatL_names ks s (s + 1) h.2 x hx
theorem flatL_names (l : List Tr) (p s : Nat) (h : NmL l) : ∀ x ∈ flatL l p s, x.name.size ≤ 10 := by
  cases l with
  | nil => intro x hx; simp [flatL] at hx
  | cons y l =>
    rw [NmL] at h
    intro x hx
    rw [flatL] at hx
    rcases List.mem_append.1 hx with hx | hx
    · exact flat_names y p s h.1 x hx
    · exact flatL_names l p (s + y.size) h.2 x hx
end

theorem isName_size {n : ByteArray} (h : isName n = true) : n.size ≤ 10 := by
  unfold isName at h
  rw [decide_eq_true_eq] at h
  exact h.2.1

mutual
theorem gt_names (t : Tr) (hn : t.name.size ≤ 10) (h : GT t) : NmT t := by
  cases t with
  | mk k n no mu mo ks =>
    rw [GT] at h
    obtain ⟨_, hk, hl⟩ := h
    rw [NmT]
    refine ⟨hn, gtl_names ks (fun x hx => ?_) hl⟩
    have hh := hk.1 (fun e => by rw [e] at hx; simp at hx)
    unfold holds at hh
    simp at hh
    rcases hh with h4 | h5
    · obtain ⟨y, rfl, hy, _⟩ := hk.2.1 h4
      simp at hx
      subst hx
      rw [hy]; simp [ByteArray.size]
    · exact isName_size ((hk.2.2 h5).1 x hx).1
theorem gtl_names (l : List Tr) (hn : ∀ x ∈ l, x.name.size ≤ 10) (h : GTL l) : NmL l := by
  cases l with
  | nil => rw [NmL]; trivial
  | cons y l =>
    rw [GTL] at h
    rw [NmL]
    exact ⟨gt_names y (hn y (by simp)) h.1, gtl_names l (fun x hx => hn x (by simp [hx])) h.2⟩
end

theorem maxL_mono {α : Type} (l : List α) (F G : α → Nat) (h : ∀ x ∈ l, F x ≤ G x) : maxL (l.map F) ≤ maxL (l.map G) := by
  rw [maxL_le]
  intro y hy
  obtain ⟨x, hx, rfl⟩ := List.mem_map.1 hy
  exact Nat.le_trans (h x hx) ((maxL_le _ _).1 (Nat.le_refl _) _ (List.mem_map.2 ⟨x, hx, rfl⟩))

theorem deep_succ : ∀ (g : Nat) (t : Tr), deep g t ≤ deep (g + 1) t
  | 0, t => by rw [deep, deep]; omega
  | g + 1, t => by
    rw [deep, deep]
    have := maxL_mono t.kids (deep g) (deep (g + 1)) (fun x _ => deep_succ g x)
    omega

theorem deep_mono (t : Tr) (g n : Nat) : deep g t ≤ deep (g + n) t := by
  induction n with
  | zero => exact Nat.le_refl _
  | succ n ih => have := deep_succ (g + n) t; rw [← Nat.add_assoc]; omega

theorem deep_fuel (t : Tr) {g g' : Nat} (h : g ≤ g') : deep g t ≤ deep g' t := by
  have := deep_mono t g (g' - g)
  rwa [show g + (g' - g) = g' by omega] at this

/-- a subtree of a good schema is at most five deep -/
theorem tree_deep (T : List Ty) (h : gs T = true) (f g k : Nat) (hk : k < T.length) (hf : T.length ≤ f + k) : deep g (tree T f k) ≤ 5 := by
  obtain ⟨h1, _, hT, _, h5⟩ := gs_parts T h
  have hu := ups_of T (by omega) hT
  rw [deep_root T hu T.length T.length 5 (by omega) (by omega) (by omega)] at h5
  have hkk : (k = 0 ∧ (ty T 0).up < 0) ∨ (0 ≤ (ty T k).up ∧ (ty T k).up < k) := by
    by_cases h0 : k = 0
    · exact .inl ⟨h0, by have := hu.1; omega⟩
    · exact .inr (hu.2 k (by omega) hk)
  have := (deep_le T 5 f (g + T.length) k hf (by omega) hk hkk).2 (fun j hj _ => h5 j hj)
  have h2 := deep_fuel (tree T f k) (show g ≤ g + T.length by omega)
  omega

/-- as a whole: without name and number -/
def bareT (t : Tr) : Tr := .mk t.kind ⟨#[]⟩ 0 false t.most t.kids

theorem bare_size (t : Tr) : (bareT t).size = t.size := by rw [Tr.size_eq, Tr.size_eq]; rfl
theorem bare_deep (t : Tr) (g : Nat) : deep g (bareT t) = deep g t := by cases g <;> rfl
theorem bare_good (t : Tr) (h : GT t) : GT (bareT t) := by
  rw [GT_iff] at h ⊢
  exact h

/-- what a tree tells: a schema, where it is a good one -/
def tell (t : Tr) : List Ty × Bool := if gs (flat t (-1) 0) = true then (flat t (-1) 0, true) else ([], false)

theorem tell_yes (t : Tr) (h : gs (flat t (-1) 0) = true) : tell t = (flat t (-1) 0, true) := by unfold tell; rw [if_pos h]
theorem tell_no (t : Tr) (h : gs (flat t (-1) 0) = false) : tell t = ([], false) := by unfold tell; rw [if_neg (by simp [h])]

theorem sub_good (T : List Ty) (h : gs T = true) (f k : Nat) (hk : k < T.length) (hf : T.length ≤ f + k) (h5 : (ty T k).kind = 5) : gs (flat (bareT (tree T f k)) (-1) 0) = true := by
  have hg := tree_good T h f k hk hf
  have hz := tree_size T h f k hk hf
  have h30 := (gs_parts T h).2.1
  refine gs_flat _ (bare_good _ hg) ⟨?_, rfl, rfl, rfl⟩ (by rw [bare_size]; omega) (by rw [bare_deep]; exact tree_deep T h f _ k hk hf)
  show (tree T f k).kind = 5
  cases f <;> exact h5

end Go.Proofs.Ytjaklpibjijkkaa.Sch
