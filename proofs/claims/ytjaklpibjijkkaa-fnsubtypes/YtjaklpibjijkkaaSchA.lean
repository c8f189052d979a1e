/- Schemas as lists of types: what a good one is, told in two ways, and that both tell the same. -/
import Derived.Laws.Bits128
import Derived.Test.YtjaklpibjijkkaaPlain
namespace Go.Proofs.Ytjaklpibjijkkaa.Sch
open Plain

structure Ty where
  kind : Int
  name : ByteArray
  no : Int
  must : Bool
  up : Int
  most : Int

instance : Inhabited Ty := ⟨⟨0, ⟨#[]⟩, 0, false, -1, 0⟩⟩

def ty (T : List Ty) (i : Nat) : Ty := T.getD i default

def holds (k : Int) : Bool := decide (k = 4) || decide (k = 5)

def isName (n : ByteArray) : Bool := decide (1 ≤ n.size ∧ n.size ≤ 10 ∧ ∀ i, i < n.size → 97 ≤ bt n i ∧ bt n i ≤ 122)

/-- the type and all that it is in, upwards -/
def chain (T : List Ty) (k : Nat) : List Nat :=
  k :: (if _h : 0 ≤ (ty T k).up ∧ (ty T k).up < k then chain T (ty T k).up.toNat else [])
termination_by k
decreasing_by omega

theorem chain_le (T : List Ty) (k j : Nat) (h : j ∈ chain T k) : j ≤ k := by
  induction k using Nat.strongRecOn with
  | ind k ih =>
    rw [chain] at h
    rcases List.mem_cons.1 h with h | h
    · omega
    · split at h
      · have := ih _ (by omega) h; omega
      · simp at h

theorem self_chain (T : List Ty) (k : Nat) : k ∈ chain T k := by rw [chain]; simp

theorem chain_up (T : List Ty) (k : Nat) (h : 0 ≤ (ty T k).up ∧ (ty T k).up < k) : chain T k = k :: chain T (ty T k).up.toNat := by
  rw [chain, dif_pos h]

theorem chain_top (T : List Ty) (k : Nat) (h : (ty T k).up < 0) : chain T k = [k] := by
  rw [chain, dif_neg (by omega)]

/-- how many lists and messages the type is in, itself among them -/
def deepAt (T : List Ty) (k : Nat) : Nat := ((chain T k).filter fun j => holds (ty T j).kind).length

def kids (T : List Ty) (k : Nat) : List Nat := (List.range T.length).filter fun i => decide (k < i) && decide ((ty T i).up = (k : Int))

theorem mem_kids (T : List Ty) (k i : Nat) : i ∈ kids T k ↔ i < T.length ∧ k < i ∧ (ty T i).up = (k : Int) := by
  unfold kids; simp

inductive Tr where
  | mk (kind : Int) (name : ByteArray) (no : Int) (must : Bool) (most : Int) (kids : List Tr)

def Tr.kids : Tr → List Tr | .mk _ _ _ _ _ k => k
def Tr.kind : Tr → Int | .mk k _ _ _ _ _ => k
def Tr.name : Tr → ByteArray | .mk _ n _ _ _ _ => n
def Tr.no : Tr → Int | .mk _ _ n _ _ _ => n
def Tr.must : Tr → Bool | .mk _ _ _ m _ _ => m
def Tr.most : Tr → Int | .mk _ _ _ _ m _ => m

/-- the tree of a type, at most f deep -/
def tree (T : List Ty) : Nat → Nat → Tr
  | 0, k => .mk (ty T k).kind (ty T k).name (ty T k).no (ty T k).must (ty T k).most []
  | f + 1, k => .mk (ty T k).kind (ty T k).name (ty T k).no (ty T k).must (ty T k).most ((kids T k).map (tree T f))

def maxL (l : List Nat) : Nat := l.foldl max 0

theorem foldl_max (l : List Nat) (a : Nat) : l.foldl max a = max a (maxL l) := by
  unfold maxL
  induction l generalizing a with
  | nil => simp
  | cons x l ih => rw [List.foldl_cons, ih, List.foldl_cons, ih (max 0 x)]; omega

theorem maxL_le (l : List Nat) (D : Nat) : maxL l ≤ D ↔ ∀ x ∈ l, x ≤ D := by
  unfold maxL
  induction l with
  | nil => simp
  | cons x l ih =>
    rw [List.foldl_cons, foldl_max]
    unfold maxL
    constructor
    · intro h y hy
      rcases List.mem_cons.1 hy with rfl | hy
      · omega
      · exact (ih.1 (by omega)) y hy
    · intro h
      have h1 := h x (by simp)
      have h2 := ih.2 (fun y hy => h y (by simp [hy]))
      omega

/-- how deep a tree is, at most f steps looked at -/
def deep : Nat → Tr → Nat
  | 0, t => if holds t.kind then 1 else 0
  | f + 1, t => maxL (t.kids.map (deep f)) + (if holds t.kind then 1 else 0)

def h1 (T : List Ty) (k : Nat) : Nat := if holds (ty T k).kind then 1 else 0

/-- all types but the first are parts of one ahead -/
def Ups (T : List Ty) : Prop := (ty T 0).up = -1 ∧ ∀ i, 0 < i → i < T.length → 0 ≤ (ty T i).up ∧ (ty T i).up < i

theorem deepAt_up (T : List Ty) (k : Nat) (h : 0 ≤ (ty T k).up ∧ (ty T k).up < k) : deepAt T k = h1 T k + deepAt T (ty T k).up.toNat := by
  unfold deepAt h1
  rw [chain_up T k h, List.filter_cons]
  split <;> simp <;> omega

theorem deepAt_top (T : List Ty) (k : Nat) (h : (ty T k).up < 0) : deepAt T k = h1 T k := by
  unfold deepAt h1
  rw [chain_top T k h, List.filter_cons]
  split <;> simp

theorem root_chain (T : List Ty) (hu : Ups T) (j : Nat) (hj : j < T.length) : 0 ∈ chain T j := by
  induction j using Nat.strongRecOn with
  | ind j ih =>
    by_cases h0 : j = 0
    · subst h0; exact self_chain T 0
    · have h := hu.2 j (by omega) hj
      rw [chain_up T j h]
      exact List.mem_cons_of_mem _ (ih _ (by omega) (by omega))

/-- what is in a type is it, or in one of its parts -/
theorem chain_split (T : List Ty) (k j : Nat) (hj : j < T.length) (h : k ∈ chain T j) (hne : j ≠ k) : ∃ c ∈ kids T k, c ∈ chain T j := by
  induction j using Nat.strongRecOn with
  | ind j ih =>
    rw [chain] at h
    rcases List.mem_cons.1 h with h | h
    · omega
    · split at h
      · rename_i hu
        by_cases he : (ty T j).up.toNat = k
        · refine ⟨j, (mem_kids T k j).2 ⟨hj, by omega, by omega⟩, self_chain T j⟩
        · obtain ⟨c, hc1, hc2⟩ := ih _ (by omega) (by omega) h he
          exact ⟨c, hc1, by rw [chain_up T j hu]; exact List.mem_cons_of_mem _ hc2⟩
      · simp at h

theorem chain_trans (T : List Ty) (k c j : Nat) (h1 : k ∈ chain T c) (h2 : c ∈ chain T j) : k ∈ chain T j := by
  induction j using Nat.strongRecOn with
  | ind j ih =>
    rw [chain] at h2
    rcases List.mem_cons.1 h2 with h | h
    · subst h; exact h1
    · split at h
      · rename_i hu
        rw [chain_up T j hu]
        exact List.mem_cons_of_mem _ (ih _ (by omega) h)
      · simp at h

theorem kid_chain (T : List Ty) (k c : Nat) (h : c ∈ kids T k) : k ∈ chain T c := by
  obtain ⟨h1, h2, h3⟩ := (mem_kids T k c).1 h
  rw [chain_up T c (by omega)]
  have : (ty T c).up.toNat = k := by omega
  rw [this]
  exact List.mem_cons_of_mem _ (self_chain T k)

theorem deep_mk (T : List Ty) (f g k : Nat) : deep (g + 1) (tree T (f + 1) k) = maxL ((kids T k).map fun c => deep g (tree T f c)) + h1 T k := by
  show maxL ((tree T (f + 1) k).kids.map (deep g)) + (if holds (tree T (f + 1) k).kind then 1 else 0) = _
  have e1 : (tree T (f + 1) k).kids = (kids T k).map (tree T f) := rfl
  have e2 : (tree T (f + 1) k).kind = (ty T k).kind := rfl
  rw [e1, e2, List.map_map]
  rfl

/-- the tree's depth is told by what is in it -/
theorem deep_le (T : List Ty) (D : Nat) : ∀ (f g k : Nat), T.length ≤ f + k → T.length ≤ g + k → k < T.length → ((k = 0 ∧ (ty T 0).up < 0) ∨ (0 ≤ (ty T k).up ∧ (ty T k).up < k)) →
    (deep g (tree T f k) + (deepAt T k - h1 T k) ≤ D ↔ ∀ j, j < T.length → k ∈ chain T j → deepAt T j ≤ D) := by
  intro f
  induction f with
  | zero => intro g k h; omega
  | succ f ih =>
    intro g k hf hg hk hk0
    cases g with
    | zero => omega
    | succ g =>
      rw [deep_mk]
      have hdk : h1 T k ≤ deepAt T k := by
        rcases hk0 with ⟨rfl, h⟩ | h
        · rw [deepAt_top T 0 h]; omega
        · rw [deepAt_up T k h]; omega
      have hkid : ∀ c ∈ kids T k, (deep g (tree T f c) + deepAt T k ≤ D ↔ ∀ j, j < T.length → c ∈ chain T j → deepAt T j ≤ D) := by
        intro c hc
        obtain ⟨a1, a2, a3⟩ := (mem_kids T k c).1 hc
        have := ih g c (by omega) (by omega) a1 (.inr (by omega))
        rw [deepAt_up T c (by omega)] at this
        have e : (ty T c).up.toNat = k := by omega
        rw [e, show h1 T c + deepAt T k - h1 T c = deepAt T k by omega] at this
        exact this
      constructor
      · intro h j hj hkj
        by_cases he : j = k
        · subst he; omega
        · obtain ⟨c, hc1, hc2⟩ := chain_split T k j hj hkj he
          refine (hkid c hc1).1 ?_ j hj hc2
          have := (maxL_le ((kids T k).map fun c => deep g (tree T f c)) (D - deepAt T k)).1 (by omega) (deep g (tree T f c)) (List.mem_map.2 ⟨c, hc1, rfl⟩)
          omega
      · intro h
        have hk' := h k hk (self_chain T k)
        have := (maxL_le ((kids T k).map fun c => deep g (tree T f c)) (D - deepAt T k)).2 (by
          intro x hx
          obtain ⟨c, hc, rfl⟩ := List.mem_map.1 hx
          have := (hkid c hc).2 (fun j hj hcj => h j hj (chain_trans T k c j (kid_chain T k c hc) hcj))
          omega)
        omega

theorem deep_root (T : List Ty) (hu : Ups T) (f g D : Nat) (hf : T.length ≤ f) (hg : T.length ≤ g) (h0 : 0 < T.length) :
    deep g (tree T f 0) ≤ D ↔ ∀ j, j < T.length → deepAt T j ≤ D := by
  have h := deep_le T D f g 0 (by omega) (by omega) h0 (.inl ⟨rfl, by have := hu.1; omega⟩)
  rw [deepAt_top T 0 (by have := hu.1; omega), show h1 T 0 - h1 T 0 = 0 by omega, Nat.add_zero] at h
  rw [h]
  exact ⟨fun h j hj => h j hj (root_chain T hu j hj), fun h j hj _ => h j hj⟩

def okKind (t : Ty) : Bool := decide (1 ≤ t.kind) && decide (t.kind ≤ 5) && (if t.kind = 3 then decide (0 ≤ t.most) && decide (t.most ≤ 20) else decide (t.most = 0))

def firstOk (t : Ty) : Bool := decide (t.kind = 5) && decide (t.up = -1) && decide (t.name = ⟨#[]⟩) && decide (t.no = 0) && !t.must

def bare (t : Ty) : Bool := decide (t.name = ⟨#[]⟩) && decide (t.no = 0) && !t.must

/-- no sister ahead has as great a number, or the name -/
def sisBad (T : List Ty) (i k : Nat) : Bool := decide ((ty T k).up = (ty T i).up) && (decide ((ty T i).no ≤ (ty T k).no) || decide ((ty T k).name = (ty T i).name))
def sis (T : List Ty) (i : Nat) : Bool := decide (∀ k, k < i → sisBad T i k = false)

def partOk (T : List Ty) (i : Nat) : Bool :=
  decide (0 ≤ (ty T i).up) && decide ((ty T i).up < i) && holds (ty T (ty T i).up.toNat).kind && decide ((ty T i).up.toNat ∈ chain T (i - 1)) &&
    (if (ty T (ty T i).up.toNat).kind = 4 then bare (ty T i) else isName (ty T i).name && decide (1 ≤ (ty T i).no) && decide ((ty T i).no ≤ 30) && sis T i)

def typeOk (T : List Ty) (i : Nat) : Bool := okKind (ty T i) && (if i = 0 then firstOk (ty T 0) else partOk T i)

/-- as the model tells it -/
def gs (T : List Ty) : Bool :=
  decide (1 ≤ T.length) && decide (T.length ≤ 30) && (List.range T.length).all (typeOk T) &&
    ((List.range T.length).all fun i => if (ty T i).kind = 4 then decide ((kids T i).length = 1) else true) && decide (deep T.length (tree T T.length 0) ≤ 5)

def typeOkI (T : List Ty) (i : Nat) : Bool := typeOk T i && decide (deepAt T i ≤ 5) && (if (ty T (ty T i).up.toNat).kind = 4 then decide ((i : Int) = (ty T i).up + 1) else true)

/-- as the program tells it -/
def gsI (T : List Ty) : Bool :=
  decide (1 ≤ T.length) && decide (T.length ≤ 30) && typeOk T 0 && ((List.range T.length).all fun i => if i = 0 then true else typeOkI T i) &&
    ((List.range T.length).all fun i => if (ty T i).kind = 4 then decide (i + 1 < T.length) && decide ((ty T (i + 1)).up = i) else true)

theorem ups_of (T : List Ty) (h0 : 0 < T.length) (h : ∀ i, i < T.length → typeOk T i = true) : Ups T := by
  constructor
  · have := h 0 h0
    unfold typeOk firstOk at this
    rw [if_pos rfl] at this
    simp only [Bool.and_eq_true, decide_eq_true_eq] at this
    exact this.2.1.1.1.2
  · intro i hi hl
    have := h i hl
    unfold typeOk partOk at this
    rw [if_neg (by omega)] at this
    simp only [Bool.and_eq_true, decide_eq_true_eq] at this
    exact ⟨this.2.1.1.1.1, this.2.1.1.1.2⟩

theorem part_chain (T : List Ty) (i : Nat) (hi : 0 < i) (h : typeOk T i = true) : 0 ≤ (ty T i).up ∧ (ty T i).up < i ∧ (ty T i).up.toNat ∈ chain T (i - 1) := by
  unfold typeOk partOk at h
  rw [if_neg (by omega)] at h
  simp only [Bool.and_eq_true, decide_eq_true_eq] at h
  exact ⟨h.2.1.1.1.1, h.2.1.1.1.2, h.2.1.2⟩

/-- a type with a part has one right behind it -/
theorem first_kid (T : List Ty) (h : ∀ i, i < T.length → typeOk T i = true) (i j : Nat) (hij : j ∈ kids T i) : i + 1 ∈ kids T i := by
  obtain ⟨j1, j2, j3⟩ := (mem_kids T i j).1 hij
  by_cases hc : i + 1 ∈ kids T i
  · exact hc
  exfalso
  have key : ∀ m, i < m → m < T.length → i ∈ chain T m → ∃ c ∈ kids T i, c ≤ m := by
    intro m hm hml hmem
    obtain ⟨c, c1, c2⟩ := chain_split T i m hml hmem (by omega)
    exact ⟨c, c1, chain_le T m c c2⟩
  have : ∀ m, m ∉ kids T i := by
    intro m
    induction m using Nat.strongRecOn with
    | ind m ih =>
      intro hm
      obtain ⟨m1, m2, m3⟩ := (mem_kids T i m).1 hm
      have hne : m ≠ i + 1 := fun e => hc (e ▸ hm)
      have hp := part_chain T m (by omega) (h m m1)
      have e : (ty T m).up.toNat = i := by omega
      rw [e] at hp
      obtain ⟨c, c1, c2⟩ := key (m - 1) (by omega) (by omega) hp.2.2
      exact ih c (by omega) c1
  exact this j hij

theorem kids_nodup (T : List Ty) (i : Nat) : (kids T i).Nodup := List.Pairwise.filter _ List.nodup_range

theorem len_one {l : List Nat} {a : Nat} (hn : l.Nodup) (ha : a ∈ l) (h : ∀ x ∈ l, x = a) : l.length = 1 := by
  match l, hn, ha, h with
  | [x], _, _, _ => rfl
  | x :: y :: l, hn, _, h =>
    have h1 := h x (by simp)
    have h2 := h y (by simp)
    rw [List.nodup_cons] at hn
    exact absurd (by simp [h1, h2]) hn.1

theorem gs_eq (T : List Ty) : gsI T = gs T := by
  rw [Bool.eq_iff_iff]
  unfold gsI gs
  simp only [Bool.and_eq_true, decide_eq_true_eq, List.all_eq_true, List.mem_range]
  constructor
  · rintro ⟨⟨⟨⟨a1, a2⟩, a3⟩, a4⟩, a5⟩
    have hI : ∀ i, 0 < i → i < T.length → typeOkI T i = true := fun i h0 hi => by
      have := a4 i hi; rwa [if_neg (by omega)] at this
    have hT : ∀ i, i < T.length → typeOk T i = true := by
      intro i hi
      by_cases h0 : i = 0
      · subst h0; exact a3
      · have := hI i (by omega) hi
        unfold typeOkI at this
        simp only [Bool.and_eq_true] at this
        exact this.1.1
    have hu := ups_of T (by omega) hT
    refine ⟨⟨⟨⟨a1, a2⟩, hT⟩, ?_⟩, ?_⟩
    · intro i hi
      have := a5 i hi
      split
      · rename_i hk
        rw [if_pos hk] at this
        simp only [Bool.and_eq_true, decide_eq_true_eq] at this ⊢
        refine len_one (kids_nodup T i) (a := i + 1) ((mem_kids T i (i + 1)).2 ⟨this.1, by omega, this.2⟩) ?_
        intro x hx
        obtain ⟨x1, x2, x3⟩ := (mem_kids T i x).1 hx
        have := hI x (by omega) x1
        unfold typeOkI at this
        have e : (ty T x).up.toNat = i := by omega
        rw [e, if_pos hk] at this
        simp only [Bool.and_eq_true, decide_eq_true_eq] at this
        omega
      · rfl
    · rw [deep_root T hu T.length T.length 5 (by omega) (by omega) (by omega)]
      intro j hj
      by_cases h0 : j = 0
      · subst h0
        rw [deepAt_top T 0 (by have := hu.1; omega)]
        unfold h1; split <;> omega
      · have := hI j (by omega) hj
        unfold typeOkI at this
        simp only [Bool.and_eq_true, decide_eq_true_eq] at this
        exact this.1.2
  · rintro ⟨⟨⟨⟨a1, a2⟩, hT⟩, a4⟩, a5⟩
    have hu := ups_of T (by omega) hT
    rw [deep_root T hu T.length T.length 5 (by omega) (by omega) (by omega)] at a5
    have hone : ∀ i, i < T.length → (ty T i).kind = 4 → i + 1 ∈ kids T i ∧ ∀ x ∈ kids T i, x = i + 1 := by
      intro i hi hk
      have := a4 i hi
      rw [if_pos hk] at this
      simp only [decide_eq_true_eq] at this
      match hkk : kids T i, this with
      | [c], _ =>
        have hc : c ∈ kids T i := by rw [hkk]; simp
        have := first_kid T hT i c hc
        rw [hkk] at this
        simp at this
        subst this
        simp
    refine ⟨⟨⟨⟨a1, a2⟩, hT 0 (by omega)⟩, ?_⟩, ?_⟩
    · intro i hi
      split
      · rfl
      · rename_i h0
        unfold typeOkI
        simp only [Bool.and_eq_true, decide_eq_true_eq]
        refine ⟨⟨hT i hi, a5 i hi⟩, ?_⟩
        split
        · rename_i hk
          have hp := hu.2 i (by omega) hi
          have := (hone _ (by omega) hk).2 i ((mem_kids T _ i).2 ⟨hi, by omega, by omega⟩)
          simp only [decide_eq_true_eq]
          omega
        · rfl
    · intro i hi
      split
      · rename_i hk
        have := (mem_kids T i _).1 (hone i hi hk).1
        simp only [Bool.and_eq_true, decide_eq_true_eq]
        exact ⟨this.1, this.2.2⟩
      · rfl

end Go.Proofs.Ytjaklpibjijkkaa.Sch
