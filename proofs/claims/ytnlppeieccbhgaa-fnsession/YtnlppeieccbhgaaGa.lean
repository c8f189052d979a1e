/- Plain facts on numbers in sevens: what TakeVarint finds, written as a function of the bytes. Schemas as lists of types: what a good one is, told in two ways, and that both tell the same. Trees laid flat: where each part lies in the list of types, and that the list's tree is the tree again. A good tree laid flat is a good schema; a good schema is its own tree laid flat, and that tree is good. Names within trees; how deep a subtree is; what a tree tells as a schema. -/
import Derived.Laws.Bits128
import Derived.Laws.BitsAllLaws
namespace Go.Proofs.Ytnlppeieccbhgaa.Plain
open Go

/-- the byte at a place, 0 behind the end -/
def bt (s : ByteArray) (i : Nat) : Nat := if h : i < s.size then (s[i]'h).toNat else 0

theorem bt_lt (s : ByteArray) (i : Nat) : bt s i < 256 := by
  unfold bt; split
  · exact UInt8.toNat_lt _
  · omega

theorem bt_get (s : ByteArray) (i : Nat) (h : i < s.size) : (s[i]'h).toNat = bt s i := by
  unfold bt; rw [dif_pos h]

/-- from place a on, with k sevens read that make n, and f more to be looked at -/
def tk (s : ByteArray) (a : Nat) : Nat → Nat → Nat → Int × Int × Bool
  | 0, _, _ => (0, 0, false)
  | f + 1, k, n =>
    if a + k < s.size then
      if bt s (a + k) < 128 then
        if (0 < k ∧ bt s (a + k) = 0) ∨ 2000000001 < n + bt s (a + k) % 128 * 128 ^ k then (0, 0, false)
        else (((n + bt s (a + k) % 128 * 128 ^ k : Nat) : Int), ((a + k + 1 : Nat) : Int), true)
      else tk s a f (k + 1) (n + bt s (a + k) % 128 * 128 ^ k)
    else (0, 0, false)

theorem tk_out (s : ByteArray) (a f k n : Nat) (h : ¬ a + k < s.size) : tk s a f k n = (0, 0, false) := by
  cases f <;> simp [tk, h]

theorem tk_more (s : ByteArray) (a f k n : Nat) (h : a + k < s.size) (hb : 128 ≤ bt s (a + k)) :
    tk s a (f + 1) k n = tk s a f (k + 1) (n + bt s (a + k) % 128 * 128 ^ k) := by
  rw [tk, if_pos h, if_neg (by omega)]

theorem tk_bad (s : ByteArray) (a f k n : Nat) (h : a + k < s.size) (hb : bt s (a + k) < 128)
    (hx : (0 < k ∧ bt s (a + k) = 0) ∨ 2000000001 < n + bt s (a + k) % 128 * 128 ^ k) : tk s a (f + 1) k n = (0, 0, false) := by
  rw [tk, if_pos h, if_pos hb, if_pos hx]

theorem tk_good (s : ByteArray) (a f k n : Nat) (h : a + k < s.size) (hb : bt s (a + k) < 128)
    (hx : ¬ ((0 < k ∧ bt s (a + k) = 0) ∨ 2000000001 < n + bt s (a + k) % 128 * 128 ^ k)) :
    tk s a (f + 1) k n = (((n + bt s (a + k) % 128 * 128 ^ k : Nat) : Int), ((a + k + 1 : Nat) : Int), true) := by
  rw [tk, if_pos h, if_pos hb, if_neg hx]


theorem and127 (x : Nat) : bits .and .i64 (x : Int) 127 = ((x % 128 : Nat) : Int) := by
  rw [i64_and127]; omega

theorem ofInt_i64 (a : Nat) (ha : a < 18446744073709551616) : (BitVec.ofInt 64 (a : Int)).toNat = a := ofInt_u64 a ha

theorem or_i64_nat (a b : Nat) (ha : a < 9223372036854775808) (hb : b < 9223372036854775808) : bits .or .i64 (a : Int) (b : Int) = ((a ||| b : Nat) : Int) := by
  have hx : a ||| b < 2 ^ 63 := Nat.or_lt_two_pow (by omega) (by omega)
  show IntKind.i64.wrap ((BitVec.ofInt 64 (a : Int) ||| BitVec.ofInt 64 (b : Int)).toNat : Int) = _
  rw [BitVec.toNat_or, ofInt_i64 a (by omega), ofInt_i64 b (by omega), IntKind.wrap_i64]
  omega

/-- what is joined by 'or' is added where no bit is met twice -/
theorem or_join (i m y : Nat) (hi : i ≤ 28) (hm : m < 2 ^ i) (hy : y < 128) : bits .or .i64 (m : Int) ((y * 2 ^ i : Nat) : Int) = ((m + y * 2 ^ i : Nat) : Int) := by
  have h28 : (2 : Nat) ^ i ≤ 2 ^ 28 := Nat.pow_le_pow_right (by omega) hi
  have hy2 : y * 2 ^ i ≤ 127 * 2 ^ 28 := Nat.mul_le_mul (by omega) h28
  have e28 : (2 : Nat) ^ 28 = 268435456 := by decide
  rw [e28] at h28 hy2
  rw [or_i64_nat _ _ (by omega) (by omega)]
  rw [Nat.or_comm, nat_join i (y * 2 ^ i) m (by simp) hm, Nat.add_comm]

end Go.Proofs.Ytnlppeieccbhgaa.Plain

namespace Go.Proofs.Ytnlppeieccbhgaa.Sch
open Plain

structure Ty where
  kind : Int
  name : ByteArray
  no : Int
  must : Bool
  up : Int
  most : Int

instance : Inhabited Ty := ⟨⟨0, ⟨#[]⟩, 0, false, -1, 0⟩⟩

def ty (T : List Ty) (i : Nat) : Ty := T.getD i default

def holds (k : Int) : Bool := decide (k = 4) || decide (k = 5)

def isName (n : ByteArray) : Bool := decide (1 ≤ n.size ∧ n.size ≤ 10 ∧ ∀ i, i < n.size → 97 ≤ bt n i ∧ bt n i ≤ 122)

/-- the type and all that it is in, upwards -/
def chain (T : List Ty) (k : Nat) : List Nat :=
  k :: (if _h : 0 ≤ (ty T k).up ∧ (ty T k).up < k then chain T (ty T k).up.toNat else [])
termination_by k
decreasing_by omega

theorem chain_le (T : List Ty) (k j : Nat) (h : j ∈ chain T k) : j ≤ k := by
  induction k using Nat.strongRecOn with
  | ind k ih =>
    rw [chain] at h
    rcases List.mem_cons.1 h with h | h
    · omega
    · split at h
      · have := ih _ (by omega) h; omega
      · simp at h

theorem self_chain (T : List Ty) (k : Nat) : k ∈ chain T k := by rw [chain]; simp

theorem chain_up (T : List Ty) (k : Nat) (h : 0 ≤ (ty T k).up ∧ (ty T k).up < k) : chain T k = k :: chain T (ty T k).up.toNat := by
  rw [chain, dif_pos h]

theorem chain_top (T : List Ty) (k : Nat) (h : (ty T k).up < 0) : chain T k = [k] := by
  rw [chain, dif_neg (by omega)]

/-- how many lists and messages the type is in, itself among them -/
def deepAt (T : List Ty) (k : Nat) : Nat := ((chain T k).filter fun j => holds (ty T j).kind).length

def kids (T : List Ty) (k : Nat) : List Nat := (List.range T.length).filter fun i => decide (k < i) && decide ((ty T i).up = (k : Int))

theorem mem_kids (T : List Ty) (k i : Nat) : i ∈ kids T k ↔ i < T.length ∧ k < i ∧ (ty T i).up = (k : Int) := by
  unfold kids; simp

inductive Tr where
  | mk (kind : Int) (name : ByteArray) (no : Int) (must : Bool) (most : Int) (kids : List Tr)

def Tr.kids : Tr → List Tr | .mk _ _ _ _ _ k => k
def Tr.kind : Tr → Int | .mk k _ _ _ _ _ => k
def Tr.name : Tr → ByteArray | .mk _ n _ _ _ _ => n
def Tr.no : Tr → Int | .mk _ _ n _ _ _ => n
def Tr.must : Tr → Bool | .mk _ _ _ m _ _ => m
def Tr.most : Tr → Int | .mk _ _ _ _ m _ => m

/-- the tree of a type, at most f deep -/
def tree (T : List Ty) : Nat → Nat → Tr
  | 0, k => .mk (ty T k).kind (ty T k).name (ty T k).no (ty T k).must (ty T k).most []
  | f + 1, k => .mk (ty T k).kind (ty T k).name (ty T k).no (ty T k).must (ty T k).most ((kids T k).map (tree T f))

def maxL (l : List Nat) : Nat := l.foldl max 0

theorem foldl_max (l : List Nat) (a : Nat) : l.foldl max a = max a (maxL l) := by
  unfold maxL
  induction l generalizing a with
  | nil => simp
  | cons x l ih => rw [List.foldl_cons, ih, List.foldl_cons, ih (max 0 x)]; omega

theorem maxL_le (l : List Nat) (D : Nat) : maxL l ≤ D ↔ ∀ x ∈ l, x ≤ D := by
  unfold maxL
  induction l with
  | nil => simp
  | cons x l ih =>
    rw [List.foldl_cons, foldl_max]
    unfold maxL
    constructor
    · intro h y hy
      rcases List.mem_cons.1 hy with rfl | hy
      · omega
      · exact (ih.1 (by omega)) y hy
    · intro h
      have h1 := h x (by simp)
      have h2 := ih.2 (fun y hy => h y (by simp [hy]))
      omega

/-- how deep a tree is, at most f steps looked at -/
def deep : Nat → Tr → Nat
  | 0, t => if holds t.kind then 1 else 0
  | f + 1, t => maxL (t.kids.map (deep f)) + (if holds t.kind then 1 else 0)

def h1 (T : List Ty) (k : Nat) : Nat := if holds (ty T k).kind then 1 else 0

/-- all types but the first are parts of one ahead -/
def Ups (T : List Ty) : Prop := (ty T 0).up = -1 ∧ ∀ i, 0 < i → i < T.length → 0 ≤ (ty T i).up ∧ (ty T i).up < i

theorem deepAt_up (T : List Ty) (k : Nat) (h : 0 ≤ (ty T k).up ∧ (ty T k).up < k) : deepAt T k = h1 T k + deepAt T (ty T k).up.toNat := by
  unfold deepAt h1
  rw [chain_up T k h, List.filter_cons]
  split <;> simp <;> omega

theorem deepAt_top (T : List Ty) (k : Nat) (h : (ty T k).up < 0) : deepAt T k = h1 T k := by
  unfold deepAt h1
  rw [chain_top T k h, List.filter_cons]
  split <;> simp

theorem root_chain (T : List Ty) (hu : Ups T) (j : Nat) (hj : j < T.length) : 0 ∈ chain T j := by
  induction j using Nat.strongRecOn with
  | ind j ih =>
    by_cases h0 : j = 0
    · subst h0; exact self_chain T 0
    · have h := hu.2 j (by omega) hj
      rw [chain_up T j h]
      exact List.mem_cons_of_mem _ (ih _ (by omega) (by omega))

/-- what is in a type is it, or in one of its parts -/
theorem chain_split (T : List Ty) (k j : Nat) (hj : j < T.length) (h : k ∈ chain T j) (hne : j ≠ k) : ∃ c ∈ kids T k, c ∈ chain T j := by
  induction j using Nat.strongRecOn with
  | ind j ih =>
    rw [chain] at h
    rcases List.mem_cons.1 h with h | h
    · omega
    · split at h
      · rename_i hu
        by_cases he : (ty T j).up.toNat = k
        · refine ⟨j, (mem_kids T k j).2 ⟨hj, by omega, by omega⟩, self_chain T j⟩
        · obtain ⟨c, hc1, hc2⟩ := ih _ (by omega) (by omega) h he
          exact ⟨c, hc1, by rw [chain_up T j hu]; exact List.mem_cons_of_mem _ hc2⟩
      · simp at h

theorem chain_trans (T : List Ty) (k c j : Nat) (h1 : k ∈ chain T c) (h2 : c ∈ chain T j) : k ∈ chain T j := by
  induction j using Nat.strongRecOn with
  | ind j ih =>
    rw [chain] at h2
    rcases List.mem_cons.1 h2 with h | h
    · subst h; exact h1
    · split at h
      · rename_i hu
        rw [chain_up T j hu]
        exact List.mem_cons_of_mem _ (ih _ (by omega) h)
      · simp at h

theorem kid_chain (T : List Ty) (k c : Nat) (h : c ∈ kids T k) : k ∈ chain T c := by
  obtain ⟨h1, h2, h3⟩ := (mem_kids T k c).1 h
  rw [chain_up T c (by omega)]
  have : (ty T c).up.toNat = k := by omega
  rw [this]
  exact List.mem_cons_of_mem _ (self_chain T k)

theorem deep_mk (T : List Ty) (f g k : Nat) : deep (g + 1) (tree T (f + 1) k) = maxL ((kids T k).map fun c => deep g (tree T f c)) + h1 T k := by
  show maxL ((tree T (f + 1) k).kids.map (deep g)) + (if holds (tree T (f + 1) k).kind then 1 else 0) = _
  have e1 : (tree T (f + 1) k).kids = (kids T k).map (tree T f) := rfl
  have e2 : (tree T (f + 1) k).kind = (ty T k).kind := rfl
  rw [e1, e2, List.map_map]
  rfl

/-- the tree's depth is told by what is in it -/
theorem deep_le (T : List Ty) (D : Nat) : ∀ (f g k : Nat), T.length ≤ f + k → T.length ≤ g + k → k < T.length → ((k = 0 ∧ (ty T 0).up < 0) ∨ (0 ≤ (ty T k).up ∧ (ty T k).up < k)) →
    (deep g (tree T f k) + (deepAt T k - h1 T k) ≤ D ↔ ∀ j, j < T.length → k ∈ chain T j → deepAt T j ≤ D) := by
  intro f
  induction f with
  | zero => intro g k h; omega
  | succ f ih =>
    intro g k hf hg hk hk0
    cases g with
    | zero => omega
    | succ g =>
      rw [deep_mk]
      have hdk : h1 T k ≤ deepAt T k := by
        rcases hk0 with ⟨rfl, h⟩ | h
        · rw [deepAt_top T 0 h]; omega
        · rw [deepAt_up T k h]; omega
      have hkid : ∀ c ∈ kids T k, (deep g (tree T f c) + deepAt T k ≤ D ↔ ∀ j, j < T.length → c ∈ chain T j → deepAt T j ≤ D) := by
        intro c hc
        obtain ⟨a1, a2, a3⟩ := (mem_kids T k c).1 hc
        have := ih g c (by omega) (by omega) a1 (.inr (by omega))
        rw [deepAt_up T c (by omega)] at this
        have e : (ty T c).up.toNat = k := by omega
        rw [e, show h1 T c + deepAt T k - h1 T c = deepAt T k by omega] at this
        exact this
      constructor
      · intro h j hj hkj
        by_cases he : j = k
        · subst he; omega
        · obtain ⟨c, hc1, hc2⟩ := chain_split T k j hj hkj he
          refine (hkid c hc1).1 ?_ j hj hc2
          have := (maxL_le ((kids T k).map fun c => deep g (tree T f c)) (D - deepAt T k)).1 (by omega) (deep g (tree T f c)) (List.mem_map.2 ⟨c, hc1, rfl⟩)
          omega
      · intro h
        have hk' := h k hk (self_chain T k)
        have := (maxL_le ((kids T k).map fun c => deep g (tree T f c)) (D - deepAt T k)).2 (by
          intro x hx
          obtain ⟨c, hc, rfl⟩ := List.mem_map.1 hx
          have := (hkid c hc).2 (fun j hj hcj => h j hj (chain_trans T k c j (kid_chain T k c hc) hcj))
          omega)
        omega

theorem deep_root (T : List Ty) (hu : Ups T) (f g D : Nat) (hf : T.length ≤ f) (hg : T.length ≤ g) (h0 : 0 < T.length) :
    deep g (tree T f 0) ≤ D ↔ ∀ j, j < T.length → deepAt T j ≤ D := by
  have h := deep_le T D f g 0 (by omega) (by omega) h0 (.inl ⟨rfl, by have := hu.1; omega⟩)
  rw [deepAt_top T 0 (by have := hu.1; omega), show h1 T 0 - h1 T 0 = 0 by omega, Nat.add_zero] at h
  rw [h]
  exact ⟨fun h j hj => h j hj (root_chain T hu j hj), fun h j hj _ => h j hj⟩

def okKind (t : Ty) : Bool := decide (1 ≤ t.kind) && decide (t.kind ≤ 5) && (if t.kind = 3 then decide (0 ≤ t.most) && decide (t.most ≤ 20) else decide (t.most = 0))

def firstOk (t : Ty) : Bool := decide (t.kind = 5) && decide (t.up = -1) && decide (t.name = ⟨#[]⟩) && decide (t.no = 0) && !t.must

def bare (t : Ty) : Bool := decide (t.name = ⟨#[]⟩) && decide (t.no = 0) && !t.must

/-- no sister ahead has as great a number, or the name -/
def sisBad (T : List Ty) (i k : Nat) : Bool := decide ((ty T k).up = (ty T i).up) && (decide ((ty T i).no ≤ (ty T k).no) || decide ((ty T k).name = (ty T i).name))
def sis (T : List Ty) (i : Nat) : Bool := decide (∀ k, k < i → sisBad T i k = false)

def partOk (T : List Ty) (i : Nat) : Bool :=
  decide (0 ≤ (ty T i).up) && decide ((ty T i).up < i) && holds (ty T (ty T i).up.toNat).kind && decide ((ty T i).up.toNat ∈ chain T (i - 1)) &&
    (if (ty T (ty T i).up.toNat).kind = 4 then bare (ty T i) else isName (ty T i).name && decide (1 ≤ (ty T i).no) && decide ((ty T i).no ≤ 30) && sis T i)

def typeOk (T : List Ty) (i : Nat) : Bool := okKind (ty T i) && (if i = 0 then firstOk (ty T 0) else partOk T i)

/-- as the model tells it -/
def gs (T : List Ty) : Bool :=
  decide (1 ≤ T.length) && decide (T.length ≤ 30) && (List.range T.length).all (typeOk T) &&
    ((List.range T.length).all fun i => if (ty T i).kind = 4 then decide ((kids T i).length = 1) else true) && decide (deep T.length (tree T T.length 0) ≤ 5)

def typeOkI (T : List Ty) (i : Nat) : Bool := typeOk T i && decide (deepAt T i ≤ 5) && (if (ty T (ty T i).up.toNat).kind = 4 then decide ((i : Int) = (ty T i).up + 1) else true)

/-- as the program tells it -/
def gsI (T : List Ty) : Bool :=
  decide (1 ≤ T.length) && decide (T.length ≤ 30) && typeOk T 0 && ((List.range T.length).all fun i => if i = 0 then true else typeOkI T i) &&
    ((List.range T.length).all fun i => if (ty T i).kind = 4 then decide (i + 1 < T.length) && decide ((ty T (i + 1)).up = i) else true)

theorem ups_of (T : List Ty) (h0 : 0 < T.length) (h : ∀ i, i < T.length → typeOk T i = true) : Ups T := by
  constructor
  · have := h 0 h0
    unfold typeOk firstOk at this
    rw [if_pos rfl] at this
    simp only [Bool.and_eq_true, decide_eq_true_eq] at this
    exact this.2.1.1.1.2
  · intro i hi hl
    have := h i hl
    unfold typeOk partOk at this
    rw [if_neg (by omega)] at this
    simp only [Bool.and_eq_true, decide_eq_true_eq] at this
    exact ⟨this.2.1.1.1.1, this.2.1.1.1.2⟩

theorem part_chain (T : List Ty) (i : Nat) (hi : 0 < i) (h : typeOk T i = true) : 0 ≤ (ty T i).up ∧ (ty T i).up < i ∧ (ty T i).up.toNat ∈ chain T (i - 1) := by
  unfold typeOk partOk at h
  rw [if_neg (by omega)] at h
  simp only [Bool.and_eq_true, decide_eq_true_eq] at h
  exact ⟨h.2.1.1.1.1, h.2.1.1.1.2, h.2.1.2⟩

/-- a type with a part has one right behind it -/
theorem first_kid (T : List Ty) (h : ∀ i, i < T.length → typeOk T i = true) (i j : Nat) (hij : j ∈ kids T i) : i + 1 ∈ kids T i := by
  obtain ⟨j1, j2, j3⟩ := (mem_kids T i j).1 hij
  by_cases hc : i + 1 ∈ kids T i
  · exact hc
  exfalso
  have key : ∀ m, i < m → m < T.length → i ∈ chain T m → ∃ c ∈ kids T i, c ≤ m := by
    intro m hm hml hmem
    obtain ⟨c, c1, c2⟩ := chain_split T i m hml hmem (by omega)
    exact ⟨c, c1, chain_le T m c c2⟩
  have : ∀ m, m ∉ kids T i := by
    intro m
    induction m using Nat.strongRecOn with
    | ind m ih =>
      intro hm
      obtain ⟨m1, m2, m3⟩ := (mem_kids T i m).1 hm
      have hne : m ≠ i + 1 := fun e => hc (e ▸ hm)
      have hp := part_chain T m (by omega) (h m m1)
      have e : (ty T m).up.toNat = i := by omega
      rw [e] at hp
      obtain ⟨c, c1, c2⟩ := key (m - 1) (by omega) (by omega) hp.2.2
      exact ih c (by omega) c1
  exact this j hij

theorem kids_nodup (T : List Ty) (i : Nat) : (kids T i).Nodup := List.Pairwise.filter _ List.nodup_range

theorem len_one {l : List Nat} {a : Nat} (hn : l.Nodup) (ha : a ∈ l) (h : ∀ x ∈ l, x = a) : l.length = 1 := by
  match l, hn, ha, h with
  | [x], _, _, _ => rfl
  | x :: y :: l, hn, _, h =>
    have h1 := h x (by simp)
    have h2 := h y (by simp)
    rw [List.nodup_cons] at hn
    exact absurd (by simp [h1, h2]) hn.1

theorem gs_eq (T : List Ty) : gsI T = gs T := by
  rw [Bool.eq_iff_iff]
  unfold gsI gs
  simp only [Bool.and_eq_true, decide_eq_true_eq, List.all_eq_true, List.mem_range]
  constructor
  · rintro ⟨⟨⟨⟨a1, a2⟩, a3⟩, a4⟩, a5⟩
    have hI : ∀ i, 0 < i → i < T.length → typeOkI T i = true := fun i h0 hi => by
      have := a4 i hi; rwa [if_neg (by omega)] at this
    have hT : ∀ i, i < T.length → typeOk T i = true := by
      intro i hi
      by_cases h0 : i = 0
      · subst h0; exact a3
      · have := hI i (by omega) hi
        unfold typeOkI at this
        simp only [Bool.and_eq_true] at this
        exact this.1.1
    have hu := ups_of T (by omega) hT
    refine ⟨⟨⟨⟨a1, a2⟩, hT⟩, ?_⟩, ?_⟩
    · intro i hi
      have := a5 i hi
      split
      · rename_i hk
        rw [if_pos hk] at this
        simp only [Bool.and_eq_true, decide_eq_true_eq] at this ⊢
        refine len_one (kids_nodup T i) (a := i + 1) ((mem_kids T i (i + 1)).2 ⟨this.1, by omega, this.2⟩) ?_
        intro x hx
        obtain ⟨x1, x2, x3⟩ := (mem_kids T i x).1 hx
        have := hI x (by omega) x1
        unfold typeOkI at this
        have e : (ty T x).up.toNat = i := by omega
        rw [e, if_pos hk] at this
        simp only [Bool.and_eq_true, decide_eq_true_eq] at this
        omega
      · rfl
    · rw [deep_root T hu T.length T.length 5 (by omega) (by omega) (by omega)]
      intro j hj
      by_cases h0 : j = 0
      · subst h0
        rw [deepAt_top T 0 (by have := hu.1; omega)]
        unfold h1; split <;> omega
      · have := hI j (by omega) hj
        unfold typeOkI at this
        simp only [Bool.and_eq_true, decide_eq_true_eq] at this
        exact this.1.2
  · rintro ⟨⟨⟨⟨a1, a2⟩, hT⟩, a4⟩, a5⟩
    have hu := ups_of T (by omega) hT
    rw [deep_root T hu T.length T.length 5 (by omega) (by omega) (by omega)] at a5
    have hone : ∀ i, i < T.length → (ty T i).kind = 4 → i + 1 ∈ kids T i ∧ ∀ x ∈ kids T i, x = i + 1 := by
      intro i hi hk
      have := a4 i hi
      rw [if_pos hk] at this
      simp only [decide_eq_true_eq] at this
      match hkk : kids T i, this with
      | [c], _ =>
        have hc : c ∈ kids T i := by rw [hkk]; simp
        have := first_kid T hT i c hc
        rw [hkk] at this
        simp at this
        subst this
        simp
    refine ⟨⟨⟨⟨a1, a2⟩, hT 0 (by omega)⟩, ?_⟩, ?_⟩
    · intro i hi
      split
      · rfl
      · rename_i h0
        unfold typeOkI
        simp only [Bool.and_eq_true, decide_eq_true_eq]
        refine ⟨⟨hT i hi, a5 i hi⟩, ?_⟩
        split
        · rename_i hk
          have hp := hu.2 i (by omega) hi
          have := (hone _ (by omega) hk).2 i ((mem_kids T _ i).2 ⟨hi, by omega, by omega⟩)
          simp only [decide_eq_true_eq]
          omega
        · rfl
    · intro i hi
      split
      · rename_i hk
        have := (mem_kids T i _).1 (hone i hi hk).1
        simp only [Bool.and_eq_true, decide_eq_true_eq]
        exact ⟨this.1, this.2.2⟩
      · rfl

end Go.Proofs.Ytnlppeieccbhgaa.Sch

namespace Go.Proofs.Ytnlppeieccbhgaa.Sch
open Plain

mutual
def Tr.size : Tr → Nat
  | .mk _ _ _ _ _ ks => sizeL ks + 1
def sizeL : List Tr → Nat
  | [] => 0
  | x :: l => x.size + sizeL l
end

mutual
/-- the types of a tree, the first of them a part of the type up, and with the number s -/
def flat : Tr → Int → Nat → List Ty
  | .mk k n no mu mo ks, up, s => ⟨k, n, no, mu, up, mo⟩ :: flatL ks s (s + 1)
def flatL : List Tr → Nat → Nat → List Ty
  | [], _, _ => []
  | x :: l, up, s => flat x up s ++ flatL l up (s + x.size)
end

theorem Tr.size_eq (t : Tr) : t.size = sizeL t.kids + 1 := by cases t; simp [Tr.size, Tr.kids]
theorem Tr.size_pos (t : Tr) : 0 < t.size := by rw [Tr.size_eq]; omega
theorem flat_eq (t : Tr) (up : Int) (s : Nat) : flat t up s = ⟨t.kind, t.name, t.no, t.must, up, t.most⟩ :: flatL t.kids s (s + 1) := by cases t; simp [flat, Tr.kids, Tr.kind, Tr.name, Tr.no, Tr.must, Tr.most]

mutual
theorem flat_len (t : Tr) (up : Int) (s : Nat) : (flat t up s).length = t.size := by
  cases t with
  | mk k n no mu mo ks => simp [flat, Tr.size, flatL_len ks]
theorem flatL_len (l : List Tr) (up s : Nat) : (flatL l up s).length = sizeL l := by
  cases l with
  | nil => simp [flatL, sizeL]
  | cons x l => simp [flatL, sizeL, flat_len x, flatL_len l]
end

theorem sizeL_mem : ∀ (l : List Tr) (x : Tr), x ∈ l → x.size ≤ sizeL l
  | y :: l, x, h => by
    rw [sizeL]
    rcases List.mem_cons.1 h with rfl | h
    · omega
    · have := sizeL_mem l x h; omega

/-- a piece of a list -/
def Seg (T : List Ty) (s : Nat) (L : List Ty) : Prop := ∃ a b, T = a ++ L ++ b ∧ a.length = s

theorem Seg.lt {T : List Ty} {s : Nat} {L : List Ty} (h : Seg T s L) : s + L.length ≤ T.length := by
  obtain ⟨a, b, rfl, rfl⟩ := h; simp

theorem Seg.head {T : List Ty} {s : Nat} {x : Ty} {L : List Ty} (h : Seg T s (x :: L)) : ty T s = x := by
  obtain ⟨a, b, rfl, rfl⟩ := h; simp [ty, List.getD]

theorem Seg.tail {T : List Ty} {s : Nat} {x : Ty} {L : List Ty} (h : Seg T s (x :: L)) : Seg T (s + 1) L := by
  obtain ⟨a, b, rfl, rfl⟩ := h; exact ⟨a ++ [x], b, by simp, by simp⟩

theorem Seg.left {T : List Ty} {s : Nat} {L M : List Ty} (h : Seg T s (L ++ M)) : Seg T s L := by
  obtain ⟨a, b, rfl, rfl⟩ := h; exact ⟨a, M ++ b, by simp, rfl⟩

theorem Seg.right {T : List Ty} {s : Nat} {L M : List Ty} (h : Seg T s (L ++ M)) : Seg T (s + L.length) M := by
  obtain ⟨a, b, rfl, rfl⟩ := h; exact ⟨a ++ L, b, by simp, by simp⟩

theorem Seg.whole (T : List Ty) : Seg T 0 T := ⟨[], [], by simp, rfl⟩

theorem seg_join {T : List Ty} {s : Nat} {L M : List Ty} (h : Seg T s L) (h2 : Seg T (s + L.length) M) : Seg T s (L ++ M) := by
  obtain ⟨a, b, rfl, rfl⟩ := h
  obtain ⟨a', b', e, hl⟩ := h2
  have h3 : a ++ L = a' := by
    rw [List.append_assoc a'] at e
    exact (List.append_inj e (by simp; omega)).1
  refine ⟨a, b', ?_, rfl⟩
  rw [e, ← h3]; simp

theorem seg_one {T : List Ty} {s : Nat} (h : s < T.length) : Seg T s [ty T s] := by
  refine ⟨T.take s, T.drop (s + 1), ?_, by simp; omega⟩
  rw [List.append_assoc]
  have e : [ty T s] ++ T.drop (s + 1) = T.drop s := by
    rw [List.drop_eq_getElem_cons h]; simp [ty, List.getD, List.getElem?_eq_getElem h]
  rw [e, List.take_append_drop]

mutual
/-- within a tree's piece each type is a part of one ahead, within -/
theorem flat_ups (T : List Ty) (t : Tr) (up : Int) (s : Nat) (h : Seg T s (flat t up s)) : ∀ j, s < j → j < s + t.size → (s : Int) ≤ (ty T j).up ∧ (ty T j).up < j := by
  cases t with
  | mk k n no mu mo ks =>
    intro j h1 h2
    rw [Tr.size] at h2
    rw [flat] at h
    exact flatL_ups T ks s (s + 1) h.tail (by omega) j (by omega) (by omega)
theorem flatL_ups (T : List Ty) (l : List Tr) (p s : Nat) (h : Seg T s (flatL l p s)) (hp : p < s) : ∀ j, s ≤ j → j < s + sizeL l → (p : Int) ≤ (ty T j).up ∧ (ty T j).up < j := by
  cases l with
  | nil => intro j h1 h2; simp [sizeL] at h2; omega
  | cons x l =>
    intro j h1 h2
    rw [flatL] at h
    rw [sizeL] at h2
    by_cases hj : j < s + x.size
    · by_cases hs : j = s
      · subst hs
        have := h.left
        rw [flat_eq] at this
        rw [this.head]
        show (p : Int) ≤ (p : Int) ∧ (p : Int) < _
        omega
      · have := flat_ups T x p s h.left j (by omega) hj
        omega
    · have hr := h.right
      rw [flat_len] at hr
      exact flatL_ups T l p (s + x.size) hr (by omega) j (by omega) (by omega)
end

mutual
theorem flat_chain (T : List Ty) (t : Tr) (up : Int) (s : Nat) (h : Seg T s (flat t up s)) : ∀ j, s ≤ j → j < s + t.size → s ∈ chain T j := by
  cases t with
  | mk k n no mu mo ks =>
    intro j h1 h2
    rw [Tr.size] at h2
    rw [flat] at h
    by_cases hs : j = s
    · subst hs; exact self_chain T j
    · exact flatL_chain T ks s (s + 1) h.tail (by omega) j (by omega) (by omega)
theorem flatL_chain (T : List Ty) (l : List Tr) (p s : Nat) (h : Seg T s (flatL l p s)) (hp : p < s) : ∀ j, s ≤ j → j < s + sizeL l → p ∈ chain T j := by
  cases l with
  | nil => intro j h1 h2; simp [sizeL] at h2; omega
  | cons x l =>
    intro j h1 h2
    rw [flatL] at h
    rw [sizeL] at h2
    by_cases hj : j < s + x.size
    · have h3 := flat_chain T x p s h.left j h1 hj
      have h4 : (ty T s).up = (p : Int) := by
        have := h.left
        rw [flat_eq] at this
        rw [this.head]
      refine chain_trans T p s j ?_ h3
      rw [chain_up T s (by omega), h4, Int.toNat_natCast]
      exact List.mem_cons_of_mem _ (self_chain T p)
    · have hr := h.right
      rw [flat_len] at hr
      exact flatL_chain T l p (s + x.size) hr (by omega) j (by omega) (by omega)
end

/-- where the parts begin -/
def starts : List Tr → Nat → List Nat
  | [], _ => []
  | x :: l, s => s :: starts l (s + x.size)

theorem starts_len : ∀ (l : List Tr) (s : Nat), (starts l s).length = l.length
  | [], _ => rfl
  | x :: l, s => by simp [starts, starts_len l]

theorem starts_ge : ∀ (l : List Tr) (s i : Nat), i ∈ starts l s → s ≤ i
  | x :: l, s, i, h => by
    rcases List.mem_cons.1 h with rfl | h
    · omega
    · have := starts_ge l _ i h; omega

theorem starts_lt : ∀ (l : List Tr) (s i : Nat), i ∈ starts l s → i < s + sizeL l
  | x :: l, s, i, h => by
    have := x.size_pos
    rw [sizeL]
    rcases List.mem_cons.1 h with rfl | h
    · omega
    · have := starts_lt l _ i h; omega

theorem starts_sorted : ∀ (l : List Tr) (s : Nat), (starts l s).Pairwise (· < ·)
  | [], _ => List.Pairwise.nil
  | x :: l, s => by
    rw [starts, List.pairwise_cons]
    refine ⟨fun j hj => ?_, starts_sorted l _⟩
    have h1 := starts_ge l _ j hj
    have h2 := x.size_pos
    omega

theorem mem_starts (T : List Ty) : ∀ (l : List Tr) (p s : Nat), Seg T s (flatL l p s) → p < s → ∀ i, i ∈ starts l s ↔ s ≤ i ∧ i < s + sizeL l ∧ (ty T i).up = (p : Int)
  | [], p, s, h, hp, i => by simp [starts, sizeL]; omega
  | x :: l, p, s, h, hp, i => by
    rw [flatL] at h
    have hr := h.right
    rw [flat_len] at hr
    have hps := x.size_pos
    have h4 : (ty T s).up = (p : Int) := by
      have := h.left
      rw [flat_eq] at this
      rw [this.head]
    have ih := mem_starts T l p (s + x.size) hr (by omega) i
    rw [starts, List.mem_cons, ih, sizeL]
    constructor
    · rintro (rfl | h)
      · exact ⟨by omega, by omega, h4⟩
      · exact ⟨by omega, by omega, h.2.2⟩
    · rintro ⟨h1, h2, h3⟩
      by_cases hs : i = s
      · exact .inl hs
      · refine .inr ⟨?_, by omega, h3⟩
        by_cases hlt : i < s + x.size
        · have := flat_ups T x p s h.left i (by omega) hlt
          omega
        · omega

theorem sorted_ext : ∀ (a b : List Nat), a.Pairwise (· < ·) → b.Pairwise (· < ·) → (∀ i, i ∈ a ↔ i ∈ b) → a = b
  | [], [], _, _, _ => rfl
  | [], y :: b, _, _, h => by have := (h y).2 (by simp); simp at this
  | x :: a, [], _, _, h => by have := (h x).1 (by simp); simp at this
  | x :: a, y :: b, ha, hb, h => by
    rw [List.pairwise_cons] at ha hb
    have hx : x = y := by
      have h1 := (h x).1 (by simp)
      have h2 := (h y).2 (by simp)
      rcases List.mem_cons.1 h1 with h1 | h1
      · exact h1
      · rcases List.mem_cons.1 h2 with h2 | h2
        · exact h2.symm
        · have := hb.1 x h1; have := ha.1 y h2; omega
    subst hx
    rw [sorted_ext a b ha.2 hb.2 (fun i => ?_)]
    constructor
    · intro hi
      rcases List.mem_cons.1 ((h i).1 (List.mem_cons_of_mem _ hi)) with h1 | h1
      · have := ha.1 i hi; omega
      · exact h1
    · intro hi
      rcases List.mem_cons.1 ((h i).2 (List.mem_cons_of_mem _ hi)) with h1 | h1
      · have := hb.1 i hi; omega
      · exact h1

theorem kids_sorted (T : List Ty) (k : Nat) : (kids T k).Pairwise (· < ·) := List.Pairwise.filter _ List.pairwise_lt_range

/-- what lies behind a piece is no part of it -/
def Out (T : List Ty) (s n : Nat) : Prop := ∀ j, s + n ≤ j → j < T.length → (ty T j).up < s ∨ ((s + n : Nat) : Int) ≤ (ty T j).up

theorem flat_kids (T : List Ty) (t : Tr) (up : Int) (s : Nat) (h : Seg T s (flat t up s)) (ho : Out T s t.size) : kids T s = starts t.kids (s + 1) := by
  rw [flat_eq] at h
  have hl := h.lt
  rw [List.length_cons, flatL_len] at hl
  have hz := t.size_eq
  refine sorted_ext _ _ (kids_sorted T s) (starts_sorted _ _) (fun i => ?_)
  rw [mem_kids, mem_starts T t.kids s (s + 1) h.tail (by omega)]
  constructor
  · rintro ⟨h1, h2, h3⟩
    refine ⟨by omega, ?_, h3⟩
    by_cases hi : s + t.size ≤ i
    · have := ho i hi h1; omega
    · omega
  · rintro ⟨h1, h2, h3⟩
    exact ⟨by omega, by omega, h3⟩

theorem out_tail {T : List Ty} {t : Tr} {s : Nat} (ho : Out T s t.size) : Out T (s + 1) (sizeL t.kids) := by
  intro j h1 h2
  have hz := t.size_eq
  have := ho j (by omega) h2
  omega

theorem flatL_in (T : List Ty) : ∀ (l : List Tr) (p s : Nat), Seg T s (flatL l p s) → p < s → ∀ j, s ≤ j → j < s + sizeL l → j ∉ starts l s → (s : Int) ≤ (ty T j).up
  | [], p, s, h, hp, j, h1, h2, hm => by simp [sizeL] at h2; omega
  | x :: l, p, s, h, hp, j, h1, h2, hm => by
    rw [flatL] at h
    have hr := h.right
    rw [flat_len] at hr
    rw [sizeL] at h2
    rw [starts, List.mem_cons, not_or] at hm
    by_cases hj : j < s + x.size
    · exact (flat_ups T x p s h.left j (by omega) hj).1
    · have := flatL_in T l p (s + x.size) hr (by omega) j (by omega) (by omega) hm.2
      omega

theorem out_left {T : List Ty} {x : Tr} {l : List Tr} {p s : Nat} (h : Seg T s (flatL (x :: l) p s)) (hp : p < s) (ho : Out T s (sizeL (x :: l))) : Out T s x.size := by
  intro j h1 h2
  rw [flatL] at h
  have hr := h.right
  rw [flat_len] at hr
  rw [sizeL] at ho
  by_cases hj : j < s + x.size + sizeL l
  · by_cases hm : j ∈ starts l (s + x.size)
    · have := ((mem_starts T l p (s + x.size) hr (by omega) j).1 hm).2.2
      omega
    · have := flatL_in T l p (s + x.size) hr (by omega) j (by omega) hj hm
      omega
  · have := ho j (by omega) h2
    omega
theorem out_right {T : List Ty} {x : Tr} {l : List Tr} {s : Nat} (ho : Out T s (sizeL (x :: l))) : Out T (s + x.size) (sizeL l) := by
  intro j h1 h2
  rw [sizeL] at ho
  have := ho j (by omega) h2
  omega

mutual
theorem flat_tree (T : List Ty) (t : Tr) (up : Int) (s f : Nat) (h : Seg T s (flat t up s)) (ho : Out T s t.size) (hf : t.size ≤ f) : tree T f s = t := by
  have hk := flat_kids T t up s h ho
  cases f with
  | zero => have := t.size_pos; omega
  | succ f =>
    rw [tree, hk]
    have ho' := out_tail ho
    cases t with
    | mk k n no mu mo ks =>
      rw [Tr.size] at hf
      rw [flat] at h
      rw [h.head]
      show Tr.mk k n no mu mo ((starts ks (s + 1)).map (tree T f)) = _
      rw [flatL_tree T ks s (s + 1) f h.tail (by omega) ho' (by omega)]
theorem flatL_tree (T : List Ty) (l : List Tr) (p s f : Nat) (h : Seg T s (flatL l p s)) (hp : p < s) (ho : Out T s (sizeL l)) (hf : sizeL l ≤ f) : (starts l s).map (tree T f) = l := by
  cases l with
  | nil => rfl
  | cons x l =>
    have ho1 := out_left h hp ho
    have ho2 := out_right ho
    rw [flatL] at h
    have hr := h.right
    rw [flat_len] at hr
    rw [sizeL] at hf
    rw [starts, List.map_cons, flat_tree T x p s f h.left ho1 (by omega), flatL_tree T l p (s + x.size) f hr (by omega) ho2 (by omega)]
end

/-- a tree laid flat is its own tree again -/
theorem tree_flat (t : Tr) (f : Nat) (hf : t.size ≤ f) : tree (flat t (-1) 0) f 0 = t :=
  flat_tree _ t (-1) 0 f (Seg.whole _) (fun j h1 h2 => by rw [flat_len] at h2; omega) hf

end Go.Proofs.Ytnlppeieccbhgaa.Sch

namespace Go.Proofs.Ytnlppeieccbhgaa.Sch
open Plain

/-- what the parts of a type of a kind must be -/
def KC (k : Int) (ks : List Tr) : Prop :=
  (ks ≠ [] → holds k = true) ∧ (k = 4 → ∃ x, ks = [x] ∧ x.name = ⟨#[]⟩ ∧ x.no = 0 ∧ x.must = false) ∧
    (k = 5 → (∀ x ∈ ks, isName x.name = true ∧ 1 ≤ x.no ∧ x.no ≤ 30) ∧ ks.Pairwise fun a b => a.no < b.no ∧ a.name ≠ b.name)

mutual
def GT : Tr → Prop
  | .mk k n no mu mo ks => okKind ⟨k, n, no, mu, 0, mo⟩ = true ∧ KC k ks ∧ GTL ks
def GTL : List Tr → Prop
  | [] => True
  | x :: l => GT x ∧ GTL l
end

theorem GTL_iff : ∀ (l : List Tr), GTL l ↔ ∀ x ∈ l, GT x
  | [] => by simp [GTL]
  | x :: l => by rw [GTL, GTL_iff l]; simp

theorem GT_iff (t : Tr) : GT t ↔ okKind ⟨t.kind, t.name, t.no, t.must, 0, t.most⟩ = true ∧ KC t.kind t.kids ∧ ∀ x ∈ t.kids, GT x := by
  cases t with
  | mk k n no mu mo ks => rw [GT, GTL_iff]; rfl

structure Node (T : List Ty) (t : Tr) (up : Int) (i : Nat) : Prop where
  seg : Seg T i (flat t up i)
  good : GT t
  out : Out T i t.size

theorem Node.ty {T : List Ty} {t : Tr} {up : Int} {i : Nat} (h : Node T t up i) : ty T i = ⟨t.kind, t.name, t.no, t.must, up, t.most⟩ := by
  have := h.seg
  rw [flat_eq] at this
  exact this.head

theorem Node.lt {T : List Ty} {t : Tr} {up : Int} {i : Nat} (h : Node T t up i) : i + t.size ≤ T.length := by
  have := h.seg.lt
  rwa [flat_len] at this

theorem find_kid : ∀ (l : List Tr) (s i : Nat), s ≤ i → i < s + sizeL l → ∃ (idx : Nat) (x : Tr) (st : Nat), l[idx]? = some x ∧ (starts l s)[idx]? = some st ∧ st ≤ i ∧ i < st + x.size
  | [], s, i, h1, h2 => by simp [sizeL] at h2; omega
  | x :: l, s, i, h1, h2 => by
    rw [sizeL] at h2
    by_cases hi : i < s + x.size
    · exact ⟨0, x, s, rfl, rfl, h1, hi⟩
    · obtain ⟨idx, y, st, a1, a2, a3, a4⟩ := find_kid l (s + x.size) i (by omega) (by omega)
      exact ⟨idx + 1, y, st, by simpa using a1, by simpa [starts] using a2, a3, a4⟩

theorem kid_seg (T : List Ty) : ∀ (l : List Tr) (p s : Nat), Seg T s (flatL l p s) → p < s → Out T s (sizeL l) → ∀ (idx : Nat) (x : Tr) (st : Nat), l[idx]? = some x → (starts l s)[idx]? = some st → Seg T st (flat x p st) ∧ Out T st x.size
  | [], p, s, h, hp, ho, idx, x, st, h1, h2 => by simp at h1
  | y :: l, p, s, h, hp, ho, idx, x, st, h1, h2 => by
    have ho1 := out_left h hp ho
    have ho2 := out_right ho
    rw [flatL] at h
    have hr := h.right
    rw [flat_len] at hr
    cases idx with
    | zero => simp [starts] at h1 h2; subst h1; subst h2; exact ⟨h.left, ho1⟩
    | succ idx => exact kid_seg T l p (s + y.size) hr (by omega) ho2 idx x st (by simpa using h1) (by simpa [starts] using h2)

theorem Node.kid {T : List Ty} {t : Tr} {up : Int} {s : Nat} (h : Node T t up s) {idx : Nat} {x : Tr} {st : Nat} (h1 : t.kids[idx]? = some x) (h2 : (starts t.kids (s + 1))[idx]? = some st) : Node T x s st := by
  have hs := h.seg
  rw [flat_eq] at hs
  obtain ⟨a, b⟩ := kid_seg T t.kids s (s + 1) hs.tail (by omega) (out_tail h.out) idx x st h1 h2
  exact ⟨a, ((GT_iff t).1 h.good).2.2 x (List.mem_of_getElem? h1), b⟩

def IsPart (T : List Ty) (i : Nat) (t : Tr) (up : Int) : Prop := ∃ (p : Nat) (tp : Tr) (upp : Int) (idx : Nat), Node T tp upp p ∧ tp.kids[idx]? = some t ∧ (starts tp.kids (p + 1))[idx]? = some i ∧ up = (p : Int)

theorem flat_node (T : List Ty) : ∀ (n : Nat) (t : Tr) (up : Int) (s : Nat), t.size ≤ n → Node T t up s → ∀ i, s < i → i < s + t.size → ∃ t' up', Node T t' up' i ∧ IsPart T i t' up'
  | 0, t, up, s, hn, h, i, h1, h2 => by have := t.size_pos; omega
  | n + 1, t, up, s, hn, h, i, h1, h2 => by
    have hz := t.size_eq
    obtain ⟨idx, x, st, a1, a2, a3, a4⟩ := find_kid t.kids (s + 1) i (by omega) (by omega)
    have hk := h.kid a1 a2
    have hx := sizeL_mem t.kids x (List.mem_of_getElem? a1)
    by_cases hi : i = st
    · subst hi; exact ⟨x, s, hk, s, t, up, idx, h, a1, a2, rfl⟩
    · exact flat_node T n x s st (by omega) hk i (by omega) a4

theorem sorted_idx {l : List Nat} (h : l.Pairwise (· < ·)) {i j a b : Nat} (ha : l[i]? = some a) (hb : l[j]? = some b) (hab : a < b) : i < j := by
  obtain ⟨hi, rfl⟩ := List.getElem?_eq_some_iff.1 ha
  obtain ⟨hj, rfl⟩ := List.getElem?_eq_some_iff.1 hb
  by_cases hij : i < j
  · exact hij
  · exfalso
    by_cases e : i = j
    · subst e; omega
    · have := List.pairwise_iff_getElem.1 h j i hj hi (by omega)
      omega

/-- the head of a whole -/
def Top (t : Tr) : Prop := t.kind = 5 ∧ t.name = ⟨#[]⟩ ∧ t.no = 0 ∧ t.must = false

theorem gs_flat (t : Tr) (hG : GT t) (hr : Top t) (hz : t.size ≤ 30) (hd : deep t.size t ≤ 5) : gs (flat t (-1) 0) = true := by
  obtain ⟨T, hT⟩ : ∃ T, T = flat t (-1) 0 := ⟨_, rfl⟩
  have hl : T.length = t.size := by rw [hT, flat_len]
  have hN : Node T t (-1) 0 := ⟨by rw [hT]; exact Seg.whole _, hG, fun j h1 h2 => by omega⟩
  have hpos := t.size_pos
  have htree : tree T T.length 0 = t := by rw [hT]; exact tree_flat t _ (by rw [flat_len]; exact Nat.le_refl _)
  rw [← hT]
  have h00 := hN.ty
  have ups : ∀ j, 0 < j → j < T.length → 0 ≤ (ty T j).up ∧ (ty T j).up < j := fun j h1 h2 => by
    have := flat_ups T t (-1) 0 hN.seg j h1 (by omega); omega
  unfold gs
  simp only [Bool.and_eq_true, decide_eq_true_eq, List.all_eq_true, List.mem_range]
  refine ⟨⟨⟨⟨by omega, by omega⟩, fun i hi => ?_⟩, fun i hi => ?_⟩, by rw [htree, hl]; exact hd⟩
  · by_cases h0 : i = 0
    · subst h0
      unfold typeOk
      rw [if_pos rfl, h00]
      have h1 := ((GT_iff t).1 hG).1
      unfold firstOk
      obtain ⟨r1, r2, r3, r4⟩ := hr
      have e : okKind ⟨t.kind, t.name, t.no, t.must, -1, t.most⟩ = true := h1
      rw [e]
      simp [r1, r2, r3, r4]
    · obtain ⟨t', up', hn', p, tp, upp, idx, hp, hk, hst, rfl⟩ := flat_node T t.size t (-1) 0 (Nat.le_refl _) hN i (by omega) (by omega)
      have hti := hn'.ty
      have htp := hp.ty
      have hsg := starts_ge _ _ i (List.mem_of_getElem? hst)
      have hsl := starts_lt _ _ i (List.mem_of_getElem? hst)
      have hKC := ((GT_iff tp).1 hp.good).2.1
      have hne : tp.kids ≠ [] := fun e => by rw [e] at hk; simp at hk
      have hh := hKC.1 hne
      have hc : p ∈ chain T (i - 1) := flat_chain T tp upp p hp.seg (i - 1) (by omega) (by have := tp.size_eq; omega)
      have hok : okKind (ty T i) = true := by rw [hti]; exact ((GT_iff t').1 hn'.good).1
      unfold typeOk
      rw [if_neg h0, hok]
      unfold partOk
      rw [hti]
      dsimp only
      rw [Int.toNat_natCast, htp]
      dsimp only
      have e1 : decide (p ∈ chain T (i - 1)) = true := by simpa using hc
      rw [hh, e1]
      have e2 : decide ((0 : Int) ≤ (p : Int)) = true := by simp
      have e3 : decide ((p : Int) < (i : Int)) = true := by simp; omega
      rw [e2, e3]
      simp only [Bool.true_and]
      by_cases h4 : tp.kind = 4
      · rw [if_pos h4]
        obtain ⟨x, hx, b1, b2, b3⟩ := hKC.2.1 h4
        have hm := List.mem_of_getElem? hk
        rw [hx] at hm
        simp at hm
        subst hm
        unfold bare
        simp [b1, b2, b3]
      · rw [if_neg h4]
        have h5 : tp.kind = 5 := by
          unfold holds at hh
          simp at hh
          omega
        obtain ⟨a1, a2⟩ := hKC.2.2 h5
        obtain ⟨n1, n2, n3⟩ := a1 t' (List.mem_of_getElem? hk)
        have hs : sis T i = true := by
          unfold sis
          rw [decide_eq_true_eq]
          intro m hm
          unfold sisBad
          by_cases hup : (ty T m).up = (ty T i).up
          · have hui : (ty T i).up = (p : Int) := by rw [hti]
            rw [hui] at hup
            have hmp : p < m := by
              by_cases hm0 : m = 0
              · subst hm0; rw [h00] at hup; simp at hup
              · have := ups m (by omega) (by omega); omega
            have hmk : m ∈ kids T p := (mem_kids T p m).2 ⟨by omega, hmp, hup⟩
            rw [flat_kids T tp upp p hp.seg hp.out] at hmk
            obtain ⟨jdx, hj, hjm⟩ := List.getElem_of_mem hmk
            have hst' : (starts tp.kids (p + 1))[jdx]? = some m := by rw [List.getElem?_eq_getElem hj, hjm]
            rw [starts_len] at hj
            have hkj : tp.kids[jdx]? = some (tp.kids[jdx]) := List.getElem?_eq_getElem hj
            have hnm := (hp.kid hkj hst').ty
            have hlt := sorted_idx (starts_sorted tp.kids (p + 1)) hst' hst hm
            obtain ⟨hi2, hie⟩ := List.getElem?_eq_some_iff.1 hk
            have hpw := List.pairwise_iff_getElem.1 a2 jdx idx hj hi2 hlt
            rw [hie] at hpw
            rw [hnm, hti]
            dsimp only
            simp only [decide_true, Bool.true_and, Bool.or_eq_false_iff, decide_eq_false_iff_not]
            exact ⟨by omega, hpw.2⟩
          · simp [hup]
        rw [n1, hs]
        simp [n2, n3]
  · split
    · rename_i h4
      have key : ∃ t' up', Node T t' up' i := by
        by_cases h0 : i = 0
        · subst h0; exact ⟨t, -1, hN⟩
        · obtain ⟨t', up', hn', _⟩ := flat_node T t.size t (-1) 0 (Nat.le_refl _) hN i (by omega) (by omega)
          exact ⟨t', up', hn'⟩
      obtain ⟨t', up', hn'⟩ := key
      rw [hn'.ty] at h4
      obtain ⟨x, hx, _⟩ := ((GT_iff t').1 hn'.good).2.1.2.1 h4
      rw [flat_kids T t' up' i hn'.seg hn'.out, starts_len, hx]
      rfl
    · rfl

theorem gs_parts (T : List Ty) (h : gs T = true) : 1 ≤ T.length ∧ T.length ≤ 30 ∧ (∀ i, i < T.length → typeOk T i = true) ∧ (∀ i, i < T.length → (ty T i).kind = 4 → (kids T i).length = 1) ∧ deep T.length (tree T T.length 0) ≤ 5 := by
  unfold gs at h
  simp only [Bool.and_eq_true, decide_eq_true_eq, List.all_eq_true, List.mem_range] at h
  obtain ⟨⟨⟨⟨a1, a2⟩, a3⟩, a4⟩, a5⟩ := h
  refine ⟨a1, a2, a3, fun i hi h4 => ?_, a5⟩
  have := a4 i hi
  rw [if_pos h4] at this
  simpa using this

theorem chain_step (T : List Ty) (h : ∀ i, i < T.length → typeOk T i = true) (k j : Nat) (hj : j < T.length) (hk : k ∈ chain T j) (hlt : k < j) : k ∈ chain T (j - 1) := by
  have hp := part_chain T j (by omega) (h j hj)
  rw [chain_up T j ⟨hp.1, hp.2.1⟩] at hk
  rcases List.mem_cons.1 hk with hk | hk
  · omega
  · exact chain_trans T k _ (j - 1) hk hp.2.2

theorem chain_down (T : List Ty) (h : ∀ i, i < T.length → typeOk T i = true) (k : Nat) : ∀ (n j : Nat), j < T.length → k ∈ chain T j → k + n ≤ j → k ∈ chain T (j - n)
  | 0, j, _, hk, _ => hk
  | n + 1, j, hj, hk, hn => by
    have := chain_down T h k n j hj hk (by omega)
    have := chain_step T h k (j - n) (by omega) this (by omega)
    rwa [show j - n - 1 = j - (n + 1) by omega] at this

theorem kid_not_chain (T : List Ty) (k c d : Nat) (hc : c ∈ kids T k) (hd : d ∈ kids T k) (h : d ∈ chain T c) : d = c := by
  obtain ⟨c1, c2, c3⟩ := (mem_kids T k c).1 hc
  obtain ⟨d1, d2, d3⟩ := (mem_kids T k d).1 hd
  rw [chain_up T c (by omega)] at h
  rcases List.mem_cons.1 h with h | h
  · exact h
  · have := chain_le T _ d h
    omega

def SegAt (T : List Ty) (f k : Nat) : Prop := Seg T k (flat (tree T f k) (ty T k).up k) ∧ ∀ j, j < T.length → (k ∈ chain T j ↔ k ≤ j ∧ j < k + (tree T f k).size)

theorem kids_seg (T : List Ty) (h : ∀ i, i < T.length → typeOk T i = true) (f k : Nat) (hk : k < T.length) (ih : ∀ c ∈ kids T k, SegAt T f c) : ∀ (l pre : List Nat), kids T k = pre ++ l → ∀ c cs, l = c :: cs →
    Seg T c (flatL (l.map (tree T f)) k c) ∧ ∀ j, j < T.length → ((∃ d ∈ l, d ∈ chain T j) ↔ c ≤ j ∧ j < c + sizeL (l.map (tree T f)))
  | [], _, _, c, cs, e => by cases e
  | [c], pre, hpre, c', cs, e => by
    cases e
    have hcm : c ∈ kids T k := by rw [hpre]; simp
    obtain ⟨a, b⟩ := ih c hcm
    have hu : (ty T c).up = (k : Int) := ((mem_kids T k c).1 hcm).2.2
    rw [hu] at a
    refine ⟨by simpa [flatL] using a, fun j hj => ?_⟩
    rw [List.map_cons, List.map_nil, sizeL, sizeL, Nat.add_zero, ← b j hj]
    simp
  | c :: c' :: cs', pre, hpre, d, cs, e => by
    cases e
    have hcm : c ∈ kids T k := by rw [hpre]; simp
    have hcm' : c' ∈ kids T k := by rw [hpre]; simp
    obtain ⟨a, b⟩ := ih c hcm
    obtain ⟨a', b'⟩ := kids_seg T h f k hk ih (c' :: cs') (pre ++ [c]) (by rw [hpre]; simp) c' cs' rfl
    have mk := (mem_kids T k c).1 hcm
    have mk' := (mem_kids T k c').1 hcm'
    have hso := kids_sorted T k
    rw [hpre] at hso
    have hcc : c < c' := by
      have := (List.pairwise_append.1 hso).2.1
      rw [List.pairwise_cons] at this
      exact this.1 c' (by simp)
    have hz := (tree T f c).size_pos
    have hge : c + (tree T f c).size ≤ c' := by
      by_cases hlt : c' < c + (tree T f c).size
      · have := kid_not_chain T k c' c hcm' hcm ((b c' mk'.1).2 ⟨by omega, hlt⟩)
        omega
      · omega
    have heq : c' = c + (tree T f c).size := by
      by_cases he : c' = c + (tree T f c).size
      · exact he
      · exfalso
        obtain ⟨x, hx⟩ : ∃ x, x = c + (tree T f c).size := ⟨_, rfl⟩
        have hxk : k ∈ chain T x := by
          have := chain_down T h k (c' - x) c' mk'.1 (kid_chain T k c' hcm') (by omega)
          rwa [show c' - (c' - x) = x by omega] at this
        obtain ⟨d, hd, hdx⟩ := chain_split T k x (by omega) hxk (by omega)
        have hdle := chain_le T x d hdx
        have hdc : d ≤ c := by
          rw [hpre] at hd
          rcases List.mem_append.1 hd with hd | hd
          · have := (List.pairwise_append.1 hso).2.2 d hd c (by simp); omega
          · rcases List.mem_cons.1 hd with hd | hd
            · omega
            · have h2 := (List.pairwise_append.1 hso).2.1
              rw [List.pairwise_cons, List.pairwise_cons] at h2
              rcases List.mem_cons.1 hd with hd | hd
              · omega
              · have := h2.2.1 d hd; omega
        by_cases hdc' : d = c
        · subst hdc'
          have := (b x (by omega)).1 hdx
          omega
        · have hdc2 : d ∈ chain T c := by
            have := chain_down T h d (x - c) x (by omega) hdx (by omega)
            rwa [show x - (x - c) = c by omega] at this
          exact hdc' (kid_not_chain T k c d hcm hd hdc2)
    have hu : (ty T c).up = (k : Int) := mk.2.2
    rw [hu] at a
    constructor
    · rw [List.map_cons, flatL]
      refine seg_join a ?_
      rw [flat_len, ← heq]
      exact a'
    · intro j hj
      rw [List.map_cons, sizeL]
      constructor
      · rintro ⟨d, hd, hdj⟩
        rcases List.mem_cons.1 hd with rfl | hd
        · have := (b j hj).1 hdj; omega
        · have := (b' j hj).1 ⟨d, hd, hdj⟩; omega
      · rintro ⟨h1, h2⟩
        by_cases hj2 : j < c'
        · exact ⟨c, by simp, (b j hj).2 ⟨h1, by omega⟩⟩
        · obtain ⟨d, hd, hdj⟩ := (b' j hj).2 ⟨by omega, by omega⟩
          exact ⟨d, by simp [hd], hdj⟩

theorem gs_seg (T : List Ty) (h : ∀ i, i < T.length → typeOk T i = true) : ∀ (f k : Nat), k < T.length → T.length ≤ f + k → SegAt T f k
  | 0, k, hk, hf => by omega
  | f + 1, k, hk, hf => by
    have ih : ∀ c ∈ kids T k, SegAt T f c := fun c hc => by
      have := (mem_kids T k c).1 hc
      exact gs_seg T h f c this.1 (by omega)
    have et : tree T (f + 1) k = .mk (ty T k).kind (ty T k).name (ty T k).no (ty T k).must (ty T k).most ((kids T k).map (tree T f)) := rfl
    have hone := seg_one hk
    have eself : ∀ up, (⟨(ty T k).kind, (ty T k).name, (ty T k).no, (ty T k).must, up, (ty T k).most⟩ : Ty) = ⟨(ty T k).kind, (ty T k).name, (ty T k).no, (ty T k).must, up, (ty T k).most⟩ := fun _ => rfl
    unfold SegAt
    rw [et, flat, Tr.size]
    cases hks : kids T k with
    | nil =>
      rw [List.map_nil, flatL, sizeL]
      refine ⟨hone, fun j hj => ⟨fun hc => ?_, fun hc => ?_⟩⟩
      · by_cases hjk : j = k
        · omega
        · obtain ⟨c, hc1, _⟩ := chain_split T k j hj hc hjk
          rw [hks] at hc1; simp at hc1
      · obtain rfl : j = k := by omega
        exact self_chain T j
    | cons c cs =>
      obtain ⟨a, b⟩ := kids_seg T h f k hk ih (kids T k) [] rfl c cs hks
      have hc1 : c = k + 1 := by
        have hcm : c ∈ kids T k := by rw [hks]; simp
        have h1 := first_kid T h k c hcm
        have h2 := (mem_kids T k c).1 hcm
        have hso := kids_sorted T k
        rw [hks] at h1 hso
        rw [List.pairwise_cons] at hso
        rcases List.mem_cons.1 h1 with h1 | h1
        · omega
        · have := hso.1 _ h1; omega
      subst hc1
      rw [hks] at a b
      constructor
      · exact seg_join (L := [_]) hone a
      · intro j hj
        have hb := b j hj
        constructor
        · intro hc
          by_cases hjk : j = k
          · omega
          · obtain ⟨d, hd1, hd2⟩ := chain_split T k j hj hc hjk
            have := hb.1 ⟨d, by rw [← hks]; exact hd1, hd2⟩
            omega
        · rintro ⟨h1, h2⟩
          by_cases hjk : j = k
          · subst hjk; exact self_chain T j
          · obtain ⟨d, hd, hdj⟩ := hb.2 ⟨by omega, by omega⟩
            rw [← hks] at hd
            exact chain_trans T k d j (kid_chain T k d hd) hdj

theorem tree_good (T : List Ty) (h : gs T = true) : ∀ (f k : Nat), k < T.length → T.length ≤ f + k → GT (tree T f k)
  | 0, k, hk, hf => by omega
  | f + 1, k, hk, hf => by
    obtain ⟨_, _, hT, h4, _⟩ := gs_parts T h
    have et : tree T (f + 1) k = .mk (ty T k).kind (ty T k).name (ty T k).no (ty T k).must (ty T k).most ((kids T k).map (tree T f)) := rfl
    rw [GT_iff, et]
    have hok : okKind (ty T k) = true := by
      have := hT k hk
      unfold typeOk at this
      simp only [Bool.and_eq_true] at this
      exact this.1
    have hpart : ∀ c ∈ kids T k, partOk T c = true := fun c hc => by
      have m := (mem_kids T k c).1 hc
      have := hT c m.1
      unfold typeOk at this
      rw [if_neg (by omega)] at this
      simp only [Bool.and_eq_true] at this
      exact this.2
    have huc : ∀ c ∈ kids T k, (ty T c).up = (k : Int) := fun c hc => ((mem_kids T k c).1 hc).2.2
    have hroot : ∀ c, tree T f c = .mk (ty T c).kind (ty T c).name (ty T c).no (ty T c).must (ty T c).most (tree T f c).kids := fun c => by cases f <;> rfl
    have hname : ∀ c, (tree T f c).name = (ty T c).name := fun c => by rw [hroot]; rfl
    have hno : ∀ c, (tree T f c).no = (ty T c).no := fun c => by rw [hroot]; rfl
    have hmust : ∀ c, (tree T f c).must = (ty T c).must := fun c => by rw [hroot]; rfl
    have hopen : ∀ c ∈ kids T k, holds (ty T k).kind = true ∧ (if (ty T k).kind = 4 then bare (ty T c) else isName (ty T c).name && decide (1 ≤ (ty T c).no) && decide ((ty T c).no ≤ 30) && sis T c) = true := fun c hc => by
      have := hpart c hc
      unfold partOk at this
      rw [huc c hc, Int.toNat_natCast] at this
      simp only [Bool.and_eq_true] at this
      exact ⟨this.1.1.2, this.2⟩
    refine ⟨hok, ⟨fun hne => ?_, fun hk4 => ?_, fun hk5 => ?_⟩, fun x hx => ?_⟩
    · have : kids T k ≠ [] := fun e => hne (by show (kids T k).map (tree T f) = []; rw [e]; rfl)
      obtain ⟨c, cs, hc⟩ := List.exists_cons_of_ne_nil this
      exact (hopen c (by rw [hc]; simp)).1
    · have hk4' : (ty T k).kind = 4 := hk4
      have h1 := h4 k hk hk4'
      match hkk : kids T k, h1 with
      | [c], _ =>
        refine ⟨tree T f c, rfl, ?_⟩
        have := (hopen c (by rw [hkk]; simp)).2
        rw [if_pos hk4'] at this
        unfold bare at this
        simp only [Bool.and_eq_true, decide_eq_true_eq, Bool.not_eq_true'] at this
        rw [hname, hno, hmust]
        exact ⟨this.1.1, this.1.2, this.2⟩
    · have hk5' : (ty T k).kind = 5 := hk5
      have hopen5 : ∀ c ∈ kids T k, isName (ty T c).name = true ∧ 1 ≤ (ty T c).no ∧ (ty T c).no ≤ 30 ∧ sis T c = true := fun c hc => by
        have := (hopen c hc).2
        rw [if_neg (by omega)] at this
        simp only [Bool.and_eq_true, decide_eq_true_eq] at this
        exact ⟨this.1.1.1, this.1.1.2, this.1.2, this.2⟩
      show (∀ x ∈ (kids T k).map (tree T f), _) ∧ ((kids T k).map (tree T f)).Pairwise _
      constructor
      · intro x hx
        obtain ⟨c, hc, rfl⟩ := List.mem_map.1 hx
        rw [hname, hno]
        exact ⟨(hopen5 c hc).1, (hopen5 c hc).2.1, (hopen5 c hc).2.2.1⟩
      · rw [List.pairwise_map]
        refine (kids_sorted T k).imp_of_mem ?_
        intro c d hc hd hcd
        rw [hname, hno, hname, hno]
        have := (hopen5 d hd).2.2.2
        unfold sis at this
        rw [decide_eq_true_eq] at this
        have := this c hcd
        unfold sisBad at this
        rw [huc c hc, huc d hd] at this
        simp only [decide_true, Bool.true_and, Bool.or_eq_false_iff, decide_eq_false_iff_not] at this
        exact ⟨by omega, this.2⟩
    · have hx' : x ∈ (kids T k).map (tree T f) := hx
      obtain ⟨c, hc, rfl⟩ := List.mem_map.1 hx'
      have m := (mem_kids T k c).1 hc
      exact tree_good T h f c m.1 (by omega)

theorem tree_top (T : List Ty) (h : gs T = true) (f : Nat) : Top (tree T f 0) := by
  obtain ⟨h1, _, hT, _, _⟩ := gs_parts T h
  have := hT 0 (by omega)
  unfold typeOk firstOk at this
  rw [if_pos rfl] at this
  simp only [Bool.and_eq_true, decide_eq_true_eq, Bool.not_eq_true'] at this
  have hroot : tree T f 0 = .mk (ty T 0).kind (ty T 0).name (ty T 0).no (ty T 0).must (ty T 0).most (tree T f 0).kids := by cases f <;> rfl
  unfold Top
  rw [hroot]
  exact ⟨this.2.1.1.1.1, this.2.1.1.2, this.2.1.2, this.2.2⟩

/-- a good schema is its tree laid flat -/
theorem flat_of_tree (T : List Ty) (h : gs T = true) (f : Nat) (hf : T.length ≤ f) : flat (tree T f 0) (-1) 0 = T ∧ (tree T f 0).size = T.length := by
  obtain ⟨h1, _, hT, _, _⟩ := gs_parts T h
  have hu := ups_of T (by omega) hT
  obtain ⟨a, b⟩ := gs_seg T hT f 0 (by omega) (by omega)
  rw [hu.1] at a
  have hlt := a.lt
  rw [flat_len] at hlt
  have hsz : (tree T f 0).size = T.length := by
    by_cases hc : (tree T f 0).size < T.length
    · have := (b (tree T f 0).size hc).1 (root_chain T hu _ hc)
      omega
    · omega
  refine ⟨?_, hsz⟩
  obtain ⟨x, y, e, hx⟩ := a
  have hx' : x = [] := List.eq_nil_of_length_eq_zero hx
  subst hx'
  have hy : y = [] := by
    apply List.eq_nil_of_length_eq_zero
    have := congrArg List.length e
    simp [flat_len] at this
    omega
  subst hy
  simpa using e.symm

/-- a subtree is no greater than what is left -/
theorem tree_size (T : List Ty) (h : gs T = true) (f k : Nat) (hk : k < T.length) (hf : T.length ≤ f + k) : (tree T f k).size ≤ T.length - k := by
  obtain ⟨_, _, hT, _, _⟩ := gs_parts T h
  have := (gs_seg T hT f k hk hf).1.lt
  rw [flat_len] at this
  omega

end Go.Proofs.Ytnlppeieccbhgaa.Sch

namespace Go.Proofs.Ytnlppeieccbhgaa.Sch
open Plain

mutual
/-- all names are short -/
def NmT : Tr → Prop
  | .mk _ n _ _ _ ks => n.size ≤ 10 ∧ NmL ks
def NmL : List Tr → Prop
  | [] => True
  | x :: l => NmT x ∧ NmL l
end

theorem NmL_iff : ∀ (l : List Tr), NmL l ↔ ∀ x ∈ l, NmT x
  | [] => by simp [NmL]
  | x :: l => by rw [NmL, NmL_iff l]; simp

theorem NmT_iff (t : Tr) : NmT t ↔ t.name.size ≤ 10 ∧ ∀ x ∈ t.kids, NmT x := by
  cases t with
  | mk k n no mu mo ks => rw [NmT, NmL_iff]; rfl

mutual
theorem flat_names (t : Tr) (up : Int) (s : Nat) (h : NmT t) : ∀ x ∈ flat t up s, x.name.size ≤ 10 := by
  cases t with
  | mk k n no mu mo ks =>
    rw [NmT] at h
    intro x hx
    rw [flat] at hx
    rcases List.mem_cons.1 hx with rfl | hx
    · exact h.1
    · exact flatL_names ks s (s + 1) h.2 x hx
theorem flatL_names (l : List Tr) (p s : Nat) (h : NmL l) : ∀ x ∈ flatL l p s, x.name.size ≤ 10 := by
  cases l with
  | nil => intro x hx; simp [flatL] at hx
  | cons y l =>
    rw [NmL] at h
    intro x hx
    rw [flatL] at hx
    rcases List.mem_append.1 hx with hx | hx
    · exact flat_names y p s h.1 x hx
    · exact flatL_names l p (s + y.size) h.2 x hx
end

theorem isName_size {n : ByteArray} (h : isName n = true) : n.size ≤ 10 := by
  unfold isName at h
  rw [decide_eq_true_eq] at h
  exact h.2.1

mutual
theorem gt_names (t : Tr) (hn : t.name.size ≤ 10) (h : GT t) : NmT t := by
  cases t with
  | mk k n no mu mo ks =>
    rw [GT] at h
    obtain ⟨_, hk, hl⟩ := h
    rw [NmT]
    refine ⟨hn, gtl_names ks (fun x hx => ?_) hl⟩
    have hh := hk.1 (fun e => by rw [e] at hx; simp at hx)
    unfold holds at hh
    simp at hh
    rcases hh with h4 | h5
    · obtain ⟨y, rfl, hy, _⟩ := hk.2.1 h4
      simp at hx
      subst hx
      rw [hy]; simp [ByteArray.size]
    · exact isName_size ((hk.2.2 h5).1 x hx).1
theorem gtl_names (l : List Tr) (hn : ∀ x ∈ l, x.name.size ≤ 10) (h : GTL l) : NmL l := by
  cases l with
  | nil => rw [NmL]; trivial
  | cons y l =>
    rw [GTL] at h
    rw [NmL]
    exact ⟨gt_names y (hn y (by simp)) h.1, gtl_names l (fun x hx => hn x (by simp [hx])) h.2⟩
end

theorem maxL_mono {α : Type} (l : List α) (F G : α → Nat) (h : ∀ x ∈ l, F x ≤ G x) : maxL (l.map F) ≤ maxL (l.map G) := by
  rw [maxL_le]
  intro y hy
  obtain ⟨x, hx, rfl⟩ := List.mem_map.1 hy
  exact Nat.le_trans (h x hx) ((maxL_le _ _).1 (Nat.le_refl _) _ (List.mem_map.2 ⟨x, hx, rfl⟩))

theorem deep_succ : ∀ (g : Nat) (t : Tr), deep g t ≤ deep (g + 1) t
  | 0, t => by rw [deep, deep]; omega
  | g + 1, t => by
    rw [deep, deep]
    have := maxL_mono t.kids (deep g) (deep (g + 1)) (fun x _ => deep_succ g x)
    omega

theorem deep_mono (t : Tr) (g n : Nat) : deep g t ≤ deep (g + n) t := by
  induction n with
  | zero => exact Nat.le_refl _
  | succ n ih => have := deep_succ (g + n) t; rw [← Nat.add_assoc]; omega

theorem deep_fuel (t : Tr) {g g' : Nat} (h : g ≤ g') : deep g t ≤ deep g' t := by
  have := deep_mono t g (g' - g)
  rwa [show g + (g' - g) = g' by omega] at this

/-- a subtree of a good schema is at most five deep -/
theorem tree_deep (T : List Ty) (h : gs T = true) (f g k : Nat) (hk : k < T.length) (hf : T.length ≤ f + k) : deep g (tree T f k) ≤ 5 := by
  obtain ⟨h1, _, hT, _, h5⟩ := gs_parts T h
  have hu := ups_of T (by omega) hT
  rw [deep_root T hu T.length T.length 5 (by omega) (by omega) (by omega)] at h5
  have hkk : (k = 0 ∧ (ty T 0).up < 0) ∨ (0 ≤ (ty T k).up ∧ (ty T k).up < k) := by
    by_cases h0 : k = 0
    · exact .inl ⟨h0, by have := hu.1; omega⟩
    · exact .inr (hu.2 k (by omega) hk)
  have := (deep_le T 5 f (g + T.length) k hf (by omega) hk hkk).2 (fun j hj _ => h5 j hj)
  have h2 := deep_fuel (tree T f k) (show g ≤ g + T.length by omega)
  omega

/-- as a whole: without name and number -/
def bareT (t : Tr) : Tr := .mk t.kind ⟨#[]⟩ 0 false t.most t.kids

theorem bare_size (t : Tr) : (bareT t).size = t.size := by rw [Tr.size_eq, Tr.size_eq]; rfl
theorem bare_deep (t : Tr) (g : Nat) : deep g (bareT t) = deep g t := by cases g <;> rfl
theorem bare_good (t : Tr) (h : GT t) : GT (bareT t) := by
  rw [GT_iff] at h ⊢
  exact h

/-- what a tree tells: a schema, where it is a good one -/
def tell (t : Tr) : List Ty × Bool := if gs (flat t (-1) 0) = true then (flat t (-1) 0, true) else ([], false)

theorem tell_yes (t : Tr) (h : gs (flat t (-1) 0) = true) : tell t = (flat t (-1) 0, true) := by unfold tell; rw [if_pos h]
theorem tell_no (t : Tr) (h : gs (flat t (-1) 0) = false) : tell t = ([], false) := by unfold tell; rw [if_neg (by simp [h])]

theorem sub_good (T : List Ty) (h : gs T = true) (f k : Nat) (hk : k < T.length) (hf : T.length ≤ f + k) (h5 : (ty T k).kind = 5) : gs (flat (bareT (tree T f k)) (-1) 0) = true := by
  have hg := tree_good T h f k hk hf
  have hz := tree_size T h f k hk hf
  have h30 := (gs_parts T h).2.1
  refine gs_flat _ (bare_good _ hg) ⟨?_, rfl, rfl, rfl⟩ (by rw [bare_size]; omega) (by rw [bare_deep]; exact tree_deep T h f _ k hk hf)
  show (tree T f k).kind = 5
  cases f <;> exact h5

end Go.Proofs.Ytnlppeieccbhgaa.Sch
