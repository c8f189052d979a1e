/- Nodes of values, told as types without a kind (text as name, many as must, number as most): nodes that are one tree are its own tree laid flat. Values: what fits a type; nodes cut into pieces; that both ways to tell what fits are the same. Pieces of nodes: a node with all its own. -/
import Derived.Test.YtpajdmhakdbkjaaGa
import Derived.Test.YtpajdmhakdbkjaaGh
namespace Go.Proofs.Ytpajdmhakdbkjaa.Sch
open Plain

/-- each but the first is in the one ahead, or in one around that -/
def PC (T : List Ty) : Prop := ∀ i, 0 < i → i < T.length → 0 ≤ (ty T i).up ∧ (ty T i).up < i ∧ (ty T i).up.toNat ∈ chain T (i - 1)

theorem first_kidV (T : List Ty) (h : PC T) (i j : Nat) (hij : j ∈ kids T i) : i + 1 ∈ kids T i := by
  obtain ⟨j1, j2, j3⟩ := (mem_kids T i j).1 hij
  by_cases hc : i + 1 ∈ kids T i
  · exact hc
  exfalso
  have key : ∀ m, i < m → m < T.length → i ∈ chain T m → ∃ c ∈ kids T i, c ≤ m := by
    intro m hm hml hmem
    obtain ⟨c, c1, c2⟩ := chain_split T i m hml hmem (by omega)
    exact ⟨c, c1, chain_le T m c c2⟩
  have : ∀ m, m ∉ kids T i := by
    intro m
    induction m using Nat.strongRecOn with
    | ind m ih =>
      intro hm
      obtain ⟨m1, m2, m3⟩ := (mem_kids T i m).1 hm
      have hne : m ≠ i + 1 := fun e => hc (e ▸ hm)
      have hp := h m (by omega) (m1)
      have e : (ty T m).up.toNat = i := by omega
      rw [e] at hp
      obtain ⟨c, c1, c2⟩ := key (m - 1) (by omega) (by omega) hp.2.2
      exact ih c (by omega) c1
  exact this j hij

theorem chain_stepV (T : List Ty) (h : PC T) (k j : Nat) (hj : j < T.length) (hk : k ∈ chain T j) (hlt : k < j) : k ∈ chain T (j - 1) := by
  have hp := h j (by omega) (hj)
  rw [chain_up T j ⟨hp.1, hp.2.1⟩] at hk
  rcases List.mem_cons.1 hk with hk | hk
  · omega
  · exact chain_trans T k _ (j - 1) hk hp.2.2

theorem chain_downV (T : List Ty) (h : PC T) (k : Nat) : ∀ (n j : Nat), j < T.length → k ∈ chain T j → k + n ≤ j → k ∈ chain T (j - n)
  | 0, j, _, hk, _ => hk
  | n + 1, j, hj, hk, hn => by
    have := chain_downV T h k n j hj hk (by omega)
    have := chain_stepV T h k (j - n) (by omega) this (by omega)
    rwa [show j - n - 1 = j - (n + 1) by omega] at this

theorem kids_segV (T : List Ty) (h : PC T) (f k : Nat) (hk : k < T.length) (ih : ∀ c ∈ kids T k, SegAt T f c) : ∀ (l pre : List Nat), kids T k = pre ++ l → ∀ c cs, l = c :: cs →
    Seg T c (flatL (l.map (tree T f)) k c) ∧ ∀ j, j < T.length → ((∃ d ∈ l, d ∈ chain T j) ↔ c ≤ j ∧ j < c + sizeL (l.map (tree T f)))
  | [], _, _, c, cs, e => by cases e
  | [c], pre, hpre, c', cs, e => by
    cases e
    have hcm : c ∈ kids T k := by rw [hpre]; simp
    obtain ⟨a, b⟩ := ih c hcm
    have hu : (ty T c).up = (k : Int) := ((mem_kids T k c).1 hcm).2.2
    rw [hu] at a
    refine ⟨by simpa [flatL] using a, fun j hj => ?_⟩
    rw [List.map_cons, List.map_nil, sizeL, sizeL, Nat.add_zero, ← b j hj]
    simp
  | c :: c' :: cs', pre, hpre, d, cs, e => by
    cases e
    have hcm : c ∈ kids T k := by rw [hpre]; simp
    have hcm' : c' ∈ kids T k := by rw [hpre]; simp
    obtain ⟨a, b⟩ := ih c hcm
    obtain ⟨a', b'⟩ := kids_segV T h f k hk ih (c' :: cs') (pre ++ [c]) (by rw [hpre]; simp) c' cs' rfl
    have mk := (mem_kids T k c).1 hcm
    have mk' := (mem_kids T k c').1 hcm'
    have hso := kids_sorted T k
    rw [hpre] at hso
    have hcc : c < c' := by
      have := (List.pairwise_append.1 hso).2.1
      rw [List.pairwise_cons] at this
      exact this.1 c' (by simp)
    have hz := (tree T f c).size_pos
    have hge : c + (tree T f c).size ≤ c' := by
      by_cases hlt : c' < c + (tree T f c).size
      · have := kid_not_chain T k c' c hcm' hcm ((b c' mk'.1).2 ⟨by omega, hlt⟩)
        omega
      · omega
    have heq : c' = c + (tree T f c).size := by
      by_cases he : c' = c + (tree T f c).size
      · exact he
      · exfalso
        obtain ⟨x, hx⟩ : ∃ x, x = c + (tree T f c).size := ⟨_, rfl⟩
        have hxk : k ∈ chain T x := by
          have := chain_downV T h k (c' - x) c' mk'.1 (kid_chain T k c' hcm') (by omega)
          rwa [show c' - (c' - x) = x by omega] at this
        obtain ⟨d, hd, hdx⟩ := chain_split T k x (by omega) hxk (by omega)
        have hdle := chain_le T x d hdx
        have hdc : d ≤ c := by
          rw [hpre] at hd
          rcases List.mem_append.1 hd with hd | hd
          · have := (List.pairwise_append.1 hso).2.2 d hd c (by simp); omega
          · rcases List.mem_cons.1 hd with hd | hd
            · omega
            · have h2 := (List.pairwise_append.1 hso).2.1
              rw [List.pairwise_cons, List.pairwise_cons] at h2
              rcases List.mem_cons.1 hd with hd | hd
              · omega
              · have := h2.2.1 d hd; omega
        by_cases hdc' : d = c
        · subst hdc'
          have := (b x (by omega)).1 hdx
          omega
        · have hdc2 : d ∈ chain T c := by
            have := chain_downV T h d (x - c) x (by omega) hdx (by omega)
            rwa [show x - (x - c) = c by omega] at this
          exact hdc' (kid_not_chain T k c d hcm hd hdc2)
    have hu : (ty T c).up = (k : Int) := mk.2.2
    rw [hu] at a
    constructor
    · rw [List.map_cons, flatL]
      refine seg_join a ?_
      rw [flat_len, ← heq]
      exact a'
    · intro j hj
      rw [List.map_cons, sizeL]
      constructor
      · rintro ⟨d, hd, hdj⟩
        rcases List.mem_cons.1 hd with rfl | hd
        · have := (b j hj).1 hdj; omega
        · have := (b' j hj).1 ⟨d, hd, hdj⟩; omega
      · rintro ⟨h1, h2⟩
        by_cases hj2 : j < c'
        · exact ⟨c, by simp, (b j hj).2 ⟨h1, by omega⟩⟩
        · obtain ⟨d, hd, hdj⟩ := (b' j hj).2 ⟨by omega, by omega⟩
          exact ⟨d, by simp [hd], hdj⟩

theorem gs_segV (T : List Ty) (h : PC T) : ∀ (f k : Nat), k < T.length → T.length ≤ f + k → SegAt T f k
  | 0, k, hk, hf => by omega
  | f + 1, k, hk, hf => by
    have ih : ∀ c ∈ kids T k, SegAt T f c := fun c hc => by
      have := (mem_kids T k c).1 hc
      exact gs_segV T h f c this.1 (by omega)
    have et : tree T (f + 1) k = .mk (ty T k).kind (ty T k).name (ty T k).no (ty T k).must (ty T k).most ((kids T k).map (tree T f)) := rfl
    have hone := seg_one hk
    have eself : ∀ up, (⟨(ty T k).kind, (ty T k).name, (ty T k).no, (ty T k).must, up, (ty T k).most⟩ : Ty) = ⟨(ty T k).kind, (ty T k).name, (ty T k).no, (ty T k).must, up, (ty T k).most⟩ := fun _ => rfl
    unfold SegAt
    rw [et, flat, Tr.size]
    cases hks : kids T k with
    | nil =>
      rw [List.map_nil, flatL, sizeL]
      refine ⟨hone, fun j hj => ⟨fun hc => ?_, fun hc => ?_⟩⟩
      · by_cases hjk : j = k
        · omega
        · obtain ⟨c, hc1, _⟩ := chain_split T k j hj hc hjk
          rw [hks] at hc1; simp at hc1
      · obtain rfl : j = k := by omega
        exact self_chain T j
    | cons c cs =>
      obtain ⟨a, b⟩ := kids_segV T h f k hk ih (kids T k) [] rfl c cs hks
      have hc1 : c = k + 1 := by
        have hcm : c ∈ kids T k := by rw [hks]; simp
        have h1 := first_kidV T h k c hcm
        have h2 := (mem_kids T k c).1 hcm
        have hso := kids_sorted T k
        rw [hks] at h1 hso
        rw [List.pairwise_cons] at hso
        rcases List.mem_cons.1 h1 with h1 | h1
        · omega
        · have := hso.1 _ h1; omega
      subst hc1
      rw [hks] at a b
      constructor
      · exact seg_join (L := [_]) hone a
      · intro j hj
        have hb := b j hj
        constructor
        · intro hc
          by_cases hjk : j = k
          · omega
          · obtain ⟨d, hd1, hd2⟩ := chain_split T k j hj hc hjk
            have := hb.1 ⟨d, by rw [← hks]; exact hd1, hd2⟩
            omega
        · rintro ⟨h1, h2⟩
          by_cases hjk : j = k
          · subst hjk; exact self_chain T j
          · obtain ⟨d, hd, hdj⟩ := hb.2 ⟨by omega, by omega⟩
            rw [← hks] at hd
            exact chain_trans T k d j (kid_chain T k d hd) hdj

theorem flat_of_treeV (T : List Ty) (h0 : 0 < T.length) (hu0 : (ty T 0).up = -1) (h : PC T) (f : Nat) (hf : T.length ≤ f) : flat (tree T f 0) (-1) 0 = T ∧ (tree T f 0).size = T.length := by
  have hu : Ups T := ⟨hu0, fun i hi hl => ⟨(h i hi hl).1, (h i hi hl).2.1⟩⟩
  obtain ⟨a, b⟩ := gs_segV T h f 0 (by omega) (by omega)
  rw [hu.1] at a
  have hlt := a.lt
  rw [flat_len] at hlt
  have hsz : (tree T f 0).size = T.length := by
    by_cases hc : (tree T f 0).size < T.length
    · have := (b (tree T f 0).size hc).1 (root_chain T hu _ hc)
      omega
    · omega
  refine ⟨?_, hsz⟩
  obtain ⟨x, y, e, hx⟩ := a
  have hx' : x = [] := List.eq_nil_of_length_eq_zero hx
  subst hx'
  have hy : y = [] := by
    apply List.eq_nil_of_length_eq_zero
    have := congrArg List.length e
    simp [flat_len] at this
    omega
  subst hy
  simpa using e.symm

end Go.Proofs.Ytpajdmhakdbkjaa.Sch

namespace Go.Proofs.Ytpajdmhakdbkjaa
open Plain Sch

/-- nodes that are one tree, in its order -/
def ndOk (T : List Ty) (i : Nat) : Bool :=
  if i = 0 then decide ((ty T 0).up = -1) && decide ((ty T 0).no = 0)
  else decide (0 ≤ (ty T i).up) && decide ((ty T i).up < i) && (ty T (ty T i).up.toNat).must && decide ((ty T i).up.toNat ∈ chain T (i - 1))

def nds (T : List Ty) : Bool := decide (1 ≤ T.length) && decide (T.length ≤ 40) && (List.range T.length).all (ndOk T)

theorem nds_parts (T : List Ty) (h : nds T = true) : 1 ≤ T.length ∧ T.length ≤ 40 ∧ ∀ i, i < T.length → ndOk T i = true := by
  unfold nds at h
  simp only [Bool.and_eq_true, decide_eq_true_eq, List.all_eq_true, List.mem_range] at h
  exact ⟨h.1.1, h.1.2, h.2⟩

theorem nds_zero (T : List Ty) (h : ndOk T 0 = true) : (ty T 0).up = -1 ∧ (ty T 0).no = 0 := by
  unfold ndOk at h
  rw [if_pos rfl] at h
  simpa using h

theorem nds_step (T : List Ty) (i : Nat) (hi : 0 < i) (h : ndOk T i = true) : 0 ≤ (ty T i).up ∧ (ty T i).up < i ∧ (ty T i).up.toNat ∈ chain T (i - 1) ∧ (ty T (ty T i).up.toNat).must = true := by
  unfold ndOk at h
  rw [if_neg (by omega)] at h
  simp only [Bool.and_eq_true, decide_eq_true_eq] at h
  exact ⟨h.1.1.1, h.1.1.2, h.2, h.1.2⟩

/-- the head of a value against its type -/
def headOk (v t : Tr) : Bool := !(v.must != holds t.kind || decide (t.kind ≠ 2) && decide (v.name ≠ ⟨#[]⟩) || (decide (t.kind = 2) || v.must) && decide (v.most ≠ 0))

def numOk (n : Int) : Bool := decide (-1000000000 ≤ n) && decide (n ≤ 1000000000)

def riseL : List Tr → Bool
  | [] => true
  | x :: l => (match l with | [] => true | y :: _ => decide (x.no < y.no)) && riseL l

def musts (vk tk : List Tr) : Bool := tk.all fun y => !y.must || vk.any fun x => decide (x.no = y.no)

def leafOk (v t : Tr) : Bool := if t.kind = 1 then numOk v.most else if t.kind = 3 then decide (0 ≤ v.most) && decide (v.most ≤ t.most) else decide (v.name.size ≤ 30)

def isLeaf (t : Tr) : Bool := decide (t.kind = 1) || decide (t.kind = 2) || decide (t.kind = 3)

/-- as the model tells it -/
def vfitS : Nat → Tr → Tr → Bool
  | 0, v, t => headOk v t && (if isLeaf t then leafOk v t else v.kids.isEmpty)
  | d + 1, v, t => headOk v t && (if isLeaf t then leafOk v t
      else if t.kind = 4 then v.kids.all fun x => decide (x.no = 0) && (match t.kids with | y :: _ => vfitS d x y | [] => false)
      else (v.kids.all fun x => match byNo t.kids x.no with | some y => vfitS d x y | none => false) && riseL v.kids && musts v.kids t.kids)

/-- the same, where what holds nothing has nothing in it -/
def vfits : Nat → Tr → Tr → Bool
  | 0, v, t => headOk v t && (if isLeaf t then leafOk v t && v.kids.isEmpty else v.kids.isEmpty)
  | d + 1, v, t => headOk v t && (if isLeaf t then leafOk v t && v.kids.isEmpty
      else if t.kind = 4 then v.kids.all fun x => decide (x.no = 0) && (match t.kids with | y :: _ => vfits d x y | [] => false)
      else (v.kids.all fun x => match byNo t.kids x.no with | some y => vfits d x y | none => false) && riseL v.kids && musts v.kids t.kids)

mutual
/-- what has something in it is marked so -/
def MT : Tr → Prop
  | .mk _ _ _ m _ ks => (ks ≠ [] → m = true) ∧ MTL ks
def MTL : List Tr → Prop
  | [] => True
  | x :: l => MT x ∧ MTL l
end

theorem MTL_iff : ∀ (l : List Tr), MTL l ↔ ∀ x ∈ l, MT x
  | [] => by simp [MTL]
  | x :: l => by rw [MTL, MTL_iff l]; simp

theorem MT_iff (t : Tr) : MT t ↔ (t.kids ≠ [] → t.must = true) ∧ ∀ x ∈ t.kids, MT x := by
  cases t with
  | mk k n no mu mo ks => rw [MT, MTL_iff]; rfl

theorem leaf_holds {t : Tr} (h : isLeaf t = true) : holds t.kind = false := by
  unfold isLeaf at h
  unfold holds
  simp at h ⊢
  omega

theorem head_must {v t : Tr} (h : headOk v t = true) : v.must = holds t.kind := by
  unfold headOk at h
  simp only [Bool.not_eq_true', Bool.or_eq_false_iff] at h
  have := h.1.1
  simpa using this

theorem all_congr {α : Type} (l : List α) (F G : α → Bool) (h : ∀ x ∈ l, F x = G x) : l.all F = l.all G := by
  induction l with
  | nil => rfl
  | cons a l ih => rw [List.all_cons, List.all_cons, h a (by simp), ih (fun x hx => h x (by simp [hx]))]

/-- marked values fit in both ways, or in none -/
theorem vfit_eq : ∀ (d : Nat) (v t : Tr), MT v → vfitS d v t = vfits d v t
  | 0, v, t, hm => by
    rw [vfitS, vfits]
    cases hh : headOk v t with
    | false => rfl
    | true =>
      simp only [Bool.true_and]
      split
      · rename_i hl
        have h1 : v.must = false := by rw [head_must hh, leaf_holds hl]
        have h2 : v.kids = [] := by
          cases hk : v.kids with
          | nil => rfl
          | cons a l => have := ((MT_iff v).1 hm).1 (by rw [hk]; simp); rw [h1] at this; cases this
        rw [h2]; simp
      · rfl
  | d + 1, v, t, hm => by
    rw [vfitS, vfits]
    have ih := vfit_eq d
    have hk := ((MT_iff v).1 hm).2
    cases hh : headOk v t with
    | false => rfl
    | true =>
      simp only [Bool.true_and]
      split
      · rename_i hl
        have h1 : v.must = false := by rw [head_must hh, leaf_holds hl]
        have h2 : v.kids = [] := by
          cases hk : v.kids with
          | nil => rfl
          | cons a l => have := ((MT_iff v).1 hm).1 (by rw [hk]; simp); rw [h1] at this; cases this
        rw [h2]; simp
      · split
        · refine all_congr _ _ _ (fun x hx => ?_)
          cases t.kids with
          | nil => rfl
          | cons y l => dsimp only; rw [ih x y (hk x hx)]
        · rw [all_congr v.kids _ _ (fun x hx => ?_)]
          cases byNo t.kids x.no with
          | none => rfl
          | some y => dsimp only; rw [ih x y (hk x hx)]

theorem not_leaf {t : Tr} (h : isLeaf t = false) (hk : 1 ≤ t.kind ∧ t.kind ≤ 5) : holds t.kind = true := by
  unfold isLeaf at h
  unfold holds
  simp at h ⊢
  omega

mutual
/-- all kinds are kinds -/
def KT : Tr → Prop
  | .mk k _ _ _ _ ks => (1 ≤ k ∧ k ≤ 5) ∧ KTL ks
def KTL : List Tr → Prop
  | [] => True
  | x :: l => KT x ∧ KTL l
end

theorem KTL_iff : ∀ (l : List Tr), KTL l ↔ ∀ x ∈ l, KT x
  | [] => by simp [KTL]
  | x :: l => by rw [KTL, KTL_iff l]; simp

theorem KT_iff (t : Tr) : KT t ↔ (1 ≤ t.kind ∧ t.kind ≤ 5) ∧ ∀ x ∈ t.kids, KT x := by
  cases t with
  | mk k n no mu mo ks => rw [KT, KTL_iff]; rfl

/-- what fits is marked -/
theorem vfits_marked : ∀ (d : Nat) (v t : Tr), KT t → vfits d v t = true → MT v
  | 0, v, t, hk, h => by
    rw [vfits] at h
    simp only [Bool.and_eq_true] at h
    have h2 : v.kids = [] := by
      have := h.2
      split at this
      · simp at this; exact this.2
      · simpa using this
    rw [MT_iff, h2]
    exact ⟨fun hn => absurd rfl hn, fun x hx => by simp at hx⟩
  | d + 1, v, t, hk, h => by
    rw [vfits] at h
    simp only [Bool.and_eq_true] at h
    obtain ⟨hh, h⟩ := h
    have hkk := (KT_iff t).1 hk
    have hmu := head_must hh
    rw [MT_iff]
    split at h
    · have h2 : v.kids = [] := by simp at h; exact h.2
      rw [h2]
      exact ⟨fun hn => absurd rfl hn, fun x hx => by simp at hx⟩
    · rename_i hl
      have hho := not_leaf (by simpa using hl) hkk.1
      refine ⟨fun _ => by rw [hmu, hho], fun x hx => ?_⟩
      split at h
      · have := List.all_eq_true.1 h x hx
        simp only [Bool.and_eq_true] at this
        have h3 := this.2
        cases hc : t.kids with
        | nil => rw [hc] at h3; simp at h3
        | cons y l =>
          rw [hc] at h3
          exact vfits_marked d x y (hkk.2 y (by rw [hc]; simp)) h3
      · simp only [Bool.and_eq_true] at h
        have := List.all_eq_true.1 h.1.1 x hx
        cases hc : byNo t.kids x.no with
        | none => rw [hc] at this; simp at this
        | some y =>
          rw [hc] at this
          exact vfits_marked d x y (hkk.2 y (byNo_mem _ _ _ hc)) this

mutual
theorem flat_par (T : List Ty) (t : Tr) (up : Int) (s : Nat) (h : Seg T s (flat t up s)) (hm : MT t) : ∀ j, s < j → j < s + t.size → ∃ p : Nat, (ty T j).up = (p : Int) ∧ p < j ∧ p ∈ chain T (j - 1) ∧ (ty T p).must = true := by
  cases t with
  | mk k n no mu mo ks =>
    intro j h1 h2
    rw [Tr.size] at h2
    rw [flat] at h
    rw [MT] at hm
    refine flatL_par T ks s (s + 1) h.tail (by omega) (fun hne => ?_) (by rw [Nat.add_sub_cancel]; exact self_chain T s) hm.2 j (by omega) (by omega)
    rw [h.head]
    exact hm.1 hne
theorem flatL_par (T : List Ty) (l : List Tr) (p s : Nat) (h : Seg T s (flatL l p s)) (hp : p < s) (hpm : l ≠ [] → (ty T p).must = true) (hc : p ∈ chain T (s - 1)) (hm : MTL l) : ∀ j, s ≤ j → j < s + sizeL l → ∃ p : Nat, (ty T j).up = (p : Int) ∧ p < j ∧ p ∈ chain T (j - 1) ∧ (ty T p).must = true := by
  cases l with
  | nil => intro j h1 h2; simp [sizeL] at h2; omega
  | cons x l =>
    intro j h1 h2
    rw [flatL] at h
    rw [sizeL] at h2
    rw [MTL] at hm
    have h4 : (ty T s).up = (p : Int) := by
      have := h.left
      rw [flat_eq] at this
      rw [this.head]
    by_cases hj : j < s + x.size
    · by_cases hs : j = s
      · subst hs
        exact ⟨p, h4, hp, hc, hpm (by simp)⟩
      · exact flat_par T x p s h.left hm.1 j (by omega) hj
    · have hr := h.right
      rw [flat_len] at hr
      have hps := x.size_pos
      refine flatL_par T l p (s + x.size) hr (by omega) (fun _ => hpm (by simp)) ?_ hm.2 j (by omega) (by omega)
      have h5 := flat_chain T x p s h.left (s + x.size - 1) (by omega) (by omega)
      refine chain_trans T p s _ ?_ h5
      rw [chain_up T s (by omega), h4, Int.toNat_natCast]
      exact List.mem_cons_of_mem _ (self_chain T p)
end

theorem nds_flat (v : Tr) (hm : MT v) (hn : v.no = 0) (hz : v.size ≤ 40) : nds (flat v (-1) 0) = true := by
  obtain ⟨T, hT⟩ : ∃ T, T = flat v (-1) 0 := ⟨_, rfl⟩
  have hl : T.length = v.size := by rw [hT, flat_len]
  have hs : Seg T 0 (flat v (-1) 0) := by rw [hT]; exact Seg.whole _
  have hpos := v.size_pos
  rw [← hT]
  unfold nds
  simp only [Bool.and_eq_true, decide_eq_true_eq, List.all_eq_true, List.mem_range]
  refine ⟨⟨by omega, by omega⟩, fun i hi => ?_⟩
  unfold ndOk
  by_cases h0 : i = 0
  · subst h0
    rw [if_pos rfl]
    rw [flat_eq] at hs
    rw [hs.head]
    simp [hn]
  · rw [if_neg h0]
    obtain ⟨p, h1, h2, h3, h4⟩ := flat_par T v (-1) 0 hs hm i (by omega) (by omega)
    rw [h1, Int.toNat_natCast, h4]
    simp [h3]
    omega

/-- nodes in a tree's order are marked as a tree -/
theorem tree_marked (T : List Ty) (h : ∀ i, i < T.length → ndOk T i = true) : ∀ (f k : Nat), k < T.length → MT (tree T f k)
  | 0, k, hk => by
    rw [MT_iff]
    exact ⟨fun hn => absurd rfl hn, fun x hx => by simp [tree, Tr.kids] at hx⟩
  | f + 1, k, hk => by
    rw [MT_iff]
    have e : (tree T (f + 1) k).kids = (kids T k).map (tree T f) := rfl
    refine ⟨fun hn => ?_, fun x hx => ?_⟩
    · rw [e] at hn
      show (ty T k).must = true
      cases hc : kids T k with
      | nil => rw [hc] at hn; simp at hn
      | cons c l =>
        have hm := (mem_kids T k c).1 (by rw [hc]; simp)
        have := (nds_step T c (by omega) (h c hm.1)).2.2.2
        rw [hm.2.2, Int.toNat_natCast] at this
        exact this
    · rw [e] at hx
      obtain ⟨c, hc, rfl⟩ := List.mem_map.1 hx
      exact tree_marked T h f c ((mem_kids T k c).1 hc).1

theorem nds_pc (T : List Ty) (h : ∀ i, i < T.length → ndOk T i = true) : PC T := fun i hi hl => by
  have := nds_step T i hi (h i hl)
  exact ⟨this.1, this.2.1, this.2.2.1⟩

/-- both ways to tell what fits are the same -/
theorem fits_eq (V : List Ty) (t : Tr) (d f : Nat) (h1 : 1 ≤ V.length) (h40 : V.length ≤ 40) (hf : V.length ≤ f) (hk : KT t) (hn : t.no = 0) :
    (nds V && vfitS d (tree V f 0) t) = true ↔ ∃ v, V = flat v (-1) 0 ∧ v.no = t.no ∧ vfits d v t = true := by
  constructor
  · intro h
    simp only [Bool.and_eq_true] at h
    obtain ⟨ha, hb⟩ := h
    obtain ⟨_, _, hall⟩ := nds_parts V ha
    have h0 := nds_zero V (hall 0 (by omega))
    have hft := (flat_of_treeV V (by omega) h0.1 (nds_pc V hall) f hf).1
    refine ⟨tree V f 0, hft.symm, ?_, ?_⟩
    · rw [hn]
      cases f <;> exact h0.2
    · rw [← vfit_eq d _ _ (tree_marked V hall f 0 (by omega))]
      exact hb
  · rintro ⟨v, rfl, hv, hb⟩
    have hm := vfits_marked d v t hk hb
    rw [flat_len] at hf h40
    rw [tree_flat v f hf, vfit_eq d v t hm, hb, nds_flat v hm (by rw [hv, hn]) h40]
    rfl

end Go.Proofs.Ytpajdmhakdbkjaa

namespace Go.Proofs.Ytpajdmhakdbkjaa
open Plain Sch

/-- nodes cut at each that says it is in p -/
def own (p : Nat) : Nat → List Ty → List (Nat × List Ty)
  | _, [] => []
  | s, x :: l => match own p (s + 1) l with
    | [] => [(s, [x])]
    | (s', y) :: r => if (ty y 0).up = (p : Int) then (s, [x]) :: (s', y) :: r else (s, x :: y) :: r

theorem own_head (p : Nat) : ∀ (s : Nat) (x : Ty) (l : List Ty), ∃ m r, own p s (x :: l) = (s, x :: m) :: r
  | s, x, l => by
    rw [own]
    split
    · exact ⟨_, _, rfl⟩
    · split
      · exact ⟨_, _, rfl⟩
      · exact ⟨_, _, rfl⟩

theorem own_cut (p : Nat) : ∀ (m s : Nat) (x : Ty) (l : List Ty), m ≤ l.length → (∀ j, j < m → (ty l j).up ≠ (p : Int)) → (m = l.length ∨ (ty l m).up = (p : Int)) → own p s (x :: l) = (s, x :: l.take m) :: own p (s + 1 + m) (l.drop m)
  | 0, s, x, [], _, _, _ => rfl
  | 0, s, x, y :: l, _, _, h => by
    have hy : y.up = (p : Int) := by
      rcases h with h | h
      · simp at h
      · exact h
    obtain ⟨m, r, e⟩ := own_head p (s + 1) y l
    rw [own, e]
    show (if (ty (y :: m) 0).up = (p : Int) then _ else _) = _
    rw [if_pos (by exact hy)]
    rw [List.take_zero, List.drop_zero, Nat.add_zero, e]
  | m + 1, s, x, [], h, _, _ => by simp at h
  | m + 1, s, x, y :: l, hl, hall, hend => by
    have hy : y.up ≠ (p : Int) := hall 0 (by omega)
    have ih := own_cut p m (s + 1) y l (by simpa using hl) (fun j hj => by have := hall (j + 1) (by omega); simpa [ty] using this) (by
      rcases hend with h | h
      · exact .inl (by simpa using h)
      · exact .inr (by simpa [ty] using h))
    rw [own, ih]
    show (if (ty (y :: l.take m) 0).up = (p : Int) then _ else _) = _
    rw [if_neg (by exact hy)]
    rw [List.take_succ_cons, List.drop_succ_cons, show s + 1 + (m + 1) = s + 1 + 1 + m by omega]

/-- trees side by side, as pieces -/
def segs : List Tr → Nat → Nat → List (Nat × List Ty)
  | [], _, _ => []
  | x :: l, p, s => (s, flat x p s) :: segs l p (s + x.size)

mutual
theorem flat_ge (t : Tr) (s : Nat) : ∀ y ∈ flatL t.kids s (s + 1), (s : Int) ≤ y.up := by
  cases t with
  | mk k n no mu mo ks => exact flatL_ge ks s (s + 1) (by omega)
theorem flatL_ge (l : List Tr) (p s : Nat) (hp : p < s) : ∀ y ∈ flatL l p s, (p : Int) ≤ y.up := by
  cases l with
  | nil => intro y hy; simp [flatL] at hy
  | cons x l =>
    intro y hy
    rw [flatL, flat_eq] at hy
    rcases List.mem_append.1 hy with hy | hy
    · rcases List.mem_cons.1 hy with rfl | hy
      · exact Int.le_refl _
      · have := flat_ge x s y hy; omega
    · exact flatL_ge l p (s + x.size) (by omega) y hy
end

theorem ty_append_left {a b : List Ty} {j : Nat} (h : j < a.length) : ty (a ++ b) j = ty a j := by
  unfold ty
  rw [List.getD_eq_getElem?_getD, List.getD_eq_getElem?_getD, List.getElem?_append_left h]

theorem ty_mem {l : List Ty} {j : Nat} (h : j < l.length) : ty l j ∈ l := by
  unfold ty
  rw [List.getD_eq_getElem?_getD, List.getElem?_eq_getElem h]
  exact List.getElem_mem h

/-- trees laid flat are cut into their pieces -/
theorem own_flat (p : Nat) : ∀ (l : List Tr) (s : Nat), p < s → own p s (flatL l p s) = segs l p s
  | [], s, _ => rfl
  | x :: l, s, hp => by
    have hlen : (flatL x.kids s (s + 1)).length = x.size - 1 := by rw [flatL_len, Tr.size_eq]; omega
    have hpos := x.size_pos
    have c1 : x.size - 1 ≤ (flatL x.kids s (s + 1) ++ flatL l p (s + x.size)).length := by rw [List.length_append]; omega
    have c2 : ∀ j, j < x.size - 1 → (ty (flatL x.kids s (s + 1) ++ flatL l p (s + x.size)) j).up ≠ (p : Int) := fun j hj => by
      rw [ty_append_left (by omega)]
      have := flat_ge x s _ (ty_mem (l := flatL x.kids s (s + 1)) (j := j) (by omega))
      omega
    have c3 : x.size - 1 = (flatL x.kids s (s + 1) ++ flatL l p (s + x.size)).length ∨ (ty (flatL x.kids s (s + 1) ++ flatL l p (s + x.size)) (x.size - 1)).up = (p : Int) := by
      cases l with
      | nil => exact .inl (by simp [flatL, hlen])
      | cons y l =>
        refine .inr ?_
        rw [flatL, flat_eq y]
        unfold ty
        rw [List.getD_eq_getElem?_getD, List.getElem?_append_right (by omega), hlen, Nat.sub_self]
        rfl
    rw [flatL, flat_eq, List.cons_append, own_cut p (x.size - 1) s _ _ c1 c2 c3]
    rw [List.take_append_of_le_length (by omega), List.take_of_length_le (by omega), List.drop_append_of_le_length (by omega), List.drop_of_length_le (by omega), List.nil_append, show s + 1 + (x.size - 1) = s + x.size by omega, own_flat p l (s + x.size) (by omega), segs, flat_eq]

theorem own_join (p : Nat) : ∀ (s : Nat) (l : List Ty), (own p s l).flatMap Prod.snd = l
  | _, [] => rfl
  | s, x :: l => by
    have ih := own_join p (s + 1) l
    rw [own]
    split
    · rename_i h
      rw [h] at ih
      simp at ih ⊢
      exact ih
    · rename_i h
      rw [h] at ih
      split <;> (simp at ih ⊢; exact ih)

theorem segs_join (p : Nat) : ∀ (l : List Tr) (s : Nat), (segs l p s).flatMap Prod.snd = flatL l p s
  | [], _ => rfl
  | x :: l, s => by rw [segs, flatL, List.flatMap_cons, segs_join p l]

theorem own_segs {p s : Nat} {M : List Ty} {vs : List Tr} (h : own p s M = segs vs p s) : M = flatL vs p s := by
  rw [← own_join p s M, h, segs_join]

/-- pieces that stand side by side from s on -/
def Run : Nat → List (Nat × List Ty) → Prop
  | _, [] => True
  | s, q :: r => q.1 = s ∧ q.2 ≠ [] ∧ Run (s + q.2.length) r

theorem own_run (p : Nat) : ∀ (s : Nat) (l : List Ty), Run s (own p s l)
  | _, [] => trivial
  | s, x :: l => by
    have ih := own_run p (s + 1) l
    rw [own]
    split
    · exact ⟨rfl, by simp, trivial⟩
    · rename_i s' y r h
      rw [h] at ih
      split
      · exact ⟨rfl, by simp, ih⟩
      · refine ⟨rfl, by simp, ?_⟩
        have := ih.2.2
        show Run (s + (y.length + 1)) r
        rwa [show s + (y.length + 1) = s + 1 + y.length by omega]

/-- whether a piece is that of a value that fits a type -/
def Fp (d : Nat) (up : Int) (q : Nat × List Ty) (t : Tr) : Prop := ∃ v, q.2 = flat v up q.1 ∧ v.no = t.no ∧ vfits d v t = true

theorem run_list (d p : Nat) (it : Tr) (hit : it.no = 0) : ∀ (P : List (Nat × List Ty)) (s : Nat), Run s P → ((∀ q ∈ P, Fp d p q it) ↔ ∃ vs, P = segs vs p s ∧ (vs.all fun x => decide (x.no = 0) && vfits d x it) = true)
  | [], s, _ => by
    constructor
    · intro _; exact ⟨[], rfl, rfl⟩
    · intro _ q hq; simp at hq
  | (s', L) :: P, s, h => by
    obtain ⟨h1, _, h2⟩ := h
    dsimp only at h1 h2
    subst h1
    constructor
    · intro hall
      obtain ⟨v, hv, hno, hf⟩ := hall (s', L) (by simp)
      dsimp only at hv
      have hlen : L.length = v.size := by rw [hv, flat_len]
      obtain ⟨vs, hvs, hf2⟩ := (run_list d p it hit P _ h2).1 (fun q hq => hall q (by simp [hq]))
      rw [hlen] at hvs
      refine ⟨v :: vs, by rw [segs, hv, hvs], ?_⟩
      rw [List.all_cons, hf2, hf, hno, hit]
      rfl
    · rintro ⟨vs, hvs, hf⟩
      cases vs with
      | nil => simp [segs] at hvs
      | cons v vs =>
        rw [segs] at hvs
        simp only [List.cons.injEq, Prod.mk.injEq, true_and] at hvs
        obtain ⟨hL, hP⟩ := hvs
        rw [List.all_cons] at hf
        simp only [Bool.and_eq_true, decide_eq_true_eq] at hf
        have hlen : L.length = v.size := by rw [hL, flat_len]
        rw [hlen] at h2
        intro q hq
        rcases List.mem_cons.1 hq with rfl | hq
        · exact ⟨v, hL, by rw [hf.1.1, hit], hf.1.2⟩
        · exact (run_list d p it hit P _ h2).2 ⟨vs, hP, by simpa using hf.2⟩ q hq

/-- parts are gone through in their order, pieces taken where their numbers are the same -/
def GoP (F : Nat × List Ty → Tr → Prop) : List Tr → List (Nat × List Ty) → Prop
  | [], P => P = []
  | y :: ys, [] => y.must = false ∧ GoP F ys []
  | y :: ys, q :: r => ((ty q.2 0).no = y.no ∧ F q y ∧ GoP F ys r) ∨ ((ty q.2 0).no ≠ y.no ∧ y.must = false ∧ GoP F ys (q :: r))

theorem byNo_noV : ∀ (l : List Tr) (n : Int) (y : Tr), byNo l n = some y → y.no = n
  | [], _, _, h => by simp [byNo] at h
  | a :: l, n, y, h => by
    rw [byNo] at h
    split at h
    · cases h; assumption
    · exact byNo_noV l n y h

theorem rise_cons {v : Tr} {vs : List Tr} : riseL (v :: vs) = true ↔ (∀ x ∈ vs, v.no < x.no) ∧ riseL vs = true := by
  induction vs generalizing v with
  | nil => simp [riseL]
  | cons y l ih =>
    have e : riseL (v :: y :: l) = (decide (v.no < y.no) && riseL (y :: l)) := rfl
    rw [e]
    constructor
    · intro h
      simp only [Bool.and_eq_true, decide_eq_true_eq] at h
      refine ⟨fun x hx => ?_, h.2⟩
      rcases List.mem_cons.1 hx with rfl | hx
      · exact h.1
      · have := (ih.1 h.2).1 x hx; omega
    · intro h
      simp only [Bool.and_eq_true, decide_eq_true_eq]
      exact ⟨h.1 y (by simp), h.2⟩

def KidsFit (d : Nat) (vs ys : List Tr) : Prop := (∀ x ∈ vs, ∃ y, byNo ys x.no = some y ∧ vfits d x y = true) ∧ riseL vs = true ∧ ∀ y ∈ ys, y.must = true → ∃ x ∈ vs, x.no = y.no

theorem run_parts (d p : Nat) : ∀ (ys : List Tr) (P : List (Nat × List Ty)) (s : Nat), (ys.Pairwise fun a b => a.no < b.no) → Run s P → (GoP (Fp d p) ys P ↔ ∃ vs, P = segs vs p s ∧ KidsFit d vs ys)
  | [], P, s, _, hr => by
    rw [GoP]
    constructor
    · rintro rfl
      exact ⟨[], rfl, fun x hx => by simp at hx, rfl, fun y hy => by simp at hy⟩
    · rintro ⟨vs, rfl, h1, _⟩
      cases vs with
      | nil => rfl
      | cons v vs => obtain ⟨y, hy, _⟩ := h1 v (by simp); simp [byNo] at hy
  | y :: ys, [], s, hp, hr => by
    have hp' := List.pairwise_cons.1 hp
    have ih := run_parts d p ys [] s hp'.2 trivial
    rw [GoP, ih]
    constructor
    · rintro ⟨hm, vs, hvs, _, _, h3⟩
      cases vs with
      | nil =>
        refine ⟨[], rfl, fun x hx => by simp at hx, rfl, fun z hz hzm => ?_⟩
        rcases List.mem_cons.1 hz with rfl | hz
        · rw [hm] at hzm; cases hzm
        · exact h3 z hz hzm
      | cons v vs => simp [segs] at hvs
    · rintro ⟨vs, hvs, _, _, h3⟩
      cases vs with
      | nil =>
        refine ⟨?_, [], rfl, fun x hx => by simp at hx, rfl, fun z hz hzm => h3 z (by simp [hz]) hzm⟩
        cases hm : y.must with
        | false => rfl
        | true => obtain ⟨x, hx, _⟩ := h3 y (by simp) hm; simp at hx
      | cons v vs => simp [segs] at hvs
  | y :: ys, (s', L) :: P, s, hp, hr => by
    have hp' := List.pairwise_cons.1 hp
    have hr0 := hr
    obtain ⟨h1, hL0, h2⟩ := hr
    dsimp only at h1 h2 hL0
    subst h1
    have ih1 := run_parts d p ys ((s', L) :: P) s' hp'.2 hr0
    rw [GoP]
    constructor
    · rintro (⟨he, ⟨v, hv, hvn, hvf⟩, hg⟩ | ⟨he, hm, hg⟩)
      · dsimp only at he hv
        have hlen : L.length = v.size := by rw [hv, flat_len]
        obtain ⟨vs, hvs, k1, k2, k3⟩ := (run_parts d p ys P (s' + L.length) hp'.2 h2).1 hg
        rw [hlen] at hvs
        refine ⟨v :: vs, by rw [segs, hv, hvs], fun x hx => ?_, rise_cons.2 ⟨fun x hx => ?_, k2⟩, fun z hz hzm => ?_⟩
        · rcases List.mem_cons.1 hx with rfl | hx
          · exact ⟨y, by rw [byNo, if_pos hvn.symm], hvf⟩
          · obtain ⟨z, hz, hzf⟩ := k1 x hx
            have h3 := byNo_noV _ _ _ hz
            have h4 := hp'.1 z (byNo_mem _ _ _ hz)
            exact ⟨z, by rw [byNo, if_neg (by omega)]; exact hz, hzf⟩
        · obtain ⟨z, hz, _⟩ := k1 x hx
          have h3 := byNo_noV _ _ _ hz
          have h4 := hp'.1 z (byNo_mem _ _ _ hz)
          omega
        · rcases List.mem_cons.1 hz with rfl | hz
          · exact ⟨v, by simp, hvn⟩
          · obtain ⟨x, hx, hxn⟩ := k3 z hz hzm
            exact ⟨x, by simp [hx], hxn⟩
      · obtain ⟨vs, hvs, k1, k2, k3⟩ := ih1.1 hg
        refine ⟨vs, hvs, fun x hx => ?_, k2, fun z hz hzm => ?_⟩
        · obtain ⟨z, hz, hzf⟩ := k1 x hx
          have h3 := byNo_noV _ _ _ hz
          have h4 := hp'.1 z (byNo_mem _ _ _ hz)
          exact ⟨z, by rw [byNo, if_neg (by omega)]; exact hz, hzf⟩
        · rcases List.mem_cons.1 hz with rfl | hz
          · rw [hm] at hzm; cases hzm
          · exact k3 z hz hzm
    · rintro ⟨vs, hvs, k1, k2, k3⟩
      cases vs with
      | nil => simp [segs] at hvs
      | cons v vs =>
        have hvs0 := hvs
        rw [segs] at hvs
        simp only [List.cons.injEq, Prod.mk.injEq, true_and] at hvs
        obtain ⟨hL, hP⟩ := hvs
        have hno : (ty L 0).no = v.no := by rw [hL, flat_eq]; rfl
        have hlen : L.length = v.size := by rw [hL, flat_len]
        obtain ⟨r1, r2⟩ := rise_cons.1 k2
        by_cases he : v.no = y.no
        · refine .inl ⟨by dsimp only; rw [hno, he], ?_, ?_⟩
          · obtain ⟨z, hz, hzf⟩ := k1 v (by simp)
            rw [byNo, if_pos he.symm] at hz
            cases hz
            exact ⟨v, hL, he, hzf⟩
          · refine (run_parts d p ys P (s' + L.length) hp'.2 h2).2 ⟨vs, by rw [hlen]; exact hP, fun x hx => ?_, r2, fun z hz hzm => ?_⟩
            · obtain ⟨z, hz, hzf⟩ := k1 x (by simp [hx])
              have := r1 x hx
              rw [byNo, if_neg (by omega)] at hz
              exact ⟨z, hz, hzf⟩
            · obtain ⟨x, hx, hxn⟩ := k3 z (by simp [hz]) hzm
              have h4 := hp'.1 z hz
              rcases List.mem_cons.1 hx with rfl | hx
              · omega
              · exact ⟨x, hx, hxn⟩
        · have hgt : ∀ x ∈ v :: vs, ∃ z, byNo ys x.no = some z ∧ vfits d x z = true := by
            intro x hx
            obtain ⟨z, hz, hzf⟩ := k1 x hx
            have hxy : x.no ≠ y.no := by
              rcases List.mem_cons.1 hx with rfl | hx'
              · exact he
              · obtain ⟨z0, hz0, _⟩ := k1 v (by simp)
                rw [byNo, if_neg (by omega)] at hz0
                have h3 := byNo_noV _ _ _ hz0
                have h4 := hp'.1 z0 (byNo_mem _ _ _ hz0)
                have := r1 x hx'
                omega
            rw [byNo, if_neg (by omega)] at hz
            exact ⟨z, hz, hzf⟩
          refine .inr ⟨by dsimp only; rw [hno]; exact he, ?_, ih1.2 ⟨v :: vs, hvs0, hgt, k2, fun z hz hzm => k3 z (by simp [hz]) hzm⟩⟩
          cases hm : y.must with
          | false => rfl
          | true =>
            obtain ⟨x, hx, hxn⟩ := k3 y (by simp) hm
            obtain ⟨z, hz, _⟩ := hgt x hx
            have h3 := byNo_noV _ _ _ hz
            have h4 := hp'.1 z (byNo_mem _ _ _ hz)
            omega

end Go.Proofs.Ytpajdmhakdbkjaa
