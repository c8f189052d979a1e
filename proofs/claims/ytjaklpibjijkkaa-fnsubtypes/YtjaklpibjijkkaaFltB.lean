/- A good tree laid flat is a good schema; a good schema is its own tree laid flat, and that tree is good. -/
import Derived.Test.YtjaklpibjijkkaaFltA
namespace Go.Proofs.Ytjaklpibjijkkaa.Sch
open Plain

/-- what the parts of a type of a kind must be -/
def KC (k : Int) (ks : List Tr) : Prop :=
  (ks ≠ [] → holds k = true) ∧ (k = 4 → ∃ x, ks = [x] ∧ x.name = ⟨#[]⟩ ∧ x.no = 0 ∧ x.must = false) ∧
    (k = 5 → (∀ x ∈ ks, isName x.name = true ∧ 1 ≤ x.no ∧ x.no ≤ 30) ∧ ks.Pairwise fun a b => a.no < b.no ∧ a.name ≠ b.name)

mutual
def GT : Tr → Prop
  | .mk k n no mu mo ks => okKind ⟨k, n, no, mu, 0, mo⟩ = true ∧ KC k ks ∧ GTL ks
def GTL : List Tr → Prop
  | [] => True
  | x :: l => GT x ∧ GTL l
end

theorem GTL_iff : ∀ (l : List Tr), GTL l ↔ ∀ x ∈ l, GT x
  | [] => by simp [GTL]
  | x :: l => by rw [GTL, GTL_iff l]; simp

theorem GT_iff (t : Tr) : GT t ↔ okKind ⟨t.kind, t.name, t.no, t.must, 0, t.most⟩ = true ∧ KC t.kind t.kids ∧ ∀ x ∈ t.kids, GT x := by
  cases t with
  | mk k n no mu mo ks => rw [GT, GTL_iff]; rfl

structure Node (T : List Ty) (t : Tr) (up : Int) (i : Nat) : Prop where
  seg : Seg T i (flat t up i)
  good : GT t
  out : Out T i t.size

theorem Node.ty {T : List Ty} {t : Tr} {up : Int} {i : Nat} (h : Node T t up i) : ty T i = ⟨t.kind, t.name, t.no, t.must, up, t.most⟩ := by
  have := h.seg
  rw [flat_eq] at this
  exact this.head

theorem Node.lt {T : List Ty} {t : Tr} {up : Int} {i : Nat} (h : Node T t up i) : i + t.size ≤ T.length := by
  have := h.seg.lt
  rwa [flat_len] at this

theorem find_kid : ∀ (l : List Tr) (s i : Nat), s ≤ i → i < s + sizeL l → ∃ (idx : Nat) (x : Tr) (st : Nat), l[idx]? = some x ∧ (starts l s)[idx]? = some st ∧ st ≤ i ∧ i < st + x.size
  | [], s, i, h1, h2 => by simp [sizeL] at h2; omega
  | x :: l, s, i, h1, h2 => by
    rw [sizeL] at h2
    by_cases hi : i < s + x.size
    · exact ⟨0, x, s, rfl, rfl, h1, hi⟩
    · obtain ⟨idx, y, st, a1, a2, a3, a4⟩ := find_kid l (s + x.size) i (by omega) (by omega)
      exact ⟨idx + 1, y, st, by simpa using a1, by simpa [starts] using a2, a3, a4⟩

theorem kid_seg (T : List Ty) : ∀ (l : List Tr) (p s : Nat), Seg T s (flatL l p s) → p < s → Out T s (sizeL l) → ∀ (idx : Nat) (x : Tr) (st : Nat), l[idx]? = some x → (starts l s)[idx]? = some st → Seg T st (flat x p st) ∧ Out T st x.size
  | [], p, s, h, hp, ho, idx, x, st, h1, h2 => by simp at h1
  | y :: l, p, s, h, hp, ho, idx, x, st, h1, h2 => by
    have ho1 := out_left h hp ho
    have ho2 := out_right ho
    rw [flatL] at h
    have hr := h.right
    rw [flat_len] at hr
    cases idx with
    | zero => simp [starts] at h1 h2; subst h1; subst h2; exact ⟨h.left, ho1⟩
    | succ idx => exact kid_seg T l p (s + y.size) hr (by omega) ho2 idx x st (by simpa using h1) (by simpa [starts] using h2)

theorem Node.kid {T : List Ty} {t : Tr} {up : Int} {s : Nat} (h : Node T t up s) {idx : Nat} {x : Tr} {st : Nat} (h1 : t.kids[idx]? = some x) (h2 : (starts t.kids (s + 1))[idx]? = some st) : Node T x s st := by
  have hs := h.seg
  rw [flat_eq] at hs
  obtain ⟨a, b⟩ := kid_seg T t.kids s (s + 1) hs.tail (by omega) (out_tail h.out) idx x st h1 h2
  exact ⟨a, ((GT_iff t).1 h.good).2.2 x (List.mem_of_getElem? h1), b⟩

def IsPart (T : List Ty) (i : Nat) (t : Tr) (up : Int) : Prop := ∃ (p : Nat) (tp : Tr) (upp : Int) (idx : Nat), Node T tp upp p ∧ tp.kids[idx]? = some t ∧ (starts tp.kids (p + 1))[idx]? = some i ∧ up = (p : Int)

theorem flat_node (T : List Ty) : ∀ (n : Nat) (t : Tr) (up : Int) (s : Nat), t.size ≤ n → Node T t up s → ∀ i, s < i → i < s + t.size → ∃ t' up', Node T t' up' i ∧ IsPart T i t' up'
  | 0, t, up, s, hn, h, i, h1, h2 => by have := t.size_pos; omega
  | n + 1, t, up, s, hn, h, i, h1, h2 => by
    have hz := t.size_eq
    obtain ⟨idx, x, st, a1, a2, a3, a4⟩ := find_kid t.kids (s + 1) i (by omega) (by omega)
    have hk := h.kid a1 a2
    have hx := sizeL_mem t.kids x (List.mem_of_getElem? a1)
    by_cases hi : i = st
    · subst hi; exact ⟨x, s, hk, s, t, up, idx, h, a1, a2, rfl⟩
    · exact flat_node T n x s st (by omega) hk i (by omega) a4

theorem sorted_idx {l : List Nat} (h : l.Pairwise (· < ·)) {i j a b : Nat} (ha : l[i]? = some a) (hb : l[j]? = some b) (hab : a < b) : i < j := by
  obtain ⟨hi, rfl⟩ := List.getElem?_eq_some_iff.1 ha
  obtain ⟨hj, rfl⟩ := List.getElem?_eq_some_iff.1 hb
  by_cases hij : i < j
  · exact hij
  · exfalso
    by_cases e : i = j
    · subst e; omega
    · have := List.pairwise_iff_getElem.1 h j i hj hi (by omega)
      omega

/-- the head of a whole -/
def Top (t : Tr) : Prop := t.kind = 5 ∧ t.name = ⟨#[]⟩ ∧ t.no = 0 ∧ t.must = false

theorem gs_flat (t : Tr) (hG : GT t) (hr : Top t) (hz : t.size ≤ 30) (hd : deep t.size t ≤ 5) : gs (flat t (-1) 0) = true := by
  obtain ⟨T, hT⟩ : ∃ T, T = flat t (-1) 0 := ⟨_, rfl⟩
  have hl : T.length = t.size := by rw [hT, flat_len]
  have hN : Node T t (-1) 0 := ⟨by rw [hT]; exact Seg.whole _, hG, fun j h1 h2 => by omega⟩
  have hpos := t.size_pos
  have htree : tree T T.length 0 = t := by rw [hT]; exact tree_flat t _ (by rw [flat_len]; exact Nat.le_refl _)
  rw [← hT]
  have h00 := hN.ty
  have ups : ∀ j, 0 < j → j < T.length → 0 ≤ (ty T j).up ∧ (ty T j).up < j := fun j h1 h2 => by
    have := flat_ups T t (-1) 0 hN.seg j h1 (by omega); omega
  unfold gs
  simp only [Bool.and_eq_true, decide_eq_true_eq, List.all_eq_true, List.mem_range]
  refine ⟨⟨⟨⟨by omega, by omega⟩, fun i hi => ?_⟩, fun i hi => ?_⟩, by rw [htree, hl]; exact hd⟩
  · by_cases h0 : i = 0
    · subst h0
      unfold typeOk
      rw [if_pos rfl, h00]
      have h1 := ((GT_iff t).1 hG).1
      unfold firstOk
      obtain ⟨r1, r2, r3, r4⟩ := hr
      have e : okKind ⟨t.kind, t.name, t.no, t.must, -1, t.most⟩ = true := h1
      rw [e]
      simp [r1, r2, r3, r4]
    · obtain ⟨t', up', hn', p, tp, upp, idx, hp, hk, hst, rfl⟩ := flat_node T t.size t (-1) 0 (Nat.le_refl _) hN i (by omega) (by omega)
      have hti := hn'.ty
      have htp := hp.ty
      have hsg := starts_ge _ _ i (List.mem_of_getElem? hst)
      have hsl := starts_lt _ _ i (List.mem_of_getElem? hst)
      have hKC := ((GT_iff tp).1 hp.good).2.1
      have hne : tp.kids ≠ [] := fun e => by rw [e] at hk; simp at hk
      have hh := hKC.1 hne
      have hc : p ∈ chain T (i - 1) := flat_chain T tp upp p hp.seg (i - 1) (by omega) (by have := tp.size_eq; omega)
      have hok : okKind (ty T i) = true := by rw [hti]; exact ((GT_iff t').1 hn'.good).1
      unfold typeOk
      rw [if_neg h0, hok]
      unfold partOk
      rw [hti]
      dsimp only
      rw [Int.toNat_natCast, htp]
      dsimp only
      have e1 : decide (p ∈ chain T (i - 1)) = true := by simpa using hc
      rw [hh, e1]
      have e2 : decide ((0 : Int) ≤ (p : Int)) = true := by simp
      have e3 : decide ((p : Int) < (i : Int)) = true := by simp; omega
      rw [e2, e3]
      simp only [Bool.true_and]
      by_cases h4 : tp.kind = 4
      · rw [if_pos h4]
        obtain ⟨x, hx, b1, b2, b3⟩ := hKC.2.1 h4
        have hm := List.mem_of_getElem? hk
        rw [hx] at hm
        simp at hm
        subst hm
        unfold bare
        simp [b1, b2, b3]
      · rw [if_neg h4]
        have h5 : tp.kind = 5 := by
          unfold holds at hh
          simp at hh
          omega
        obtain ⟨a1, a2⟩ := hKC.2.2 h5
        obtain ⟨n1, n2, n3⟩ := a1 t' (List.mem_of_getElem? hk)
        have hs : sis T i = true := by
          unfold sis
          rw [decide_eq_true_eq]
          intro m hm
          unfold sisBad
          by_cases hup : (ty T m).up = (ty T i).up
          · have hui : (ty T i).up = (p : Int) := by rw [hti]
            rw [hui] at hup
            have hmp : p < m := by
              by_cases hm0 : m = 0
              · subst hm0; rw [h00] at hup; simp at hup
              · have := ups m (by omega) (by omega); omega
            have hmk : m ∈ kids T p := (mem_kids T p m).2 ⟨by omega, hmp, hup⟩
            rw [flat_kids T tp upp p hp.seg hp.out] at hmk
            obtain ⟨jdx, hj, hjm⟩ := List.getElem_of_mem hmk
            have hst' : (starts tp.kids (p + 1))[jdx]? = some m := by rw [List.getElem?_eq_getElem hj, hjm]
            rw [starts_len] at hj
            have hkj : tp.kids[jdx]? = some (tp.kids[jdx]) := List.getElem?_eq_getElem hj
            have hnm := (hp.kid hkj hst').ty
            have hlt := sorted_idx (starts_sorted tp.kids (p + 1)) hst' hst hm
            obtain ⟨hi2, hie⟩ := List.getElem?_eq_some_iff.1 hk
            have hpw := List.pairwise_iff_getElem.1 a2 jdx idx hj hi2 hlt
            rw [hie] at hpw
            rw [hnm, hti]
            dsimp only
            simp only [decide_true, Bool.true_and, Bool.or_eq_false_iff, decide_eq_false_iff_not]
            exact ⟨by omega, hpw.2⟩
          · simp [hup]
        rw [n1, hs]
        simp [n2, n3]
  · split
    · rename_i h4
      have key : ∃ t' up', Node T t' up' i := by
        by_cases h0 : i = 0
        · subst h0; exact ⟨t, -1, hN⟩
        · obtain ⟨t', up', hn', _⟩ := flat_node T t.size t (-1) 0 (Nat.le_refl _) hN i (by omega) (by omega)
          exact ⟨t', up', hn'⟩
      obtain ⟨t', up', hn'⟩ := key
      rw [hn'.ty] at h4
      obtain ⟨x, hx, _⟩ := ((GT_iff t').1 hn'.good).2.1.2.1 h4
      rw [flat_kids T t' up' i hn'.seg hn'.out, starts_len, hx]
      rfl
    · rfl

theorem gs_parts (T : List Ty) (h : gs T = true) : 1 ≤ T.length ∧ T.length ≤ 30 ∧ (∀ i, i < T.length → typeOk T i = true) ∧ (∀ i, i < T.length → (ty T i).kind = 4 → (kids T i).length = 1) ∧ deep T.length (tree T T.length 0) ≤ 5 := by
  unfold gs at h
  simp only [Bool.and_eq_true, decide_eq_true_eq, List.all_eq_true, List.mem_range] at h
  obtain ⟨⟨⟨⟨a1, a2⟩, a3⟩, a4⟩, a5⟩ := h
  refine ⟨a1, a2, a3, fun i hi h4 => ?_, a5⟩
  have := a4 i hi
  rw [if_pos h4] at this
  simpa using this

theorem chain_step (T : List Ty) (h : ∀ i, i < T.length → typeOk T i = true) (k j : Nat) (hj : j < T.length) (hk : k ∈ chain T j) (hlt : k < j) : k ∈ chain T (j - 1) := by
  have hp := part_chain T j (by omega) (h j hj)
  rw [chain_up T j ⟨hp.1, hp.2.1⟩] at hk
  rcases List.mem_cons.1 hk with hk | hk
  · omega
  · exact chain_trans T k _ (j - 1) hk hp.2.2

theorem chain_down (T : List Ty) (h : ∀ i, i < T.length → typeOk T i = true) (k : Nat) : ∀ (n j : Nat), j < T.length → k ∈ chain T j → k + n ≤ j → k ∈ chain T (j - n)
  | 0, j, _, hk, _ => hk
  | n + 1, j, hj, hk, hn => by
    have := chain_down T h k n j hj hk (by omega)
    have := chain_step T h k (j - n) (by omega) this (by omega)
    rwa [show j - n - 1 = j - (n + 1) by omega] at this

theorem kid_not_chain (T : List Ty) (k c d : Nat) (hc : c ∈ kids T k) (hd : d ∈ kids T k) (h : d ∈ chain T c) : d = c := by
  obtain ⟨c1, c2, c3⟩ := (mem_kids T k c).1 hc
  obtain ⟨d1, d2, d3⟩ := (mem_kids T k d).1 hd
  rw [chain_up T c (by omega)] at h
  rcases List.mem_cons.1 h with h | h
  · exact h
  · have := chain_le T _ d h
    omega

def SegAt (T : List Ty) (f k : Nat) : Prop := Seg T k (flat (tree T f k) (ty T k).up k) ∧ ∀ j, j < T.length → (k ∈ chain T j ↔ k ≤ j ∧ j < k + (tree T f k).size)

theorem kids_seg (T : List Ty) (h : ∀ i, i < T.length → typeOk T i = true) (f k : Nat) (hk : k < T.length) (ih : ∀ c ∈ kids T k, SegAt T f c) : ∀ (l pre : List Nat), kids T k = pre ++ l → ∀ c cs, l = c :: cs →
    Seg T c (flatL (l.map (tree T f)) k c) ∧ ∀ j, j < T.length → ((∃ d ∈ l, d ∈ chain T j) ↔ c ≤ j ∧ j < c + sizeL (l.map (tree T f)))
  | [], _, _, c, cs, e => by cases e
  | [c], pre, hpre, c', cs, e => by
    cases e
    have hcm : c ∈ kids T k := by rw [hpre]; simp
    obtain ⟨a, b⟩ := ih c hcm
    have hu : (ty T c).up = (k : Int) := ((mem_kids T k c).1 hcm).2.2
    rw [hu] at a
    refine ⟨by simpa [flatL] using a, fun j hj => ?_⟩
    rw [List.map_cons, List.map_nil, sizeL, sizeL, Nat.add_zero, ← b j hj]
    simp
  | c :: c' :: cs', pre, hpre, d, cs, e => by
    cases e
    have hcm : c ∈ kids T k := by rw [hpre]; simp
    have hcm' : c' ∈ kids T k := by rw [hpre]; simp
    obtain ⟨a, b⟩ := ih c hcm
    obtain ⟨a', b'⟩ := kids_seg T h f k hk ih (c' :: cs') (pre ++ [c]) (by rw [hpre]; simp) c' cs' rfl
    have mk := (mem_kids T k c).1 hcm
    have mk' := (mem_kids T k c').1 hcm'
    have hso := kids_sorted T k
    rw [hpre] at hso
    have hcc : c < c' := by
      have := (List.pairwise_append.1 hso).2.1
      rw [List.pairwise_cons] at this
      exact this.1 c' (by simp)
    have hz := (tree T f c).size_pos
    have hge : c + (tree T f c).size ≤ c' := by
      by_cases hlt : c' < c + (tree T f c).size
      · have := kid_not_chain T k c' c hcm' hcm ((b c' mk'.1).2 ⟨by omega, hlt⟩)
        omega
      · omega
    have heq : c' = c + (tree T f c).size := by
      by_cases he : c' = c + (tree T f c).size
      · exact he
      · exfalso
        obtain ⟨x, hx⟩ : ∃ x, x = c + (tree T f c).size := ⟨_, rfl⟩
        have hxk : k ∈ chain T x := by
          have := chain_down T h k (c' - x) c' mk'.1 (kid_chain T k c' hcm') (by omega)
          rwa [show c' - (c' - x) = x by omega] at this
        obtain ⟨d, hd, hdx⟩ := chain_split T k x (by omega) hxk (by omega)
        have hdle := chain_le T x d hdx
        have hdc : d ≤ c := by
          rw [hpre] at hd
          rcases List.mem_append.1 hd with hd | hd
          · have := (List.pairwise_append.1 hso).2.2 d hd c (by simp); omega
          · rcases List.mem_cons.1 hd with hd | hd
            · omega
            · have h2 := (List.pairwise_append.1 hso).2.1
              rw [List.pairwise_cons, List.pairwise_cons] at h2
              rcases List.mem_cons.1 hd with hd | hd
              · omega
              · have := h2.2.1 d hd; omega
        by_cases hdc' : d = c
        · subst hdc'
          have := (b x (by omega)).1 hdx
          omega
        · have hdc2 : d ∈ chain T c := by
            have := chain_down T h d (x - c) x (by omega) hdx (by omega)
            rwa [show x - (x - c) = c by omega] at this
          exact hdc' (kid_not_chain T k c d hcm hd hdc2)
    have hu : (ty T c).up = (k : Int) := mk.2.2
    rw [hu] at a
    constructor
    · rw [List.map_cons, flatL]
      refine seg_join a ?_
      rw [flat_len, ← heq]
      exact a'
    · intro j hj
      rw [List.map_cons, sizeL]
      constructor
      · rintro ⟨d, hd, hdj⟩
        rcases List.mem_cons.1 hd with rfl | hd
        · have := (b j hj).1 hdj; omega
        · have := (b' j hj).1 ⟨d, hd, hdj⟩; omega
      · rintro ⟨h1, h2⟩
        by_cases hj2 : j < c'
        · exact ⟨c, by simp, (b j hj).2 ⟨h1, by omega⟩⟩
        · obtain ⟨d, hd, hdj⟩ := (b' j hj).2 ⟨by omega, by omega⟩
          exact ⟨d, by simp [hd], hdj⟩

theorem gs_seg (T : List Ty) (h : ∀ i, i < T.length → typeOk T i = true) : ∀ (f k : Nat), k < T.length → T.length ≤ f + k → SegAt T f k
  | 0, k, hk, hf => by omega
  | f + 1, k, hk, hf => by
    have ih : ∀ c ∈ kids T k, SegAt T f c := fun c hc => by
      have := (mem_kids T k c).1 hc
      exact gs_seg T h f c this.1 (by omega)
    have et : tree T (f + 1) k = .mk (ty T k).kind (ty T k).name (ty T k).no (ty T k).must (ty T k).most ((kids T k).map (tree T f)) := rfl
    have hone := seg_one hk
    have eself : ∀ up, (⟨(ty T k).kind, (ty T k).name, (ty T k).no, (ty T k).must, up, (ty T k).most⟩ : Ty) = ⟨(ty T k).kind, (ty T k).name, (ty T k).no, (ty T k).must, up, (ty T k).most⟩ := fun _ => rfl
    unfold SegAt
    rw [et, flat, Tr.size]
    cases hks : kids T k with
    | nil =>
      rw [List.map_nil, flatL, sizeL]
      refine ⟨hone, fun j hj => ⟨fun hc => ?_, fun hc => ?_⟩⟩
      · by_cases hjk : j = k
        · omega
        · obtain ⟨c, hc1, _⟩ := chain_split T k j hj hc hjk
          rw [hks] at hc1; simp at hc1
      · obtain rfl : j = k := by omega
        exact self_chain T j
    | cons c cs =>
      obtain ⟨a, b⟩ := kids_seg T h f k hk ih (kids T k) [] rfl c cs hks
      have hc1 : c = k + 1 := by
        have hcm : c ∈ kids T k := by rw [hks]; simp
        have h1 := first_kid T h k c hcm
        have h2 := (mem_kids T k c).1 hcm
        have hso := kids_sorted T k
        rw [hks] at h1 hso
        rw [List.pairwise_cons] at hso
        rcases List.mem_cons.1 h1 with h1 | h1
        · omega
        · have := hso.1 _ h1; omega
      subst hc1
      rw [hks] at a b
      constructor
      · exact seg_join (L := [_]) hone a
      · intro j hj
        have hb := b j hj
        constructor
        · intro hc
          by_cases hjk : j = k
          · omega
          · obtain ⟨d, hd1, hd2⟩ := chain_split T k j hj hc hjk
            have := hb.1 ⟨d, by rw [← hks]; exact hd1, hd2⟩
            omega
        · rintro ⟨h1, h2⟩
          by_cases hjk : j = k
          · subst hjk; exact self_chain T j
          · obtain ⟨d, hd, hdj⟩ := hb.2 ⟨by omega, by omega⟩
            rw [← hks] at hd
            exact chain_trans T k d j (kid_chain T k d hd) hdj

theorem tree_good (T : List Ty) (h : gs T = true) : ∀ (f k : Nat), k < T.length → T.length ≤ f + k → GT (tree T f k)
  | 0, k, hk, hf => by omega
  | f + 1, k, hk, hf => by
    obtain ⟨_, _, hT, h4, _⟩ := gs_parts T h
    have et : tree T (f + 1) k = .mk (ty T k).kind (ty T k).name (ty T k).no (ty T k).must (ty T k).most ((kids T k).map (tree T f)) := rfl
    rw [GT_iff, et]
    have hok : okKind (ty T k) = true := by
      have := hT k hk
      unfold typeOk at this
      simp only [Bool.and_eq_true] at this
      exact this.1
    have hpart : ∀ c ∈ kids T k, partOk T c = true := fun c hc => by
      have m := (mem_kids T k c).1 hc
      have := hT c m.1
      unfold typeOk at this
      rw [if_neg (by omega)] at this
      simp only [Bool.and_eq_true] at this
      exact this.2
    have huc : ∀ c ∈ kids T k, (ty T c).up = (k : Int) := fun c hc => ((mem_kids T k c).1 hc).2.2
    have hroot : ∀ c, tree T f c = .mk (ty T c).kind (ty T c).name (ty T c).no (ty T c).must (ty T c).most (tree T f c).kids := fun c => by cases f <;> rfl
    have hname : ∀ c, (tree T f c).name = (ty T c).name := fun c => by rw [hroot]; rfl
    have hno : ∀ c, (tree T f c).no = (ty T c).no := fun c => by rw [hroot]; rfl
    have hmust : ∀ c, (tree T f c).must = (ty T c).must := fun c => by rw [hroot]; rfl
    have hopen : ∀ c ∈ kids T k, holds (ty T k).kind = true ∧ (if (ty T k).kind = 4 then bare (ty T c) else isName (ty T c).name && decide (1 ≤ (ty T c).no) && decide ((ty T c).no ≤ 30) && sis T c) = true := fun c hc => by
      have := hpart c hc
      unfold partOk at this
      rw [huc c hc, Int.toNat_natCast] at this
      simp only [Bool.and_eq_true] at this
      exact ⟨this.1.1.2, this.2⟩
    refine ⟨hok, ⟨fun hne => ?_, fun hk4 => ?_, fun hk5 => ?_⟩, fun x hx => ?_⟩
    · have : kids T k ≠ [] := fun e => hne (by show (kids T k).map (tree T f) = []; rw [e]; rfl)
      obtain ⟨c, cs, hc⟩ := List.exists_cons_of_ne_nil this
      exact (hopen c (by rw [hc]; simp)).1
    · have hk4' : (ty T k).kind = 4 := hk4
      have h1 := h4 k hk hk4'
      match hkk : kids T k, h1 with
      | [c], _ =>
        refine ⟨tree T f c, rfl, ?_⟩
        have := (hopen c (by rw [hkk]; simp)).2
        rw [if_pos hk4'] at this
        unfold bare at this
        simp only [Bool.and_eq_true, decide_eq_true_eq, Bool.not_eq_true'] at this
        rw [hname, hno, hmust]
        exact ⟨this.1.1, this.1.2, this.2⟩
    · have hk5' : (ty T k).kind = 5 := hk5
      have hopen5 : ∀ c ∈ kids T k, isName (ty T c).name = true ∧ 1 ≤ (ty T c).no ∧ (ty T c).no ≤ 30 ∧ sis T c = true := fun c hc => by
        have := (hopen c hc).2
        rw [if_neg (by omega)] at this
        simp only [Bool.and_eq_true, decide_eq_true_eq] at this
        exact ⟨this.1.1.1, this.1.1.2, this.1.2, this.2⟩
      show (∀ x ∈ (kids T k).map (tree T f), _) ∧ ((kids T k).map (tree T f)).Pairwise _
      constructor
      · intro x hx
        obtain ⟨c, hc, rfl⟩ := List.mem_map.1 hx
        rw [hname, hno]
        exact ⟨(hopen5 c hc).1, (hopen5 c hc).2.1, (hopen5 c hc).2.2.1⟩
      · rw [List.pairwise_map]
        refine (kids_sorted T k).imp_of_mem ?_
        intro c d hc hd hcd
        rw [hname, hno, hname, hno]
        have := (hopen5 d hd).2.2.2
        unfold sis at this
        rw [decide_eq_true_eq] at this
        have := this c hcd
        unfold sisBad at this
        rw [huc c hc, huc d hd] at this
        simp only [decide_true, Bool.true_and, Bool.or_eq_false_iff, decide_eq_false_iff_not] at this
        exact ⟨by omega, this.2⟩
    · have hx' : x ∈ (kids T k).map (tree T f) := hx
      obtain ⟨c, hc, rfl⟩ := List.mem_map.1 hx'
      have m := (mem_kids T k c).1 hc
      exact tree_good T h f c m.1 (by omega)

theorem tree_top (T : List Ty) (h : gs T = true) (f : Nat) : Top (tree T f 0) := by
  obtain ⟨h1, _, hT, _, _⟩ := gs_parts T h
  have := hT 0 (by omega)
  unfold typeOk firstOk at this
  rw [if_pos rfl] at this
  simp only [Bool.and_eq_true, decide_eq_true_eq, Bool.not_eq_true'] at this
  have hroot : tree T f 0 = .mk (ty T 0).kind (ty T 0).name (ty T 0).no (ty T 0).must (ty T 0).most (tree T f 0).kids := by cases f <;> rfl
  unfold Top
  rw [hroot]
  exact ⟨this.2.1.1.1.1, this.2.1.1.2, this.2.1.2, this.2.2⟩

/-- a good schema is its tree laid flat -/
theorem flat_of_tree (T : List Ty) (h : gs T = true) (f : Nat) (hf : T.length ≤ f) : flat (tree T f 0) (-1) 0 = T ∧ (tree T f 0).size = T.length := by
  obtain ⟨h1, _, hT, _, _⟩ := gs_parts T h
  have hu := ups_of T (by omega) hT
  obtain ⟨a, b⟩ := gs_seg T hT f 0 (by omega) (by omega)
  rw [hu.1] at a
  have hlt := a.lt
  rw [flat_len] at hlt
  have hsz : (tree T f 0).size = T.length := by
    by_cases hc : (tree T f 0).size < T.length
    · have := (b (tree T f 0).size hc).1 (root_chain T hu _ hc)
      omega
    · omega
  refine ⟨?_, hsz⟩
  obtain ⟨x, y, e, hx⟩ := a
  have hx' : x = [] := List.eq_nil_of_length_eq_zero hx
  subst hx'
  have hy : y = [] := by
    apply List.eq_nil_of_length_eq_zero
    have := congrArg List.length e
    simp [flat_len] at this
    omega
  subst hy
  simpa using e.symm

/-- a subtree is no greater than what is left -/
theorem tree_size (T : List Ty) (h : gs T = true) (f k : Nat) (hk : k < T.length) (hf : T.length ≤ f + k) : (tree T f k).size ≤ T.length - k := by
  obtain ⟨_, _, hT, _, _⟩ := gs_parts T h
  have := (gs_seg T hT f k hk hf).1.lt
  rw [flat_len] at this
  omega

end Go.Proofs.Ytjaklpibjijkkaa.Sch
