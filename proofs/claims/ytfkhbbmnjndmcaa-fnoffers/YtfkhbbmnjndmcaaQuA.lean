/- Queues: marks, lists, what is good; what offers and hands do. -/
import Derived.Test.YtfkhbbmnjndmcaaGa
namespace Go.Proofs.Ytfkhbbmnjndmcaa

namespace Qus
/-- a queue -/
structure Qu where
  cap : Int
  rule : Int
  next : Int
  wt : List Int
  hd : List Int
  dr : List Int

/-- where M has a, from place k on -/
def alF (a : Int) : Nat → List Int → List Int
  | _, [] => []
  | k, x :: M => if x = a then (k : Int) :: alF a (k + 1) M else alF a (k + 1) M
def al (M : List Int) (a : Int) : List Int := alF a 0 M

/-- a list of numbers marked with a; least: what the next one is at least -/
def mkl (a : Int) : Nat → List Int → List Int → Option (List Int)
  | _, [], M => some M
  | least, n :: l, M => if n < (least : Int) ∨ (M.length : Int) ≤ n ∨ M.getD n.toNat 0 ≠ 0 then none else mkl a (n.toNat + 1) l (M.set n.toNat a)

def mk0 (q : Qu) : List Int := List.replicate q.next.toNat 0
def mk3 (q : Qu) : Option (List Int) :=
  match mkl 1 0 q.wt (mk0 q) with
  | none => none
  | some M1 => match mkl 2 0 q.hd M1 with
    | none => none
    | some M2 => mkl 3 0 q.dr M2

def okR (c r : Int) : Bool := decide (1 ≤ c ∧ c ≤ 10) && decide (1 ≤ r ∧ r ≤ 3)
def g1 (q : Qu) : Bool := okR q.cap q.rule && (decide (0 ≤ q.next ∧ q.next ≤ 100) && decide ((q.wt.length : Int) ≤ q.cap))
/-- whether it is good -/
def gq (q : Qu) : Bool := g1 q && (match mk3 q with | none => false | some M => !M.contains 0)
def mq (q : Qu) : List Int := (mk3 q).getD []
def tq (c r : Int) (M : List Int) : Qu := ⟨c, r, M.length, al M 1, al M 2, al M 3⟩
def qz : Qu := ⟨0, 0, 0, [], [], []⟩

theorem alF_append (a : Int) : ∀ (M N : List Int) (k : Nat), alF a k (M ++ N) = alF a k M ++ alF a (k + M.length) N
  | [], N, k => by simp [alF]
  | x :: M, N, k => by
    simp only [List.cons_append, alF, List.length_cons]
    rw [alF_append a M N (k + 1), show k + 1 + M.length = k + (M.length + 1) by omega]
    split <;> simp

theorem mem_alF (a : Int) : ∀ (M : List Int) (k : Nat) (n : Int), n ∈ alF a k M ↔ ∃ i, i < M.length ∧ n = ((k + i : Nat) : Int) ∧ M.getD i 0 = a
  | [], k, n => by simp [alF]
  | x :: M, k, n => by
    have ih := mem_alF a M (k + 1) n
    have e : n ∈ alF a k (x :: M) ↔ (x = a ∧ n = (k : Int)) ∨ n ∈ alF a (k + 1) M := by
      simp only [alF]
      by_cases h : x = a
      · rw [if_pos h]; simp [h]
      · rw [if_neg h]; simp [h]
    rw [e, ih]
    constructor
    · rintro (⟨h1, h2⟩ | ⟨i, h1, h2, h3⟩)
      · exact ⟨0, by simp, by simpa using h2, by simpa using h1⟩
      · exact ⟨i + 1, by simp; omega, by rw [h2]; omega, by simpa using h3⟩
    · rintro ⟨i, h1, h2, h3⟩
      match i with
      | 0 => exact .inl ⟨by simpa using h3, by simpa using h2⟩
      | i + 1 => exact .inr ⟨i, by simpa using h1, by rw [h2]; omega, by simpa using h3⟩

theorem mem_al {M : List Int} {a n : Int} : n ∈ al M a ↔ ∃ i, i < M.length ∧ n = (i : Int) ∧ M.getD i 0 = a := by
  have := mem_alF a M 0 n
  simpa [al] using this

theorem alF_sorted (a : Int) : ∀ (M : List Int) (k : Nat), (alF a k M).Pairwise (· < ·)
  | [], k => by simp [alF]
  | x :: M, k => by
    have ih := alF_sorted a M (k + 1)
    simp only [alF]
    split
    · refine List.Pairwise.cons (fun n hn => ?_) ih
      obtain ⟨i, _, h, _⟩ := (mem_alF a M (k + 1) n).1 hn
      omega
    · exact ih

theorem al_sorted (M : List Int) (a : Int) : (al M a).Pairwise (· < ·) := alF_sorted a M 0

/-- two rising lists with the same members are the same -/
theorem rise_ext : ∀ (l k : List Int), l.Pairwise (· < ·) → k.Pairwise (· < ·) → (∀ n, n ∈ l ↔ n ∈ k) → l = k
  | [], [], _, _, _ => rfl
  | [], y :: k, _, _, h => by have := (h y).2 (by simp); simp at this
  | x :: l, [], _, _, h => by have := (h x).1 (by simp); simp at this
  | x :: l, y :: k, hl, hk, h => by
    have hl' := List.pairwise_cons.1 hl
    have hk' := List.pairwise_cons.1 hk
    have e : x = y := by
      rcases List.mem_cons.1 ((h x).1 (by simp)) with h1 | h1
      · exact h1
      · rcases List.mem_cons.1 ((h y).2 (by simp)) with h2 | h2
        · exact h2.symm
        · have a1 := hk'.1 x h1
          have a2 := hl'.1 y h2
          omega
    subst e
    congr 1
    refine rise_ext l k hl'.2 hk'.2 fun n => ?_
    constructor
    · intro hn
      rcases List.mem_cons.1 ((h n).1 (List.mem_cons_of_mem _ hn)) with h1 | h1
      · have := hl'.1 n hn; omega
      · exact h1
    · intro hn
      rcases List.mem_cons.1 ((h n).2 (List.mem_cons_of_mem _ hn)) with h1 | h1
      · have := hk'.1 n hn; omega
      · exact h1

theorem getD_set (M : List Int) (i j : Nat) (x : Int) (hi : i < M.length) : (M.set i x).getD j 0 = if j = i then x else M.getD j 0 := by
  rw [List.getD_eq_getElem?_getD, List.getElem?_set, List.getD_eq_getElem?_getD]
  by_cases h : i = j
  · subst h; simp [hi]
  · rw [if_neg h, if_neg (fun e => h e.symm)]

/-- what marking does -/
theorem mkl_some (a : Int) : ∀ (l : List Int) (least : Nat) (M M' : List Int), mkl a least l M = some M' → M'.length = M.length ∧ l.Pairwise (· < ·) ∧ (∀ n ∈ l, (least : Int) ≤ n ∧ n < M.length ∧ M.getD n.toNat 0 = 0) ∧ ∀ i, M'.getD i 0 = if (i : Int) ∈ l then a else M.getD i 0
  | [], least, M, M', h => by
    simp only [mkl, Option.some.injEq] at h
    subst h
    exact ⟨rfl, List.Pairwise.nil, fun n hn => by simp at hn, fun i => by simp⟩
  | n :: l, least, M, M', h => by
    simp only [mkl] at h
    by_cases hc : n < (least : Int) ∨ (M.length : Int) ≤ n ∨ M.getD n.toNat 0 ≠ 0
    · rw [if_pos hc] at h; simp at h
    · rw [if_neg hc] at h
      obtain ⟨h1, h2, h3, h4⟩ := mkl_some a l (n.toNat + 1) (M.set n.toNat a) M' h
      have c1 : (least : Int) ≤ n := by omega
      have c2 : n < M.length := by omega
      have c3 : M.getD n.toNat 0 = 0 := Decidable.byContradiction fun h => hc (.inr (.inr h))
      have hlt : n.toNat < M.length := by omega
      have hrise : ∀ m ∈ l, n < m := fun m hm => by have := (h3 m hm).1; omega
      refine ⟨by rw [h1, List.length_set], List.Pairwise.cons hrise h2, fun m hm => ?_, fun i => ?_⟩
      · rcases List.mem_cons.1 hm with rfl | hm
        · exact ⟨c1, c2, c3⟩
        · have := h3 m hm
          have hn := hrise m hm
          rw [List.length_set] at this
          refine ⟨by omega, this.2.1, ?_⟩
          have e := this.2.2
          rw [getD_set M _ _ _ hlt, if_neg (by omega)] at e
          exact e
      · rw [h4 i, getD_set M _ _ _ hlt]
        by_cases hi : (i : Int) ∈ l
        · rw [if_pos hi, if_pos (List.mem_cons_of_mem _ hi)]
        · rw [if_neg hi]
          by_cases hin : i = n.toNat
          · rw [if_pos hin, if_pos (by rw [List.mem_cons]; left; omega)]
          · rw [if_neg hin, if_neg (fun h => by rcases List.mem_cons.1 h with h | h; · omega
                                                · exact hi h)]

/-- how many are still clear -/
def zc (M : List Int) : Nat := M.countP (· == 0)

theorem zc_set (M : List Int) (i : Nat) (a : Int) (hi : i < M.length) (h0 : M.getD i 0 = 0) (ha : a ≠ 0) : zc (M.set i a) + 1 = zc M := by
  induction M generalizing i with
  | nil => simp at hi
  | cons x M ih =>
    match i with
    | 0 =>
      simp at h0
      subst h0
      simp [zc, ha]
    | i + 1 =>
      have := ih i (by simpa using hi) (by simpa using h0)
      simp only [zc, List.set_cons_succ, List.countP_cons] at this ⊢
      omega

theorem mkl_count (a : Int) (ha : a ≠ 0) : ∀ (l : List Int) (least : Nat) (M M' : List Int), mkl a least l M = some M' → zc M' + l.length = zc M
  | [], least, M, M', h => by
    simp only [mkl, Option.some.injEq] at h
    subst h; simp
  | n :: l, least, M, M', h => by
    simp only [mkl] at h
    by_cases hc : n < (least : Int) ∨ (M.length : Int) ≤ n ∨ M.getD n.toNat 0 ≠ 0
    · rw [if_pos hc] at h; simp at h
    · rw [if_neg hc] at h
      have := mkl_count a ha l _ _ M' h
      have h2 := zc_set M n.toNat a (by omega) (Decidable.byContradiction fun h => hc (.inr (.inr h))) ha
      simp only [List.length_cons]
      omega

theorem zc_zero {M : List Int} : zc M = 0 ↔ M.contains 0 = false := by
  unfold zc
  rw [List.countP_eq_zero]
  constructor
  · intro h
    rw [Bool.eq_false_iff]
    intro hc
    have := h 0 (by simpa using hc)
    simp at this
  · intro h x hx
    simp
    intro e
    subst e
    have : M.contains 0 = true := by simpa using hx
    rw [h] at this
    simp at this

theorem zc_fresh (n : Nat) : zc (List.replicate n 0) = n := by simp [zc, List.countP_replicate]

/-- good by the lengths' sum just if by no mark left clear -/
theorem gq_sum (q : Qu) (M : List Int) (h : mk3 q = some M) (h0 : 0 ≤ q.next) : (M.contains 0 = false) ↔ ((q.wt.length + q.hd.length + q.dr.length : Nat) : Int) = q.next := by
  unfold mk3 at h
  split at h
  · simp at h
  · rename_i M1 e1
    split at h
    · simp at h
    · rename_i M2 e2
      have c1 := mkl_count 1 (by decide) _ _ _ _ e1
      have c2 := mkl_count 2 (by decide) _ _ _ _ e2
      have c3 := mkl_count 3 (by decide) _ _ _ _ h
      unfold mk0 at c1
      rw [zc_fresh] at c1
      rw [← zc_zero]
      omega

/-- a good queue is told by its marks -/
theorem gq_parts {q : Qu} (h : gq q = true) : g1 q = true ∧ mk3 q = some (mq q) ∧ q = tq q.cap q.rule (mq q) ∧ (∀ i, i < (mq q).length → (mq q).getD i 0 = 1 ∨ (mq q).getD i 0 = 2 ∨ (mq q).getD i 0 = 3) ∧ ((mq q).length : Int) = q.next := by
  unfold gq at h
  rw [Bool.and_eq_true] at h
  obtain ⟨hg, h⟩ := h
  cases hm : mk3 q with
  | none => rw [hm] at h; simp at h
  | some M =>
    rw [hm] at h
    have hmq : mq q = M := by unfold mq; rw [hm]; rfl
    rw [hmq]
    have hz : M.contains 0 = false := by simpa using h
    have hn0 : 0 ≤ q.next := by
      unfold g1 at hg
      simp only [Bool.and_eq_true, decide_eq_true_eq] at hg
      omega
    unfold mk3 at hm
    split at hm
    · simp at hm
    · rename_i M1 e1
      split at hm
      · simp at hm
      · rename_i M2 e2
        obtain ⟨l1, p1, r1, s1⟩ := mkl_some _ _ _ _ _ e1
        obtain ⟨l2, p2, r2, s2⟩ := mkl_some _ _ _ _ _ e2
        obtain ⟨l3, p3, r3, s3⟩ := mkl_some _ _ _ _ _ hm
        have l0 : (mk0 q).length = q.next.toNat := by simp [mk0]
        have z0 : ∀ i, (mk0 q).getD i 0 = 0 := fun i => by
          simp only [mk0, List.getD_eq_getElem?_getD, List.getElem?_replicate]
          split <;> rfl
        have hlen : (M.length : Int) = q.next := by omega
        have hv : ∀ i, M.getD i 0 = if (i : Int) ∈ q.dr then 3 else if (i : Int) ∈ q.hd then 2 else if (i : Int) ∈ q.wt then 1 else 0 := fun i => by rw [s3, s2, s1, z0]
        have hin : ∀ i, i < M.length → M.getD i 0 ≠ 0 := fun i hi e => by
          have : M.contains 0 = true := by
            rw [List.contains_iff_mem]
            rw [List.getD_eq_getElem?_getD, List.getElem?_eq_getElem hi] at e
            exact List.mem_iff_getElem.2 ⟨i, hi, by simpa using e⟩
          rw [hz] at this
          simp at this
        have d12 : ∀ n ∈ q.hd, n ∉ q.wt := fun n hn hw => by
          have h1 := (r2 n hn).2.2
          have h2 := (r1 n hw).1
          rw [s1, if_pos (by rw [show ((n.toNat : Nat) : Int) = n by omega]; exact hw)] at h1
          simp at h1
        have d3 : ∀ n ∈ q.dr, n ∉ q.hd ∧ n ∉ q.wt := fun n hn => by
          have h1 := (r3 n hn).2.2
          have h2 := (r3 n hn).1
          have e : ((n.toNat : Nat) : Int) = n := by omega
          rw [s2, s1, e] at h1
          constructor
          · intro hw; rw [if_pos hw] at h1; simp at h1
          · intro hw
            by_cases hh : n ∈ q.hd
            · rw [if_pos hh] at h1; simp at h1
            · rw [if_neg hh, if_pos hw] at h1; simp at h1
        have k1 : al M 1 = q.wt := rise_ext _ _ (al_sorted _ _) p1 fun n => by
          rw [mem_al]
          constructor
          · rintro ⟨i, hi, rfl, e⟩
            rw [hv] at e
            by_cases a3 : (i : Int) ∈ q.dr
            · rw [if_pos a3] at e; simp at e
            · rw [if_neg a3] at e
              by_cases a2 : (i : Int) ∈ q.hd
              · rw [if_pos a2] at e; simp at e
              · rw [if_neg a2] at e
                by_cases a1 : (i : Int) ∈ q.wt
                · exact a1
                · rw [if_neg a1] at e; simp at e
          · intro hw
            have := r1 n hw
            have e : ((n.toNat : Nat) : Int) = n := by omega
            refine ⟨n.toNat, by omega, e.symm, ?_⟩
            rw [hv, e, if_neg (fun h => (d3 n h).2 hw), if_neg (fun h => d12 n h hw), if_pos hw]
        have k2 : al M 2 = q.hd := rise_ext _ _ (al_sorted _ _) p2 fun n => by
          rw [mem_al]
          constructor
          · rintro ⟨i, hi, rfl, e⟩
            rw [hv] at e
            by_cases a3 : (i : Int) ∈ q.dr
            · rw [if_pos a3] at e; simp at e
            · rw [if_neg a3] at e
              by_cases a2 : (i : Int) ∈ q.hd
              · exact a2
              · rw [if_neg a2] at e
                split at e <;> simp at e
          · intro hw
            have := r2 n hw
            have e : ((n.toNat : Nat) : Int) = n := by omega
            refine ⟨n.toNat, by omega, e.symm, ?_⟩
            rw [hv, e, if_neg (fun h => (d3 n h).1 hw), if_pos hw]
        have k3 : al M 3 = q.dr := rise_ext _ _ (al_sorted _ _) p3 fun n => by
          rw [mem_al]
          constructor
          · rintro ⟨i, hi, rfl, e⟩
            rw [hv] at e
            by_cases a3 : (i : Int) ∈ q.dr
            · exact a3
            · rw [if_neg a3] at e
              split at e
              · simp at e
              · split at e <;> simp at e
          · intro hw
            have := r3 n hw
            have e : ((n.toNat : Nat) : Int) = n := by omega
            refine ⟨n.toNat, by omega, e.symm, ?_⟩
            rw [hv, e, if_pos hw]
        refine ⟨hg, rfl, ?_, fun i hi => ?_, hlen⟩
        · unfold tq
          rw [k1, k2, k3, hlen]
        · have h1 := hin i hi
          rw [hv] at h1 ⊢
          split
          · exact .inr (.inr rfl)
          · split
            · exact .inr (.inl rfl)
            · split
              · exact .inl rfl
              · rename_i a3 a2 a1
                rw [if_neg a3, if_neg a2, if_neg a1] at h1
                exact absurd rfl h1
end Qus

end Go.Proofs.Ytfkhbbmnjndmcaa
