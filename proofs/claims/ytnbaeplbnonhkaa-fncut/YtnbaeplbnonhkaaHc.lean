/- What the drawn laws of chapter 9 want of boxes: hulls, meets and pieces tell points; pieces are apart. The boxes that are needed hold what all hold, and none holds another. What FnBoxes and FnCut tell, in plain words of boxes. -/
import Derived.Test.YtnbaeplbnonhkaaVoD
import Derived.Test.YtnbaeplbnonhkaaByN
import Derived.Test.YtnbaeplbnonhkaaByU
import Derived.Test.YtnbaeplbnonhkaaByD
namespace Go.Proofs.Ytnbaeplbnonhkaa
open Plain Sch Bxs

theorem cov1_iff9 (s o : Sd) : cov1 s o = true ↔ s.lo ≤ o.lo ∧ o.hi ≤ s.hi := by
  unfold cov1; simp

theorem cov_iff9 (x y : Bx) : cov x y = true ↔ cov1 x.a y.a = true ∧ cov1 x.b y.b = true ∧ cov1 x.c y.c = true := by
  unfold cov; simp [Bool.and_eq_true, and_assoc]

theorem hul1_l {s t o : Sd} (h : cov1 s o = true) : cov1 (hul1 s t) o = true := by
  rw [cov1_iff9] at *
  unfold hul1
  dsimp only
  constructor <;> split <;> omega

theorem hul1_r {s t o : Sd} (h : cov1 t o = true) : cov1 (hul1 s t) o = true := by
  rw [cov1_iff9] at *
  unfold hul1
  dsimp only
  constructor <;> split <;> omega

theorem hul_l {x y p : Bx} (h : cov x p = true) : cov (hul x y) p = true := by
  rw [cov_iff9] at *
  exact ⟨hul1_l h.1, hul1_l h.2.1, hul1_l h.2.2⟩

theorem hul_r {x y p : Bx} (h : cov y p = true) : cov (hul x y) p = true := by
  rw [cov_iff9] at *
  exact ⟨hul1_r h.1, hul1_r h.2.1, hul1_r h.2.2⟩

theorem cov_tr {x y z : Bx} (h : cov x y = true) (h2 : cov y z = true) : cov x z = true := by
  simp only [cov_iff9, cov1_iff9] at *
  omega

theorem hul1_eq (s o : Sd) : hul1 s o = s ↔ cov1 s o = true := by
  obtain ⟨a, b⟩ := s
  obtain ⟨c, d⟩ := o
  rw [cov1_iff9]
  unfold hul1
  dsimp only
  rw [Sd.mk.injEq]
  constructor
  · rintro ⟨h1, h2⟩
    split at h1 <;> split at h2 <;> omega
  · rintro ⟨h1, h2⟩
    exact ⟨by rw [if_neg (by omega)], by rw [if_neg (by omega)]⟩

theorem hul_eq (x y : Bx) : hul x y = x ↔ cov x y = true := by
  rw [cov_iff9, ← hul1_eq, ← hul1_eq, ← hul1_eq]
  obtain ⟨a, b, c⟩ := x
  unfold hul
  rw [Bx.mk.injEq]

theorem mee1_tells (s t o : Sd) : cov1 (mee1 s t) o = (cov1 s o && cov1 t o) := by
  rw [Bool.eq_iff_iff, Bool.and_eq_true, cov1_iff9, cov1_iff9, cov1_iff9]
  unfold mee1
  dsimp only
  by_cases q1 : s.lo < t.lo
  · by_cases q2 : t.hi < s.hi
    · rw [if_pos q1, if_pos q2]; omega
    · rw [if_pos q1, if_neg q2]; omega
  · by_cases q2 : t.hi < s.hi
    · rw [if_neg q1, if_pos q2]; omega
    · rw [if_neg q1, if_neg q2]; omega

theorem cov1_nemp {s o : Sd} (h : cov1 s o = true) (ho : o.lo ≤ o.hi) : emp s = false := by
  rw [cov1_iff9] at h
  unfold emp
  rw [decide_eq_false_iff_not]
  omega

theorem meecov (x y p : Bx) : cov (mee x y) p = (cov x p && cov y p) := by
  unfold cov mee
  dsimp only
  rw [mee1_tells, mee1_tells, mee1_tells]
  generalize cov1 x.a p.a = a1; generalize cov1 x.b p.b = a2; generalize cov1 x.c p.c = a3
  generalize cov1 y.a p.a = b1; generalize cov1 y.b p.b = b2; generalize cov1 y.c p.c = b3
  cases a1 <;> cases a2 <;> cases a3 <;> cases b1 <;> cases b2 <;> cases b3 <;> rfl

theorem both_near {x y p : Bx} (hp : okB p = true) (h : cov x p = true) (h2 : cov y p = true) : apart x y = false := by
  have hm : cov (mee x y) p = true := by rw [meecov, h, h2]; rfl
  rw [cov_iff9] at hm
  rw [okB_iff, okS_iff, okS_iff, okS_iff] at hp
  unfold apart
  have e1 : emp (mee1 x.a y.a) = false := cov1_nemp hm.1 (by omega)
  have e2 : emp (mee1 x.b y.b) = false := cov1_nemp hm.2.1 (by omega)
  have e3 : emp (mee1 x.c y.c) = false := cov1_nemp hm.2.2 (by omega)
  rw [e1, e2, e3]; rfl

theorem mee_tells {x y p : Bx} (hp : okB p = true) : (!apart x y && cov (mee x y) p) = (cov x p && cov y p) := by
  rw [meecov]
  cases h : cov x p with
  | false => simp
  | true =>
    cases h2 : cov y p with
    | false => simp
    | true => rw [both_near hp h h2]; rfl

def cnt (l : List Bx) (p : Bx) : Nat := (l.filter fun q => cov q p).length
theorem cnt_nil (p : Bx) : cnt [] p = 0 := rfl
theorem cnt_append (l m : List Bx) (p : Bx) : cnt (l ++ m) p = cnt l p + cnt m p := by simp [cnt]
theorem cnt_one (x p : Bx) : cnt [x] p = if cov x p = true then 1 else 0 := by
  unfold cnt
  cases h : cov x p <;> simp [h]

theorem pcs_cnt (f : Sd → Bx) (g : Bool) (n s k : Sd) (p : Bx) (hf : ∀ t, cov (f t) p = (cov1 t n && g)) (hn : n.lo = n.hi) (h1 : s.lo ≤ k.lo) (h2 : k.lo ≤ k.hi) (h3 : k.hi ≤ s.hi) :
    cnt (pcs f s k) p = if (g && cov1 s n && !cov1 k n) = true then 1 else 0 := by
  have e1 : cnt (if s.lo < k.lo then [f ⟨s.lo, k.lo - 1⟩] else []) p = if g = true ∧ s.lo ≤ n.lo ∧ n.lo < k.lo then 1 else 0 := by
    by_cases q : s.lo < k.lo
    · rw [if_pos q, cnt_one, hf]
      congr 1
      rw [Bool.and_eq_true, cov1_iff9]
      dsimp only
      apply propext
      constructor
      · rintro ⟨⟨a, b⟩, c⟩; exact ⟨c, a, by omega⟩
      · rintro ⟨c, a, b⟩; exact ⟨⟨a, by omega⟩, c⟩
    · rw [if_neg q, cnt_nil, if_neg (by omega)]
  have e2 : cnt (if k.hi < s.hi then [f ⟨k.hi + 1, s.hi⟩] else []) p = if g = true ∧ k.hi < n.lo ∧ n.lo ≤ s.hi then 1 else 0 := by
    by_cases q : k.hi < s.hi
    · rw [if_pos q, cnt_one, hf]
      congr 1
      rw [Bool.and_eq_true, cov1_iff9]
      dsimp only
      apply propext
      constructor
      · rintro ⟨⟨a, b⟩, c⟩; exact ⟨c, by omega, by omega⟩
      · rintro ⟨c, a, b⟩; exact ⟨⟨by omega, by omega⟩, c⟩
    · rw [if_neg q, cnt_nil, if_neg (by omega)]
  unfold pcs
  rw [cnt_append, e1, e2]
  have e3 : ((g && cov1 s n && !cov1 k n) = true) = (g = true ∧ (s.lo ≤ n.lo ∧ n.hi ≤ s.hi) ∧ ¬ (k.lo ≤ n.lo ∧ n.hi ≤ k.hi)) := by
    rw [Bool.and_eq_true, Bool.and_eq_true, cov1_iff9, Bool.not_eq_true', ← Bool.not_eq_true, cov1_iff9, and_assoc]
  simp only [e3]
  cases g with
  | false => simp
  | true =>
    simp only [true_and]
    split <;> split <;> split <;> omega

theorem cut_cnt {x y p : Bx} (hp : okB p = true) (ha : p.a.lo = p.a.hi) (hb : p.b.lo = p.b.hi) (hc : p.c.lo = p.c.hi) : cnt (cut x y) p = if (cov x p && !cov y p) = true then 1 else 0 := by
  unfold cut
  by_cases h : apart x y = true
  · rw [if_pos h, cnt_one]
    have hm := mee_tells (x := x) (y := y) hp
    rw [h] at hm
    cases h1 : cov x p <;> cases h2 : cov y p <;> simp_all
  · rw [if_neg h]
    obtain ⟨e1, e2, e3⟩ := apart_parts (by simpa using h)
    have i1 := mee1_in e1
    have i2 := mee1_in e2
    have i3 := mee1_in e3
    unfold cutK
    rw [cnt_append, cnt_append,
      pcs_cnt (fun s => ⟨s, x.b, x.c⟩) (cov1 x.b p.b && cov1 x.c p.c) p.a x.a (mee x y).a p (fun t => by show (_ && _ && _) = _; rw [Bool.and_assoc]) ha i1.1 i1.2.1 i1.2.2,
      pcs_cnt (fun s => ⟨(mee x y).a, s, x.c⟩) (cov1 (mee x y).a p.a && cov1 x.c p.c) p.b x.b (mee x y).b p (fun t => by show (_ && _ && _) = _; rw [Bool.and_comm (cov1 _ _) (cov1 t _), Bool.and_assoc]) hb i2.1 i2.2.1 i2.2.2,
      pcs_cnt (fun s => ⟨(mee x y).a, (mee x y).b, s⟩) (cov1 (mee x y).a p.a && cov1 (mee x y).b p.b) p.c x.c (mee x y).c p (fun t => by show (_ && _ && _) = _; rw [Bool.and_comm]) hc i3.1 i3.2.1 i3.2.2]
    show (if (_ && _ && !cov1 (mee1 x.a y.a) _) = true then 1 else 0) + ((if (cov1 (mee1 x.a y.a) _ && _ && _ && !cov1 (mee1 x.b y.b) _) = true then 1 else 0) + (if (cov1 (mee1 x.a y.a) _ && cov1 (mee1 x.b y.b) _ && _ && !cov1 (mee1 x.c y.c) _) = true then 1 else 0)) = _
    rw [mee1_tells, mee1_tells, mee1_tells]
    unfold cov
    generalize cov1 x.a p.a = a1; generalize cov1 x.b p.b = a2; generalize cov1 x.c p.c = a3
    generalize cov1 y.a p.a = b1; generalize cov1 y.b p.b = b2; generalize cov1 y.c p.c = b3
    cases a1 <;> cases a2 <;> cases a3 <;> cases b1 <;> cases b2 <;> cases b3 <;> rfl

theorem mee1_comm (s t : Sd) : mee1 s t = mee1 t s := by
  unfold mee1
  rw [Sd.mk.injEq]
  constructor <;> split <;> split <;> omega

theorem mee_comm (x y : Bx) : mee x y = mee y x := by
  unfold mee
  rw [mee1_comm x.a, mee1_comm x.b, mee1_comm x.c]

theorem apart_comm (x y : Bx) : apart x y = apart y x := by
  unfold apart
  rw [mee1_comm x.a, mee1_comm x.b, mee1_comm x.c]

theorem cut_turn (x y : Bx) : pts x + sumP (cut y x) = sumP (cut x y) + pts y := by
  rw [cut_sum, cut_sum, apart_comm y x, mee_comm y x]
  split <;> omega

theorem emp_off {s t : Sd} (h : s.hi < t.lo ∨ t.hi < s.lo) : emp (mee1 s t) = true := by
  unfold emp mee1
  rw [decide_eq_true_iff]
  dsimp only
  split <;> split <;> omega

theorem pcs_mem {f : Sd → Bx} {s k : Sd} {q : Bx} (h : q ∈ pcs f s k) : ∃ t, q = f t ∧ (t.hi < k.lo ∨ k.hi < t.lo) := by
  unfold pcs at h
  rw [List.mem_append] at h
  rcases h with h | h
  · split at h
    · simp at h
      exact ⟨_, h, .inl (by dsimp only; omega)⟩
    · simp at h
  · split at h
    · simp at h
      exact ⟨_, h, .inr (by dsimp only; omega)⟩
    · simp at h

theorem pcs_pair {f : Sd → Bx} {s k : Sd} (hk : k.lo ≤ k.hi) (hf : ∀ t u, t.hi < u.lo ∨ u.hi < t.lo → apart (f t) (f u) = true) : (pcs f s k).Pairwise fun u v => apart v u = true := by
  unfold pcs
  split <;> split <;> simp
  exact hf _ _ (.inr (by dsimp only; omega))

theorem cut_pair (x y : Bx) : (cut x y).Pairwise fun u v => apart v u = true := by
  unfold cut
  by_cases h : apart x y = true
  · rw [if_pos h]; simp
  · rw [if_neg h]
    obtain ⟨e1, e2, e3⟩ := apart_parts (by simpa using h)
    have i1 := mee1_in e1
    have i2 := mee1_in e2
    have i3 := mee1_in e3
    unfold cutK
    rw [List.pairwise_append, List.pairwise_append]
    refine ⟨pcs_pair i1.2.1 fun t u h => ?_, ⟨pcs_pair i2.2.1 fun t u h => ?_, pcs_pair i3.2.1 fun t u h => ?_, ?_⟩, ?_⟩
    · unfold apart; rw [emp_off h]; rfl
    · unfold apart; dsimp only; rw [emp_off h]; simp
    · unfold apart; dsimp only; rw [emp_off h]; simp
    · intro a ha b hb
      obtain ⟨t, rfl, ht⟩ := pcs_mem ha
      obtain ⟨u, rfl, hu⟩ := pcs_mem hb
      unfold apart; dsimp only; rw [emp_off (s := (mee x y).b) (t := t) (by omega)]; simp
    · intro a ha b hb
      obtain ⟨t, rfl, ht⟩ := pcs_mem ha
      rw [List.mem_append] at hb
      rcases hb with hb | hb
      · obtain ⟨u, rfl, hu⟩ := pcs_mem hb
        unfold apart; dsimp only; rw [emp_off (s := (mee x y).a) (t := t) (by omega)]; simp
      · obtain ⟨u, rfl, hu⟩ := pcs_mem hb
        unfold apart; dsimp only; rw [emp_off (s := (mee x y).a) (t := t) (by omega)]; simp

theorem lft_apart {x : Bx} : ∀ {os : List Bx}, (∀ o ∈ os, apart x o = true) → lft x os = [x]
  | [], _ => rfl
  | o :: os, h => by
    have e : cutAll [x] o = [x] := by
      unfold cutAll cut
      simp [h o (by simp)]
    have ih := lft_apart (x := x) (os := os) fun q hq => h q (by simp [hq])
    unfold lft at ih ⊢
    rw [List.foldl_cons, e, ih]

theorem xb_take {X : List Bx} {i : Nat} (h : i < X.length) : X.take (i + 1) = X.take i ++ [xb X i] := by
  rw [List.take_add_one, List.getElem?_eq_getElem h]
  unfold xb
  rw [List.getD, List.getElem?_eq_getElem h]
  rfl

theorem vsum_apart {X : List Bx} (h : X.Pairwise fun u v => apart v u = true) : ∀ i, i ≤ X.length → vsum X i = sumP (X.take i)
  | 0, _ => by simp [vsum_0, sumP]
  | i + 1, hi => by
    have e := vsum_apart h i (by omega)
    have ha : ∀ o ∈ X.take i, apart (xb X i) o = true := by
      have h2 := h.sublist (List.take_sublist (i + 1) X)
      rw [xb_take (by omega), List.pairwise_append] at h2
      exact fun o ho => h2.2.2 o ho _ (by simp)
    rw [vsum_step, e, lft_apart ha, xb_take (by omega), sumP_append]

theorem vsum_cut (x y : Bx) : vsum (cut x y) (cut x y).length = sumP (cut x y) := by
  rw [vsum_apart (cut_pair x y) _ (Nat.le_refl _), List.take_length]

theorem vsum_one (x : Bx) : vsum [x] 1 = pts x := by
  rw [vsum_apart (by simp) 1 (by simp)]
  simp [sumP]

theorem vsum_two (x y : Bx) : vsum [x, y] 2 = pts x + sumP (cut y x) := by
  rw [vsum_step, vsum_step, vsum_0]
  show 0 + sumP (lft x []) + sumP (lft y [x]) = _
  have e : lft y [x] = cut y x := by unfold lft cutAll; simp
  rw [e]
  show 0 + sumP [x] + _ = _
  rw [sumP_cons, sumP_nil]
  omega

theorem pcs_lenC (f : Sd → Bx) (s k : Sd) : (pcs f s k).length ≤ 2 := by
  unfold pcs
  rw [List.length_append]
  split <;> split <;> simp

theorem cut_six (x y : Bx) : (cut x y).length ≤ 6 := by
  unfold cut
  split
  · simp
  · unfold cutK
    rw [List.length_append, List.length_append]
    have a := pcs_lenC (fun s => ⟨s, x.b, x.c⟩) x.a (mee x y).a
    have b := pcs_lenC (fun s => ⟨(mee x y).a, s, x.c⟩) x.b (mee x y).b
    have c := pcs_lenC (fun s => ⟨(mee x y).a, (mee x y).b, s⟩) x.c (mee x y).c
    omega

end Go.Proofs.Ytnbaeplbnonhkaa

namespace Go.Proofs.Ytnbaeplbnonhkaa
open Plain Sch Bxs

def slen (x : Bx) : Int := len1 x.a + len1 x.b + len1 x.c

theorem slen_ok {x : Bx} (h : okB x = true) : 3 ≤ slen x ∧ slen x ≤ 6003 := by
  rw [okB_iff] at h
  have a := len1_pos h.1
  have b := len1_pos h.2.1
  have c := len1_pos h.2.2
  unfold slen
  omega

theorem slen_lt {x y : Bx} (h : cov x y = true) (hne : x ≠ y) : slen y < slen x := by
  obtain ⟨⟨a1, a2⟩, ⟨b1, b2⟩, ⟨c1, c2⟩⟩ := x
  obtain ⟨⟨d1, d2⟩, ⟨e1, e2⟩, ⟨f1, f2⟩⟩ := y
  simp only [cov_iff9, cov1_iff9] at h
  unfold slen len1
  dsimp only
  by_cases q : a1 = d1 ∧ a2 = d2 ∧ b1 = e1 ∧ b2 = e2 ∧ c1 = f1 ∧ c2 = f2
  · obtain ⟨rfl, rfl, rfl, rfl, rfl, rfl⟩ := q
    exact absurd rfl hne
  · omega

theorem nd_no {X : List Bx} {i : Nat} : ∀ {k : Nat}, nd X i k = false → ∃ j, j < k ∧ ndd X i j = true
  | 0, h => by rw [nd_zero] at h; cases h
  | k + 1, h => by
    rw [nd_step] at h
    cases h1 : ndd X i k with
    | true => exact ⟨k, by omega, h1⟩
    | false =>
      rw [h1] at h
      obtain ⟨j, hj, h2⟩ := nd_no (k := k) (by simpa using h)
      exact ⟨j, by omega, h2⟩

theorem nd_yes {X : List Bx} {i : Nat} : ∀ {k : Nat}, nd X i k = true → ∀ j, j < k → ndd X i j = false
  | 0, _, j, hj => by omega
  | k + 1, h, j, hj => by
    rw [nd_step, Bool.and_eq_true] at h
    by_cases q : j = k
    · subst q; simpa using h.2
    · exact nd_yes h.1 j (by omega)

theorem ndd_iff (X : List Bx) (i k : Nat) : ndd X i k = true ↔ cov (xb X k) (xb X i) = true ∧ (xb X k ≠ xb X i ∨ k < i) := by
  unfold ndd beq9
  simp

theorem xb_memC {X : List Bx} {i : Nat} (h : i < X.length) : xb X i ∈ X := by
  unfold xb
  rw [List.getD, List.getElem?_eq_getElem h]
  exact List.getElem_mem h

theorem nd_top {X : List Bx} (hok : ∀ q ∈ X, okB q = true) (h20 : X.length ≤ 20) (p : Bx) :
    ∀ m i, i < X.length → (6003 - slen (xb X i)).toNat * 21 + i ≤ m → cov (xb X i) p = true → ∃ j, j < X.length ∧ nd X j X.length = true ∧ cov (xb X j) p = true := by
  intro m
  induction m with
  | zero =>
    intro i hi hm hc
    cases h : nd X i X.length with
    | true => exact ⟨i, hi, h, hc⟩
    | false =>
      obtain ⟨k, hk, h2⟩ := nd_no h
      rw [ndd_iff] at h2
      have a := slen_ok (hok _ (xb_memC hk))
      have b := slen_ok (hok _ (xb_memC hi))
      rcases h2.2 with h3 | h3
      · have := slen_lt h2.1 h3
        omega
      · omega
  | succ m ih =>
    intro i hi hm hc
    cases h : nd X i X.length with
    | true => exact ⟨i, hi, h, hc⟩
    | false =>
      obtain ⟨k, hk, h2⟩ := nd_no h
      rw [ndd_iff] at h2
      have a := slen_ok (hok _ (xb_memC hk))
      have b := slen_ok (hok _ (xb_memC hi))
      refine ih k hk ?_ (cov_tr h2.1 hc)
      by_cases q : xb X k = xb X i
      · rcases h2.2 with h3 | h3
        · exact absurd q h3
        · rw [q]; omega
      · have := slen_lt h2.1 q
        omega

def fewX (X : List Bx) : List Bx := ((List.range X.length).filter fun j => nd X j X.length).map fun j => xb X j

theorem few_any {X : List Bx} (hok : ∀ q ∈ X, okB q = true) (h20 : X.length ≤ 20) (p : Bx) : (fewX X).any (fun x => cov x p) = X.any (fun x => cov x p) := by
  rw [Bool.eq_iff_iff, List.any_eq_true, List.any_eq_true]
  constructor
  · rintro ⟨q, hq, h⟩
    unfold fewX at hq
    rw [List.mem_map] at hq
    obtain ⟨j, hj, rfl⟩ := hq
    rw [List.mem_filter, List.mem_range] at hj
    exact ⟨_, xb_memC hj.1, h⟩
  · rintro ⟨q, hq, h⟩
    obtain ⟨i, hi, rfl⟩ := List.getElem_of_mem hq
    have e : xb X i = X[i] := by unfold xb; rw [List.getD, List.getElem?_eq_getElem hi]; rfl
    rw [← e] at h
    obtain ⟨j, hj, h1, h2⟩ := nd_top hok h20 p _ i hi (Nat.le_refl _) h
    exact ⟨xb X j, by unfold fewX; rw [List.mem_map]; exact ⟨j, by rw [List.mem_filter, List.mem_range]; exact ⟨hj, h1⟩, rfl⟩, h2⟩

theorem cov_self (x : Bx) : cov x x = true := by
  simp [cov_iff9, cov1_iff9]

theorem nd_apart {X : List Bx} {i j : Nat} (hi : i < X.length) (hj : j < X.length) (hne : i ≠ j) (h1 : nd X i X.length = true) (h2 : nd X j X.length = true) : cov (xb X i) (xb X j) = false := by
  have a := nd_yes h1 j hj
  have b := nd_yes h2 i hi
  rw [← Bool.not_eq_true, ndd_iff] at a b
  rw [← Bool.not_eq_true]
  intro hc
  by_cases q : xb X i = xb X j
  · rcases Nat.lt_or_gt_of_ne hne with h | h
    · exact b ⟨hc, .inr h⟩
    · exact a ⟨by rw [q]; exact cov_self _, .inr h⟩
  · exact b ⟨hc, .inl q⟩

end Go.Proofs.Ytnbaeplbnonhkaa

namespace Go.Proofs.Ytnbaeplbnonhkaa
open Plain Sch Bxs

theorem point_good {L : List Int} (h3 : L.length = 3) (h : ∀ x ∈ L, 0 ≤ x ∧ x ≤ 11) : gb (dup L) = true ∧ (bx (dup L)).a.lo = (bx (dup L)).a.hi ∧ (bx (dup L)).b.lo = (bx (dup L)).b.hi ∧ (bx (dup L)).c.lo = (bx (dup L)).c.hi := by
  match L, h3 with
  | [x, y, z], _ =>
    have h1 := h x (by simp)
    have h2 := h y (by simp)
    have h3 := h z (by simp)
    refine ⟨?_, rfl, rfl, rfl⟩
    have e : dup [x, y, z] = (⟨⟨x, x⟩, ⟨y, y⟩, ⟨z, z⟩⟩ : Bx).list := rfl
    rw [e, gb_list, okB_iff]
    exact ⟨(okS_iff _).2 ⟨by show -1000 ≤ x; omega, Int.le_refl _, by show x ≤ 1000; omega⟩, (okS_iff _).2 ⟨by show -1000 ≤ y; omega, Int.le_refl _, by show y ≤ 1000; omega⟩, (okS_iff _).2 ⟨by show -1000 ≤ z; omega, Int.le_refl _, by show z ≤ 1000; omega⟩⟩

theorem hlo_good {A B : List Sd} (ga : gb A = true) (g2 : gb B = true) : gb (hlo A B) = true := by
  unfold hlo
  rw [ga, g2, if_pos (by rfl), gb_list]
  exact hul_ok (gb_good ga).2 (gb_good g2).2

theorem mlo_good {A B : List Sd} (h : mok A B = true) : gb (mlo A B) = true := by
  unfold mlo
  rw [h, if_pos rfl, gb_list]
  unfold mok at h
  simp only [Bool.and_eq_true, Bool.not_eq_true'] at h
  exact mee_ok (gb_good h.1.1).2 (gb_good h.1.2).2 h.2

theorem cvo_at {A B : List Sd} (ga : gb A = true) (g2 : gb B = true) : cvo A B = cov (bx A) (bx B) := by
  unfold cvo; rw [ga, g2]; rfl

theorem hlo_bx {A B : List Sd} (ga : gb A = true) (g2 : gb B = true) : hlo A B = (hul (bx A) (bx B)).list := by
  unfold hlo; rw [ga, g2]; rfl

theorem hull_has {A B P : List Sd} (ga : gb A = true) (g2 : gb B = true) (gp : gb P = true) : ((cvo A P || cvo B P) && !cvo (hlo A B) P) = false := by
  rw [cvo_at ga gp, cvo_at g2 gp, cvo_at (hlo_good ga g2) gp, hlo_bx ga g2, bx_list]
  cases h1 : cov (bx A) (bx P) with
  | true => rw [hul_l h1]; rfl
  | false =>
    cases h2 : cov (bx B) (bx P) with
    | true => rw [hul_r h2]; rfl
    | false => rfl

theorem covers_has {A B P : List Sd} (ga : gb A = true) (g2 : gb B = true) (gp : gb P = true) : (cvo A B && cvo B P && !cvo A P) = false := by
  rw [cvo_at ga gp, cvo_at g2 gp, cvo_at ga g2]
  cases h1 : cov (bx A) (bx B) with
  | false => rfl
  | true =>
    cases h2 : cov (bx B) (bx P) with
    | false => rfl
    | true => rw [cov_tr h1 h2]; rfl

theorem covers_hull {A B : List Sd} (ga : gb A = true) (g2 : gb B = true) : decide (hlo A B = A) = cvo A B := by
  rw [cvo_at ga g2, hlo_bx ga g2, cov_hul]
  refine decide_eq_decide.2 ⟨fun h => ?_, fun h => ?_⟩
  · have := congrArg bx h
    rwa [bx_list] at this
  · rw [h]; exact (gb_good ga).1.symm

theorem meet_has {A B P : List Sd} (ga : gb A = true) (g2 : gb B = true) (gp : gb P = true) : (mok A B && cvo (mlo A B) P) = (cvo A P && cvo B P) := by
  rw [cvo_at ga gp, cvo_at g2 gp, ← mee_tells (gb_good gp).2]
  cases h : apart (bx A) (bx B) with
  | true =>
    have : mok A B = false := by unfold mok; rw [h]; simp
    rw [this]; rfl
  | false =>
    have hm : mok A B = true := by unfold mok; rw [h, ga, g2]; rfl
    rw [hm, cvo_at (mlo_good hm) gp]
    have : mlo A B = (mee (bx A) (bx B)).list := by unfold mlo; rw [hm]; rfl
    rw [this, bx_list]
    rfl

/-- the boxes that LeastCover keeps -/
def fewL (M : List (List Sd)) : List (List Sd) := (lco M).map fun k => mx M k.toNat

theorem lco_at {M : List (List Sd)} (h : gl M = true) : lco M = ((List.range M.length).filter fun j => nd (M.map bx) j M.length).map fun (j : Nat) => (j : Int) := by
  unfold lco lst
  rw [h, if_pos rfl, List.length_map]

theorem lco_get {M : List (List Sd)} (h : gl M = true) {i : Nat} {k : Int} (hi : (lco M)[i]? = some k) : ∃ j : Nat, k = (j : Int) ∧ j < M.length ∧ nd (M.map bx) j M.length = true := by
  have hm := List.mem_of_getElem? hi
  rw [lco_at h, List.mem_map] at hm
  obtain ⟨j, hj, rfl⟩ := hm
  rw [List.mem_filter, List.mem_range] at hj
  exact ⟨j, rfl, hj.1, hj.2⟩

theorem lco_len (M : List (List Sd)) : (lco M).length ≤ 20 := by
  unfold lco
  by_cases h : gl M = true
  · rw [if_pos h]
    have := lst_len (M.map bx) M.length
    have := (gl_get h).1
    omega
  · rw [if_neg h]; simp

theorem lco_no {M : List (List Sd)} (h : gl M = false) : lco M = [] := by
  unfold lco; rw [h]; rfl

theorem xb_map {M : List (List Sd)} {i : Nat} (h : i < M.length) : xb (M.map bx) i = bx (mx M i) := by
  unfold xb mx
  rw [List.getD, List.getElem?_map, List.getD, List.getElem?_eq_getElem h]
  rfl

theorem few_len (M : List (List Sd)) : (fewL M).length = (lco M).length := by unfold fewL; rw [List.length_map]

theorem few_mx {M : List (List Sd)} (h : gl M = true) {i : Nat} (hi : i < (fewL M).length) : ∃ j : Nat, (lco M)[i]? = some (j : Int) ∧ j < M.length ∧ nd (M.map bx) j M.length = true ∧ mx (fewL M) i = mx M j := by
  rw [few_len] at hi
  obtain ⟨j, e, h1, h2⟩ := lco_get h (List.getElem?_eq_getElem hi)
  refine ⟨j, by rw [List.getElem?_eq_getElem hi, e], h1, h2, ?_⟩
  show (fewL M).getD i [] = _
  unfold fewL
  rw [List.getD, List.getElem?_map, List.getElem?_eq_getElem hi, e]
  rfl

theorem few_good {M : List (List Sd)} (h : gl M = true) : gl (fewL M) = true := by
  refine gl_all (by rw [few_len]; exact lco_len M) fun i hi => ?_
  obtain ⟨j, _, h1, _, e⟩ := few_mx h hi
  rw [e]
  exact (gl_get h).2 j h1

theorem few_bx {M : List (List Sd)} (h : gl M = true) : (fewL M).map bx = fewX (M.map bx) := by
  unfold fewL fewX
  rw [lco_at h, List.map_map, List.map_map, List.length_map]
  refine List.map_congr_left fun j hj => ?_
  rw [List.mem_filter, List.mem_range] at hj
  show bx (mx M (j : Int).toNat) = xb (M.map bx) j
  rw [xb_map hj.1, Int.toNat_natCast]

theorem few_union {M : List (List Sd)} (h : gl M = true) {p : List Int} : uno (fewL M) p = uno M p := by
  unfold uno
  rw [few_good h, h, few_bx h, few_any (fun q hq => sal_ok h q hq) (by rw [List.length_map]; exact (gl_get h).1)]

theorem lco_rise {M : List (List Sd)} (h : gl M = true) {i j : Nat} {a b : Int} (hij : i ≠ j) (hi : (lco M)[i]? = some a) (hj : (lco M)[j]? = some b) : a ≠ b := by
  have hp : (lco M).Pairwise (· < ·) := by
    rw [lco_at h]
    exact List.Pairwise.map _ (fun x y (hxy : x < y) => by show (x : Int) < (y : Int); omega) (List.Pairwise.filter _ List.pairwise_lt_range)
  obtain ⟨h1, e1⟩ := List.getElem?_eq_some_iff.1 hi
  obtain ⟨h2, e2⟩ := List.getElem?_eq_some_iff.1 hj
  rcases Nat.lt_or_gt_of_ne hij with hl | hl
  · have := List.pairwise_iff_getElem.1 hp i j h1 h2 hl
    rw [e1, e2] at this
    omega
  · have := List.pairwise_iff_getElem.1 hp j i h2 h1 hl
    rw [e1, e2] at this
    omega

theorem few_apart {M : List (List Sd)} (h : gl M = true) {i j : Nat} (hi : i < (fewL M).length) (hj : j < (fewL M).length) (hij : i ≠ j) : cvo (mx (fewL M) i) (mx (fewL M) j) = false := by
  obtain ⟨a, e1, l1, n1, m1⟩ := few_mx h hi
  obtain ⟨b, e2, l2, n2, m2⟩ := few_mx h hj
  have hab : a ≠ b := fun e => lco_rise h hij e1 e2 (by rw [e])
  have g1 := (gl_get h).2 a l1
  have g2 := (gl_get h).2 b l2
  rw [m1, m2, cvo_at g1 g2, ← xb_map l1, ← xb_map l2]
  exact nd_apart (by rw [List.length_map]; exact l1) (by rw [List.length_map]; exact l2) hab (by rw [List.length_map]; exact n1) (by rw [List.length_map]; exact n2)

end Go.Proofs.Ytnbaeplbnonhkaa
