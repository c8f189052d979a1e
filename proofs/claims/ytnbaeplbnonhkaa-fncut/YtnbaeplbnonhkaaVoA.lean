/- How many points a box has; what is left of it when others are cut away is no more. -/
import Derived.Test.YtnbaeplbnonhkaaByC
namespace Go.Proofs.Ytnbaeplbnonhkaa.Bxs
open Plain Sch

def len1 (s : Sd) : Int := s.hi - s.lo + 1
def pts (x : Bx) : Int := len1 x.a * len1 x.b * len1 x.c
def sumP (l : List Bx) : Int := (l.map pts).sum

theorem sumP_nil : sumP [] = 0 := rfl
theorem sumP_cons (x : Bx) (l : List Bx) : sumP (x :: l) = pts x + sumP l := by simp [sumP]
theorem sumP_append (l m : List Bx) : sumP (l ++ m) = sumP l + sumP m := by simp [sumP]

theorem len1_pos {s : Sd} (h : okS s = true) : 1 ≤ len1 s ∧ len1 s ≤ 2001 := by
  rw [okS_iff] at h
  unfold len1
  omega

theorem mul_pos1 {a b : Int} (ha : 1 ≤ a) (hb : 1 ≤ b) : 1 ≤ a * b := by
  have h := Int.mul_le_mul ha hb (by omega) (by omega)
  simpa using h

theorem pts_pos {x : Bx} (h : okB x = true) : 1 ≤ pts x := by
  rw [okB_iff] at h
  exact mul_pos1 (mul_pos1 (len1_pos h.1).1 (len1_pos h.2.1).1) (len1_pos h.2.2).1

theorem pts_le {x : Bx} (h : okB x = true) : pts x ≤ 8012006001 := by
  rw [okB_iff] at h
  obtain ⟨a0, a1⟩ := len1_pos h.1
  obtain ⟨b0, b1⟩ := len1_pos h.2.1
  obtain ⟨c0, c1⟩ := len1_pos h.2.2
  unfold pts
  have h1 : len1 x.a * len1 x.b ≤ 2001 * 2001 := Int.mul_le_mul a1 b1 (by omega) (by omega)
  have h2 : len1 x.a * len1 x.b * len1 x.c ≤ (2001 * 2001) * 2001 := Int.mul_le_mul h1 c1 (by omega) (by omega)
  omega

theorem pcs_sum (f : Sd → Bx) (m : Int) (s k : Sd) (hf : ∀ t, pts (f t) = len1 t * m) (h1 : s.lo ≤ k.lo) (h2 : k.hi ≤ s.hi) : sumP (pcs f s k) = (len1 s - len1 k) * m := by
  unfold pcs
  rw [sumP_append]
  by_cases q1 : s.lo < k.lo
  · by_cases q2 : k.hi < s.hi
    · rw [if_pos q1, if_pos q2, sumP_cons, sumP_cons, sumP_nil, hf, hf, Int.add_zero, Int.add_zero, ← Int.add_mul]
      congr 1
      unfold len1
      dsimp only
      omega
    · rw [if_pos q1, if_neg q2, sumP_cons, sumP_nil, hf, Int.add_zero, Int.add_zero]
      congr 1
      unfold len1
      dsimp only
      omega
  · by_cases q2 : k.hi < s.hi
    · rw [if_neg q1, if_pos q2, sumP_cons, sumP_nil, hf, Int.add_zero, Int.zero_add]
      congr 1
      unfold len1
      dsimp only
      omega
    · rw [if_neg q1, if_neg q2, sumP_nil, Int.add_zero]
      have e : len1 s - len1 k = 0 := by unfold len1; omega
      rw [e, Int.zero_mul]

theorem mee1_in {s o : Sd} (h : emp (mee1 s o) = false) : s.lo ≤ (mee1 s o).lo ∧ (mee1 s o).lo ≤ (mee1 s o).hi ∧ (mee1 s o).hi ≤ s.hi := by
  unfold emp at h
  rw [decide_eq_false_iff_not] at h
  unfold mee1 at h ⊢
  dsimp only at h ⊢
  by_cases q1 : s.lo < o.lo
  · rw [if_pos q1] at h ⊢
    by_cases q2 : o.hi < s.hi
    · rw [if_pos q2] at h ⊢; omega
    · rw [if_neg q2] at h ⊢; omega
  · rw [if_neg q1] at h ⊢
    by_cases q2 : o.hi < s.hi
    · rw [if_pos q2] at h ⊢; omega
    · rw [if_neg q2] at h ⊢; omega

theorem apart_parts {x y : Bx} (h : apart x y = false) : emp (mee1 x.a y.a) = false ∧ emp (mee1 x.b y.b) = false ∧ emp (mee1 x.c y.c) = false := by
  unfold apart at h
  simp only [Bool.or_eq_false_iff] at h
  exact ⟨h.1.1, h.1.2, h.2⟩

theorem cut_sum (x y : Bx) : sumP (cut x y) = if apart x y then pts x else pts x - pts (mee x y) := by
  unfold cut
  by_cases h : apart x y = true
  · rw [if_pos h, if_pos h, sumP_cons, sumP_nil, Int.add_zero]
  · rw [if_neg h, if_neg h]
    obtain ⟨e1, e2, e3⟩ := apart_parts (by simpa using h)
    have i1 := mee1_in e1
    have i2 := mee1_in e2
    have i3 := mee1_in e3
    unfold cutK
    rw [sumP_append, sumP_append, pcs_sum (fun s => ⟨s, x.b, x.c⟩) (len1 x.b * len1 x.c) x.a (mee x y).a (fun t => by show len1 t * len1 x.b * len1 x.c = _; rw [Int.mul_assoc]) i1.1 i1.2.2,
      pcs_sum (fun s => ⟨(mee x y).a, s, x.c⟩) (len1 (mee x y).a * len1 x.c) x.b (mee x y).b (fun t => by show len1 (mee x y).a * len1 t * len1 x.c = _; rw [Int.mul_comm (len1 (mee x y).a) (len1 t), Int.mul_assoc]) i2.1 i2.2.2,
      pcs_sum (fun s => ⟨(mee x y).a, (mee x y).b, s⟩) (len1 (mee x y).a * len1 (mee x y).b) x.c (mee x y).c (fun t => by show len1 (mee x y).a * len1 (mee x y).b * len1 t = _; rw [Int.mul_comm]) i3.1 i3.2.2]
    unfold pts
    show (len1 x.a - len1 (mee x y).a) * _ + ((len1 x.b - len1 (mee x y).b) * _ + (len1 x.c - len1 (mee x y).c) * _) = _
    generalize len1 x.a = A
    generalize len1 x.b = B
    generalize len1 x.c = C
    generalize len1 (mee x y).a = A'
    generalize len1 (mee x y).b = B'
    generalize len1 (mee x y).c = C'
    simp only [Int.sub_mul]
    have t1 : A' * (B * C) = B * (A' * C) := by rw [← Int.mul_assoc, Int.mul_comm A' B, Int.mul_assoc]
    have t2 : B' * (A' * C) = C * (A' * B') := by rw [← Int.mul_assoc, Int.mul_comm B' A', Int.mul_comm]
    have t3 : C' * (A' * B') = A' * B' * C' := Int.mul_comm _ _
    have t4 : A * (B * C) = A * B * C := (Int.mul_assoc _ _ _).symm
    omega

theorem cut_sum_le {x y : Bx} (hx : okB x = true) (hy : okB y = true) : sumP (cut x y) ≤ pts x := by
  rw [cut_sum x y]
  split
  · omega
  · rename_i h
    have := pts_pos (mee_ok hx hy (by simpa using h))
    omega

theorem pcs_ok (f : Sd → Bx) {s k : Sd} (hs : okS s = true) (hk : okS k = true) (hf : ∀ t, okS t = true → okB (f t) = true) : ∀ q ∈ pcs f s k, okB q = true := by
  intro q hq
  rw [okS_iff] at hs hk
  unfold pcs at hq
  rw [List.mem_append] at hq
  rcases hq with hq | hq
  · split at hq
    · simp at hq
      subst hq
      exact hf _ ((okS_iff _).2 ⟨by dsimp only; omega, by dsimp only; omega, by dsimp only; omega⟩)
    · simp at hq
  · split at hq
    · simp at hq
      subst hq
      exact hf _ ((okS_iff _).2 ⟨by dsimp only; omega, by dsimp only; omega, by dsimp only; omega⟩)
    · simp at hq

theorem cut_ok {x y : Bx} (hx : okB x = true) (hy : okB y = true) : ∀ q ∈ cut x y, okB q = true := by
  intro q hq
  unfold cut at hq
  split at hq
  · simp at hq
    rw [hq]
    exact hx
  · rename_i h
    have hk := (okB_iff _).1 (mee_ok hx hy (by simpa using h))
    have hx' := (okB_iff _).1 hx
    unfold cutK at hq
    rw [List.mem_append, List.mem_append] at hq
    rcases hq with hq | hq | hq
    · exact pcs_ok (fun s => ⟨s, x.b, x.c⟩) hx'.1 hk.1 (fun t ht => (okB_iff _).2 ⟨ht, hx'.2.1, hx'.2.2⟩) q hq
    · exact pcs_ok (fun s => ⟨(mee x y).a, s, x.c⟩) hx'.2.1 hk.2.1 (fun t ht => (okB_iff _).2 ⟨hk.1, ht, hx'.2.2⟩) q hq
    · exact pcs_ok (fun s => ⟨(mee x y).a, (mee x y).b, s⟩) hx'.2.2 hk.2.2 (fun t ht => (okB_iff _).2 ⟨hk.1, hk.2.1, ht⟩) q hq

/-- what is left of boxes when one is cut away from each -/
def cutAll (ps : List Bx) (o : Bx) : List Bx := ps.flatMap fun p => cut p o
/-- what is left of a box when others are cut away -/
def lft (x : Bx) (os : List Bx) : List Bx := os.foldl cutAll [x]

theorem cutAll_ok {ps : List Bx} {o : Bx} (hp : ∀ q ∈ ps, okB q = true) (ho : okB o = true) : ∀ q ∈ cutAll ps o, okB q = true := by
  intro q hq
  unfold cutAll at hq
  rw [List.mem_flatMap] at hq
  obtain ⟨p, h1, h2⟩ := hq
  exact cut_ok (hp p h1) ho q h2

theorem cutAll_sum {ps : List Bx} {o : Bx} (hp : ∀ q ∈ ps, okB q = true) (ho : okB o = true) : sumP (cutAll ps o) ≤ sumP ps := by
  induction ps with
  | nil => exact Int.le_refl _
  | cons p ps ih =>
    have h1 := cut_sum_le (hp p (by simp)) ho
    have h2 := ih (fun q hq => hp q (by simp [hq]))
    unfold cutAll at h2 ⊢
    rw [List.flatMap_cons, sumP_append, sumP_cons]
    omega

theorem len_sum {ps : List Bx} (hp : ∀ q ∈ ps, okB q = true) : (ps.length : Int) ≤ sumP ps := by
  induction ps with
  | nil => exact Int.le_refl _
  | cons p ps ih =>
    have h1 := pts_pos (hp p (by simp))
    have h2 := ih (fun q hq => hp q (by simp [hq]))
    rw [sumP_cons, List.length_cons]
    omega

end Go.Proofs.Ytnbaeplbnonhkaa.Bxs
