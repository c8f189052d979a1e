/- The variables of a term, told in two ways. -/
import Derived.Test.YtlmhjkcollohnaaDoorTmA
namespace Go.Proofs.YtlmhjkcollohnaaDoor.Trm
open Plain Sch

/-- v put into a rising list -/
def ins (v : Nat) : List Nat → List Nat
  | [] => [v]
  | x :: l => if x < v then x :: ins v l else if x = v then x :: l else v :: x :: l

mutual
/-- the variables of a tree put to those of a list -/
def vars : TT → List Nat → List Nat
  | .mk v _ ks, out => if 0 < v then ins v.toNat out else varsL ks out
def varsL : List TT → List Nat → List Nat
  | [], out => out
  | x :: xs, out => varsL xs (vars x out)
end

/-- the numbers 1 to 6 that are so -/
def pick6 (p : Nat → Bool) : List Nat := [1, 2, 3, 4, 5, 6].filter p

theorem ins_all : ∀ b1 b2 b3 b4 b5 b6 : Bool, ∀ v, v < 7 → 1 ≤ v →
    ins v ((if b1 then [1] else []) ++ ((if b2 then [2] else []) ++ ((if b3 then [3] else []) ++ ((if b4 then [4] else []) ++ ((if b5 then [5] else []) ++ (if b6 then [6] else []))))))
    = (if b1 || v == 1 then [1] else []) ++ ((if b2 || v == 2 then [2] else []) ++ ((if b3 || v == 3 then [3] else []) ++ ((if b4 || v == 4 then [4] else []) ++ ((if b5 || v == 5 then [5] else []) ++ (if b6 || v == 6 then [6] else []))))) := by
  decide

theorem pick6_eq (p : Nat → Bool) : pick6 p = (if p 1 then [1] else []) ++ ((if p 2 then [2] else []) ++ ((if p 3 then [3] else []) ++ ((if p 4 then [4] else []) ++ ((if p 5 then [5] else []) ++ (if p 6 then [6] else []))))) := by
  unfold pick6
  cases h1 : p 1 <;> cases h2 : p 2 <;> cases h3 : p 3 <;> cases h4 : p 4 <;> cases h5 : p 5 <;> cases h6 : p 6 <;> simp [h1, h2, h3, h4, h5, h6]

theorem ins_pick (p : Nat → Bool) (v : Nat) (h1 : 1 ≤ v) (h6 : v ≤ 6) : ins v (pick6 p) = pick6 fun k => p k || v == k := by
  rw [pick6_eq, pick6_eq]
  exact ins_all (p 1) (p 2) (p 3) (p 4) (p 5) (p 6) v (by omega) h1

theorem pick6_congr {p q : Nat → Bool} (h : ∀ k, 1 ≤ k → k ≤ 6 → p k = q k) : pick6 p = pick6 q := by
  rw [pick6_eq, pick6_eq, h 1 (by omega) (by omega), h 2 (by omega) (by omega), h 3 (by omega) (by omega), h 4 (by omega) (by omega), h 5 (by omega) (by omega), h 6 (by omega) (by omega)]

theorem pick6_none : pick6 (fun _ => false) = [] := by rfl

theorem pick6_len (p : Nat → Bool) : (pick6 p).length ≤ 6 := by
  unfold pick6
  exact Nat.le_trans (List.length_filter_le _ _) (by simp)

/-- is v among the variables of these cells -/
def hasV (T : List Ce) (v : Nat) : Bool := T.any fun c => c.var == (v : Int)

theorem hasV_append (a b : List Ce) (v : Nat) : hasV (a ++ b) v = (hasV a v || hasV b v) := by unfold hasV; rw [List.any_append]
theorem hasV_cons (c : Ce) (b : List Ce) (v : Nat) : hasV (c :: b) v = ((c.var == (v : Int)) || hasV b v) := by unfold hasV; rw [List.any_cons]

theorem rd_ok (f : Nat) : ∀ l x r, rdT f l = some (x, r) → ∀ c ∈ fl x, okCe c = true := by
  induction f with
  | zero => intro l x r h; simp [rdT] at h
  | succ f ih =>
    intro l x r h
    obtain ⟨f', c, l', ts, hf, rfl, hc, hn, rfl⟩ := rdT_some h
    obtain rfl : f = f' := by omega
    have hN : ∀ n l ts r, rdN (rdT f) n l = some (ts, r) → ∀ c ∈ flL ts, okCe c = true := by
      intro n
      induction n with
      | zero => intro l ts r h; simp [rdN] at h; obtain ⟨rfl, rfl⟩ := h; simp [flL]
      | succ n ihn =>
        intro l ts r h
        obtain ⟨y, s, ys, h1, h2, rfl⟩ := rdN_some h
        intro c hc
        rw [flL, List.mem_append] at hc
        rcases hc with hc | hc
        · exact ih _ _ _ h1 c hc
        · exact ihn _ _ _ h2 c hc
    have hm := okCe_many hc
    have hl := rdN_len _ hn
    intro d hd
    rw [fl, List.mem_cons] at hd
    rcases hd with rfl | hd
    · have : ((ts.length : Nat) : Int) = c.many := by rw [hl]; omega
      rw [this]
      exact hc
    · exact hN _ _ _ _ hn d hd

theorem okCe_pos {c : Ce} (h : okCe c = true) (hv : 0 < c.var) : 1 ≤ c.var ∧ c.var ≤ 6 ∧ c.name = ⟨#[]⟩ ∧ c.many = 0 := by
  unfold okCe at h
  rw [if_neg (by omega)] at h
  simp [okVar] at h
  exact ⟨h.1.1.1, h.1.1.2, h.1.2, h.2⟩

theorem okCe_neg {c : Ce} (h : okCe c = true) (hv : ¬ 0 < c.var) : c.var = 0 := by
  unfold okCe at h
  by_cases h0 : c.var = 0
  · exact h0
  · rw [if_neg h0] at h
    simp [okVar] at h
    omega

mutual
theorem vars_pick : ∀ (x : TT) (p : Nat → Bool), (∀ c ∈ fl x, okCe c = true) → vars x (pick6 p) = pick6 fun k => p k || hasV (fl x) k
  | .mk v n ks, p, h => by
    have hc := h ⟨v, n, (ks.length : Int)⟩ (by simp [fl])
    rw [vars]
    by_cases hv : 0 < v
    · obtain ⟨h1, h6, _, hm⟩ := okCe_pos hc hv
      dsimp only at h1 h6 hm
      have hk : ks = [] := List.length_eq_zero_iff.1 (by omega)
      subst hk
      rw [if_pos hv, ins_pick p v.toNat (by omega) (by omega)]
      apply pick6_congr
      intro k _ _
      rw [fl, hasV_cons]
      simp only [flL, hasV, List.any_nil, Bool.or_false]
      congr 1
      rw [Bool.eq_iff_iff]
      simp
      omega
    · have h0 := okCe_neg hc hv
      dsimp only at h0
      subst h0
      rw [if_neg hv, varsL_pick ks p (fun c hc => h c (by rw [fl]; exact List.mem_cons_of_mem _ hc))]
      apply pick6_congr
      intro k hk _
      rw [fl, hasV_cons]
      have : ((0 : Int) == (k : Int)) = false := by simp; omega
      dsimp only
      rw [this, Bool.false_or]
theorem varsL_pick : ∀ (xs : List TT) (p : Nat → Bool), (∀ c ∈ flL xs, okCe c = true) → varsL xs (pick6 p) = pick6 fun k => p k || hasV (flL xs) k
  | [], p, _ => by
    rw [varsL]
    apply pick6_congr
    intro k _ _
    simp [flL, hasV]
  | x :: xs, p, h => by
    rw [varsL, vars_pick x p (fun c hc => h c (by rw [flL]; exact List.mem_append_left _ hc)), varsL_pick xs _ (fun c hc => h c (by rw [flL]; exact List.mem_append_right _ hc))]
    apply pick6_congr
    intro k _ _
    rw [flL, hasV_append, Bool.or_assoc]
end

/-- what VarsOf tells -/
def vof (T : List Ce) : List Nat × Bool := if gt T then (pick6 (hasV T), true) else ([], false)

theorem vof_no {T : List Ce} (h : gt T = false) : vof T = ([], false) := by unfold vof; rw [h]; rfl
theorem vof_yes {T : List Ce} (h : gt T = true) : vof T = (pick6 (hasV T), true) := by unfold vof; rw [if_pos h]

theorem vof_len (T : List Ce) : (vof T).1.length ≤ 6 := by
  unfold vof
  split
  · exact pick6_len _
  · simp

theorem tre_ok {T : List Ce} {x : TT} (h : tre T = some x) : ∀ c ∈ T, okCe c = true := by
  have h1 := rd_ok 31 _ _ _ (tre_some h)
  rw [← tre_fl h] at h1
  exact h1

theorem vars_tre {T : List Ce} {x : TT} (h : tre T = some x) : vars x [] = pick6 (hasV T) := by
  have h1 := vars_pick x (fun _ => false) (rd_ok 31 _ _ _ (tre_some h))
  rw [pick6_none] at h1
  rw [h1, tre_fl h]
  apply pick6_congr
  intro k _ _
  simp

theorem gt_tre {T : List Ce} (h : gt T = true) : T.length ≤ 30 ∧ ∃ x, tre T = some x := by
  have h30 : T.length ≤ 30 := by unfold gt at h; simp at h; exact h.1
  refine ⟨h30, ?_⟩
  have := tre_gt T h30
  rw [h] at this
  exact Option.isSome_iff_exists.1 this

theorem gt_ok {T : List Ce} (h : gt T = true) : ∀ c ∈ T, okCe c = true := by
  obtain ⟨_, x, hx⟩ := gt_tre h
  exact tre_ok hx

/-- a good cell is the variable's one just if its number is -/
theorem ok_var_iff {c : Ce} (h : okCe c = true) (k : Nat) (hk : 1 ≤ k) : c = ⟨(k : Int), ⟨#[]⟩, 0⟩ ↔ c.var = (k : Int) := by
  constructor
  · rintro rfl; rfl
  · intro hv
    obtain ⟨_, _, h1, h2⟩ := okCe_pos h (by omega)
    obtain ⟨v, n, m⟩ := c
    dsimp only at hv h1 h2
    subst hv h1 h2
    rfl

end Go.Proofs.YtlmhjkcollohnaaDoor.Trm
