/- The ways that proofs go up, in plain words. -/
import Derived.Test.YtlglngmlaknmlaaLgB
namespace Go.Proofs.Ytlglngmlaknmlaa.Lgs
open Plain

/-- a stretch beside the way up -/
structure As where
  fr : Nat
  tt : Nat
  ah : Bool

def a0 : As := ⟨0, 0, false⟩

/-- the way down: where it begins, and what it passes -/
def rt (q : Nat → Nat → Bool) (k : Nat) : Nat → Nat → Nat → (Nat × Nat) × List As
  | 0, a, b => ((a, b), [])
  | f + 1, a, b => if q a b = true then ((a, b), []) else
      if k < a + spl (b - a) then ((rt q k f a (a + spl (b - a))).1, (rt q k f a (a + spl (b - a))).2 ++ [⟨a + spl (b - a), b, false⟩])
      else ((rt q k f (a + spl (b - a)) b).1, (rt q k f (a + spl (b - a)) b).2 ++ [⟨a, a + spl (b - a), true⟩])

def Fit (q : Nat → Nat → Bool) (k : Nat) : Prop := ∀ a b, a ≤ k → k < b → q a b = false → 2 ≤ b - a

def isOne (a b : Nat) : Bool := decide (b - a = 1)
def isEld (o : Nat) (_ b : Nat) : Bool := decide (b = o)

theorem one_fit (k : Nat) : Fit isOne k := by
  intro a b h1 h2 h
  unfold isOne at h
  simp at h
  omega
theorem eld_fit (k : Nat) : Fit (isEld (k + 1)) k := by
  intro a b h1 h2 h
  unfold isEld at h
  simp at h
  omega

theorem rt_in {q : Nat → Nat → Bool} {k : Nat} (hq : Fit q k) : ∀ f a b, a ≤ k → k < b → b - a ≤ f → b - a ≤ 40 →
    (a ≤ (rt q k f a b).1.1 ∧ (rt q k f a b).1.1 < (rt q k f a b).1.2 ∧ (rt q k f a b).1.2 ≤ b) ∧ ∀ x ∈ (rt q k f a b).2, a ≤ x.fr ∧ x.fr < x.tt ∧ x.tt ≤ b := by
  intro f
  induction f with
  | zero => intro a b h1 h2 h3 h4; omega
  | succ f ih =>
    intro a b h1 h2 h3 h4
    rw [rt]
    by_cases hqq : q a b = true
    · rw [if_pos hqq]
      exact ⟨⟨Nat.le_refl _, by show a < b; omega, Nat.le_refl _⟩, fun x hx => by simp at hx⟩
    · have h2n := hq a b h1 h2 (by simpa using hqq)
      obtain ⟨s1, s2, s3⟩ := spl_pos h2n h4
      rw [if_neg hqq]
      by_cases hk : k < a + spl (b - a)
      · rw [if_pos hk]
        obtain ⟨⟨i1, i2, i3⟩, i4⟩ := ih a (a + spl (b - a)) h1 hk (by omega) (by omega)
        refine ⟨⟨i1, i2, Nat.le_trans i3 (by omega)⟩, fun x hx => ?_⟩
        rcases List.mem_append.1 hx with h | h
        · have := i4 x h
          omega
        · simp at h
          subst h
          exact ⟨Nat.le_add_right _ _, by show a + spl (b - a) < b; omega, Nat.le_refl _⟩
      · rw [if_neg hk]
        obtain ⟨⟨i1, i2, i3⟩, i4⟩ := ih (a + spl (b - a)) b (by omega) h2 (by omega) (by omega)
        refine ⟨⟨Nat.le_trans (Nat.le_add_right _ _) i1, i2, i3⟩, fun x hx => ?_⟩
        rcases List.mem_append.1 hx with h | h
        · have := i4 x h
          omega
        · simp at h
          subst h
          exact ⟨Nat.le_refl _, by show a < a + spl (b - a); omega, by show a + spl (b - a) ≤ b; omega⟩

theorem spl_half : ∀ n, n < 41 → ∀ d, d < 7 → 2 ≤ n → n ≤ 2 ^ d → 1 ≤ d ∧ spl n ≤ 2 ^ (d - 1) := by decide

theorem rt_len {q : Nat → Nat → Bool} {k : Nat} (hq : Fit q k) : ∀ f d a b, d < 7 → a ≤ k → k < b → b - a ≤ 40 → b - a ≤ 2 ^ d → (rt q k f a b).2.length ≤ d := by
  intro f
  induction f with
  | zero => intro d a b hd h1 h2 h3 h4; exact Nat.zero_le _
  | succ f ih =>
    intro d a b hd h1 h2 h3 h4
    rw [rt]
    by_cases hqq : q a b = true
    · rw [if_pos hqq]
      exact Nat.zero_le _
    · have h2n := hq a b h1 h2 (by simpa using hqq)
      obtain ⟨s1, s2, s3⟩ := spl_pos h2n h3
      obtain ⟨d1, d2⟩ := spl_half (b - a) (by omega) d hd h2n h4
      rw [if_neg hqq]
      by_cases hk : k < a + spl (b - a)
      · rw [if_pos hk, List.length_append, List.length_singleton]
        have := ih (d - 1) a (a + spl (b - a)) (by omega) h1 hk (by omega) (by omega)
        omega
      · rw [if_neg hk, List.length_append, List.length_singleton]
        have := ih (d - 1) (a + spl (b - a)) b (by omega) (by omega) h2 (by omega) (by omega)
        omega

/-- a stretch of a log -/
def sub (l : List ByteArray) (a b : Nat) : List ByteArray := (l.drop a).take (b - a)
theorem sub_len {l : List ByteArray} {a b : Nat} (h : b ≤ l.length) : (sub l a b).length = b - a := by
  unfold sub
  rw [List.length_take, List.length_drop]
  omega
theorem sub_take {l : List ByteArray} {a b s : Nat} (h : a + s ≤ b) : (sub l a b).take s = sub l a (a + s) := by
  unfold sub
  rw [List.take_take, Nat.min_eq_left (by omega), Nat.add_sub_cancel_left]
theorem sub_drop {l : List ByteArray} {a b s : Nat} : (sub l a b).drop s = sub l (a + s) b := by
  unfold sub
  rw [List.drop_take, List.drop_drop, Nat.sub_add_eq]
theorem sub_all (l : List ByteArray) : sub l 0 l.length = l := by
  unfold sub
  rw [List.drop_zero, Nat.sub_zero, List.take_of_length_le (Nat.le_refl _)]

def rootS (l : List ByteArray) (x : As) : Nat := root (sub l x.fr x.tt)

theorem in_rt (l : List ByteArray) (k : Nat) : ∀ f a b, a ≤ k → k < b → b ≤ l.length → b - a ≤ f → b - a ≤ 40 → inF f (sub l a b) (k - a) = (rt isOne k f a b).2.map (rootS l) := by
  intro f
  induction f with
  | zero => intro a b h1 h2 h3 h4 h5; omega
  | succ f ih =>
    intro a b h1 h2 h3 h4 h5
    rw [rt, inF, sub_len h3]
    by_cases h : b - a = 1
    · rw [if_pos (show b - a ≤ 1 by omega), if_pos (show isOne a b = true by unfold isOne; simpa using h)]
      rfl
    · obtain ⟨s1, s2, s3⟩ := spl_pos (n := b - a) (by omega) h5
      rw [if_neg (show ¬ b - a ≤ 1 by omega), if_neg (show ¬ isOne a b = true by unfold isOne; simpa using h)]
      by_cases hk : k < a + spl (b - a)
      · rw [if_pos hk, if_pos (show k - a < spl (b - a) by omega), sub_take (by omega), sub_drop, List.map_append, ih a (a + spl (b - a)) h1 hk (by omega) (by omega) (by omega)]
        rfl
      · rw [if_neg hk, if_neg (show ¬ k - a < spl (b - a) by omega), sub_take (by omega), sub_drop, List.map_append, ← ih (a + spl (b - a)) b (by omega) h2 h3 (by omega) (by omega), Nat.sub_add_eq]
        rfl

/-- two sums made one -/
def jn (a : As) (x y : Nat) : Nat := if a.ah = true then node y x else node x y
theorem jn_lt (a : As) (x y : Nat) : jn a x y < 1000003 := by
  unfold jn
  split
  · exact node_lt _ _
  · exact node_lt _ _

/-- the sum behind so many steps up -/
def fld (x : Nat) (L : List As) (p : List Nat) : Nat → Nat
  | 0 => x
  | i + 1 => jn (L.getD i a0) (fld x L p i) (p.getD i 0)
theorem fld_lt {x : Nat} (hx : x < 1000003) (L : List As) (p : List Nat) : ∀ i, fld x L p i < 1000003
  | 0 => hx
  | _ + 1 => jn_lt _ _ _
theorem fld_same {x : Nat} {L L' : List As} {p p' : List Nat} : ∀ i, (∀ j, j < i → L.getD j a0 = L'.getD j a0 ∧ p.getD j 0 = p'.getD j 0) → fld x L p i = fld x L' p' i
  | 0, _ => rfl
  | i + 1, h => by
    rw [fld, fld, fld_same i (fun j hj => h j (by omega)), (h i (by omega)).1, (h i (by omega)).2]

theorem getD_left {α : Type} (L : List α) (M : List α) (d : α) {j : Nat} (h : j < L.length) : (L ++ M).getD j d = L.getD j d := by
  rw [List.getD, List.getD, List.getElem?_append_left h]
theorem getD_last {α : Type} (L : List α) (a d : α) : (L ++ [a]).getD L.length d = a := by
  rw [List.getD, List.getElem?_append_right (Nat.le_refl _)]
  simp
theorem getD_dropLast (p : List Nat) {j : Nat} (h : j < p.length - 1) : p.dropLast.getD j 0 = p.getD j 0 := by
  rw [List.getD, List.getD, List.getElem?_dropLast, if_pos h]

theorem fld_snoc (x : Nat) (L : List As) (a : As) (p : List Nat) (h : p.length = L.length + 1) : fld x (L ++ [a]) p (L.length + 1) = jn a (fld x L p.dropLast L.length) (p.getD (p.length - 1) 0) := by
  rw [fld, getD_last, h, Nat.add_sub_cancel, fld_same (L' := L) (p' := p.dropLast) L.length (fun j hj => ⟨getD_left _ _ _ hj, (getD_dropLast p (by omega)).symm⟩)]

theorem up_rt (k : Nat) : ∀ f a b x (p : List Nat), a ≤ k → k < b → b - a ≤ f → b - a ≤ 40 →
    (upF f (b - a) (k - a) x p).2 = decide (p.length = (rt isOne k f a b).2.length) ∧ (p.length = (rt isOne k f a b).2.length → (upF f (b - a) (k - a) x p).1 = fld x (rt isOne k f a b).2 p (rt isOne k f a b).2.length) := by
  intro f
  induction f with
  | zero => intro a b x p h1 h2 h3 h4; omega
  | succ f ih =>
    intro a b x p h1 h2 h3 h4
    rw [rt, upF]
    by_cases h : b - a = 1
    · rw [if_pos (show b - a ≤ 1 by omega), if_pos (show isOne a b = true by unfold isOne; simpa using h)]
      exact ⟨rfl, fun _ => rfl⟩
    · obtain ⟨s1, s2, s3⟩ := spl_pos (n := b - a) (by omega) h4
      rw [if_neg (show ¬ b - a ≤ 1 by omega), if_neg (show ¬ isOne a b = true by unfold isOne; simpa using h)]
      by_cases hk : k < a + spl (b - a)
      · rw [if_pos hk, if_pos (show k - a < spl (b - a) by omega)]
        obtain ⟨i1, i2⟩ := ih a (a + spl (b - a)) x p.dropLast h1 hk (by omega) (by omega)
        rw [Nat.add_sub_cancel_left, List.length_dropLast] at i1 i2
        generalize (rt isOne k f a (a + spl (b - a))).2 = L at i1 i2
        by_cases h0 : p.length = 0
        · rw [if_pos h0]
          refine ⟨?_, fun h => ?_⟩
          · simp; omega
          · simp at h; omega
        · rw [if_neg h0]
          refine ⟨?_, fun h => ?_⟩
          · rw [i1, decide_eq_decide, List.length_append, List.length_singleton]
            omega
          · have h' : p.length = L.length + 1 := by simpa using h
            show node _ _ = _
            rw [i2 (by omega), List.length_append, List.length_singleton, fld_snoc x L _ p h']
            rfl
      · rw [if_neg hk, if_neg (show ¬ k - a < spl (b - a) by omega)]
        obtain ⟨i1, i2⟩ := ih (a + spl (b - a)) b x p.dropLast (by omega) h2 (by omega) (by omega)
        rw [Nat.sub_add_eq, Nat.sub_add_eq, List.length_dropLast] at i1 i2
        generalize (rt isOne k f (a + spl (b - a)) b).2 = L at i1 i2
        by_cases h0 : p.length = 0
        · rw [if_pos h0]
          refine ⟨?_, fun h => ?_⟩
          · simp; omega
          · simp at h; omega
        · rw [if_neg h0]
          refine ⟨?_, fun h => ?_⟩
          · rw [i1, decide_eq_decide, List.length_append, List.length_singleton]
            omega
          · have h' : p.length = L.length + 1 := by simpa using h
            show node _ _ = _
            rw [i2 (by omega), List.length_append, List.length_singleton, fld_snoc x L _ p h']
            rfl

theorem gro_rt (l : List ByteArray) (k : Nat) : ∀ f a b, a ≤ k → k < b → b ≤ l.length → b - a ≤ f → b - a ≤ 40 →
    groF f (sub l a b) (k + 1 - a) (decide (a = 0)) = (if (rt (isEld (k + 1)) k f a b).1.1 = 0 then [] else [root (sub l (rt (isEld (k + 1)) k f a b).1.1 (rt (isEld (k + 1)) k f a b).1.2)]) ++ (rt (isEld (k + 1)) k f a b).2.map (rootS l) := by
  intro f
  induction f with
  | zero => intro a b h1 h2 h3 h4 h5; omega
  | succ f ih =>
    intro a b h1 h2 h3 h4 h5
    rw [rt, groF, sub_len h3]
    by_cases h : b = k + 1
    · rw [if_pos (show k + 1 - a = b - a by omega), if_pos (show isEld (k + 1) a b = true by unfold isEld; simpa using h)]
      by_cases ha : a = 0
      · rw [if_pos (by simpa using ha), if_pos ha]
        rfl
      · rw [if_neg (by simpa using ha), if_neg ha]
        rfl
    · obtain ⟨s1, s2, s3⟩ := spl_pos (n := b - a) (by omega) h5
      rw [if_neg (show ¬ k + 1 - a = b - a by omega), if_neg (show ¬ isEld (k + 1) a b = true by unfold isEld; simpa using h)]
      by_cases hk : k < a + spl (b - a)
      · rw [if_pos hk, if_pos (show k + 1 - a ≤ spl (b - a) by omega), sub_take (by omega), sub_drop, List.map_append, ih a (a + spl (b - a)) h1 hk (by omega) (by omega) (by omega), List.append_assoc]
        rfl
      · have hi := ih (a + spl (b - a)) b (by omega) h2 h3 (by omega) (by omega)
        rw [show decide (a + spl (b - a) = 0) = false by simp; omega, Nat.sub_add_eq] at hi
        rw [if_neg hk, if_neg (show ¬ k + 1 - a ≤ spl (b - a) by omega), sub_take (by omega), sub_drop, List.map_append, hi, List.append_assoc]
        rfl

/-- the elder root behind so many steps up -/
def eldN (s : Nat) (L : List As) (p : List Nat) : Nat → Nat
  | 0 => s
  | i + 1 => if (L.getD i a0).ah = true then node (p.getD i 0) (eldN s L p i) else eldN s L p i
theorem eldN_lt {s : Nat} (hs : s < 1000003) (L : List As) (p : List Nat) : ∀ i, eldN s L p i < 1000003
  | 0 => hs
  | i + 1 => by
    rw [eldN]
    split
    · exact node_lt _ _
    · exact eldN_lt hs L p i
theorem eldN_same {s : Nat} {L L' : List As} {p p' : List Nat} : ∀ i, (∀ j, j < i → L.getD j a0 = L'.getD j a0 ∧ p.getD j 0 = p'.getD j 0) → eldN s L p i = eldN s L' p' i
  | 0, _ => rfl
  | i + 1, h => by
    rw [eldN, eldN, eldN_same i (fun j hj => h j (by omega)), (h i (by omega)).1, (h i (by omega)).2]

theorem getD_drop1 (p : List Nat) (o j : Nat) : (p.drop o).getD j 0 = p.getD (o + j) 0 := by
  rw [List.getD, List.getD, List.getElem?_drop]

theorem snoc_both (s : Nat) (L : List As) (a : As) (p : List Nat) (o : Nat) (h : p.length = L.length + 1 + o) :
    fld s (L ++ [a]) (p.drop o) (L.length + 1) = jn a (fld s L (p.dropLast.drop o) L.length) (p.getD (p.length - 1) 0) ∧
    eldN s (L ++ [a]) (p.drop o) (L.length + 1) = (if a.ah = true then node (p.getD (p.length - 1) 0) (eldN s L (p.dropLast.drop o) L.length) else eldN s L (p.dropLast.drop o) L.length) := by
  have hs : ∀ j, j < L.length → (L ++ [a]).getD j a0 = L.getD j a0 ∧ (p.drop o).getD j 0 = (p.dropLast.drop o).getD j 0 := fun j hj => by
    refine ⟨getD_left _ _ _ hj, ?_⟩
    rw [getD_drop1, getD_drop1, getD_dropLast p (by omega)]
  have e : p.length - 1 = o + L.length := by omega
  rw [fld, eldN, getD_last, getD_drop1, e, fld_same _ hs, eldN_same _ hs]
  exact ⟨rfl, rfl⟩

/-- how many sums stand ahead of those on the way -/
def off (a : Nat) : Nat := if a = 0 then 0 else 1
def beg (a o : Nat) (p : List Nat) : Nat := if a = 0 then o else p.getD 0 0

theorem beg_last {a o : Nat} {p : List Nat} {n : Nat} (h : p.length = n + 1 + off a) : beg a o p.dropLast = beg a o p := by
  unfold beg
  unfold off at h
  split
  · rfl
  · rename_i h0
    rw [if_neg h0] at h
    rw [getD_dropLast p (by omega)]

structure Bt (r : Nat × Nat × Bool) (R : (Nat × Nat) × List As) (o : Nat) (p : List Nat) : Prop where
  many : r.2.2 = decide (p.length = R.2.length + off R.1.1)
  newer : p.length = R.2.length + off R.1.1 → r.2.1 = fld (beg R.1.1 o p) R.2 (p.drop (off R.1.1)) R.2.length
  elder : p.length = R.2.length + off R.1.1 → r.1 = eldN (beg R.1.1 o p) R.2 (p.drop (off R.1.1)) R.2.length

theorem bot_rt (o k : Nat) : ∀ f a b (p : List Nat), a ≤ k → k < b → b - a ≤ f → b - a ≤ 40 →
    Bt (botF f o (b - a) (k + 1 - a) (decide (a = 0)) p) (rt (isEld (k + 1)) k f a b) o p := by
  intro f
  induction f with
  | zero => intro a b p h1 h2 h3 h4; omega
  | succ f ih =>
    intro a b p h1 h2 h3 h4
    rw [rt, botF]
    by_cases h : b = k + 1
    · rw [if_pos (show k + 1 - a = b - a by omega), if_pos (show isEld (k + 1) a b = true by unfold isEld; simpa using h)]
      by_cases ha : a = 0
      · rw [if_pos (by simpa using ha)]
        subst ha
        exact ⟨rfl, fun _ => rfl, fun _ => rfl⟩
      · rw [if_neg (by simpa using ha)]
        have e1 : off a = 1 := by unfold off; rw [if_neg ha]
        have e2 : beg a o p = p.getD 0 0 := by unfold beg; rw [if_neg ha]
        by_cases hp : p.length = 1
        · rw [if_pos hp]
          refine ⟨?_, fun _ => ?_, fun _ => ?_⟩
          · show true = decide (p.length = 0 + off a); rw [e1]; simpa using hp
          · show p.getD 0 0 = beg a o p; rw [e2]
          · show p.getD 0 0 = beg a o p; rw [e2]
        · rw [if_neg hp]
          have hne : ¬ p.length = 0 + off a := by rw [e1]; omega
          exact ⟨(decide_eq_false hne).symm, fun h => absurd h hne, fun h => absurd h hne⟩
    · obtain ⟨s1, s2, s3⟩ := spl_pos (n := b - a) (by omega) h4
      rw [if_neg (show ¬ k + 1 - a = b - a by omega), if_neg (show ¬ isEld (k + 1) a b = true by unfold isEld; simpa using h)]
      by_cases hk : k < a + spl (b - a)
      · rw [if_pos hk, if_pos (show k + 1 - a ≤ spl (b - a) by omega)]
        have hi := ih a (a + spl (b - a)) p.dropLast h1 hk (by omega) (by omega)
        rw [Nat.add_sub_cancel_left] at hi
        generalize rt (isEld (k + 1)) k f a (a + spl (b - a)) = R at hi
        obtain ⟨i1, i2, i3⟩ := hi
        rw [List.length_dropLast] at i1 i2 i3
        by_cases h0 : p.length = 0
        · rw [if_pos h0]
          have hne : ¬ p.length = (R.2 ++ [(⟨a + spl (b - a), b, false⟩ : As)]).length + off R.1.1 := by rw [List.length_append, List.length_singleton]; omega
          exact ⟨(decide_eq_false hne).symm, fun h => absurd h hne, fun h => absurd h hne⟩
        · rw [if_neg h0]
          refine ⟨?_, fun h => ?_, fun h => ?_⟩
          · show (botF _ _ _ _ _ _).2.2 = decide (p.length = (R.2 ++ [_]).length + off R.1.1)
            rw [i1, decide_eq_decide, List.length_append, List.length_singleton]
            omega
          · have h' : p.length = R.2.length + 1 + off R.1.1 := by simpa using h
            show node _ _ = fld _ (R.2 ++ [_]) _ (R.2 ++ [_]).length
            rw [i2 (by omega), List.length_append, List.length_singleton, (snoc_both _ _ _ p _ h').1, beg_last h']
            rfl
          · have h' : p.length = R.2.length + 1 + off R.1.1 := by simpa using h
            show (botF _ _ _ _ _ _).1 = eldN _ (R.2 ++ [_]) _ (R.2 ++ [_]).length
            rw [i3 (by omega), List.length_append, List.length_singleton, (snoc_both _ _ _ p _ h').2, beg_last h']
            rfl
      · rw [if_neg hk, if_neg (show ¬ k + 1 - a ≤ spl (b - a) by omega)]
        have hi := ih (a + spl (b - a)) b p.dropLast (by omega) h2 (by omega) (by omega)
        rw [show decide (a + spl (b - a) = 0) = false by simp; omega, Nat.sub_add_eq, Nat.sub_add_eq] at hi
        generalize rt (isEld (k + 1)) k f (a + spl (b - a)) b = R at hi
        obtain ⟨i1, i2, i3⟩ := hi
        rw [List.length_dropLast] at i1 i2 i3
        by_cases h0 : p.length = 0
        · rw [if_pos h0]
          have hne : ¬ p.length = (R.2 ++ [(⟨a, a + spl (b - a), true⟩ : As)]).length + off R.1.1 := by rw [List.length_append, List.length_singleton]; omega
          exact ⟨(decide_eq_false hne).symm, fun h => absurd h hne, fun h => absurd h hne⟩
        · rw [if_neg h0]
          refine ⟨?_, fun h => ?_, fun h => ?_⟩
          · show (botF _ _ _ _ _ _).2.2 = decide (p.length = (R.2 ++ [_]).length + off R.1.1)
            rw [i1, decide_eq_decide, List.length_append, List.length_singleton]
            omega
          · have h' : p.length = R.2.length + 1 + off R.1.1 := by simpa using h
            show node _ _ = fld _ (R.2 ++ [_]) _ (R.2 ++ [_]).length
            rw [i2 (by omega), List.length_append, List.length_singleton, (snoc_both _ _ _ p _ h').1, beg_last h']
            rfl
          · have h' : p.length = R.2.length + 1 + off R.1.1 := by simpa using h
            show node _ _ = eldN _ (R.2 ++ [_]) _ (R.2 ++ [_]).length
            rw [i3 (by omega), List.length_append, List.length_singleton, (snoc_both _ _ _ p _ h').2, beg_last h']
            rfl

end Go.Proofs.Ytlglngmlaknmlaa.Lgs
