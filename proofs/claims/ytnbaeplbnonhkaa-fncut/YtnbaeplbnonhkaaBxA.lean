/- Boxes as lists of sides: what a good one is, what covers and has what, what two have in common, what is left. -/
import Derived.Laws.Bits128
import Derived.Test.YtnbaeplbnonhkaaGa
namespace Go.Proofs.Ytnbaeplbnonhkaa.Bxs
open Plain Sch

structure Sd where
  lo : Int
  hi : Int

instance : Inhabited Sd := ⟨⟨0, 0⟩⟩
instance : DecidableEq Sd := fun x y => decidable_of_iff (x.lo = y.lo ∧ x.hi = y.hi) (by cases x; cases y; simp)

def sd (T : List Sd) (i : Nat) : Sd := T.getD i default

/-- a box of three sides -/
structure Bx where
  a : Sd
  b : Sd
  c : Sd

instance : Inhabited Bx := ⟨⟨default, default, default⟩⟩
instance : DecidableEq Bx := fun x y => decidable_of_iff (x.a = y.a ∧ x.b = y.b ∧ x.c = y.c) (by cases x; cases y; simp)

def Bx.list (x : Bx) : List Sd := [x.a, x.b, x.c]

def okS (s : Sd) : Bool := decide (-1000 ≤ s.lo) && decide (s.lo ≤ s.hi) && decide (s.hi ≤ 1000)
def okB (x : Bx) : Bool := okS x.a && okS x.b && okS x.c
def gb (T : List Sd) : Bool := decide (T.length = 3) && T.all okS

theorem okS_iff (s : Sd) : okS s = true ↔ -1000 ≤ s.lo ∧ s.lo ≤ s.hi ∧ s.hi ≤ 1000 := by
  simp [okS, and_assoc]

theorem okB_iff (x : Bx) : okB x = true ↔ okS x.a = true ∧ okS x.b = true ∧ okS x.c = true := by
  simp [okB, and_assoc]

/-- the box that a list of three is -/
def bx (T : List Sd) : Bx := ⟨sd T 0, sd T 1, sd T 2⟩

theorem list3 {T : List Sd} (h : T.length = 3) : T = (bx T).list := by
  match T, h with
  | [x, y, z], _ => rfl

theorem bx_list (x : Bx) : bx x.list = x := rfl

theorem gb_list (x : Bx) : gb x.list = okB x := by
  simp [gb, okB, Bx.list, Bool.and_assoc]

theorem gb_good {T : List Sd} (h : gb T = true) : T = (bx T).list ∧ okB (bx T) = true := by
  have h3 : T.length = 3 := by
    unfold gb at h
    simp at h
    exact h.1
  have e := list3 h3
  refine ⟨e, ?_⟩
  rw [← gb_list, ← e]
  exact h

theorem gb_len {T : List Sd} (h : T.length ≠ 3) : gb T = false := by
  unfold gb
  simp [h]

theorem sd_mem {T : List Sd} {i : Nat} (h : i < T.length) : sd T i ∈ T := by
  unfold sd
  rw [List.getD, List.getElem?_eq_getElem h]
  exact List.getElem_mem h

theorem gb_bad {T : List Sd} {i : Nat} (h : i < T.length) (hb : okS (sd T i) = false) : gb T = false := by
  unfold gb
  rw [Bool.and_eq_false_iff]
  right
  rw [List.all_eq_false]
  exact ⟨_, sd_mem h, by rw [hb]; decide⟩

theorem gb_all {T : List Sd} (h3 : T.length = 3) (h : ∀ i, i < T.length → okS (sd T i) = true) : gb T = true := by
  unfold gb
  rw [Bool.and_eq_true]
  refine ⟨by simp [h3], ?_⟩
  rw [List.all_eq_true]
  intro x hx
  obtain ⟨i, hi, he⟩ := List.getElem_of_mem hx
  have := h i hi
  unfold sd at this
  rw [List.getD, List.getElem?_eq_getElem hi] at this
  rw [← he]
  exact this

/-- whether one side takes in another -/
def cov1 (s o : Sd) : Bool := decide (s.lo ≤ o.lo) && decide (o.hi ≤ s.hi)
def cov (x y : Bx) : Bool := cov1 x.a y.a && cov1 x.b y.b && cov1 x.c y.c

def hul1 (s o : Sd) : Sd := ⟨if o.lo < s.lo then o.lo else s.lo, if s.hi < o.hi then o.hi else s.hi⟩
def hul (x y : Bx) : Bx := ⟨hul1 x.a y.a, hul1 x.b y.b, hul1 x.c y.c⟩

def mee1 (s o : Sd) : Sd := ⟨if s.lo < o.lo then o.lo else s.lo, if o.hi < s.hi then o.hi else s.hi⟩
def mee (x y : Bx) : Bx := ⟨mee1 x.a y.a, mee1 x.b y.b, mee1 x.c y.c⟩
def emp (s : Sd) : Bool := decide (s.hi < s.lo)
def apart (x y : Bx) : Bool := emp (mee1 x.a y.a) || emp (mee1 x.b y.b) || emp (mee1 x.c y.c)

theorem cov1_hul (s o : Sd) : cov1 s o = decide (hul1 s o = s) := by
  obtain ⟨l, h⟩ := s
  obtain ⟨l', h'⟩ := o
  rw [Bool.eq_iff_iff]
  unfold cov1 hul1
  simp only [Bool.and_eq_true, decide_eq_true_eq, Sd.mk.injEq]
  constructor
  · rintro ⟨h1, h2⟩
    exact ⟨if_neg (by omega), if_neg (by omega)⟩
  · rintro ⟨h1, h2⟩
    constructor
    · by_cases q : l' < l
      · rw [if_pos q] at h1; omega
      · omega
    · by_cases q : h < h'
      · rw [if_pos q] at h2; omega
      · omega

theorem cov_hul (x y : Bx) : cov x y = decide (hul x y = x) := by
  obtain ⟨a, b, c⟩ := x
  unfold cov hul
  simp only [cov1_hul, Bx.mk.injEq]
  rw [Bool.eq_iff_iff]
  simp [and_assoc]

theorem hul_ok {x y : Bx} (hx : okB x = true) (hy : okB y = true) : okB (hul x y) = true := by
  have key : ∀ s o : Sd, okS s = true → okS o = true → okS (hul1 s o) = true := by
    intro s o h1 h2
    rw [okS_iff] at *
    unfold hul1
    dsimp only
    by_cases q1 : o.lo < s.lo <;> by_cases q2 : s.hi < o.hi <;> simp only [q1, q2, if_true, if_false] <;> omega
  rw [okB_iff] at *
  exact ⟨key _ _ hx.1 hy.1, key _ _ hx.2.1 hy.2.1, key _ _ hx.2.2 hy.2.2⟩

theorem mee_ok {x y : Bx} (hx : okB x = true) (hy : okB y = true) (h : apart x y = false) : okB (mee x y) = true := by
  have key : ∀ s o : Sd, okS s = true → okS o = true → emp (mee1 s o) = false → okS (mee1 s o) = true := by
    intro s o h1 h2 h3
    rw [okS_iff] at *
    unfold emp at h3
    rw [decide_eq_false_iff_not] at h3
    unfold mee1 at *
    dsimp only at *
    by_cases q1 : s.lo < o.lo <;> by_cases q2 : o.hi < s.hi <;> simp only [q1, q2, if_true, if_false] at * <;> omega
  rw [okB_iff] at *
  unfold apart at h
  simp only [Bool.or_eq_false_iff] at h
  exact ⟨key _ _ hx.1 hy.1 h.1.1, key _ _ hx.2.1 hy.2.1 h.1.2, key _ _ hx.2.2 hy.2.2 h.2⟩

/-- what lies below and above the side k of a side s -/
def pcs (f : Sd → Bx) (s k : Sd) : List Bx := (if s.lo < k.lo then [f ⟨s.lo, k.lo - 1⟩] else []) ++ (if k.hi < s.hi then [f ⟨k.hi + 1, s.hi⟩] else [])

def cutK (x k : Bx) : List Bx := pcs (fun s => ⟨s, x.b, x.c⟩) x.a k.a ++ (pcs (fun s => ⟨k.a, s, x.c⟩) x.b k.b ++ pcs (fun s => ⟨k.a, k.b, s⟩) x.c k.c)

/-- what is left of a box when another is cut away -/
def cut (x y : Bx) : List Bx := if apart x y then [x] else cutK x (mee x y)

end Go.Proofs.Ytnbaeplbnonhkaa.Bxs
