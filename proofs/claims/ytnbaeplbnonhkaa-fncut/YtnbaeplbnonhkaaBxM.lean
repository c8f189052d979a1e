/- How a box's sides lie in memory: a slice's cells, two a side; an array's six cells. -/
import Derived.Test.YtnbaeplbnonhkaaGb
import Derived.Test.YtnbaeplbnonhkaaBxA
namespace Go.Proofs.Ytnbaeplbnonhkaa
open Go.RowKit Plain Sch Bxs

def Bxs.Sd.cells (t : Sd) : List Value := [.int .i64 t.lo, .int .i64 t.hi]

def SdIn (w : World) (g o : Nat) (t : Sd) : Prop := w.cell? ⟨g, o, none⟩ = some (.int .i64 t.lo) ∧ w.cell? ⟨g, o + 1, none⟩ = some (.int .i64 t.hi)

theorem SdIn.below {w w' : World} {g o B : Nat} {t : Sd} (h : SdIn w g o t) (hb : Below B w w') (hg : g < B) : SdIn w' g o t :=
  ⟨(hb.cell (p := ⟨g, o, none⟩) hg).trans h.1, (hb.cell (p := ⟨g, o + 1, none⟩) hg).trans h.2⟩

/-- a slice of sides, in blocks below B -/
def SdsAt (w : World) (B : Nat) (v : Value) (T : List Sd) : Prop :=
  ∃ ao cap, v = .slice ao T.length cap ∧ T.length ≤ cap ∧ cap ≤ maxLen ∧ ∀ i, i < T.length → ∃ g o, ao = some ⟨g, o, none⟩ ∧ g < B ∧ SdIn w g (o + i * 2) (sd T i)

theorem SdsAt.below' {w w' : World} {v : Value} {T : List Sd} {B : Nat} (h : SdsAt w B v T) (hb : Below B w w') : SdsAt w' B v T := by
  obtain ⟨ao, cap, hv, hc, hm, hr⟩ := h
  refine ⟨ao, cap, hv, hc, hm, fun i hi => ?_⟩
  obtain ⟨g, o, ha, hg, c⟩ := hr i hi
  exact ⟨g, o, ha, hg, c.below hb hg⟩

theorem SdsAt.mono {w : World} {v : Value} {T : List Sd} {B C : Nat} (h : SdsAt w B v T) (hB : B ≤ C) : SdsAt w C v T := by
  obtain ⟨ao, cap, hv, hc, hm, hr⟩ := h
  refine ⟨ao, cap, hv, hc, hm, fun i hi => ?_⟩
  obtain ⟨g, o, ha, hg, c⟩ := hr i hi
  exact ⟨g, o, ha, by omega, c⟩

theorem SdsAt.below {w w' : World} {v : Value} {T : List Sd} {B : Nat} (h : SdsAt w B v T) (hb : Below B w w') (hB : B ≤ w.heap.size := by exact Nat.le_refl _) : SdsAt w' w'.heap.size v T :=
  (h.below' hb).mono (Nat.le_trans hB hb.size)

theorem flat2 (l : List Sd) (i j : Nat) (h : i < l.length) (hj : j < 2) : (l.flatMap Sd.cells)[i * 2 + j]? = (sd l i).cells[j]? := by
  induction l generalizing i with
  | nil => simp at h
  | cons a l ih =>
    rw [List.flatMap_cons]
    have ha : a.cells.length = 2 := rfl
    cases i with
    | zero =>
      rw [Nat.zero_mul, Nat.zero_add, List.getElem?_append_left (by omega)]
      rfl
    | succ i =>
      rw [List.getElem?_append_right (by omega)]
      have := ih i (by simpa using h)
      have e : sd (a :: l) (i + 1) = sd l i := by simp [sd]
      rw [e, ← this]
      congr 1
      omega

theorem flat2_len (l : List Sd) : (l.flatMap Sd.cells).length = l.length * 2 := by
  induction l with
  | nil => rfl
  | cons a l ih => rw [List.flatMap_cons, List.length_append, ih, List.length_cons]; have : a.cells.length = 2 := rfl; omega

theorem ys2_eq (l : List Sd) (ys : List Value) (hl : ys.length = l.length * 2) (h : ∀ i, i < l.length → ∀ j, j < 2 → ys[i * 2 + j]? = (sd l i).cells[j]?) : ys = l.flatMap Sd.cells := by
  apply List.ext_getElem?
  intro k
  by_cases hk : k < l.length * 2
  · have e : k = k / 2 * 2 + k % 2 := by omega
    rw [e, h (k / 2) (by omega) (k % 2) (by omega), flat2 l (k / 2) (k % 2) (by omega) (by omega)]
  · rw [List.getElem?_eq_none (by omega), List.getElem?_eq_none (by rw [flat2_len]; omega)]

/-- an own row of sides, in a block of type e -/
def SRow (w : World) (B e : Nat) (v : Value) (T : List Sd) : Prop := w.ownsRow B e 2 v T.length (T.flatMap Sd.cells)

theorem SdsAt.own {w : World} {B e : Nat} {v : Value} {T : List Sd} (h : SRow w B e v T) : SdsAt w w.heap.size v T := by
  have h0 : w.ownsRow B e 2 v T.length (T.flatMap Sd.cells) := h
  obtain ⟨_, ⟨rfl, hn0⟩ | ⟨g, cap, cur, rfl, hB, hb, hnc, hcm, _⟩⟩ := h
  · exact ⟨none, 0, by rw [hn0], by omega, by unfold maxLen; omega, fun i hi => by omega⟩
  · refine ⟨some ⟨g, 0, none⟩, cap, rfl, hnc, hcm, fun i hi => ⟨g, 0, rfl, (h0.lt g rfl).2, ?_⟩⟩
    have c : ∀ j, j < 2 → w.cell? ⟨g, 0 + i * 2 + j, none⟩ = (sd T i).cells[j]? := fun j hj => by
      rw [Nat.zero_add, h0.cellAt (i * 2 + j) (by omega)]
      exact flat2 T i j hi hj
    exact ⟨c 0 (by omega), c 1 (by omega)⟩

theorem own_below2 {w w' : World} {B e size n : Nat} {v : Value} {xs : List Value} (h : w.ownsRow B e size v n xs) (hb : Below w.heap.size w w') : w'.ownsRow B e size v n xs := by
  refine ⟨h.1, ?_⟩
  rcases h.2 with hn | ⟨g, cap, cur, hv, hg, hgg, rest⟩
  · exact .inl hn
  · exact .inr ⟨g, cap, cur, hv, hg, (hb.block g (Array.getElem?_eq_some_iff.1 hgg).1).trans hgg, rest⟩

theorem own_lower {w : World} {B B' e size n : Nat} {v : Value} {xs : List Value} (h : w.ownsRow B e size v n xs) (hB : B' ≤ B) : w.ownsRow B' e size v n xs := by
  refine ⟨h.1, ?_⟩
  rcases h.2 with hn | ⟨g, cap, cur, hv, hg, rest⟩
  · exact .inl hn
  · exact .inr ⟨g, cap, cur, hv, by omega, rest⟩

theorem SRow.slice {w : World} {B e : Nat} {v : Value} {T : List Sd} (h : SRow w B e v T) : ∃ ao cap, v = Value.slice ao T.length cap := by
  rcases h.2 with ⟨rfl, h0⟩ | ⟨g, cap, _, rfl, _⟩
  · exact ⟨none, 0, by rw [h0]⟩
  · exact ⟨_, _, rfl⟩

/-- the six cells of a box in an array -/
def ArrIn (w : World) (g o : Nat) (x : Bx) : Prop :=
  w.cell? ⟨g, o, none⟩ = some (.int .i64 x.a.lo) ∧ w.cell? ⟨g, o + 1, none⟩ = some (.int .i64 x.a.hi) ∧ w.cell? ⟨g, o + 2, none⟩ = some (.int .i64 x.b.lo) ∧ w.cell? ⟨g, o + 3, none⟩ = some (.int .i64 x.b.hi) ∧ w.cell? ⟨g, o + 4, none⟩ = some (.int .i64 x.c.lo) ∧ w.cell? ⟨g, o + 5, none⟩ = some (.int .i64 x.c.hi)

/-- an array of its own block, that can be written -/
def ArrAt (w : World) (g : Nat) (x : Bx) : Prop :=
  g < w.heap.size ∧ ArrIn w g 0 x ∧ ∀ j, j < 6 → w.frozen? ⟨g, j, none⟩ = false

def Bxs.Bx.val (x : Bx) : Value := .agg #[.int .i64 x.a.lo, .int .i64 x.a.hi, .int .i64 x.b.lo, .int .i64 x.b.hi, .int .i64 x.c.lo, .int .i64 x.c.hi]
abbrev Bxs.Bx.obj (x : Bx) : Obj := .cells #[.int .i64 x.a.lo, .int .i64 x.a.hi, .int .i64 x.b.lo, .int .i64 x.b.hi, .int .i64 x.c.lo, .int .i64 x.c.hi] 60
def zeB : Bx := ⟨⟨0, 0⟩, ⟨0, 0⟩, ⟨0, 0⟩⟩

theorem ArrIn.below {w w' : World} {g o B : Nat} {x : Bx} (h : ArrIn w g o x) (hb : Below B w w') (hg : g < B) : ArrIn w' g o x := by
  obtain ⟨c0, c1, c2, c3, c4, c5⟩ := h
  exact ⟨(hb.cell (p := ⟨g, o, none⟩) hg).trans c0, (hb.cell (p := ⟨g, o + 1, none⟩) hg).trans c1, (hb.cell (p := ⟨g, o + 2, none⟩) hg).trans c2, (hb.cell (p := ⟨g, o + 3, none⟩) hg).trans c3, (hb.cell (p := ⟨g, o + 4, none⟩) hg).trans c4, (hb.cell (p := ⟨g, o + 5, none⟩) hg).trans c5⟩

theorem ArrAt.below {w w' : World} {g B : Nat} {x : Bx} (h : ArrAt w g x) (hb : Below B w w') (hg : g < B) : ArrAt w' g x :=
  ⟨Nat.lt_of_lt_of_le h.1 hb.size, h.2.1.below hb hg, fun j hj => (hb.frozen (p := ⟨g, j, none⟩) hg).trans (h.2.2 j hj)⟩

theorem ArrAt.kept {w w' : World} {g : Nat} {x : Bx} (h : ArrAt w g x) (hb : w'.heap[g]? = w.heap[g]?) (hs : w.heap.size ≤ w'.heap.size) : ArrAt w' g x := by
  obtain ⟨h0, ⟨c0, c1, c2, c3, c4, c5⟩, hf⟩ := h
  have k : ∀ o, w'.cell? ⟨g, o, none⟩ = w.cell? ⟨g, o, none⟩ := fun o => World.cell?_of_block (w := w) hb
  refine ⟨by omega, ⟨(k _).trans c0, (k _).trans c1, (k _).trans c2, (k _).trans c3, (k _).trans c4, (k _).trans c5⟩, fun j hj => (World.frozen?_of_block (w := w) hb).trans (hf j hj)⟩

theorem ArrAt.made (w : World) (x : Bx) : ArrAt (w.alloc x.obj) w.heap.size x := by
  refine ⟨by simp, ⟨by go_simp, by go_simp, by go_simp, by go_simp, by go_simp, by go_simp⟩, fun j hj => ?_⟩
  match j, hj with
  | 0, _ | 1, _ | 2, _ | 3, _ | 4, _ | 5, _ => go_simp
  | n + 6, h => exact absurd h (by omega)

/-- a side stored into an array -/
theorem ArrAt.setA {w : World} {g : Nat} {x : Bx} (h : ArrAt w g x) (s : Sd) : ArrAt ((w.setCell ⟨g, 0, none⟩ (.int .i64 s.lo)).setCell ⟨g, 1, none⟩ (.int .i64 s.hi)) g ⟨s, x.b, x.c⟩ := by
  obtain ⟨h0, ⟨c0, c1, c2, c3, c4, c5⟩, hf⟩ := h
  refine ⟨by simpa [World.setCell] using h0, ⟨by go_simp, by go_simp, by go_simp, by go_simp, by go_simp, by go_simp⟩, fun j hj => ?_⟩
  rw [World.frozen?_setCell, World.frozen?_setCell]
  exact hf j hj

theorem ArrAt.setB {w : World} {g : Nat} {x : Bx} (h : ArrAt w g x) (s : Sd) : ArrAt ((w.setCell ⟨g, 2, none⟩ (.int .i64 s.lo)).setCell ⟨g, 3, none⟩ (.int .i64 s.hi)) g ⟨x.a, s, x.c⟩ := by
  obtain ⟨h0, ⟨c0, c1, c2, c3, c4, c5⟩, hf⟩ := h
  refine ⟨by simpa [World.setCell] using h0, ⟨by go_simp, by go_simp, by go_simp, by go_simp, by go_simp, by go_simp⟩, fun j hj => ?_⟩
  rw [World.frozen?_setCell, World.frozen?_setCell]
  exact hf j hj

theorem ArrAt.setC {w : World} {g : Nat} {x : Bx} (h : ArrAt w g x) (s : Sd) : ArrAt ((w.setCell ⟨g, 4, none⟩ (.int .i64 s.lo)).setCell ⟨g, 5, none⟩ (.int .i64 s.hi)) g ⟨x.a, x.b, s⟩ := by
  obtain ⟨h0, ⟨c0, c1, c2, c3, c4, c5⟩, hf⟩ := h
  refine ⟨by simpa [World.setCell] using h0, ⟨by go_simp, by go_simp, by go_simp, by go_simp, by go_simp, by go_simp⟩, fun j hj => ?_⟩
  rw [World.frozen?_setCell, World.frozen?_setCell]
  exact hf j hj

end Go.Proofs.Ytnbaeplbnonhkaa
