/- Cutting away, side by side: the model's steps; a box's own list of sides that is written into. -/
import Derived.Test.YtnbaeplbnonhkaaByC
import Derived.Test.YtnbaeplbnonhkaaByB
import Derived.Test.YtnbaeplbnonhkaaHa
namespace Go.Proofs.Ytnbaeplbnonhkaa
open Go.RowKit Plain Sch Bxs

/-- what is left of a box after i sides -/
def stp (x k : Bx) (i : Nat) : Bx := ⟨if 0 < i then k.a else x.a, if 1 < i then k.b else x.b, if 2 < i then k.c else x.c⟩

theorem stp_0 (x k : Bx) : stp x k 0 = x := rfl
theorem stp_3 (x k : Bx) : stp x k 3 = k := rfl

theorem stp_sd (x k : Bx) {i : Nat} (hi : i < 3) : sd (stp x k i).list i = sd x.list i := by
  match i, hi with
  | 0, _ => rfl
  | 1, _ => rfl
  | 2, _ => rfl

theorem stp_next (x y : Bx) {i : Nat} (hi : i < 3) : (stp x (mee x y) (i + 1)).list = (stp x (mee x y) i).list.set i (mee1 (sd x.list i) (sd y.list i)) := by
  match i, hi with
  | 0, _ => rfl
  | 1, _ => rfl
  | 2, _ => rfl

theorem pcs_mee (f : Sd → Bx) (s o : Sd) : pcs f s (mee1 s o) = (if s.lo < o.lo then [f ⟨s.lo, o.lo - 1⟩] else []) ++ (if o.hi < s.hi then [f ⟨o.hi + 1, s.hi⟩] else []) := by
  unfold pcs mee1
  dsimp only
  by_cases h1 : s.lo < o.lo <;> by_cases h2 : o.hi < s.hi <;> simp [h1, h2]

theorem map_if (c : Prop) [Decidable c] (a : Bx) : (if c then [a] else []).map Bx.list = if c then [a.list] else [] := by split <;> rfl

theorem cutP_next (x y : Bx) {i : Nat} (hi : i < 3) : (cutP x (mee x y) (i + 1)).map Bx.list = (cutP x (mee x y) i).map Bx.list ++ ((if (sd x.list i).lo < (sd y.list i).lo then [(stp x (mee x y) i).list.set i ⟨(sd x.list i).lo, (sd y.list i).lo - 1⟩] else []) ++ (if (sd y.list i).hi < (sd x.list i).hi then [(stp x (mee x y) i).list.set i ⟨(sd y.list i).hi + 1, (sd x.list i).hi⟩] else [])) := by
  match i, hi with
  | 0, _ =>
    rw [cutP_1, List.map_append]
    congr 1
    show (pcs _ x.a (mee1 x.a y.a)).map _ = _
    rw [pcs_mee, List.map_append]
    rw [map_if, map_if]
    rfl
  | 1, _ =>
    rw [cutP_2, List.map_append]
    congr 1
    show (pcs _ x.b (mee1 x.b y.b)).map _ = _
    rw [pcs_mee, List.map_append]
    rw [map_if, map_if]
    rfl
  | 2, _ =>
    rw [cutP_3, List.map_append]
    congr 1
    show (pcs _ x.c (mee1 x.c y.c)).map _ = _
    rw [pcs_mee, List.map_append]
    rw [map_if, map_if]
    rfl

theorem flat_set (L : List Sd) (i : Nat) (s : Sd) (h : i < L.length) : (L.set i s).flatMap Sd.cells = ((L.flatMap Sd.cells).set (i * 2) (.int .i64 s.lo)).set (i * 2 + 1) (.int .i64 s.hi) := by
  symm
  apply ys2_eq
  · rw [List.length_set, List.length_set, flat2_len, List.length_set]
  · intro m hm j hj
    rw [List.length_set] at hm
    simp only [List.getElem?_set, List.length_set, flat2_len]
    by_cases e : m = i
    · subst e
      have e2 : sd (L.set m s) m = s := by unfold sd; simp [List.getD, h]
      rw [e2]
      match j, hj with
      | 0, _ => simp [Sd.cells]; omega
      | 1, _ => simp [Sd.cells]; omega
    · have e2 : sd (L.set i s) m = sd L m := by unfold sd; rw [List.getD, List.getD, List.getElem?_set_ne (by omega)]
      rw [e2, if_neg (by omega), if_neg (by omega)]
      exact flat2 L m j hm hj

/-- an own list of sides that can be written into -/
def LR (w : World) (gl cl : Nat) (Z : List Sd) : Prop := SRow w 0 58 (.slice (some ⟨gl, 0, none⟩) Z.length cl) Z

theorem LR.lt {w : World} {gl cl : Nat} {Z : List Sd} (h : LR w gl cl Z) : gl < w.heap.size := (World.ownsRow.lt h gl rfl).2

theorem LR.below {w w' : World} {gl cl C : Nat} {Z : List Sd} (h : LR w gl cl Z) (hb : Below C w w') (hg : gl < C) : LR w' gl cl Z := by
  refine ⟨h.1, ?_⟩
  rcases h.2 with hn | ⟨g, cap, cur, hv, hgB, hgg, rest⟩
  · exact .inl hn
  · simp only [Value.slice.injEq, Option.some.injEq, Addr.mk.injEq, and_true, true_and] at hv
    exact .inr ⟨g, cap, cur, by simp [hv], hgB, (hb.block g (by omega)).trans hgg, rest⟩

theorem LR.cell {w : World} {gl cl : Nat} {Z : List Sd} (h : LR w gl cl Z) {i : Nat} (hi : i < Z.length) : w.cell? ⟨gl, i * 2, none⟩ = some (.int .i64 (sd Z i).lo) ∧ w.cell? ⟨gl, i * 2 + 1, none⟩ = some (.int .i64 (sd Z i).hi) := by
  have h0 := World.ownsRow.cellAt h (i * 2) (by omega)
  have h1 := World.ownsRow.cellAt h (i * 2 + 1) (by omega)
  exact ⟨h0.trans (flat2 Z i 0 hi (by omega)), h1.trans (flat2 Z i 1 hi (by omega))⟩

theorem LR.frozen {w : World} {gl cl : Nat} {Z : List Sd} (h : LR w gl cl Z) (j : Nat) : w.frozen? ⟨gl, j, none⟩ = false := World.ownsRow.frozenAt h j

theorem flat_get (Z : List Sd) {i : Nat} (hi : i < Z.length) : (Z.flatMap Sd.cells)[i * 2]? = some (.int .i64 (sd Z i).lo) ∧ (Z.flatMap Sd.cells)[i * 2 + 1]? = some (.int .i64 (sd Z i).hi) := ⟨flat2 Z i 0 hi (by omega), flat2 Z i 1 hi (by omega)⟩

theorem set_same {α : Type} {l : List α} {i : Nat} {x : α} (h : l[i]? = some x) : l.set i x = l := by
  apply List.ext_getElem?
  intro j
  by_cases e : i = j
  · subst e
    rw [List.getElem?_set_self (List.getElem?_eq_some_iff.1 h).1, h]
  · rw [List.getElem?_set_ne e]

theorem SRow.setLo {w : World} {B e gl cl : Nat} {Z : List Sd} (h : SRow w B e (.slice (some ⟨gl, 0, none⟩) Z.length cl) Z) {i : Nat} (hi : i < Z.length) (n : Int) : SRow (w.setCell ⟨gl, i * 2, none⟩ (.int .i64 n)) B e (.slice (some ⟨gl, 0, none⟩) (Z.set i ⟨n, (sd Z i).hi⟩).length cl) (Z.set i ⟨n, (sd Z i).hi⟩) := by
  have h1 := (World.ownsRow.stored h (i * 2) (.int .i64 n)).1
  show World.ownsRow _ _ _ _ _ _ _
  rw [flat_set Z i _ hi, List.length_set]
  have e2 : ((Z.flatMap Sd.cells).set (i * 2) (.int .i64 n)).set (i * 2 + 1) (.int .i64 (sd Z i).hi) = (Z.flatMap Sd.cells).set (i * 2) (.int .i64 n) := by
    apply set_same
    rw [List.getElem?_set_ne (by omega)]
    exact (flat_get Z hi).2
  dsimp only
  rw [e2]
  exact h1

theorem SRow.setHi {w : World} {B e gl cl : Nat} {Z : List Sd} (h : SRow w B e (.slice (some ⟨gl, 0, none⟩) Z.length cl) Z) {i : Nat} (hi : i < Z.length) (n : Int) : SRow (w.setCell ⟨gl, i * 2 + 1, none⟩ (.int .i64 n)) B e (.slice (some ⟨gl, 0, none⟩) (Z.set i ⟨(sd Z i).lo, n⟩).length cl) (Z.set i ⟨(sd Z i).lo, n⟩) := by
  have h1 := (World.ownsRow.stored h (i * 2 + 1) (.int .i64 n)).1
  show World.ownsRow _ _ _ _ _ _ _
  rw [flat_set Z i _ hi, List.length_set]
  have e2 : (Z.flatMap Sd.cells).set (i * 2) (.int .i64 (sd Z i).lo) = Z.flatMap Sd.cells := set_same (flat_get Z hi).1
  dsimp only
  rw [e2]
  exact h1

theorem BOwn.setBelow {w : World} {B : Nat} {v : Value} {M : List (List Sd)} {us : List Value} (h : BOwn w B v M us) {a : Addr} (ha : a.block < B) (u : Value) : BOwn (w.setCell a u) B v M us :=
  ⟨ownsRow_setCell_below h.1 ha u, fun i hi => by
    obtain ⟨u', h1, h2, h3⟩ := h.2.1 i hi
    exact ⟨u', h1, h2.setCell ha u, h3⟩, h.2.2⟩

/-- a copy of sides made by append -/
theorem copy_post {W w9 : World} {g9 cap9 n : Nat} {L : List Sd} {o : Obj} (hn : n = L.length) (hown : w9.ownsRow W.heap.size 58 2 (.slice (some ⟨g9, 0, none⟩) (0 + n) cap9) (0 + n) ([] ++ L.flatMap Sd.cells)) (hgrow : (W.alloc o).grownBy w9 (Value.slice (some ⟨W.heap.size, 0, none⟩) 0 0).ownBlock) :
    SRow w9 W.heap.size 58 (.slice (some ⟨g9, 0, none⟩) L.length cap9) L ∧ Below W.heap.size W w9 := by
  subst hn
  refine ⟨?_, ?_⟩
  · show World.ownsRow _ _ _ _ _ _ _
    simpa using hown
  · have hs : W.heap.size + 1 ≤ w9.heap.size := by have := hgrow.size; simpa using this
    refine ⟨hgrow.os, hgrow.tape, hgrow.output, by omega, fun j hj => ?_⟩
    exact (hgrow.block j (by simp; omega) (by simp [Value.ownBlock]; omega)).trans (Below.heap_alloc _ _ _ hj)

theorem sds_news {w : World} {B g o c : Nat} {L : List Sd} (h : SdsAt w B (.slice (some ⟨g, o, none⟩) L.length c) L) : ∀ j u, (L.flatMap Sd.cells)[j]? = some u → w.cell? (Addr.add ⟨g, o, none⟩ j) = some u := by
  intro j u hj
  obtain ⟨ao, cap, hv, _, _, hr⟩ := h
  have hjl : j < L.length * 2 := by
    have := (List.getElem?_eq_some_iff.1 hj).1
    rw [flat2_len] at this
    exact this
  obtain ⟨g', o', ha, _, c0, c1⟩ := hr (j / 2) (by omega)
  simp only [Value.slice.injEq, true_and] at hv
  obtain ⟨rfl, _⟩ := hv
  simp only [Option.some.injEq, Addr.mk.injEq, and_true] at ha
  obtain ⟨rfl, rfl⟩ := ha
  have e : Addr.add ⟨g, o, none⟩ j = ⟨g, o + j, none⟩ := by
    unfold Addr.add
    by_cases h0 : j = 0
    · simp [h0]
    · simp [h0]
  rw [e]
  have key : (L.flatMap Sd.cells)[j]? = (sd L (j / 2)).cells[j % 2]? := by
    have e3 : j = j / 2 * 2 + j % 2 := by omega
    conv => lhs; rw [e3]
    exact flat2 L (j / 2) (j % 2) (by omega) (by omega)
  rw [key] at hj
  have hm : j % 2 = 0 ∨ j % 2 = 1 := by omega
  rcases hm with hm | hm
  · rw [hm] at hj
    have e4 : o + j / 2 * 2 = o + j := by omega
    rw [e4] at c0
    rw [c0]
    exact hj
  · rw [hm] at hj
    have e4 : o + j / 2 * 2 + 1 = o + j := by omega
    rw [e4] at c1
    rw [c1]
    exact hj

theorem one2L (L : List Sd) : ∀ u ∈ L.flatMap Sd.cells, u.oneCell' = true := by
  intro u hu
  rw [List.mem_flatMap] at hu
  obtain ⟨s, _, hs⟩ := hu
  exact one2S _ _ u hs

end Go.Proofs.Ytnbaeplbnonhkaa
