/- The law's own marks in lists of boxes. -/
import Derived.Test.YtnbaeplbnonhkaaByM
namespace Go.Proofs.Ytnbaeplbnonhkaa
open Go.RowKit Plain Sch Bxs

/-- how many sides the first i boxes have -/
def pl (M : List (List Sd)) (i : Nat) : Nat := ((M.take i).map List.length).sum

theorem pl_zero (M : List (List Sd)) : pl M 0 = 0 := rfl
theorem pl_step {M : List (List Sd)} {i : Nat} (h : i < M.length) : pl M (i + 1) = pl M i + (mx M i).length := by
  unfold pl mx
  rw [List.take_add_one, List.getElem?_eq_getElem h, List.map_append, List.sum_append, List.getD, List.getElem?_eq_getElem h]
  simp
theorem pl_mono {M : List (List Sd)} : ∀ {j i : Nat}, i ≤ j → j ≤ M.length → pl M i ≤ pl M j := by
  intro j
  induction j with
  | zero => intro i hi _; rw [show i = 0 by omega]; exact Nat.le_refl _
  | succ j ih =>
    intro i hi hj
    by_cases e : i = j + 1
    · rw [e]; exact Nat.le_refl _
    · rw [pl_step (by omega)]
      have := ih (i := i) (by omega) (by omega)
      omega
theorem pl_each {M : List (List Sd)} {i : Nat} (h : i < M.length) : (mx M i).length ≤ pl M M.length := by
  have h1 := pl_step h
  have h2 := pl_mono (M := M) (i := i + 1) (j := M.length) (by omega) (Nat.le_refl _)
  omega

/-- what writes into the rows us alone -/
structure RowsGr (w : World) (us : List Value) (w' : World) : Prop where
  os : w'.os = w.os
  tape : w'.tape = w.tape
  output : w'.output = w.output
  size : w.heap.size ≤ w'.heap.size
  block : ∀ j, j < w.heap.size → (∀ u ∈ us, u.ownBlock ≠ some j) → w'.heap[j]? = w.heap[j]?

theorem RowsGr.refl (w : World) (us : List Value) : RowsGr w us w := ⟨rfl, rfl, rfl, Nat.le_refl _, fun _ _ _ => rfl⟩
theorem RowsGr.step {w w1 w2 : World} {us : List Value} {u : Value} (h : RowsGr w us w1) (hg : w1.grownBy w2 u.ownBlock) (hu : u ∈ us) : RowsGr w us w2 :=
  ⟨hg.os.trans h.os, hg.tape.trans h.tape, hg.output.trans h.output, Nat.le_trans h.size hg.size, fun j hj hn => (hg.block j (Nat.lt_of_lt_of_le hj h.size) (fun e => hn u hu e.symm)).trans (h.block j hj hn)⟩
theorem RowsGr.below {w w' : World} {us : List Value} {B : Nat} (h : RowsGr w us w') (hB : ∀ u ∈ us, ∀ g, u.ownBlock = some g → B ≤ g) (hw : B ≤ w.heap.size) : Below B w w' :=
  ⟨h.os, h.tape, h.output, h.size, fun j hj => h.block j (by omega) (fun u hu e => by have := hB u hu j e; omega)⟩

/-- a row that others are marked beside -/
theorem own_beside {w w' : World} {B e size n : Nat} {v : Value} {xs : List Value} {row : Option Nat} (h : w.ownsRow B e size v n xs) (hg : w.grownBy w' row) (hne : ∀ g, v.ownBlock = some g → some g ≠ row) : w'.ownsRow B e size v n xs := by
  have hlt := h.lt
  refine ⟨h.1, ?_⟩
  rcases h.2 with hn | ⟨g, cap, cur, hv, hgB, hgg, rest⟩
  · exact .inl hn
  · refine .inr ⟨g, cap, cur, hv, hgB, (hg.block g (hlt g (by rw [hv]; rfl)).2 (hne g (by rw [hv]; rfl))).trans hgg, rest⟩

/-- a row that is marked from k on -/
def MRow (w : World) (B : Nat) (u : Value) (n k : Nat) : Prop := ∃ ty ys, w.ownsRow B ty 2 u n ys ∧ ∀ j, j < n * 2 → ys[j]? = some (mcSd k j)

/-- boxes of which the first i are marked -/
def BMark (w : World) (B : Nat) (v : Value) (M : List (List Sd)) (us : List Value) (k i : Nat) : Prop :=
  w.ownsRow B 25 1 v M.length us ∧ (∀ m, m < i → ∃ u, us[m]? = some u ∧ MRow w B u (mx M m).length (k + pl M m * 2)) ∧ ∀ m, i ≤ m → m < M.length → ∃ u, us[m]? = some u ∧ QRow w B u (mx M m)

theorem BOwn.noMark {w : World} {B : Nat} {v : Value} {M : List (List Sd)} {us : List Value} (h : BOwn w B v M us) (k : Nat) : BMark w B v M us k 0 :=
  ⟨h.1, fun m hm => by omega, fun m _ hm => by obtain ⟨u, h1, h2, _⟩ := h.2.1 m hm; exact ⟨u, h1, h2⟩⟩

theorem BMark.step {w w' : World} {B : Nat} {v : Value} {M : List (List Sd)} {us : List Value} {k i : Nat} {u : Value} (h0 : (∀ i, i < M.length → ∃ u, us[i]? = some u ∧ ∀ g, u.ownBlock = some g → v.ownBlock ≠ some g) ∧ ∀ (i j : Nat) (ui uj : Value), i < j → us[i]? = some ui → us[j]? = some uj → ∀ g, ui.ownBlock = some g → uj.ownBlock ≠ some g)
    (h : BMark w B v M us k i) (hi : i < M.length) (hu : us[i]? = some u) (hm : MRow w' B u (mx M i).length (k + pl M i * 2)) (hg : w.grownBy w' u.ownBlock) : BMark w' B v M us k (i + 1) := by
  obtain ⟨d1, d2⟩ := h0
  refine ⟨?_, fun m hmi => ?_, fun m hmi hml => ?_⟩
  · refine own_beside h.1 hg (fun g hv e => ?_)
    obtain ⟨u', hu', hn⟩ := d1 i hi
    rw [hu] at hu'
    simp at hu'
    subst hu'
    exact hn g e.symm hv
  · by_cases e : m = i
    · rw [e]; exact ⟨u, hu, hm⟩
    · obtain ⟨u', hu', ty, ys, ho, hys⟩ := h.2.1 m (by omega)
      refine ⟨u', hu', ty, ys, own_beside ho hg (fun g hv e => ?_), hys⟩
      exact d2 m i u' u (by omega) hu' hu g hv e.symm
  · obtain ⟨u', hu', ty, ho⟩ := h.2.2 m (by omega) hml
    refine ⟨u', hu', ty, own_beside ho hg (fun g hv e => ?_)⟩
    exact d2 i m u u' (by omega) hu hu' g e.symm hv

end Go.Proofs.Ytnbaeplbnonhkaa
