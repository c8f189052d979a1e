/- The law's own looks at lists of ints: whether two are alike, marks that are put, marks that are held. -/
import Derived.Test.YtnbaeplbnonhkaaGd
import Derived.Lib.SmallJoins
import Derived.Deep.RegionWith
namespace Go.Proofs.Ytnbaeplbnonhkaa
open Go.RowKit

/-- a slice of ints, in blocks below B -/
def IntsAt (w : World) (B : Nat) (v : Value) (l : List Nat) : Prop :=
  ∃ ao cap, v = .slice ao l.length cap ∧ l.length ≤ maxLen ∧ ∀ i (x : Nat), l[i]? = some x → ∃ g o, ao = some ⟨g, o, none⟩ ∧ g < B ∧ w.cell? ⟨g, o + i, none⟩ = some (.int .i64 (x : Int))

theorem IntsAt.below {w w' : World} {v : Value} {l : List Nat} {B : Nat} (h : IntsAt w B v l) (hb : Below B w w') (hB : B ≤ w.heap.size := by exact Nat.le_refl _) : IntsAt w' w'.heap.size v l := by
  obtain ⟨ao, cap, hv, hm, hr⟩ := h
  refine ⟨ao, cap, hv, hm, fun i x hi => ?_⟩
  obtain ⟨g, o, ha, hg, c⟩ := hr i x hi
  have := hb.size
  exact ⟨g, o, ha, by omega, (hb.cell (p := ⟨g, o + i, none⟩) hg).trans c⟩

theorem IntsAt.own {w : World} {B : Nat} {v : Value} {l : List Nat} (h : w.ownsRow B 3 1 v l.length (ints l)) (hl : l.length ≤ maxLen) : IntsAt w w.heap.size v l := by
  have h0 := h
  obtain ⟨_, ⟨rfl, hn⟩ | ⟨g, cap, cur, rfl, hB, hb, _⟩⟩ := h
  · have : l = [] := List.length_eq_zero_iff.1 hn
    subst this
    exact ⟨none, 0, rfl, hl, fun i x hi => by simp at hi⟩
  · refine ⟨some ⟨g, 0, none⟩, cap, rfl, hl, fun i x hi => ⟨g, 0, rfl, (h0.lt g rfl).2, ?_⟩⟩
    have hil : i < l.length := (List.getElem?_eq_some_iff.1 hi).1
    have := h0.cellAt i (by omega)
    rw [Nat.zero_add, this]
    simp [ints, hi]

theorem set1_marks (ys : List Value) (k i n : Nat) (hl : ys.length = n) (hi : i < n) (hm : ∀ j, j < i → ys[j]? = some (.int .i64 ((k + j : Nat) : Int))) : ∀ j, j < i + 1 →
    (ys.set i (.int .i64 ((k : Int) + i)))[j]? = some (.int .i64 ((k + j : Nat) : Int)) := by
  intro j hj
  rw [List.getElem?_set]
  by_cases h : i = j
  · rw [if_pos h, if_pos (by omega), show ((k + j : Nat) : Int) = (k : Int) + i by omega]
  · rw [if_neg h]
    exact hm j (by omega)

/-- marks in a slice of ints: the ints from k on -/
theorem markedInts {w : World} {B n k : Nat} {v : Value} {ys : List Value} (h : w.ownsRow B 3 1 v n ys) (hm : ∀ j, j < n → ys[j]? = some (.int .i64 ((k + j : Nat) : Int))) (hl : n ≤ maxLen) : IntsAt w w.heap.size v ((List.range n).map (k + ·)) := by
  have e : ys = ints ((List.range n).map (k + ·)) := by
    apply List.ext_getElem?
    intro j
    by_cases hj : j < n
    · rw [hm j hj]; simp [ints, hj]
    · rw [List.getElem?_eq_none (by have := h.1; omega), List.getElem?_eq_none (by simp [ints]; omega)]
  have hlen : ((List.range n).map (k + ·)).length = n := by simp
  refine IntsAt.own (B := B) ?_ (by omega)
  rw [hlen, ← e]
  exact h

end Go.Proofs.Ytnbaeplbnonhkaa
