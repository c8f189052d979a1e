/- The law's own marks in lists of impl.Side: marks that are put, marks that are held. -/
import Derived.Test.YtnbaeplbnonhkaaBxM
import Derived.Test.YtnbaeplbnonhkaaGr
import Derived.Lib.SmallJoins
import Derived.Lib.BufferOwn
import Derived.Deep.RegionWith
namespace Go.Proofs.Ytnbaeplbnonhkaa
open Go.RowKit

theorem own_belowSd {w w' : World} {B e size n : Nat} {v : Value} {xs : List Value} (h : w.ownsRow B e size v n xs) (hb : Below w.heap.size w w') : w'.ownsRow B e size v n xs := by
  refine ⟨h.1, ?_⟩
  rcases h.2 with hn | ⟨g, cap, cur, hv, hg, hgg, rest⟩
  · exact .inl hn
  · exact .inr ⟨g, cap, cur, hv, hg, (hb.block g (Array.getElem?_eq_some_iff.1 hgg).1).trans hgg, rest⟩

theorem grow_belowSd {w w' : World} {row : Option Nat} (hb : Below w.heap.size w w') : w.grownBy w' row := ⟨hb.os, hb.tape, hb.output, hb.size, fun j hj _ => hb.block j hj⟩

/-- the mark of a cell -/
def mcSd (k j : Nat) : Value := .int .i64 ((k + j : Nat) : Int)

theorem mcSd_0 (k i : Nat) : mcSd k (i * 2) = .int .i64 ((k + (i * 2) : Nat) : Int) := by
  rfl

theorem mcSd_1 (k i : Nat) : mcSd k (i * 2 + 1) = .int .i64 ((k + (i * 2 + 1) : Nat) : Int) := by
  rfl

theorem setSd_marks (ys : List Value) (k i n : Nat) (hl : ys.length = n * 2) (hi : i < n) (hm : ∀ j, j < i * 2 → ys[j]? = some (mcSd k j)) : ∀ j, j < (i + 1) * 2 →
    ((ys.set (i * 2) (mcSd k (i * 2))).set (i * 2 + 1) (mcSd k (i * 2 + 1)))[j]? = some (mcSd k j) := by
  intro j hj
  simp only [List.getElem?_set, List.length_set]
  by_cases h1 : i * 2 + 1 = j
  · rw [if_pos h1, if_pos (by omega), h1]
  · rw [if_neg h1]
    by_cases h0 : i * 2 = j
    · rw [if_pos h0, if_pos (by omega), h0]
    · rw [if_neg h0]
      exact hm j (by omega)

/-- marks that lie in a slice's cells -/
def MarksAtSd (w : World) (B : Nat) (v : Value) (n k : Nat) : Prop :=
  ∃ ao cap, v = .slice ao n cap ∧ n ≤ maxLen ∧ ∀ j, j < n * 2 → ∃ g o, ao = some ⟨g, o, none⟩ ∧ g < B ∧ w.cell? ⟨g, o + j, none⟩ = some (mcSd k j)

theorem MarksAtSd.below {w w' : World} {v : Value} {n k B : Nat} (h : MarksAtSd w B v n k) (hb : Below B w w') (hB : B ≤ w.heap.size := by exact Nat.le_refl _) : MarksAtSd w' w'.heap.size v n k := by
  obtain ⟨ao, cap, hv, hm, hr⟩ := h
  refine ⟨ao, cap, hv, hm, fun j hj => ?_⟩
  obtain ⟨g, o, ha, hg, c⟩ := hr j hj
  have := hb.size
  exact ⟨g, o, ha, by omega, (hb.cell (p := ⟨g, o + j, none⟩) hg).trans c⟩

theorem MarksAtSd.own {w : World} {B n k ty : Nat} {v : Value} {ys : List Value} (h : w.ownsRow B ty 2 v n ys) (hm : ∀ j, j < n * 2 → ys[j]? = some (mcSd k j)) (hl : n ≤ maxLen) : MarksAtSd w w.heap.size v n k := by
  have h0 := h
  obtain ⟨_, ⟨rfl, hn⟩ | ⟨g, cap, cur, rfl, hB, hb, _⟩⟩ := h
  · subst hn
    exact ⟨none, 0, rfl, hl, fun j hj => by omega⟩
  · refine ⟨some ⟨g, 0, none⟩, cap, rfl, hl, fun j hj => ⟨g, 0, rfl, (h0.lt g rfl).2, ?_⟩⟩
    have := h0.cellAt j hj
    rw [hm j hj] at this
    simpa using this

end Go.Proofs.Ytnbaeplbnonhkaa
