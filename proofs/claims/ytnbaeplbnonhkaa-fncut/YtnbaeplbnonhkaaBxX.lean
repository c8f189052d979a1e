/- A variable of a box whose sides are appended one by one. -/
import Derived.Test.YtnbaeplbnonhkaaBxU
import Derived.Test.YtnbaeplbnonhkaaBxT
import Derived.Deep.AppendLies
import Derived.Lib.SmallJoins
import Derived.Lib.BufferOwn
namespace Go.Proofs.Ytnbaeplbnonhkaa
open Go.RowKit Plain Sch Bxs

/-- a variable of a box, and its own row -/
def BVar (w : World) (bo : Nat) (v : Value) (L : List Sd) : Prop :=
  w.cell? ⟨bo, 0, none⟩ = some v ∧ w.frozen? ⟨bo, 0, none⟩ = false ∧ SRow w (bo + 1) 58 v L ∧ bo < w.heap.size

theorem BVar.below {w w' : World} {bo : Nat} {v : Value} {L : List Sd} (h : BVar w bo v L) (hb : Below w.heap.size w w') : BVar w' bo v L :=
  ⟨(hb.cell (p := ⟨bo, 0, none⟩) h.2.2.2).trans h.1, (hb.frozen (p := ⟨bo, 0, none⟩) h.2.2.2).trans h.2.1, own_below2 h.2.2.1 hb, Nat.lt_of_lt_of_le h.2.2.2 hb.size⟩

theorem BVar.made (w : World) : BVar (w.alloc (.cells #[.slice none 0 0] 25)) w.heap.size (.slice none 0 0) [] :=
  ⟨by go_simp, by go_simp, srow_nil _ _ _, by simp⟩

theorem one2S (a b : Int) : ∀ u ∈ [Value.int .i64 a, .int .i64 b], u.oneCell' = true := by
  intro u hu
  simp at hu
  rcases hu with rfl | rfl <;> rfl

theorem BVar.next {w w9 : World} {bo g cap : Nat} {v : Value} {L : List Sd} {o : Obj} {s : Sd} (h : BVar w bo v L)
    (hown : w9.ownsRow (bo + 1) 58 2 (.slice (some ⟨g, 0, none⟩) (L.length + 1) cap) (L.length + 1) (L.flatMap Sd.cells ++ [.int .i64 s.lo, .int .i64 s.hi])) (hgrow : (w.alloc o).grownBy w9 v.ownBlock) :
    w9.cell? ⟨bo, 0, none⟩ = some v ∧ w9.frozen? ⟨bo, 0, none⟩ = false ∧ bo < w9.heap.size ∧ BVar (w9.setCell ⟨bo, 0, none⟩ (.slice (some ⟨g, 0, none⟩) (L.length + 1) cap)) bo (.slice (some ⟨g, 0, none⟩) (L.length + 1) cap) (L ++ [s]) ∧ Below bo w (w9.setCell ⟨bo, 0, none⟩ (.slice (some ⟨g, 0, none⟩) (L.length + 1) cap)) := by
  obtain ⟨hc, hf, hr, hlt⟩ := h
  have hlt' := World.ownsRow.lt hr
  have hne : some bo ≠ v.ownBlock := fun e => by have := (hlt' bo e.symm).1; omega
  have hs : w.heap.size + 1 ≤ w9.heap.size := by have := hgrow.size; simpa using this
  have hbk : w9.heap[bo]? = w.heap[bo]? := (hgrow.block bo (by simp; omega) hne).trans (Below.heap_alloc _ _ _ hlt)
  have c9 : w9.cell? ⟨bo, 0, none⟩ = some v := (World.cell?_of_block (w := w) hbk).trans hc
  have f9 : w9.frozen? ⟨bo, 0, none⟩ = false := (World.frozen?_of_block (w := w) hbk).trans hf
  refine ⟨c9, f9, by omega, ⟨World.cell?_setCell_same _ _ _ c9, by rw [World.frozen?_setCell]; exact f9, ?_, by simp [World.setCell]; omega⟩, ?_⟩
  · show World.ownsRow _ _ _ _ _ _ _
    rw [List.length_append, List.flatMap_append]
    have h2 := ownsRow_setCell_below hown (a := ⟨bo, 0, none⟩) (by show bo < bo + 1; omega) (.slice (some ⟨g, 0, none⟩) (L.length + 1) cap)
    simpa [Sd.cells] using h2
  · refine Below.setCell (p := ⟨bo, 0, none⟩) ?_ (Nat.le_refl _) _
    refine ⟨hgrow.os, hgrow.tape, hgrow.output, by omega, fun j hj => ?_⟩
    replace hj : j < bo := hj
    refine (hgrow.block j (by simp; omega) (fun e => by have := (hlt' j e.symm).1; omega)).trans (Below.heap_alloc _ _ _ (by omega))

theorem BVar.slice {w : World} {bo : Nat} {v : Value} {L : List Sd} (h : BVar w bo v L) : ∃ ao cap, v = Value.slice ao L.length cap := h.2.2.1.slice

end Go.Proofs.Ytnbaeplbnonhkaa
