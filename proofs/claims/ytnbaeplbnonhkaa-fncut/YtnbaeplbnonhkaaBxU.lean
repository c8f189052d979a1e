/- Rows of sides: none, kept; a box's variable. -/
import Derived.Test.YtnbaeplbnonhkaaBxM
namespace Go.Proofs.Ytnbaeplbnonhkaa
open Go.RowKit Plain Sch Bxs

theorem srow_nil (w : World) (B e : Nat) : SRow w B e (.slice none 0 0) [] := ⟨rfl, .inl ⟨rfl, rfl⟩⟩

/-- a variable of a box that is still empty -/
def OneB (w : World) (b : Nat) : Prop := w.cell? ⟨b, 0, none⟩ = some (.slice none 0 0) ∧ w.frozen? ⟨b, 0, none⟩ = false

theorem OneB.kept {w w' : World} {b : Nat} (h : OneB w b) (hb : w'.heap[b]? = w.heap[b]?) : OneB w' b :=
  ⟨(World.cell?_of_block (w := w) hb).trans h.1, (World.frozen?_of_block (w := w) hb).trans h.2⟩

theorem SRow.kept {w w' : World} {B B' e : Nat} {v : Value} {L : List Sd} (h : SRow w B e v L) (hb : Below w.heap.size w w') (hB : B' ≤ B) : SRow w' B' e v L := own_lower (own_below2 h hb) hB

theorem SRow.setCell {w : World} {B B' e : Nat} {v : Value} {L : List Sd} (h : SRow w B e v L) {a : Addr} (ha : a.block < B) (u : Value) (hB : B' ≤ B) : SRow (w.setCell a u) B' e v L := own_lower (ownsRow_setCell_below h ha u) hB


end Go.Proofs.Ytnbaeplbnonhkaa
