/- Machines of a law through marks that are put elsewhere. -/
import Derived.Test.YtecgjhnihagleaaMcL
import Derived.Test.YtecgjhnihagleaaMcO
namespace Go.Proofs.Ytecgjhnihagleaa
open Go.RowKit Plain Mch

theorem pm_3 {M : List (List Int)} (h3 : ∀ i, i < M.length → (rx M i).length ≤ 3) : ∀ i, i ≤ M.length → pm M i ≤ 3 * i
  | 0, _ => by rw [pm_zero]; omega
  | i + 1, h => by
    rw [pm_step (by omega)]
    have h1 := pm_3 h3 i (by omega)
    have h2 := h3 i (by omega)
    omega
theorem pm_12 {M : List (List Int)} (h : M.length ≤ 12) (h3 : ∀ i, i < M.length → (rx M i).length ≤ 3) : pm M M.length ≤ 36 := by
  have := pm_3 h3 M.length (Nat.le_refl _)
  omega

theorem ZRow.rowsM {w w' : World} {B : Nat} {v : Value} {l : List Int} {us : List Value} (h : ZRow w B v l) (hr : RowsM w us w') (hne : ∀ u ∈ us, ∀ g, u.ownBlock = some g → g < B) : ZRow w' B v l :=
  own_rowsM h hr (fun g hg u hu e => by have h1 := hne u hu g e; have h2 := (World.ownsRow.lt h g hg).1; omega)

theorem MaOwn.rowsM {w w' : World} {B : Nat} {v e : Value} {M : List (List Int)} {E : List Bool} {us vs : List Value} (h : MaOwn w B v e M E us) (hr : RowsM w vs w') (hne : ∀ u ∈ vs, ∀ g, u.ownBlock = some g → g < B) : MaOwn w' B v e M E us := by
  refine ⟨⟨own_rowsM h.1.1 hr (fun g hg u hu e => by have h1 := hne u hu g e; have h2 := (World.ownsRow.lt h.1.1 g hg).1; omega), fun i hi => ?_, h.1.2.2⟩, own_rowsM h.2.1 hr (fun g hg u hu e => by have h1 := hne u hu g e; have h2 := (World.ownsRow.lt h.2.1 g hg).1; omega), h.2.2⟩
  obtain ⟨u, k1, k2, k3⟩ := h.1.2.1 i hi
  exact ⟨u, k1, own_rowsM k2 hr (fun g hg u hu e => by have h1 := hne u hu g e; have h2 := (World.ownsRow.lt k2 g hg).1; omega), k3⟩

/-- the rows of an own machine lie between its bound and the heap's end -/
theorem MaOwn.rows {w : World} {B : Nat} {v e : Value} {M : List (List Int)} {E : List Bool} {us : List Value} (h : MaOwn w B v e M E us) : ∀ u ∈ e :: us, ∀ g, u.ownBlock = some g → B ≤ g ∧ g < w.heap.size := fun u hu g hg => by
  rw [List.mem_cons] at hu
  rcases hu with rfl | hu
  · exact World.ownsRow.lt h.2.1 g hg
  · exact h.1.rows u hu g hg

theorem RowsM.cell {w w' : World} {us : List Value} (h : RowsM w us w') {b k : Nat} (hb : b < w.heap.size) (hn : ∀ u ∈ us, u.ownBlock ≠ some b) : w'.cell? ⟨b, k, none⟩ = w.cell? ⟨b, k, none⟩ := World.cell?_of_block (w := w) (h.block b hb hn)

end Go.Proofs.Ytecgjhnihagleaa
