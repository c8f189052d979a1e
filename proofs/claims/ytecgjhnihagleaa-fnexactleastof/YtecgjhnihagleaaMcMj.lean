/- A machine whose Next and Ends were made one after the other. -/
import Derived.Test.YtecgjhnihagleaaMcMe
namespace Go.Proofs.Ytecgjhnihagleaa
open Go.RowKit Plain Mch

theorem MaOwn.join {w w' : World} {B : Nat} {v e : Value} {M : List (List Int)} {us : List Value} {E : List Bool} (h : MOwn w B v M us) (he : ERow w' w.heap.size e E) (hb : Below w.heap.size w w') (hB : B ≤ w.heap.size) : MaOwn w' B v e M E us := by
  refine ⟨h.below hb, own_lowerM he hB, fun g hg => ⟨fun e2 => ?_, fun u hu e2 => ?_⟩⟩
  · have h1 := World.ownsRow.lt he g hg
    have h2 := World.ownsRow.lt h.1 g e2
    omega
  · obtain ⟨i, hi, hu2⟩ := List.getElem_of_mem hu
    have hl : us.length = M.length := by have := h.1.1; omega
    obtain ⟨u', hu', hz, _⟩ := h.2.1 i (by omega)
    rw [List.getElem?_eq_getElem hi, hu2] at hu'
    injection hu' with hu'
    subst hu'
    have h1 := World.ownsRow.lt he g hg
    have h2 := World.ownsRow.lt hz g e2
    omega

end Go.Proofs.Ytecgjhnihagleaa
