/- The parts of a type: the program's and the model's FieldsOf. -/
import Derived.Test.YtbkdpcfghaiimaaGf
import Derived.Test.YtbkdpcfghaiimaaGe
namespace Go.Proofs.Ytbkdpcfghaiimaa
open Go.RowKit Plain Sch

/-- what FieldsOf answers -/
def fof (T : List Ty) (k : Int) : List Nat × Bool := if gs T = true ∧ 0 ≤ k ∧ k < T.length then (kids T k.toNat, true) else ([], false)

theorem fof_no (T : List Ty) (k : Int) (h : ¬ (gs T = true ∧ 0 ≤ k ∧ k < T.length)) : fof T k = ([], false) := by unfold fof; rw [if_neg h]
theorem fof_yes (T : List Ty) (k : Nat) (h : gs T = true) (h2 : k < T.length) : fof T (k : Int) = (kids T k, true) := by unfold fof; rw [if_pos ⟨h, by omega, by omega⟩, Int.toNat_natCast]

def OFields (w w' : World) (e : Ending) (R : List Nat × Bool) : Prop := ∃ r, e = .returned (.tuple #[r, .bool R.2]) ∧ w'.ownsRow w.heap.size 3 1 r R.1.length (ints R.1) ∧ Below w.heap.size w w'

theorem own_lower {w : World} {B B' e size n : Nat} {v : Value} {xs : List Value} (h : w.ownsRow B e size v n xs) (hB : B' ≤ B) : w.ownsRow B' e size v n xs := by
  refine ⟨h.1, ?_⟩
  rcases h.2 with hn | ⟨g, cap, cur, hv, hg, rest⟩
  · exact .inl hn
  · exact .inr ⟨g, cap, cur, hv, by omega, rest⟩

end Go.Proofs.Ytbkdpcfghaiimaa
