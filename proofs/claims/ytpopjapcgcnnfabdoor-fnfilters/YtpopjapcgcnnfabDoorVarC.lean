/- The contracts of the two VarintOf at every int: both answer the text of the number's sevens, within the bounds alone. -/
import Derived.Test.YtpopjapcgcnnfabDoorVarB
import Derived.Lib.SmallJoins
namespace Go.Proofs.YtpopjapcgcnnfabDoor
open Go.RowKit

/-- what VarintOf answers -/
def vo (a : Int) : ByteArray × Bool := if 0 ≤ a ∧ a ≤ 2000000001 then (⟨(Lib.uvarint a.toNat).toArray⟩, true) else (⟨#[]⟩, false)

theorem vo_in (x : Nat) (h : x ≤ 2000000001) : vo (x : Int) = (⟨(Lib.uvarint x).toArray⟩, true) := by
  unfold vo; rw [if_pos ⟨by omega, by omega⟩, Int.toNat_natCast]

theorem vo_out (a : Int) (h : ¬ (0 ≤ a ∧ a ≤ 2000000001)) : vo a = (⟨#[]⟩, false) := by
  unfold vo; rw [if_neg h]

end Go.Proofs.YtpopjapcgcnnfabDoor
