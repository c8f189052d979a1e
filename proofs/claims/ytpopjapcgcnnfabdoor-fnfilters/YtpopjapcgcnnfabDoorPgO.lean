/- What a want or an instruction is held against: the words of 'good' for its number and its text. -/
import Derived.Laws.Strings
import Derived.Test.YtpopjapcgcnnfabDoorWnB
namespace Go.Proofs.YtpopjapcgcnnfabDoor
open Plain Sch Wan

theorem str_some {t : ByteArray} (h : ¬ t = ⟨#[]⟩) : t.toList.isEmpty = false := by
  cases e : t.toList with
  | nil =>
    exfalso
    apply h
    rw [ByteArray.toList_eq] at e
    cases t with
    | mk d =>
      have : d = #[] := Array.toList_eq_nil_iff.1 e
      rw [this]
  | cons => rfl

def askN (k : Int) : Bool := decide (1 ≤ k) && decide (k ≤ 3)
def askT (k : Int) : Bool := decide (k = 5)

/-- is what a field is held against good -/
def askedOk (hn ht : Bool) (m : Int) (t : ByteArray) : Bool := (hn || decide (m = 0)) && (ht || decide (t = ⟨#[]⟩)) && nOk m && decide (t.size ≤ 30)

end Go.Proofs.YtpopjapcgcnnfabDoor
