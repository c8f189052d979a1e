/- Fields: what the model holds for good, and their bytes. -/
import Derived.Test.YtpopjapcgcnnfabDoorRows
import Derived.Lib.Slices
import Derived.OwnWalk
import Derived.WalkKit
import Derived.ProofKit
import Derived.Deep.QuietTactic
import Derived.BigQuiet
namespace Go.Proofs.YtpopjapcgcnnfabDoor
open Go.RowKit

structure Fld where
  no : Int
  kind : Int
  num : Int
  data : ByteArray

def Fld.val (f : Fld) : Value := .agg #[.int .i64 f.no, .int .i64 f.kind, .int .i64 f.num, .string f.data]

def Fld.good (f : Fld) : Bool :=
  decide (1 ≤ f.no) && decide (f.no ≤ 30) && (if f.kind = 0 then decide (-1000000000 ≤ f.num) && decide (f.num ≤ 1000000000) && f.data.toList.isEmpty else if f.kind = 2 then f.num == 0 else false)

set_option maxRecDepth 100000 in
set_option maxHeartbeats 4000000 in
theorem l1Field_any (f : Fld) (w : World) :
    Calls Tryd.prog 85 #[f.val] w fun e w' => e = .returned (.bool f.good) ∧ Below w.heap.size w w' := by
  obtain ⟨no, kind, num, data⟩ := f
  unfold Fld.val Fld.good
  dsimp only
  have hbel : ∀ o : Obj, Below w.heap.size w (w.alloc o) := fun o => (Below.refl _ _).alloc (Nat.le_refl _) o
  by_cases h1 : 1 ≤ no
  · by_cases h2 : no ≤ 30
    · have d1 : decide (1 ≤ no) = true := by simpa using h1
      have d2 : decide (no ≤ 30) = true := by simpa using h2
      rw [d1, d2]
      by_cases hk0 : kind = 0
      · subst hk0
        by_cases h3 : -1000000000 ≤ num
        · by_cases h4 : num ≤ 1000000000
          · have d3 : decide (-1000000000 ≤ num) = true := by simpa using h3
            have d4 : decide (num ≤ 1000000000) = true := by simpa using h4
            rw [d3, d4]
            go_enter Tryd.func85, Tryd.ntmps85
            go_wp2
            go_ret
            exact ⟨rfl, hbel _⟩
          · have d4 : decide (num ≤ 1000000000) = false := by simpa using h4
            have h4' : 1000000000 < num := by omega
            rw [d4]
            clear h4
            go_enter Tryd.func85, Tryd.ntmps85
            go_wp2
            go_ret
            exact ⟨by simp, hbel _⟩
        · have d3 : decide (-1000000000 ≤ num) = false := by simpa using h3
          have h3' : num < -1000000000 := by omega
          rw [d3]
          clear h3
          go_enter Tryd.func85, Tryd.ntmps85
          go_wp2
          go_ret
          exact ⟨by simp, hbel _⟩
      · have k0 : (kind == 0) = false := by simpa using hk0
        rw [if_neg hk0]
        by_cases hk2 : kind = 2
        · subst hk2
          go_enter Tryd.func85, Tryd.ntmps85
          go_wp2
          go_ret
          exact ⟨by simp, hbel _⟩
        · have k2 : (kind == 2) = false := by simpa using hk2
          rw [if_neg hk2]
          clear hk0 hk2
          go_enter Tryd.func85, Tryd.ntmps85
          go_wp2
          go_ret
          exact ⟨rfl, hbel _⟩
    · have d2 : decide (no ≤ 30) = false := by simpa using h2
      have h2' : 30 < no := by omega
      rw [d2]
      simp only [Bool.and_false, Bool.false_and]
      clear h2
      go_enter Tryd.func85, Tryd.ntmps85
      go_wp2
      go_ret
      exact ⟨rfl, hbel _⟩
  · have d1 : decide (1 ≤ no) = false := by simpa using h1
    have h1' : no < 1 := by omega
    rw [d1]
    simp only [Bool.false_and]
    clear h1
    go_enter Tryd.func85, Tryd.ntmps85
    go_wp2
    go_ret
    exact ⟨rfl, hbel _⟩

end Go.Proofs.YtpopjapcgcnnfabDoor
