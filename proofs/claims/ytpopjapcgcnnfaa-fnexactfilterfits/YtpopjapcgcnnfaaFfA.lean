/- Whether a filter's wants stand at parts of the right kinds: the plain words; the program's small looks. -/
import Derived.Test.YtpopjapcgcnnfaaWfE
import Derived.Test.YtpopjapcgcnnfaaNsA
import Derived.Test.YtpopjapcgcnnfaaGg
import Derived.Test.YtpopjapcgcnnfaaSpD
import Derived.Test.YtpopjapcgcnnfaaGh
import Derived.Test.YtpopjapcgcnnfaaSchL
import Derived.Test.YtpopjapcgcnnfaaGe
namespace Go.Proofs.Ytpopjapcgcnnfaa
open Go.RowKit Plain Sch Wan

/-- may a want of kind k stand at a part of kind d -/
def fitK (k d : Int) : Bool := if askN k then decide (d = 1) || decide (d = 3) else if askT k then decide (d = 2) else true

def ffW (l : List Tr) (x : Wa) : Bool := if isAsk x.kind then (match byNo l x.no with | some y => fitK x.kind y.kind | none => false) else true

def ffo (T : List Wa) (S : List Ty) : Bool × Bool := if gf T && gs S then (T.all (ffW (tree S 41 0).kids), true) else (false, false)

theorem drop_wa (T : List Wa) (i : Nat) (h : i < T.length) : T.drop i = wa T i :: T.drop (i + 1) := by
  rw [List.drop_eq_getElem_cons h]
  simp [wa, List.getD, h]

theorem kindNumW (w : World) : Calls Try.prog 182 #[.agg #[]] w fun e w' => e = .returned (.int .i64 1) ∧ Below w.heap.size w w' := by
  go_enter Try.func182, Try.ntmps182
  go_wp2
  go_ret
  exact ⟨rfl, by go_grown⟩

theorem kindTxtW (w : World) : Calls Try.prog 183 #[.agg #[]] w fun e w' => e = .returned (.int .i64 2) ∧ Below w.heap.size w w' := by
  go_enter Try.func183, Try.ntmps183
  go_wp2
  go_ret
  exact ⟨rfl, by go_grown⟩

theorem kindEnuW (mo : Int) (w : World) : Calls Try.prog 184 #[.agg #[.int .i64 mo]] w fun e w' => e = .returned (.int .i64 3) ∧ Below w.heap.size w w' := by
  go_enter Try.func184, Try.ntmps184
  go_wp2
  go_ret
  exact ⟨rfl, by go_grown⟩

theorem kindLstW (xa : TypeId) (xv : Value) (w : World) : Calls Try.prog 185 #[.agg #[.iface xa xv]] w fun e w' => e = .returned (.int .i64 4) ∧ Below w.heap.size w w' := by
  go_enter Try.func185, Try.ntmps185
  go_wp2
  go_ret
  exact ⟨rfl, by go_grown⟩

theorem kindMsgW (ap : Option Addr) (np cp : Nat) (w : World) : Calls Try.prog 186 #[.agg #[.slice ap np cp]] w fun e w' => e = .returned (.int .i64 5) ∧ Below w.heap.size w w' := by
  go_enter Try.func186, Try.ntmps186
  go_wp2
  go_ret
  exact ⟨rfl, by go_grown⟩

set_option maxRecDepth 100000 in
theorem fitsN (d : Int) (w : World) : Calls Try.prog 141 #[.int .i64 d] w fun e w' => e = .returned (.bool (decide (d = 1) || decide (d = 3))) ∧ w' = w := by
  by_cases h1 : d = 1
  · subst h1
    go_enter Try.func141, Try.ntmps141
    go_wp2
    go_ret
    exact ⟨rfl, rfl⟩
  · have h1' : (d == 1) = false := by simpa using h1
    have e : (decide (d = 1) || decide (d = 3)) = (d == 3) := by simp [h1]; rfl
    rw [e]
    go_enter Try.func141, Try.ntmps141
    go_wp2
    go_ret
    exact ⟨rfl, rfl⟩

set_option maxRecDepth 100000 in
theorem fitsA (d : Int) (w : World) : Calls Try.prog 118 #[.int .i64 d] w fun e w' => e = .returned (.bool true) ∧ w' = w := by
  go_enter Try.func118, Try.ntmps118
  go_wp2
  go_ret
  exact ⟨rfl, rfl⟩

set_option maxRecDepth 100000 in
theorem fitsT (d : Int) (w : World) : Calls Try.prog 120 #[.int .i64 d] w fun e w' => e = .returned (.bool (decide (d = 2))) ∧ w' = w := by
  go_enter Try.func120, Try.ntmps120
  go_wp2
  go_ret
  exact ⟨rfl, rfl⟩

/-- which of the three a kind asks -/
def fnN (k : Int) : Nat := if askN k then 141 else if askT k then 120 else 118

theorem fnF_fn {k : Int} (h : isAsk k = true) : fnF k = .func (.func (fnN k)) #[] #[] := by
  have hb := ask_bounds h
  unfold fnF fnN
  by_cases h3 : k ≤ 3
  · have e1 : askN k = true := by unfold askN; simp [h3, hb.1]
    rw [e1, if_pos (show 1 ≤ k ∧ k ≤ 3 from ⟨hb.1, h3⟩)]; rfl
  · have e1 : askN k = false := by unfold askN; simp [h3]
    rw [e1, if_neg (show ¬ (1 ≤ k ∧ k ≤ 3) from fun h => h3 h.2)]
    by_cases h5 : k = 5
    · have e2 : askT k = true := by unfold askT; simp [h5]
      rw [e2, if_neg (show ¬ k = 4 by omega), if_pos h5]; rfl
    · have e2 : askT k = false := by unfold askT; simp [h5]
      rw [e2, if_pos (show k = 4 by omega)]; rfl

theorem fits_any (k d : Int) (w : World) : Calls Try.prog (fnN k) #[.int .i64 d] w fun e w' => e = .returned (.bool (fitK k d)) ∧ w' = w := by
  unfold fnN fitK
  by_cases h1 : askN k = true
  · rw [if_pos h1, if_pos h1]; exact fitsN d w
  · rw [if_neg h1, if_neg h1]
    by_cases h2 : askT k = true
    · rw [if_pos h2, if_pos h2]; exact fitsT d w
    · rw [if_neg h2, if_neg h2]; exact fitsA d w

theorem fnN_cases (k : Int) : fnN k = 141 ∨ fnN k = 120 ∨ fnN k = 118 := by
  unfold fnN
  split
  · exact .inl rfl
  · split
    · exact .inr (.inl rfl)
    · exact .inr (.inr rfl)

end Go.Proofs.Ytpopjapcgcnnfaa
