/- The law's own marks in terms. -/
import Derived.Test.YtlmhjkcollohnaaMarkCe
import Derived.Test.YtlmhjkcollohnaaTwB
namespace Go.Proofs.Ytlmhjkcollohnaa
open Go.RowKit Plain Sch

set_option maxRecDepth 100000 in
set_option maxHeartbeats 1000000 in
theorem markTerm_any (B n k : Nat) (v : Value) (xs : List Value) (w : World) (hown : w.ownsRow B 53 3 v n xs) (hn : n ≤ 2097152) (hk1 : 1 ≤ k) (hk2 : k ≤ 100000000) :
    Calls Try.prog 15 #[.agg #[v], .int .i64 k] w fun e w' => e = .returned (.int .i64 ((k + n * 3 : Nat) : Int)) ∧ (∃ ys, w'.ownsRow B 53 3 v n ys ∧ ∀ j, j < n * 3 → ys[j]? = some (mcCe k j)) ∧ w.grownBy w' v.ownBlock := by
  obtain ⟨ar, capr, hrv⟩ : ∃ ao cap, v = Value.slice ao n cap := by
    rcases hown.2 with ⟨rfl, h0⟩ | ⟨g, cap, _, rfl, _⟩
    · exact ⟨none, 0, by rw [h0]⟩
    · exact ⟨_, _, rfl⟩
  subst hrv
  have HO : Hid (w.ownsRow B 53 3 (.slice ar n capr) n xs) := hown
  clear hown
  go_enter Try.func15, Try.ntmps15
  go_wp2_with fail
  refine (markCe_any B n k _ _ _ (HO.out.alloc _) hn hk1 hk2).mono ?_
  rintro e w2 ⟨rfl, ⟨ys, hy1, hy2⟩, hb2⟩
  have HY : Hid (∃ ys, w2.ownsRow B 53 3 (.slice ar n capr) n ys ∧ ∀ j, j < n * 3 → ys[j]? = some (mcCe k j)) := ⟨ys, hy1, hy2⟩
  clear hy1 hy2
  go_wp2
  go_ret
  exact ⟨rfl, HY.out, Lib.grownBy_trans (grow_belowCe ((Below.refl _ w).alloc (Nat.le_refl _) _)) hb2⟩

end Go.Proofs.Ytlmhjkcollohnaa
