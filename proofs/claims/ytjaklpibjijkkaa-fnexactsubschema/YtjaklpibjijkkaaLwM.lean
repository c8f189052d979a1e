/- The law's own marks in schemas. -/
import Derived.Test.YtjaklpibjijkkaaMarkT
import Derived.Test.YtjaklpibjijkkaaLwB
namespace Go.Proofs.Ytjaklpibjijkkaa
open Go.RowKit Plain Sch

set_option maxRecDepth 100000 in
set_option maxHeartbeats 1000000 in
theorem markSchema_any (B n k : Nat) (v : Value) (xs : List Value) (w : World) (hown : w.ownsRow B 65 6 v n xs) (hn : n ≤ 2097152) (hk1 : 1 ≤ k) (hk2 : k ≤ 100000000) :
    Calls Try.prog 16 #[.agg #[v], .int .i64 k] w fun e w' => e = .returned (.int .i64 ((k + n * 6 : Nat) : Int)) ∧ (∃ ys, w'.ownsRow B 65 6 v n ys ∧ ∀ j, j < n * 6 → ys[j]? = some (mcT k j)) ∧ w.grownBy w' v.ownBlock := by
  obtain ⟨ar, capr, hrv⟩ : ∃ ao cap, v = Value.slice ao n cap := by
    rcases hown.2 with ⟨rfl, h0⟩ | ⟨g, cap, _, rfl, _⟩
    · exact ⟨none, 0, by rw [h0]⟩
    · exact ⟨_, _, rfl⟩
  subst hrv
  have HO : Hid (w.ownsRow B 65 6 (.slice ar n capr) n xs) := hown
  clear hown
  go_enter Try.func16, Try.ntmps16
  go_wp2_with fail
  refine (markT_any B n k _ _ _ (HO.out.alloc _) hn hk1 hk2).mono ?_
  rintro e w2 ⟨rfl, ⟨ys, hy1, hy2⟩, hb2⟩
  have HY : Hid (∃ ys, w2.ownsRow B 65 6 (.slice ar n capr) n ys ∧ ∀ j, j < n * 6 → ys[j]? = some (mcT k j)) := ⟨ys, hy1, hy2⟩
  clear hy1 hy2
  go_wp2
  go_ret
  exact ⟨rfl, HY.out, Lib.grownBy_trans (grow_belowT ((Below.refl _ w).alloc (Nat.le_refl _) _)) hb2⟩

end Go.Proofs.Ytjaklpibjijkkaa
