/- What a good schema has. -/
import Derived.Test.YtjaklpibjijkkaaSchG
import Derived.Test.YtjaklpibjijkkaaSchP
namespace Go.Proofs.Ytjaklpibjijkkaa
open Go.RowKit Plain Sch

theorem implGoodT (T : List Ty) (v : Value) (w : World) (hT : TysAt w w.heap.size v T) :
    Calls Try.prog 23 #[.agg #[v]] w fun e w' => e = .returned (.bool (gs T)) ∧ Below w.heap.size w w' := by
  rw [← gs_eq]
  exact implGood_any T v w hT

theorem gs_types (T : List Ty) (h : gs T = true) : 1 ≤ T.length ∧ T.length ≤ 30 ∧ ∀ i, i < T.length → typeOk T i = true := by
  unfold gs at h
  simp only [Bool.and_eq_true, decide_eq_true_eq, List.all_eq_true, List.mem_range] at h
  exact ⟨h.1.1.1.1, h.1.1.1.2, h.1.1.2⟩

theorem gs_ups (T : List Ty) (h : gs T = true) : Ups T := by
  have := gs_types T h
  exact ups_of T (by omega) this.2.2

end Go.Proofs.Ytjaklpibjijkkaa
