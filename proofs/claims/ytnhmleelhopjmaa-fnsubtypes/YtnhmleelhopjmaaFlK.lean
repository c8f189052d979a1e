/- What SubSchema answers is small. -/
import Derived.Test.YtnhmleelhopjmaaGl
namespace Go.Proofs.Ytnhmleelhopjmaa
open Go.RowKit Plain Sch

theorem ssof_ok (T : List Ty) (k : Int) : (ssof T k).1.length ≤ 1000 ∧ ∀ x ∈ (ssof T k).1, x.name.size ≤ 10 := by
  unfold ssof
  split
  · rename_i h
    have hk : k.toNat < T.length := by omega
    have h30 := (gs_types T h.1).2.1
    refine ⟨?_, flat_names _ _ _ (gt_names _ (by show ByteArray.size ⟨#[]⟩ ≤ 10; simp [ByteArray.size]) (bare_good _ (tree_good T h.1 41 _ hk (by omega))))⟩
    have := tree_size T h.1 41 _ hk (by omega)
    rw [flat_len, bare_size]
    omega
  · exact ⟨by simp, fun x hx => by simp at hx⟩

end Go.Proofs.Ytnhmleelhopjmaa
