/- The law's own copies of boxes. -/
import Derived.Test.YtnbaeplbnonhkaaBxM
import Derived.Laws.MakeOwn
import Derived.Laws.ResultCell
namespace Go.Proofs.Ytnbaeplbnonhkaa
open Go.RowKit Plain Sch Bxs

theorem Try.infoSd : (Try.prog.info? 58).map (fun i => (i.zero, i.size, i.bytes)) = some (some (.agg #[.int .i64 0, .int .i64 0]), 2, 16) := by kernel_rfl

theorem set2_eq (ys : List Value) (T : List Sd) (i : Nat) (t : Sd) (hl : ys.length = T.length * 2) (hi : i < T.length) (ht : sd T i = t) (hm : ∀ m, m < i → ∀ j, j < 2 → ys[m * 2 + j]? = (sd T m).cells[j]?) : ∀ m, m < i + 1 → ∀ j, j < 2 →
    ((ys.set (i * 2) (.int .i64 t.lo)).set (i * 2 + 1) (.int .i64 t.hi))[m * 2 + j]? = (sd T m).cells[j]? := by
  intro m hmi j hj
  simp only [List.getElem?_set, List.length_set]
  by_cases hme : m = i
  · subst hme
    rw [ht]
    match j, hj with
    | 0, _ => simp [Sd.cells]; omega
    | 1, _ => simp [Sd.cells]; omega
  · rw [if_neg (by omega), if_neg (by omega)]
    exact hm m (by omega) j hj

end Go.Proofs.Ytnbaeplbnonhkaa
