/- The pairs that are reached lead to pairs that are reached. -/
import Derived.Test.YtecgjhnihagleaaMcMj
namespace Go.Proofs.Ytecgjhnihagleaa
open Go.RowKit Plain Mch Tpc

theorem prs_reach {A B : List (List Int)} {E F : List Bool} (hA : gm A E = true) (hB : gm B F = true) : ∀ i, i ≤ (prs A B).length → ∃ l, At A B i l
  | 0, _ => ⟨_, At.start hA hB⟩
  | i + 1, h => by
    obtain ⟨l, hl⟩ := prs_reach hA hB i (by omega)
    by_cases hi : i < l.length
    · exact ⟨_, hl.next hA hB hi⟩
    · have h1 := hl.le
      have h2 := hl.done hA hB (by omega)
      rw [← h2] at h
      omega

theorem prs_closed {A B : List (List Int)} {E F : List Bool} (hA : gm A E = true) (hB : gm B F = true) {i k : Nat} (hi : i < (prs A B).length) (hk : k < 3) : ix (prs A B) (nt A (pq (prs A B) i).a k) (nt B (pq (prs A B) i).b k) < (prs A B).length := by
  obtain ⟨l, hl⟩ := prs_reach hA hB i (by omega)
  have hil : i < l.length := by
    by_cases h : i < l.length
    · exact h
    · have h1 := hl.le
      have h2 := hl.done hA hB (by omega)
      rw [← h2] at hi
      omega
  rw [← stk_ix hA hB hl hil hk]
  obtain ⟨m, e1⟩ := (hl.next hA hB hil).ahead
  obtain ⟨m2, e2⟩ := stk_more A B l (pq l i) (k + 1) (2 - k)
  rw [show k + 1 + (2 - k) = 3 by omega, stk_3] at e2
  have h2 := (ix_pu (stk A B l (pq l i) k) (qn A B (pq l i) k)).2
  have h3 : (stk A B l (pq l i) (k + 1)).length ≤ (prs A B).length := by rw [e1, e2, List.length_append, List.length_append]; omega
  exact Nat.lt_of_lt_of_le h2 h3

theorem below_grown {W w6 w9 : World} {B : Nat} {o : Obj} {row : Option Nat} (h : Below B W w6) (hB : B ≤ w6.heap.size) (hg : (w6.alloc o).grownBy w9 row) (hr : ∀ g, row = some g → B ≤ g) : Below B W w9 := by
  have h7 : Below B W (w6.alloc o) := h.alloc hB o
  refine ⟨hg.os.trans h7.os, hg.tape.trans h7.tape, hg.output.trans h7.output, Nat.le_trans h7.size hg.size, fun j hj => ?_⟩
  rw [hg.block j (by simp; omega) (fun e => by have := hr j e.symm; omega)]
  exact h7.block j hj

theorem ZRow.snocM {w9 : World} {B g cap : Nat} {l : List Int} {x : Int} (hown : w9.ownsRow B 3 1 (.slice (some ⟨g, 0, none⟩) (l.length + 1) cap) (l.length + 1) (zints l ++ [.int .i64 x])) : ZRow w9 B (.slice (some ⟨g, 0, none⟩) (l.length + 1) cap) (l ++ [x]) := by
  unfold ZRow
  rw [List.length_append, List.length_singleton, show zints (l ++ [x]) = zints l ++ [.int .i64 x] by simp [zints]]
  exact hown

theorem onezJ (x : Int) : ∀ u ∈ [Value.int .i64 x], u.oneCell' = true := by
  intro u hu
  simp at hu
  subst hu
  rfl

end Go.Proofs.Ytecgjhnihagleaa
