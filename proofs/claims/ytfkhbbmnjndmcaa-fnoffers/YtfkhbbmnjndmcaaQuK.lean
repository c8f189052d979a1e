/- What the laws over queues keep from call to call. -/
import Derived.Test.YtfkhbbmnjndmcaaQuM
namespace Go.Proofs.Ytfkhbbmnjndmcaa
open Go.RowKit Plain Qus

/-- the rows' blocks lie there -/
def OwnQ (lo hi : Nat) (v1 v2 v3 : Value) : Prop := ∀ g, v1.ownBlock = some g ∨ v2.ownBlock = some g ∨ v3.ownBlock = some g → lo ≤ g ∧ g < hi

theorem QuRow.ownIn {w : World} {B : Nat} {q : Qu} {v1 v2 v3 : Value} (h : QuRow w B q v1 v2 v3) : OwnQ B w.heap.size v1 v2 v3 := fun g hg => by
  rcases hg with hg | hg | hg
  · exact World.ownsRow.lt h.a g hg
  · exact World.ownsRow.lt h.b g hg
  · exact World.ownsRow.lt h.c g hg

theorem QuRow.mid {w w' : World} {B B' T lo hi : Nat} {q : Qu} {v1 v2 v3 : Value} (h : QuRow w B q v1 v2 v3) (ho : OwnQ lo hi v1 v2 v3) (hm : Mid B' T w w') (hk : hi ≤ B' ∨ T ≤ lo) : QuRow w' B q v1 v2 v3 := by
  have k : ∀ g, v1.ownBlock = some g ∨ v2.ownBlock = some g ∨ v3.ownBlock = some g → w'.heap[g]? = w.heap[g]? := fun g hg => by
    have h1 := ho g hg
    have h2 := h.ownIn g hg
    exact hm.block g h2.2 (by omega)
  exact ⟨own_keptQ h.a fun g hg => k g (.inl hg), own_keptQ h.b fun g hg => k g (.inr (.inl hg)), own_keptQ h.c fun g hg => k g (.inr (.inr hg)), h.ab, h.ac, h.bc⟩

theorem Sv.mid {w w' : World} {b B T : Nat} {x0 x1 x2 x3 x4 x5 : Value} (h : Sv w b x0 x1 x2 x3 x4 x5) (hm : Mid B T w w') (hk : b < B ∨ T ≤ b) : Sv w' b x0 x1 x2 x3 x4 x5 := h.kept (hm.block b h.low hk) hm.size

theorem ZRow.mid {w w' : World} {B B' T lo hi : Nat} {v : Value} {L : List Int} (h : ZRow w B v L) (ho : ∀ g, v.ownBlock = some g → lo ≤ g ∧ g < hi) (hm : Mid B' T w w') (hk : hi ≤ B' ∨ T ≤ lo) : ZRow w' B v L :=
  own_keptQ h fun g hg => hm.block g (World.ownsRow.lt h g hg).2 (by have := ho g hg; omega)

/-- a queue as an answer, its slices shown -/
def QuOut (w w' : World) (q : Qu) (P : Value → Prop) : Prop := ∃ a1 c1 a2 c2 a3 c3, P (.agg #[.int .i64 q.cap, .int .i64 q.rule, .int .i64 q.next, .slice a1 q.wt.length c1, .slice a2 q.hd.length c2, .slice a3 q.dr.length c3]) ∧ QuRow w' w.heap.size q (.slice a1 q.wt.length c1) (.slice a2 q.hd.length c2) (.slice a3 q.dr.length c3) ∧ Below w.heap.size w w'

theorem QuOut.mk {w w' : World} {q : Qu} {P : Value → Prop} {v1 v2 v3 : Value} (hp : P (q.val v1 v2 v3)) (hr : QuRow w' w.heap.size q v1 v2 v3) (hb : Below w.heap.size w w') : QuOut w w' q P := by
  obtain ⟨a1, c1, a2, c2, a3, c3, rfl, rfl, rfl⟩ := hr.form
  exact ⟨a1, c1, a2, c2, a3, c3, hp, hr, hb⟩

end Go.Proofs.Ytfkhbbmnjndmcaa
