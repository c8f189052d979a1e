/- What the laws over sessions keep from call to call. -/
import Derived.Test.YtnlppeieccbhgaaSnM
import Derived.Test.YtnlppeieccbhgaaSnD
namespace Go.Proofs.Ytnlppeieccbhgaa
open Go.RowKit Plain Tpc Ssn

/-- the rows' blocks lie there -/
def OwnIn (lo hi : Nat) (vi vh vw va : Value) : Prop := ∀ g, vi.ownBlock = some g ∨ vh.ownBlock = some g ∨ vw.ownBlock = some g ∨ va.ownBlock = some g → lo ≤ g ∧ g < hi

theorem SesRow.ownIn {w : World} {B : Nat} {s : Ses} {vi vh vw va : Value} (h : SesRow w B s vi vh vw va) : OwnIn B w.heap.size vi vh vw va := fun g hg => by
  rcases hg with hg | hg | hg | hg
  · exact World.ownsRow.lt h.i g hg
  · exact World.ownsRow.lt h.h g hg
  · exact World.ownsRow.lt h.y g hg
  · exact World.ownsRow.lt h.a g hg

theorem own_keptS {w w' : World} {B e size n : Nat} {v : Value} {xs : List Value} (h : w.ownsRow B e size v n xs) (hk : ∀ g, v.ownBlock = some g → w'.heap[g]? = w.heap[g]?) : w'.ownsRow B e size v n xs := by
  refine ⟨h.1, ?_⟩
  rcases h.2 with hn | ⟨g, cap, cur, hv, hB, hgg, rest⟩
  · exact .inl hn
  · exact .inr ⟨g, cap, cur, hv, hB, (hk g (by rw [hv]; rfl)).trans hgg, rest⟩

theorem SesRow.mid {w w' : World} {B B' T lo hi : Nat} {s : Ses} {vi vh vw va : Value} (h : SesRow w B s vi vh vw va) (ho : OwnIn lo hi vi vh vw va) (hm : Mid B' T w w') (hk : hi ≤ B' ∨ T ≤ lo) : SesRow w' B s vi vh vw va := by
  have k : ∀ g, vi.ownBlock = some g ∨ vh.ownBlock = some g ∨ vw.ownBlock = some g ∨ va.ownBlock = some g → w'.heap[g]? = w.heap[g]? := fun g hg => by
    have h1 := ho g hg
    have h2 := h.ownIn g hg
    exact hm.block g h2.2 (by omega)
  exact ⟨own_keptS h.i fun g hg => k g (.inl hg), own_keptS h.h fun g hg => k g (.inr (.inl hg)), own_keptS h.y fun g hg => k g (.inr (.inr (.inl hg))), own_keptS h.a fun g hg => k g (.inr (.inr (.inr hg))), h.ih, h.iw, h.ia, h.hw, h.ha, h.wa⟩

theorem Sv.mid {w w' : World} {b B T : Nat} {x0 x1 x2 x3 x4 x5 : Value} (h : Sv w b x0 x1 x2 x3 x4 x5) (hm : Mid B T w w') (hk : b < B ∨ T ≤ b) : Sv w' b x0 x1 x2 x3 x4 x5 := h.kept (hm.block b h.low hk) hm.size

theorem StRow.mid {w w' : World} {B B' T lo hi : Nat} {v : Value} {L : List ByteArray} (h : StRow w B v L) (ho : ∀ g, v.ownBlock = some g → lo ≤ g ∧ g < hi) (hm : Mid B' T w w') (hk : hi ≤ B' ∨ T ≤ lo) : StRow w' B v L :=
  own_keptS h fun g hg => hm.block g (World.ownsRow.lt h g hg).2 (by have := ho g hg; omega)

theorem SesRow.form {w : World} {B : Nat} {s : Ses} {vi vh vw va : Value} (h : SesRow w B s vi vh vw va) : ∃ ai ci ah ch aw cw aa ca, vi = .slice ai s.items.length ci ∧ vh = .slice ah s.handed.length ch ∧ vw = .slice aw s.way.length cw ∧ va = .slice aa s.acks.length ca := h.at.form

/-- a session as an answer, its slices shown -/
def SesOut (w w' : World) (s : Ses) (P : Value → Prop) : Prop := ∃ ai ci ah ch aw cw aa ca, P (.agg #[.int .i64 s.ep, .slice ai s.items.length ci, .int .i64 s.base, .slice ah s.handed.length ch, .slice aw s.way.length cw, .slice aa s.acks.length ca]) ∧ SesRow w' w.heap.size s (.slice ai s.items.length ci) (.slice ah s.handed.length ch) (.slice aw s.way.length cw) (.slice aa s.acks.length ca) ∧ Below w.heap.size w w'

theorem SesOut.mk {w w' : World} {s : Ses} {P : Value → Prop} {vi vh vw va : Value} (hp : P (s.val vi vh vw va)) (hr : SesRow w' w.heap.size s vi vh vw va) (hb : Below w.heap.size w w') : SesOut w w' s P := by
  obtain ⟨ai, ci, ah, ch, aw, cw, aa, ca, rfl, rfl, rfl, rfl⟩ := hr.form
  exact ⟨ai, ci, ah, ch, aw, cw, aa, ca, hp, hr, hb⟩

end Go.Proofs.Ytnlppeieccbhgaa
