/- Rows of a session that grow; variables beside them. -/
import Derived.Test.YtnlppeieccbhgaaSnR
namespace Go.Proofs.Ytnlppeieccbhgaa
open Go.RowKit Plain Tpc Ssn

theorem Tch.avoid {w w' : World} {P P' : Nat → Prop} (h : Tch w w' P P') {b : Nat} (hb : b < w.heap.size) (hn : ¬ P b) : ¬ P' b := fun hp => by
  rcases h.new b hp with h1 | h1
  · exact hn h1
  · omega

theorem Sv.step {w w' : World} {P P' : Nat → Prop} {b : Nat} {x0 x1 x2 x3 x4 x5 : Value} (h : Sv w b x0 x1 x2 x3 x4 x5) (t : Tch w w' P P') (hn : ¬ P b) : Sv w' b x0 x1 x2 x3 x4 x5 := h.kept (t.block b h.low hn) t.size

/-- three cells of a variable -/
structure Cv3 (w : World) (b : Nat) (x0 x1 x2 : Value) : Prop where
  low : b < w.heap.size
  c0 : w.cell? ⟨b, 0, none⟩ = some x0
  c1 : w.cell? ⟨b, 1, none⟩ = some x1
  c2 : w.cell? ⟨b, 2, none⟩ = some x2

theorem Cv3.kept {w w' : World} {b : Nat} {x0 x1 x2 : Value} (h : Cv3 w b x0 x1 x2) (hb : w'.heap[b]? = w.heap[b]?) (hs : w.heap.size ≤ w'.heap.size) : Cv3 w' b x0 x1 x2 := by
  have hc : ∀ k, w'.cell? ⟨b, k, none⟩ = w.cell? ⟨b, k, none⟩ := fun k => by simp only [World.cell?, hb]
  obtain ⟨h0, h1, h2, h3⟩ := h
  exact ⟨by omega, (hc 0).trans h1, (hc 1).trans h2, (hc 2).trans h3⟩
theorem Cv3.below {w w' : World} {b : Nat} {x0 x1 x2 : Value} (h : Cv3 w b x0 x1 x2) (hb : Below w.heap.size w w') : Cv3 w' b x0 x1 x2 := h.kept (hb.block b h.low) hb.size
theorem Cv3.apart {w : World} {b c k : Nat} {u x0 x1 x2 : Value} (h : Cv3 w b x0 x1 x2) (hne : b ≠ c) : Cv3 (w.setCell ⟨c, k, none⟩ u) b x0 x1 x2 := h.kept (Below.heap_setCell _ _ _ _ hne) (by simp)
theorem Cv3.step {w w' : World} {P P' : Nat → Prop} {b : Nat} {x0 x1 x2 : Value} (h : Cv3 w b x0 x1 x2) (t : Tch w w' P P') (hn : ¬ P b) : Cv3 w' b x0 x1 x2 := h.kept (t.block b h.low hn) t.size
theorem Cv3.fresh (w : World) (x0 x1 x2 : Value) (t : TypeId) : Cv3 (w.alloc (.cells #[x0, x1, x2] t)) w.heap.size x0 x1 x2 := ⟨by simp, by simp, by simp, by simp⟩

section
variable {W w9 : World} {B n g9 cap9 : Nat} {s : Ses} {vi vh vw va : Value} {o : Obj}

theorem grown_alloc (hgrow9 : (W.alloc o).grownBy w9 (some g9)) : W.grownBy w9 (some g9) := Lib.grownBy_trans (grow_belowY ((Below.refl _ W).alloc (Nat.le_refl _) o)) hgrow9
theorem grown_allocO {r : Option Nat} (hgrow9 : (W.alloc o).grownBy w9 r) : W.grownBy w9 r := Lib.grownBy_trans (grow_belowY ((Below.refl _ W).alloc (Nat.le_refl _) o)) hgrow9
theorem at_new {v : Value} (hat9 : v.ownBlock = some g9 ∨ g9 = W.heap.size + 1) : ∀ g, (Value.slice (some ⟨g9, 0, Option.none⟩) n cap9).ownBlock = some g → v.ownBlock = some g ∨ W.heap.size ≤ g := fun g hg => by
  simp [Value.ownBlock] at hg
  subst hg
  rcases hat9 with h | h
  · exact .inl h
  · exact .inr (by omega)

theorem SesRow.appI (h : SesRow W B s vi vh vw va) {x : ByteArray} (hown9 : w9.ownsRow B 9 1 (.slice (some ⟨g9, 0, Option.none⟩) n cap9) n (strs s.items ++ [Value.string x])) (hn : s.items.length + 1 = n) (hgrow9 : (W.alloc o).grownBy w9 vi.ownBlock) (hat9 : vi.ownBlock = some g9 ∨ g9 = W.heap.size + 1) :
    SesRow w9 B { s with items := s.items ++ [x] } (.slice (some ⟨g9, 0, Option.none⟩) n cap9) vh vw va ∧ Tch W w9 (P4 vi vh vw va) (P4 (.slice (some ⟨g9, 0, Option.none⟩) n cap9) vh vw va) :=
  h.putI (StRow.snocS hown9 hn) (grown_allocO hgrow9) (at_new hat9)

theorem SesRow.appH (h : SesRow W B s vi vh vw va) {x : ByteArray} (hown9 : w9.ownsRow B 9 1 (.slice (some ⟨g9, 0, Option.none⟩) n cap9) n (strs s.handed ++ [Value.string x])) (hn : s.handed.length + 1 = n) (hgrow9 : (W.alloc o).grownBy w9 vh.ownBlock) (hat9 : vh.ownBlock = some g9 ∨ g9 = W.heap.size + 1) :
    SesRow w9 B { s with handed := s.handed ++ [x] } vi (.slice (some ⟨g9, 0, Option.none⟩) n cap9) vw va ∧ Tch W w9 (P4 vi vh vw va) (P4 vi (.slice (some ⟨g9, 0, Option.none⟩) n cap9) vw va) :=
  h.putH (StRow.snocS hown9 hn) (grown_allocO hgrow9) (at_new hat9)

theorem SesRow.appY (h : SesRow W B s vi vh vw va) {x : Pk} (hown9 : w9.ownsRow B 84 3 (.slice (some ⟨g9, 0, Option.none⟩) n cap9) n (s.way.flatMap Pk.cells ++ x.cells)) (hn : s.way.length + 1 = n) (hgrow9 : (W.alloc o).grownBy w9 vw.ownBlock) (hat9 : vw.ownBlock = some g9 ∨ g9 = W.heap.size + 1) :
    SesRow w9 B { s with way := s.way ++ [x] } vi vh (.slice (some ⟨g9, 0, Option.none⟩) n cap9) va ∧ Tch W w9 (P4 vi vh vw va) (P4 vi vh (.slice (some ⟨g9, 0, Option.none⟩) n cap9) va) :=
  h.putY (PkRow.snoc hown9 hn) (grown_allocO hgrow9) (at_new hat9)

theorem SesRow.appA (h : SesRow W B s vi vh vw va) {x : Ak} (hown9 : w9.ownsRow B 86 2 (.slice (some ⟨g9, 0, Option.none⟩) n cap9) n (s.acks.flatMap Ak.cells ++ x.cells)) (hn : s.acks.length + 1 = n) (hgrow9 : (W.alloc o).grownBy w9 va.ownBlock) (hat9 : va.ownBlock = some g9 ∨ g9 = W.heap.size + 1) :
    SesRow w9 B { s with acks := s.acks ++ [x] } vi vh vw (.slice (some ⟨g9, 0, Option.none⟩) n cap9) ∧ Tch W w9 (P4 vi vh vw va) (P4 vi vh vw (.slice (some ⟨g9, 0, Option.none⟩) n cap9)) :=
  h.putA (AkRow.snoc hown9 hn) (grown_allocO hgrow9) (at_new hat9)
end

theorem SesRow.set6 {w' : World} {B b : Nat} {s : Ses} {vi vh vw va x0 x1 x2 x3 x4 x5 : Value} (h : SesRow w' B s vi vh vw va) (hn : ¬ P4 vi vh vw va b) : SesRow ((((((w'.setCell ⟨b, 0, Option.none⟩ x0).setCell ⟨b, 1, Option.none⟩ x1).setCell ⟨b, 2, Option.none⟩ x2).setCell ⟨b, 3, Option.none⟩ x3).setCell ⟨b, 4, Option.none⟩ x4).setCell ⟨b, 5, Option.none⟩ x5) B s vi vh vw va :=
  ⟨own_set6 h.i (fun g hg e => hn (by subst e; exact .inl hg)), own_set6 h.h (fun g hg e => hn (by subst e; exact .inr (.inl hg))), own_set6 h.y (fun g hg e => hn (by subst e; exact .inr (.inr (.inl hg)))), own_set6 h.a (fun g hg e => hn (by subst e; exact .inr (.inr (.inr hg)))), h.ih, h.iw, h.ia, h.hw, h.ha, h.wa⟩

theorem Tch.set6 {w w' : World} {P P' : Nat → Prop} {b : Nat} {x0 x1 x2 x3 x4 x5 : Value} (h : Tch w w' P P') (hb : w.heap.size ≤ b) : Tch w ((((((w'.setCell ⟨b, 0, none⟩ x0).setCell ⟨b, 1, none⟩ x1).setCell ⟨b, 2, none⟩ x2).setCell ⟨b, 3, none⟩ x3).setCell ⟨b, 4, none⟩ x4).setCell ⟨b, 5, none⟩ x5) P P' :=
  (((((h.setCell b 0 x0 hb).setCell b 1 x1 hb).setCell b 2 x2 hb).setCell b 3 x3 hb).setCell b 4 x4 hb).setCell b 5 x5 hb

theorem SesRow.setC {w' : World} {B b k : Nat} {s : Ses} {vi vh vw va u : Value} (h : SesRow w' B s vi vh vw va) (hn : ¬ P4 vi vh vw va b) : SesRow (w'.setCell ⟨b, k, Option.none⟩ u) B s vi vh vw va :=
  h.setN b k u (fun g hg e => hn (by subst e; exact hg))

/-- what a call of the model's may do to a session whose rows are its own -/
def StO (w w' : World) (B : Nat) (vi vh vw va : Value) (s' : Ses) (P : Value → Prop) : Prop := ∃ ui uh uw ua, P (s'.val ui uh uw ua) ∧ SesRow w' B s' ui uh uw ua ∧ Tch w w' (P4 vi vh vw va) (P4 ui uh uw ua)

theorem StO.ret {w w' : World} {B : Nat} {vi vh vw va v : Value} {s' : Ses} (ui uh uw ua : Value) (hv : v = s'.val ui uh uw ua) (hr : SesRow w' B s' ui uh uw ua) (ht : Tch w w' (P4 vi vh vw va) (P4 ui uh uw ua)) : StO w w' B vi vh vw va s' (fun x => Ending.returned v = Ending.returned x) :=
  ⟨ui, uh, uw, ua, by rw [hv], hr, ht⟩

end Go.Proofs.Ytnlppeieccbhgaa
