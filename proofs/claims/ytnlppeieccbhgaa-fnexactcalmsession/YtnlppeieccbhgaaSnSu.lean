/- What StepSession tells. -/
import Derived.Test.YtnlppeieccbhgaaSnK
import Derived.Test.YtnlppeieccbhgaaSnP
import Derived.Test.YtnlppeieccbhgaaSnQ
import Derived.Test.YtnlppeieccbhgaaSnS
namespace Go.Proofs.Ytnlppeieccbhgaa
open Go.RowKit Plain Tpc Ssn

def Ssn.zeS : Ses := ⟨0, [], 0, [], [], []⟩
def Ssn.spK (s : Ses) (x : Sp) : Bool := gs s && stK s x
def Ssn.spS (s : Ses) (x : Sp) : Ses := if spK s x = true then stS s x else zeS

theorem zeS_row (w : World) (B : Nat) : SesRow w B zeS (.slice none 0 0) (.slice none 0 0) (.slice none 0 0) (.slice none 0 0) :=
  ⟨⟨rfl, .inl ⟨rfl, rfl⟩⟩, ⟨rfl, .inl ⟨rfl, rfl⟩⟩, ⟨rfl, .inl ⟨rfl, rfl⟩⟩, ⟨rfl, .inl ⟨rfl, rfl⟩⟩, fun _ q => by simp [Value.ownBlock] at q, fun _ q => by simp [Value.ownBlock] at q, fun _ q => by simp [Value.ownBlock] at q, fun _ q => by simp [Value.ownBlock] at q, fun _ q => by simp [Value.ownBlock] at q, fun _ q => by simp [Value.ownBlock] at q⟩

def StpO (w w' : World) (e : Ending) (s : Ses) (x : Sp) : Prop := SesOut w w' (spS s x) (fun v => e = .returned (.tuple #[v, .bool (spK s x)]))

theorem StpO.no {w w' : World} {s : Ses} {x : Sp} (h : spK s x = false) (hb : Below w.heap.size w w') : StpO w w' (.returned (.tuple #[.agg #[.int .i64 0, .slice none 0 0, .int .i64 0, .slice none 0 0, .slice none 0 0, .slice none 0 0], .bool false])) s x := by
  unfold StpO spS
  rw [h]
  exact SesOut.mk (s := zeS) rfl (zeS_row _ _) hb
theorem StpO.yes {w w' : World} {s : Ses} {x : Sp} {vi vh vw va : Value} (h : spK s x = true) (hr : SesRow w' w.heap.size (stS s x) vi vh vw va) (hb : Below w.heap.size w w') : StpO w w' (.returned (.tuple #[(stS s x).val vi vh vw va, .bool true])) s x := by
  unfold StpO spS
  rw [h]
  exact SesOut.mk rfl hr hb

theorem Below.sets6 {w w' : World} {B b : Nat} {x0 x1 x2 x3 x4 x5 : Value} (h : Below B w w') (hb : B ≤ b) : Below B w ((((((w'.setCell ⟨b, 0, none⟩ x0).setCell ⟨b, 1, none⟩ x1).setCell ⟨b, 2, none⟩ x2).setCell ⟨b, 3, none⟩ x3).setCell ⟨b, 4, none⟩ x4).setCell ⟨b, 5, none⟩ x5) :=
  (((((h.setCell (p := ⟨b, 0, none⟩) hb x0).setCell (p := ⟨b, 1, none⟩) hb x1).setCell (p := ⟨b, 2, none⟩) hb x2).setCell (p := ⟨b, 3, none⟩) hb x3).setCell (p := ⟨b, 4, none⟩) hb x4).setCell (p := ⟨b, 5, none⟩) hb x5

theorem Gd.sml {s : Ses} (h : Gd s) : Sml s 30 := ⟨h.il, by have := h.hl; have := h.il; omega, by have := h.yl; omega, by have := h.al; omega⟩
theorem Sml.up {s : Ses} {M N : Nat} (h : Sml s M) (hN : M ≤ N) : Sml s N := ⟨by have := h.i; omega, by have := h.h; omega, by have := h.y; omega, by have := h.a; omega⟩

end Go.Proofs.Ytnlppeieccbhgaa
