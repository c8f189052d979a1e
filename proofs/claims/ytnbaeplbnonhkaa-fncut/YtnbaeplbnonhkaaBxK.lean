/- The law's own marks in boxes; what a law's variable of a box holds. -/
import Derived.Test.YtnbaeplbnonhkaaMarkSd
import Derived.Test.YtnbaeplbnonhkaaBxW
import Derived.Test.YtnbaeplbnonhkaaBxT
import Derived.Test.YtnbaeplbnonhkaaBxU
import Derived.Deep.AppendLies
import Derived.Deep.RegionHeld3
namespace Go.Proofs.Ytnbaeplbnonhkaa
open Go.RowKit Plain Sch Bxs

/-- an own row of sides, in a block of whatever type -/
def QRow (w : World) (B : Nat) (v : Value) (L : List Sd) : Prop := ∃ ty, SRow w B ty v L

theorem ownSliceB {w : World} {B e size n : Nat} {v : Value} {xs : List Value} (h : w.ownsRow B e size v n xs) : ∃ ao cap, v = Value.slice ao n cap ∧ n ≤ cap ∧ cap ≤ maxLen := by
  rcases h.2 with ⟨rfl, rfl⟩ | ⟨g, cap, cur, rfl, _, _, h1, h2, _⟩
  · exact ⟨none, 0, rfl, by omega, by unfold maxLen; omega⟩
  · exact ⟨_, _, rfl, h1, h2⟩

theorem QRow.at {w : World} {B : Nat} {v : Value} {L : List Sd} (h : QRow w B v L) : SdsAt w w.heap.size v L := by
  obtain ⟨ty, h⟩ := h
  exact SdsAt.own h

theorem QRow.lt {w : World} {B : Nat} {v : Value} {L : List Sd} (h : QRow w B v L) : ∀ g, v.ownBlock = some g → B ≤ g ∧ g < w.heap.size := by
  obtain ⟨ty, h⟩ := h
  exact World.ownsRow.lt h

theorem QRow.below {w w' : World} {B : Nat} {v : Value} {L : List Sd} (h : QRow w B v L) (hb : Below w.heap.size w w') : QRow w' B v L := by
  obtain ⟨ty, h⟩ := h
  exact ⟨ty, own_below2 h hb⟩

theorem QRow.setCell {w : World} {B : Nat} {v : Value} {L : List Sd} (h : QRow w B v L) {a : Addr} (ha : a.block < B) (u : Value) : QRow (w.setCell a u) B v L := by
  obtain ⟨ty, h⟩ := h
  exact ⟨ty, ownsRow_setCell_below h ha u⟩

theorem QRow.alloc {w : World} {B : Nat} {v : Value} {L : List Sd} (h : QRow w B v L) (o : Obj) : QRow (w.alloc o) B v L := by
  obtain ⟨ty, h⟩ := h
  exact ⟨ty, World.ownsRow.alloc h o⟩

theorem MarksAtSd.ownQ {w : World} {B n k : Nat} {v : Value} {ys : List Value} (h : ∃ ty, w.ownsRow B ty 2 v n ys) (hm : ∀ j, j < n * 2 → ys[j]? = some (mcSd k j)) (hl : n ≤ maxLen) : MarksAtSd w w.heap.size v n k := by
  obtain ⟨ty, h⟩ := h
  exact MarksAtSd.own h hm hl

theorem far_cellB {w w' : World} {row : Option Nat} (hg : w.grownBy w' row) {b : Nat} {x : Value} (h : w.cell? ⟨b, 0, none⟩ = some x) (hb : b < w.heap.size) (hne : some b ≠ row) : w'.cell? ⟨b, 0, none⟩ = some x := (hg.cell_far ⟨b, 0, none⟩ hb hne).trans h

theorem QRow.far {w w' : World} {B : Nat} {v : Value} {L : List Sd} {row : Option Nat} (h0 : QRow w B v L) (hg : w.grownBy w' row) (hne : ∀ g, v.ownBlock = some g → some g ≠ row) : QRow w' B v L := by
  obtain ⟨ty, h⟩ := h0
  refine ⟨ty, ?_⟩
  have hlt := World.ownsRow.lt h
  refine ⟨h.1, ?_⟩
  rcases h.2 with hn | ⟨g, cap, cur, hv, hgB, hgg, rest⟩
  · exact .inl hn
  · refine .inr ⟨g, cap, cur, hv, hgB, (hg.block g (hlt g (by rw [hv]; rfl)).2 (hne g (by rw [hv]; rfl))).trans hgg, rest⟩

abbrev zeBx : Obj := .cells #[.slice none 0 0] 25

def OneX (w : World) (b : Nat) : Prop := w.cell? ⟨b, 0, none⟩ = some (.slice none 0 0) ∧ w.frozen? ⟨b, 0, none⟩ = false

theorem OneX.kept {w w' : World} {b : Nat} (h : OneX w b) (hb : w'.heap[b]? = w.heap[b]?) : OneX w' b :=
  ⟨(World.cell?_of_block (w := w) hb).trans h.1, (World.frozen?_of_block (w := w) hb).trans h.2⟩

theorem oneX_made (W : World) : OneX (W.alloc zeBx) W.heap.size := ⟨by go_simp, by go_simp⟩

theorem oneX_lt {W w6 : World} (hb : Below (W.alloc zeBx).heap.size (W.alloc zeBx) w6) : W.heap.size < w6.heap.size := by
  have h := hb.size
  simp at h
  omega

theorem oneX_new {W w6 : World} (hb : Below (W.alloc zeBx).heap.size (W.alloc zeBx) w6) : OneX w6 W.heap.size := (oneX_made W).kept (hb.block _ (by simp))

theorem oneX_below {W w6 : World} (hb : Below (W.alloc zeBx).heap.size (W.alloc zeBx) w6) : Below W.heap.size W w6 :=
  ((Below.refl _ W).alloc (Nat.le_refl _) zeBx).trans (hb.mono (by simp))

theorem oneX_drew {W w6 : World} (hb : Below (W.alloc zeBx).drew.heap.size (W.alloc zeBx).drew w6) : Below (W.alloc zeBx).heap.size (W.alloc zeBx) w6 :=
  (Below.refl _ (W.alloc zeBx)).drew.trans (hb.mono (Nat.le_refl _))

/-- the variable's block is zb; it holds F -/
def KCutB (F : List Sd) (U : World) (s : Value) (wx : World) : Prop :=
  ∃ (zb : Nat) (aw : Option Addr) (cw : Nat), s = .pointer (some ⟨zb, 0, none⟩) ∧ wx.cell? ⟨zb, 0, none⟩ = some (.slice aw F.length cw) ∧ SdsAt wx wx.heap.size (.slice aw F.length cw) F ∧ zb < wx.heap.size ∧ Below U.heap.size U wx

theorem kcutB_A {F : List Sd} {U wC : World} {zb B : Nat} {aC : Option Addr} {cC : Nat} (h : Below U.heap.size U wC) (hge : U.heap.size ≤ zb) (hlt : zb < B) (hB : B ≤ wC.heap.size) (ho : QRow wC B (.slice aC F.length cC) F) (hc : OneX wC zb) :
    KCutB F U (.pointer (some ⟨zb, 0, none⟩)) (wC.setCell ⟨zb, 0, none⟩ (.slice aC F.length cC)) :=
  ⟨zb, aC, cC, rfl, World.cell?_setCell_same _ _ _ hc.1, (QRow.setCell ho (a := ⟨zb, 0, none⟩) hlt _).at, by simp; omega, h.setCell (p := ⟨zb, 0, none⟩) hge _⟩

theorem kcutB_B {F : List Sd} {U wC : World} {B : Nat} {aC : Option Addr} {cC : Nat} (h : Below U.heap.size U wC) (ho : QRow wC B (.slice aC F.length cC) F) :
    KCutB F U (.pointer (some ⟨wC.heap.size, 0, none⟩)) (wC.alloc (.cells #[.slice aC F.length cC] 25)) :=
  ⟨wC.heap.size, aC, cC, rfl, by go_simp, (ho.at).below ((Below.refl _ wC).alloc (Nat.le_refl _) _), by simp, h.alloc h.size _⟩

end Go.Proofs.Ytnbaeplbnonhkaa
