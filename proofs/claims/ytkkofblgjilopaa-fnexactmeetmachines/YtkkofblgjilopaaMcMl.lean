/- A law's variable of a machine: what it holds behind a region that draws its order. -/
import Derived.Test.YtkkofblgjilopaaMcV
import Derived.Deep.RegionHeld3
namespace Go.Proofs.Ytkkofblgjilopaa
open Go.RowKit Plain Mch

/-- a machine that lies in memory -/
def MaIn (w : World) (v e : Value) (M : List (List Int)) (E : List Bool) : Prop := MAt w w.heap.size v M ∧ EAt w w.heap.size e E
theorem MaIn.below {w w' : World} {v e : Value} {M : List (List Int)} {E : List Bool} (h : MaIn w v e M E) (hb : Below w.heap.size w w') : MaIn w' v e M E := ⟨h.1.below hb, h.2.below hb⟩
theorem MaOwn.mat {w : World} {B : Nat} {v e : Value} {M : List (List Int)} {E : List Bool} {us : List Value} (h : MaOwn w B v e M E us) : MaIn w v e M E := ⟨h.1.at, EAt.own h.2.1⟩

abbrev zeMa : Obj := .cells #[.slice none 0 0, .slice none 0 0] 28

def OneM (w : World) (b : Nat) : Prop := (w.cell? ⟨b, 0, none⟩ = some (.slice none 0 0) ∧ w.frozen? ⟨b, 0, none⟩ = false) ∧ (w.cell? ⟨b, 1, none⟩ = some (.slice none 0 0) ∧ w.frozen? ⟨b, 1, none⟩ = false)

theorem OneM.kept {w w' : World} {b : Nat} (h : OneM w b) (hb : w'.heap[b]? = w.heap[b]?) : OneM w' b :=
  ⟨⟨(World.cell?_of_block (w := w) hb).trans h.1.1, (World.frozen?_of_block (w := w) hb).trans h.1.2⟩, (World.cell?_of_block (w := w) hb).trans h.2.1, (World.frozen?_of_block (w := w) hb).trans h.2.2⟩

theorem oneM_made (W : World) : OneM (W.alloc zeMa) W.heap.size := ⟨⟨by go_simp, by go_simp⟩, by go_simp, by go_simp⟩

theorem oneM_lt {W w6 : World} (hb : Below (W.alloc zeMa).heap.size (W.alloc zeMa) w6) : W.heap.size < w6.heap.size := by
  have h := hb.size
  simp at h
  omega

theorem oneM_new {W w6 : World} (hb : Below (W.alloc zeMa).heap.size (W.alloc zeMa) w6) : OneM w6 W.heap.size := (oneM_made W).kept (hb.block _ (by simp))

theorem oneM_below {W w6 : World} (hb : Below (W.alloc zeMa).heap.size (W.alloc zeMa) w6) : Below W.heap.size W w6 :=
  ((Below.refl _ W).alloc (Nat.le_refl _) zeMa).trans (hb.mono (by simp))

theorem oneM_drew {W w6 : World} (hb : Below (W.alloc zeMa).drew.heap.size (W.alloc zeMa).drew w6) : Below (W.alloc zeMa).heap.size (W.alloc zeMa) w6 :=
  (Below.refl _ (W.alloc zeMa)).drew.trans (hb.mono (Nat.le_refl _))

/-- the variable's block is zb; it holds the machine -/
def KCutM (M : List (List Int)) (E : List Bool) (U : World) (s : Value) (wx : World) : Prop :=
  ∃ (zb : Nat) (aw : Option Addr) (cw : Nat) (bw : Option Addr) (dw : Nat), s = .pointer (some ⟨zb, 0, none⟩) ∧ (wx.cell? ⟨zb, 0, none⟩ = some (.slice aw M.length cw) ∧ wx.cell? ⟨zb, 1, none⟩ = some (.slice bw E.length dw)) ∧ MaIn wx (.slice aw M.length cw) (.slice bw E.length dw) M E ∧ zb < wx.heap.size ∧ Below U.heap.size U wx

theorem kcutM_A {M : List (List Int)} {E : List Bool} {U wC : World} {zb B : Nat} {aC bC : Option Addr} {cC dC : Nat} {us : List Value} (h : Below U.heap.size U wC) (hge : U.heap.size ≤ zb) (hlt : zb < B) (hB : B ≤ wC.heap.size) (ho : MaOwn wC B (.slice aC M.length cC) (.slice bC E.length dC) M E us) (hc : OneM wC zb) :
    KCutM M E U (.pointer (some ⟨zb, 0, none⟩)) ((wC.setCell ⟨zb, 0, none⟩ (.slice aC M.length cC)).setCell ⟨zb, 1, none⟩ (.slice bC E.length dC)) := by
  refine ⟨zb, aC, cC, bC, dC, rfl, ⟨?_, ?_⟩, ((ho.setCell (a := ⟨zb, 0, none⟩) hlt _).setCell (a := ⟨zb, 1, none⟩) hlt _).mat, by simp; omega, (h.setCell (p := ⟨zb, 0, none⟩) hge _).setCell (p := ⟨zb, 1, none⟩) hge _⟩
  · rw [World.cell?_setCell_other _ _ _ _ (by simp)]
    exact World.cell?_setCell_same _ _ _ hc.1.1
  · exact World.cell?_setCell_same _ _ _ (by rw [World.cell?_setCell_other _ _ _ _ (by simp)]; exact hc.2.1)

theorem kcutM_B {M : List (List Int)} {E : List Bool} {U wC : World} {B : Nat} {aC bC : Option Addr} {cC dC : Nat} {us : List Value} (h : Below U.heap.size U wC) (ho : MaOwn wC B (.slice aC M.length cC) (.slice bC E.length dC) M E us) :
    KCutM M E U (.pointer (some ⟨wC.heap.size, 0, none⟩)) (wC.alloc (.cells #[.slice aC M.length cC, .slice bC E.length dC] 28)) :=
  ⟨wC.heap.size, aC, cC, bC, dC, rfl, ⟨by go_simp, by go_simp⟩, (ho.mat).below ((Below.refl _ wC).alloc (Nat.le_refl _) _), by simp, h.alloc h.size _⟩

end Go.Proofs.Ytkkofblgjilopaa
