/- The law's own marks in schemas. The law's own looks at marks in schemas; four cells that stay. What a law's variable holds behind a call of two schemas, whichever way its block was made. -/
import Derived.Test.YtpajdmhakdbkjaaGr
import Derived.Test.YtpajdmhakdbkjaaGq
import Derived.Test.YtpajdmhakdbkjaaGj
namespace Go.Proofs.Ytpajdmhakdbkjaa
open Go.RowKit Plain Sch

set_option maxRecDepth 100000 in
set_option maxHeartbeats 1000000 in
theorem markSchema_any (B n k : Nat) (v : Value) (xs : List Value) (w : World) (hown : w.ownsRow B 38 6 v n xs) (hn : n ≤ 2097152) (hk1 : 1 ≤ k) (hk2 : k ≤ 100000000) :
    Calls Try.prog 28 #[.agg #[v], .int .i64 k] w fun e w' => e = .returned (.int .i64 ((k + n * 6 : Nat) : Int)) ∧ (∃ ys, w'.ownsRow B 38 6 v n ys ∧ ∀ j, j < n * 6 → ys[j]? = some (mcT k j)) ∧ w.grownBy w' v.ownBlock := by
  obtain ⟨ar, capr, hrv⟩ : ∃ ao cap, v = Value.slice ao n cap := by
    rcases hown.2 with ⟨rfl, h0⟩ | ⟨g, cap, _, rfl, _⟩
    · exact ⟨none, 0, by rw [h0]⟩
    · exact ⟨_, _, rfl⟩
  subst hrv
  have HO : Hid (w.ownsRow B 38 6 (.slice ar n capr) n xs) := hown
  clear hown
  go_enter Try.func28, Try.ntmps28
  go_wp2_with fail
  refine (markT_any B n k _ _ _ (HO.out.alloc _) hn hk1 hk2).mono ?_
  rintro e w2 ⟨rfl, ⟨ys, hy1, hy2⟩, hb2⟩
  have HY : Hid (∃ ys, w2.ownsRow B 38 6 (.slice ar n capr) n ys ∧ ∀ j, j < n * 6 → ys[j]? = some (mcT k j)) := ⟨ys, hy1, hy2⟩
  clear hy1 hy2
  go_wp2
  go_ret
  exact ⟨rfl, HY.out, Lib.grownBy_trans (grow_belowT ((Below.refl _ w).alloc (Nat.le_refl _) _)) hb2⟩

end Go.Proofs.Ytpajdmhakdbkjaa

namespace Go.Proofs.Ytpajdmhakdbkjaa
open Go.RowKit Plain Sch

theorem far_cell {w w' : World} {row : Option Nat} (hg : w.grownBy w' row) {b : Nat} {x : Value} (h : w.cell? ⟨b, 0, none⟩ = some x) (hb : b < w.heap.size) (hne : some b ≠ row) : w'.cell? ⟨b, 0, none⟩ = some x := (hg.cell_far ⟨b, 0, none⟩ hb hne).trans h

theorem TyRow.far {w w' : World} {B : Nat} {v : Value} {L : List Ty} {row : Option Nat} (h : TyRow w B v L) (hg : w.grownBy w' row) (hne : ∀ g, v.ownBlock = some g → some g ≠ row) : TyRow w' B v L := by
  have hlt := h.lt
  refine ⟨h.1, ?_⟩
  rcases h.2 with hn | ⟨g, cap, cur, hv, hgB, hgg, rest⟩
  · exact .inl hn
  · refine .inr ⟨g, cap, cur, hv, hgB, (hg.block g (hlt g (by rw [hv]; rfl)).2 (hne g (by rw [hv]; rfl))).trans hgg, rest⟩

end Go.Proofs.Ytpajdmhakdbkjaa

namespace Go.Proofs.Ytpajdmhakdbkjaa
open Go.RowKit Plain Sch

abbrev zeS : Obj := .cells #[.slice none 0 0] 25

def One (w : World) (b : Nat) : Prop := w.cell? ⟨b, 0, none⟩ = some (.slice none 0 0) ∧ w.frozen? ⟨b, 0, none⟩ = false

theorem One.kept {w w' : World} {b : Nat} (h : One w b) (hb : w'.heap[b]? = w.heap[b]?) : One w' b :=
  ⟨(World.cell?_of_block (w := w) hb).trans h.1, (World.frozen?_of_block (w := w) hb).trans h.2⟩

theorem one_made (W : World) : One (W.alloc zeS) W.heap.size := ⟨by go_simp, by go_simp⟩

theorem one_lt {W w6 : World} (hb : Below (W.alloc zeS).heap.size (W.alloc zeS) w6) : W.heap.size < w6.heap.size := by
  have h := hb.size
  simp at h
  omega

theorem one_new {W w6 : World} (hb : Below (W.alloc zeS).heap.size (W.alloc zeS) w6) : One w6 W.heap.size := (one_made W).kept (hb.block _ (by simp))

theorem one_below {W w6 : World} (hb : Below (W.alloc zeS).heap.size (W.alloc zeS) w6) : Below W.heap.size W w6 :=
  ((Below.refl _ W).alloc (Nat.le_refl _) zeS).trans (hb.mono (by simp))

theorem one_drew {W w6 : World} (hb : Below (W.alloc zeS).drew.heap.size (W.alloc zeS).drew w6) : Below (W.alloc zeS).heap.size (W.alloc zeS) w6 :=
  (Below.refl _ (W.alloc zeS)).drew.trans (hb.mono (Nat.le_refl _))

/-- the variable's block is zb; it holds F -/
def KCut (F : List Ty) (U : World) (s : Value) (wx : World) : Prop :=
  ∃ (zb : Nat) (aw : Option Addr) (cw : Nat), s = .pointer (some ⟨zb, 0, none⟩) ∧ wx.cell? ⟨zb, 0, none⟩ = some (.slice aw F.length cw) ∧ TysAt wx wx.heap.size (.slice aw F.length cw) F ∧ zb < wx.heap.size ∧ Below U.heap.size U wx

theorem kcut_A {F : List Ty} {U wC : World} {zb B : Nat} {aC : Option Addr} {cC : Nat} (h : Below U.heap.size U wC) (hge : U.heap.size ≤ zb) (hlt : zb < B) (hB : B ≤ wC.heap.size) (ho : TyRow wC B (.slice aC F.length cC) F) (hN : ∀ x ∈ F, x.name.size ≤ 10) (hc : One wC zb) :
    KCut F U (.pointer (some ⟨zb, 0, none⟩)) (wC.setCell ⟨zb, 0, none⟩ (.slice aC F.length cC)) :=
  ⟨zb, aC, cC, rfl, World.cell?_setCell_same _ _ _ hc.1, (TyRow.setCell ho (a := ⟨zb, 0, none⟩) hlt _).at hN, by simp; omega, h.setCell (p := ⟨zb, 0, none⟩) hge _⟩

theorem kcut_B {F : List Ty} {U wC : World} {B : Nat} {aC : Option Addr} {cC : Nat} (h : Below U.heap.size U wC) (ho : TyRow wC B (.slice aC F.length cC) F) (hN : ∀ x ∈ F, x.name.size ≤ 10) :
    KCut F U (.pointer (some ⟨wC.heap.size, 0, none⟩)) (wC.alloc (.cells #[.slice aC F.length cC] 25)) :=
  ⟨wC.heap.size, aC, cC, rfl, by go_simp, (ho.at hN).below ((Below.refl _ wC).alloc (Nat.le_refl _) _), by simp, h.alloc h.size _⟩

end Go.Proofs.Ytpajdmhakdbkjaa
