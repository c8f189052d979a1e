/- The law's own marks in filters; what a law's variable of a filter holds. -/
import Derived.Test.YtpopjapcgcnnfaaMarkWa
import Derived.Test.YtpopjapcgcnnfaaFwA
import Derived.Test.YtpopjapcgcnnfaaFwB
import Derived.Test.YtpopjapcgcnnfaaWfG
namespace Go.Proofs.Ytpopjapcgcnnfaa
open Go.RowKit Plain Sch Wan

theorem ownSliceF {w : World} {B e size n : Nat} {v : Value} {xs : List Value} (h : w.ownsRow B e size v n xs) : ∃ ao cap, v = Value.slice ao n cap ∧ n ≤ cap ∧ cap ≤ maxLen := by
  rcases h.2 with ⟨rfl, rfl⟩ | ⟨g, cap, cur, rfl, _, _, h1, h2, _⟩
  · exact ⟨none, 0, rfl, by omega, by unfold maxLen; omega⟩
  · exact ⟨_, _, rfl, h1, h2⟩

theorem WRow.at {w : World} {B : Nat} {v : Value} {L : List Wa} (h : WRow w B v L) (hn : ∀ x ∈ L, x.text.size ≤ 30) : WasAt w w.heap.size v L := by
  refine WasAt.own h (fun i hi => ?_)
  have : wa L i ∈ L := by
    unfold wa
    rw [List.getD, List.getElem?_eq_getElem hi]
    exact List.getElem_mem hi
  have := hn _ this
  unfold maxLen
  omega

theorem WRow.setCell {w : World} {B : Nat} {v : Value} {L : List Wa} (h : WRow w B v L) {a : Addr} (ha : a.block < B) (u : Value) : WRow (w.setCell a u) B v L := ownsRow_setCell_below h ha u

set_option maxRecDepth 100000 in
set_option maxHeartbeats 1000000 in
theorem markFilter_any (B n k : Nat) (v : Value) (xs : List Value) (w : World) (hown : w.ownsRow B 97 6 v n xs) (hn : n ≤ 2097152) (hk1 : 1 ≤ k) (hk2 : k ≤ 100000000) :
    Calls Try.prog 25 #[.agg #[v], .int .i64 k] w fun e w' => e = .returned (.int .i64 ((k + n * 6 : Nat) : Int)) ∧ (∃ ys, w'.ownsRow B 97 6 v n ys ∧ ∀ j, j < n * 6 → ys[j]? = some (mcWa k j)) ∧ w.grownBy w' v.ownBlock := by
  obtain ⟨ar, capr, hrv⟩ : ∃ ao cap, v = Value.slice ao n cap := by
    rcases hown.2 with ⟨rfl, h0⟩ | ⟨g, cap, _, rfl, _⟩
    · exact ⟨none, 0, by rw [h0]⟩
    · exact ⟨_, _, rfl⟩
  subst hrv
  have HO : Hid (w.ownsRow B 97 6 (.slice ar n capr) n xs) := hown
  clear hown
  go_enter Try.func25, Try.ntmps25
  go_wp2_with fail
  refine (markWa_any B n k _ _ _ (HO.out.alloc _) hn hk1 hk2).mono ?_
  rintro e w2 ⟨rfl, ⟨ys, hy1, hy2⟩, hb2⟩
  have HY : Hid (∃ ys, w2.ownsRow B 97 6 (.slice ar n capr) n ys ∧ ∀ j, j < n * 6 → ys[j]? = some (mcWa k j)) := ⟨ys, hy1, hy2⟩
  clear hy1 hy2
  go_wp2
  go_ret
  exact ⟨rfl, HY.out, Lib.grownBy_trans (grow_belowWa ((Below.refl _ w).alloc (Nat.le_refl _) _)) hb2⟩

set_option maxRecDepth 100000 in
set_option maxHeartbeats 1000000 in
theorem heldFilter_any (n k : Nat) (v : Value) (w : World) (h : MarksAtWa w w.heap.size v n k) (hn : n ≤ 2097152) (hk1 : 1 ≤ k) (hk2 : k ≤ 100000000) :
    Calls Try.prog 39 #[.agg #[v], .int .i64 k] w fun e w' => e = .returned (.int .i64 ((k + n * 6 : Nat) : Int)) ∧ Below w.heap.size w w' := by
  have HM : Hid (MarksAtWa w w.heap.size v n k) := h
  obtain ⟨ar, capr, rfl, _⟩ := h
  have hB1 : Below w.heap.size w (w.alloc (.cells #[.slice ar n capr] 43)) := (Below.refl _ w).alloc (Nat.le_refl _) _
  have hge : (0 : Int) ≤ ((k + n * 6 : Nat) : Int) := by omega
  go_enter Try.func39, Try.ntmps39
  go_wp2_with fail
  refine (heldWa_any n k _ _ (HM.out.below hB1) hn hk1 hk2).mono ?_
  rintro e w2 ⟨rfl, hb2⟩
  have hB2 : Below w.heap.size w w2 := hB1.trans (hb2.mono (by simp))
  clear hb2
  go_wp2
  go_ret
  exact ⟨rfl, hB2⟩

theorem far_cellF {w w' : World} {row : Option Nat} (hg : w.grownBy w' row) {b : Nat} {x : Value} (h : w.cell? ⟨b, 0, none⟩ = some x) (hb : b < w.heap.size) (hne : some b ≠ row) : w'.cell? ⟨b, 0, none⟩ = some x := (hg.cell_far ⟨b, 0, none⟩ hb hne).trans h

theorem WRow.far {w w' : World} {B : Nat} {v : Value} {L : List Wa} {row : Option Nat} (h : WRow w B v L) (hg : w.grownBy w' row) (hne : ∀ g, v.ownBlock = some g → some g ≠ row) : WRow w' B v L := by
  have hlt := h.lt
  refine ⟨h.1, ?_⟩
  rcases h.2 with hn | ⟨g, cap, cur, hv, hgB, hgg, rest⟩
  · exact .inl hn
  · refine .inr ⟨g, cap, cur, hv, hgB, (hg.block g (hlt g (by rw [hv]; rfl)).2 (hne g (by rw [hv]; rfl))).trans hgg, rest⟩

abbrev zeF : Obj := .cells #[.slice none 0 0] 43

def OneF (w : World) (b : Nat) : Prop := w.cell? ⟨b, 0, none⟩ = some (.slice none 0 0) ∧ w.frozen? ⟨b, 0, none⟩ = false

theorem OneF.kept {w w' : World} {b : Nat} (h : OneF w b) (hb : w'.heap[b]? = w.heap[b]?) : OneF w' b :=
  ⟨(World.cell?_of_block (w := w) hb).trans h.1, (World.frozen?_of_block (w := w) hb).trans h.2⟩

theorem oneF_made (W : World) : OneF (W.alloc zeF) W.heap.size := ⟨by go_simp, by go_simp⟩

theorem oneF_lt {W w6 : World} (hb : Below (W.alloc zeF).heap.size (W.alloc zeF) w6) : W.heap.size < w6.heap.size := by
  have h := hb.size
  simp at h
  omega

theorem oneF_new {W w6 : World} (hb : Below (W.alloc zeF).heap.size (W.alloc zeF) w6) : OneF w6 W.heap.size := (oneF_made W).kept (hb.block _ (by simp))

theorem oneF_below {W w6 : World} (hb : Below (W.alloc zeF).heap.size (W.alloc zeF) w6) : Below W.heap.size W w6 :=
  ((Below.refl _ W).alloc (Nat.le_refl _) zeF).trans (hb.mono (by simp))

theorem oneF_drew {W w6 : World} (hb : Below (W.alloc zeF).drew.heap.size (W.alloc zeF).drew w6) : Below (W.alloc zeF).heap.size (W.alloc zeF) w6 :=
  (Below.refl _ (W.alloc zeF)).drew.trans (hb.mono (Nat.le_refl _))

/-- the variable's block is zb; it holds F -/
def KCutF (F : List Wa) (U : World) (s : Value) (wx : World) : Prop :=
  ∃ (zb : Nat) (aw : Option Addr) (cw : Nat), s = .pointer (some ⟨zb, 0, none⟩) ∧ wx.cell? ⟨zb, 0, none⟩ = some (.slice aw F.length cw) ∧ WasAt wx wx.heap.size (.slice aw F.length cw) F ∧ zb < wx.heap.size ∧ Below U.heap.size U wx

theorem kcutF_A {F : List Wa} {U wC : World} {zb B : Nat} {aC : Option Addr} {cC : Nat} (h : Below U.heap.size U wC) (hge : U.heap.size ≤ zb) (hlt : zb < B) (hB : B ≤ wC.heap.size) (ho : WRow wC B (.slice aC F.length cC) F) (hN : ∀ x ∈ F, x.text.size ≤ 30) (hc : OneF wC zb) :
    KCutF F U (.pointer (some ⟨zb, 0, none⟩)) (wC.setCell ⟨zb, 0, none⟩ (.slice aC F.length cC)) :=
  ⟨zb, aC, cC, rfl, World.cell?_setCell_same _ _ _ hc.1, (WRow.setCell ho (a := ⟨zb, 0, none⟩) hlt _).at hN, by simp; omega, h.setCell (p := ⟨zb, 0, none⟩) hge _⟩

theorem kcutF_B {F : List Wa} {U wC : World} {B : Nat} {aC : Option Addr} {cC : Nat} (h : Below U.heap.size U wC) (ho : WRow wC B (.slice aC F.length cC) F) (hN : ∀ x ∈ F, x.text.size ≤ 30) :
    KCutF F U (.pointer (some ⟨wC.heap.size, 0, none⟩)) (wC.alloc (.cells #[.slice aC F.length cC] 43)) :=
  ⟨wC.heap.size, aC, cC, rfl, by go_simp, (ho.at hN).below ((Below.refl _ wC).alloc (Nat.le_refl _) _), by simp, h.alloc h.size _⟩

end Go.Proofs.Ytpopjapcgcnnfaa
