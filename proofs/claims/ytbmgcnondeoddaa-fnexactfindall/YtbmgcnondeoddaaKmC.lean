/- The program's holding of a text against p: isAlike, take; haveBytes. -/
import Derived.Test.YtbmgcnondeoddaaKmA
import Derived.Test.YtbmgcnondeoddaaToM
import Derived.Test.YtbmgcnondeoddaaMarkI
import Derived.Lib.BufferOwn
import Derived.Lib.OthersKept
import Derived.Deep.DeepCutAuto
namespace Go.Proofs.Ytbmgcnondeoddaa
open Go.RowKit Plain Tpc Kmp

/-- a holding at block h: p, the borders, how much of p stands there, the looks -/
structure Hol (w : World) (h : Nat) (p : ByteArray) (vb : Value) (k l : Nat) : Prop where
  lt : h < w.heap.size
  c0 : w.cell? ⟨h, 0, none⟩ = some (.string p)
  c1 : w.cell? ⟨h, 1, none⟩ = some vb
  c2 : w.cell? ⟨h, 2, none⟩ = some (.int .i64 (k : Int))
  c3 : w.cell? ⟨h, 3, none⟩ = some (.int .i64 (l : Int))
  f1 : w.frozen? ⟨h, 1, none⟩ = false
  f2 : w.frozen? ⟨h, 2, none⟩ = false
  f3 : w.frozen? ⟨h, 3, none⟩ = false

theorem Hol.setK {w : World} {h : Nat} {p : ByteArray} {vb : Value} {k l : Nat} (H : Hol w h p vb k l) (k' : Nat) : Hol (w.setCell ⟨h, 2, none⟩ (.int .i64 (k' : Int))) h p vb k' l := by
  refine ⟨by simpa using H.lt, ?_, ?_, World.cell?_setCell_same _ _ _ H.c2, ?_, by rw [World.frozen?_setCell]; exact H.f1, by rw [World.frozen?_setCell]; exact H.f2, by rw [World.frozen?_setCell]; exact H.f3⟩
  · rw [World.cell?_setCell_other _ _ _ _ (by simp)]; exact H.c0
  · rw [World.cell?_setCell_other _ _ _ _ (by simp)]; exact H.c1
  · rw [World.cell?_setCell_other _ _ _ _ (by simp)]; exact H.c3

theorem Hol.setL {w : World} {h : Nat} {p : ByteArray} {vb : Value} {k l : Nat} (H : Hol w h p vb k l) (l' : Nat) : Hol (w.setCell ⟨h, 3, none⟩ (.int .i64 (l' : Int))) h p vb k l' := by
  refine ⟨by simpa using H.lt, ?_, ?_, ?_, World.cell?_setCell_same _ _ _ H.c3, by rw [World.frozen?_setCell]; exact H.f1, by rw [World.frozen?_setCell]; exact H.f2, by rw [World.frozen?_setCell]; exact H.f3⟩
  · rw [World.cell?_setCell_other _ _ _ _ (by simp)]; exact H.c0
  · rw [World.cell?_setCell_other _ _ _ _ (by simp)]; exact H.c1
  · rw [World.cell?_setCell_other _ _ _ _ (by simp)]; exact H.c2

theorem Hol.grown {w w' : World} {h : Nat} {p : ByteArray} {vb : Value} {k l : Nat} {row : Option Nat} (H : Hol w h p vb k l) (hg : w.grownBy w' row) (hne : some h ≠ row) : Hol w' h p vb k l := by
  have hb := hg.block h H.lt hne
  refine ⟨Nat.lt_of_lt_of_le H.lt hg.size, ?_, ?_, ?_, ?_, ?_, ?_, ?_⟩
  · exact (World.cell?_of_block hb).trans H.c0
  · exact (World.cell?_of_block hb).trans H.c1
  · exact (World.cell?_of_block hb).trans H.c2
  · exact (World.cell?_of_block hb).trans H.c3
  · exact (World.frozen?_of_block hb).trans H.f1
  · exact (World.frozen?_of_block hb).trans H.f2
  · exact (World.frozen?_of_block hb).trans H.f3

theorem Hol.below {w w' : World} {h : Nat} {p : ByteArray} {vb : Value} {k l : Nat} (H : Hol w h p vb k l) (hb : Below w.heap.size w w') : Hol w' h p vb k l :=
  H.grown (row := none) ⟨hb.os, hb.tape, hb.output, hb.size, fun k hk _ => hb.block k hk⟩ (by simp)

theorem Hol.drew {w : World} {h n : Nat} {p : ByteArray} {vb : Value} {k l : Nat} (H : Hol w h p vb k l) : Hol (w.drewN n) h p vb k l := ⟨H.lt, H.c0, H.c1, H.c2, H.c3, H.f1, H.f2, H.f3⟩

theorem grow_drewN {w w' : World} {n : Nat} {row : Option Nat} (h : w.grownBy w' row) : w.grownBy (w'.drewN n) row := ⟨h.os, h.tape, h.output, h.size, h.block⟩

theorem grow_self (w : World) (row : Option Nat) : w.grownBy w row := ⟨rfl, rfl, rfl, Nat.le_refl _, fun _ _ _ => rfl⟩

/-- a row of ints of the call's own -/
def NRow (w : World) (B : Nat) (v : Value) (l : List Nat) : Prop := w.ownsRow B 3 1 v l.length (ints l)

theorem NRow.grown {w w' : World} {B : Nat} {v : Value} {l : List Nat} {row : Option Nat} (h : NRow w B v l) (hg : w.grownBy w' row) (hne : ∀ g, v.ownBlock = some g → some g ≠ row) : NRow w' B v l := by
  have hlt := World.ownsRow.lt h
  refine ⟨h.1, ?_⟩
  rcases h.2 with hn | ⟨g, cap, cur, hv, hgB, hgg, rest⟩
  · exact .inl hn
  · refine .inr ⟨g, cap, cur, hv, hgB, (hg.block g (hlt g (by rw [hv]; rfl)).2 (hne g (by rw [hv]; rfl))).trans hgg, rest⟩

theorem NRow.lower {w : World} {B B' : Nat} {v : Value} {l : List Nat} (h : NRow w B v l) (hB : B' ≤ B) : NRow w B' v l := by
  refine ⟨h.1, ?_⟩
  rcases h.2 with hn | ⟨g, cap, cur, hv, hg, rest⟩
  · exact .inl hn
  · exact .inr ⟨g, cap, cur, hv, by omega, rest⟩

theorem NRow.below {w w' : World} {B : Nat} {v : Value} {l : List Nat} (h : NRow w B v l) (hb : Below w.heap.size w w') : NRow w' B v l := by
  refine ⟨h.1, ?_⟩
  rcases h.2 with hn | ⟨g, cap, cur, hv, hg, hgg, rest⟩
  · exact .inl hn
  · exact .inr ⟨g, cap, cur, hv, hg, (hb.block g (Array.getElem?_eq_some_iff.1 hgg).1).trans hgg, rest⟩

theorem NRow.slice {w : World} {B : Nat} {v : Value} {l : List Nat} (h : NRow w B v l) : ∃ ao cap, v = Value.slice ao l.length cap ∧ cap ≤ maxLen := by
  rcases h.2 with ⟨rfl, h0⟩ | ⟨g, cap, _, rfl, _, _, _, hc, _⟩
  · exact ⟨none, 0, by rw [h0], by unfold maxLen; omega⟩
  · exact ⟨_, _, rfl, hc⟩

/-- one cell of such a row -/
theorem NRow.cell {w : World} {B : Nat} {v : Value} {l : List Nat} (h : NRow w B v l) {i : Nat} (hi : i < l.length) : ∃ g cap, v = Value.slice (some ⟨g, 0, none⟩) l.length cap ∧ g < w.heap.size ∧ w.cell? ⟨g, i, none⟩ = some (.int .i64 ((l.getD i 0 : Nat) : Int)) ∧ l.length ≤ cap ∧ cap ≤ maxLen := by
  have h0 := h
  obtain ⟨_, ⟨rfl, hn⟩ | ⟨g, cap, cur, rfl, hB, hb, hnc, hcm, _⟩⟩ := h
  · omega
  · refine ⟨g, cap, rfl, (World.ownsRow.lt h0 g rfl).2, ?_, hnc, hcm⟩
    have := World.ownsRow.cellAt h0 i (by omega)
    rw [this, List.getD_eq_getElem?_getD]
    simp [ints, List.getElem?_eq_getElem hi]

theorem NRow.snoc {w : World} {B : Nat} {v : Value} {l : List Nat} {x n : Nat} {xs : List Value} (h : w.ownsRow B 3 1 v n xs) (hn : n = l.length + 1) (hx : xs = ints l ++ [.int .i64 (x : Int)]) : NRow w B v (l ++ [x]) := by
  unfold NRow
  subst hn hx
  rw [List.length_append, List.length_singleton]
  simpa [ints] using h

set_option maxRecDepth 100000 in
set_option maxHeartbeats 4000000 in
theorem isAlike_any (h k l b : Nat) (p : ByteArray) (vb : Value) (w : World) (H : Hol w h p vb k l) (hk : k < p.size) (hl : l ≤ 1000000000) :
    Calls Try.prog 69 #[.pointer (some ⟨h, 0, none⟩), .int .u8 (b : Int)] w fun e w' => e = .returned (.bool (decide (bt p k = b))) ∧ Hol w' h p vb k (l + 1) ∧ w.grownBy w' (some h) := by
  have H9 := H.setL (l + 1)
  have G9 : w.grownBy (w.setCell ⟨h, 3, none⟩ (.int .i64 ((l + 1 : Nat) : Int))) (some h) := Lib.grownBy_setCell w h 3 _
  have hbt := bt_get p k hk
  have hlt := bt_lt p k
  have hk' : (k : Int) < (p.size : Int) := by omega
  have hR : Hid (((b : Int) == ((bt p k : Nat) : Int)) = decide (bt p k = b)) := by
    show _ = _
    rw [Bool.eq_iff_iff]; simp; omega
  generalize decide (bt p k = b) = R at hR
  obtain ⟨h0, c0, c1, c2, c3, f1, f2, f3⟩ := H
  obtain ⟨W, hW⟩ : ∃ W, W = w.setCell ⟨h, 3, none⟩ (.int .i64 ((l : Int) + 1)) := ⟨_, rfl⟩
  rw [show ((l + 1 : Nat) : Int) = (l : Int) + 1 by omega, ← hW] at H9 G9
  have HH : Hid (Hol W h p vb k (l + 1)) := H9
  obtain ⟨_, d0, d1, d2, d3, _, _, _⟩ := H9
  go_enter Try.func69, Try.ntmps69
  go_upto_region 2 with (fail)
  rw [← hW]
  go_quiet (fail)
  go_wp2
  go_ret
  exact ⟨by rw [← hR.out]; rfl, HH.out.drew, grow_drewN G9⟩

end Go.Proofs.Ytbmgcnondeoddaa
