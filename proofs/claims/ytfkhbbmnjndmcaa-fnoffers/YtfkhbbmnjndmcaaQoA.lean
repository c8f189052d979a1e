/- What a drawn queue is made of: a queue in a variable beside a cursor. -/
import Derived.Test.YtfkhbbmnjndmcaaQtP
import Derived.Test.YtfkhbbmnjndmcaaQtC
import Derived.Test.YtfkhbbmnjndmcaaQpB
import Derived.Deep.RegionHeld3
namespace Go.Proofs.Ytfkhbbmnjndmcaa
open Go.RowKit Plain Qus
open Mch (en)

theorem plQ_small (c r : Int) (l : List Bool) : (plQ c r l).wt.length ≤ 100 ∧ (plQ c r l).hd.length ≤ 100 ∧ (plQ c r l).dr.length ≤ 100 ∧ 0 ≤ (plQ c r l).next ∧ (plQ c r l).next ≤ 100 := by
  cases h : okP c r l with
  | false => rw [(okP_no h).1]; exact ⟨by decide, by decide, by decide, by decide, by decide⟩
  | true =>
    have P := play_law h
    exact ⟨P.small.1, P.small.2.1, P.small.2.2, P.next.1, P.next.2⟩

/-- a queue in a variable beside a cursor -/
structure DqI (w W : World) (b m N : Nat) (q : Qu) (v1 v2 v3 : Value) : Prop where
  c : Cur W b m
  g : w.grownBy W (some b)
  r : QuRow W (w.heap.size + 1) q v1 v2 v3
  rn : ∀ g, P3 v1 v2 v3 g → g ≠ N
  x : Sv W N (.int .i64 q.cap) (.int .i64 q.rule) (.int .i64 q.next) v1 v2 v3
  v : Sv W w.heap.size (.int .i64 0) (.int .i64 0) (.int .i64 0) (.slice none 0 0) (.slice none 0 0) (.slice none 0 0)
  s : w.heap.size < N
  bl : b < w.heap.size

theorem DqI.below {w W W' : World} {b m N : Nat} {q : Qu} {v1 v2 v3 : Value} (h : DqI w W b m N q v1 v2 v3) (hb : Below W.heap.size W W') : DqI w W' b m N q v1 v2 v3 := by
  have hl := h.c.lt
  exact ⟨h.c.below (hb.mono (by omega)), Lib.grownBy_trans h.g ⟨hb.os, hb.tape, hb.output, hb.size, fun i hi _ => hb.block i hi⟩, h.r.below hb, h.rn, h.x.below hb, h.v.below hb, h.s, h.bl⟩

theorem DqI.pick {w W W' : World} {b m m' N : Nat} {q : Qu} {v1 v2 v3 : Value} (h : DqI w W b m N q v1 v2 v3) (hc : Cur W' b m') (hg : W.grownBy W' (some b)) : DqI w W' b m' N q v1 v2 v3 := by
  have hs := h.s
  have hb := h.bl
  have hx := h.x.low
  have hlow := h.r.ownIn
  have hne : ∀ g, P3 v1 v2 v3 g → (some b : Option Nat) ≠ some g := fun g hg' e => by have := hlow g hg'; simp at e; omega
  exact ⟨hc, Lib.grownBy_trans h.g hg, ⟨own_asideQ h.r.a hg (fun g e => hne g (.inl e)), own_asideQ h.r.b hg (fun g e => hne g (.inr (.inl e))), own_asideQ h.r.c hg (fun g e => hne g (.inr (.inr e))), h.r.ab, h.r.ac, h.r.bc⟩, h.rn, h.x.kept (hg.block N hx (by simp; omega)) hg.size, h.v.kept (hg.block _ (by omega) (by simp; omega)) hg.size, hs, hb⟩

theorem DqI.put {w W : World} {b m N k : Nat} {q : Qu} {v1 v2 v3 : Value} (h : DqI w W b m N q v1 v2 v3) (u : Value) (q' : Qu) (hq : q'.wt = q.wt ∧ q'.hd = q.hd ∧ q'.dr = q.dr)
    (hx : Sv (W.setCell ⟨N, k, none⟩ u) N (.int .i64 q'.cap) (.int .i64 q'.rule) (.int .i64 q'.next) v1 v2 v3) : DqI w (W.setCell ⟨N, k, none⟩ u) b m N q' v1 v2 v3 := by
  have hs := h.s
  have hb := h.bl
  have hg := h.g
  have hr := h.r.setN N k u h.rn
  obtain ⟨e1, e2, e3⟩ := hq
  refine ⟨h.c.grown (Lib.grownBy_setCell _ N k _) (fun j hj => by simp at hj; omega), ⟨hg.os, hg.tape, hg.output, by simp; exact hg.size, fun j hj hne => ?_⟩, ⟨by rw [e1]; exact hr.a, by rw [e2]; exact hr.b, by rw [e3]; exact hr.c, hr.ab, hr.ac, hr.bc⟩, h.rn, hx, h.v.apart (by omega), hs, hb⟩
  rw [Below.heap_setCell _ _ _ _ (by show j ≠ N; omega)]
  exact hg.block j hj hne

theorem DqI.tell {w W w9 : World} {b m N g9 cap9 : Nat} {y : Int} {q : Qu} {v1 v2 v3 : Value} {o : Obj} (h : DqI w W b m N q v1 v2 v3)
    (hown9 : w9.ownsRow (w.heap.size + 1) 3 1 (.slice (some ⟨g9, 0, none⟩) (q.wt.length + 1) cap9) (q.wt.length + 1) (zints q.wt ++ [.int .i64 y])) (hgrow9 : (W.alloc o).grownBy w9 v1.ownBlock) (hat9 : v1.ownBlock = some g9 ∨ g9 = W.heap.size + 1) :
    (∀ u, Sv (w9.setCell ⟨N, 3, none⟩ u) N (.int .i64 q.cap) (.int .i64 q.rule) (.int .i64 q.next) u v2 v3) ∧ w9.cell? ⟨N, 3, none⟩ = some v1 ∧ w9.frozen? ⟨N, 3, none⟩ = false ∧
    DqI w (w9.setCell ⟨N, 3, none⟩ (.slice (some ⟨g9, 0, none⟩) (q.wt.length + 1) cap9)) b m N ⟨q.cap, q.rule, q.next, q.wt ++ [y], q.hd, q.dr⟩ (.slice (some ⟨g9, 0, none⟩) (q.wt.length + 1) cap9) v2 v3 := by
  have hbo : Below W.heap.size W (W.alloc o) := (Below.refl _ W).alloc (Nat.le_refl _) o
  have h1 := h.below hbo
  have hs := h.s
  have hb := h.bl
  have hx0 := h.x.low
  have hlt := World.ownsRow.lt h.r.a
  have hlow := h.r.ownIn
  have hso : (W.alloc o).heap.size = W.heap.size + 1 := by simp
  have hgs := hgrow9.size
  have hneN : some N ≠ v1.ownBlock := fun e => h.rn N (.inl e.symm) rfl
  have hneR : some w.heap.size ≠ v1.ownBlock := fun e => by have := (hlt _ e.symm).1; omega
  have x9 := h1.x.kept (hgrow9.block _ (by omega) hneN) hgs
  have v9 := h1.v.kept (hgrow9.block _ (by omega) hneR) hgs
  have c9 : Cur w9 b m := h1.c.grown hgrow9 (fun k hk => by have := (hlt k hk).1; omega)
  have r2 := own_asideQ h1.r.b hgrow9 (fun g hg e => h.r.ab g e hg)
  have r3 := own_asideQ h1.r.c hgrow9 (fun g hg e => h.r.ac g e hg)
  have g9n : ∀ g, (v2.ownBlock = some g ∨ v3.ownBlock = some g) → g ≠ g9 := fun g hg e => by
    subst e
    rcases hat9 with e2 | e2
    · rcases hg with hg | hg
      · exact h.r.ab _ e2 hg
      · exact h.r.ac _ e2 hg
    · have : g < W.heap.size := by
        rcases hg with hg | hg
        · exact (hlow g (.inr (.inl hg))).2
        · exact (hlow g (.inr (.inr hg))).2
      omega
  have g9N : g9 ≠ N := fun e => by
    subst e
    rcases hat9 with e2 | e2
    · exact hneN e2.symm
    · omega
  have hrow : QuRow w9 (w.heap.size + 1) ⟨q.cap, q.rule, q.next, q.wt ++ [y], q.hd, q.dr⟩ (.slice (some ⟨g9, 0, none⟩) (q.wt.length + 1) cap9) v2 v3 := by
    refine ⟨ZRow.snocQ hown9, r2, r3, fun g e e2 => ?_, fun g e e2 => ?_, h.r.bc⟩
    · simp [Value.ownBlock] at e
      exact g9n g (.inl e2) e.symm
    · simp [Value.ownBlock] at e
      exact g9n g (.inr e2) e.symm
  have rn9 : ∀ g, P3 (.slice (some ⟨g9, 0, none⟩) (q.wt.length + 1) cap9) v2 v3 g → g ≠ N := fun g hg => by
    rcases hg with hg | hg | hg
    · simp [Value.ownBlock] at hg
      omega
    · exact h.rn g (.inr (.inl hg))
    · exact h.rn g (.inr (.inr hg))
  have hg := h1.g
  have hgw : w.grownBy w9 (some b) := ⟨hgrow9.os.trans hg.os, hgrow9.tape.trans hg.tape, hgrow9.output.trans hg.output, Nat.le_trans hg.size hgrow9.size, fun i hi hne => (hgrow9.block i (by have := hg.size; omega) (fun e => by have := (hlt i e.symm).1; omega)).trans (hg.block i hi hne)⟩
  have hr := hrow.setN N 3 (.slice (some ⟨g9, 0, none⟩) (q.wt.length + 1) cap9) rn9
  refine ⟨fun u => x9.set3 u, x9.c3, x9.f3, c9.grown (Lib.grownBy_setCell _ N 3 _) (fun j hj => by simp at hj; omega), ⟨hgw.os, hgw.tape, hgw.output, by simp; exact hgw.size, fun j hj hne => ?_⟩, hr, rn9, x9.set3 _, v9.apart (by omega), hs, hb⟩
  rw [Below.heap_setCell _ _ _ _ (by show j ≠ N; omega)]
  exact hgw.block j hj hne

/-- a drawn queue, as an answer -/
def DqO (b m : Nat) (w w' : World) (e : Ending) : Prop := ∃ (q : Qu) (v1 v2 v3 : Value), e = .returned (q.val v1 v2 v3) ∧ QuRow w' w.heap.size q v1 v2 v3 ∧ (q.wt.length ≤ 1000 ∧ q.hd.length ≤ 1000 ∧ q.dr.length ≤ 1000 ∧ 0 ≤ q.next ∧ q.next ≤ 1000) ∧ Cur w' b m ∧ w.grownBy w' (some b)

theorem DqI.fin {w W : World} {b m N : Nat} {q : Qu} {v1 v2 v3 x0 x1 x2 x3 x4 x5 : Value} (h : DqI w W b m N q v1 v2 v3) {m' : Nat} (hm : m ≤ m') (hq : q.wt.length ≤ 1000 ∧ q.hd.length ≤ 1000 ∧ q.dr.length ≤ 1000 ∧ 0 ≤ q.next ∧ q.next ≤ 1000) :
    DqO b m' w ((((((W.setCell ⟨w.heap.size, 0, none⟩ x0).setCell ⟨w.heap.size, 1, none⟩ x1).setCell ⟨w.heap.size, 2, none⟩ x2).setCell ⟨w.heap.size, 3, none⟩ x3).setCell ⟨w.heap.size, 4, none⟩ x4).setCell ⟨w.heap.size, 5, none⟩ x5) (.returned (q.val v1 v2 v3)) := by
  have hb := h.bl
  have hg := h.g
  have key : ∀ (W : World) (k : Nat) (u : Value), Cur W b m' → w.grownBy W (some b) → Cur (W.setCell ⟨w.heap.size, k, none⟩ u) b m' ∧ w.grownBy (W.setCell ⟨w.heap.size, k, none⟩ u) (some b) := fun W k u hc hg => by
    refine ⟨hc.grown (Lib.grownBy_setCell _ w.heap.size k _) (fun j hj => by simp at hj; omega), hg.os, hg.tape, hg.output, by simp; exact hg.size, fun j hj hne => ?_⟩
    rw [Below.heap_setCell _ _ _ _ (by show j ≠ w.heap.size; omega)]
    exact hg.block j hj hne
  obtain ⟨c1, g1⟩ := key W 0 x0 (h.c.le hm) hg
  obtain ⟨c2, g2⟩ := key _ 1 x1 c1 g1
  obtain ⟨c3, g3⟩ := key _ 2 x2 c2 g2
  obtain ⟨c4, g4⟩ := key _ 3 x3 c3 g3
  obtain ⟨c5, g5⟩ := key _ 4 x4 c4 g4
  obtain ⟨c6, g6⟩ := key _ 5 x5 c5 g5
  exact ⟨q, v1, v2, v3, rfl, (h.r.set6 (by omega)).lower (by omega), hq, c6, g6⟩

end Go.Proofs.Ytfkhbbmnjndmcaa
