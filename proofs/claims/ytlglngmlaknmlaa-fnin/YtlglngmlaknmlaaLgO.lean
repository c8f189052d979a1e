/- The program's ways up in memory: rows of stretches, one more put behind. -/
import Derived.Test.YtlglngmlaknmlaaLgT
import Derived.Test.YtlglngmlaknmlaaLgN
import Derived.Deep.AppendLies
import Derived.Deep.DeepCutAuto
import Derived.Deep.RegionHeld3
import Derived.Deep.DrawnRows
import Derived.Laws.OwnMore
import Derived.Deep.RegionLaw
namespace Go.Proofs.Ytlglngmlaknmlaa
open Go.RowKit Plain Lgs Tpc

def Lgs.As.cells (x : As) : List Value := [.int .i64 (x.fr : Int), .int .i64 (x.tt : Int), .bool x.ah]

theorem Try.infoAs : (Try.prog.info? 88).map (fun i => (i.zero, i.size, i.bytes)) = some (some (.agg #[.int .i64 0, .int .i64 0, .bool false]), 3, 24) := by kernel_rfl

/-- a row of stretches of the call's own -/
def AsRow (w : World) (B : Nat) (v : Value) (L : List As) : Prop := w.ownsRow B 88 3 v L.length (L.flatMap As.cells)

theorem AsRow.nil (w : World) (B : Nat) : AsRow w B (.slice none 0 0) [] := ⟨rfl, .inl ⟨rfl, rfl⟩⟩

theorem AsRow.slice {w : World} {B : Nat} {v : Value} {L : List As} (h : AsRow w B v L) : ∃ ao cap, v = Value.slice ao L.length cap ∧ L.length ≤ cap ∧ cap ≤ maxLen := by
  rcases h.2 with ⟨rfl, h0⟩ | ⟨g, cap, cur, rfl, _, _, h1, h2, _⟩
  · exact ⟨none, 0, by rw [h0], by omega, by unfold maxLen; omega⟩
  · exact ⟨_, _, rfl, h1, h2⟩

theorem own_belowL {w w' : World} {B e size n : Nat} {v : Value} {xs : List Value} (h : w.ownsRow B e size v n xs) (hb : Below w.heap.size w w') : w'.ownsRow B e size v n xs := by
  refine ⟨h.1, ?_⟩
  rcases h.2 with hn | ⟨g, cap, cur, hv, hg, hgg, rest⟩
  · exact .inl hn
  · exact .inr ⟨g, cap, cur, hv, hg, (hb.block g (Array.getElem?_eq_some_iff.1 hgg).1).trans hgg, rest⟩

theorem own_asideL {w w' : World} {B e size n : Nat} {v : Value} {xs : List Value} {row : Option Nat} (h : w.ownsRow B e size v n xs) (hg : w.grownBy w' row) (hne : ∀ g, v.ownBlock = some g → some g ≠ row) : w'.ownsRow B e size v n xs := by
  have hlt := h.lt
  refine ⟨h.1, ?_⟩
  rcases h.2 with hn | ⟨g, cap, cur, hv, hgB, hgg, rest⟩
  · exact .inl hn
  · refine .inr ⟨g, cap, cur, hv, hgB, (hg.block g (hlt g (by rw [hv]; rfl)).2 (hne g (by rw [hv]; rfl))).trans hgg, rest⟩

theorem AsRow.lower {w : World} {B B' : Nat} {v : Value} {l : List As} (h : AsRow w B v l) (hB : B' ≤ B) : AsRow w B' v l := by
  refine ⟨h.1, ?_⟩
  rcases h.2 with hn | ⟨g, cap, cur, hv, hg, rest⟩
  · exact .inl hn
  · exact .inr ⟨g, cap, cur, hv, by omega, rest⟩

theorem one3A (a b : Int) (c : Bool) : ∀ u ∈ [Value.int .i64 a, .int .i64 b, .bool c], u.oneCell' = true := by
  intro u hu
  simp at hu
  rcases hu with rfl | rfl | rfl <;> rfl

theorem AsRow.snoc {w : World} {B : Nat} {v : Value} {L : List As} {x : As} {n : Nat} {xs : List Value} (h : w.ownsRow B 88 3 v n xs) (hn : n = L.length + 1) (hx : xs = L.flatMap As.cells ++ x.cells) : AsRow w B v (L ++ [x]) := by
  unfold AsRow
  rw [List.length_append, List.length_singleton, List.flatMap_append]
  subst hn hx
  simpa using h

theorem flat3A (l : List As) (i j : Nat) (h : i < l.length) (hj : j < 3) : (l.flatMap As.cells)[i * 3 + j]? = (l.getD i a0).cells[j]? := by
  induction l generalizing i with
  | nil => simp at h
  | cons a l ih =>
    rw [List.flatMap_cons]
    have ha : a.cells.length = 3 := rfl
    cases i with
    | zero =>
      rw [Nat.zero_mul, Nat.zero_add, List.getElem?_append_left (by omega)]
      rfl
    | succ i =>
      rw [List.getElem?_append_right (by omega)]
      have := ih i (by simpa using h)
      have e : (a :: l).getD (i + 1) a0 = l.getD i a0 := by simp [List.getD]
      rw [e, ← this]
      congr 1
      omega

/-- what a call may do that puts a stretch: nothing but to a block that is told and to the row's own -/
structure Pl (w w' : World) (cb : Nat) (v v' : Value) : Prop where
  os : w'.os = w.os
  tape : w'.tape = w.tape
  output : w'.output = w.output
  size : w.heap.size ≤ w'.heap.size
  block : ∀ j, j < w.heap.size → j ≠ cb → some j ≠ v.ownBlock → w'.heap[j]? = w.heap[j]?
  new : ∀ g, v'.ownBlock = some g → v.ownBlock = some g ∨ w.heap.size ≤ g

theorem Pl.below {w w' : World} {cb : Nat} {v v' : Value} {B : Nat} (h : Pl w w' cb v v') (h0 : B ≤ w.heap.size) (h1 : B ≤ cb) (h2 : ∀ g, v.ownBlock = some g → B ≤ g) : Below B w w' :=
  ⟨h.os, h.tape, h.output, h.size, fun j hj => h.block j (by omega) (fun e => by omega) (fun e => by have := h2 j e.symm; omega)⟩

/-- how a way lies in a variable: its beginning, and the row of what it passes -/
structure Rt (w : World) (b B : Nat) (v : Value) (x y : Nat) (L : List As) : Prop where
  low : b < w.heap.size
  fr : w.cell? ⟨b, 0, none⟩ = some (.int .i64 (x : Int))
  tt : w.cell? ⟨b, 1, none⟩ = some (.int .i64 (y : Int))
  row : w.cell? ⟨b, 2, none⟩ = some v
  frz : w.frozen? ⟨b, 2, none⟩ = false
  own : AsRow w B v L
  apt : ∀ g, v.ownBlock = some g → g ≠ b

theorem Rt.below {w w' : World} {b B : Nat} {v : Value} {x y : Nat} {L : List As} (h : Rt w b B v x y L) (hb : Below w.heap.size w w') : Rt w' b B v x y L :=
  ⟨Nat.lt_of_lt_of_le h.low hb.size, (hb.cell (p := ⟨b, 0, none⟩) h.low).trans h.fr, (hb.cell (p := ⟨b, 1, none⟩) h.low).trans h.tt, (hb.cell (p := ⟨b, 2, none⟩) h.low).trans h.row, (hb.frozen (p := ⟨b, 2, none⟩) h.low).trans h.frz, own_belowL h.own hb, h.apt⟩

theorem add_end {w W1 w9 : World} {b B g9 cap9 : Nat} {v : Value} {x y : Nat} {L : List As} {s : As} {o : Obj} (hC : Rt w b B v x y L) (hB1 : Below w.heap.size w W1) (hS : W1.heap.size = w.heap.size + 1)
    (hown9 : w9.ownsRow B 88 3 (.slice (some ⟨g9, 0, none⟩) (L.length + 1) cap9) (L.length + 1) (L.flatMap As.cells ++ s.cells)) (hgrow : (W1.alloc o).drew.grownBy w9 v.ownBlock) (hat : v.ownBlock = some g9 ∨ g9 = W1.heap.size + 1) :
    Rt (w9.setCell ⟨b, 2, none⟩ (.slice (some ⟨g9, 0, none⟩) (L.length + 1) cap9)) b B (.slice (some ⟨g9, 0, none⟩) (L.length + 1) cap9) x y (L ++ [s]) ∧ Pl w (w9.setCell ⟨b, 2, none⟩ (.slice (some ⟨g9, 0, none⟩) (L.length + 1) cap9)) b v (.slice (some ⟨g9, 0, none⟩) (L.length + 1) cap9) := by
  obtain ⟨h1, h2, h3, h4, h5, h6, h7⟩ := hC
  have hB2 : Below w.heap.size w (W1.alloc o).drew := (hB1.alloc (by omega) o).drew
  have hsz : w.heap.size + 2 ≤ w9.heap.size := by have := hgrow.size; simp at this; omega
  have hne : some b ≠ v.ownBlock := fun e => h7 b e.symm rfl
  have hblk : w9.heap[b]? = w.heap[b]? := (hgrow.block b (by simp; omega) hne).trans (hB2.block b h1)
  have c0 : w9.cell? ⟨b, 0, none⟩ = some (.int .i64 (x : Int)) := (World.cell?_of_block (w := w) hblk).trans h2
  have c1 : w9.cell? ⟨b, 1, none⟩ = some (.int .i64 (y : Int)) := (World.cell?_of_block (w := w) hblk).trans h3
  have c2 : w9.cell? ⟨b, 2, none⟩ = some v := (World.cell?_of_block (w := w) hblk).trans h4
  have f1 : w9.frozen? ⟨b, 2, none⟩ = false := (World.frozen?_of_block (w := w) hblk).trans h5
  have hg9 : g9 ≠ b := by
    rcases hat with h | h
    · exact h7 g9 h
    · omega
  refine ⟨⟨by simp; omega, ?_, ?_, World.cell?_setCell_same _ _ _ c2, by rw [World.frozen?_setCell]; exact f1, ?_, ?_⟩, ?_, ?_, ?_, by simp; omega, ?_, ?_⟩
  · rw [World.cell?_setCell_other _ _ _ _ (by simp)]; exact c0
  · rw [World.cell?_setCell_other _ _ _ _ (by simp)]; exact c1
  · exact own_asideL (AsRow.snoc hown9 rfl rfl) (Lib.grownBy_setCell _ b 2 _) (fun g hg e => by
      simp [Value.ownBlock] at hg e
      omega)
  · intro g hg
    simp [Value.ownBlock] at hg
    omega
  · exact hgrow.os.trans hB2.os
  · exact hgrow.tape.trans hB2.tape
  · exact hgrow.output.trans hB2.output
  · intro j hj hc hv
    rw [Below.heap_setCell _ _ _ _ hc, hgrow.block j (by simp; omega) hv, hB2.block j hj]
  · intro g hg
    simp [Value.ownBlock] at hg
    subst hg
    rcases hat with h | h
    · exact .inl h
    · exact .inr (by omega)

attribute [local go_sem ↓] Go.wp_at_zero Go.wp_at_succ

set_option maxRecDepth 100000 in
set_option maxHeartbeats 4000000 in
theorem addAs_any (s : As) (b B : Nat) (v : Value) (x y : Nat) (L : List As) (w : World) (hC : Rt w b B v x y L) (hBw : B ≤ w.heap.size) (hL : L.length ≤ 10000000) :
    Calls Try.prog 94 #[.pointer (some ⟨b, 2, none⟩), .agg #[.int .i64 (s.fr : Int), .int .i64 (s.tt : Int), .bool s.ah]] w fun e w' => e = .returned (.tuple #[]) ∧ ∃ v', Rt w' b B v' x y (L ++ [s]) ∧ Pl w w' b v v' := by
  obtain ⟨i0, hi, hz0, hz1, hz2⟩ := info_parts Try.infoAs
  have HC : Hid (Rt w b B v x y L) := hC
  obtain ⟨X, hX⟩ : ∃ X, X = s := ⟨_, rfl⟩
  rw [← hX]
  obtain ⟨sf, st, sa⟩ := s
  subst hX
  dsimp only
  obtain ⟨hcb, cw0, cw1, cv, fv, hown, hapt⟩ := hC
  obtain ⟨ar, capr, rfl, hnr, hcmr⟩ := hown.slice
  have hlt0 := World.ownsRow.lt hown
  have hcmr' : capr ≤ 9223372036854775807 := by unfold maxLen at hcmr; omega
  obtain ⟨W1, hW1⟩ : ∃ W, W = w.alloc (.cells #[.int .i64 (sf : Int), .int .i64 (st : Int), .bool sa] 88) := ⟨_, rfl⟩
  have hB1 : Below w.heap.size w W1 := by rw [hW1]; exact (Below.refl _ w).alloc (Nat.le_refl _) _
  have HS1 : Hid (W1.heap.size = w.heap.size + 1) := by show _ = _; rw [hW1]; simp
  have b0 : W1.cell? ⟨w.heap.size, 0, none⟩ = some (.int .i64 (sf : Int)) := by rw [hW1]; go_simp
  have b1 : W1.cell? ⟨w.heap.size, 1, none⟩ = some (.int .i64 (st : Int)) := by rw [hW1]; go_simp
  have b2 : W1.cell? ⟨w.heap.size, 2, none⟩ = some (.bool sa) := by rw [hW1]; go_simp
  have s1 : W1.cell? ⟨b, 2, none⟩ = some (.slice ar L.length capr) := (hB1.cell (p := ⟨b, 2, none⟩) hcb).trans cv
  have f1 : W1.frozen? ⟨b, 2, none⟩ = false := (hB1.frozen (p := ⟨b, 2, none⟩) hcb).trans fv
  have hown1 : Hid (W1.ownsRow B 88 3 (.slice ar L.length capr) L.length (L.flatMap As.cells)) := own_belowL hown hB1
  have hne0 : some b ≠ (Value.slice ar L.length capr).ownBlock := fun e => hapt b e.symm rfl
  have S1a : ∀ o, (W1.alloc o).drew.cell? ⟨b, 2, none⟩ = some (.slice ar L.length capr) := fun o => (((Below.refl W1.heap.size W1).alloc (Nat.le_refl _) o).drew.cell (p := ⟨b, 2, none⟩) (by show b < W1.heap.size; rw [HS1.out]; omega)).trans s1
  have HNW : Hid (∀ o : Array Value, ∀ j u, o.toList[j]? = some u → (W1.alloc (.cells o 88)).drew.cell? ((⟨w.heap.size + 1, 0, none⟩ : Addr).add j) = some u) := fun o j u h => by
    have := World.news_of_block (heap_alloc_new W1 (.cells o 88)) j u h
    rw [HS1.out] at this
    exact this
  have f1a : ∀ o, (W1.alloc o).drew.frozen? ⟨b, 2, none⟩ = false := fun o => (((Below.refl W1.heap.size W1).alloc (Nat.le_refl _) o).drew.frozen (p := ⟨b, 2, none⟩) (by show b < W1.heap.size; rw [HS1.out]; omega)).trans f1
  have hlen : W1.heap.size = w.heap.size + 1 := HS1.out
  clear cw0 cw1
  go_enter Try.func94, Try.ntmps94
  go_upto_region 1 with fail
  rw [← hW1]
  clear hW1
  go_region_law
    (first
      | (refine step_append_lies _ rfl _ _ _ rfl B 88 i0 (.agg #[.int .i64 0, .int .i64 0, .bool false]) 3 24 Try.underlying71 hi hz0 hz1 hz2 rfl (by decide) _ L.length _ rfl ((hown1.out.alloc _).drew) ⟨w.heap.size + 1, 0, none⟩ 1 1 [.int .i64 (sf : Int), .int .i64 (st : Int), .bool sa] rfl rfl (HNW.out _) (one3A _ _ _) (by omega) (by unfold maxLen; omega) (by omega) (by simp; omega) (W1.heap.size + 1) (by simp) ?_; intro g9 cap9 w9 hown9 hgrow9 hat9 hlt9; have s9 := (hgrow9.cell_far ⟨b, 2, none⟩ (by simp; omega) hne0).trans (S1a _); have f9 : w9.frozen? ⟨b, 2, none⟩ = false := (World.frozen?_of_block (hgrow9.block b (by simp; omega) hne0)).trans (f1a _)))
  all_goals
    have hend := add_end (s := ⟨sf, st, sa⟩) HC.out hB1 HS1.out hown9 hgrow9 hat9
    go_wp2
    go_end0
    exact ⟨rfl, _, hend⟩

end Go.Proofs.Ytlglngmlaknmlaa
