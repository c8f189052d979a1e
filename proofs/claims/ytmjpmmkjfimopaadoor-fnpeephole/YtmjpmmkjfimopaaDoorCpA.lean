/- The program's compiler: rows of instructions, put. -/
import Derived.Test.YtmjpmmkjfimopaaDoorHb
import Derived.Test.YtmjpmmkjfimopaaDoorHe
import Derived.Test.YtmjpmmkjfimopaaDoorClnA
import Derived.Deep.AppendLies
import Derived.Deep.DeepCutAuto
import Derived.Deep.RegionHeld3
import Derived.Deep.DrawnRows
import Derived.Laws.OwnMore
import Derived.Deep.RegionLaw
namespace Go.Proofs.YtmjpmmkjfimopaaDoor
open Go.RowKit Plain Sch Wan Prg

/-- a row of instructions of the call's own -/
def IRow (w : World) (B : Nat) (v : Value) (L : List Ins) : Prop := w.ownsRow B 59 6 v L.length (L.flatMap Ins.cells)

theorem IRow.slice {w : World} {B : Nat} {v : Value} {L : List Ins} (h : IRow w B v L) : ∃ ao cap, v = Value.slice ao L.length cap ∧ L.length ≤ cap ∧ cap ≤ maxLen := by
  rcases h.2 with ⟨rfl, h0⟩ | ⟨g, cap, cur, rfl, _, _, h1, h2, _⟩
  · exact ⟨none, 0, by rw [h0], by omega, by unfold maxLen; omega⟩
  · exact ⟨_, _, rfl, h1, h2⟩

theorem IRow.below {w w' : World} {B : Nat} {v : Value} {L : List Ins} (h : IRow w B v L) (hb : Below w.heap.size w w') : IRow w' B v L := own_belowPw h hb

theorem IRow.lower {w : World} {B B' : Nat} {v : Value} {l : List Ins} (h : IRow w B v l) (hB : B' ≤ B) : IRow w B' v l := by
  refine ⟨h.1, ?_⟩
  rcases h.2 with hn | ⟨g, cap, cur, hv, hg, rest⟩
  · exact .inl hn
  · exact .inr ⟨g, cap, cur, hv, by omega, rest⟩

theorem IRow.setCell {w : World} {B : Nat} {v : Value} {L : List Ins} (h : IRow w B v L) {a : Addr} (ha : a.block < B) (u : Value) : IRow (w.setCell a u) B v L := ownsRow_setCell_below h ha u

theorem IRow.at {w : World} {B : Nat} {v : Value} {L : List Ins} (h : IRow w B v L) (hn : ∀ x ∈ L, x.text.size ≤ 30) : InsAt w w.heap.size v L := by
  refine InsAt.own h (fun i hi => ?_)
  have : ins L i ∈ L := by
    unfold ins
    rw [List.getD, List.getElem?_eq_getElem hi]
    exact List.getElem_mem hi
  have := hn _ this
  unfold maxLen
  omega

theorem one6I (c k n m : Int) (t : ByteArray) (a : Int) : ∀ u ∈ [Value.int .i64 c, .int .i64 k, .int .i64 n, .int .i64 m, .string t, .int .i64 a], u.oneCell' = true := by
  intro u hu
  simp at hu
  rcases hu with rfl | rfl | rfl | rfl | rfl | rfl <;> rfl

theorem IRow.snoc {w : World} {B : Nat} {v : Value} {L : List Ins} {x : Ins} {n : Nat} {xs : List Value} (h : w.ownsRow B 59 6 v n xs) (hn : n = L.length + 1) (hx : xs = L.flatMap Ins.cells ++ x.cells) : IRow w B v (L ++ [x]) := by
  unfold IRow
  rw [List.length_append, List.length_singleton, List.flatMap_append]
  subst hn hx
  simpa using h

theorem IRow.dst {w : World} {B g cap : Nat} {L : List Ins} (h : IRow w B (.slice (some ⟨g, 0, none⟩) L.length cap) L) {k : Nat} (hk : k < L.length) (d : Int) :
    IRow (w.setCell ⟨g, k * 6 + 5, none⟩ (.int .i64 d)) B (.slice (some ⟨g, 0, none⟩) L.length cap) (L.set k ⟨(ins L k).code, (ins L k).kind, (ins L k).no, (ins L k).num, (ins L k).text, d⟩) := by
  have h1 := World.ownsRow.stored h (k * 6 + 5) (.int .i64 d)
  unfold IRow
  have e : (L.flatMap Ins.cells).set (k * 6 + 5) (.int .i64 d) = (L.set k ⟨(ins L k).code, (ins L k).kind, (ins L k).no, (ins L k).num, (ins L k).text, d⟩).flatMap Ins.cells := by
    refine ys_eqIns _ _ (by rw [List.length_set, flat6Ins_len, List.length_set]) fun i hi j hj => ?_
    rw [List.length_set] at hi
    by_cases hik : i = k
    · subst hik
      have ei : ins (L.set i ⟨(ins L i).code, (ins L i).kind, (ins L i).no, (ins L i).num, (ins L i).text, d⟩) i = ⟨(ins L i).code, (ins L i).kind, (ins L i).no, (ins L i).num, (ins L i).text, d⟩ := by
        unfold ins; rw [List.getD, List.getElem?_set_self hi]; rfl
      rw [ei]
      by_cases hj5 : j = 5
      · subst hj5
        rw [List.getElem?_set_self (by rw [flat6Ins_len]; omega)]
        rfl
      · rw [List.getElem?_set_ne (by omega), flat6Ins L i j hi hj]
        match j, hj5, hj with
        | 0, _, _ | 1, _, _ | 2, _, _ | 3, _, _ | 4, _, _ => rfl
        | 5, h5, _ => exact absurd rfl h5
        | n + 6, _, h => exact absurd h (by omega)
    · have ei : ins (L.set k ⟨(ins L k).code, (ins L k).kind, (ins L k).no, (ins L k).num, (ins L k).text, d⟩) i = ins L i := by
        unfold ins; rw [List.getD, List.getElem?_set_ne (by omega)]; rfl
      rw [ei, List.getElem?_set_ne (by omega), flat6Ins L i j hi hj]
  rw [List.length_set, ← e]
  exact h1.1

/-- what a call may do that puts instructions: nothing but to a block that is told and to the row's own -/
structure Pu (w w' : World) (cb : Option Nat) (v v' : Value) : Prop where
  os : w'.os = w.os
  tape : w'.tape = w.tape
  output : w'.output = w.output
  size : w.heap.size ≤ w'.heap.size
  block : ∀ j, j < w.heap.size → some j ≠ cb → some j ≠ v.ownBlock → w'.heap[j]? = w.heap[j]?
  new : ∀ g, v'.ownBlock = some g → v.ownBlock = some g ∨ w.heap.size ≤ g

theorem Pu.trans {w w1 w2 : World} {cb : Option Nat} {v v1 v2 : Value} (h : Pu w w1 cb v v1) (h2 : Pu w1 w2 cb v1 v2) : Pu w w2 cb v v2 := by
  refine ⟨h2.os.trans h.os, h2.tape.trans h.tape, h2.output.trans h.output, Nat.le_trans h.size h2.size, fun j hj hc hv => ?_, fun g hg => ?_⟩
  · refine (h2.block j (Nat.lt_of_lt_of_le hj h.size) hc fun e => ?_).trans (h.block j hj hc hv)
    rcases h.new j e.symm with h3 | h3
    · exact hv h3.symm
    · omega
  · rcases h2.new g hg with h3 | h3
    · exact h.new g h3
    · exact .inr (Nat.le_trans h.size h3)

theorem Pu.of_below {w w' : World} {cb : Option Nat} {v : Value} (h : Below w.heap.size w w') : Pu w w' cb v v :=
  ⟨h.os, h.tape, h.output, h.size, fun j hj _ _ => h.block j hj, fun _ hg => .inl hg⟩

theorem Pu.cell {w w' : World} {cb : Option Nat} {v v' : Value} (h : Pu w w' cb v v') {p : Addr} (h1 : p.block < w.heap.size) (h2 : some p.block ≠ cb) (h3 : some p.block ≠ v.ownBlock) : w'.cell? p = w.cell? p := World.cell?_of_block (h.block _ h1 h2 h3)

theorem Pu.below {w w' : World} {cb : Option Nat} {v v' : Value} {B : Nat} (h : Pu w w' cb v v') (h0 : B ≤ w.heap.size) (h1 : ∀ g, cb = some g → B ≤ g) (h2 : ∀ g, v.ownBlock = some g → B ≤ g) : Below B w w' :=
  ⟨h.os, h.tape, h.output, h.size, fun j hj => h.block j (by omega) (fun e => by have := h1 j e.symm; omega) (fun e => by have := h2 j e.symm; omega)⟩

/-- how a compiler lies in memory: its wants, and the instructions that it has put -/
def CSt (w : World) (cb : Nat) (vw v : Value) (L : List Ins) : Prop :=
  cb < w.heap.size ∧ w.cell? ⟨cb, 0, none⟩ = some vw ∧ w.cell? ⟨cb, 1, none⟩ = some v ∧ w.frozen? ⟨cb, 1, none⟩ = false ∧ IRow w (cb + 1) v L

theorem CSt.below {w w' : World} {cb : Nat} {vw v : Value} {L : List Ins} (h : CSt w cb vw v L) (hb : Below w.heap.size w w') : CSt w' cb vw v L := by
  obtain ⟨h1, h2, h3, h4, h5⟩ := h
  exact ⟨Nat.lt_of_lt_of_le h1 hb.size, (hb.cell (p := ⟨cb, 0, none⟩) h1).trans h2, (hb.cell (p := ⟨cb, 1, none⟩) h1).trans h3, (hb.frozen (p := ⟨cb, 1, none⟩) h1).trans h4, h5.below hb⟩

theorem put_end {w W1 w9 : World} {cb g9 cap9 : Nat} {vw v : Value} {L : List Ins} {x : Ins} {o : Obj} (hC : CSt w cb vw v L) (hB1 : Below w.heap.size w W1) (hS : W1.heap.size = w.heap.size + 1)
    (hown9 : w9.ownsRow (cb + 1) 59 6 (.slice (some ⟨g9, 0, none⟩) (L.length + 1) cap9) (L.length + 1) (L.flatMap Ins.cells ++ x.cells)) (hgrow : (W1.alloc o).drew.grownBy w9 v.ownBlock) (hat : v.ownBlock = some g9 ∨ g9 = W1.heap.size + 1) :
    CSt (w9.setCell ⟨cb, 1, none⟩ (.slice (some ⟨g9, 0, none⟩) (L.length + 1) cap9)) cb vw (.slice (some ⟨g9, 0, none⟩) (L.length + 1) cap9) (L ++ [x]) ∧ Pu w (w9.setCell ⟨cb, 1, none⟩ (.slice (some ⟨g9, 0, none⟩) (L.length + 1) cap9)) (some cb) v (.slice (some ⟨g9, 0, none⟩) (L.length + 1) cap9) := by
  obtain ⟨h1, h2, h3, h4, h5⟩ := hC
  have hlt := World.ownsRow.lt h5
  have hB2 : Below w.heap.size w (W1.alloc o).drew := (hB1.alloc (by omega) o).drew
  have hsz : w.heap.size + 2 ≤ w9.heap.size := by have := hgrow.size; simp at this; omega
  have hne : some cb ≠ v.ownBlock := fun e => by have := (hlt _ e.symm).1; omega
  have hblk : w9.heap[cb]? = w.heap[cb]? := (hgrow.block cb (by simp; omega) hne).trans (hB2.block cb h1)
  have c0 : w9.cell? ⟨cb, 0, none⟩ = some vw := (World.cell?_of_block (w := w) hblk).trans h2
  have c1 : w9.cell? ⟨cb, 1, none⟩ = some v := (World.cell?_of_block (w := w) hblk).trans h3
  have f1 : w9.frozen? ⟨cb, 1, none⟩ = false := (World.frozen?_of_block (w := w) hblk).trans h4
  refine ⟨⟨by simp; omega, ?_, World.cell?_setCell_same _ _ _ c1, by rw [World.frozen?_setCell]; exact f1, ?_⟩, ?_, ?_, ?_, by simp; omega, ?_, ?_⟩
  · rw [World.cell?_setCell_other _ _ _ _ (by simp)]; exact c0
  · exact IRow.setCell (IRow.snoc hown9 rfl rfl) (by show cb < cb + 1; omega) _
  · exact hgrow.os.trans hB2.os
  · exact hgrow.tape.trans hB2.tape
  · exact hgrow.output.trans hB2.output
  · intro j hj hc hv
    have hjc : j ≠ cb := fun e => hc (by rw [e])
    rw [Below.heap_setCell _ _ _ _ hjc, hgrow.block j (by simp; omega) hv, hB2.block j hj]
  · intro g hg
    simp [Value.ownBlock] at hg
    subst hg
    rcases hat with h | h
    · exact .inl h
    · exact .inr (by omega)

theorem put_keep {W w9 : World} {b1 b2 : Nat} {x0 x1 x2 x3 x4 x5 x6 : Value} {row : Option Nat} (h : W.cell? ⟨b1, 1, none⟩ = some x0 ∧ W.cell? ⟨b2, 0, none⟩ = some x1 ∧ W.cell? ⟨b2, 1, none⟩ = some x2 ∧ W.cell? ⟨b2, 2, none⟩ = some x3 ∧ W.cell? ⟨b2, 3, none⟩ = some x4 ∧ W.cell? ⟨b2, 4, none⟩ = some x5 ∧ W.cell? ⟨b2, 5, none⟩ = some x6) (hg : W.grownBy w9 row) (h1 : b1 < W.heap.size) (h2 : b2 < W.heap.size) (n1 : some b1 ≠ row) (n2 : some b2 ≠ row) :
    w9.cell? ⟨b1, 1, none⟩ = some x0 ∧ w9.cell? ⟨b2, 0, none⟩ = some x1 ∧ w9.cell? ⟨b2, 1, none⟩ = some x2 ∧ w9.cell? ⟨b2, 2, none⟩ = some x3 ∧ w9.cell? ⟨b2, 3, none⟩ = some x4 ∧ w9.cell? ⟨b2, 4, none⟩ = some x5 ∧ w9.cell? ⟨b2, 5, none⟩ = some x6 :=
  ⟨(hg.cell_far ⟨b1, 1, none⟩ h1 n1).trans h.1, (hg.cell_far ⟨b2, 0, none⟩ h2 n2).trans h.2.1, (hg.cell_far ⟨b2, 1, none⟩ h2 n2).trans h.2.2.1, (hg.cell_far ⟨b2, 2, none⟩ h2 n2).trans h.2.2.2.1, (hg.cell_far ⟨b2, 3, none⟩ h2 n2).trans h.2.2.2.2.1, (hg.cell_far ⟨b2, 4, none⟩ h2 n2).trans h.2.2.2.2.2.1, (hg.cell_far ⟨b2, 5, none⟩ h2 n2).trans h.2.2.2.2.2.2⟩

attribute [local go_sem ↓] Go.wp_at_zero Go.wp_at_succ

set_option maxRecDepth 100000 in
set_option maxHeartbeats 4000000 in
theorem put_any (x : Ins) (cb : Nat) (vw v : Value) (L : List Ins) (w : World) (hC : CSt w cb vw v L) (hL : L.length ≤ 10000000) :
    Calls Tryd.prog 23 #[.pointer (some ⟨cb, 0, none⟩), .agg #[.int .i64 x.code, .int .i64 x.kind, .int .i64 x.no, .int .i64 x.num, .string x.text, .int .i64 x.dst]] w fun e w' => e = .returned (.tuple #[]) ∧ ∃ v', CSt w' cb vw v' (L ++ [x]) ∧ Pu w w' (some cb) v v' := by
  obtain ⟨i0, hi, hz0, hz1, hz2⟩ := info_parts Tryd.infoIns
  have HC : Hid (CSt w cb vw v L) := hC
  obtain ⟨X, hX⟩ : ∃ X, X = x := ⟨_, rfl⟩
  rw [← hX]
  have HX : Hid (X = x) := hX
  obtain ⟨c, k, n, m, t, jt⟩ := x
  subst hX
  dsimp only
  obtain ⟨hcb, cw, cv, fv, hown⟩ := hC
  obtain ⟨ar, capr, rfl, hnr, hcmr⟩ := hown.slice
  have hlt0 := World.ownsRow.lt hown
  have hcmr' : capr ≤ 9223372036854775807 := by unfold maxLen at hcmr; omega
  obtain ⟨W1, hW1⟩ : ∃ W, W = w.alloc (.cells #[.int .i64 c, .int .i64 k, .int .i64 n, .int .i64 m, .string t, .int .i64 jt] 59) := ⟨_, rfl⟩
  have hB1 : Below w.heap.size w W1 := by rw [hW1]; exact (Below.refl _ w).alloc (Nat.le_refl _) _
  have HS1 : Hid (W1.heap.size = w.heap.size + 1) := by show _ = _; rw [hW1]; simp
  have b0 : W1.cell? ⟨w.heap.size, 0, none⟩ = some (.int .i64 c) := by rw [hW1]; go_simp
  have b1 : W1.cell? ⟨w.heap.size, 1, none⟩ = some (.int .i64 k) := by rw [hW1]; go_simp
  have b2 : W1.cell? ⟨w.heap.size, 2, none⟩ = some (.int .i64 n) := by rw [hW1]; go_simp
  have b3 : W1.cell? ⟨w.heap.size, 3, none⟩ = some (.int .i64 m) := by rw [hW1]; go_simp
  have b4 : W1.cell? ⟨w.heap.size, 4, none⟩ = some (.string t) := by rw [hW1]; go_simp
  have b5 : W1.cell? ⟨w.heap.size, 5, none⟩ = some (.int .i64 jt) := by rw [hW1]; go_simp
  have s1 : W1.cell? ⟨cb, 1, none⟩ = some (.slice ar L.length capr) := (hB1.cell (p := ⟨cb, 1, none⟩) hcb).trans cv
  have f1 : W1.frozen? ⟨cb, 1, none⟩ = false := (hB1.frozen (p := ⟨cb, 1, none⟩) hcb).trans fv
  have hown1 : Hid (W1.ownsRow (cb + 1) 59 6 (.slice ar L.length capr) L.length (L.flatMap Ins.cells)) := own_belowPw hown hB1
  have hne0 : some cb ≠ (Value.slice ar L.length capr).ownBlock := fun e => by have := (hlt0 _ e.symm).1; omega
  have S1a : ∀ o, (W1.alloc o).drew.cell? ⟨cb, 1, none⟩ = some (.slice ar L.length capr) := fun o => (((Below.refl W1.heap.size W1).alloc (Nat.le_refl _) o).drew.cell (p := ⟨cb, 1, none⟩) (by show cb < W1.heap.size; rw [HS1.out]; omega)).trans s1
  have HNW : Hid (∀ o : Array Value, ∀ j u, o.toList[j]? = some u → (W1.alloc (.cells o 59)).drew.cell? ((⟨w.heap.size + 1, 0, none⟩ : Addr).add j) = some u) := fun o j u h => by
    have := World.news_of_block (heap_alloc_new W1 (.cells o 59)) j u h
    rw [HS1.out] at this
    exact this
  have f1a : ∀ o, (W1.alloc o).drew.frozen? ⟨cb, 1, none⟩ = false := fun o => (((Below.refl W1.heap.size W1).alloc (Nat.le_refl _) o).drew.frozen (p := ⟨cb, 1, none⟩) (by show cb < W1.heap.size; rw [HS1.out]; omega)).trans f1
  have hlen : W1.heap.size = w.heap.size + 1 := HS1.out
  go_enter Tryd.func23, Tryd.ntmps23
  go_upto_region 1 with fail
  rw [← hW1]
  clear hW1
  go_region_law
    (first
      | (refine step_append_lies _ rfl _ _ _ rfl (cb + 1) 59 i0 (.agg #[.int .i64 0, .int .i64 0, .int .i64 0, .int .i64 0, .string ⟨#[]⟩, .int .i64 0]) 6 56 Tryd.underlying28 hi hz0 hz1 hz2 rfl (by decide) _ L.length _ rfl ((hown1.out.alloc _).drew) ⟨w.heap.size + 1, 0, none⟩ 1 1 [.int .i64 c, .int .i64 k, .int .i64 n, .int .i64 m, .string t, .int .i64 jt] rfl rfl (HNW.out _) (one6I c k n m t jt) (by omega) (by unfold maxLen; omega) (by omega) (by simp; omega) (W1.heap.size + 1) (by simp) ?_; intro g9 cap9 w9 hown9 hgrow9 hat9 hlt9; have s9 := (hgrow9.cell_far ⟨cb, 1, none⟩ (by simp; omega) hne0).trans (S1a _); have f9 : w9.frozen? ⟨cb, 1, none⟩ = false := (World.frozen?_of_block (hgrow9.block cb (by simp; omega) hne0)).trans (f1a _)))
  all_goals
    have hend := put_end (x := ⟨c, k, n, m, t, jt⟩) HC.out hB1 HS1.out hown9 hgrow9 hat9
    go_wp2
    go_end0
    exact ⟨rfl, _, hend⟩

end Go.Proofs.YtmjpmmkjfimopaaDoor
