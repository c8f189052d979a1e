/- The draw of a program. The draw of a program and a text. -/
import Derived.Test.YtmjpmmkjfimopaaDoorGx
import Derived.Test.YtmjpmmkjfimopaaDoorHs
import Derived.Test.YtmjpmmkjfimopaaDoorHc
import Derived.Deep.DeepCutAuto
namespace Go.Proofs.YtmjpmmkjfimopaaDoor
open Go.RowKit Plain Sch Wan Prg
attribute [local go_sem ↓] Go.wp_at_zero Go.wp_at_succ

theorem GrS.irow {S : Nat → Prop} {w w' : World} {B : Nat} {v : Value} {L : List Ins} (h : GrS S w w') (hr : IRow w B v L) (hn : ∀ g, v.ownBlock = some g → ¬ S g) : IRow w' B v L := by
  refine ⟨hr.1, ?_⟩
  rcases hr.2 with hn' | ⟨g, cap, cur, hv, hg, hgg, rest⟩
  · exact .inl hn'
  · exact .inr ⟨g, cap, cur, hv, hg, (h.block g (Array.getElem?_eq_some_iff.1 hgg).1 (hn g (by rw [hv]; rfl))).trans hgg, rest⟩

/-- the draw of a program at work -/
structure ISt (w : World) (b K : Nat) (rv : Value) (L : List Ins) (m : Nat) (w' : World) : Prop where
  cur : Cur w' b m
  row : IRow w' (w.heap.size + 1) rv L
  q : w'.cell? ⟨K, 0, none⟩ = some rv
  qf : w'.frozen? ⟨K, 0, none⟩ = false
  y : w'.cell? ⟨w.heap.size, 0, none⟩ = some (.slice none 0 0)
  z : w'.frozen? ⟨w.heap.size, 0, none⟩ = false
  gr : w.grownBy w' (some b)
  nK : rv.ownBlock ≠ some K
  K0 : w.heap.size < K
  b0 : b < w.heap.size

variable {w w' w'' : World} {b K m : Nat} {rv : Value} {L : List Ins}

theorem ISt.kl (h : ISt w b K rv L m w') : K < w'.heap.size := World.block_lt_of_cell? w' _ h.q
theorem ISt.yl (h : ISt w b K rv L m w') : w.heap.size < w'.heap.size := World.block_lt_of_cell? w' _ h.y

theorem ISt.pick (h : ISt w b K rv L m w') {m' : Nat} (hc : Cur w'' b m') (hg : w'.grownBy w'' (some b)) : ISt w b K rv L m' w'' := by
  have h3 := h.K0
  have h4 := h.b0
  have hl := h.yl
  have hk := h.kl
  refine ⟨hc, (GrS.of hg).irow h.row (fun k hk' e => ?_), hg.cell h.q (by simp; omega), (hg.frozen_far _ hk (by simp; omega)).trans h.qf, hg.cell h.y (by simp; omega), (hg.frozen_far _ hl (by simp; omega)).trans h.z, Lib.grownBy_trans h.gr hg, h.nK, h3, h4⟩
  have := (World.ownsRow.lt h.row k hk').1
  simp at e
  omega

theorem ISt.alloc (h : ISt w b K rv L m w') (o : Obj) : ISt w b K rv L m (w'.alloc o) := by
  have hg : w'.grownBy (w'.alloc o) none := Lib.grownBy_allocR (World.grownBy.refl w' none) o
  exact ⟨h.cur.alloc o, (GrS.of hg).irow h.row (fun g _ e => by cases e), hg.cell h.q (by simp), (hg.frozen_far _ h.kl (by simp)).trans h.qf, hg.cell h.y (by simp), (hg.frozen_far _ h.yl (by simp)).trans h.z, Lib.grownBy_allocR h.gr o, h.nK, h.K0, h.b0⟩

theorem ISt.drew (h : ISt w b K rv L m w') : ISt w b K rv L m w'.drew :=
  ⟨h.cur.drew, h.row, h.q, h.qf, h.y, h.z, ⟨h.gr.os, h.gr.tape, h.gr.output, h.gr.size, h.gr.block⟩, h.nK, h.K0, h.b0⟩

theorem ISt.le (h : ISt w b K rv L m w') {m' : Nat} (hm : m ≤ m') : ISt w b K rv L m' w' := ⟨h.cur.le hm, h.row, h.q, h.qf, h.y, h.z, h.gr, h.nK, h.K0, h.b0⟩

/-- a store into a block of the draw's own -/
theorem ISt.far (h : ISt w b K rv L m w') {X : Nat} (hX : w.heap.size < X) (hXK : X ≠ K) (hXr : rv.ownBlock ≠ some X) (j : Nat) (v : Value) : ISt w b K rv L m (w'.setCell ⟨X, j, none⟩ v) := by
  have hg := Lib.grownBy_setCell w' X j v
  have h4 := h.b0
  have h3 := h.K0
  refine ⟨h.cur.grown hg (by intro k hk; cases hk; omega), (GrS.of hg).irow h.row (fun g hg' e => hXr (by rw [hg', e])), hg.cell h.q (by simp; omega), (hg.frozen_far _ h.kl (by simp; omega)).trans h.qf, hg.cell h.y (by simp; omega), (hg.frozen_far _ h.yl (by simp; omega)).trans h.z, ?_, h.nK, h3, h4⟩
  exact ⟨hg.os.trans h.gr.os, hg.tape.trans h.gr.tape, hg.output.trans h.gr.output, Nat.le_trans h.gr.size hg.size, fun i hi hne => (hg.block i (by have := h.gr.size; omega) (by simp; omega)).trans (h.gr.block i hi hne)⟩

/-- the row's variable takes another row -/
theorem ISt.setK (h : ISt w b K rv L m w') {rv' : Value} {L' : List Ins} (hr : IRow w' (w.heap.size + 1) rv' L') (hn : rv'.ownBlock ≠ some K) : ISt w b K rv' L' m (w'.setCell ⟨K, 0, none⟩ rv') := by
  have hg := Lib.grownBy_setCell w' K 0 rv'
  have h4 := h.b0
  have h3 := h.K0
  refine ⟨h.cur.grown hg (by intro k hk; cases hk; omega), (GrS.of hg).irow hr (fun g hg' e => hn (by rw [hg', e])), World.cell?_setCell_same _ _ _ h.q, by rw [World.frozen?_setCell]; exact h.qf, hg.cell h.y (by simp; omega), (hg.frozen_far _ h.yl (by simp; omega)).trans h.z, ?_, hn, h3, h4⟩
  exact ⟨hg.os.trans h.gr.os, hg.tape.trans h.gr.tape, hg.output.trans h.gr.output, Nat.le_trans h.gr.size hg.size, fun i hi hne => (hg.block i (by have := h.gr.size; omega) (by simp; omega)).trans (h.gr.block i hi hne)⟩

/-- behind an append -/
theorem ISt.grow {w9 : World} {o : Obj} {g9 cap9 : Nat} {t : Ins} (h : ISt w b K rv L m w') (hown : w9.ownsRow (w.heap.size + 1) 59 6 (.slice (some ⟨g9, 0, none⟩) (L.length + 1) cap9) (L.length + 1) (L.flatMap Ins.cells ++ t.cells)) (hgrow : (w'.alloc o).grownBy w9 rv.ownBlock) (hat : rv.ownBlock = some g9 ∨ g9 = w'.heap.size + 1) :
    w9.cell? ⟨K, 0, none⟩ = some rv ∧ w9.frozen? ⟨K, 0, none⟩ = false ∧ K < w9.heap.size ∧ ISt w b K (.slice (some ⟨g9, 0, none⟩) (L.length + 1) cap9) (L ++ [t]) m (w9.setCell ⟨K, 0, none⟩ (.slice (some ⟨g9, 0, none⟩) (L.length + 1) cap9)) := by
  have ha := h.alloc o
  have h3 := h.K0
  have h4 := h.b0
  have hk := h.kl
  have hlt := World.ownsRow.lt h.row
  have hq := hgrow.cell ha.q (fun e => h.nK e.symm)
  have hqf := (hgrow.frozen_far ⟨K, 0, none⟩ ha.kl (fun e => h.nK e.symm)).trans ha.qf
  have hy := hgrow.cell ha.y (fun e => by have := (hlt _ e.symm).1; dsimp only at this; omega)
  have hz := (hgrow.frozen_far ⟨w.heap.size, 0, none⟩ ha.yl (fun e => by have := (hlt _ e.symm).1; dsimp only at this; omega)).trans ha.z
  have hS : ISt w b K rv [] m w9 → True := fun _ => trivial
  have hn : (Value.slice (some ⟨g9, 0, none⟩) (L.length + 1) cap9).ownBlock ≠ some K := by
    intro e
    have e' : g9 = K := by simpa [Value.ownBlock] using e
    rcases hat with e2 | e2
    · exact h.nK (by rw [e2, e'])
    · omega
  have hcur : Cur w9 b m := ha.cur.grown hgrow (fun k hk' => by have := (hlt k hk').1; omega)
  have hgr : w.grownBy w9 (some b) := ⟨hgrow.os.trans ha.gr.os, hgrow.tape.trans ha.gr.tape, hgrow.output.trans ha.gr.output, Nat.le_trans ha.gr.size hgrow.size, fun i hi hne => (hgrow.block i (by have := ha.gr.size; omega) (fun e => by have := (hlt i e.symm).1; omega)).trans (ha.gr.block i hi hne)⟩
  have hrow9 : IRow w9 (w.heap.size + 1) (.slice (some ⟨g9, 0, none⟩) (L.length + 1) cap9) (L ++ [t]) := IRow.snoc hown rfl rfl
  have hg := Lib.grownBy_setCell w9 K 0 (.slice (some ⟨g9, 0, none⟩) (L.length + 1) cap9)
  have hkl : K < w9.heap.size := World.block_lt_of_cell? w9 _ hq
  have hyl : w.heap.size < w9.heap.size := World.block_lt_of_cell? w9 _ hy
  clear hS
  refine ⟨hq, hqf, hkl, hcur.grown hg (by intro k hk; cases hk; omega), (GrS.of hg).irow hrow9 (fun g hg' e => hn (by rw [hg', e])), World.cell?_setCell_same _ _ _ hq, by rw [World.frozen?_setCell]; exact hqf, hg.cell hy (by simp; omega), (hg.frozen_far _ hyl (by simp; omega)).trans hz, ?_, hn, h3, h4⟩
  exact ⟨hg.os.trans hgr.os, hg.tape.trans hgr.tape, hg.output.trans hgr.output, Nat.le_trans hgr.size hg.size, fun i hi hne => (hg.block i (by have := hgr.size; omega) (by simp; omega)).trans (hgr.block i hi hne)⟩

/-- an instruction in a block of its own -/
def SixI (w : World) (K : Nat) (t : Ins) : Prop :=
  (w.cell? ⟨K, 0, none⟩ = some (.int .i64 t.code) ∧ w.cell? ⟨K, 1, none⟩ = some (.int .i64 t.kind) ∧ w.cell? ⟨K, 2, none⟩ = some (.int .i64 t.no) ∧ w.cell? ⟨K, 3, none⟩ = some (.int .i64 t.num) ∧ w.cell? ⟨K, 4, none⟩ = some (.string t.text) ∧ w.cell? ⟨K, 5, none⟩ = some (.int .i64 t.dst)) ∧
    ∀ j, w.frozen? ⟨K, j, none⟩ = false

theorem SixI.kept {w w' : World} {K : Nat} {t : Ins} (h : SixI w K t) (hk : w'.heap[K]? = w.heap[K]?) : SixI w' K t := by
  have c : ∀ j, w'.cell? ⟨K, j, none⟩ = w.cell? ⟨K, j, none⟩ := fun j => World.cell?_of_block hk
  have f : ∀ j, w'.frozen? ⟨K, j, none⟩ = w.frozen? ⟨K, j, none⟩ := fun j => World.frozen?_of_block hk
  refine ⟨?_, fun j => (f j).trans (h.2 j)⟩
  rw [c, c, c, c, c, c]
  exact h.1
theorem SixI.lt {w : World} {K : Nat} {t : Ins} (h : SixI w K t) : K < w.heap.size := World.block_lt_of_cell? w _ h.1.1
theorem SixI.pick {w w' : World} {K b : Nat} {t : Ins} (h : SixI w K t) (hg : w.grownBy w' (some b)) (hb : b < K) : SixI w' K t := h.kept (hg.block K h.lt (by simp; omega))
theorem SixI.made (w : World) (t : Ins) : SixI (w.alloc (.cells #[.int .i64 t.code, .int .i64 t.kind, .int .i64 t.no, .int .i64 t.num, .string t.text, .int .i64 t.dst] 59)) w.heap.size t :=
  ⟨⟨by go_simp, by go_simp, by go_simp, by go_simp, by go_simp, by go_simp⟩, fun j => by go_simp⟩
theorem SixI.kind {w : World} {K : Nat} {t : Ins} (h : SixI w K t) (n : Int) : SixI (w.setCell ⟨K, 1, none⟩ (.int .i64 n)) K { t with kind := n } := by
  obtain ⟨⟨c0, c1, c2, c3, c4, c5⟩, f⟩ := h
  refine ⟨⟨?_, World.cell?_setCell_same _ _ _ c1, ?_, ?_, ?_, ?_⟩, fun j => by rw [World.frozen?_setCell]; exact f j⟩
  all_goals rw [World.cell?_setCell_other _ _ _ _ (by simp)]; assumption
theorem SixI.no {w : World} {K : Nat} {t : Ins} (h : SixI w K t) (n : Int) : SixI (w.setCell ⟨K, 2, none⟩ (.int .i64 n)) K { t with no := n } := by
  obtain ⟨⟨c0, c1, c2, c3, c4, c5⟩, f⟩ := h
  refine ⟨⟨?_, ?_, World.cell?_setCell_same _ _ _ c2, ?_, ?_, ?_⟩, fun j => by rw [World.frozen?_setCell]; exact f j⟩
  all_goals rw [World.cell?_setCell_other _ _ _ _ (by simp)]; assumption
theorem SixI.num {w : World} {K : Nat} {t : Ins} (h : SixI w K t) (n : Int) : SixI (w.setCell ⟨K, 3, none⟩ (.int .i64 n)) K { t with num := n } := by
  obtain ⟨⟨c0, c1, c2, c3, c4, c5⟩, f⟩ := h
  refine ⟨⟨?_, ?_, ?_, World.cell?_setCell_same _ _ _ c3, ?_, ?_⟩, fun j => by rw [World.frozen?_setCell]; exact f j⟩
  all_goals rw [World.cell?_setCell_other _ _ _ _ (by simp)]; assumption
theorem SixI.dst {w : World} {K : Nat} {t : Ins} (h : SixI w K t) (n : Int) : SixI (w.setCell ⟨K, 5, none⟩ (.int .i64 n)) K { t with dst := n } := by
  obtain ⟨⟨c0, c1, c2, c3, c4, c5⟩, f⟩ := h
  refine ⟨⟨?_, ?_, ?_, ?_, ?_, World.cell?_setCell_same _ _ _ c5⟩, fun j => by rw [World.frozen?_setCell]; exact f j⟩
  all_goals rw [World.cell?_setCell_other _ _ _ _ (by simp)]; assumption

/-- a program drawn -/
def ProR (b m : Nat) (w : World) (e : Ending) (w' : World) : Prop :=
  ∃ rv L, e = .returned (.agg #[rv]) ∧ IRow w' w.heap.size rv L ∧ L.length ≤ 42 ∧ (∀ x ∈ L, x.text.size ≤ 30) ∧ Cur w' b m ∧ w.grownBy w' (some b)

/-- the result is stored -/
theorem pro_fin {rv : Value} (hc : Cur w' b m) (hr : IRow w' (w.heap.size + 1) rv L) (hg : w.grownBy w' (some b)) (hb : b < w.heap.size) (h15 : L.length ≤ 42) (ht : ∀ x ∈ L, x.text.size ≤ 30) {m' : Nat} (hm : m ≤ m') (u : Value) :
    ProR b m' w (.returned (.agg #[rv])) (w'.setCell ⟨w.heap.size, 0, none⟩ u) := by
  have hs := Lib.grownBy_setCell w' w.heap.size 0 u
  refine ⟨rv, L, rfl, ((GrS.of hs).irow hr (fun k hk e => ?_)).lower (by omega), h15, ht, (hc.grown hs (fun k hk => by simp at hk; omega)).le hm, ?_⟩
  · have := (World.ownsRow.lt hr k hk).1
    simp at e
    omega
  · exact ⟨hs.os.trans hg.os, hs.tape.trans hg.tape, hs.output.trans hg.output, Nat.le_trans hg.size hs.size, fun i hi hne => (hs.block i (by have := hg.size; omega) (by simp; omega)).trans (hg.block i hi hne)⟩

theorem flat_setI : ∀ (L : List Ins) (k j : Nat) (u : Value) (t : Ins), k < L.length → j < 6 → (ins L k).cells.set j u = t.cells → (L.flatMap Ins.cells).set (k * 6 + j) u = (L.set k t).flatMap Ins.cells
  | [], k, j, u, t, hk, _, _ => by simp at hk
  | x :: L, 0, j, u, t, _, hj, h => by
    have h' : x.cells.set j u = t.cells := h
    rw [List.flatMap_cons, List.set_cons_zero, List.flatMap_cons, Nat.zero_mul, Nat.zero_add, List.set_append_left _ _ (by show j < 6; exact hj), h']
  | x :: L, k + 1, j, u, t, hk, hj, h => by
    have ih := flat_setI L k j u t (by simpa using hk) hj h
    rw [List.flatMap_cons, List.set_cons_succ, List.flatMap_cons, ← ih, List.set_append_right _ _ (by show 6 ≤ _; omega)]
    congr 2
    show (k + 1) * 6 + j - 6 = k * 6 + j
    omega

/-- a store into the row -/
theorem ISt.put {g cap : Nat} (h : ISt w b K (.slice (some ⟨g, 0, none⟩) L.length cap) L m w') (k j : Nat) (u : Value) (t : Ins) (hk : k < L.length) (hj : j < 6) (hc : (ins L k).cells.set j u = t.cells) :
    Cur (w'.setCell ⟨g, k * 6 + j, none⟩ u) b m ∧ IRow (w'.setCell ⟨g, k * 6 + j, none⟩ u) (w.heap.size + 1) (.slice (some ⟨g, 0, none⟩) L.length cap) (L.set k t) ∧ w.grownBy (w'.setCell ⟨g, k * 6 + j, none⟩ u) (some b) := by
  have hlt := (World.ownsRow.lt h.row g rfl).1
  have h4 := h.b0
  have hg := Lib.grownBy_setCell w' g (k * 6 + j) u
  refine ⟨h.cur.grown hg (fun k hk => by simp at hk; omega), ?_, ?_⟩
  · have h1 := (World.ownsRow.stored h.row (k * 6 + j) u).1
    rw [flat_setI L k j u t hk hj hc] at h1
    show World.ownsRow _ _ _ _ _ _ _
    rw [List.length_set]
    exact h1
  · exact ⟨hg.os.trans h.gr.os, hg.tape.trans h.gr.tape, hg.output.trans h.gr.output, Nat.le_trans h.gr.size hg.size, fun i hi hne => (hg.block i (by have := h.gr.size; omega) (by simp; omega)).trans (h.gr.block i hi hne)⟩

theorem ISt.cell {g cap : Nat} (h : ISt w b K (.slice (some ⟨g, 0, none⟩) L.length cap) L m w') (k j : Nat) (hk : k < L.length) (hj : j < 6) : w'.cell? ⟨g, k * 6 + j, none⟩ = (ins L k).cells[j]? := by
  have h1 := World.ownsRow.cellAt h.row (k * 6 + j) (by omega)
  rw [flat6Ins L k j hk hj] at h1
  simpa using h1

theorem ISt.frozen {g cap : Nat} (h : ISt w b K (.slice (some ⟨g, 0, none⟩) L.length cap) L m w') (i : Nat) : w'.frozen? ⟨g, i, none⟩ = false := World.ownsRow.frozenAt h.row i

theorem set_textsI {L : List Ins} {k : Nat} {t : Ins} (h : ∀ x ∈ L, x.text.size ≤ 30) (ht : t.text.size ≤ 30) : ∀ x ∈ L.set k t, x.text.size ≤ 30 := by
  intro x hx
  rcases List.mem_or_eq_of_mem_set hx with hx | hx
  · exact h x hx
  · rw [hx]; exact ht

theorem snoc_texts {L : List Ins} {t : Ins} (h : ∀ x ∈ L, x.text.size ≤ 30) (ht : t.text.size ≤ 30) : ∀ x ∈ L ++ [t], x.text.size ≤ 30 := by
  intro x hx
  rcases List.mem_append.1 hx with q | q
  · exact h x q
  · simp at q; rw [q]; exact ht

theorem nil30 : (ByteArray.mk #[]).size ≤ 30 := by decide

theorem cpo_texts30 {T : List Wa} (h : ∀ x ∈ T, x.text.size ≤ 4) : ∀ x ∈ (cpo T).1, x.text.size ≤ 30 := by
  unfold cpo
  by_cases hg : gf T = true
  · rw [if_pos hg]
    intro x hx
    rcases List.mem_append.1 hx with hx | hx
    · refine cmp_text T (fun k hk => ?_) _ 0 (by have := gf_len hg; omega) x hx
      have := wa_text h hk
      omega
    · simp at hx
      subst hx
      exact nil30
  · rw [if_neg hg]; simp

theorem cpo_len41 (T : List Wa) : (cpo T).1.length ≤ 41 ∧ ((cpo T).2 = true → 1 ≤ (cpo T).1.length) := by
  unfold cpo
  by_cases h : gf T = true
  · rw [if_pos h]
    have := cl_root h
    unfold cl at this
    simp only [List.length_append, List.length_singleton]
    exact ⟨by omega, fun _ => by omega⟩
  · rw [if_neg h]; simp

set_option maxRecDepth 100000 in
set_option maxHeartbeats 16000000 in
theorem program_any (b m : Nat) (w : World) (hc : Cur w b m) (hm : m ≤ 700000000) :
    Calls Tryd.prog 31 #[.pointer (some ⟨b, 0, none⟩)] w (ProR b (m + 400) w) := by
  obtain ⟨i0, hi, hz0, hz1, hz2⟩ := info_parts Tryd.infoIns
  have hbw := hc.lt
  obtain ⟨W1, hW1⟩ : ∃ W, W = w.alloc (.cells #[.slice none 0 0] 30) := ⟨_, rfl⟩
  have hc1 : Cur W1 b m := by rw [hW1]; exact hc.alloc _
  have HS1 : Hid (W1.heap.size = w.heap.size + 1) := by show _ = _; rw [hW1]; simp
  have hg1 : w.grownBy W1 (some b) := by rw [hW1]; exact Lib.grownBy_allocR (World.grownBy.refl _ _) _
  have y1 : W1.cell? ⟨w.heap.size, 0, none⟩ = some (.slice none 0 0) := by rw [hW1]; go_simp
  have z1 : W1.frozen? ⟨w.heap.size, 0, none⟩ = false := by rw [hW1]; go_simp
  have hs1 : w.heap.size < W1.heap.size := by have := HS1.out; omega
  clear hc
  go_enter Tryd.func31, Tryd.ntmps31
  go_wp2_with fail
  rw [← hW1]
  clear hW1
  refine (filter_any b m W1 hc1 (by omega)).mono ?_
  rintro e w2 ⟨rvF, F, rfl, hrF, hF1, hF15, hFt, hc2, hg2⟩
  obtain ⟨aF, cF, hvF⟩ := hrF.slice
  subst hvF
  have hwF : Hid (WasAt w2 w2.heap.size (.slice aF F.length cF) F) := WasAt.own hrF (fun i hi => by have := wa_text hFt hi; unfold maxLen; omega)
  have y2 : w2.cell? ⟨w.heap.size, 0, none⟩ = some (.slice none 0 0) := hg2.cell y1 (by simp; omega)
  have z2 : w2.frozen? ⟨w.heap.size, 0, none⟩ = false := (hg2.frozen_far _ hs1 (by simp; omega)).trans z1
  have hg2' := Lib.grownBy_trans hg1 hg2
  have hs2 : w.heap.size < w2.heap.size := World.block_lt_of_cell? w2 _ y2
  have HPT : Hid (∀ x ∈ (cpo F).1, x.text.size ≤ 30) := cpo_texts30 hFt
  obtain ⟨hPL, hP1⟩ := cpo_len41 F
  have CS : Hid (Calls Tryd.prog 7 #[.agg #[.slice aF F.length cF]] w2 fun e w' => OPro w2 w' e (cpo F)) := specCompile F _ w2 hwF.out
  obtain ⟨Q, hQ⟩ : ∃ Q, Q = cpo F := ⟨_, rfl⟩
  rw [← hQ] at CS HPT hPL hP1
  clear hQ
  obtain ⟨P, ok⟩ := Q
  dsimp only at HPT hPL hP1
  have HP1 : Hid (ok = true → 1 ≤ P.length) := hP1
  clear hP1 hc1 hg1 hg2 y1 z1 hs1 hrF hFt hwF
  go_wp2_with fail
  refine CS.out.mono ?_
  rintro e w3 ⟨rvP, rfl, hrP, hb3⟩
  dsimp only at hrP ⊢
  obtain ⟨aP, cP, hvP, _, _⟩ := hrP.slice
  subst hvP
  obtain ⟨W4, hW4⟩ : ∃ W, W = w3.alloc (.cells #[.slice aP P.length cP] 30) := ⟨_, rfl⟩
  obtain ⟨K, hK⟩ : ∃ K, K = w3.heap.size := ⟨_, rfl⟩
  have hsz3 := hb3.size
  have hS4 : ISt w b K (.slice aP P.length cP) P (m + 200) W4 := by
    have ha : w3.grownBy (w3.alloc (.cells #[.slice aP P.length cP] 30)) none := Lib.grownBy_allocR (World.grownBy.refl w3 none) _
    have y3 := (hb3.cell (p := ⟨w.heap.size, 0, none⟩) hs2).trans y2
    have z3 := (hb3.frozen (p := ⟨w.heap.size, 0, none⟩) hs2).trans z2
    have hc3 : Cur w3 b (m + 200) := hc2.below (hb3.mono (by have := hc2.lt; omega))
    have hg3 : w.grownBy w3 (some b) := ⟨hb3.os.trans hg2'.os, hb3.tape.trans hg2'.tape, hb3.output.trans hg2'.output, Nat.le_trans hg2'.size hb3.size, fun i hi hne => (hb3.block i (by have := hg2'.size; omega)).trans (hg2'.block i hi hne)⟩
    have hlP := World.ownsRow.lt hrP
    rw [hW4, hK]
    exact ⟨hc3.alloc _, (GrS.of ha).irow (hrP.lower (by omega)) (fun k _ e => by cases e), by go_simp, by go_simp, ha.cell y3 (by simp), (ha.frozen_far _ (by show w.heap.size < _; omega) (by simp)).trans z3, Lib.grownBy_allocR hg3 _, fun e => by have := (hlP _ e).2; omega, by omega, hbw⟩
  clear hrP hb3 y2 z2 hg2' hs2 CS hc2
  have HPN : Hid (P.length ≤ 41) := hPL
  clear hPL
  go_upto_region 2 with fail
  rw [← hW4]
  (try rw [← hK])
  clear hW4 hK hsz3
  go_cut [20] (fun s20 wx => ∃ d, s20 = .bool d ∧ (d = false → 1 ≤ P.length) ∧ ISt w b K (.slice aP P.length cP) P (m + 202) wx)
  case first =>
    cases ok with
    | false =>
      go_wp2_with fail
      go_meet
      exact ⟨true, rfl, fun h => by simp at h, hS4.le (by omega)⟩
    | true =>
      have hP1 := HP1.out rfl
      go_wp2_with fail
      refine (one_any b _ 4 _ hS4.cur (by omega)).mono ?_
      rintro e w5 ⟨t, rfl, hc5, hg5⟩
      have hS5 := hS4.pick hc5 hg5
      clear hS4 hc5 hg5
      go_wp2_with fail
      go_meet
      exact ⟨t, rfl, fun _ => hP1, hS5⟩
  case rest =>
    obtain ⟨d, rfl, hd1, hS5⟩ := hcut
    have HD1 : Hid (d = false → 1 ≤ P.length) := hd1
    have HS5 : Hid (ISt w b K (.slice aP P.length cP) P (m + 202) wc) := hS5
    clear hS4 hd1 hS5
    go_upto_if 20 with fail
    go_cut [20] (fun s20 wx => s20 = .bool d ∧ ∃ L rv, 1 ≤ L.length ∧ L.length ≤ 42 ∧ (∀ x ∈ L, x.text.size ≤ 30) ∧ ISt w b K rv L (m + 300) wx)
    case first =>
      cases d with
      | false =>
        go_wp2_with fail
        go_meet
        exact ⟨rfl, P, _, HD1.out (by trivial), by have := HPN.out; omega, HPT.out, HS5.out.le (by omega)⟩
      | true =>
        go_wp2_with fail
        refine (pick_any b _ 8 _ HS5.out.cur (by omega)).mono ?_
        rintro e w6 ⟨n0, rfl, hn0, hc6, hg6⟩
        have hS6 := HS5.out.pick hc6 hg6
        obtain ⟨n, hn⟩ : ∃ n : Nat, n = 1 + n0 := ⟨_, rfl⟩
        have hn8 : n ≤ 8 := by omega
        have hn1 : 1 ≤ n := by omega
        have hne : 1 + (n0 : Int) = (n : Int) := by omega
        have q6 := hS6.q
        have f6 := hS6.qf
        have HSn : Hid (ISt w b K (.slice none 0 0) [] (m + 220) (w6.setCell ⟨K, 0, none⟩ (.slice none 0 0))) := (hS6.setK (show IRow _ _ _ [] from World.ownsRow_nil _ _ _ _) (by simp [Value.ownBlock])).le (by omega)
        clear hn hn0 hc6 hg6 hS6 HS5 HD1 HPT HPN
        go_wp2_with fail
        go_loopw [6] (fun vi wr => ∃ (i : Nat) (L : List Ins) (rv : Value), i ≤ n ∧ vi = .int .i64 (i : Int) ∧ Hid (L.length = i) ∧ Hid (∀ x ∈ L, x.text.size ≤ 30) ∧ Hid (ISt w b K rv L (m + 220 + 8 * i) wr))
          (fun vi _ => n - (intOf vi).toNat)
        case atStart => exact ⟨0, [], _, by omega, rfl, rfl, fun x hx => by simp at hx, HSn⟩
        case round =>
          obtain ⟨i, L, rv, hin, rfl, hLi, hTx, hS⟩ := hrel
          clear q6 f6 HSn
          by_cases hlt : i < n
          · have hltI : (i : Int) < (n : Int) := by omega
            have hL8 : L.length ≤ 8 := by have := hLi.out; omega
            go_wp2_with fail
            refine (pick_any b _ 4 _ hS.out.cur (by omega)).mono ?_
            rintro e w7 ⟨x1, rfl, hx1, hc7, hg7⟩
            have hS7 := hS.out.pick hc7 hg7
            have hx4 : x1 = 0 ∨ x1 = 1 ∨ x1 = 2 ∨ x1 = 3 := by omega
            have hK0 := hS7.K0
            have hb0 := hS7.b0
            have hkl := hS7.kl
            have hrl : rv.ownBlock ≠ some w7.heap.size := fun e => by have := (World.ownsRow.lt hS7.row _ e).2; omega
            clear hc7 hg7 hS hx1
            rcases hx4 with rfl | rfl | rfl | rfl
            · obtain ⟨W8, hW8⟩ : ∃ W, W = w7.alloc (.cells #[.int .i64 1, .int .i64 0, .int .i64 0, .int .i64 0, .string ⟨#[]⟩, .int .i64 0] 59) := ⟨_, rfl⟩
              have hS8 : ISt w b K rv L (m + 220 + 8 * i + 2) W8 := by rw [hW8]; exact hS7.alloc _
              have h68 : SixI W8 w7.heap.size ⟨1, 0, 0, 0, ⟨#[]⟩, 0⟩ := by rw [hW8]; exact SixI.made w7 ⟨1, 0, 0, 0, ⟨#[]⟩, 0⟩
              have hl8 : w7.heap.size < W8.heap.size := h68.lt
              have c08 : W8.cell? ⟨w7.heap.size, 0, none⟩ = some (.int .i64 1) := h68.1.1
              go_wp2_with fail
              rw [← hW8]
              clear hW8
              refine (pick_any b _ 4 _ hS8.cur (by omega)).mono ?_
              rintro e w9 ⟨y, rfl, hy, hc9, hg9⟩
              have hS9 := hS8.pick hc9 hg9
              have h69 := h68.pick hg9 (by omega)
              have hy4 : (y : Int) ≤ 3 := by omega
              obtain ⟨W10, hW10⟩ : ∃ W, W = w9.setCell ⟨w7.heap.size, 2, none⟩ (.int .i64 (1 + (y : Int))) := ⟨_, rfl⟩
              have hS10 : ISt w b K rv L (m + 220 + 8 * i + 2 + 2) W10 := by rw [hW10]; exact hS9.far (by omega) (by omega) hrl _ _
              have h610 : SixI W10 w7.heap.size ⟨1, 0, 1 + (y : Int), 0, ⟨#[]⟩, 0⟩ := by rw [hW10]; exact h69.no _
              have x0 := h69.1.2.2.1
              have x1 := h69.2 2
              dsimp only at x0
              go_upto_region 19 with fail
              rw [← hW10]
              clear hW10 x0 x1 h69 h68 hS8 hS9 hc9 hg9 hy c08 hS7
              have HSW : Hid (ISt w b K rv L (m + 220 + 8 * i + 2 + 2) W10) := hS10
              obtain ⟨⟨c0, c1, c2, c3, c4, c5⟩, ff⟩ := h610
              dsimp only at c0 c1 c2 c3 c4 c5
              have qw := HSW.out.q
              have hrow9 := HSW.out.row
              have hsz9 : w.heap.size + 1 ≤ W10.heap.size := HSW.out.yl
              go_wp2_with (at_builtin; refine wpList_append_lies _ rfl _ _ 28 rfl (w.heap.size + 1) 59 i0 (.agg #[.int .i64 0, .int .i64 0, .int .i64 0, .int .i64 0, .string ⟨#[]⟩, .int .i64 0]) 6 56 Tryd.underlying28 hi hz0 hz1 hz2 rfl (by decide) _ L.length _ rfl (World.ownsRow.alloc hrow9 _) ⟨W10.heap.size, 0, none⟩ 1 1 [.int .i64 1, .int .i64 0, .int .i64 (1 + (y : Int)), .int .i64 0, .string ⟨#[]⟩, .int .i64 0] rfl rfl (World.news_of_block (heap_alloc_new W10 _)) (one6I _ _ _ _ _ _) (by omega) (by unfold maxLen; omega) (by omega) (by simp; omega) (W10.heap.size + 1) (by simp) ?_)
              intro g9 cap9 w9 hown9 hgrow9 hat9 hlt9
              obtain ⟨q9, f9, k9, hS9⟩ := HSW.out.grow (t := ⟨1, 0, 1 + (y : Int), 0, ⟨#[]⟩, 0⟩) (by simpa [Ins.cells] using hown9) hgrow9 hat9
              have HS9 : Hid (ISt w b K (.slice (some ⟨g9, 0, none⟩) (L.length + 1) cap9) (L ++ [⟨1, 0, 1 + (y : Int), 0, ⟨#[]⟩, 0⟩]) (m + 220 + 8 * (i + 1)) (w9.setCell ⟨K, 0, none⟩ (.slice (some ⟨g9, 0, none⟩) (L.length + 1) cap9))) := hS9.le (by omega)
              have HT9 : Hid (∀ x ∈ L ++ [⟨1, 0, 1 + (y : Int), 0, ⟨#[]⟩, 0⟩], x.text.size ≤ 30) := snoc_texts hTx.out nil30
              clear c0 c1 c2 c3 c4 c5 ff qw hrow9 hown9 hgrow9 hat9 hlt9 hS9 HSW
              go_wp2
              go_roundw
              case rel => exact ⟨i + 1, L ++ [⟨1, 0, 1 + (y : Int), 0, ⟨#[]⟩, 0⟩], _, by omega, by go_num, by show (L ++ [_]).length = i + 1; rw [List.length_append, List.length_singleton, hLi.out], HT9, HS9⟩
              case measure => simp [intOf]; omega
            · obtain ⟨W8, hW8⟩ : ∃ W, W = w7.alloc (.cells #[.int .i64 2, .int .i64 0, .int .i64 0, .int .i64 0, .string ⟨#[]⟩, .int .i64 0] 59) := ⟨_, rfl⟩
              have hS8 : ISt w b K rv L (m + 220 + 8 * i + 2) W8 := by rw [hW8]; exact hS7.alloc _
              have h68 : SixI W8 w7.heap.size ⟨2, 0, 0, 0, ⟨#[]⟩, 0⟩ := by rw [hW8]; exact SixI.made w7 ⟨2, 0, 0, 0, ⟨#[]⟩, 0⟩
              have hl8 : w7.heap.size < W8.heap.size := h68.lt
              have c08 : W8.cell? ⟨w7.heap.size, 0, none⟩ = some (.int .i64 2) := h68.1.1
              go_wp2_with fail
              rw [← hW8]
              clear hW8
              refine (pick_any b _ 4 _ hS8.cur (by omega)).mono ?_
              rintro e w9 ⟨y, rfl, hy, hc9, hg9⟩
              have hS9 := hS8.pick hc9 hg9
              have h69 := h68.pick hg9 (by omega)
              have hy4 : (y : Int) ≤ 3 := by omega
              obtain ⟨W10, hW10⟩ : ∃ W, W = w9.setCell ⟨w7.heap.size, 1, none⟩ (.int .i64 (1 + (y : Int))) := ⟨_, rfl⟩
              have hS10 : ISt w b K rv L (m + 220 + 8 * i + 2 + 2) W10 := by rw [hW10]; exact hS9.far (by omega) (by omega) hrl _ _
              have h610 : SixI W10 w7.heap.size ⟨2, 1 + (y : Int), 0, 0, ⟨#[]⟩, 0⟩ := by rw [hW10]; exact h69.kind _
              have x0 := h69.1.2.1
              have x1 := h69.2 1
              have x2 : W10.cell? ⟨w7.heap.size, 1, none⟩ = some (.int .i64 (1 + (y : Int))) := h610.1.2.1
              dsimp only at x0
              go_upto_region 14 with fail
              rw [← hW10]
              clear hW10 x0 x1 h69 h68 hS8 hS9 hc9 hg9 c08 hS7
              by_cases hy3 : y = 3
              · have dy : decide (1 + (y : Int) ≤ 3) = false := by simp; omega
                clear hy hy3
                go_upto_region 19 with fail
                clear x2
                have HSW : Hid (ISt w b K rv L (m + 220 + 8 * i + 2 + 2) W10) := hS10
                obtain ⟨⟨c0, c1, c2, c3, c4, c5⟩, ff⟩ := h610
                dsimp only at c0 c1 c2 c3 c4 c5
                have qw := HSW.out.q
                have hrow9 := HSW.out.row
                have hsz9 : w.heap.size + 1 ≤ W10.heap.size := HSW.out.yl
                go_wp2_with (at_builtin; refine wpList_append_lies _ rfl _ _ 28 rfl (w.heap.size + 1) 59 i0 (.agg #[.int .i64 0, .int .i64 0, .int .i64 0, .int .i64 0, .string ⟨#[]⟩, .int .i64 0]) 6 56 Tryd.underlying28 hi hz0 hz1 hz2 rfl (by decide) _ L.length _ rfl (World.ownsRow.alloc hrow9 _) ⟨W10.heap.size, 0, none⟩ 1 1 [.int .i64 2, .int .i64 (1 + (y : Int)), .int .i64 0, .int .i64 0, .string ⟨#[]⟩, .int .i64 0] rfl rfl (World.news_of_block (heap_alloc_new W10 _)) (one6I _ _ _ _ _ _) (by omega) (by unfold maxLen; omega) (by omega) (by simp; omega) (W10.heap.size + 1) (by simp) ?_)
                intro g9 cap9 w9 hown9 hgrow9 hat9 hlt9
                obtain ⟨q9, f9, k9, hS9⟩ := HSW.out.grow (t := ⟨2, 1 + (y : Int), 0, 0, ⟨#[]⟩, 0⟩) (by simpa [Ins.cells] using hown9) hgrow9 hat9
                have HS9 : Hid (ISt w b K (.slice (some ⟨g9, 0, none⟩) (L.length + 1) cap9) (L ++ [⟨2, 1 + (y : Int), 0, 0, ⟨#[]⟩, 0⟩]) (m + 220 + 8 * (i + 1)) (w9.setCell ⟨K, 0, none⟩ (.slice (some ⟨g9, 0, none⟩) (L.length + 1) cap9))) := hS9.le (by omega)
                have HT9 : Hid (∀ x ∈ L ++ [⟨2, 1 + (y : Int), 0, 0, ⟨#[]⟩, 0⟩], x.text.size ≤ 30) := snoc_texts hTx.out nil30
                clear c0 c1 c2 c3 c4 c5 ff qw hrow9 hown9 hgrow9 hat9 hlt9 hS9 HSW
                go_wp2
                go_roundw
                case rel => exact ⟨i + 1, L ++ [⟨2, 1 + (y : Int), 0, 0, ⟨#[]⟩, 0⟩], _, by omega, by go_num, by show (L ++ [_]).length = i + 1; rw [List.length_append, List.length_singleton, hLi.out], HT9, HS9⟩
                case measure => simp [intOf]; omega
              · have dy : decide (1 + (y : Int) ≤ 3) = true := by simp; omega
                clear hy hy3
                go_wp2_with fail
                refine (pick_any b _ 8 _ hS10.cur (by omega)).mono ?_
                rintro e w11 ⟨u, rfl, hu, hc11, hg11⟩
                have hS11 := hS10.pick hc11 hg11
                have h611 := h610.pick hg11 (by omega)
                have hu8 : (u : Int) ≤ 7 := by omega
                obtain ⟨W12, hW12⟩ : ∃ W, W = w11.setCell ⟨w7.heap.size, 3, none⟩ (.int .i64 (u : Int)) := ⟨_, rfl⟩
                have hS12 : ISt w b K rv L (m + 220 + 8 * i + 2 + 2 + 2) W12 := by rw [hW12]; exact hS11.far (by omega) (by omega) hrl _ _
                have h612 : SixI W12 w7.heap.size ⟨2, 1 + (y : Int), 0, (u : Int), ⟨#[]⟩, 0⟩ := by rw [hW12]; exact h611.num _
                have x0 := h611.1.2.2.2.1
                have x1 := h611.2 3
                dsimp only at x0
                go_upto_region 19 with fail
                rw [← hW12]
                clear hW12 x0 x1 x2 h611 h610 hS10 hS11 hc11 hg11 hu
                have HSW : Hid (ISt w b K rv L (m + 220 + 8 * i + 2 + 2 + 2) W12) := hS12
                obtain ⟨⟨c0, c1, c2, c3, c4, c5⟩, ff⟩ := h612
                dsimp only at c0 c1 c2 c3 c4 c5
                have qw := HSW.out.q
                have hrow9 := HSW.out.row
                have hsz9 : w.heap.size + 1 ≤ W12.heap.size := HSW.out.yl
                go_wp2_with (at_builtin; refine wpList_append_lies _ rfl _ _ 28 rfl (w.heap.size + 1) 59 i0 (.agg #[.int .i64 0, .int .i64 0, .int .i64 0, .int .i64 0, .string ⟨#[]⟩, .int .i64 0]) 6 56 Tryd.underlying28 hi hz0 hz1 hz2 rfl (by decide) _ L.length _ rfl (World.ownsRow.alloc hrow9 _) ⟨W12.heap.size, 0, none⟩ 1 1 [.int .i64 2, .int .i64 (1 + (y : Int)), .int .i64 0, .int .i64 (u : Int), .string ⟨#[]⟩, .int .i64 0] rfl rfl (World.news_of_block (heap_alloc_new W12 _)) (one6I _ _ _ _ _ _) (by omega) (by unfold maxLen; omega) (by omega) (by simp; omega) (W12.heap.size + 1) (by simp) ?_)
                intro g9 cap9 w9 hown9 hgrow9 hat9 hlt9
                obtain ⟨q9, f9, k9, hS9⟩ := HSW.out.grow (t := ⟨2, 1 + (y : Int), 0, (u : Int), ⟨#[]⟩, 0⟩) (by simpa [Ins.cells] using hown9) hgrow9 hat9
                have HS9 : Hid (ISt w b K (.slice (some ⟨g9, 0, none⟩) (L.length + 1) cap9) (L ++ [⟨2, 1 + (y : Int), 0, (u : Int), ⟨#[]⟩, 0⟩]) (m + 220 + 8 * (i + 1)) (w9.setCell ⟨K, 0, none⟩ (.slice (some ⟨g9, 0, none⟩) (L.length + 1) cap9))) := hS9.le (by omega)
                have HT9 : Hid (∀ x ∈ L ++ [⟨2, 1 + (y : Int), 0, (u : Int), ⟨#[]⟩, 0⟩], x.text.size ≤ 30) := snoc_texts hTx.out nil30
                clear c0 c1 c2 c3 c4 c5 ff qw hrow9 hown9 hgrow9 hat9 hlt9 hS9 HSW
                go_wp2
                go_roundw
                case rel => exact ⟨i + 1, L ++ [⟨2, 1 + (y : Int), 0, (u : Int), ⟨#[]⟩, 0⟩], _, by omega, by go_num, by show (L ++ [_]).length = i + 1; rw [List.length_append, List.length_singleton, hLi.out], HT9, HS9⟩
                case measure => simp [intOf]; omega
            · obtain ⟨W8, hW8⟩ : ∃ W, W = w7.alloc (.cells #[.int .i64 3, .int .i64 0, .int .i64 0, .int .i64 0, .string ⟨#[]⟩, .int .i64 0] 59) := ⟨_, rfl⟩
              have hS8 : ISt w b K rv L (m + 220 + 8 * i + 2) W8 := by rw [hW8]; exact hS7.alloc _
              have h68 : SixI W8 w7.heap.size ⟨3, 0, 0, 0, ⟨#[]⟩, 0⟩ := by rw [hW8]; exact SixI.made w7 ⟨3, 0, 0, 0, ⟨#[]⟩, 0⟩
              have hl8 : w7.heap.size < W8.heap.size := h68.lt
              have c08 : W8.cell? ⟨w7.heap.size, 0, none⟩ = some (.int .i64 3) := h68.1.1
              go_wp2_with fail
              rw [← hW8]
              clear hW8
              refine (pick_any b _ 2 _ hS8.cur (by omega)).mono ?_
              rintro e w9 ⟨y, rfl, hy, hc9, hg9⟩
              have hS9 := hS8.pick hc9 hg9
              have h69 := h68.pick hg9 (by omega)
              have hy4 : (y : Int) ≤ 3 := by omega
              obtain ⟨W10, hW10⟩ : ∃ W, W = w9.setCell ⟨w7.heap.size, 3, none⟩ (.int .i64 (y : Int)) := ⟨_, rfl⟩
              have hS10 : ISt w b K rv L (m + 220 + 8 * i + 2 + 2) W10 := by rw [hW10]; exact hS9.far (by omega) (by omega) hrl _ _
              have h610 : SixI W10 w7.heap.size ⟨3, 0, 0, (y : Int), ⟨#[]⟩, 0⟩ := by rw [hW10]; exact h69.num _
              have x0 := h69.1.2.2.2.1
              have x1 := h69.2 3
              dsimp only at x0
              go_upto_region 18 with fail
              rw [← hW10]
              clear hW10 x0 x1 h69 h68 hS8 hS9 hc9 hg9 hy c08 hS7
              go_wp2_with fail
              refine (pick_any b _ _ _ hS10.cur (by omega)).mono ?_
              rintro e w11 ⟨u, rfl, hu, hc11, hg11⟩
              have hS11 := hS10.pick hc11 hg11
              have h611 := h610.pick hg11 (by omega)
              have hu8 : (u : Int) ≤ 8 := by omega
              obtain ⟨W12, hW12⟩ : ∃ W, W = w11.setCell ⟨w7.heap.size, 5, none⟩ (.int .i64 ((i : Int) + 1 + (u : Int))) := ⟨_, rfl⟩
              have hS12 : ISt w b K rv L (m + 220 + 8 * i + 2 + 2 + 2) W12 := by rw [hW12]; exact hS11.far (by omega) (by omega) hrl _ _
              have h612 : SixI W12 w7.heap.size ⟨3, 0, 0, (y : Int), ⟨#[]⟩, (i : Int) + 1 + (u : Int)⟩ := by rw [hW12]; exact h611.dst _
              have x0 := h611.1.2.2.2.2.2
              have x1 := h611.2 5
              dsimp only at x0
              go_upto_region 19 with fail
              rw [← hW12]
              clear hW12 x0 x1 h611 h610 hS10 hS11 hc11 hg11 hu
              have HSW : Hid (ISt w b K rv L (m + 220 + 8 * i + 2 + 2 + 2) W12) := hS12
              obtain ⟨⟨c0, c1, c2, c3, c4, c5⟩, ff⟩ := h612
              dsimp only at c0 c1 c2 c3 c4 c5
              have qw := HSW.out.q
              have hrow9 := HSW.out.row
              have hsz9 : w.heap.size + 1 ≤ W12.heap.size := HSW.out.yl
              go_wp2_with (at_builtin; refine wpList_append_lies _ rfl _ _ 28 rfl (w.heap.size + 1) 59 i0 (.agg #[.int .i64 0, .int .i64 0, .int .i64 0, .int .i64 0, .string ⟨#[]⟩, .int .i64 0]) 6 56 Tryd.underlying28 hi hz0 hz1 hz2 rfl (by decide) _ L.length _ rfl (World.ownsRow.alloc hrow9 _) ⟨W12.heap.size, 0, none⟩ 1 1 [.int .i64 3, .int .i64 0, .int .i64 0, .int .i64 (y : Int), .string ⟨#[]⟩, .int .i64 ((i : Int) + 1 + (u : Int))] rfl rfl (World.news_of_block (heap_alloc_new W12 _)) (one6I _ _ _ _ _ _) (by omega) (by unfold maxLen; omega) (by omega) (by simp; omega) (W12.heap.size + 1) (by simp) ?_)
              intro g9 cap9 w9 hown9 hgrow9 hat9 hlt9
              obtain ⟨q9, f9, k9, hS9⟩ := HSW.out.grow (t := ⟨3, 0, 0, (y : Int), ⟨#[]⟩, (i : Int) + 1 + (u : Int)⟩) (by simpa [Ins.cells] using hown9) hgrow9 hat9
              have HS9 : Hid (ISt w b K (.slice (some ⟨g9, 0, none⟩) (L.length + 1) cap9) (L ++ [⟨3, 0, 0, (y : Int), ⟨#[]⟩, (i : Int) + 1 + (u : Int)⟩]) (m + 220 + 8 * (i + 1)) (w9.setCell ⟨K, 0, none⟩ (.slice (some ⟨g9, 0, none⟩) (L.length + 1) cap9))) := hS9.le (by omega)
              have HT9 : Hid (∀ x ∈ L ++ [⟨3, 0, 0, (y : Int), ⟨#[]⟩, (i : Int) + 1 + (u : Int)⟩], x.text.size ≤ 30) := snoc_texts hTx.out nil30
              clear c0 c1 c2 c3 c4 c5 ff qw hrow9 hown9 hgrow9 hat9 hlt9 hS9 HSW
              go_wp2
              go_roundw
              case rel => exact ⟨i + 1, L ++ [⟨3, 0, 0, (y : Int), ⟨#[]⟩, (i : Int) + 1 + (u : Int)⟩], _, by omega, by go_num, by show (L ++ [_]).length = i + 1; rw [List.length_append, List.length_singleton, hLi.out], HT9, HS9⟩
              case measure => simp [intOf]; omega
            · obtain ⟨W8, hW8⟩ : ∃ W, W = w7.alloc (.cells #[.int .i64 4, .int .i64 0, .int .i64 0, .int .i64 0, .string ⟨#[]⟩, .int .i64 0] 59) := ⟨_, rfl⟩
              have hS8 : ISt w b K rv L (m + 220 + 8 * i + 2) W8 := by rw [hW8]; exact hS7.alloc _
              have h68 : SixI W8 w7.heap.size ⟨4, 0, 0, 0, ⟨#[]⟩, 0⟩ := by rw [hW8]; exact SixI.made w7 ⟨4, 0, 0, 0, ⟨#[]⟩, 0⟩
              have hl8 : w7.heap.size < W8.heap.size := h68.lt
              have c08 : W8.cell? ⟨w7.heap.size, 0, none⟩ = some (.int .i64 4) := h68.1.1
              go_upto_region 9 with fail
              rw [← hW8]
              clear hW8 hS7
              go_upto_region 19 with fail
              clear c08
              have HSW : Hid (ISt w b K rv L (m + 220 + 8 * i + 2) W8) := hS8
              obtain ⟨⟨c0, c1, c2, c3, c4, c5⟩, ff⟩ := h68
              dsimp only at c0 c1 c2 c3 c4 c5
              have qw := HSW.out.q
              have hrow9 := HSW.out.row
              have hsz9 : w.heap.size + 1 ≤ W8.heap.size := HSW.out.yl
              go_wp2_with (at_builtin; refine wpList_append_lies _ rfl _ _ 28 rfl (w.heap.size + 1) 59 i0 (.agg #[.int .i64 0, .int .i64 0, .int .i64 0, .int .i64 0, .string ⟨#[]⟩, .int .i64 0]) 6 56 Tryd.underlying28 hi hz0 hz1 hz2 rfl (by decide) _ L.length _ rfl (World.ownsRow.alloc hrow9 _) ⟨W8.heap.size, 0, none⟩ 1 1 [.int .i64 4, .int .i64 0, .int .i64 0, .int .i64 0, .string ⟨#[]⟩, .int .i64 0] rfl rfl (World.news_of_block (heap_alloc_new W8 _)) (one6I _ _ _ _ _ _) (by omega) (by unfold maxLen; omega) (by omega) (by simp; omega) (W8.heap.size + 1) (by simp) ?_)
              intro g9 cap9 w9 hown9 hgrow9 hat9 hlt9
              obtain ⟨q9, f9, k9, hS9⟩ := HSW.out.grow (t := ⟨4, 0, 0, 0, ⟨#[]⟩, 0⟩) (by simpa [Ins.cells] using hown9) hgrow9 hat9
              have HS9 : Hid (ISt w b K (.slice (some ⟨g9, 0, none⟩) (L.length + 1) cap9) (L ++ [⟨4, 0, 0, 0, ⟨#[]⟩, 0⟩]) (m + 220 + 8 * (i + 1)) (w9.setCell ⟨K, 0, none⟩ (.slice (some ⟨g9, 0, none⟩) (L.length + 1) cap9))) := hS9.le (by omega)
              have HT9 : Hid (∀ x ∈ L ++ [⟨4, 0, 0, 0, ⟨#[]⟩, 0⟩], x.text.size ≤ 30) := snoc_texts hTx.out nil30
              clear c0 c1 c2 c3 c4 c5 ff qw hrow9 hown9 hgrow9 hat9 hlt9 hS9 HSW
              go_wp2
              go_roundw
              case rel => exact ⟨i + 1, L ++ [⟨4, 0, 0, 0, ⟨#[]⟩, 0⟩], _, by omega, by go_num, by show (L ++ [_]).length = i + 1; rw [List.length_append, List.length_singleton, hLi.out], HT9, HS9⟩
              case measure => simp [intOf]; omega
          · have hge : ¬ ((i : Int) < (n : Int)) := by omega
            have hL8 : L.length ≤ 8 := by have := hLi.out; omega
            have qw := hS.out.q
            have hrow9 := hS.out.row
            have HSW : Hid (ISt w b K rv L (m + 220 + 8 * i) wr) := hS
            have hsz9 : w.heap.size + 1 ≤ wr.heap.size := HSW.out.yl
            go_wp2_with (at_builtin; refine wpList_append_lies _ rfl _ _ 28 rfl (w.heap.size + 1) 59 i0 (.agg #[.int .i64 0, .int .i64 0, .int .i64 0, .int .i64 0, .string ⟨#[]⟩, .int .i64 0]) 6 56 Tryd.underlying28 hi hz0 hz1 hz2 rfl (by decide) _ L.length _ rfl (World.ownsRow.alloc hrow9 _) ⟨wr.heap.size, 0, none⟩ 1 1 [.int .i64 5, .int .i64 0, .int .i64 0, .int .i64 0, .string ⟨#[]⟩, .int .i64 0] rfl rfl (World.news_of_block (heap_alloc_new wr _)) (one6I _ _ _ _ _ _) (by omega) (by unfold maxLen; omega) (by omega) (by simp; omega) (wr.heap.size + 1) (by simp) ?_)
            intro g9 cap9 w9 hown9 hgrow9 hat9 hlt9
            obtain ⟨q9, f9, k9, hS9⟩ := HSW.out.grow (t := iEnd) (by simpa [Ins.cells, iEnd] using hown9) hgrow9 hat9
            have HS9 : Hid (ISt w b K (.slice (some ⟨g9, 0, none⟩) (L.length + 1) cap9) (L ++ [iEnd]) (m + 300) (w9.setCell ⟨K, 0, none⟩ (.slice (some ⟨g9, 0, none⟩) (L.length + 1) cap9))) := hS9.le (by omega)
            have HT9 : Hid (∀ x ∈ L ++ [iEnd], x.text.size ≤ 30) := snoc_texts hTx.out nil30
            clear qw hrow9 hown9 hgrow9 hat9 hlt9 hS9 HSW hS
            go_wp2_with fail
            go_meet
            exact ⟨rfl, L ++ [iEnd], _, by simp, by simp; omega, HT9.out, HS9.out⟩
    case rest =>
      obtain ⟨rfl, L, rv, hL1, hL42, hLt, hS6⟩ := hcut
      clear HS5 HD1 HPT HPN HP1
      obtain ⟨g, cap, hv⟩ := Joins.ownsRow_form hS6.row (by omega)
      subst hv
      have hLi : (0 : Int) < (L.length : Int) := by omega
      have hLi2 : (L.length : Int) ≤ 42 := by omega
      have hg0 := (World.ownsRow.lt hS6.row g rfl).1
      have HLT : Hid (∀ x ∈ L, x.text.size ≤ 30) := hLt
      clear hLt
      go_wp2_with fail
      refine (one_any b _ 20 _ hS6.cur (by omega)).mono ?_
      rintro e w7 ⟨t, rfl, hc7, hg7⟩
      have hS7 := hS6.pick hc7 hg7
      have y7 := hS7.y
      have z7 := hS7.z
      have q7 := hS7.q
      have hnK := hS7.nK
      have hgK : g ≠ K := fun e => hnK (by rw [e]; rfl)
      have hK0 := hS7.K0
      clear hS6 hc7 hg7 hnK
      cases t
      · go_wp2
        (try simp only [Exit.inBlock, Exit.then])
        refine bodyPost_ret (v := .agg #[.slice (some ⟨g, 0, none⟩) L.length cap]) ?_ rfl ?_
        · rw [results_cell1 rfl]
          go_simp
        · exact pro_fin hS7.cur hS7.row hS7.gr hbw hL42 HLT.out (by omega) _
      · go_wp2_with fail
        refine (pick_any b _ (L.length : Int) _ hS7.cur (by omega)).mono ?_
        rintro e w8 ⟨k, rfl, hk, hc8, hg8⟩
        have hS8 := hS7.pick hc8 hg8
        have hk' : k < L.length := by omega
        have hki : (k : Int) < (L.length : Int) := by omega
        clear hS7 hc8 hg8 hk y7 z7 q7
        go_wp2_with fail
        refine (pick_any b _ 3 _ hS8.cur (by omega)).mono ?_
        rintro e w9 ⟨x3, rfl, hx3', hc9, hg9⟩
        have hS9 := hS8.pick hc9 hg9
        have hx33 : x3 = 0 ∨ x3 = 1 ∨ x3 = 2 := by omega
        have q9 := hS9.q
        have q9d : w9.drew.cell? ⟨K, 0, none⟩ = some (.slice (some ⟨g, 0, none⟩) L.length cap) := q9
        have hS9d := hS9.drew
        have hcd := hS9d.cur
        obtain ⟨tk, htk⟩ : ∃ t, t = ins L k := ⟨_, rfl⟩
        have HTK : Hid (ins L k = tk) := htk.symm
        have htx : tk.text.size ≤ 30 := by
          rw [htk]
          apply HLT.out
          exact List.mem_of_getElem? (ins_get hk')
        clear htk hS8 hc9 hg9 hx3'
        obtain ⟨co, ki, no, nu, tx, ds⟩ := tk
        dsimp only at htx
        rcases hx33 with rfl | rfl | rfl
        · go_upto_region 26 with fail
          go_region_held3 (fun w' => w'.cell? ⟨K, 0, none⟩ = some (.slice (some ⟨g, 0, none⟩) L.length cap))
            (first | exact (World.cell?_setCell_other _ _ _ _ (fun e => by have := congrArg Addr.block e; simp at this; omega)).trans q10 | exact q10 | exact q9d | exact q9)
            (first
              | (go_at_call 39; refine (pick_any b _ 7 _ hcd (by omega)).mono ?_; rintro e w10 ⟨x7, rfl, hx7, hc10, hg10⟩; have hS10 := hS9d.pick hc10 hg10; have hx7i : (x7 : Int) ≤ 40 := (by omega); have q10 := hS10.q; have hcc := hS10.cell k 0 hk' (by omega); rw [HTK.out] at hcc; have cc10 : w10.cell? ⟨g, k * 6, none⟩ = some (Value.int .i64 co) := hcc; have cf10 : w10.frozen? ⟨g, k * 6, none⟩ = false := hS10.frozen _))
          have hP := hS10.put k 0 (.int .i64 (x7 : Int)) (⟨(x7 : Int), ki, no, nu, tx, ds⟩ : Ins) hk' (by omega) (by rw [HTK.out]; rfl)
          have HP : Hid (Cur (w10.setCell ⟨g, k * 6 + 0, none⟩ (.int .i64 (x7 : Int))) b (m + 310) ∧ IRow (w10.setCell ⟨g, k * 6 + 0, none⟩ (.int .i64 (x7 : Int))) (w.heap.size + 1) (.slice (some ⟨g, 0, none⟩) L.length cap) (L.set k (⟨(x7 : Int), ki, no, nu, tx, ds⟩ : Ins)) ∧ w.grownBy (w10.setCell ⟨g, k * 6 + 0, none⟩ (.int .i64 (x7 : Int))) (some b)) := ⟨hP.1.le (by omega), hP.2⟩
          have y10 := hS10.y
          have z10 := hS10.z
          have hg1 : g ≠ w.heap.size := by omega
          clear hP hcc hS9 hS9d hS10 hc10 hg10 hx7
          go_wp2
          (try simp only [Exit.inBlock, Exit.then])
          refine bodyPost_ret (v := .agg #[.slice (some ⟨g, 0, none⟩) L.length cap]) ?_ rfl ?_
          · rw [results_cell1 rfl]
            go_simp
          · obtain ⟨p1, p2, p3⟩ := HP.out
            exact pro_fin (m' := m + 400) p1 p2 p3 hbw (by rw [List.length_set]; exact hL42) (set_textsI HLT.out htx) (by omega) _
        · go_upto_region 28 with fail
          go_region_held3 (fun w' => w'.cell? ⟨K, 0, none⟩ = some (.slice (some ⟨g, 0, none⟩) L.length cap))
            (first | exact (World.cell?_setCell_other _ _ _ _ (fun e => by have := congrArg Addr.block e; simp at this; omega)).trans q10 | exact q10 | exact q9d | exact q9)
            (first
              | (go_at_call 39; refine (pick_any b _ 9 _ hcd (by omega)).mono ?_; rintro e w10 ⟨x7, rfl, hx7, hc10, hg10⟩; have hS10 := hS9d.pick hc10 hg10; have hx7i : (x7 : Int) ≤ 40 := (by omega); have q10 := hS10.q; have hcc := hS10.cell k 5 hk' (by omega); rw [HTK.out] at hcc; have cc10 : w10.cell? ⟨g, k * 6 + 5, none⟩ = some (Value.int .i64 ds) := hcc; have cf10 : w10.frozen? ⟨g, k * 6 + 5, none⟩ = false := hS10.frozen _))
          have hP := hS10.put k 5 (.int .i64 (x7 : Int)) (⟨co, ki, no, nu, tx, (x7 : Int)⟩ : Ins) hk' (by omega) (by rw [HTK.out]; rfl)
          have HP : Hid (Cur (w10.setCell ⟨g, k * 6 + 5, none⟩ (.int .i64 (x7 : Int))) b (m + 310) ∧ IRow (w10.setCell ⟨g, k * 6 + 5, none⟩ (.int .i64 (x7 : Int))) (w.heap.size + 1) (.slice (some ⟨g, 0, none⟩) L.length cap) (L.set k (⟨co, ki, no, nu, tx, (x7 : Int)⟩ : Ins)) ∧ w.grownBy (w10.setCell ⟨g, k * 6 + 5, none⟩ (.int .i64 (x7 : Int))) (some b)) := ⟨hP.1.le (by omega), hP.2⟩
          have y10 := hS10.y
          have z10 := hS10.z
          have hg1 : g ≠ w.heap.size := by omega
          clear hP hcc hS9 hS9d hS10 hc10 hg10 hx7
          go_wp2
          (try simp only [Exit.inBlock, Exit.then])
          refine bodyPost_ret (v := .agg #[.slice (some ⟨g, 0, none⟩) L.length cap]) ?_ rfl ?_
          · rw [results_cell1 rfl]
            go_simp
          · obtain ⟨p1, p2, p3⟩ := HP.out
            exact pro_fin (m' := m + 400) p1 p2 p3 hbw (by rw [List.length_set]; exact hL42) (set_textsI HLT.out htx) (by omega) _
        · have hcc := hS9.cell k 3 hk' (by omega)
          rw [HTK.out] at hcc
          have cc9 : w9.cell? ⟨g, k * 6 + 3, none⟩ = some (Value.int .i64 nu) := hcc
          have cf9 : w9.frozen? ⟨g, k * 6 + 3, none⟩ = false := hS9.frozen _
          have hP := hS9.put k 3 (.int .i64 2) (⟨co, ki, no, 2, tx, ds⟩ : Ins) hk' (by omega) (by rw [HTK.out]; rfl)
          have HP : Hid (Cur (w9.setCell ⟨g, k * 6 + 3, none⟩ (.int .i64 2)) b (m + 310) ∧ IRow (w9.setCell ⟨g, k * 6 + 3, none⟩ (.int .i64 2)) (w.heap.size + 1) (.slice (some ⟨g, 0, none⟩) L.length cap) (L.set k (⟨co, ki, no, 2, tx, ds⟩ : Ins)) ∧ w.grownBy (w9.setCell ⟨g, k * 6 + 3, none⟩ (.int .i64 2)) (some b)) := ⟨hP.1.le (by omega), hP.2⟩
          have y9 := hS9.y
          have z9 := hS9.z
          have hg1 : g ≠ w.heap.size := by omega
          clear hP hcc hS9 hS9d q9d hcd
          go_wp2
          (try simp only [Exit.inBlock, Exit.then])
          refine bodyPost_ret (v := .agg #[.slice (some ⟨g, 0, none⟩) L.length cap]) ?_ rfl ?_
          · rw [results_cell1 rfl]
            go_simp
          · obtain ⟨p1, p2, p3⟩ := HP.out
            exact pro_fin (m' := m + 400) p1 p2 p3 hbw (by rw [List.length_set]; exact hL42) (set_textsI HLT.out htx) (by omega) _

end Go.Proofs.YtmjpmmkjfimopaaDoor

namespace Go.Proofs.YtmjpmmkjfimopaaDoor
open Go.RowKit Plain Sch Wan Prg

/-- a program drawn, in memory -/
def ProAt (w w' : World) (v : Value) (L : List Ins) : Prop := IRow w' w.heap.size v L ∧ L.length ≤ 42 ∧ (∀ x ∈ L, x.text.size ≤ 30) ∧ Below w.heap.size w w'

def DrR (w : World) (e : Ending) (w' : World) : Prop := ∃ ao cap L t, e = .returned (.tuple #[.agg #[.slice ao L.length cap], .string t]) ∧ ProAt w w' (.slice ao L.length cap) L ∧ t.size ≤ 402

theorem irow_set {w' : World} {B K : Nat} {v : Value} {L : List Ins} (h : IRow w' B v L) (hK : K < B) (u : Value) : IRow (w'.setCell ⟨K, 0, none⟩ u) B v L :=
  (GrS.of (Lib.grownBy_setCell w' K 0 u)).irow h (fun g hg e => by have := (World.ownsRow.lt h g hg).1; simp at e; omega)

set_option maxRecDepth 100000 in
set_option maxHeartbeats 4000000 in
theorem drawRun_any (ao : Option Addr) (len cap : Nat) (w : World) (hcode : CodeAt w ao len) :
    Calls Tryd.prog 14 #[.slice ao len cap] w (DrR w) := by
  obtain ⟨W1, hW1⟩ : ∃ W, W = w.alloc (.cells #[.slice none 0 0] 30) := ⟨_, rfl⟩
  have hB1 : Below w.heap.size w W1 := by rw [hW1]; exact (Below.refl _ w).alloc (Nat.le_refl _) _
  have HS1 : Hid (W1.heap.size = w.heap.size + 1) := by show _ = _; rw [hW1]; simp
  obtain ⟨W2, hW2⟩ : ∃ W, W = W1.alloc (.cells #[.slice ao len cap, .int .i64 0, .int .u64 0] 50) := ⟨_, rfl⟩
  have hB2 : Below w.heap.size w W2 := by rw [hW2]; exact hB1.alloc hB1.size _
  have HS2 : Hid (W2.heap.size = w.heap.size + 2) := by show _ = _; rw [hW2]; simp; have := HS1.out; omega
  have q0 : W2.cell? ⟨w.heap.size, 0, none⟩ = some (.slice none 0 0) := by rw [hW2, World.cell?_alloc_lt _ _ _ (by show w.heap.size < _; have := HS1.out; omega), hW1]; go_simp
  have z0 : W2.frozen? ⟨w.heap.size, 0, none⟩ = false := by rw [hW2, World.frozen?_alloc_past _ _ _ (by show w.heap.size < _; have := HS1.out; omega), hW1]; go_simp
  have hc2 : Cur W2 (w.heap.size + 1) 0 := by rw [hW2, ← HS1.out]; exact Cur.made (hcode.below hB1) _
  rw [hW1] at hW2
  clear hW1 hB1 HS1
  go_enter Tryd.func14, Tryd.ntmps14
  go_wp2_with fail
  rw [← hW2]
  clear hW2
  refine (program_any (w.heap.size + 1) 0 W2 hc2 (by omega)).mono ?_
  rintro e w3 ⟨rv, L, rfl, hr, hl15, htx, hc3, hg3⟩
  obtain ⟨ar, capr, hrv, _, _⟩ := hr.slice
  subst hrv
  have hs2 := HS2.out
  have q3 := hg3.cell q0 (by simp)
  have z3 := (hg3.frozen_far ⟨w.heap.size, 0, none⟩ (by show w.heap.size < _; omega) (by simp)).trans z0
  have hs3 := hg3.size
  have HG3 : Hid (W2.grownBy w3 (some (w.heap.size + 1))) := hg3
  have HR : Hid (IRow w3 W2.heap.size (.slice ar L.length capr) L) := hr
  clear hr hg3 q0 z0 hc2
  clear hs2
  go_wp2_with fail
  refine (rising_any (w.heap.size + 1) _ w3 hc3 (by omega)).mono ?_
  rintro e w4 ⟨t, rfl, ht, hc4, hg4⟩
  have hs2 := HS2.out
  have q4 := hg4.cell q3 (by simp)
  have z4 := (hg4.frozen_far ⟨w.heap.size, 0, none⟩ (by show w.heap.size < _; omega) (by simp)).trans z3
  have HR4 : Hid (IRow w4 W2.heap.size (.slice ar L.length capr) L) := (GrS.of hg4).irow HR.out (fun g hg e => by have := (World.ownsRow.lt HR.out g hg).1; simp at e; omega)
  have HB4 : Hid (Below w.heap.size w w4) := (hB2.grown HG3.out (by omega) (fun k hk => by simp at hk; omega)).grown hg4 (by omega) (fun k hk => by simp at hk; omega)
  clear hs2 q3 z3 hg4 hc4 hc3 HR HG3
  go_wp2
  (try simp only [Exit.inBlock, Exit.then])
  refine bodyPost_ret (v := .tuple #[.agg #[.slice ar L.length capr], .string t]) ?_ rfl ⟨ar, capr, L, t, rfl, ⟨(irow_set HR4.out (by have := HS2.out; omega) _).lower (by have := HS2.out; omega), hl15, htx, HB4.out.setCell (p := ⟨w.heap.size, 0, none⟩) (Nat.le_refl _) _⟩, ht⟩
  rw [results_cell_tmp rfl]
  go_simp

end Go.Proofs.YtmjpmmkjfimopaaDoor
