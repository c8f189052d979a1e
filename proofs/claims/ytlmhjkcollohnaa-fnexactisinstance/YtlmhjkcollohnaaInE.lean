/- The model's IsInstance: the frames of what it keeps. -/
import Derived.Test.YtlmhjkcollohnaaInD
namespace Go.Proofs.Ytlmhjkcollohnaa
open Go.RowKit Plain Sch Trm

/-- all blocks are as they were but H and K, which lie at N or behind it -/
def FrM (N H K : Nat) (w w' : World) : Prop := Below N w w' ∧ ∀ g, g < w.heap.size → g ≠ H → g ≠ K → w'.heap[g]? = w.heap[g]?

theorem FrM.refl (N H K : Nat) (w : World) : FrM N H K w w := ⟨Below.refl _ _, fun _ _ _ _ => rfl⟩

theorem FrM.trans {N H K : Nat} {w w' w'' : World} (h : FrM N H K w w') (h' : FrM N H K w' w'') : FrM N H K w w'' :=
  ⟨h.1.trans h'.1, fun g hg h1 h2 => (h'.2 g (by have := h.1.size; omega) h1 h2).trans (h.2 g hg h1 h2)⟩

theorem FrM.below {N H K : Nat} {w w' : World} (h : Below w.heap.size w w') (hN : N ≤ w.heap.size) : FrM N H K w w' := ⟨h.mono hN, fun g hg _ _ => h.block g hg⟩

theorem FrM.drew {N H K : Nat} {w w' : World} (h : FrM N H K w w') : FrM N H K w w'.drew := ⟨h.1.drew, h.2⟩

theorem FrM.setH {N H K : Nat} {w w' : World} (h : FrM N H K w w') (hN : N ≤ H) (j : Nat) (v : Value) : FrM N H K w (w'.setCell ⟨H, j, none⟩ v) :=
  ⟨h.1.setCell hN v, fun g hg h1 h2 => by rw [Below.heap_setCell _ _ _ _ (by simpa using h1)]; exact h.2 g hg h1 h2⟩

theorem FrM.setK {N H K : Nat} {w w' : World} (h : FrM N H K w w') (hN : N ≤ K) (j : Nat) (v : Value) : FrM N H K w (w'.setCell ⟨K, j, none⟩ v) :=
  ⟨h.1.setCell hN v, fun g hg h1 h2 => by rw [Below.heap_setCell _ _ _ _ (by simpa using h2)]; exact h.2 g hg h1 h2⟩

theorem FrM.cell {N H K : Nat} {w w' : World} (h : FrM N H K w w') {g o : Nat} (hg : g < w.heap.size) (h1 : g ≠ H) (h2 : g ≠ K) : w'.cell? ⟨g, o, none⟩ = w.cell? ⟨g, o, none⟩ := World.cell?_of_block (w := w) (h.2 g hg h1 h2)

/-- the terms that stand for variables, in memory: the terms in block H, whether there is one in block K -/
def StM (w : World) (N H K : Nat) (S : Nat → Prop) (s : Nat → Option TT) : Prop :=
  N ≤ H ∧ N ≤ K ∧ H ≠ K ∧ H < w.heap.size ∧ K < w.heap.size ∧ (∀ i, i < 6 → w.cell? ⟨K, i, none⟩ = some (.bool (s i).isSome)) ∧ (∀ i, w.frozen? ⟨K, i, none⟩ = false) ∧
    (∀ i, i < 18 → ∃ u, w.cell? ⟨H, i, none⟩ = some u) ∧ (∀ i, w.frozen? ⟨H, i, none⟩ = false) ∧
    ∀ i t, i < 6 → s i = some t → ∃ ac lc cc, TdIn w H (i * 3) t.v t.name (.slice ac lc cc) ∧ ∃ d, TKids d w S (.slice ac lc cc) t.kids

theorem StM.kept {w w' : World} {N H K : Nat} {S : Nat → Prop} {s : Nat → Option TT} (h : StM w N H K S s) (hw : w.heap.size ≤ w'.heap.size) (hH : w'.heap[H]? = w.heap[H]?) (hK : w'.heap[K]? = w.heap[K]?) (hS : ∀ g, S g → w'.heap[g]? = w.heap[g]?) : StM w' N H K S s := by
  obtain ⟨h1, h2, h3, h4, h5, h6, h7, h8, h9, h10⟩ := h
  refine ⟨h1, h2, h3, by omega, by omega, fun i hi => ?_, fun i => ?_, fun i hi => ?_, fun i => ?_, fun i t hi ht => ?_⟩
  · rw [World.cell?_of_block (w := w) hK]; exact h6 i hi
  · rw [World.frozen?_of_block (w := w) hK]; exact h7 i
  · rw [World.cell?_of_block (w := w) hH]; exact h8 i hi
  · rw [World.frozen?_of_block (w := w) hH]; exact h9 i
  · obtain ⟨ac, lc, cc, hn, d, hk⟩ := h10 i t hi ht
    exact ⟨ac, lc, cc, hn.kept hH, d, hk.kept hS (fun g hg => hg)⟩

set_option maxHeartbeats 4000000 in
/-- a term that is put for a variable -/
theorem StM.put {w : World} {N H K : Nat} {S : Nat → Prop} {s : Nat → Option TT} (h : StM w N H K S s) (hS : ∀ g, S g → g < N) (m : Nat) (hm : m < 6) (t : TT) (ac : Option Addr) (lc cc d : Nat) (hk : TKids d w S (.slice ac lc cc) t.kids) :
    StM ((((w.setCell ⟨K, m, none⟩ (.bool true)).setCell ⟨H, m * 3, none⟩ (.int .i64 t.v)).setCell ⟨H, m * 3 + 1, none⟩ (.string t.name)).setCell ⟨H, m * 3 + 2, none⟩ (.slice ac lc cc)) N H K S (upd s m t) := by
  obtain ⟨h1, h2, h3, h4, h5, h6, h7, h8, h9, h10⟩ := h
  have hKb : ((((w.setCell ⟨K, m, none⟩ (.bool true)).setCell ⟨H, m * 3, none⟩ (.int .i64 t.v)).setCell ⟨H, m * 3 + 1, none⟩ (.string t.name)).setCell ⟨H, m * 3 + 2, none⟩ (.slice ac lc cc)).heap[K]? = (w.setCell ⟨K, m, none⟩ (.bool true)).heap[K]? := by
    rw [Below.heap_setCell _ _ _ _ (by simpa using fun e => h3 e.symm), Below.heap_setCell _ _ _ _ (by simpa using fun e => h3 e.symm), Below.heap_setCell _ _ _ _ (by simpa using fun e => h3 e.symm)]
  have hother : ∀ g, g ≠ H → g ≠ K → ((((w.setCell ⟨K, m, none⟩ (.bool true)).setCell ⟨H, m * 3, none⟩ (.int .i64 t.v)).setCell ⟨H, m * 3 + 1, none⟩ (.string t.name)).setCell ⟨H, m * 3 + 2, none⟩ (.slice ac lc cc)).heap[g]? = w.heap[g]? := fun g e1 e2 => by
    rw [Below.heap_setCell _ _ _ _ (by simpa using e1), Below.heap_setCell _ _ _ _ (by simpa using e1), Below.heap_setCell _ _ _ _ (by simpa using e1), Below.heap_setCell _ _ _ _ (by simpa using e2)]
  have hS' : ∀ g, S g → ((((w.setCell ⟨K, m, none⟩ (.bool true)).setCell ⟨H, m * 3, none⟩ (.int .i64 t.v)).setCell ⟨H, m * 3 + 1, none⟩ (.string t.name)).setCell ⟨H, m * 3 + 2, none⟩ (.slice ac lc cc)).heap[g]? = w.heap[g]? := fun g hg => hother g (by have := hS g hg; omega) (by have := hS g hg; omega)
  -- the cells of H
  have hc0 : ∀ i, (w.setCell ⟨K, m, none⟩ (.bool true)).cell? ⟨H, i, none⟩ = w.cell? ⟨H, i, none⟩ := fun i => World.cell?_setCell_other _ _ _ _ (fun e => h3 (congrArg Addr.block e).symm)
  have hat : ∀ i, i ≠ m * 3 → i ≠ m * 3 + 1 → i ≠ m * 3 + 2 → ((((w.setCell ⟨K, m, none⟩ (.bool true)).setCell ⟨H, m * 3, none⟩ (.int .i64 t.v)).setCell ⟨H, m * 3 + 1, none⟩ (.string t.name)).setCell ⟨H, m * 3 + 2, none⟩ (.slice ac lc cc)).cell? ⟨H, i, none⟩ = w.cell? ⟨H, i, none⟩ := fun i e0 e1 e2 => by
    rw [World.cell?_setCell_other _ _ _ _ (fun e => e2 (congrArg Addr.off e).symm), World.cell?_setCell_other _ _ _ _ (fun e => e1 (congrArg Addr.off e).symm), World.cell?_setCell_other _ _ _ _ (fun e => e0 (congrArg Addr.off e).symm), hc0]
  obtain ⟨u0, q0⟩ := h8 (m * 3) (by omega)
  obtain ⟨u1, q1⟩ := h8 (m * 3 + 1) (by omega)
  obtain ⟨u2, q2⟩ := h8 (m * 3 + 2) (by omega)
  have p0 := World.cell?_setCell_same (w.setCell ⟨K, m, none⟩ (.bool true)) ⟨H, m * 3, none⟩ (.int .i64 t.v) ((hc0 _).trans q0)
  have r1 : ((w.setCell ⟨K, m, none⟩ (.bool true)).setCell ⟨H, m * 3, none⟩ (.int .i64 t.v)).cell? ⟨H, m * 3 + 1, none⟩ = some u1 := by
    rw [World.cell?_setCell_other _ _ _ _ (fun e => by have := congrArg Addr.off e; simp at this), hc0]; exact q1
  have p1 := World.cell?_setCell_same _ ⟨H, m * 3 + 1, none⟩ (.string t.name) r1
  have r2 : (((w.setCell ⟨K, m, none⟩ (.bool true)).setCell ⟨H, m * 3, none⟩ (.int .i64 t.v)).setCell ⟨H, m * 3 + 1, none⟩ (.string t.name)).cell? ⟨H, m * 3 + 2, none⟩ = some u2 := by
    rw [World.cell?_setCell_other _ _ _ _ (fun e => by have := congrArg Addr.off e; simp at this), World.cell?_setCell_other _ _ _ _ (fun e => by have := congrArg Addr.off e; simp at this), hc0]; exact q2
  have p2 := World.cell?_setCell_same _ ⟨H, m * 3 + 2, none⟩ (.slice ac lc cc) r2
  have P0 : ((((w.setCell ⟨K, m, none⟩ (.bool true)).setCell ⟨H, m * 3, none⟩ (.int .i64 t.v)).setCell ⟨H, m * 3 + 1, none⟩ (.string t.name)).setCell ⟨H, m * 3 + 2, none⟩ (.slice ac lc cc)).cell? ⟨H, m * 3, none⟩ = some (.int .i64 t.v) := by
    rw [World.cell?_setCell_other _ _ _ _ (fun e => by have := congrArg Addr.off e; simp at this), World.cell?_setCell_other _ _ _ _ (fun e => by have := congrArg Addr.off e; simp at this)]; exact p0
  have P1 : ((((w.setCell ⟨K, m, none⟩ (.bool true)).setCell ⟨H, m * 3, none⟩ (.int .i64 t.v)).setCell ⟨H, m * 3 + 1, none⟩ (.string t.name)).setCell ⟨H, m * 3 + 2, none⟩ (.slice ac lc cc)).cell? ⟨H, m * 3 + 1, none⟩ = some (.string t.name) := by
    rw [World.cell?_setCell_other _ _ _ _ (fun e => by have := congrArg Addr.off e; simp at this)]; exact p1
  have hsize : ((((w.setCell ⟨K, m, none⟩ (.bool true)).setCell ⟨H, m * 3, none⟩ (.int .i64 t.v)).setCell ⟨H, m * 3 + 1, none⟩ (.string t.name)).setCell ⟨H, m * 3 + 2, none⟩ (.slice ac lc cc)).heap.size = w.heap.size := by simp only [World.size_setCell]
  refine ⟨h1, h2, h3, by rw [hsize]; exact h4, by rw [hsize]; exact h5, fun i hi => ?_, fun i => ?_, fun i hi => ?_, fun i => ?_, fun i u hi hu => ?_⟩
  · rw [World.cell?_of_block (w := w.setCell ⟨K, m, none⟩ (.bool true)) hKb]
    by_cases him : i = m
    · subst him
      rw [World.cell?_setCell_same _ _ _ (h6 i hi)]
      simp [upd]
    · rw [World.cell?_setCell_other _ _ _ _ (fun e => him (congrArg Addr.off e).symm), h6 i hi]
      simp [upd, him]
  · rw [World.frozen?_setCell, World.frozen?_setCell, World.frozen?_setCell, World.frozen?_setCell]; exact h7 i
  · by_cases e0 : i = m * 3
    · subst e0; exact ⟨_, P0⟩
    · by_cases e1 : i = m * 3 + 1
      · subst e1; exact ⟨_, P1⟩
      · by_cases e2 : i = m * 3 + 2
        · subst e2; exact ⟨_, p2⟩
        · rw [hat i e0 e1 e2]; exact h8 i hi
  · rw [World.frozen?_setCell, World.frozen?_setCell, World.frozen?_setCell, World.frozen?_setCell]; exact h9 i
  · by_cases him : i = m
    · subst him
      simp [upd] at hu
      subst hu
      exact ⟨ac, lc, cc, ⟨P0, P1, p2⟩, d, hk.kept hS' (fun g hg => hg)⟩
    · have hu' : s i = some u := by simpa [upd, him] using hu
      obtain ⟨au, lu, cu, ⟨n0, n1, n2⟩, d', hk'⟩ := h10 i u hi hu'
      exact ⟨au, lu, cu, ⟨(hat _ (by omega) (by omega) (by omega)).trans n0, (hat _ (by omega) (by omega) (by omega)).trans n1, (hat _ (by omega) (by omega) (by omega)).trans n2⟩, d', hk'.kept hS' (fun g hg => hg)⟩

end Go.Proofs.Ytlmhjkcollohnaa
