/- The model's least machine in the making: its variable, and the order of classes beside it. -/
import Derived.Test.YtecgjhnihagleaaXk
import Derived.Test.YtecgjhnihagleaaMcU
namespace Go.Proofs.Ytecgjhnihagleaa
open Go.RowKit Plain Mch Tpc

theorem MOwn.beside {w w' : World} {B : Nat} {v : Value} {M : List (List Int)} {us : List Value} {row : Option Nat} (h : MOwn w B v M us) (hg : w.grownBy w' row) (hv : ∀ g, v.ownBlock = some g → some g ≠ row) (hu : ∀ u ∈ us, ∀ g, u.ownBlock = some g → some g ≠ row) : MOwn w' B v M us :=
  ⟨own_besideM h.1 hg hv, fun i hi => by
    obtain ⟨u, h1, h2, h3⟩ := h.2.1 i hi
    exact ⟨u, h1, own_besideM h2 hg (hu u (List.mem_of_getElem? h1)), h3⟩, h.2.2⟩

/-- a row's block is none of a machine's -/
def Mch.Apt4 (x tv te : Value) (us : List Value) : Prop := ∀ g, x.ownBlock = some g → tv.ownBlock ≠ some g ∧ te.ownBlock ≠ some g ∧ ∀ u ∈ us, u.ownBlock ≠ some g

theorem TSt.beside {w w' : World} {b : Nat} {x v e : Value} {L : List (List Int)} {F : List Bool} {us : List Value} (h : TSt w b v e L F us) (hg : w.grownBy w' x.ownBlock) (hb : x.ownBlock ≠ some b) (ha : Apt4 x v e us) : TSt w' b v e L F us := by
  have hblk : w'.heap[b]? = w.heap[b]? := hg.block b h.lb (fun e => hb e.symm)
  refine ⟨Nat.lt_of_lt_of_le h.lb hg.size, (World.cell?_of_block (w := w) hblk).trans h.c0, (World.cell?_of_block (w := w) hblk).trans h.c1, (World.frozen?_of_block (w := w) hblk).trans h.f0, (World.frozen?_of_block (w := w) hblk).trans h.f1, ?_, ?_, h.own.2.2⟩
  · exact h.own.1.beside hg (fun g e1 e2 => (ha g e2.symm).1 e1) (fun u hu g e1 e2 => (ha g e2.symm).2.2 u hu e1)
  · exact own_besideM h.own.2.1 hg (fun g e1 e2 => (ha g e2.symm).2.1 e1)

theorem TSt.rows_lt {w : World} {b : Nat} {v e : Value} {L : List (List Int)} {F : List Bool} {us : List Value} (h : TSt w b v e L F us) : (∀ g, v.ownBlock = some g → b < g ∧ g < w.heap.size) ∧ (∀ g, e.ownBlock = some g → b < g ∧ g < w.heap.size) ∧ ∀ u ∈ us, ∀ g, u.ownBlock = some g → b < g ∧ g < w.heap.size := by
  refine ⟨fun g hg => ?_, fun g hg => ?_, fun u hu g hg => ?_⟩
  · have := World.ownsRow.lt h.own.1.1 g hg; omega
  · have := World.ownsRow.lt h.own.2.1 g hg; omega
  · obtain ⟨i, hi, rfl⟩ := List.getElem_of_mem hu
    have hul : us.length = L.length := by have := h.own.1.1.1; omega
    obtain ⟨u', h1, h2, _⟩ := h.own.1.2.1 i (by omega)
    rw [List.getElem?_eq_getElem hi] at h1
    simp at h1
    rw [h1] at hg
    have := World.ownsRow.lt h2 g hg
    omega

/-- a machine in the making, the order of classes beside it -/
structure LSt (w : World) (B b : Nat) (vo tv te : Value) (O : List Int) (N : List (List Int)) (F : List Bool) (us : List Value) : Prop where
  ts : TSt w b tv te N F us
  or : ZRow w B vo O
  hB : B ≤ b
  nb : vo.ownBlock ≠ some b
  nv : Apt4 vo tv te us

theorem LSt.below {w w' : World} {B b : Nat} {vo tv te : Value} {O : List Int} {N : List (List Int)} {F : List Bool} {us : List Value} (h : LSt w B b vo tv te O N F us) (hb : Below w.heap.size w w') : LSt w' B b vo tv te O N F us :=
  ⟨h.ts.below hb, ZRow.below h.or hb, h.hB, h.nb, h.nv⟩

/-- the order grows -/
theorem LSt.grow {w w9 : World} {B b g cap : Nat} {vo tv te : Value} {O : List Int} {N : List (List Int)} {F : List Bool} {us : List Value} {x : Int} {o : Obj} (h : LSt w B b vo tv te O N F us)
    (hown : w9.ownsRow B 3 1 (.slice (some ⟨g, 0, none⟩) (O.length + 1) cap) (O.length + 1) (zints O ++ [.int .i64 x])) (hgrow : (w.alloc o).grownBy w9 vo.ownBlock) (hat : vo.ownBlock = some g ∨ g = w.heap.size + 1) :
    LSt w9 B b (.slice (some ⟨g, 0, none⟩) (O.length + 1) cap) tv te (O ++ [x]) N F us ∧ Below B w w9 := by
  have hl := World.ownsRow.lt h.or
  have hlb := h.ts.lb
  have hB := h.hB
  obtain ⟨r1, r2, r3⟩ := h.ts.rows_lt
  refine ⟨⟨(h.ts.below ((Below.refl _ w).alloc (Nat.le_refl _) o)).beside hgrow h.nb h.nv, ZRow.snocM hown, hB, fun e => ?_, fun g' e => ?_⟩, below_grown (Below.refl _ _) (by omega) hgrow (fun g hg => (hl g hg).1)⟩
  · simp [Value.ownBlock] at e
    subst e
    rcases hat with e | e
    · exact h.nb e
    · omega
  · simp [Value.ownBlock] at e
    subst e
    rcases hat with e | e
    · exact h.nv g e
    · exact ⟨fun e2 => by have := (r1 g e2).2; omega, fun e2 => by have := (r2 g e2).2; omega, fun u hu e2 => by have := (r3 u hu g e2).2; omega⟩

/-- another row grows -/
theorem LSt.aside {w w9 : World} {B b : Nat} {vo vl tv te : Value} {O : List Int} {N : List (List Int)} {F : List Bool} {us : List Value} {o : Obj} (h : LSt w B b vo tv te O N F us)
    (hgrow : (w.alloc o).grownBy w9 vl.ownBlock) (hb : vl.ownBlock ≠ some b) (ha : Apt4 vl tv te us) (hn : ∀ g, vl.ownBlock = some g → vo.ownBlock ≠ some g) : LSt w9 B b vo tv te O N F us :=
  ⟨(h.ts.below ((Below.refl _ w).alloc (Nat.le_refl _) o)).beside hgrow hb ha, own_besideM (World.ownsRow.alloc h.or o) hgrow (fun g e1 e2 => hn g e2.symm e1), h.hB, h.nb, h.nv⟩

theorem MOwn.snocU {w w9 : World} {B g cap : Nat} {v u : Value} {M : List (List Int)} {us : List Value} {L : List Int} {o : Obj} (h : MOwn w B v M us) (hq : ZRow w B u L) (hu : ∀ g, u.ownBlock = some g → v.ownBlock ≠ some g ∧ ∀ u' ∈ us, u'.ownBlock ≠ some g)
    (hown : w9.ownsRow B 27 1 (.slice (some ⟨g, 0, none⟩) (M.length + 1) cap) (M.length + 1) (us ++ [u])) (hgrow : (w.alloc o).grownBy w9 v.ownBlock) (hat : v.ownBlock = some g ∨ g = w.heap.size + 1) :
    MOwn w9 B (.slice (some ⟨g, 0, none⟩) (M.length + 1) cap) (M ++ [L]) (us ++ [u]) := by
  have hul : us.length = M.length := by have := h.1.1; omega
  have hql := World.ownsRow.lt hq
  have qn : ZRow w9 B u L := own_besideM (World.ownsRow.alloc hq o) hgrow (fun g' e e2 => (hu g' e).1 e2.symm)
  have qo : ∀ i, i < M.length → ∃ u', us[i]? = some u' ∧ ZRow w9 B u' (rx M i) ∧ u'.ownBlock ≠ some g := fun i hi => by
    obtain ⟨u', h1, h2, h3⟩ := h.2.1 i hi
    have hlt := World.ownsRow.lt h2
    refine ⟨u', h1, own_besideM (World.ownsRow.alloc h2 o) hgrow (fun g' e e2 => h3 g' e e2.symm), fun e => ?_⟩
    rcases hat with e2 | e2
    · exact h3 g e e2
    · have := (hlt g e).2; omega
  have hug : u.ownBlock ≠ some g := fun e => by
    rcases hat with e2 | e2
    · exact (hu g e).1 e2
    · have := (hql g e).2; omega
  refine ⟨by rw [List.length_append]; exact hown, fun i hi => ?_, fun i j ui uj hij e1 e2 g' f1 f2 => ?_⟩
  · by_cases hl : i < M.length
    · obtain ⟨u', h1, h2, h3⟩ := qo i hl
      refine ⟨u', by rw [List.getElem?_append_left (by omega)]; exact h1, by rw [rx_old hl]; exact h2, fun g' e e2 => ?_⟩
      simp [Value.ownBlock] at e2
      rw [← e2] at e
      exact h3 e
    · have e : i = M.length := by simp at hi; omega
      subst e
      refine ⟨u, by rw [List.getElem?_append_right (by omega), hul]; simp, by rw [rx_new]; exact qn, fun g' e e2 => ?_⟩
      simp [Value.ownBlock] at e2
      rw [← e2] at e
      exact hug e
  · by_cases hl : j < M.length
    · rw [List.getElem?_append_left (by omega)] at e1 e2
      exact h.2.2 i j ui uj hij e1 e2 g' f1 f2
    · have hj : j = us.length := by
        have := (List.getElem?_eq_some_iff.1 e2).1
        simp at this
        omega
      subst hj
      rw [List.getElem?_append_left (by omega)] at e1
      rw [List.getElem?_append_right (by omega)] at e2
      simp at e2
      subst e2
      exact (hu g' f2).2 ui (List.mem_of_getElem? e1) f1

theorem LSt.next {w w9 : World} {B b g cap : Nat} {vo tv te u : Value} {O : List Int} {N : List (List Int)} {F : List Bool} {us : List Value} {r : List Int} {o : Obj} (h : LSt w B b vo tv te O N F us) (hq : ZRow w (b + 1) u r) (hu : Apt4 u tv te us) (hn : ∀ g, u.ownBlock = some g → vo.ownBlock ≠ some g)
    (hown : w9.ownsRow (b + 1) 27 1 (.slice (some ⟨g, 0, none⟩) (N.length + 1) cap) (N.length + 1) (us ++ [u])) (hgrow : (w.alloc o).grownBy w9 tv.ownBlock) (hat : tv.ownBlock = some g ∨ g = w.heap.size + 1) :
    TNx w w9 b 0 tv ∧ LSt (w9.setCell ⟨b, 0, none⟩ (.slice (some ⟨g, 0, none⟩) (N.length + 1) cap)) B b vo (.slice (some ⟨g, 0, none⟩) (N.length + 1) cap) te O (N ++ [r]) F (us ++ [u]) ∧ Below B w (w9.setCell ⟨b, 0, none⟩ (.slice (some ⟨g, 0, none⟩) (N.length + 1) cap)) := by
  obtain ⟨r1, r2, r3⟩ := h.ts.rows_lt
  have hol := World.ownsRow.lt h.or
  have hul := World.ownsRow.lt hq
  have hsg : w.heap.size + 1 ≤ w9.heap.size := by have := hgrow.size; simpa using this
  have hlb := h.ts.lb
  have hBb := h.hB
  have far : some b ≠ tv.ownBlock := fun e => by have := (r1 b e.symm).1; omega
  have hblk : w9.heap[b]? = w.heap[b]? := by
    rw [hgrow.block b (by simp; omega) far, Below.heap_alloc _ _ _ (by omega)]
  have c0 : w9.cell? ⟨b, 0, none⟩ = some tv := (World.cell?_of_block (w := w) hblk).trans h.ts.c0
  have c1 : w9.cell? ⟨b, 1, none⟩ = some te := (World.cell?_of_block (w := w) hblk).trans h.ts.c1
  have f0 : w9.frozen? ⟨b, 0, none⟩ = false := (World.frozen?_of_block (w := w) hblk).trans h.ts.f0
  have f1 : w9.frozen? ⟨b, 1, none⟩ = false := (World.frozen?_of_block (w := w) hblk).trans h.ts.f1
  have hE : ERow w9 (b + 1) te F := own_besideM (World.ownsRow.alloc h.ts.own.2.1 o) hgrow (fun g' e1 e2 => (h.ts.own.2.2 g' e1).1 e2.symm)
  have hM := h.ts.own.1.snocU hq (fun g' e => ⟨(hu g' e).1, (hu g' e).2.2⟩) hown hgrow hat
  have hO : ZRow w9 B vo O := own_besideM (World.ownsRow.alloc h.or o) hgrow (fun g' e1 e2 => (h.nv g' e1).1 e2.symm)
  have hgn : ∀ j, j < w.heap.size → tv.ownBlock ≠ some j → (Value.slice (some ⟨g, 0, none⟩) (N.length + 1) cap).ownBlock ≠ some j := fun j hj hne e2 => by
    simp [Value.ownBlock] at e2
    subst e2
    rcases hat with e3 | e3
    · exact hne e3
    · omega
  have hOs : ZRow (w9.setCell ⟨b, 0, none⟩ (.slice (some ⟨g, 0, none⟩) (N.length + 1) cap)) B vo O := by
    refine ⟨hO.1, ?_⟩
    rcases hO.2 with hn | ⟨g', cap', cur, hv, hg, hgg, rest⟩
    · exact .inl hn
    · exact .inr ⟨g', cap', cur, hv, hg, (Below.heap_setCell _ _ _ _ (show g' ≠ b from fun e => h.nb (by rw [hv, ← e]; rfl))).trans hgg, rest⟩
  refine ⟨⟨c0, f0, by omega⟩, ⟨⟨by simp; omega, World.cell?_setCell_same _ _ _ c0, by rw [World.cell?_setCell_other _ _ _ _ (by simp)]; exact c1, by rw [World.frozen?_setCell]; exact f0, by rw [World.frozen?_setCell]; exact f1, hM.setCell (a := ⟨b, 0, none⟩) (by show b < b + 1; omega) _, ownsRow_setCell_below hE (a := ⟨b, 0, none⟩) (by show b < b + 1; omega) _, fun g' hg' => ⟨hgn g' (r2 g' hg').2 (h.ts.own.2.2 g' hg').1, fun u' hu' e2 => ?_⟩⟩, hOs, hBb, h.nb, fun g' hg' => ⟨hgn g' (hol g' hg').2 (h.nv g' hg').1, (h.nv g' hg').2.1, fun u' hu' e2 => ?_⟩⟩, ?_⟩
  · rw [List.mem_append] at hu'
    rcases hu' with hu' | hu'
    · exact (h.ts.own.2.2 g' hg').2 u' hu' e2
    · simp at hu'
      subst hu'
      exact (hu g' e2).2.1 hg'
  · rw [List.mem_append] at hu'
    rcases hu' with hu' | hu'
    · exact (h.nv g' hg').2.2 u' hu' e2
    · simp at hu'
      subst hu'
      exact hn g' e2 hg'
  · refine ⟨hgrow.os, hgrow.tape, hgrow.output, by simp; omega, fun j hj => ?_⟩
    rw [Below.heap_setCell _ _ _ _ (show j ≠ b by omega), hgrow.block j (by simp; omega) (fun e => by have := (r1 j e.symm).1; omega), Below.heap_alloc _ _ _ (by omega)]

/-- the ends grow -/
theorem LSt.ends {w w9 : World} {B b g cap : Nat} {vo tv te : Value} {O : List Int} {N : List (List Int)} {F : List Bool} {us : List Value} {x : Bool} {o : Obj} (h : LSt w B b vo tv te O N F us)
    (hown : w9.ownsRow (b + 1) 4 1 (.slice (some ⟨g, 0, none⟩) (F.length + 1) cap) (F.length + 1) (bols F ++ [.bool x])) (hgrow : (w.alloc o).grownBy w9 te.ownBlock) (hat : te.ownBlock = some g ∨ g = w.heap.size + 1) :
    TNx w w9 b 1 te ∧ LSt (w9.setCell ⟨b, 1, none⟩ (.slice (some ⟨g, 0, none⟩) (F.length + 1) cap)) B b vo tv (.slice (some ⟨g, 0, none⟩) (F.length + 1) cap) O N (F ++ [x]) us ∧ Below B w (w9.setCell ⟨b, 1, none⟩ (.slice (some ⟨g, 0, none⟩) (F.length + 1) cap)) := by
  obtain ⟨r1, r2, r3⟩ := h.ts.rows_lt
  have hol := World.ownsRow.lt h.or
  obtain ⟨t1, t2, t3⟩ := h.ts.ends hown hgrow hat
  have hO : ZRow w9 B vo O := own_besideM (World.ownsRow.alloc h.or o) hgrow (fun g' e1 e2 => (h.nv g' e1).2.1 e2.symm)
  have hOs : ZRow (w9.setCell ⟨b, 1, none⟩ (.slice (some ⟨g, 0, none⟩) (F.length + 1) cap)) B vo O := by
    refine ⟨hO.1, ?_⟩
    rcases hO.2 with hn | ⟨g', cap', cur, hv, hg, hgg, rest⟩
    · exact .inl hn
    · exact .inr ⟨g', cap', cur, hv, hg, (Below.heap_setCell _ _ _ _ (show g' ≠ b from fun e => h.nb (by rw [hv, ← e]; rfl))).trans hgg, rest⟩
  refine ⟨t1, ⟨t2, hOs, h.hB, h.nb, fun g' hg' => ⟨(h.nv g' hg').1, fun e2 => ?_, (h.nv g' hg').2.2⟩⟩, t3.mono h.hB⟩
  simp [Value.ownBlock] at e2
  subst e2
  rcases hat with e3 | e3
  · exact (h.nv g hg').2.1 e3
  · have := (hol g hg').2; omega

/-- where a state is known -/
def Mch.fa (l : List Pq) (x j : Nat) : Int := if ix l x x < j then ((ix l x x : Nat) : Int) else -1

theorem fa_zero (l : List Pq) (x : Nat) : fa l x 0 = -1 := by unfold fa; rw [if_neg (by omega)]
theorem fa_hit {n m : Nat} {l : List Pq} {x j : Nat} (h : Mch.Met n m l) (hd : Dia l) (hj : j < l.length) (e : (pq l j).a = x) : fa l x (j + 1) = (j : Int) := by
  have h1 := h.own j hj
  rw [hd j hj, e] at h1
  unfold fa
  rw [h1, if_pos (by omega)]
theorem fa_miss {l : List Pq} {x j : Nat} (hj : j < l.length) (e : (pq l j).a ≠ x) : fa l x (j + 1) = fa l x j := by
  unfold fa
  by_cases h : ix l x x < j
  · rw [if_pos h, if_pos (by omega)]
  · rw [if_neg h]
    by_cases h2 : ix l x x < j + 1
    · exfalso
      have h3 : ix l x x = j := by omega
      have h4 := (ix_some (l := l) (a := x) (b := x) (by omega)).1
      rw [h3] at h4
      exact e h4
    · rw [if_neg h2]

end Go.Proofs.Ytecgjhnihagleaa
