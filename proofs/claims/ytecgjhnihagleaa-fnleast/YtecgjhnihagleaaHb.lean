/- The program's mergeClasses: a machine in the making whose rows are parts of other variables. The program's mergeClasses. -/
import Derived.Test.YtecgjhnihagleaaXk
import Derived.Test.YtecgjhnihagleaaHa
namespace Go.Proofs.Ytecgjhnihagleaa
open Go.RowKit Plain Mch Tpc

/-- the slice of an outlook's array -/
def Mch.lsl (g : Nat) : Value := .slice (some ⟨g, 1, none⟩) 3 3

/-- a machine's variable whose rows lie in outlooks of their own -/
structure KSt (w : World) (b : Nat) (v e : Value) (n : Nat) (R : Nat → Nat → Nat) (F : List Bool) (gs : List Nat) : Prop where
  lb : b < w.heap.size
  c0 : w.cell? ⟨b, 0, none⟩ = some v
  c1 : w.cell? ⟨b, 1, none⟩ = some e
  f0 : w.frozen? ⟨b, 0, none⟩ = false
  f1 : w.frozen? ⟨b, 1, none⟩ = false
  ov : w.ownsRow (b + 1) 27 1 v n (gs.map lsl)
  oe : ERow w (b + 1) e F
  ne : ∀ g, e.ownBlock = some g → v.ownBlock ≠ some g
  gl : gs.length = n
  row : ∀ (i : Nat) g, gs[i]? = some g → b < g ∧ g < w.heap.size ∧ v.ownBlock ≠ some g ∧ e.ownBlock ≠ some g ∧ ∀ k, k < 3 → w.cell? ⟨g, 1 + k, none⟩ = some (.int .i64 ((R i k : Nat) : Int))

theorem KSt.below {w w' : World} {b : Nat} {v e : Value} {n : Nat} {R : Nat → Nat → Nat} {F : List Bool} {gs : List Nat} (h : KSt w b v e n R F gs) (hb : Below w.heap.size w w') : KSt w' b v e n R F gs :=
  ⟨Nat.lt_of_lt_of_le h.lb hb.size, (hb.cell (p := ⟨b, 0, none⟩) h.lb).trans h.c0, (hb.cell (p := ⟨b, 1, none⟩) h.lb).trans h.c1, (hb.frozen (p := ⟨b, 0, none⟩) h.lb).trans h.f0, (hb.frozen (p := ⟨b, 1, none⟩) h.lb).trans h.f1, own_belowM h.ov hb, own_belowM h.oe hb, h.ne, h.gl, fun i g hg => by
    obtain ⟨h1, h2, h3, h4, h5⟩ := h.row i g hg
    exact ⟨h1, Nat.lt_of_lt_of_le h2 hb.size, h3, h4, fun k hk => (hb.cell (p := ⟨g, 1 + k, none⟩) h2).trans (h5 k hk)⟩⟩

/-- what a step leaves as it was -/
structure KNx (w w9 : World) (b k : Nat) (x : Value) (u : Value) : Prop where
  c : w9.cell? ⟨b, k, none⟩ = some x
  f : w9.frozen? ⟨b, k, none⟩ = false
  lb : b < w9.heap.size
  blk : ∀ j, j < w.heap.size → j ≠ b → x.ownBlock ≠ some j → (w9.setCell ⟨b, k, none⟩ u).heap[j]? = w.heap[j]?

theorem KSt.next {w w9 : World} {b g g0 cap n : Nat} {v e : Value} {R : Nat → Nat → Nat} {F : List Bool} {gs : List Nat} {o : Obj} (h : KSt w b v e n R F gs) (hb0 : b < g0) (hl0 : g0 < w.heap.size) (hv0 : v.ownBlock ≠ some g0) (he0 : e.ownBlock ≠ some g0)
    (hc0 : ∀ k, k < 3 → w.cell? ⟨g0, 1 + k, none⟩ = some (.int .i64 ((R n k : Nat) : Int)))
    (hown : w9.ownsRow (b + 1) 27 1 (.slice (some ⟨g, 0, none⟩) (n + 1) cap) (n + 1) (gs.map lsl ++ [.slice (some ⟨g0, 1, none⟩) 3 3])) (hgrow : (w.alloc o).grownBy w9 v.ownBlock) (hat : v.ownBlock = some g ∨ g = w.heap.size + 1) :
    KNx w w9 b 0 v (.slice (some ⟨g, 0, none⟩) (n + 1) cap) ∧ KSt (w9.setCell ⟨b, 0, none⟩ (.slice (some ⟨g, 0, none⟩) (n + 1) cap)) b (.slice (some ⟨g, 0, none⟩) (n + 1) cap) e (n + 1) R F (gs ++ [g0]) ∧ Below b w (w9.setCell ⟨b, 0, none⟩ (.slice (some ⟨g, 0, none⟩) (n + 1) cap)) := by
  have hvl := World.ownsRow.lt h.ov
  have hel := World.ownsRow.lt h.oe
  have hsg : w.heap.size + 1 ≤ w9.heap.size := by have := hgrow.size; simpa using this
  have hlb := h.lb
  have blk : ∀ j, j < w.heap.size → v.ownBlock ≠ some j → w9.heap[j]? = w.heap[j]? := fun j hj hne => by
    rw [hgrow.block j (by simp; omega) (fun e => hne e.symm), Below.heap_alloc _ _ _ (by omega)]
  have hbv : v.ownBlock ≠ some b := fun e => by have := (hvl b e).1; omega
  have hblk := blk b hlb hbv
  have c0 : w9.cell? ⟨b, 0, none⟩ = some v := (World.cell?_of_block (w := w) hblk).trans h.c0
  have c1 : w9.cell? ⟨b, 1, none⟩ = some e := (World.cell?_of_block (w := w) hblk).trans h.c1
  have f0 : w9.frozen? ⟨b, 0, none⟩ = false := (World.frozen?_of_block (w := w) hblk).trans h.f0
  have f1 : w9.frozen? ⟨b, 1, none⟩ = false := (World.frozen?_of_block (w := w) hblk).trans h.f1
  have hE : ERow w9 (b + 1) e F := own_besideM (World.ownsRow.alloc h.oe o) hgrow (fun g' e1 e2 => h.ne g' e1 e2.symm)
  have blk2 : ∀ j, j < w.heap.size → j ≠ b → v.ownBlock ≠ some j → (w9.setCell ⟨b, 0, none⟩ (.slice (some ⟨g, 0, none⟩) (n + 1) cap)).heap[j]? = w.heap[j]? := fun j hj hjb hne => by
    rw [Below.heap_setCell _ _ _ _ (show j ≠ b from hjb), blk j hj hne]
  have hgn : ∀ j, j < w.heap.size → v.ownBlock ≠ some j → (Value.slice (some ⟨g, 0, none⟩) (n + 1) cap).ownBlock ≠ some j := fun j hj hne e2 => by
    simp [Value.ownBlock] at e2
    subst e2
    rcases hat with e3 | e3
    · exact hne e3
    · omega
  refine ⟨⟨c0, f0, by omega, blk2⟩, ⟨by simp; omega, World.cell?_setCell_same _ _ _ c0, ?_, by rw [World.frozen?_setCell]; exact f0, by rw [World.frozen?_setCell]; exact f1, ?_, ownsRow_setCell_below hE (a := ⟨b, 0, none⟩) (by show b < b + 1; omega) _, fun g' hg' => hgn g' (hel g' hg').2 (h.ne g' hg'), by simp [h.gl], fun i g' hg' => ?_⟩, ?_⟩
  · rw [World.cell?_setCell_other _ _ _ _ (by simp)]; exact c1
  · rw [List.map_append]
    exact ownsRow_setCell_below hown (a := ⟨b, 0, none⟩) (by show b < b + 1; omega) _
  · by_cases hi : i < gs.length
    · rw [List.getElem?_append_left hi] at hg'
      obtain ⟨h1, h2, h3, h4, h5⟩ := h.row i g' hg'
      exact ⟨h1, by simp; omega, hgn g' h2 h3, h4, fun k hk => (World.cell?_of_block (w := w) (blk2 g' h2 (by omega) h3)).trans (h5 k hk)⟩
    · have hi2 : i = gs.length := by have := (List.getElem?_eq_some_iff.1 hg').1; simp at this; omega
      subst hi2
      simp at hg'
      subst hg'
      exact ⟨hb0, by simp; omega, hgn _ hl0 hv0, he0, fun k hk => by rw [h.gl]; exact (World.cell?_of_block (w := w) (blk2 g0 hl0 (by omega) hv0)).trans (hc0 k hk)⟩
  · refine ⟨hgrow.os, hgrow.tape, hgrow.output, by simp; omega, fun j hj => ?_⟩
    exact blk2 j (by omega) (by omega) (fun e => by have := (hvl j e).1; omega)

theorem KSt.ends {w w9 : World} {b g cap n : Nat} {v e : Value} {R : Nat → Nat → Nat} {F : List Bool} {gs : List Nat} {x : Bool} {o : Obj} (h : KSt w b v e n R F gs)
    (hown : w9.ownsRow (b + 1) 4 1 (.slice (some ⟨g, 0, none⟩) (F.length + 1) cap) (F.length + 1) (bols F ++ [.bool x])) (hgrow : (w.alloc o).grownBy w9 e.ownBlock) (hat : e.ownBlock = some g ∨ g = w.heap.size + 1) :
    KNx w w9 b 1 e (.slice (some ⟨g, 0, none⟩) (F.length + 1) cap) ∧ KSt (w9.setCell ⟨b, 1, none⟩ (.slice (some ⟨g, 0, none⟩) (F.length + 1) cap)) b v (.slice (some ⟨g, 0, none⟩) (F.length + 1) cap) n R (F ++ [x]) gs ∧ Below b w (w9.setCell ⟨b, 1, none⟩ (.slice (some ⟨g, 0, none⟩) (F.length + 1) cap)) := by
  have hvl := World.ownsRow.lt h.ov
  have hel := World.ownsRow.lt h.oe
  have hsg : w.heap.size + 1 ≤ w9.heap.size := by have := hgrow.size; simpa using this
  have hlb := h.lb
  have blk : ∀ j, j < w.heap.size → e.ownBlock ≠ some j → w9.heap[j]? = w.heap[j]? := fun j hj hne => by
    rw [hgrow.block j (by simp; omega) (fun e => hne e.symm), Below.heap_alloc _ _ _ (by omega)]
  have hbe : e.ownBlock ≠ some b := fun e => by have := (hel b e).1; omega
  have hblk := blk b hlb hbe
  have c0 : w9.cell? ⟨b, 0, none⟩ = some v := (World.cell?_of_block (w := w) hblk).trans h.c0
  have c1 : w9.cell? ⟨b, 1, none⟩ = some e := (World.cell?_of_block (w := w) hblk).trans h.c1
  have f0 : w9.frozen? ⟨b, 0, none⟩ = false := (World.frozen?_of_block (w := w) hblk).trans h.f0
  have f1 : w9.frozen? ⟨b, 1, none⟩ = false := (World.frozen?_of_block (w := w) hblk).trans h.f1
  have hV := own_besideM (World.ownsRow.alloc h.ov o) hgrow (fun g' e1 e2 => h.ne g' e2.symm e1)
  have blk2 : ∀ j, j < w.heap.size → j ≠ b → e.ownBlock ≠ some j → (w9.setCell ⟨b, 1, none⟩ (.slice (some ⟨g, 0, none⟩) (F.length + 1) cap)).heap[j]? = w.heap[j]? := fun j hj hjb hne => by
    rw [Below.heap_setCell _ _ _ _ (show j ≠ b from hjb), blk j hj hne]
  have hgn : ∀ j, j < w.heap.size → e.ownBlock ≠ some j → (Value.slice (some ⟨g, 0, none⟩) (F.length + 1) cap).ownBlock ≠ some j := fun j hj hne e2 => by
    simp [Value.ownBlock] at e2
    subst e2
    rcases hat with e3 | e3
    · exact hne e3
    · omega
  refine ⟨⟨c1, f1, by omega, blk2⟩, ⟨by simp; omega, ?_, World.cell?_setCell_same _ _ _ c1, by rw [World.frozen?_setCell]; exact f0, by rw [World.frozen?_setCell]; exact f1, ownsRow_setCell_below hV (a := ⟨b, 1, none⟩) (by show b < b + 1; omega) _, ownsRow_setCell_below (ERow.snoc hown) (a := ⟨b, 1, none⟩) (by show b < b + 1; omega) _, fun g' hg' e2 => ?_, h.gl, fun i g' hg' => ?_⟩, ?_⟩
  · rw [World.cell?_setCell_other _ _ _ _ (by simp)]; exact c0
  · have k2 := (hvl g' e2).2
    exact hgn g' k2 (fun e3 => h.ne g' e3 e2) hg'
  · obtain ⟨h1, h2, h3, h4, h5⟩ := h.row i g' hg'
    exact ⟨h1, by simp; omega, h3, hgn g' h2 h4, fun k hk => (World.cell?_of_block (w := w) (blk2 g' h2 (by omega) h4)).trans (h5 k hk)⟩
  · refine ⟨hgrow.os, hgrow.tape, hgrow.output, by simp; omega, fun j hj => ?_⟩
    exact blk2 j (by omega) (by omega) (fun e => by have := (hel j e).1; omega)

theorem KSt.at {w : World} {b : Nat} {v e : Value} {R : Nat → Nat → Nat} {F : List Bool} {gs : List Nat} {A : List (List Int)} (h : KSt w b v e A.length R F gs) (hA : ∀ i, i < A.length → (rx A i).length = 3 ∧ ∀ k, k < 3 → (rx A i)[k]? = some ((R i k : Nat) : Int)) : MAt w w.heap.size v A := by
  rcases h.ov.2 with ⟨rfl, h0⟩ | ⟨g, cap, cur, rfl, hg, hgg, hnc, hcm, _⟩
  · exact ⟨none, 0, by rw [h0], by omega, by unfold maxLen; omega, fun i hi => by omega⟩
  · refine ⟨_, _, rfl, hnc, hcm, fun i hi => ?_⟩
    have hgi : i < gs.length := by rw [h.gl]; exact hi
    have hc := World.ownsRow.cellAt h.ov i (by omega)
    rw [List.getElem?_map, List.getElem?_eq_getElem hgi] at hc
    obtain ⟨h1, h2, _, _, h5⟩ := h.row i gs[i] (List.getElem?_eq_getElem hgi)
    obtain ⟨a1, a2⟩ := hA i hi
    refine ⟨g, 0, _, rfl, (World.ownsRow.lt h.ov g rfl).2, by rw [Nat.zero_add]; exact hc, ⟨_, 3, by rw [a1]; rfl, by omega, by unfold maxLen; omega, fun k x hk => ?_⟩⟩
    have hk3 : k < 3 := by have := (List.getElem?_eq_some_iff.1 hk).1; omega
    rw [a2 k hk3] at hk
    simp at hk
    subst hk
    exact ⟨gs[i], 1, rfl, h2, h5 k hk3⟩

end Go.Proofs.Ytecgjhnihagleaa

namespace Go.Proofs.Ytecgjhnihagleaa
open Go.RowKit Plain Mch Tpc

theorem en_take {E : List Bool} {i : Nat} (h : i < E.length) : E.take (i + 1) = E.take i ++ [en E i] := by
  rw [List.take_add_one, List.getElem?_eq_getElem h]
  unfold en
  rw [List.getD, List.getElem?_eq_getElem h]
  rfl

theorem KSt.elder {w : World} {b : Nat} {v e : Value} {n : Nat} {R : Nat → Nat → Nat} {F : List Bool} {gs : List Nat} (h : KSt w b v e n R F gs) {j o : Nat} (hj : j < b) {u : Value} : KSt (w.setCell ⟨j, o, none⟩ u) b v e n R F gs := by
  have hblk : ∀ k, k ≠ j → (w.setCell ⟨j, o, none⟩ u).heap[k]? = w.heap[k]? := fun k hk => Below.heap_setCell _ _ _ _ hk
  refine ⟨by rw [World.size_setCell]; exact h.lb, (World.cell?_of_block (w := w) (hblk b (by omega))).trans h.c0, (World.cell?_of_block (w := w) (hblk b (by omega))).trans h.c1, (World.frozen?_of_block (w := w) (hblk b (by omega))).trans h.f0, (World.frozen?_of_block (w := w) (hblk b (by omega))).trans h.f1, ownsRow_setCell_below h.ov (a := ⟨j, o, none⟩) (by show j < b + 1; omega) _, ownsRow_setCell_below h.oe (a := ⟨j, o, none⟩) (by show j < b + 1; omega) _, h.ne, h.gl, fun i g hg => ?_⟩
  obtain ⟨h1, h2, h3, h4, h5⟩ := h.row i g hg
  exact ⟨h1, by rw [World.size_setCell]; exact h2, h3, h4, fun k hk => (World.cell?_of_block (w := w) (hblk g (by omega))).trans (h5 k hk)⟩

set_option maxRecDepth 100000 in
set_option maxHeartbeats 8000000 in
theorem mergeClasses_any (M : List (List Int)) (E : List Bool) (c : List Nat) (vM eM v : Value) (w : World) (hM : MAt w w.heap.size vM M) (hE : EAt w w.heap.size eM E) (hv : ZAt w w.heap.size v (zn c)) (hg : gm M E = true) (hl : c.length = M.length) :
    Calls Try.prog 49 #[.agg #[vM, eM], v] w fun x w' => (∃ r q, x = .returned (.agg #[r, q]) ∧ MAt w' w'.heap.size r (mg M c) ∧ EAt w' w'.heap.size q E) ∧ Below w.heap.size w w' := by
  obtain ⟨i0, hi, hz0, hz1, hz2⟩ := info_parts Try.infoZs
  obtain ⟨j0, hj, jz0, jz1, jz2⟩ := info_parts Try.infoBo
  have rc := fun (tmps : Array Value) (P : Program) (w : World) => results_cellM (fn := Try.f49) (p := 4) (ty := 30) rfl tmps P w
  have HM : Hid (MAt w w.heap.size vM M) := hM
  have HE : Hid (EAt w w.heap.size eM E) := hE
  have HV : Hid (ZAt w w.heap.size v (zn c)) := hv
  have HG : Hid (gm M E = true) := hg
  have HL : Hid (c.length = M.length) := hl
  have HLE : Hid (E.length = M.length) := (gm_iff.1 hg).1.2.2
  obtain ⟨aM, cM, rfl, hm1, hm2, _⟩ := hM
  obtain ⟨aE, cE, rfl, he1, he2, _⟩ := hE
  obtain ⟨av, cv, rfl, hc1, hc2, _⟩ := hv
  rw [zn_len] at hc1 HV
  rw [zn_len]
  unfold maxLen at hm2 hc2 he2
  have h12 : M.length ≤ 12 := (gm_iff.1 hg).1.2.1
  rw [hl] at HV hc1
  rw [hl]
  obtain ⟨A, hA⟩ : ∃ A, A = mg M c := ⟨_, rfl⟩
  have HA : Hid (A = mg M c) := hA
  have HAL : Hid (A.length = M.length) := by show _ = _; rw [hA, mg_len, hl]
  rw [← hA]
  obtain ⟨R, hR⟩ : ∃ R : Nat → Nat → Nat, R = fun i k => cx c (nt M i k) := ⟨_, rfl⟩
  have HR : Hid (R = fun i k => cx c (nt M i k)) := hR
  clear hA hg hl hR
  obtain ⟨W0, hW0⟩ : ∃ W, W = (w.alloc (.cells #[.slice aM M.length cM, .slice aE E.length cE] 30)).alloc (.cells #[.slice none 0 0, .slice none 0 0] 30) := ⟨_, rfl⟩
  have HS0 : Hid (W0.heap.size = w.heap.size + 2) := by show _ = _; rw [hW0]; simp
  have hB0 : Below w.heap.size w W0 := by rw [hW0]; exact ((Below.refl _ w).alloc (Nat.le_refl _) _).alloc (by simp) _
  have q0 : W0.cell? ⟨w.heap.size, 0, none⟩ = some (.slice aM M.length cM) := by rw [hW0]; go_simp
  have q1 : W0.cell? ⟨w.heap.size, 1, none⟩ = some (.slice aE E.length cE) := by rw [hW0]; go_simp
  have p0 : W0.cell? ⟨w.heap.size + 1, 0, none⟩ = some (.slice none 0 0) := by rw [hW0]; go_simp
  have p1 : W0.cell? ⟨w.heap.size + 1, 1, none⟩ = some (.slice none 0 0) := by rw [hW0]; go_simp
  have y0 : W0.frozen? ⟨w.heap.size + 1, 0, none⟩ = false := by rw [hW0]; go_simp
  have y1 : W0.frozen? ⟨w.heap.size + 1, 1, none⟩ = false := by rw [hW0]; go_simp
  obtain ⟨W1, hW1⟩ : ∃ W, W = W0.alloc (.cells #[.slice none 0 0, .slice none 0 0] 30) := ⟨_, rfl⟩
  have hB01 : Below W0.heap.size W0 W1 := by rw [hW1]; exact (Below.refl _ W0).alloc (Nat.le_refl _) _
  have hB1 : Below w.heap.size w W1 := hB0.trans (hB01.mono hB0.size)
  have HS1 : Hid (W1.heap.size = w.heap.size + 3) := by show _ = _; rw [hW1, World.size_alloc, HS0.out]
  have hz00 : w.heap.size < W0.heap.size := by rw [HS0.out]; omega
  have hz01 : w.heap.size + 1 < W0.heap.size := by rw [HS0.out]; omega
  have Q0 : Hid (W1.cell? ⟨w.heap.size, 0, none⟩ = some (.slice aM M.length cM) ∧ W1.cell? ⟨w.heap.size, 1, none⟩ = some (.slice aE E.length cE)) := ⟨(hB01.cell (p := ⟨w.heap.size, 0, none⟩) hz00).trans q0, (hB01.cell (p := ⟨w.heap.size, 1, none⟩) hz00).trans q1⟩
  have P0 : Hid (W1.cell? ⟨w.heap.size + 1, 0, none⟩ = some (.slice none 0 0) ∧ W1.cell? ⟨w.heap.size + 1, 1, none⟩ = some (.slice none 0 0) ∧ W1.frozen? ⟨w.heap.size + 1, 0, none⟩ = false ∧ W1.frozen? ⟨w.heap.size + 1, 1, none⟩ = false) := ⟨(hB01.cell (p := ⟨w.heap.size + 1, 0, none⟩) hz01).trans p0, (hB01.cell (p := ⟨w.heap.size + 1, 1, none⟩) hz01).trans p1, (hB01.frozen (p := ⟨w.heap.size + 1, 0, none⟩) hz01).trans y0, (hB01.frozen (p := ⟨w.heap.size + 1, 1, none⟩) hz01).trans y1⟩
  have HK1 : Hid (KSt W1 (w.heap.size + 2) (.slice none 0 0) (.slice none 0 0) 0 R (E.take 0) []) := by
    have e := HS0.out
    refine ⟨by rw [HS1.out]; omega, ?_, ?_, ?_, ?_, ⟨rfl, .inl ⟨rfl, rfl⟩⟩, ⟨rfl, .inl ⟨rfl, rfl⟩⟩, fun g hg => by simp [Value.ownBlock] at hg, rfl, fun i g hg => by simp at hg⟩
    · rw [hW1, ← e]; go_simp
    · rw [hW1, ← e]; go_simp
    · rw [hW1, ← e]; go_simp
    · rw [hW1, ← e]; go_simp
  clear q0 q1 p0 p1 y0 y1
  go_enter Try.func49, Try.ntmps49
  go_upto_region 1 with fail
  rw [← hW0]
  clear hW0
  have hs0 : W0.heap.size = w.heap.size + 2 := HS0.out
  go_upto_region 2 with fail
  rw [← hW1]
  clear hW1 hs0
  go_wp2
  go_loopw [10] (fun vi wr => ∃ (i : Nat) (v e : Value) (gs : List Nat), i ≤ M.length ∧ vi = .int .i64 (i : Int) ∧ Hid (KSt wr (w.heap.size + 2) v e i R (E.take i) gs) ∧ Hid (Below (w.heap.size + 2) W1 wr))
    (fun vi _ => M.length - (intOf vi).toNat)
  case atStart => exact ⟨0, _, _, _, by omega, rfl, HK1, Below.refl _ _⟩
  case round =>
    obtain ⟨i, vn, ve, gs, hin, rfl, hK, hbw⟩ := hrel
    clear HK1
    have hszr : w.heap.size + 3 ≤ wr.heap.size := by have := hbw.out.size; have := HS1.out; omega
    have hBr : Below w.heap.size w wr := hB1.trans (hbw.out.mono (by omega))
    by_cases hlt : i < M.length
    · have hlt' : (i : Int) < (M.length : Int) := by omega
      have q0 := (hbw.out.cell (p := ⟨w.heap.size, 0, none⟩) (by show w.heap.size < _; omega)).trans Q0.out.1
      have q1 := (hbw.out.cell (p := ⟨w.heap.size, 1, none⟩) (by show w.heap.size < _; omega)).trans Q0.out.2
      have hzw : w.heap.size < wr.heap.size := by omega
      go_wp2_with fail
      refine (outlookOf_any M E c _ _ _ i _ (HM.out.below hBr) (HE.out.below hBr) (HV.out.below hBr) HG.out HL.out hlt).mono ?_
      rintro e w5 ⟨rfl, hb5⟩
      have HTK : Hid (E.take (i + 1) = E.take i ++ [en E i]) := en_take (by rw [HLE.out]; exact hlt)
      obtain ⟨⟨qa, qb, qc, qd⟩, hq⟩ : ∃ q, q = lo4 M E c i := ⟨_, rfl⟩
      have HQ : Hid (qa = en E i ∧ qb = R i 0 ∧ qc = R i 1 ∧ qd = R i 2) := by
        have h := hq
        unfold lo4 at h
        simp only [Prod.mk.injEq] at h
        rw [HR.out]
        exact h
      rw [← hq]
      clear hq q0 q1
      unfold lkv
      dsimp only
      have hs5 : wr.heap.size ≤ w5.heap.size := hb5.size
      have HK5 : Hid (KSt w5 (w.heap.size + 2) vn ve i R (E.take i) gs) := hK.out.below hb5
      have HB5 : Hid (Below (w.heap.size + 2) W1 w5) := hbw.out.trans (hb5.mono (by omega))
      obtain ⟨W6, hW6⟩ : ∃ W, W = w5.alloc (.cells #[.bool qa, .int .i64 (qb : Int), .int .i64 (qc : Int), .int .i64 (qd : Int)] 96) := ⟨_, rfl⟩
      have HC6 : Hid (LC W6 w5.heap.size qa qb qc qd) := by show LC _ _ _ _ _ _; rw [hW6]; exact LC.made w5 qa qb qc qd
      have hb6 : Below w5.heap.size w5 W6 := by rw [hW6]; exact (Below.refl _ w5).alloc (Nat.le_refl _) _
      have HK6 : Hid (KSt W6 (w.heap.size + 2) vn ve i R (E.take i) gs) := HK5.out.below hb6
      have HB6 : Hid (Below (w.heap.size + 2) W1 W6) := HB5.out.trans (hb6.mono (by omega))
      have HS6 : Hid (W6.heap.size = w5.heap.size + 1) := by show _ = _; rw [hW6]; simp
      have HVT : Hid (∀ g, vn.ownBlock = some g → g < w5.heap.size) := fun g hg => (World.ownsRow.lt HK5.out.ov g hg).2
      have HET : Hid (∀ g, ve.ownBlock = some g → g < w5.heap.size) := fun g hg => (World.ownsRow.lt HK5.out.oe g hg).2
      have hlw : w5.heap.size < W6.heap.size := by rw [HS6.out]; omega
      have hbl : w.heap.size + 2 < W6.heap.size := by omega
      have HKD : Hid (KSt W6.drew (w.heap.size + 2) vn ve i R (E.take i) gs) := HK6.out.below ((Below.refl _ W6).drew)
      have HFL : Hid ((E.take i).length = i) := by show _ = _; rw [List.length_take]; have := HLE.out; omega
      obtain ⟨an, cn, hvn⟩ : ∃ a c, vn = .slice a i c := by
        rcases HK6.out.ov.2 with ⟨h, h0⟩ | ⟨g, cap, _, h, _⟩
        · exact ⟨none, 0, by rw [h, h0]⟩
        · exact ⟨_, _, h⟩
      subst hvn
      obtain ⟨ae, ce, hve⟩ := ERow.slice HK6.out.oe
      subst hve
      have d0 := HK6.out.c0
      have d0a : ∀ o, (W6.alloc o).cell? ⟨w.heap.size + 2, 0, none⟩ = some (.slice an i cn) := fun o => (HK6.out.below ((Below.refl _ W6).alloc (Nat.le_refl _) o)).c0
      clear hK hb5 hbw HK5 HB5 hb6
      go_upto_region 6 with fail
      rw [← hW6]
      clear hW6
      go_region_law
        (refine step_append_lies _ (by rfl) _ _ _ (by rfl) (w.heap.size + 3) 27 i0 (.slice none 0 0) 1 24 Try.underlying22 hi hz0 hz1 hz2 rfl (by decide) _ i _ (by rfl) (World.ownsRow.alloc HKD.out.ov _) ⟨W6.heap.size, 0, none⟩ 1 1 [.slice (some ⟨w5.heap.size, 1, none⟩) 3 3] (by rfl) rfl (World.news_of_block (heap_alloc_new W6.drew _)) (one1M _ _ _) (by omega) (by unfold maxLen; omega) (by omega) (by simp; omega) (W6.heap.size + 1) (by simp) ?_; intro g9 cap9 w9 hown9 hgrow9 hat9 hlt9; obtain ⟨⟨q9, f9, k9, b9⟩, hT9, hG9⟩ := HKD.out.next (g0 := w5.heap.size) (by omega) (by simpa using hlw) (fun e => by have := HVT.out _ e; omega) (fun e => by have := HET.out _ e; omega) (fun k hk => by obtain ⟨_, e1, e2, e3⟩ := HQ.out; obtain ⟨_, _, c1, c2, c3, _, _, _, _⟩ := (HC6.out.below ((Below.refl _ W6).drew)); rcases (show k = 0 ∨ k = 1 ∨ k = 2 by omega) with rfl | rfl | rfl; exact e1 ▸ c1; exact e2 ▸ c2; exact e3 ▸ c3) hown9 hgrow9 hat9)
      all_goals
        obtain ⟨W7, hW7⟩ : ∃ W, W = w9.setCell ⟨w.heap.size + 2, 0, none⟩ (.slice (some ⟨g9, 0, none⟩) (i + 1) cap9) := ⟨_, rfl⟩
        rw [← hW7] at hT9 hG9 b9
        have HK7 : Hid (KSt W7 (w.heap.size + 2) (.slice (some ⟨g9, 0, none⟩) (i + 1) cap9) (.slice ae (E.take i).length ce) (i + 1) R (E.take i) (gs ++ [w5.heap.size])) := hT9
        have HB7 : Hid (Below (w.heap.size + 2) W1 W7) := (below_drewT (n := 1) HB6.out).trans hG9
        have hblk : W7.heap[w5.heap.size]? = W6.heap[w5.heap.size]? := b9 _ (by simpa using hlw) (by omega) (fun e => by have := HVT.out _ e; omega)
        have e0 := (World.cell?_of_block (w := W6) (a := ⟨w5.heap.size, 0, none⟩) hblk).trans HC6.out.c0
        have hs7 : W6.heap.size ≤ W7.heap.size := by rw [hW7]; have := hgrow9.size; simp at this ⊢; omega
        have d1 := HK7.out.c1
        have hbl7 : w.heap.size + 2 < W7.heap.size := HK7.out.lb
        have hlw7 : w5.heap.size < W7.heap.size := by omega
        clear hT9 hG9 hown9 hgrow9 hat9 hlt9 q9 f9 k9 b9 d0 d0a HKD hblk
        go_upto_region 7 with fail
        rw [← hW7]
        clear hW7
        rw [HFL.out] at d1
        go_wp2_with (at_builtin; refine wpList_append_lies _ rfl _ _ 23 rfl (w.heap.size + 3) 4 j0 (.bool false) 1 1 Try.underlying23 hj jz0 jz1 jz2 rfl (by decide) _ i _ rfl (World.ownsRow.alloc (by have h := HK7.out.oe; unfold ERow at h; rw [HFL.out] at h; exact h) _) ⟨W7.heap.size, 0, none⟩ 1 1 [.bool qa] rfl rfl (World.news_of_block (heap_alloc_new W7 _)) (onebM _) (by omega) (by unfold maxLen; omega) (by omega) (by simp; omega) (W7.heap.size + 1) (by simp) ?_)
        intro g8 cap8 w8 hown8 hgrow8 hat8 hlt8
        obtain ⟨⟨q8, f8, k8, b8⟩, hT8, hG8⟩ := HK7.out.ends (x := qa) (cap := cap8) (g := g8) (by rw [HFL.out]; exact hown8) (by rw [HFL.out]; exact hgrow8) (by rw [HFL.out]; exact hat8)
        rw [HFL.out] at hT8 hG8 q8
        obtain ⟨W8, hW8⟩ : ∃ W, W = w8.setCell ⟨w.heap.size + 2, 1, none⟩ (.slice (some ⟨g8, 0, none⟩) (i + 1) cap8) := ⟨_, rfl⟩
        rw [← hW8] at hT8 hG8
        have HK8 : Hid (KSt W8 (w.heap.size + 2) (.slice (some ⟨g9, 0, none⟩) (i + 1) cap9) (.slice (some ⟨g8, 0, none⟩) (i + 1) cap8) (i + 1) R (E.take (i + 1)) (gs ++ [w5.heap.size])) := by
          rw [HTK.out, ← HQ.out.1]
          exact hT8
        have HB8 : Hid (Below (w.heap.size + 2) W1 W8) := HB7.out.trans hG8
        clear hT8 hG8 hown8 hgrow8 hat8 HK7 HB7 d1 e0 b8
        go_upto_region 8 with fail
        rw [← hW8]
        clear hW8
        go_wp2
        go_roundw
        case rel => exact ⟨i + 1, _, _, _, by omega, by go_num, HK8, HB8⟩
        case measure => simp [intOf]; omega
    · have hke : i = M.length := by omega
      have hge : ¬ ((i : Int) < (M.length : Int)) := by omega
      have HET : Hid (E.take i = E) := List.take_of_length_le (by rw [HLE.out, hke]; exact Nat.le_refl _)
      have HKE : Hid (KSt wr (w.heap.size + 2) vn ve A.length R E gs) := by
        have h := hK.out
        rw [HET.out] at h
        rw [HAL.out, ← hke]
        exact h
      obtain ⟨an, cn, hvn⟩ : ∃ a c, vn = .slice a A.length c := by
        rcases HKE.out.ov.2 with ⟨h, h0⟩ | ⟨g, cap, _, h, _⟩
        · exact ⟨none, 0, by rw [h, h0]⟩
        · exact ⟨_, _, h⟩
      subst hvn
      obtain ⟨ae, ce, hve⟩ := ERow.slice HKE.out.oe
      subst hve
      have HMA : Hid (MAt wr wr.heap.size (.slice an A.length cn) A) := HKE.out.at (fun j hj => by
        rw [HA.out, rx_mg (by rw [HL.out, ← HAL.out]; exact hj)]
        exact ⟨rfl, fun k hk => by rw [mgr_at hk, HR.out]⟩)
      have HEA : Hid (EAt wr wr.heap.size (.slice ae E.length ce) E) := EAt.own HKE.out.oe
      have d0 := HKE.out.c0
      have d1 := HKE.out.c1
      have hbl : w.heap.size + 2 < wr.heap.size := HKE.out.lb
      have HNB : Hid ((Value.slice an A.length cn).ownBlock ≠ some (w.heap.size + 1) ∧ (Value.slice ae E.length ce).ownBlock ≠ some (w.heap.size + 1)) := ⟨fun e => by have := (World.ownsRow.lt HKE.out.ov _ e).1; omega, fun e => by have := (World.ownsRow.lt HKE.out.oe _ e).1; omega⟩
      have p0 := (hbw.out.cell (p := ⟨w.heap.size + 1, 0, none⟩) (by show w.heap.size + 1 < _; omega)).trans P0.out.1
      have p1 := (hbw.out.cell (p := ⟨w.heap.size + 1, 1, none⟩) (by show w.heap.size + 1 < _; omega)).trans P0.out.2.1
      have y0 := (hbw.out.frozen (p := ⟨w.heap.size + 1, 0, none⟩) (by show w.heap.size + 1 < _; omega)).trans P0.out.2.2.1
      have y1 := (hbw.out.frozen (p := ⟨w.heap.size + 1, 1, none⟩) (by show w.heap.size + 1 < _; omega)).trans P0.out.2.2.2
      have HKF : Hid (KSt ((wr.setCell ⟨w.heap.size + 1, 0, none⟩ (.slice an A.length cn)).setCell ⟨w.heap.size + 1, 1, none⟩ (.slice ae E.length ce)) (w.heap.size + 2) (.slice an A.length cn) (.slice ae E.length ce) A.length R E gs) := (HKE.out.elder (by omega)).elder (by omega)
      have HMF : Hid (MAt ((wr.setCell ⟨w.heap.size + 1, 0, none⟩ (.slice an A.length cn)).setCell ⟨w.heap.size + 1, 1, none⟩ (.slice ae E.length ce)) ((wr.setCell ⟨w.heap.size + 1, 0, none⟩ (.slice an A.length cn)).setCell ⟨w.heap.size + 1, 1, none⟩ (.slice ae E.length ce)).heap.size (.slice an A.length cn) A) := HKF.out.at (fun j hj => by
        rw [HA.out, rx_mg (by rw [HL.out, ← HAL.out]; exact hj)]
        exact ⟨rfl, fun k hk => by rw [mgr_at hk, HR.out]⟩)
      have HEF : Hid (EAt ((wr.setCell ⟨w.heap.size + 1, 0, none⟩ (.slice an A.length cn)).setCell ⟨w.heap.size + 1, 1, none⟩ (.slice ae E.length ce)) ((wr.setCell ⟨w.heap.size + 1, 0, none⟩ (.slice an A.length cn)).setCell ⟨w.heap.size + 1, 1, none⟩ (.slice ae E.length ce)).heap.size (.slice ae E.length ce) E) := EAt.own HKF.out.oe
      clear hke hK
      go_wp2
      (try simp only [Exit.inBlock, Exit.then])
      refine bodyPost_ret (v := .agg #[.slice an A.length cn, .slice ae E.length ce]) ?_ rfl ⟨⟨_, _, rfl, HMF.out, HEF.out⟩, ?_⟩
      · rw [rc]
        go_simp
      · exact (hBr.setCell (p := ⟨w.heap.size + 1, 0, none⟩) (by show w.heap.size ≤ w.heap.size + 1; omega) _).setCell (p := ⟨w.heap.size + 1, 1, none⟩) (by show w.heap.size ≤ w.heap.size + 1; omega) _

end Go.Proofs.Ytecgjhnihagleaa
