/- The draw of a box. -/
import Derived.Test.YtnbaeplbnonhkaaBxX
import Derived.Test.YtnbaeplbnonhkaaBxK
import Derived.Test.YtnbaeplbnonhkaaBxL
import Derived.Test.YtnbaeplbnonhkaaGn
import Derived.Deep.DeepCutAuto
import Derived.Deep.RegionLaw
namespace Go.Proofs.Ytnbaeplbnonhkaa
open Go.RowKit Plain Sch Bxs

theorem srow_grown {w w' : World} {B ty : Nat} {v : Value} {L : List Sd} {row : Option Nat} (hg : w.grownBy w' row) (hr : SRow w B ty v L) (hn : ∀ g, v.ownBlock = some g → ¬ some g = row) : SRow w' B ty v L := by
  refine ⟨hr.1, ?_⟩
  rcases hr.2 with hn' | ⟨g, cap, cur, hv, hg', hgg, rest⟩
  · exact .inl hn'
  · exact .inr ⟨g, cap, cur, hv, hg', (hg.block g (Array.getElem?_eq_some_iff.1 hgg).1 (hn g (by rw [hv]; rfl))).trans hgg, rest⟩

theorem srow_snoc {w : World} {B ty g cap : Nat} {L : List Sd} {t : Sd} (h : w.ownsRow B ty 2 (.slice (some ⟨g, 0, none⟩) (L.length + 1) cap) (L.length + 1) (L.flatMap Sd.cells ++ t.cells)) : SRow w B ty (.slice (some ⟨g, 0, none⟩) (L.length + 1) cap) (L ++ [t]) := by
  show World.ownsRow _ _ _ _ _ _ _
  rw [List.length_append, List.flatMap_append]
  simpa using h

/-- the draw of a box at work -/
structure SSt (w : World) (b K : Nat) (rv : Value) (L : List Sd) (m : Nat) (w' : World) : Prop where
  cur : Cur w' b m
  row : SRow w' (w.heap.size + 1) 58 rv L
  q : w'.cell? ⟨K, 0, none⟩ = some rv
  qf : w'.frozen? ⟨K, 0, none⟩ = false
  y : w'.cell? ⟨w.heap.size, 0, none⟩ = some (.slice none 0 0)
  z : w'.frozen? ⟨w.heap.size, 0, none⟩ = false
  gr : w.grownBy w' (some b)
  nK : rv.ownBlock ≠ some K
  K0 : w.heap.size < K
  b0 : b < w.heap.size

variable {w w' w'' : World} {b K m : Nat} {rv : Value} {L : List Sd}

theorem SSt.kl (h : SSt w b K rv L m w') : K < w'.heap.size := World.block_lt_of_cell? w' _ h.q
theorem SSt.yl (h : SSt w b K rv L m w') : w.heap.size < w'.heap.size := World.block_lt_of_cell? w' _ h.y

theorem SSt.pick (h : SSt w b K rv L m w') {m' : Nat} (hc : Cur w'' b m') (hg : w'.grownBy w'' (some b)) : SSt w b K rv L m' w'' := by
  have h3 := h.K0
  have h4 := h.b0
  have hl := h.yl
  have hk := h.kl
  refine ⟨hc, srow_grown hg h.row (fun k hk' e => ?_), hg.cell h.q (by simp; omega), (hg.frozen_far _ hk (by simp; omega)).trans h.qf, hg.cell h.y (by simp; omega), (hg.frozen_far _ hl (by simp; omega)).trans h.z, Lib.grownBy_trans h.gr hg, h.nK, h3, h4⟩
  have := (World.ownsRow.lt h.row k hk').1
  simp at e
  omega

theorem SSt.alloc (h : SSt w b K rv L m w') (o : Obj) : SSt w b K rv L m (w'.alloc o) := by
  have hg : w'.grownBy (w'.alloc o) none := Lib.grownBy_allocR (World.grownBy.refl w' none) o
  exact ⟨h.cur.alloc o, srow_grown hg h.row (fun g _ e => by cases e), hg.cell h.q (by simp), (hg.frozen_far _ h.kl (by simp)).trans h.qf, hg.cell h.y (by simp), (hg.frozen_far _ h.yl (by simp)).trans h.z, Lib.grownBy_allocR h.gr o, h.nK, h.K0, h.b0⟩

theorem SSt.drew (h : SSt w b K rv L m w') : SSt w b K rv L m w'.drew :=
  ⟨h.cur.drew, h.row, h.q, h.qf, h.y, h.z, ⟨h.gr.os, h.gr.tape, h.gr.output, h.gr.size, h.gr.block⟩, h.nK, h.K0, h.b0⟩

theorem SSt.le (h : SSt w b K rv L m w') {m' : Nat} (hm : m ≤ m') : SSt w b K rv L m' w' := ⟨h.cur.le hm, h.row, h.q, h.qf, h.y, h.z, h.gr, h.nK, h.K0, h.b0⟩

/-- a store into a block of the draw's own -/
theorem SSt.far (h : SSt w b K rv L m w') {X : Nat} (hX : w.heap.size < X) (hXK : X ≠ K) (hXr : rv.ownBlock ≠ some X) (j : Nat) (v : Value) : SSt w b K rv L m (w'.setCell ⟨X, j, none⟩ v) := by
  have hg := Lib.grownBy_setCell w' X j v
  have h4 := h.b0
  have h3 := h.K0
  refine ⟨h.cur.grown hg (by intro k hk; cases hk; omega), srow_grown hg h.row (fun g hg' e => hXr (by rw [hg', e])), hg.cell h.q (by simp; omega), (hg.frozen_far _ h.kl (by simp; omega)).trans h.qf, hg.cell h.y (by simp; omega), (hg.frozen_far _ h.yl (by simp; omega)).trans h.z, ?_, h.nK, h3, h4⟩
  exact ⟨hg.os.trans h.gr.os, hg.tape.trans h.gr.tape, hg.output.trans h.gr.output, Nat.le_trans h.gr.size hg.size, fun i hi hne => (hg.block i (by have := h.gr.size; omega) (by simp; omega)).trans (h.gr.block i hi hne)⟩

/-- the row's variable takes another row -/
theorem SSt.setK (h : SSt w b K rv L m w') {rv' : Value} {L' : List Sd} (hr : SRow w' (w.heap.size + 1) 58 rv' L') (hn : rv'.ownBlock ≠ some K) : SSt w b K rv' L' m (w'.setCell ⟨K, 0, none⟩ rv') := by
  have hg := Lib.grownBy_setCell w' K 0 rv'
  have h4 := h.b0
  have h3 := h.K0
  refine ⟨h.cur.grown hg (by intro k hk; cases hk; omega), srow_grown hg hr (fun g hg' e => hn (by rw [hg', e])), World.cell?_setCell_same _ _ _ h.q, by rw [World.frozen?_setCell]; exact h.qf, hg.cell h.y (by simp; omega), (hg.frozen_far _ h.yl (by simp; omega)).trans h.z, ?_, hn, h3, h4⟩
  exact ⟨hg.os.trans h.gr.os, hg.tape.trans h.gr.tape, hg.output.trans h.gr.output, Nat.le_trans h.gr.size hg.size, fun i hi hne => (hg.block i (by have := h.gr.size; omega) (by simp; omega)).trans (h.gr.block i hi hne)⟩

/-- behind an append -/
theorem SSt.grow {w9 : World} {o : Obj} {g9 cap9 : Nat} {t : Sd} (h : SSt w b K rv L m w') (hown : w9.ownsRow (w.heap.size + 1) 58 2 (.slice (some ⟨g9, 0, none⟩) (L.length + 1) cap9) (L.length + 1) (L.flatMap Sd.cells ++ t.cells)) (hgrow : (w'.alloc o).grownBy w9 rv.ownBlock) (hat : rv.ownBlock = some g9 ∨ g9 = w'.heap.size + 1) :
    w9.cell? ⟨K, 0, none⟩ = some rv ∧ w9.frozen? ⟨K, 0, none⟩ = false ∧ K < w9.heap.size ∧ SSt w b K (.slice (some ⟨g9, 0, none⟩) (L.length + 1) cap9) (L ++ [t]) m (w9.setCell ⟨K, 0, none⟩ (.slice (some ⟨g9, 0, none⟩) (L.length + 1) cap9)) := by
  have ha := h.alloc o
  have h3 := h.K0
  have h4 := h.b0
  have hk := h.kl
  have hlt := World.ownsRow.lt h.row
  have hq := hgrow.cell ha.q (fun e => h.nK e.symm)
  have hqf := (hgrow.frozen_far ⟨K, 0, none⟩ ha.kl (fun e => h.nK e.symm)).trans ha.qf
  have hy := hgrow.cell ha.y (fun e => by have := (hlt _ e.symm).1; dsimp only at this; omega)
  have hz := (hgrow.frozen_far ⟨w.heap.size, 0, none⟩ ha.yl (fun e => by have := (hlt _ e.symm).1; dsimp only at this; omega)).trans ha.z
  have hS : SSt w b K rv [] m w9 → True := fun _ => trivial
  have hn : (Value.slice (some ⟨g9, 0, none⟩) (L.length + 1) cap9).ownBlock ≠ some K := by
    intro e
    have e' : g9 = K := by simpa [Value.ownBlock] using e
    rcases hat with e2 | e2
    · exact h.nK (by rw [e2, e'])
    · omega
  have hcur : Cur w9 b m := ha.cur.grown hgrow (fun k hk' => by have := (hlt k hk').1; omega)
  have hgr : w.grownBy w9 (some b) := ⟨hgrow.os.trans ha.gr.os, hgrow.tape.trans ha.gr.tape, hgrow.output.trans ha.gr.output, Nat.le_trans ha.gr.size hgrow.size, fun i hi hne => (hgrow.block i (by have := ha.gr.size; omega) (fun e => by have := (hlt i e.symm).1; omega)).trans (ha.gr.block i hi hne)⟩
  have hrow9 : SRow w9 (w.heap.size + 1) 58 (.slice (some ⟨g9, 0, none⟩) (L.length + 1) cap9) (L ++ [t]) := srow_snoc hown
  have hg := Lib.grownBy_setCell w9 K 0 (.slice (some ⟨g9, 0, none⟩) (L.length + 1) cap9)
  have hkl : K < w9.heap.size := World.block_lt_of_cell? w9 _ hq
  have hyl : w.heap.size < w9.heap.size := World.block_lt_of_cell? w9 _ hy
  clear hS
  refine ⟨hq, hqf, hkl, hcur.grown hg (by intro k hk; cases hk; omega), srow_grown hg hrow9 (fun g hg' e => hn (by rw [hg', e])), World.cell?_setCell_same _ _ _ hq, by rw [World.frozen?_setCell]; exact hqf, hg.cell hy (by simp; omega), (hg.frozen_far _ hyl (by simp; omega)).trans hz, ?_, hn, h3, h4⟩
  exact ⟨hg.os.trans hgr.os, hg.tape.trans hgr.tape, hg.output.trans hgr.output, Nat.le_trans hgr.size hg.size, fun i hi hne => (hg.block i (by have := hgr.size; omega) (by simp; omega)).trans (hgr.block i hi hne)⟩


theorem nat_ge {x y : Nat} (h : x < y) : x + 1 ≤ y := h

/-- a box drawn -/
def BoxR (b m : Nat) (w : World) (e : Ending) (w' : World) : Prop :=
  ∃ rv L, e = .returned (.agg #[rv]) ∧ SRow w' w.heap.size 58 rv L ∧ L.length = 3 ∧ Cur w' b m ∧ w.grownBy w' (some b)

theorem box_fin {rv : Value} (hc : Cur w' b m) (hr : SRow w' (w.heap.size + 1) 58 rv L) (hg : w.grownBy w' (some b)) (hb : b < w.heap.size) (h3 : L.length = 3) {m' : Nat} (hm : m ≤ m') (u : Value) :
    BoxR b m' w (.returned (.agg #[rv])) (w'.setCell ⟨w.heap.size, 0, none⟩ u) := by
  have hs := Lib.grownBy_setCell w' w.heap.size 0 u
  refine ⟨rv, L, rfl, own_lower (srow_grown hs hr (fun k hk e => ?_)) (by omega), h3, (hc.grown hs (fun k hk => by simp at hk; omega)).le hm, ?_⟩
  · have := (World.ownsRow.lt hr k hk).1
    simp at e
    omega
  · exact ⟨hs.os.trans hg.os, hs.tape.trans hg.tape, hs.output.trans hg.output, Nat.le_trans hg.size hs.size, fun i hi hne => (hs.block i (by have := hg.size; omega) (by simp; omega)).trans (hg.block i hi hne)⟩

def AmR (b m : Nat) (w : World) (e : Ending) (w' : World) : Prop := ∃ x : Int, e = .returned (.int .i64 x) ∧ Cur w' b m ∧ w.grownBy w' (some b)

theorem among_three (b m' g : Nat) (w : World) {m : Nat} {x y z : Int} (hc : Cur w b m) (hm : m ≤ 1000000000) (hmm : m + 2 ≤ m') (hg : g ≠ b) (h0 : w.cell? ⟨g, 0, none⟩ = some (.int .i64 x)) (h1 : w.cell? ⟨g, 1, none⟩ = some (.int .i64 y)) (h2 : w.cell? ⟨g, 2, none⟩ = some (.int .i64 z)) :
    Calls Try.prog 56 #[.pointer (some ⟨b, 0, none⟩), .slice (some ⟨g, 0, none⟩) 3 3] w (AmR b m' w) := by
  refine (among_any b m g 3 3 (fun i => if i = 0 then x else if i = 1 then y else z) w hc hm (by omega) (by omega) hg ?_).mono ?_
  · intro i hi
    match i, hi with
    | 0, _ => exact h0
    | 1, _ => exact h1
    | 2, _ => exact h2
  · rintro e w' ⟨i, _, rfl, hc', hg'⟩
    exact ⟨_, rfl, hc'.le hmm, hg'⟩

theorem cell_two (w : World) (u v : Value) {g K : Nat} (h : g ≠ K) : ((w.setCell ⟨g, 0, none⟩ u).setCell ⟨g, 1, none⟩ v).cell? ⟨K, 0, none⟩ = w.cell? ⟨K, 0, none⟩ :=
  (World.cell?_setCell_other _ _ _ _ (fun e => by have := congrArg Addr.block e; simp at this; omega)).trans (World.cell?_setCell_other _ _ _ _ (fun e => by have := congrArg Addr.block e; simp at this; omega))

theorem SSt.two {g cap : Nat} (h : SSt w b K (.slice (some ⟨g, 0, none⟩) 3 cap) L m w') (h3 : L.length = 3) (x y : Int) :
    Cur ((w'.setCell ⟨g, 0, none⟩ (.int .i64 x)).setCell ⟨g, 1, none⟩ (.int .i64 y)) b m ∧ SRow ((w'.setCell ⟨g, 0, none⟩ (.int .i64 x)).setCell ⟨g, 1, none⟩ (.int .i64 y)) (w.heap.size + 1) 58 (.slice (some ⟨g, 0, none⟩) 3 cap) (L.set 0 ⟨x, y⟩) ∧ w.grownBy ((w'.setCell ⟨g, 0, none⟩ (.int .i64 x)).setCell ⟨g, 1, none⟩ (.int .i64 y)) (some b) := by
  have hlt := (World.ownsRow.lt h.row g rfl).1
  have h4 := h.b0
  have hg := Lib.grownBy_trans (Lib.grownBy_setCell w' g 0 (.int .i64 x)) (Lib.grownBy_setCell _ g 1 (.int .i64 y))
  refine ⟨h.cur.grown hg (fun k hk => by simp at hk; omega), ?_, ?_⟩
  · have h0 : w'.ownsRow (w.heap.size + 1) 58 2 (.slice (some ⟨g, 0, none⟩) 3 cap) 3 (L.flatMap Sd.cells) := by
      have h1 : w'.ownsRow (w.heap.size + 1) 58 2 (.slice (some ⟨g, 0, none⟩) 3 cap) L.length (L.flatMap Sd.cells) := h.row
      rw [h3] at h1
      exact h1
    have h1 := (World.ownsRow.stored (World.ownsRow.stored h0 0 (.int .i64 x)).1 1 (.int .i64 y)).1
    have e : ((L.flatMap Sd.cells).set 0 (.int .i64 x)).set 1 (.int .i64 y) = (L.set 0 ⟨x, y⟩).flatMap Sd.cells := by
      match L, h3 with
      | [s0, s1, s2], _ => rfl
    rw [e] at h1
    show World.ownsRow _ _ _ _ _ _ _
    rw [List.length_set, h3]
    exact h1
  · exact ⟨hg.os.trans h.gr.os, hg.tape.trans h.gr.tape, hg.output.trans h.gr.output, Nat.le_trans h.gr.size hg.size, fun i hi hne => (hg.block i (by have := h.gr.size; omega) (by simp; omega)).trans (h.gr.block i hi hne)⟩

theorem srow_cells {w : World} {B ty g cap : Nat} {L : List Sd} (h : SRow w B ty (.slice (some ⟨g, 0, none⟩) 3 cap) L) (h3 : L.length = 3) : (w.cell? ⟨g, 0, none⟩ = some (.int .i64 (sd L 0).lo) ∧ w.cell? ⟨g, 1, none⟩ = some (.int .i64 (sd L 0).hi)) ∧ w.frozen? ⟨g, 0, none⟩ = false ∧ w.frozen? ⟨g, 1, none⟩ = false := by
  have h' : w.ownsRow B ty 2 (.slice (some ⟨g, 0, none⟩) 3 cap) 3 (L.flatMap Sd.cells) := by
    have h1 : w.ownsRow B ty 2 (.slice (some ⟨g, 0, none⟩) 3 cap) L.length (L.flatMap Sd.cells) := h
    rw [h3] at h1
    exact h1
  have c : ∀ j, j < 2 → w.cell? ⟨g, 0 * 2 + j, none⟩ = (sd L 0).cells[j]? := fun j hj => by
    rw [World.ownsRow.cellAt h' (0 * 2 + j) (by omega)]
    exact flat2 L 0 j (by omega) hj
  exact ⟨⟨c 0 (by omega), c 1 (by omega)⟩, World.ownsRow.frozenAt h' 0, World.ownsRow.frozenAt h' 1⟩

set_option maxRecDepth 100000 in
set_option maxHeartbeats 8000000 in
theorem drawBox_any (b m : Nat) (w : World) (hc : Cur w b m) (hm : m ≤ 700000000) :
    Calls Try.prog 31 #[.pointer (some ⟨b, 0, none⟩)] w (BoxR b (m + 100) w) := by
  obtain ⟨i0, hi0, hz0, hz1', hz2⟩ := info_parts Try.infoSd
  have hbw := hc.lt
  have rc1 := fun (tmps : Array Value) (P : Program) (w : World) => results_cell_oneB (fn := Try.f31) (p := 2) (ty := 25) rfl tmps P w
  obtain ⟨W1, hW1⟩ : ∃ W, W = (w.alloc (.cells #[.slice none 0 0] 25)).alloc (.cells #[.slice none 0 0] 25) := ⟨_, rfl⟩
  have HS1 : Hid (SSt w b (w.heap.size + 1) (.slice none 0 0) [] m W1) := by
    show SSt _ _ _ _ _ _ _
    rw [hW1]
    exact ⟨(hc.alloc _).alloc _, srow_nil _ _ _, by go_simp, by go_simp, by go_simp, by go_simp, Lib.grownBy_allocR (Lib.grownBy_allocR (World.grownBy.refl w _) _) _, by simp [Value.ownBlock], by omega, hbw⟩
  go_enter Try.func31, Try.ntmps31
  go_upto_region 2 with fail
  rw [← hW1]
  clear hW1
  have q0 := HS1.out.q
  go_wp2_with fail
  go_loopw [4] (fun vi wr => ∃ (i : Nat) (L : List Sd) (rv : Value), i ≤ 3 ∧ vi = .int .i64 (i : Int) ∧ Hid (L.length = i) ∧ Hid (SSt w b (w.heap.size + 1) rv L (m + 8 * i) wr))
    (fun vi _ => 3 - (intOf vi).toNat)
  case atStart => exact ⟨0, [], _, by omega, rfl, rfl, HS1⟩
  case round =>
    obtain ⟨i, L, rv, hi3, rfl, hLi, hS⟩ := hrel
    clear q0 HS1
    obtain ⟨av, cv, hrv⟩ := hS.out.row.slice
    subst hrv
    have hL3 : L.length ≤ 3 := by have := hLi.out; omega
    by_cases hlt : i < 3
    · have hltI : (i : Int) < 3 := by omega
      go_wp2_with fail
      refine (pick_any b _ 6 _ hS.out.cur (by omega)).mono ?_
      rintro e w7 ⟨x, rfl, hx, hc7, hg7⟩
      have hS7 := hS.out.pick hc7 hg7
      have hx6 : (x : Int) ≤ 6 := by omega
      have q7 := hS7.q
      have hS7d := hS7.drew
      have q7d : w7.drew.cell? ⟨w.heap.size + 1, 0, none⟩ = some (.slice av L.length cv) := q7
      have hcd := hS7d.cur
      clear hc7 hg7 hx
      go_upto_region 6 with fail
      go_region_law
        (first
          | (go_simp; go_at_call 55; refine (pick_any b _ 5 _ hcd (by omega)).mono ?_; rintro e w10 ⟨y, rfl, hy, hc10, hg10⟩; have hS10 := hS7d.pick hc10 hg10; have hy6 : (y : Int) ≤ 6 := (by omega); have q10 := hS10.q; have q10a := (hS10.alloc (.cells #[.int .i64 (x : Int), .int .i64 (IntKind.i64.wrap ((x : Int) + (y : Int)))] 58)).q; have hrow10 := hS10.row; have hsz10 : w.heap.size + 1 ≤ w10.heap.size := hS10.yl)
          | (refine step_append_lies _ (by rfl) _ _ _ (by rfl) (w.heap.size + 1) 58 i0 (.agg #[.int .i64 0, .int .i64 0]) 2 16 Try.underlying23 hi0 hz0 hz1' hz2 rfl (by decide) _ L.length _ (by rfl) (World.ownsRow.alloc hrow10 _) ⟨w10.heap.size, 0, none⟩ 1 1 [.int .i64 (x : Int), .int .i64 (IntKind.i64.wrap ((x : Int) + (y : Int)))] (by rfl) rfl (World.news_of_block (heap_alloc_new w10 _)) (one2S _ _) (by omega) (by unfold maxLen; omega) (by omega) (by simp; omega) (w10.heap.size + 1) (by simp) ?_; intro g9 cap9 w9 hown9 hgrow9 hat9 hlt9; obtain ⟨q9, f9, k9, hS9⟩ := hS10.grow (t := ⟨(x : Int), IntKind.i64.wrap ((x : Int) + (y : Int))⟩) hown9 hgrow9 hat9)
          | fail "none")
      all_goals
        have HS9 : Hid (SSt w b (w.heap.size + 1) (.slice (some ⟨g9, 0, none⟩) (L.length + 1) cap9) (L ++ [⟨(x : Int), IntKind.i64.wrap ((x : Int) + (y : Int))⟩]) (m + 8 * (i + 1)) (w9.setCell ⟨w.heap.size + 1, 0, none⟩ (.slice (some ⟨g9, 0, none⟩) (L.length + 1) cap9))) := hS9.le (by omega)
        clear hS9 hown9 hgrow9 hat9 hlt9 hS10 hrow10 hc10 hg10 hS7 hS7d hcd q7 q7d q10 q10a hS
        go_wp2
        go_roundw
        case rel => exact ⟨i + 1, _, _, by omega, by go_num, by show (_ ++ [_]).length = _; rw [List.length_append, hLi.out]; rfl, HS9⟩
        case measure => simp [intOf]; omega
    · have hge : ¬ ((i : Int) < 3) := by omega
      have hLe : Hid (L.length = 3) := by show _ = _; rw [hLi.out]; omega
      have hSx : SSt w b (w.heap.size + 1) (.slice av L.length cv) L (m + 24) wr := hS.out.le (by omega)
      clear hS hLi
      go_wp2_with fail
      refine (one_any b _ 20 _ hSx.cur (by omega)).mono ?_
      rintro e w7 ⟨t, rfl, hc7, hg7⟩
      have hS7 := hSx.pick hc7 hg7
      have y7 := hS7.y
      have z7 := hS7.z
      have q7 := hS7.q
      clear hSx hc7 hg7
      cases t
      · go_wp2
        (try simp only [Exit.inBlock, Exit.then])
        refine bodyPost_ret (v := .agg #[.slice av L.length cv]) ?_ rfl ?_
        · rw [rc1]
          go_simp
        · exact box_fin hS7.cur hS7.row hS7.gr hbw hLe.out (by omega) _
      · obtain ⟨g, cap, hv⟩ := Joins.ownsRow_form hS7.row (by have := hLe.out; omega)
        simp only [Value.slice.injEq, true_and] at hv
        obtain ⟨rfl, rfl⟩ := hv
        have hlt7 := (World.ownsRow.lt hS7.row g rfl)
        have hnK : g ≠ w.heap.size + 1 := fun e => hS7.nK (by rw [e]; rfl)
        have hk7 := hS7.kl
        obtain ⟨o1, ho1⟩ : ∃ o, o = Obj.cells #[.int .i64 (-1001), .int .i64 (-1000), .int .i64 3] 3 := ⟨_, rfl⟩
        obtain ⟨o2, ho2⟩ : ∃ o, o = Obj.cells #[.int .i64 1000, .int .i64 1001, .int .i64 2] 3 := ⟨_, rfl⟩
        have hS7e := hS7
        rw [hLe.out] at hS7e q7
        have HS7 : Hid (SSt w b (w.heap.size + 1) (.slice (some ⟨g, 0, none⟩) 3 cv) L (m + 24 + 2) w7) := hS7e
        clear hS7e
        have q7d : w7.drew.cell? ⟨w.heap.size + 1, 0, none⟩ = some (.slice (some ⟨g, 0, none⟩) 3 cv) := q7
        have qa : ∀ o, (w7.alloc o).drew.cell? ⟨w.heap.size + 1, 0, none⟩ = some (.slice (some ⟨g, 0, none⟩) 3 cv) := fun o => ((HS7.out.alloc o).drew).q
        have qaa : ∀ o o', ((w7.alloc o).alloc o').drew.cell? ⟨w.heap.size + 1, 0, none⟩ = some (.slice (some ⟨g, 0, none⟩) 3 cv) := fun o o' => (((HS7.out.alloc o).alloc o').drew).q
        have CA : Hid (Calls Try.prog 56 #[.pointer (some ⟨b, 0, none⟩), .slice (some ⟨w7.heap.size, 0, none⟩) 3 3] ((w7.alloc (Obj.cells #[.int .i64 (-1001), .int .i64 (-1000), .int .i64 3] 3)).drew) (AmR b (m + 30) ((w7.alloc (Obj.cells #[.int .i64 (-1001), .int .i64 (-1000), .int .i64 3] 3)).drew))) := among_three (x := -1001) (y := -1000) (z := 3) _ _ _ _ ((HS7.out.alloc _).drew).cur (by omega) (by omega) (by omega) (by go_simp) (by go_simp) (by go_simp)
        have CB : Hid (∀ o, Calls Try.prog 56 #[.pointer (some ⟨b, 0, none⟩), .slice (some ⟨w7.heap.size, 0, none⟩) 3 3] (((w7.alloc (Obj.cells #[.int .i64 (-1001), .int .i64 (-1000), .int .i64 3] 3)).alloc o).drew) (AmR b (m + 30) (((w7.alloc (Obj.cells #[.int .i64 (-1001), .int .i64 (-1000), .int .i64 3] 3)).alloc o).drew))) := fun o => among_three (x := -1001) (y := -1000) (z := 3) _ _ _ _ (((HS7.out.alloc _).alloc _).drew).cur (by omega) (by omega) (by omega) (by go_simp) (by go_simp) (by go_simp)
        have CC : Hid (∀ o, Calls Try.prog 56 #[.pointer (some ⟨b, 0, none⟩), .slice (some ⟨w7.heap.size + 1, 0, none⟩) 3 3] (((w7.alloc o).alloc (Obj.cells #[.int .i64 (-1001), .int .i64 (-1000), .int .i64 3] 3)).drew) (AmR b (m + 30) (((w7.alloc o).alloc (Obj.cells #[.int .i64 (-1001), .int .i64 (-1000), .int .i64 3] 3)).drew))) := fun o => among_three (x := -1001) (y := -1000) (z := 3) _ _ _ _ (((HS7.out.alloc _).alloc _).drew).cur (by omega) (by omega) (by omega) (by go_simp) (by go_simp) (by go_simp)
        clear hS7
        go_upto_region 8 with fail
        go_region_held3 (fun w' => w'.cell? ⟨w.heap.size + 1, 0, none⟩ = some (.slice (some ⟨g, 0, none⟩) 3 cv))
          (first | with_reducible exact q11s _ _ | with_reducible exact q11 | with_reducible exact q10a _ | with_reducible exact q10 | with_reducible exact qaa _ _ | with_reducible exact qa _ | with_reducible exact q7d | exact q7)
          (first
            | (have hway := isA; go_at_call 56; refine (among_three (x := 1000) (y := 1001) (z := 2) b (m + 40) w10.heap.size (w10.alloc (Obj.cells #[.int .i64 1000, .int .i64 1001, .int .i64 2] 3)) (hS10.alloc _).cur (by omega) (by omega) (by have := hc10.lt; omega) (by go_simp) (by go_simp) (by go_simp)).mono ?_; rintro e w11 ⟨x2, rfl, hc11, hg11⟩; have hS11 := (hS10.alloc _).pick hc11 hg11; have q11 := hS11.q; obtain ⟨⟨cc0, cc1⟩, cf0, cf1⟩ := srow_cells hS11.row hLe.out; have q11s : ∀ u v, ((w11.setCell ⟨g, 0, none⟩ u).setCell ⟨g, 1, none⟩ v).cell? ⟨w.heap.size + 1, 0, none⟩ = some (.slice (some ⟨g, 0, none⟩) 3 cv) := fun u v => (cell_two _ _ _ hnK).trans q11)
            | (have hway := isB; go_at_call 56; refine (among_three (x := 1000) (y := 1001) (z := 2) b (m + 40) (w7.heap.size + 1) w10 hS10.cur (by omega) (by omega) (by omega) (hg10.cell (by go_simp) (by simp; omega)) (hg10.cell (by go_simp) (by simp; omega)) (hg10.cell (by go_simp) (by simp; omega))).mono ?_; rintro e w11 ⟨x2, rfl, hc11, hg11⟩; have hS11 := hS10.pick hc11 hg11; have q11 := hS11.q; obtain ⟨⟨cc0, cc1⟩, cf0, cf1⟩ := srow_cells hS11.row hLe.out; have q11s : ∀ u v, ((w11.setCell ⟨g, 0, none⟩ u).setCell ⟨g, 1, none⟩ v).cell? ⟨w.heap.size + 1, 0, none⟩ = some (.slice (some ⟨g, 0, none⟩) 3 cv) := fun u v => (cell_two _ _ _ hnK).trans q11)
            | (have hway := isC; go_at_call 56; refine (among_three (x := 1000) (y := 1001) (z := 2) b (m + 40) w7.heap.size w10 hS10.cur (by omega) (by omega) (by omega) (hg10.cell (by go_simp) (by simp; omega)) (hg10.cell (by go_simp) (by simp; omega)) (hg10.cell (by go_simp) (by simp; omega))).mono ?_; rintro e w11 ⟨x2, rfl, hc11, hg11⟩; have hS11 := hS10.pick hc11 hg11; have q11 := hS11.q; obtain ⟨⟨cc0, cc1⟩, cf0, cf1⟩ := srow_cells hS11.row hLe.out; have q11s : ∀ u v, ((w11.setCell ⟨g, 0, none⟩ u).setCell ⟨g, 1, none⟩ v).cell? ⟨w.heap.size + 1, 0, none⟩ = some (.slice (some ⟨g, 0, none⟩) 3 cv) := fun u v => (cell_two _ _ _ hnK).trans q11)
            | (go_at_call 56; (with_reducible refine (CC.out _).mono ?_); rintro e w10 ⟨x1, rfl, hc10, hg10⟩; have isC : True := trivial; have hS10 := (((HS7.out.alloc _).alloc _).drew).pick hc10 hg10; have q10 := hS10.q; have q10a := fun o => (hS10.alloc o).q)
            | (go_at_call 56; (with_reducible refine (CB.out _).mono ?_); rintro e w10 ⟨x1, rfl, hc10, hg10⟩; have isB : True := trivial; have hS10 := (((HS7.out.alloc _).alloc _).drew).pick hc10 hg10; have q10 := hS10.q; have q10a := fun o => (hS10.alloc o).q)
            | (go_at_call 56; (with_reducible refine CA.out.mono ?_); rintro e w10 ⟨x1, rfl, hc10, hg10⟩; have isA : True := trivial; have hS10 := ((HS7.out.alloc _).drew).pick hc10 hg10; have q10 := hS10.q; have q10a := fun o => (hS10.alloc o).q))
        all_goals
          obtain ⟨p1, p2, p3⟩ := hS11.two hLe.out x1 x2
          have HP : Hid (Cur ((w11.setCell ⟨g, 0, none⟩ (.int .i64 x1)).setCell ⟨g, 1, none⟩ (.int .i64 x2)) b (m + 40) ∧ SRow ((w11.setCell ⟨g, 0, none⟩ (.int .i64 x1)).setCell ⟨g, 1, none⟩ (.int .i64 x2)) (w.heap.size + 1) 58 (.slice (some ⟨g, 0, none⟩) 3 cv) (L.set 0 ⟨x1, x2⟩) ∧ w.grownBy ((w11.setCell ⟨g, 0, none⟩ (.int .i64 x1)).setCell ⟨g, 1, none⟩ (.int .i64 x2)) (some b)) := ⟨p1, p2, p3⟩
          have y11 := hS11.y
          have z11 := hS11.z
          have hg1 : g ≠ w.heap.size := by omega
          clear p1 p2 p3 hS11 hS10 hc11 hg11 hc10 hg10 q10 q10a qa qaa q7d CA CB CC HS7 ho1 ho2
          go_wp2
          (try simp only [Exit.inBlock, Exit.then])
          refine bodyPost_ret (v := .agg #[.slice (some ⟨g, 0, none⟩) 3 cv]) ?_ rfl ?_
          · rw [rc1]
            go_simp
          · obtain ⟨p1, p2, p3⟩ := HP.out
            exact box_fin (m' := m + 100) p1 p2 p3 hbw (by rw [List.length_set]; exact hLe.out) (by omega) _

end Go.Proofs.Ytnbaeplbnonhkaa
