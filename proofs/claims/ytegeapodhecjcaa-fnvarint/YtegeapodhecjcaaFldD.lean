/- The fields that the model draws. -/
import Derived.Test.YtegeapodhecjcaaCurD
import Derived.Test.YtegeapodhecjcaaFldC
import Derived.OwnWalk
import Derived.Deep.AppendLies
namespace Go.Proofs.Ytegeapodhecjcaa
open Go.RowKit

theorem Try.infoFld : (Try.prog.info? 52).map (fun i => (i.zero, i.size, i.bytes)) = some (some (.agg #[.int .i64 0, .int .i64 0, .int .i64 0, .string ⟨#[]⟩]), 4, 40) := by kernel_rfl

theorem grown_own {w w1 w2 : World} {b : Nat} {row : Option Nat} (h : w.grownBy w1 (some b)) (k : w1.grownBy w2 row) (hr : ∀ j, row = some j → w.heap.size ≤ j) : w.grownBy w2 (some b) :=
  ⟨k.os.trans h.os, k.tape.trans h.tape, k.output.trans h.output, Nat.le_trans h.size k.size, fun j hj hne => (k.block j (Nat.lt_of_lt_of_le hj h.size) (fun e => by have := hr j e.symm; omega)).trans (h.block j hj hne)⟩

theorem own_pick {w w' : World} {B b n size : Nat} {e : TypeId} {v : Value} {xs : List Value} (h : w.ownsRow B e size v n xs) (hg : w.grownBy w' (some b)) (hb : b < B) : w'.ownsRow B e size v n xs := by
  refine h.kept hg (.inr fun he => ?_)
  have := (h.lt b he).1
  omega

theorem own_set {w : World} {B n size g : Nat} {e : TypeId} {v : Value} {xs : List Value} (h : w.ownsRow B e size v n xs) {N : Nat} (hlt : ∀ k, v.ownBlock = some k → N ≤ k ∧ k < g) (i : Nat) (u : Value) : (w.setCell ⟨g, i, none⟩ u).ownsRow B e size v n xs :=
  h.kept (Lib.grownBy_setCell w g i u) (.inr fun he => by have := (hlt g he).2; omega)

theorem grown_set {w w1 : World} {b g : Nat} (h : w.grownBy w1 (some b)) (hg : w.heap.size ≤ g) (i : Nat) (u : Value) : w.grownBy (w1.setCell ⟨g, i, none⟩ u) (some b) :=
  grown_own h (Lib.grownBy_setCell w1 g i u) (fun j hj => by simp at hj; omega)

theorem cur_set {w : World} {b n g : Nat} (h : Cur w b n) (hg : b < g) (i : Nat) (u : Value) : Cur (w.setCell ⟨g, i, none⟩ u) b n :=
  h.grown (Lib.grownBy_setCell w g i u) (fun j hj => by simp at hj; omega)

theorem cell_new (w : World) (c : Array Value) (t : TypeId) (n j : Nat) (hn : n = w.heap.size) : (w.alloc (.cells c t)).cell? ⟨n, 0 + j, none⟩ = c[j]? := by
  subst hn; simp

theorem fb_size (l : List Fld) : (fb l).1.size ≤ 400 := by
  by_cases h : l.all Fld.ok = true ∧ l.length ≤ 40 ∧ (l.flatMap Fld.bytes).length ≤ 400
  · rw [fb_yes l h]; simpa [ByteArray.size] using h.2.2
  · rw [fb_no l h]; decide

theorem flat_cells (l : List Fld) (i j : Nat) (f : Fld) (h : l[i]? = some f) (hj : j < 4) : (l.flatMap Fld.cells)[i * 4 + j]? = f.cells[j]? := by
  induction l generalizing i with
  | nil => simp at h
  | cons a l ih =>
    rw [List.flatMap_cons]
    have ha : a.cells.length = 4 := rfl
    cases i with
    | zero =>
      simp at h; subst h
      rw [Nat.zero_mul, Nat.zero_add, List.getElem?_append_left (by omega)]
    | succ i =>
      simp at h
      rw [List.getElem?_append_right (by omega), ← ih i h]
      congr 1
      omega

theorem flat_cells_len (l : List Fld) : (l.flatMap Fld.cells).length = l.length * 4 := by
  induction l with
  | nil => rfl
  | cons a l ih => rw [List.flatMap_cons, List.length_append, ih, List.length_cons]; have : a.cells.length = 4 := rfl; omega

theorem FldsAt.own {w : World} {B : Nat} {v : Value} {l : List Fld} (h : w.ownsRow B 52 4 v l.length (l.flatMap Fld.cells)) (hl : l.length ≤ maxLen) : FldsAt w w.heap.size v l := by
  have h0 := h
  obtain ⟨_, ⟨rfl, hn⟩ | ⟨g, cap, cur, rfl, hB, hb, _⟩⟩ := h
  · have : l = [] := List.length_eq_zero_iff.1 hn
    subst this
    exact ⟨none, 0, rfl, hl, fun i f hi => by simp at hi⟩
  · refine ⟨some ⟨g, 0, none⟩, cap, rfl, hl, fun i f hi => ⟨g, 0, rfl, (h0.lt g rfl).2, ?_, ?_, ?_, ?_⟩⟩
    all_goals
      have hil : i < l.length := (List.getElem?_eq_some_iff.1 hi).1
    · have := h0.cellAt (i * 4 + 0) (by omega); rw [flat_cells l i 0 f hi (by omega)] at this; simpa [Fld.cells] using this
    · have := h0.cellAt (i * 4 + 1) (by omega); rw [flat_cells l i 1 f hi (by omega)] at this; simpa [Fld.cells] using this
    · have := h0.cellAt (i * 4 + 2) (by omega); rw [flat_cells l i 2 f hi (by omega)] at this; simpa [Fld.cells] using this
    · have := h0.cellAt (i * 4 + 3) (by omega); rw [flat_cells l i 3 f hi (by omega)] at this; simpa [Fld.cells] using this

theorem lit_strs (w : World) (t : TypeId) (l : List ByteArray) (i : Nat) (h : i < l.length) :
    (w.alloc (.cells (l.map Value.string).toArray t)).cell? ⟨w.heap.size, i, none⟩ = some (.string (l.getD i ⟨#[]⟩)) := by
  simp [List.getD, h]

set_option maxRecDepth 100000 in
set_option maxHeartbeats 4000000 in
theorem fields_any (b m : Nat) (w : World) (hc : Cur w b m) (hm : m ≤ 800000000) :
    Calls Try.prog 30 #[.pointer (some ⟨b, 0, none⟩)] w fun e w' => ∃ (v : Value) (l : List Fld), e = .returned v ∧ FldsAt w' w'.heap.size v l ∧ l.length ≤ 41 ∧ Cur w' b (m + 1000) ∧ w.grownBy w' (some b) := by
  obtain ⟨i0, hi, hz0, hz1, hz2⟩ := info_parts Try.infoFld
  have hbw := hc.lt
  go_enter Try.func30, Try.ntmps30
  go_wp2_with fail
  refine (pick_any b m _ _ hc (by omega)).mono ?_
  rintro e w1 ⟨x, rfl, hx, hc1, hg1⟩
  have hx6 : x ≤ 5 := by omega
  clear hx hc
  go_wp2_with fail
  refine (one_any b _ _ _ hc1 (by omega)).mono ?_
  rintro e w2 ⟨t1, rfl, hc2, hg2⟩
  have hg2' := Lib.grownBy_trans hg1 hg2
  clear hc1 hg1 hg2
  cases t1
  · go_wp2_with fail
    go_loopw [3, 4] (fun vl vn wr => ∃ (l : List Fld) (n : Nat), l.length + n ≤ 41 ∧ vn = .int .i64 (n : Int) ∧ wr.ownsRow w.heap.size 52 4 vl l.length (l.flatMap Fld.cells) ∧ Cur wr b (m + 6 + 20 * l.length) ∧ w.grownBy wr (some b))
      (fun _ vn _ => (intOf vn).toNat)
    case atStart => exact ⟨[], x, by simp; omega, by go_num, World.ownsRow_nil _ _ _ _, by simpa using hc2.le (by omega), hg2'⟩
    case round =>
      obtain ⟨l, n, hln, rfl, hown, hcr, hgr⟩ := hrel
      clear hc2 hg2'
      by_cases h0 : n = 0
      · subst h0
        by_cases hl0 : l.length = 0
        · have hl0' : (l.length : Int) ≤ 0 := by omega
          have hf : FldsAt wr wr.heap.size _ l := FldsAt.own hown (by unfold maxLen; omega)
          obtain ⟨ao, cap, hv⟩ : ∃ ao cap, _ = Value.slice ao l.length cap := by obtain ⟨ao, cap, hv, _⟩ := hf; exact ⟨ao, cap, hv⟩
          subst hv
          clear hown
          go_wp2
          go_ret
          exact ⟨_, l, rfl, hf, by omega, hcr.le (by omega), hgr⟩
        · obtain ⟨g, cap, hv⟩ := Joins.ownsRow_form hown (by omega)
          subst hv
          have hlp : (0 : Int) < (l.length : Int) := by omega
          go_wp2_with fail
          refine (one_any b _ _ _ hcr (by omega)).mono ?_
          rintro e wa ⟨t3, rfl, hca, hga⟩
          have howna := own_pick hown hga hbw
          have hga' := Lib.grownBy_trans hgr hga
          clear hown hcr hgr hga
          cases t3
          · have hf : FldsAt wa wa.heap.size _ l := FldsAt.own howna (by unfold maxLen; omega)
            clear howna
            go_wp2
            go_ret
            exact ⟨_, l, rfl, hf, by omega, hca.le (by omega), hga'⟩
          · go_wp2_with fail
            refine (among_any b _ wa.heap.size 3 3 (fun i => [0, 30, 31].getD i 0) _ (hca.alloc _) (by omega) (by omega) (by omega) (by have := hca.lt; omega) (fun i hi => lit_cells wa _ [0, 30, 31] i hi)).mono ?_
            rintro e wb ⟨i, hi3, rfl, hcb, hgb⟩
            generalize [0, 30, 31].getD i (0 : Int) = a1
            have hownb := own_pick (howna.alloc _) hgb hbw
            have hgb' := Lib.grownBy_trans (Lib.grownBy_allocR hga' _) hgb
            clear howna hca hga' hgb
            go_wp2_with fail
            refine (pick_any b _ _ _ hcb (by omega)).mono ?_
            rintro e wc ⟨a2, rfl, ha2, hcc, hgc⟩
            have hownc := own_pick hownb hgc hbw
            have hgc' := Lib.grownBy_trans hgb' hgc
            clear hownb hcb hgb' hgc ha2
            go_wp2_with fail
            refine (number_any b _ _ hcc (by omega)).mono ?_
            rintro e wd ⟨a3, rfl, _, _, hcd, hgd⟩
            have hownd := own_pick hownc hgd hbw
            have hgd' := Lib.grownBy_trans hgc' hgd
            clear hownc hcc hgc' hgd
            have hgB : w.heap.size ≤ g := (hownd.lt g rfl).1
            have d0 := hownd.cellAt 0 (by omega)
            have d1 := hownd.cellAt 1 (by omega)
            have d2 := hownd.cellAt 2 (by omega)
            have d3 := hownd.cellAt 3 (by omega)
            have z0 := hownd.frozenAt 0
            have z1 := hownd.frozenAt 1
            have z2 := hownd.frozenAt 2
            have z3 := hownd.frozenAt 3
            obtain ⟨f0, tl, rfl⟩ : ∃ f0 tl, l = f0 :: tl := by cases l with | nil => simp at hl0 | cons a b => exact ⟨a, b, rfl⟩
            simp only [List.flatMap_cons, Fld.cells, List.cons_append, List.nil_append, List.getElem?_cons_zero, List.getElem?_cons_succ] at d0 d1 d2 d3
            have hownE := ((((hownd.stored 0 (.int .i64 a1)).1.stored 1 (.int .i64 (a2 : Int))).1.stored 2 (.int .i64 a3)).1.stored 3 (.string ⟨#[]⟩)).1
            have hgE := grown_set (grown_set (grown_set (grown_set hgd' hgB 0 (.int .i64 a1)) hgB 1 (.int .i64 (a2 : Int))) hgB 2 (.int .i64 a3)) hgB 3 (.string ⟨#[]⟩)
            have hbg : b < g := by omega
            have hcE := cur_set (cur_set (cur_set (cur_set hcd hbg 0 (.int .i64 a1)) hbg 1 (.int .i64 (a2 : Int))) hbg 2 (.int .i64 a3)) hbg 3 (.string ⟨#[]⟩)
            have hfE := FldsAt.own (l := ⟨a1, a2, a3, ⟨#[]⟩⟩ :: tl) hownE (by unfold maxLen; simp at hln ⊢; omega)
            clear hownd hownE hgd' hcd
            go_wp2
            go_ret
            exact ⟨_, _, rfl, hfE, by simpa using hln, hcE.le (by simp at hln ⊢; omega), hgE⟩
      · have hn0 : (0 : Int) < (n : Int) := by omega
        clear h0
        go_wp2_with fail
        refine (pick_any b _ _ _ hcr (by omega)).mono ?_
        rintro e w4 ⟨y, rfl, hy, hc4, hg4⟩
        have hy6 : y ≤ 5 := by omega
        have hown4 := own_pick hown hg4 hbw
        have hg4' := Lib.grownBy_trans hgr hg4
        clear hy hown hcr hgr hg4
        go_wp2_with fail
        refine (small_any b _ _ hc4 (by omega)).mono ?_
        rintro e w5 ⟨num, rfl, hn1, hn2, hc5, hg5⟩
        have hown5 := own_pick hown4 hg5 hbw
        have hg5' := Lib.grownBy_trans hg4' hg5
        have hgs5 := hg5'.size
        clear hown4 hc4 hg4' hg5
        go_wp2_with fail
        refine (one_any b _ _ _ (hc5.alloc _) (by omega)).mono ?_
        rintro e w6 ⟨t2, rfl, hc6, hg6⟩
        have hown6 := own_pick (hown5.alloc _) hg6 hbw
        have hg6' := Lib.grownBy_trans (Lib.grownBy_allocR hg5' _) hg6
        have hw5 := hc5.lt
        have q : ∀ j u, #[Value.int .i64 (1 + (y : Int)), Value.int .i64 0, Value.int .i64 num, Value.string ⟨#[]⟩][j]? = some u → w6.cell? ⟨w5.heap.size, j, none⟩ = some u := fun j u hj => hg6.cell (by simpa using hj) (by simp; omega)
        have f6 : ∀ j, w6.frozen? ⟨w5.heap.size, j, none⟩ = false := fun j => (hg6.frozen_far ⟨w5.heap.size, j, none⟩ (by simp) (by simp; omega)).trans (by simp)
        have q0 := q 0 _ rfl
        have q1 := q 1 _ rfl
        have q2 := q 2 _ rfl
        have q3 := q 3 _ rfl
        have f60 := f6 0
        have f61 := f6 1
        have f62 := f6 2
        have f63 := f6 3
        have hs6 : w5.heap.size < w6.heap.size := by have := hg6.size; simp at this; omega
        have hlt5 := hown5.lt
        clear q f6 hown5 hc5 hg5' hg6
        cases t2
        · skip
          go_wp2_with (at_builtin; refine wpList_append_own _ rfl _ _ 48 rfl w.heap.size 52 i0 (.agg #[.int .i64 0, .int .i64 0, .int .i64 0, .string ⟨#[]⟩]) 4 40 Try.underlying48 hi hz0 hz1 hz2 rfl (by decide) _ _ _ rfl (hown6.alloc _) ⟨w6.heap.size, 0, none⟩ 1 1 (Fld.cells ⟨1 + (y : Int), 0, num, ⟨#[]⟩⟩) rfl rfl ?c1 ?c2 ?c3 ?c4 ?c5 ?_)
          case c1 =>
            intro j u hj
            match j, hj with
            | 0, hj => simp [Fld.cells] at hj; subst hj; exact cell_new _ _ _ _ 0 (by simp)
            | 1, hj => simp [Fld.cells] at hj; subst hj; exact cell_new _ _ _ _ 1 (by simp)
            | 2, hj => simp [Fld.cells] at hj; subst hj; exact cell_new _ _ _ _ 2 (by simp)
            | 3, hj => simp [Fld.cells] at hj; subst hj; exact cell_new _ _ _ _ 3 (by simp)
            | j + 4, hj => simp [Fld.cells] at hj
          case c2 => intro u hu; simp [Fld.cells] at hu; rcases hu with rfl | rfl | rfl | rfl <;> rfl
          case c3 => unfold maxLen; omega
          case c4 => omega
          case c5 => have := hg6'.size; simp at this ⊢; omega
          intro v' w9 hown' hgrow _
          have hlt9 := hown6.lt
          have hg9 : w.grownBy w9 (some b) := grown_own (Lib.grownBy_allocR hg6' _) hgrow (fun j hj => (hlt9 j hj).1)
          have hc9 : Cur w9 b (m + 6 + 20 * (l.length + 1)) := ((hc6.alloc _).grown hgrow (fun j hj => by have := (hlt9 j hj).1; omega)).le (by omega)
          have hown9 : w9.ownsRow w.heap.size 52 4 v' (l ++ [(⟨1 + (y : Int), 0, num, ⟨#[]⟩⟩ : Fld)]).length ((l ++ [(⟨1 + (y : Int), 0, num, ⟨#[]⟩⟩ : Fld)]).flatMap Fld.cells) := by
            rw [List.flatMap_append, List.length_append, List.length_singleton]
            simpa using hown'
          clear hgrow hown' hlt9
          go_wp2
          go_roundw
          case rel => exact ⟨l ++ [(⟨1 + (y : Int), 0, num, ⟨#[]⟩⟩ : Fld)], n - 1, by simp; omega, by go_num, hown9, by simpa using hc9, hg9⟩
          case measure => simp [intOf]; omega
        · skip
          go_wp2_with fail
          refine (pick_any b _ _ _ hc6 (by omega)).mono ?_
          rintro e w7 ⟨y2, rfl, hy2, hc7, hg7⟩
          have hy26 : y2 ≤ 5 := by omega
          have hown7 := own_pick hown6 hg7 hbw
          have hg7' := Lib.grownBy_trans hg6' hg7
          clear hy2
          go_wp2_with fail
          refine (of_any b _ w7.heap.size 4 4 (fun i => [⟨#[]⟩, ⟨#[97, 98]⟩, ⟨#[0, 255]⟩, ⟨#[115, 111, 109, 101, 32, 116, 101, 120, 116]⟩].getD i ⟨#[]⟩) _ (hc7.alloc _) (by omega) (by omega) (by omega) (by have := hc7.lt; omega) (fun i hi => lit_strs w7 _ [⟨#[]⟩, ⟨#[97, 98]⟩, ⟨#[0, 255]⟩, ⟨#[115, 111, 109, 101, 32, 116, 101, 120, 116]⟩] i hi)).mono ?_
          rintro e w8 ⟨i, hi4, rfl, hc8, hg8⟩
          have hown8 := own_pick (hown7.alloc _) hg8 hbw
          have hg8' := Lib.grownBy_trans (Lib.grownBy_allocR hg7' _) hg8
          have hs7 : w5.heap.size < w7.heap.size := by have := hg7.size; omega
          have p : ∀ j u, w6.cell? ⟨w5.heap.size, j, none⟩ = some u → w8.cell? ⟨w5.heap.size, j, none⟩ = some u := fun j u hj => hg8.cell ((World.cell?_alloc_lt _ _ _ hs7).trans (hg7.cell hj (by simp; omega))) (by simp; omega)
          have pf : ∀ j, w6.frozen? ⟨w5.heap.size, j, none⟩ = false → w8.frozen? ⟨w5.heap.size, j, none⟩ = false := fun j hj => (hg8.frozen_far ⟨w5.heap.size, j, none⟩ (by simp; omega) (by simp; omega)).trans ((World.frozen?_alloc_past _ _ _ hs7).trans ((hg7.frozen_far ⟨w5.heap.size, j, none⟩ hs6 (by simp; omega)).trans hj))
          have r0 := p 0 _ q0
          have r1 := p 1 _ q1
          have r2 := p 2 _ q2
          have r3 := p 3 _ q3
          have s0 := pf 0 f60
          have s1 := pf 1 f61
          have s2 := pf 2 f62
          have s3 := pf 3 f63
          generalize [⟨#[]⟩, ⟨#[97, 98]⟩, ⟨#[0, 255]⟩, ⟨#[115, 111, 109, 101, 32, 116, 101, 120, 116]⟩].getD i (⟨#[]⟩ : ByteArray) = s
          clear p pf q0 q1 q2 q3 f60 f61 f62 f63 hown7 hc7 hg7' hg8 hg7 hown6 hc6 hg6' hs7
          have hw5w : w.heap.size ≤ w5.heap.size := hgs5
          have hownA := own_set (own_set (own_set (own_set hown8 hlt5 0 (.int .i64 (1 + (y2 : Int)))) hlt5 1 (.int .i64 2)) hlt5 2 (.int .i64 0)) hlt5 3 (.string s)
          have hgA := grown_set (grown_set (grown_set (grown_set hg8' hw5w 0 (.int .i64 (1 + (y2 : Int)))) hw5w 1 (.int .i64 2)) hw5w 2 (.int .i64 0)) hw5w 3 (.string s)
          have hb5 : b < w5.heap.size := by omega
          have hcA := cur_set (cur_set (cur_set (cur_set hc8 hb5 0 (.int .i64 (1 + (y2 : Int)))) hb5 1 (.int .i64 2)) hb5 2 (.int .i64 0)) hb5 3 (.string s)
          clear hown8 hc8 hg8' hlt5

          go_wp2_with (at_builtin; refine wpList_append_own _ rfl _ _ 48 rfl w.heap.size 52 i0 (.agg #[.int .i64 0, .int .i64 0, .int .i64 0, .string ⟨#[]⟩]) 4 40 Try.underlying48 hi hz0 hz1 hz2 rfl (by decide) _ _ _ rfl (hownA.alloc _) ⟨w8.heap.size, 0, none⟩ 1 1 (Fld.cells ⟨1 + (y2 : Int), 2, 0, s⟩) rfl rfl ?c1 ?c2 ?c3 ?c4 ?c5 ?_)
          case c1 =>
            intro j u hj
            match j, hj with
            | 0, hj => simp [Fld.cells] at hj; subst hj; exact cell_new _ _ _ _ 0 (by simp)
            | 1, hj => simp [Fld.cells] at hj; subst hj; exact cell_new _ _ _ _ 1 (by simp)
            | 2, hj => simp [Fld.cells] at hj; subst hj; exact cell_new _ _ _ _ 2 (by simp)
            | 3, hj => simp [Fld.cells] at hj; subst hj; exact cell_new _ _ _ _ 3 (by simp)
            | j + 4, hj => simp [Fld.cells] at hj
          case c2 => intro u hu; simp [Fld.cells] at hu; rcases hu with rfl | rfl | rfl | rfl <;> rfl
          case c3 => unfold maxLen; omega
          case c4 => omega
          case c5 => have := hgA.size; simp at this ⊢; omega
          intro v' w9 hown' hgrow _
          have hlt9 := hownA.lt
          have hg9 : w.grownBy w9 (some b) := grown_own (Lib.grownBy_allocR hgA _) hgrow (fun j hj => (hlt9 j hj).1)
          have hc9 : Cur w9 b (m + 6 + 20 * (l.length + 1)) := ((hcA.alloc _).grown hgrow (fun j hj => by have := (hlt9 j hj).1; omega)).le (by omega)
          have hown9 : w9.ownsRow w.heap.size 52 4 v' (l ++ [(⟨1 + (y2 : Int), 2, 0, s⟩ : Fld)]).length ((l ++ [(⟨1 + (y2 : Int), 2, 0, s⟩ : Fld)]).flatMap Fld.cells) := by
            rw [List.flatMap_append, List.length_append, List.length_singleton]
            simpa using hown'
          clear hgrow hown' hlt9
          go_wp2
          go_roundw
          case rel => exact ⟨l ++ [(⟨1 + (y2 : Int), 2, 0, s⟩ : Fld)], n - 1, by simp; omega, by go_num, hown9, by simpa using hc9, hg9⟩
          case measure => simp [intOf]; omega
  · go_wp2_with fail
    refine (pick_any b _ _ _ hc2 (by omega)).mono ?_
    rintro e w3 ⟨x2, rfl, hx2, hc3, hg3⟩
    have hx22 : x2 ≤ 1 := by omega
    have hg3' := Lib.grownBy_trans hg2' hg3
    clear hx2 hc2 hg2' hg3
    go_wp2_with fail
    go_loopw [3, 4] (fun vl vn wr => ∃ (l : List Fld) (n : Nat), l.length + n ≤ 41 ∧ vn = .int .i64 (n : Int) ∧ wr.ownsRow w.heap.size 52 4 vl l.length (l.flatMap Fld.cells) ∧ Cur wr b (m + 6 + 20 * l.length) ∧ w.grownBy wr (some b))
      (fun _ vn _ => (intOf vn).toNat)
    case atStart => exact ⟨[], 40 + x2, by simp; omega, by go_num, World.ownsRow_nil _ _ _ _, by simpa using hc3.le (by omega), hg3'⟩
    case round =>
      obtain ⟨l, n, hln, rfl, hown, hcr, hgr⟩ := hrel
      clear hc3 hg3'
      by_cases h0 : n = 0
      · subst h0
        by_cases hl0 : l.length = 0
        · have hl0' : (l.length : Int) ≤ 0 := by omega
          have hf : FldsAt wr wr.heap.size _ l := FldsAt.own hown (by unfold maxLen; omega)
          obtain ⟨ao, cap, hv⟩ : ∃ ao cap, _ = Value.slice ao l.length cap := by obtain ⟨ao, cap, hv, _⟩ := hf; exact ⟨ao, cap, hv⟩
          subst hv
          clear hown
          go_wp2
          go_ret
          exact ⟨_, l, rfl, hf, by omega, hcr.le (by omega), hgr⟩
        · obtain ⟨g, cap, hv⟩ := Joins.ownsRow_form hown (by omega)
          subst hv
          have hlp : (0 : Int) < (l.length : Int) := by omega
          go_wp2_with fail
          refine (one_any b _ _ _ hcr (by omega)).mono ?_
          rintro e wa ⟨t3, rfl, hca, hga⟩
          have howna := own_pick hown hga hbw
          have hga' := Lib.grownBy_trans hgr hga
          clear hown hcr hgr hga
          cases t3
          · have hf : FldsAt wa wa.heap.size _ l := FldsAt.own howna (by unfold maxLen; omega)
            clear howna
            go_wp2
            go_ret
            exact ⟨_, l, rfl, hf, by omega, hca.le (by omega), hga'⟩
          · go_wp2_with fail
            refine (among_any b _ wa.heap.size 3 3 (fun i => [0, 30, 31].getD i 0) _ (hca.alloc _) (by omega) (by omega) (by omega) (by have := hca.lt; omega) (fun i hi => lit_cells wa _ [0, 30, 31] i hi)).mono ?_
            rintro e wb ⟨i, hi3, rfl, hcb, hgb⟩
            generalize [0, 30, 31].getD i (0 : Int) = a1
            have hownb := own_pick (howna.alloc _) hgb hbw
            have hgb' := Lib.grownBy_trans (Lib.grownBy_allocR hga' _) hgb
            clear howna hca hga' hgb
            go_wp2_with fail
            refine (pick_any b _ _ _ hcb (by omega)).mono ?_
            rintro e wc ⟨a2, rfl, ha2, hcc, hgc⟩
            have hownc := own_pick hownb hgc hbw
            have hgc' := Lib.grownBy_trans hgb' hgc
            clear hownb hcb hgb' hgc ha2
            go_wp2_with fail
            refine (number_any b _ _ hcc (by omega)).mono ?_
            rintro e wd ⟨a3, rfl, _, _, hcd, hgd⟩
            have hownd := own_pick hownc hgd hbw
            have hgd' := Lib.grownBy_trans hgc' hgd
            clear hownc hcc hgc' hgd
            have hgB : w.heap.size ≤ g := (hownd.lt g rfl).1
            have d0 := hownd.cellAt 0 (by omega)
            have d1 := hownd.cellAt 1 (by omega)
            have d2 := hownd.cellAt 2 (by omega)
            have d3 := hownd.cellAt 3 (by omega)
            have z0 := hownd.frozenAt 0
            have z1 := hownd.frozenAt 1
            have z2 := hownd.frozenAt 2
            have z3 := hownd.frozenAt 3
            obtain ⟨f0, tl, rfl⟩ : ∃ f0 tl, l = f0 :: tl := by cases l with | nil => simp at hl0 | cons a b => exact ⟨a, b, rfl⟩
            simp only [List.flatMap_cons, Fld.cells, List.cons_append, List.nil_append, List.getElem?_cons_zero, List.getElem?_cons_succ] at d0 d1 d2 d3
            have hownE := ((((hownd.stored 0 (.int .i64 a1)).1.stored 1 (.int .i64 (a2 : Int))).1.stored 2 (.int .i64 a3)).1.stored 3 (.string ⟨#[]⟩)).1
            have hgE := grown_set (grown_set (grown_set (grown_set hgd' hgB 0 (.int .i64 a1)) hgB 1 (.int .i64 (a2 : Int))) hgB 2 (.int .i64 a3)) hgB 3 (.string ⟨#[]⟩)
            have hbg : b < g := by omega
            have hcE := cur_set (cur_set (cur_set (cur_set hcd hbg 0 (.int .i64 a1)) hbg 1 (.int .i64 (a2 : Int))) hbg 2 (.int .i64 a3)) hbg 3 (.string ⟨#[]⟩)
            have hfE := FldsAt.own (l := ⟨a1, a2, a3, ⟨#[]⟩⟩ :: tl) hownE (by unfold maxLen; simp at hln ⊢; omega)
            clear hownd hownE hgd' hcd
            go_wp2
            go_ret
            exact ⟨_, _, rfl, hfE, by simpa using hln, hcE.le (by simp at hln ⊢; omega), hgE⟩
      · have hn0 : (0 : Int) < (n : Int) := by omega
        clear h0
        go_wp2_with fail
        refine (pick_any b _ _ _ hcr (by omega)).mono ?_
        rintro e w4 ⟨y, rfl, hy, hc4, hg4⟩
        have hy6 : y ≤ 5 := by omega
        have hown4 := own_pick hown hg4 hbw
        have hg4' := Lib.grownBy_trans hgr hg4
        clear hy hown hcr hgr hg4
        go_wp2_with fail
        refine (small_any b _ _ hc4 (by omega)).mono ?_
        rintro e w5 ⟨num, rfl, hn1, hn2, hc5, hg5⟩
        have hown5 := own_pick hown4 hg5 hbw
        have hg5' := Lib.grownBy_trans hg4' hg5
        have hgs5 := hg5'.size
        clear hown4 hc4 hg4' hg5
        go_wp2_with fail
        refine (one_any b _ _ _ (hc5.alloc _) (by omega)).mono ?_
        rintro e w6 ⟨t2, rfl, hc6, hg6⟩
        have hown6 := own_pick (hown5.alloc _) hg6 hbw
        have hg6' := Lib.grownBy_trans (Lib.grownBy_allocR hg5' _) hg6
        have hw5 := hc5.lt
        have q : ∀ j u, #[Value.int .i64 (1 + (y : Int)), Value.int .i64 0, Value.int .i64 num, Value.string ⟨#[]⟩][j]? = some u → w6.cell? ⟨w5.heap.size, j, none⟩ = some u := fun j u hj => hg6.cell (by simpa using hj) (by simp; omega)
        have f6 : ∀ j, w6.frozen? ⟨w5.heap.size, j, none⟩ = false := fun j => (hg6.frozen_far ⟨w5.heap.size, j, none⟩ (by simp) (by simp; omega)).trans (by simp)
        have q0 := q 0 _ rfl
        have q1 := q 1 _ rfl
        have q2 := q 2 _ rfl
        have q3 := q 3 _ rfl
        have f60 := f6 0
        have f61 := f6 1
        have f62 := f6 2
        have f63 := f6 3
        have hs6 : w5.heap.size < w6.heap.size := by have := hg6.size; simp at this; omega
        have hlt5 := hown5.lt
        clear q f6 hown5 hc5 hg5' hg6
        cases t2
        · skip
          go_wp2_with (at_builtin; refine wpList_append_own _ rfl _ _ 48 rfl w.heap.size 52 i0 (.agg #[.int .i64 0, .int .i64 0, .int .i64 0, .string ⟨#[]⟩]) 4 40 Try.underlying48 hi hz0 hz1 hz2 rfl (by decide) _ _ _ rfl (hown6.alloc _) ⟨w6.heap.size, 0, none⟩ 1 1 (Fld.cells ⟨1 + (y : Int), 0, num, ⟨#[]⟩⟩) rfl rfl ?c1 ?c2 ?c3 ?c4 ?c5 ?_)
          case c1 =>
            intro j u hj
            match j, hj with
            | 0, hj => simp [Fld.cells] at hj; subst hj; exact cell_new _ _ _ _ 0 (by simp)
            | 1, hj => simp [Fld.cells] at hj; subst hj; exact cell_new _ _ _ _ 1 (by simp)
            | 2, hj => simp [Fld.cells] at hj; subst hj; exact cell_new _ _ _ _ 2 (by simp)
            | 3, hj => simp [Fld.cells] at hj; subst hj; exact cell_new _ _ _ _ 3 (by simp)
            | j + 4, hj => simp [Fld.cells] at hj
          case c2 => intro u hu; simp [Fld.cells] at hu; rcases hu with rfl | rfl | rfl | rfl <;> rfl
          case c3 => unfold maxLen; omega
          case c4 => omega
          case c5 => have := hg6'.size; simp at this ⊢; omega
          intro v' w9 hown' hgrow _
          have hlt9 := hown6.lt
          have hg9 : w.grownBy w9 (some b) := grown_own (Lib.grownBy_allocR hg6' _) hgrow (fun j hj => (hlt9 j hj).1)
          have hc9 : Cur w9 b (m + 6 + 20 * (l.length + 1)) := ((hc6.alloc _).grown hgrow (fun j hj => by have := (hlt9 j hj).1; omega)).le (by omega)
          have hown9 : w9.ownsRow w.heap.size 52 4 v' (l ++ [(⟨1 + (y : Int), 0, num, ⟨#[]⟩⟩ : Fld)]).length ((l ++ [(⟨1 + (y : Int), 0, num, ⟨#[]⟩⟩ : Fld)]).flatMap Fld.cells) := by
            rw [List.flatMap_append, List.length_append, List.length_singleton]
            simpa using hown'
          clear hgrow hown' hlt9
          go_wp2
          go_roundw
          case rel => exact ⟨l ++ [(⟨1 + (y : Int), 0, num, ⟨#[]⟩⟩ : Fld)], n - 1, by simp; omega, by go_num, hown9, by simpa using hc9, hg9⟩
          case measure => simp [intOf]; omega
        · skip
          go_wp2_with fail
          refine (pick_any b _ _ _ hc6 (by omega)).mono ?_
          rintro e w7 ⟨y2, rfl, hy2, hc7, hg7⟩
          have hy26 : y2 ≤ 5 := by omega
          have hown7 := own_pick hown6 hg7 hbw
          have hg7' := Lib.grownBy_trans hg6' hg7
          clear hy2
          go_wp2_with fail
          refine (of_any b _ w7.heap.size 4 4 (fun i => [⟨#[]⟩, ⟨#[97, 98]⟩, ⟨#[0, 255]⟩, ⟨#[115, 111, 109, 101, 32, 116, 101, 120, 116]⟩].getD i ⟨#[]⟩) _ (hc7.alloc _) (by omega) (by omega) (by omega) (by have := hc7.lt; omega) (fun i hi => lit_strs w7 _ [⟨#[]⟩, ⟨#[97, 98]⟩, ⟨#[0, 255]⟩, ⟨#[115, 111, 109, 101, 32, 116, 101, 120, 116]⟩] i hi)).mono ?_
          rintro e w8 ⟨i, hi4, rfl, hc8, hg8⟩
          have hown8 := own_pick (hown7.alloc _) hg8 hbw
          have hg8' := Lib.grownBy_trans (Lib.grownBy_allocR hg7' _) hg8
          have hs7 : w5.heap.size < w7.heap.size := by have := hg7.size; omega
          have p : ∀ j u, w6.cell? ⟨w5.heap.size, j, none⟩ = some u → w8.cell? ⟨w5.heap.size, j, none⟩ = some u := fun j u hj => hg8.cell ((World.cell?_alloc_lt _ _ _ hs7).trans (hg7.cell hj (by simp; omega))) (by simp; omega)
          have pf : ∀ j, w6.frozen? ⟨w5.heap.size, j, none⟩ = false → w8.frozen? ⟨w5.heap.size, j, none⟩ = false := fun j hj => (hg8.frozen_far ⟨w5.heap.size, j, none⟩ (by simp; omega) (by simp; omega)).trans ((World.frozen?_alloc_past _ _ _ hs7).trans ((hg7.frozen_far ⟨w5.heap.size, j, none⟩ hs6 (by simp; omega)).trans hj))
          have r0 := p 0 _ q0
          have r1 := p 1 _ q1
          have r2 := p 2 _ q2
          have r3 := p 3 _ q3
          have s0 := pf 0 f60
          have s1 := pf 1 f61
          have s2 := pf 2 f62
          have s3 := pf 3 f63
          generalize [⟨#[]⟩, ⟨#[97, 98]⟩, ⟨#[0, 255]⟩, ⟨#[115, 111, 109, 101, 32, 116, 101, 120, 116]⟩].getD i (⟨#[]⟩ : ByteArray) = s
          clear p pf q0 q1 q2 q3 f60 f61 f62 f63 hown7 hc7 hg7' hg8 hg7 hown6 hc6 hg6' hs7
          have hw5w : w.heap.size ≤ w5.heap.size := hgs5
          have hownA := own_set (own_set (own_set (own_set hown8 hlt5 0 (.int .i64 (1 + (y2 : Int)))) hlt5 1 (.int .i64 2)) hlt5 2 (.int .i64 0)) hlt5 3 (.string s)
          have hgA := grown_set (grown_set (grown_set (grown_set hg8' hw5w 0 (.int .i64 (1 + (y2 : Int)))) hw5w 1 (.int .i64 2)) hw5w 2 (.int .i64 0)) hw5w 3 (.string s)
          have hb5 : b < w5.heap.size := by omega
          have hcA := cur_set (cur_set (cur_set (cur_set hc8 hb5 0 (.int .i64 (1 + (y2 : Int)))) hb5 1 (.int .i64 2)) hb5 2 (.int .i64 0)) hb5 3 (.string s)
          clear hown8 hc8 hg8' hlt5

          go_wp2_with (at_builtin; refine wpList_append_own _ rfl _ _ 48 rfl w.heap.size 52 i0 (.agg #[.int .i64 0, .int .i64 0, .int .i64 0, .string ⟨#[]⟩]) 4 40 Try.underlying48 hi hz0 hz1 hz2 rfl (by decide) _ _ _ rfl (hownA.alloc _) ⟨w8.heap.size, 0, none⟩ 1 1 (Fld.cells ⟨1 + (y2 : Int), 2, 0, s⟩) rfl rfl ?c1 ?c2 ?c3 ?c4 ?c5 ?_)
          case c1 =>
            intro j u hj
            match j, hj with
            | 0, hj => simp [Fld.cells] at hj; subst hj; exact cell_new _ _ _ _ 0 (by simp)
            | 1, hj => simp [Fld.cells] at hj; subst hj; exact cell_new _ _ _ _ 1 (by simp)
            | 2, hj => simp [Fld.cells] at hj; subst hj; exact cell_new _ _ _ _ 2 (by simp)
            | 3, hj => simp [Fld.cells] at hj; subst hj; exact cell_new _ _ _ _ 3 (by simp)
            | j + 4, hj => simp [Fld.cells] at hj
          case c2 => intro u hu; simp [Fld.cells] at hu; rcases hu with rfl | rfl | rfl | rfl <;> rfl
          case c3 => unfold maxLen; omega
          case c4 => omega
          case c5 => have := hgA.size; simp at this ⊢; omega
          intro v' w9 hown' hgrow _
          have hlt9 := hownA.lt
          have hg9 : w.grownBy w9 (some b) := grown_own (Lib.grownBy_allocR hgA _) hgrow (fun j hj => (hlt9 j hj).1)
          have hc9 : Cur w9 b (m + 6 + 20 * (l.length + 1)) := ((hcA.alloc _).grown hgrow (fun j hj => by have := (hlt9 j hj).1; omega)).le (by omega)
          have hown9 : w9.ownsRow w.heap.size 52 4 v' (l ++ [(⟨1 + (y2 : Int), 2, 0, s⟩ : Fld)]).length ((l ++ [(⟨1 + (y2 : Int), 2, 0, s⟩ : Fld)]).flatMap Fld.cells) := by
            rw [List.flatMap_append, List.length_append, List.length_singleton]
            simpa using hown'
          clear hgrow hown' hlt9
          go_wp2
          go_roundw
          case rel => exact ⟨l ++ [(⟨1 + (y2 : Int), 2, 0, s⟩ : Fld)], n - 1, by simp; omega, by go_num, hown9, by simpa using hc9, hg9⟩
          case measure => simp [intOf]; omega

set_option maxRecDepth 100000 in
set_option maxHeartbeats 4000000 in
theorem drawReadFields_any (ao : Option Addr) (len cap : Nat) (w : World) (hcode : CodeAt w ao len) :
    Calls Try.prog 26 #[.slice ao len cap] w fun e w' => ∃ s : ByteArray, e = .returned (.string s) ∧ s.size ≤ 402 ∧ Below w.heap.size w w' := by
  have hc0 := Cur.made (cap := cap) hcode 36
  go_enter Try.func26, Try.ntmps26
  go_wp2_with fail
  refine (fields_any w.heap.size 0 _ hc0 (by omega)).mono ?_
  rintro e w1 ⟨v, l, rfl, hf, _, hc1, hg1⟩
  have hb1 : Below w.heap.size w w1 := ((Below.refl _ _).alloc (Nat.le_refl _) _).grown hg1 (by simp) (fun k hk => by simp at hk; omega)
  clear hc0 hg1
  go_wp2_with fail
  refine (fieldsBytes_any l v _ hf).mono ?_
  rintro e w2 ⟨rfl, hb2⟩
  have hc2 : Cur w2 w.heap.size (0 + 1000) := hc1.below (hb2.mono hc1.lt)
  have hb2' : Below w.heap.size w w2 := hb1.trans (hb2.mono hb1.size)
  have hsz := fb_size l
  clear hc1 hb1 hb2 hf
  generalize fb l = R at *
  obtain ⟨s, t⟩ := R
  dsimp only at hsz ⊢
  go_wp2_with fail
  refine (one_any _ _ _ _ hc2 (by omega)).mono ?_
  rintro e w3 ⟨t1, rfl, hc3, hg3⟩
  have hb3 : Below w.heap.size w w3 := hb2'.grown hg3 hb2'.size (fun k hk => by simp at hk; omega)
  clear hc2 hb2' hg3
  cases t1
  · go_wp2
    go_ret
    exact ⟨s, rfl, by omega, hb3⟩
  · go_wp2_with fail
    refine (spoilt_any _ _ s ⟨#[0, 128, 8, 18, 255]⟩ _ hc3 (by omega) (by omega) (by decide) (by decide)).mono ?_
    rintro e w4 ⟨s', rfl, hs', hc4, hg4⟩
    have hb4 : Below w.heap.size w w4 := hb3.grown hg4 hb3.size (fun k hk => by simp at hk; omega)
    clear hc3 hb3 hg4 hc4
    go_wp2
    go_ret
    exact ⟨s', rfl, by omega, hb4⟩

set_option maxRecDepth 100000 in
set_option maxHeartbeats 4000000 in
theorem drawTakeVarint_any (ao : Option Addr) (len cap : Nat) (w : World) (hcode : CodeAt w ao len) :
    Calls Try.prog 14 #[.slice ao len cap] w fun e w' => ∃ (s : ByteArray) (n : Int), e = .returned (.tuple #[.string s, .int .i64 n]) ∧ s.size ≤ 402 ∧ Below w.heap.size w w' := by
  have hc0 := Cur.made (cap := cap) hcode 36
  have hcode1 := hcode.below (((Below.refl w.heap.size w).alloc (Nat.le_refl _) (.cells #[.slice ao len cap, .int .i64 0, .int .u64 0] 36)))
  go_enter Try.func14, Try.ntmps14
  go_wp2_with fail
  refine (drawReadFields_any ao len cap _ hcode1).mono ?_
  rintro e w1 ⟨s, rfl, hs, hb1⟩
  have hc1 : Cur w1 w.heap.size 0 := hc0.below (hb1.mono (by simp))
  have hb1' : Below w.heap.size w w1 := ((Below.refl _ _).alloc (Nat.le_refl _) _).trans (hb1.mono (by simp))
  clear hc0 hcode1 hb1 hcode
  go_wp2_with fail
  refine (pick_any _ _ _ _ hc1 (by omega)).mono ?_
  rintro e w2 ⟨x, rfl, hx, hc2, hg2⟩
  have hb2 : Below w.heap.size w w2 := hb1'.grown hg2 hb1'.size (fun k hk => by simp at hk; omega)
  clear hx hc1 hc2 hb1' hg2
  go_wp2
  go_ret2
  exact ⟨s, _, rfl, hs, hb2⟩

end Go.Proofs.Ytegeapodhecjcaa
