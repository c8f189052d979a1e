/- What the model draws for subtypes: DrawIsSubtype, DrawSubSchema. -/
import Derived.Test.YtnhmleelhopjmaaGu
import Derived.Test.YtnhmleelhopjmaaBntA
import Derived.Test.YtnhmleelhopjmaaGe
namespace Go.Proofs.Ytnhmleelhopjmaa
open Go.RowKit Plain Sch
attribute [local go_sem ↓] Go.wp_at_zero Go.wp_at_succ

theorem results_cell_cell {fn : Func} {p u : Tmp} {ty ty' : TypeId} (h : fn.results = #[.cell p ty, .cell u ty']) (tmps : Array Value) (P : Program) (w : World) :
    (results fn tmps).run P w =
      ((asAddr (tmps.getD p undef)).run P w).andThen fun a w₁ => ((loadVar ty a).run P w₁).andThen fun v w₂ => ((asAddr (tmps.getD u undef)).run P w₂).andThen fun a' w₃ => ((loadVar ty' a').run P w₃).andThen fun v' w₄ => .ok (.tuple #[v, v']) w₄ := by
  simp only [results, h]
  simp [Sem.run_bind, Result.andThen]

/-- two small schemas in new memory -/
def DrS (w : World) (e : Ending) (w' : World) : Prop := ∃ (a : Nat) (ca : Nat) (A : List Ty) (b : Nat) (cb : Nat) (B : List Ty), e = .returned (.tuple #[.agg #[.slice (some ⟨a, 0, none⟩) A.length ca], .agg #[.slice (some ⟨b, 0, none⟩) B.length cb]]) ∧ SmallSch w w' (.slice (some ⟨a, 0, none⟩) A.length ca) A ∧ SmallSch w w' (.slice (some ⟨b, 0, none⟩) B.length cb) B

set_option maxRecDepth 100000 in
set_option maxHeartbeats 4000000 in
theorem drawIsSubtype_any (ao : Option Addr) (len cap : Nat) (w : World) (hcode : CodeAt w ao len) :
    Calls Try.prog 4 #[.slice ao len cap] w (DrS w) := by
  obtain ⟨W3, hW3⟩ : ∃ W, W = ((w.alloc (.cells #[.slice none 0 0] 25)).alloc (.cells #[.slice none 0 0] 25)).alloc (.cells #[.slice ao len cap, .int .i64 0, .int .u64 0] 46) := ⟨_, rfl⟩
  have hB1 : Below w.heap.size w ((w.alloc (.cells #[.slice none 0 0] 25)).alloc (.cells #[.slice none 0 0] 25)) := ((Below.refl _ w).alloc (Nat.le_refl _) _).alloc (by simp) _
  have hB3 : Below w.heap.size w W3 := by rw [hW3]; exact hB1.alloc (by simp; omega) _
  have HS3 : Hid (W3.heap.size = w.heap.size + 3) := by show _ = _; rw [hW3]; simp
  have hc3 : Cur W3 (w.heap.size + 2) 0 := by
    rw [hW3]
    have := Cur.made (cap := cap) (hcode.below hB1) 46
    simpa using this
  have y3 : W3.cell? ⟨w.heap.size, 0, none⟩ = some (.slice none 0 0) ∧ W3.frozen? ⟨w.heap.size, 0, none⟩ = false ∧ W3.cell? ⟨w.heap.size + 1, 0, none⟩ = some (.slice none 0 0) ∧ W3.frozen? ⟨w.heap.size + 1, 0, none⟩ = false := by rw [hW3]; refine ⟨by go_simp, by go_simp, by go_simp, by go_simp⟩
  have MC : Hid (Calls Try.prog 18 #[.pointer (some ⟨w.heap.size + 2, 0, none⟩)] W3 (SchR (w.heap.size + 2) (0 + 8000) false W3)) := maybeSchema_any (w.heap.size + 2) 0 W3 hc3 (by omega)
  unfold SchR at MC
  go_enter Try.func4, Try.ntmps4
  go_wp2_with fail
  rw [← hW3]
  clear hW3
  refine MC.out.mono ?_
  rintro e w4 ⟨rv, L, rfl, hrow, hl1, hl30, hnm, _, hc4, hg4⟩
  have hs3 := HS3.out
  have hsz4 := hg4.size
  have HNM : Hid (∀ x ∈ L, x.name.size ≤ 10) := hnm
  have bk4 : ∀ j, j < w.heap.size + 2 → w4.heap[j]? = W3.heap[j]? := fun j hj => hg4.block j (by omega) (by simp; omega)
  have hB4 : Below w.heap.size w w4 := grown_toBelow hB3 hg4 (by omega) (by omega)
  obtain ⟨g, cr, rfl⟩ := Joins.ownsRow_form hrow (by omega)
  have hgb := hrow.lt g rfl
  obtain ⟨W5, hW5⟩ : ∃ W, W = w4.alloc (.cells #[.slice (some ⟨g, 0, none⟩) L.length cr] 25) := ⟨_, rfl⟩
  have hB5 : Below w4.heap.size w4 W5 := by rw [hW5]; exact (Below.refl _ w4).alloc (Nat.le_refl _) _
  have HS5 : Hid (W5.heap.size = w4.heap.size + 1) := by show _ = _; rw [hW5]; simp
  have hc5 : Cur W5 (w.heap.size + 2) 8000 := by rw [hW5]; simpa using hc4.alloc _
  have q5 : W5.cell? ⟨w4.heap.size, 0, none⟩ = some (.slice (some ⟨g, 0, none⟩) L.length cr) := by rw [hW5]; go_simp
  have HR5 : Hid (TyRow W5 (w.heap.size + 3) (.slice (some ⟨g, 0, none⟩) L.length cr) L) := by rw [← hs3]; exact hrow.below hB5
  have HB5 : Hid (Below w.heap.size w W5) := hB4.trans (hB5.mono hB4.size)
  have HT5 : Hid (TysAt W5 W5.heap.size (.slice (some ⟨g, 0, none⟩) L.length cr) L) := HR5.out.at hnm
  have HYW : Hid (∀ W : World, (∀ j, j ≠ w.heap.size + 2 → j < W5.heap.size → W.heap[j]? = W5.heap[j]?) → (W.cell? ⟨w.heap.size, 0, none⟩ = some (.slice none 0 0) ∧ W.frozen? ⟨w.heap.size, 0, none⟩ = false ∧ W.cell? ⟨w.heap.size + 1, 0, none⟩ = some (.slice none 0 0) ∧ W.frozen? ⟨w.heap.size + 1, 0, none⟩ = false)) := fun W hW => by
    have hs5 := HS5.out
    have h0 := (hW w.heap.size (by omega) (by omega)).trans ((hB5.block w.heap.size (by omega)).trans (bk4 w.heap.size (by omega)))
    have h1 := (hW (w.heap.size + 1) (by omega) (by omega)).trans ((hB5.block (w.heap.size + 1) (by omega)).trans (bk4 (w.heap.size + 1) (by omega)))
    exact ⟨(World.cell?_of_block (w := W3) h0).trans y3.1, (World.frozen?_of_block (w := W3) h0).trans y3.2.1, (World.cell?_of_block (w := W3) h1).trans y3.2.2.1, (World.frozen?_of_block (w := W3) h1).trans y3.2.2.2⟩
  have HC5 : Hid (Cur W5 (w.heap.size + 2) 8000) := hc5
  clear hrow hnm hc4 hg4 hc3 y3 bk4 MC hB4 hc5 hB3 hB1
  go_wp2_with fail
  rw [← hW5]
  clear hW5
  refine (specGood_any L _ W5 HT5.out).mono ?_
  rintro e w6 ⟨rfl, hb6⟩
  have hs5 := HS5.out
  have hsz6 := hb6.size
  have HC6 : Hid (Cur w6 (w.heap.size + 2) 8000) := HC5.out.below (hb6.mono (by omega))
  have q6 : w6.cell? ⟨w4.heap.size, 0, none⟩ = some (.slice (some ⟨g, 0, none⟩) L.length cr) := (hb6.cell (p := ⟨w4.heap.size, 0, none⟩) (by show w4.heap.size < _; omega)).trans q5
  have HK6 : Hid (∀ j, j ≠ w.heap.size + 2 → j < W5.heap.size → w6.heap[j]? = W5.heap[j]?) := fun j _ hj => hb6.block j hj
  have HB6 : Hid (Below w.heap.size w w6) := HB5.out.trans (hb6.mono HB5.out.size)
  have hz6 : w4.heap.size < w6.heap.size := by omega
  have hz60 : w.heap.size + 3 ≤ w6.heap.size := by omega
  have HZ6 : Hid (W5.heap.size ≤ w6.heap.size) := hsz6
  clear hb6 q5 hsz6
  cases hgs : gs L
  · clear hgs
    have SC : Hid (Calls Try.prog 21 #[.pointer (some ⟨w.heap.size + 2, 0, none⟩)] w6.drew (SchR (w.heap.size + 2) (8000 + 7000) true w6.drew)) := schema_any (w.heap.size + 2) 8000 w6.drew HC6.out.drew (by omega)
    unfold SchR at SC
    have qd : w6.drew.cell? ⟨w4.heap.size, 0, none⟩ = some (.slice (some ⟨g, 0, none⟩) L.length cr) := q6
    go_upto_region 5 with fail
    go_region_held3 (fun w' => w'.cell? ⟨w4.heap.size, 0, none⟩ = some (.slice (some ⟨g, 0, none⟩) L.length cr))
      (first | exact (World.cell?_setCell_other _ _ _ _ (fun e => by have := congrArg Addr.block e; simp at this; omega)).trans ((World.cell?_setCell_other _ _ _ _ (fun e => by have := congrArg Addr.block e; simp at this; omega)).trans q9) | exact (World.cell?_setCell_other _ _ _ _ (fun e => by have := congrArg Addr.block e; simp at this; omega)).trans q9 | exact q9 | exact qd | exact q6)
      (first
        | (go_at_call 21; refine SC.out.mono ?_; rintro e w9 ⟨rv9, L9, rfl, hrow9, hl19, hl309, hnm9, _, hc9, hg9⟩; obtain ⟨g9, cr9, rfl⟩ := Joins.ownsRow_form hrow9 (by omega); have hsz9 : w6.heap.size ≤ w9.heap.size := hg9.size; have HK9 : Hid (∀ j, j ≠ w.heap.size + 2 → j < W5.heap.size → w9.heap[j]? = W5.heap[j]?) := fun j h1 h2 => (hg9.block j (by show j < w6.heap.size; have := HZ6.out; omega) (by simp; omega)).trans (HK6.out j h1 h2); have q9 : w9.cell? ⟨w4.heap.size, 0, none⟩ = some (.slice (some ⟨g, 0, none⟩) L.length cr) := (World.cell?_of_block (w := w6) (hg9.block w4.heap.size (by show _ < w6.heap.size; omega) (by simp; omega))).trans q6; have hyy9 := HYW.out w9 HK9.out; have hy9 := hyy9.1; have hyz9 := hyy9.2.1; have hx9 := hyy9.2.2.1; have hxz9 := hyy9.2.2.2; clear hyy9))
    have HR9 : Hid (TyRow w9 (w.heap.size + 3) (.slice (some ⟨g9, 0, none⟩) L9.length cr9) L9) := TyRow.lower hrow9 (by show _ ≤ w6.heap.size; omega)
    have HA9 : Hid (TyRow w9 (w.heap.size + 3) (.slice (some ⟨g, 0, none⟩) L.length cr) L) := row_lt HR5.out (fun j hj => HK9.out j (by simp [Value.ownBlock] at hj; omega) (by simp [Value.ownBlock] at hj; omega))
    have HB9 : Hid (Below w.heap.size w w9) := grown_toBelow HB6.out ⟨hg9.os, hg9.tape, hg9.output, hg9.size, hg9.block⟩ (by omega) (by omega)
    have HN9 : Hid (∀ x ∈ L9, x.name.size ≤ 10) := hnm9
    have hz9 : w.heap.size + 3 ≤ w9.heap.size := by omega
    have hz91 : w.heap.size + 1 < w9.heap.size := by omega
    have hz90 : w.heap.size < w9.heap.size := by omega
    clear hrow9 hnm9 hc9 hg9 SC
    go_wp2
    (try simp only [Exit.inBlock, Exit.then])
    have HBE : Hid (Below w.heap.size w ((w9.setCell ⟨w.heap.size, 0, none⟩ (.slice (some ⟨g, 0, none⟩) L.length cr)).setCell ⟨w.heap.size + 1, 0, none⟩ (.slice (some ⟨g9, 0, none⟩) L9.length cr9))) := (HB9.out.setCell (p := ⟨w.heap.size, 0, none⟩) (Nat.le_refl _) _).setCell (p := ⟨w.heap.size + 1, 0, none⟩) (by show w.heap.size ≤ w.heap.size + 1; omega) _
    refine bodyPost_ret (v := .tuple #[.agg #[.slice (some ⟨g, 0, none⟩) L.length cr], .agg #[.slice (some ⟨g9, 0, none⟩) L9.length cr9]]) ?_ rfl ⟨g, cr, L, g9, cr9, L9, rfl, ⟨((HA9.out.setCell (a := ⟨w.heap.size, 0, none⟩) (by show w.heap.size < _; omega) _).setCell (a := ⟨w.heap.size + 1, 0, none⟩) (by show w.heap.size + 1 < _; omega) _).lower (by omega), hl1, hl30, HNM.out, HBE.out⟩, ⟨((HR9.out.setCell (a := ⟨w.heap.size, 0, none⟩) (by show w.heap.size < _; omega) _).setCell (a := ⟨w.heap.size + 1, 0, none⟩) (by show w.heap.size + 1 < _; omega) _).lower (by omega), hl19, hl309, HN9.out, HBE.out⟩⟩
    rw [results_cell_cell rfl]
    go_simp
  · go_wp2_with fail
    refine (one_any (w.heap.size + 2) 8000 3 _ HC6.out (by omega)).mono ?_
    rintro e w7 ⟨t7, rfl, hc7, hg7⟩
    have hsz7 := hg7.size
    have HC7 : Hid (Cur w7 (w.heap.size + 2) 8002) := hc7
    have HK7 : Hid (∀ j, j ≠ w.heap.size + 2 → j < W5.heap.size → w7.heap[j]? = W5.heap[j]?) := fun j h1 h2 => (hg7.block j (by have := HZ6.out; omega) (by simp; omega)).trans (HK6.out j h1 h2)
    have HB7 : Hid (Below w.heap.size w w7) := grown_toBelow HB6.out hg7 (by omega) (by omega)
    have q7 : w7.cell? ⟨w4.heap.size, 0, none⟩ = some (.slice (some ⟨g, 0, none⟩) L.length cr) := (World.cell?_of_block (w := w6) (hg7.block w4.heap.size (by omega) (by simp; omega))).trans q6
    have hz7 : w4.heap.size < w7.heap.size := by omega
    have hz70 : w.heap.size + 3 ≤ w7.heap.size := by omega
    have HZ7 : Hid (W5.heap.size ≤ w7.heap.size) := Nat.le_trans HZ6.out hsz7
    clear hc7 hg7 hsz7 q6 hz6 hz60 HK6 HB6 HC6 HZ6
    cases t7
    · have HUP : Hid (UpOk L) := UpOk.of (gs_ups L hgs)
      clear hgs
      have SC : Hid (Calls Try.prog 20 #[.pointer (some ⟨w.heap.size + 2, 0, none⟩), .agg #[.slice (some ⟨g, 0, none⟩) L.length cr]] w7.drew (SchR (w.heap.size + 2) (8002 + 20) false w7.drew)) := bent_any (w.heap.size + 2) 8002 g cr L w7.drew HC7.out.drew (by omega) ((row_lt (w' := w7.drew) HR5.out (fun j hj => HK7.out j (by simp [Value.ownBlock] at hj; omega) (by simp [Value.ownBlock] at hj; omega))).lower (Nat.zero_le _)) hl1 hl30 HNM.out HUP.out
      unfold SchR at SC
      have qd : w7.drew.cell? ⟨w4.heap.size, 0, none⟩ = some (.slice (some ⟨g, 0, none⟩) L.length cr) := q7
      go_upto_region 4 with fail
      go_region_held3 (fun w' => w'.cell? ⟨w4.heap.size, 0, none⟩ = some (.slice (some ⟨g, 0, none⟩) L.length cr))
        (first | exact (World.cell?_setCell_other _ _ _ _ (fun e => by have := congrArg Addr.block e; simp at this; omega)).trans ((World.cell?_setCell_other _ _ _ _ (fun e => by have := congrArg Addr.block e; simp at this; omega)).trans q9) | exact (World.cell?_setCell_other _ _ _ _ (fun e => by have := congrArg Addr.block e; simp at this; omega)).trans q9 | exact q9 | exact qd | exact q7)
        (first
          | (go_at_call 20; refine SC.out.mono ?_; rintro e w9 ⟨rv9, L9, rfl, hrow9, hl19, hl309, hnm9, _, hc9, hg9⟩; obtain ⟨g9, cr9, rfl⟩ := Joins.ownsRow_form hrow9 (by omega); have hsz9 : w7.heap.size ≤ w9.heap.size := hg9.size; have HK9 : Hid (∀ j, j ≠ w.heap.size + 2 → j < W5.heap.size → w9.heap[j]? = W5.heap[j]?) := fun j h1 h2 => (hg9.block j (by show j < w7.heap.size; have := HZ7.out; omega) (by simp; omega)).trans (HK7.out j h1 h2); have q9 : w9.cell? ⟨w4.heap.size, 0, none⟩ = some (.slice (some ⟨g, 0, none⟩) L.length cr) := (World.cell?_of_block (w := w7) (hg9.block w4.heap.size (by show _ < w7.heap.size; omega) (by simp; omega))).trans q7; have hyy9 := HYW.out w9 HK9.out; have hy9 := hyy9.1; have hyz9 := hyy9.2.1; have hx9 := hyy9.2.2.1; have hxz9 := hyy9.2.2.2; clear hyy9))
      have HR9 : Hid (TyRow w9 (w.heap.size + 3) (.slice (some ⟨g9, 0, none⟩) L9.length cr9) L9) := TyRow.lower hrow9 (by show _ ≤ w7.heap.size; omega)
      have HA9 : Hid (TyRow w9 (w.heap.size + 3) (.slice (some ⟨g, 0, none⟩) L.length cr) L) := row_lt HR5.out (fun j hj => HK9.out j (by simp [Value.ownBlock] at hj; omega) (by simp [Value.ownBlock] at hj; omega))
      have HB9 : Hid (Below w.heap.size w w9) := grown_toBelow HB7.out ⟨hg9.os, hg9.tape, hg9.output, hg9.size, hg9.block⟩ (by omega) (by omega)
      have HN9 : Hid (∀ x ∈ L9, x.name.size ≤ 10) := hnm9
      have hz9 : w.heap.size + 3 ≤ w9.heap.size := by omega
      have hz91 : w.heap.size + 1 < w9.heap.size := by omega
      have hz90 : w.heap.size < w9.heap.size := by omega
      clear hrow9 hnm9 hc9 hg9 SC
      go_wp2
      (try simp only [Exit.inBlock, Exit.then])
      have HBE : Hid (Below w.heap.size w ((w9.setCell ⟨w.heap.size, 0, none⟩ (.slice (some ⟨g, 0, none⟩) L.length cr)).setCell ⟨w.heap.size + 1, 0, none⟩ (.slice (some ⟨g9, 0, none⟩) L9.length cr9))) := (HB9.out.setCell (p := ⟨w.heap.size, 0, none⟩) (Nat.le_refl _) _).setCell (p := ⟨w.heap.size + 1, 0, none⟩) (by show w.heap.size ≤ w.heap.size + 1; omega) _
      refine bodyPost_ret (v := .tuple #[.agg #[.slice (some ⟨g, 0, none⟩) L.length cr], .agg #[.slice (some ⟨g9, 0, none⟩) L9.length cr9]]) ?_ rfl ⟨g, cr, L, g9, cr9, L9, rfl, ⟨((HA9.out.setCell (a := ⟨w.heap.size, 0, none⟩) (by show w.heap.size < _; omega) _).setCell (a := ⟨w.heap.size + 1, 0, none⟩) (by show w.heap.size + 1 < _; omega) _).lower (by omega), hl1, hl30, HNM.out, HBE.out⟩, ⟨((HR9.out.setCell (a := ⟨w.heap.size, 0, none⟩) (by show w.heap.size < _; omega) _).setCell (a := ⟨w.heap.size + 1, 0, none⟩) (by show w.heap.size + 1 < _; omega) _).lower (by omega), hl19, hl309, HN9.out, HBE.out⟩⟩
      rw [results_cell_cell rfl]
      go_simp
    · clear hgs
      have SC : Hid (Calls Try.prog 21 #[.pointer (some ⟨w.heap.size + 2, 0, none⟩)] w7.drew (SchR (w.heap.size + 2) (8002 + 7000) true w7.drew)) := schema_any (w.heap.size + 2) 8002 w7.drew HC7.out.drew (by omega)
      unfold SchR at SC
      have qd : w7.drew.cell? ⟨w4.heap.size, 0, none⟩ = some (.slice (some ⟨g, 0, none⟩) L.length cr) := q7
      go_upto_region 5 with fail
      go_region_held3 (fun w' => w'.cell? ⟨w4.heap.size, 0, none⟩ = some (.slice (some ⟨g, 0, none⟩) L.length cr))
        (first | exact (World.cell?_setCell_other _ _ _ _ (fun e => by have := congrArg Addr.block e; simp at this; omega)).trans ((World.cell?_setCell_other _ _ _ _ (fun e => by have := congrArg Addr.block e; simp at this; omega)).trans q9) | exact (World.cell?_setCell_other _ _ _ _ (fun e => by have := congrArg Addr.block e; simp at this; omega)).trans q9 | exact q9 | exact qd | exact q7)
        (first
          | (go_at_call 21; refine SC.out.mono ?_; rintro e w9 ⟨rv9, L9, rfl, hrow9, hl19, hl309, hnm9, _, hc9, hg9⟩; obtain ⟨g9, cr9, rfl⟩ := Joins.ownsRow_form hrow9 (by omega); have hsz9 : w7.heap.size ≤ w9.heap.size := hg9.size; have HK9 : Hid (∀ j, j ≠ w.heap.size + 2 → j < W5.heap.size → w9.heap[j]? = W5.heap[j]?) := fun j h1 h2 => (hg9.block j (by show j < w7.heap.size; have := HZ7.out; omega) (by simp; omega)).trans (HK7.out j h1 h2); have q9 : w9.cell? ⟨w4.heap.size, 0, none⟩ = some (.slice (some ⟨g, 0, none⟩) L.length cr) := (World.cell?_of_block (w := w7) (hg9.block w4.heap.size (by show _ < w7.heap.size; omega) (by simp; omega))).trans q7; have hyy9 := HYW.out w9 HK9.out; have hy9 := hyy9.1; have hyz9 := hyy9.2.1; have hx9 := hyy9.2.2.1; have hxz9 := hyy9.2.2.2; clear hyy9))
      have HR9 : Hid (TyRow w9 (w.heap.size + 3) (.slice (some ⟨g9, 0, none⟩) L9.length cr9) L9) := TyRow.lower hrow9 (by show _ ≤ w7.heap.size; omega)
      have HA9 : Hid (TyRow w9 (w.heap.size + 3) (.slice (some ⟨g, 0, none⟩) L.length cr) L) := row_lt HR5.out (fun j hj => HK9.out j (by simp [Value.ownBlock] at hj; omega) (by simp [Value.ownBlock] at hj; omega))
      have HB9 : Hid (Below w.heap.size w w9) := grown_toBelow HB7.out ⟨hg9.os, hg9.tape, hg9.output, hg9.size, hg9.block⟩ (by omega) (by omega)
      have HN9 : Hid (∀ x ∈ L9, x.name.size ≤ 10) := hnm9
      have hz9 : w.heap.size + 3 ≤ w9.heap.size := by omega
      have hz91 : w.heap.size + 1 < w9.heap.size := by omega
      have hz90 : w.heap.size < w9.heap.size := by omega
      clear hrow9 hnm9 hc9 hg9 SC
      go_wp2
      (try simp only [Exit.inBlock, Exit.then])
      have HBE : Hid (Below w.heap.size w ((w9.setCell ⟨w.heap.size, 0, none⟩ (.slice (some ⟨g, 0, none⟩) L.length cr)).setCell ⟨w.heap.size + 1, 0, none⟩ (.slice (some ⟨g9, 0, none⟩) L9.length cr9))) := (HB9.out.setCell (p := ⟨w.heap.size, 0, none⟩) (Nat.le_refl _) _).setCell (p := ⟨w.heap.size + 1, 0, none⟩) (by show w.heap.size ≤ w.heap.size + 1; omega) _
      refine bodyPost_ret (v := .tuple #[.agg #[.slice (some ⟨g, 0, none⟩) L.length cr], .agg #[.slice (some ⟨g9, 0, none⟩) L9.length cr9]]) ?_ rfl ⟨g, cr, L, g9, cr9, L9, rfl, ⟨((HA9.out.setCell (a := ⟨w.heap.size, 0, none⟩) (by show w.heap.size < _; omega) _).setCell (a := ⟨w.heap.size + 1, 0, none⟩) (by show w.heap.size + 1 < _; omega) _).lower (by omega), hl1, hl30, HNM.out, HBE.out⟩, ⟨((HR9.out.setCell (a := ⟨w.heap.size, 0, none⟩) (by show w.heap.size < _; omega) _).setCell (a := ⟨w.heap.size + 1, 0, none⟩) (by show w.heap.size + 1 < _; omega) _).lower (by omega), hl19, hl309, HN9.out, HBE.out⟩⟩
      rw [results_cell_cell rfl]
      go_simp

set_option maxRecDepth 100000 in
set_option maxHeartbeats 4000000 in
theorem drawSubSchema_any (ao : Option Addr) (len cap : Nat) (w : World) (hcode : CodeAt w ao len) :
    Calls Try.prog 9 #[.slice ao len cap] w (DrI w) := by
  obtain ⟨W1, hW1⟩ : ∃ W, W = w.alloc (.cells #[.slice none 0 0] 25) := ⟨_, rfl⟩
  have hB1 : Below w.heap.size w W1 := by rw [hW1]; exact (Below.refl _ w).alloc (Nat.le_refl _) _
  have HS1 : Hid (W1.heap.size = w.heap.size + 1) := by show _ = _; rw [hW1]; simp
  have y1 : W1.cell? ⟨w.heap.size, 0, none⟩ = some (.slice none 0 0) := by rw [hW1]; go_simp
  have z1 : W1.frozen? ⟨w.heap.size, 0, none⟩ = false := by rw [hW1]; go_simp
  go_enter Try.func9, Try.ntmps9
  go_wp2_with fail
  rw [← hW1]
  clear hW1
  refine (drawFieldsOf_any ao len cap W1 (hcode.below hB1)).mono ?_
  rintro e w2 ⟨ar, cr, L, k, rfl, hrow, hl1, hl30, hnm, hb2⟩
  have hs1 := HS1.out
  have y2 := (hb2.cell (p := ⟨w.heap.size, 0, none⟩) (by show w.heap.size < _; omega)).trans y1
  have z2 := (hb2.frozen (p := ⟨w.heap.size, 0, none⟩) (by show w.heap.size < _; omega)).trans z1
  have hz2 : w.heap.size < w2.heap.size := by have := hb2.size; omega
  have HR2 : Hid (TyRow w2 W1.heap.size (.slice ar L.length cr) L) := hrow
  have HNM : Hid (∀ x ∈ L, x.name.size ≤ 10) := hnm
  have HB2 : Hid (Below w.heap.size w w2) := hB1.trans (hb2.mono hB1.size)
  clear hrow hnm hb2 y1 z1
  go_wp2
  (try simp only [Exit.inBlock, Exit.then])
  refine bodyPost_ret (v := .tuple #[.agg #[.slice ar L.length cr], .int .i64 k]) ?_ rfl ⟨ar, cr, L, k, rfl, (HR2.out.setCell (a := ⟨w.heap.size, 0, none⟩) (by show w.heap.size < _; omega) _).lower (by omega), hl1, hl30, HNM.out, HB2.out.setCell (p := ⟨w.heap.size, 0, none⟩) (Nat.le_refl _) _⟩
  rw [results_cell_tmp rfl]
  go_simp

end Go.Proofs.Ytnhmleelhopjmaa
