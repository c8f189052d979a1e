/- The schemas that the model draws: schema. The schemas that the model draws: maybeSchema. What the model draws for paths: DrawFieldsOf. -/
import Derived.Test.YtnhmleelhopjmaaGt
import Derived.Test.YtnhmleelhopjmaaGj
import Derived.Deep.RegionHeld3
import Derived.Deep.DrawnRows
namespace Go.Proofs.Ytnhmleelhopjmaa
open Go.RowKit Plain Sch

theorem draw_all : ∀ d : Nat, TypOK d ∧ MsgOK d
  | 0 => by
    have h := typeOf_step 0 (fun e he => by omega)
    exact ⟨h, messageOf_step 0 h⟩
  | d + 1 => by
    have ih := draw_all d
    have h := typeOf_step (d + 1) (fun e he => by
      obtain rfl : d = e := by omega
      exact ih)
    exact ⟨h, messageOf_step (d + 1) h⟩

theorem draw_small (x : Nat) (h : x ≤ 3) : stT x ≤ 1244 ∧ szT x ≤ 156 := by
  have h4 : x = 0 ∨ x = 1 ∨ x = 2 ∨ x = 3 := by omega
  rcases h4 with rfl | rfl | rfl | rfl <;> decide

def oneTy : Ty := ⟨5, ⟨#[]⟩, 0, false, -1, 0⟩

theorem one_good : gs [oneTy] = true := by
  have hG : GT (.mk 5 ⟨#[]⟩ 0 false 0 []) := by
    rw [GT_iff]
    refine ⟨by decide, ⟨fun h => absurd rfl h, fun h => absurd h (by decide), fun _ => ⟨fun x hx => ?_, List.Pairwise.nil⟩⟩, fun x hx => ?_⟩
    · simp [Tr.kids] at hx
    · simp [Tr.kids] at hx
  exact gs_flat (.mk 5 ⟨#[]⟩ 0 false 0 []) hG ⟨rfl, rfl, rfl, rfl⟩ (by simp [Tr.size, sizeL]) (by simp [Tr.size, sizeL]; decide)

theorem own_one (w' : World) (B g : Nat) (t : Ty) (hg : w'.heap[g]? = some (.cells #[.int .i64 t.kind, .string t.name, .int .i64 t.no, .bool t.must, .int .i64 t.up, .int .i64 t.most] 59 (0, 0))) (hB : B ≤ g) : TyRow w' B (.slice (some ⟨g, 0, none⟩) 1 1) [t] := by
  refine ⟨rfl, .inr ⟨g, 1, _, rfl, hB, hg, Nat.le_refl _, by unfold maxLen; omega, rfl, rfl⟩⟩

/-- what schema answers -/
def SchR (b m : Nat) (good : Bool) (w : World) (e : Ending) (w' : World) : Prop :=
  ∃ (rv : Value) (L : List Ty), e = .returned (.agg #[rv]) ∧ TyRow w' w.heap.size rv L ∧ 1 ≤ L.length ∧ L.length ≤ 30 ∧ (∀ x ∈ L, x.name.size ≤ 10) ∧ (good = true → gs L = true) ∧ Cur w' b m ∧ w.grownBy w' (some b)

theorem grown_below {w w1 w2 : World} {r : Option Nat} (h : w.grownBy w1 r) (hb : Below w1.heap.size w1 w2) : w.grownBy w2 r :=
  ⟨hb.os.trans h.os, hb.tape.trans h.tape, hb.output.trans h.output, Nat.le_trans h.size hb.size, fun j hj hne => (hb.block j (by have := h.size; omega)).trans (h.block j hj hne)⟩

theorem row_lt {w w' : World} {B : Nat} {v : Value} {L : List Ty} (h : TyRow w B v L) (hb : ∀ g, v.ownBlock = some g → w'.heap[g]? = w.heap[g]?) : TyRow w' B v L := own_keptB h hb

set_option maxRecDepth 100000 in
set_option maxHeartbeats 4000000 in
theorem schema_any (b m : Nat) (w : World) (hc : Cur w b m) (hm : m ≤ 800000000) :
    Calls Try.prog 21 #[.pointer (some ⟨b, 0, none⟩)] w (SchR b (m + 7000) true w) := by
  have hbw := hc.lt
  obtain ⟨W1, hW1⟩ : ∃ W, W = w.alloc (.cells #[.slice none 0 0] 25) := ⟨_, rfl⟩
  have hc1 : Cur W1 b m := by rw [hW1]; exact hc.alloc _
  have HS1 : Hid (W1.heap.size = w.heap.size + 1) := by show _ = _; rw [hW1]; simp
  have hg1 : w.grownBy W1 (some b) := by rw [hW1]; exact grown_alloc (World.grownBy.refl _ _) _
  have y1 : W1.cell? ⟨w.heap.size, 0, none⟩ = some (.slice none 0 0) := by rw [hW1]; go_simp
  have z1 : W1.frozen? ⟨w.heap.size, 0, none⟩ = false := by rw [hW1]; go_simp
  unfold SchR
  go_enter Try.func21, Try.ntmps21
  go_wp2_with fail
  rw [← hW1]
  clear hW1
  refine (pick_any b m 4 _ hc1 (by omega)).mono ?_
  rintro e w2 ⟨x, rfl, hx, hc2, hg2⟩
  have hx3 : x ≤ 3 := by omega
  have hsm := draw_small x hx3
  have MC : Hid (Calls Try.prog 40 #[.pointer (some ⟨b, 0, none⟩), .int .i64 (x : Int)] w2 (TypR b (m + 2) (x + 1) (1 + 5 * szT x) (20 + 5 * stT x) w2)) := (draw_all x).2 b (m + 2) w2 hc2 (by omega)
  unfold TypR at MC
  have hs2 : w.heap.size < w2.heap.size := by have h1 := hg2.size; have h2 := HS1.out; omega
  have blk2 := hg2.block w.heap.size (by have := HS1.out; omega) (by simp; omega)
  have hgw2 := Lib.grownBy_trans hg1 hg2
  have y2 : w2.cell? ⟨w.heap.size, 0, none⟩ = some (.slice none 0 0) := (World.cell?_of_block (w := W1) blk2).trans y1
  have z2 : w2.frozen? ⟨w.heap.size, 0, none⟩ = false := (World.frozen?_of_block (w := W1) blk2).trans z1
  clear hc1 hg1 hg2 y1 z1 hx hc blk2
  go_wp2_with fail
  refine MC.out.mono ?_
  rintro e w3 ⟨t, ac, lc, cc, rfl, hk, hz, hnt, hc3, hg3⟩
  have hs3 : w.heap.size < w3.heap.size := by have := hg3.size; omega
  have blk3 := hg3.block w.heap.size hs2 (by simp; omega)
  have y3 : w3.cell? ⟨w.heap.size, 0, none⟩ = some (.slice none 0 0) := (World.cell?_of_block (w := w2) blk3).trans y2
  have z3 : w3.frozen? ⟨w.heap.size, 0, none⟩ = false := (World.frozen?_of_block (w := w2) blk3).trans z2
  have hgw3 := Lib.grownBy_trans hgw2 hg3
  have HC3 : Hid (Cur w3 b (m + 7000)) := hc3.le (by omega)
  have TL : Hid (Calls Try.prog 34 #[tv t ac lc cc] w3 fun e w' => ∃ rv, e = .returned (.tuple #[.agg #[rv], .bool (tell t).2]) ∧ TyRow w' w3.heap.size rv (tell t).1 ∧ Below w3.heap.size w3 w') := l2Tell_any (x + 1) t ac lc cc _ w3 hk (fun g hg => hg.2) (by omega) hnt
  have HTG : Hid ((tell t).2 = true → gs (tell t).1 = true ∧ (tell t).1.length ≤ 30 ∧ 1 ≤ (tell t).1.length ∧ ∀ x ∈ (tell t).1, x.name.size ≤ 10) := by
    intro ht
    unfold tell at ht ⊢
    split at ht
    · rename_i hgd
      rw [if_pos hgd]
      have hp := gs_parts _ hgd
      exact ⟨hgd, hp.2.1, hp.1, flat_names t _ _ hnt⟩
    · cases ht
  clear hk hz hnt hc3 hg3 hc2 hgw2 y2 z2 MC blk3
  generalize tell t = R at TL HTG
  obtain ⟨F, ok⟩ := R
  generalize tv t ac lc cc = tvv at TL
  dsimp only at TL HTG
  go_wp2_with fail
  refine TL.out.mono ?_
  rintro e w4 ⟨rv, rfl, hrow, hb4⟩
  have hs4 : w3.heap.size ≤ w4.heap.size := hb4.size
  have y4 := (hb4.cell (p := ⟨w.heap.size, 0, none⟩) hs3).trans y3
  have z4 := (hb4.frozen (p := ⟨w.heap.size, 0, none⟩) hs3).trans z3
  have HG4 : Hid (w.grownBy w4 (some b)) := grown_below hgw3 hb4
  have HC4 : Hid (Cur w4 b (m + 7000)) := HC3.out.below (hb4.mono (by omega))
  have HROW : Hid (TyRow w4 w3.heap.size rv F) := hrow
  have hz4 : w.heap.size < w4.heap.size := by omega
  obtain ⟨ar, capr, rfl, _⟩ := ownSlice hrow
  have HRB : Hid (∀ g, (Value.slice ar F.length capr).ownBlock = some g → w3.heap.size ≤ g ∧ g < w4.heap.size) := fun g hg => hrow.lt g hg
  clear hrow hb4 y3 z3 TL hgw3 HC3
  cases ok
  · go_wp2
    (try simp only [Exit.inBlock, Exit.then])
    refine bodyPost_ret (v := .agg #[.slice (some ⟨w4.heap.size + 1, 0, none⟩) 1 1]) ?_ rfl ⟨.slice (some ⟨w4.heap.size + 1, 0, none⟩) 1 1, [oneTy], rfl, ?_, by simp, by simp, fun x hx => by simp at hx; subst hx; simp [oneTy, ByteArray.size], fun _ => one_good, ?_, ?_⟩
    · rw [results_cell1 rfl]
      go_simp
    · refine own_one _ _ _ oneTy ?_ (by omega)
      have h := heap_alloc_new ((w4.setCell ⟨w.heap.size, 0, none⟩ (.slice (some ⟨w4.heap.size + 1, 0, none⟩) 1 1)).alloc (.cells #[.slice (some ⟨w4.heap.size + 1, 0, none⟩) 1 1] 25)) (.cells #[.int .i64 5, .string ⟨#[]⟩, .int .i64 0, .bool false, .int .i64 (-1), .int .i64 0] 59)
      rw [show ((w4.setCell ⟨w.heap.size, 0, none⟩ (.slice (some ⟨w4.heap.size + 1, 0, none⟩) 1 1)).alloc (.cells #[.slice (some ⟨w4.heap.size + 1, 0, none⟩) 1 1] 25)).heap.size = w4.heap.size + 1 by simp] at h
      exact h
    · exact ((HC4.out.below ((Below.refl _ w4).setCell (p := ⟨w.heap.size, 0, none⟩) (by show b + 1 ≤ w.heap.size; omega) _)).alloc _).alloc _
    · exact grown_alloc (grown_alloc (grown_set HG4.out (Nat.le_refl _) _) _) _
  · have hgd := HTG.out rfl
    have HGD : Hid (gs F = true ∧ F.length ≤ 30 ∧ 1 ≤ F.length ∧ ∀ x ∈ F, x.name.size ≤ 10) := hgd
    clear hgd
    go_wp2
    (try simp only [Exit.inBlock, Exit.then])
    refine bodyPost_ret (v := .agg #[.slice ar F.length capr]) ?_ rfl ⟨.slice ar F.length capr, F, rfl, ?_, HGD.out.2.2.1, HGD.out.2.1, HGD.out.2.2.2, fun _ => HGD.out.1, ?_, ?_⟩
    · rw [results_cell1 rfl]
      go_simp
    · exact ((HROW.out.setCell (a := ⟨w.heap.size, 0, none⟩) hs3 _).below ((Below.refl _ _).alloc (Nat.le_refl _) _)).lower (by omega)
    · exact (HC4.out.below ((Below.refl _ w4).setCell (p := ⟨w.heap.size, 0, none⟩) (by show b + 1 ≤ w.heap.size; omega) _)).alloc _
    · exact grown_alloc (grown_set HG4.out (Nat.le_refl _) _) _

end Go.Proofs.Ytnhmleelhopjmaa

namespace Go.Proofs.Ytnhmleelhopjmaa
open Go.RowKit Plain Sch
attribute [local go_sem ↓] Go.wp_at_zero Go.wp_at_succ

theorem flat_set6 : ∀ (L : List Ty) (k j : Nat) (u : Value) (t : Ty), k < L.length → j < 6 → (ty L k).cells.set j u = t.cells → (L.flatMap Ty.cells).set (k * 6 + j) u = (L.set k t).flatMap Ty.cells
  | [], k, j, u, t, hk, _, _ => by simp at hk
  | x :: L, 0, j, u, t, _, hj, h => by
    have h' : x.cells.set j u = t.cells := h
    rw [List.flatMap_cons, List.set_cons_zero, List.flatMap_cons, Nat.zero_mul, Nat.zero_add, List.set_append_left _ _ (by show j < 6; exact hj), h']
  | x :: L, k + 1, j, u, t, hk, hj, h => by
    have ih := flat_set6 L k j u t (by simpa using hk) hj h
    rw [List.flatMap_cons, List.set_cons_succ, List.flatMap_cons, ← ih, List.set_append_right _ _ (by show 6 ≤ _; omega)]
    congr 2
    show (k + 1) * 6 + j - 6 = k * 6 + j
    omega

theorem TyRow.stored {w : World} {B g cap : Nat} {L : List Ty} (h : TyRow w B (.slice (some ⟨g, 0, none⟩) L.length cap) L) (k j : Nat) (u : Value) (t : Ty) (hk : k < L.length) (hj : j < 6) (hc : (ty L k).cells.set j u = t.cells) :
    TyRow (w.setCell ⟨g, k * 6 + j, none⟩ u) B (.slice (some ⟨g, 0, none⟩) L.length cap) (L.set k t) := by
  have h1 := (World.ownsRow.stored h (k * 6 + j) u).1
  rw [flat_set6 L k j u t hk hj hc] at h1
  show World.ownsRow _ _ _ _ _ _ _
  rw [List.length_set]
  exact h1

theorem set_names {L : List Ty} {k : Nat} {t : Ty} (h : ∀ x ∈ L, x.name.size ≤ 10) (ht : t.name.size ≤ 10) : ∀ x ∈ L.set k t, x.name.size ≤ 10 := by
  intro x hx
  rcases List.mem_or_eq_of_mem_set hx with hx | hx
  · exact h x hx
  · rw [hx]; exact ht

theorem ty_name {L : List Ty} {k : Nat} (h : ∀ x ∈ L, x.name.size ≤ 10) (hk : k < L.length) : (ty L k).name.size ≤ 10 := by
  apply h
  unfold ty
  rw [List.getD, List.getElem?_eq_getElem hk]
  exact List.getElem_mem hk

set_option maxRecDepth 100000 in
set_option maxHeartbeats 4000000 in
theorem maybeSchema_any (b m : Nat) (w : World) (hc : Cur w b m) (hm : m ≤ 800000000) :
    Calls Try.prog 18 #[.pointer (some ⟨b, 0, none⟩)] w (SchR b (m + 8000) false w) := by
  have hbw := hc.lt
  obtain ⟨W1, hW1⟩ : ∃ W, W = w.alloc (.cells #[.slice none 0 0] 25) := ⟨_, rfl⟩
  have hc1 : Cur W1 b m := by rw [hW1]; exact hc.alloc _
  have HS1 : Hid (W1.heap.size = w.heap.size + 1) := by show _ = _; rw [hW1]; simp
  have hg1 : w.grownBy W1 (some b) := by rw [hW1]; exact grown_alloc (World.grownBy.refl _ _) _
  have y1 : W1.cell? ⟨w.heap.size, 0, none⟩ = some (.slice none 0 0) := by rw [hW1]; go_simp
  have z1 : W1.frozen? ⟨w.heap.size, 0, none⟩ = false := by rw [hW1]; go_simp
  have SC : Hid (Calls Try.prog 21 #[.pointer (some ⟨b, 0, none⟩)] W1 (SchR b (m + 7000) true W1)) := schema_any b m W1 hc1 hm
  unfold SchR at SC
  go_enter Try.func18, Try.ntmps18
  go_wp2_with fail
  rw [← hW1]
  clear hW1
  refine SC.out.mono ?_
  rintro e w2 ⟨rv, L, rfl, hrow, hl1, hl30, hnm, _, hc2, hg2⟩
  have hs1 := HS1.out
  have hsz2 := hg2.size
  have blk2 := hg2.block w.heap.size (by omega) (by simp; omega)
  have HNM : Hid (∀ x ∈ L, x.name.size ≤ 10) := hnm
  obtain ⟨g, cap, rfl⟩ := Joins.ownsRow_form hrow (by omega)
  have hgb := hrow.lt g rfl
  obtain ⟨W3, hW3⟩ : ∃ W, W = w2.alloc (.cells #[.slice (some ⟨g, 0, none⟩) L.length cap] 25) := ⟨_, rfl⟩
  have hB3 : Below w2.heap.size w2 W3 := by rw [hW3]; exact (Below.refl _ w2).alloc (Nat.le_refl _) _
  have HS3 : Hid (W3.heap.size = w2.heap.size + 1) := by show _ = _; rw [hW3]; simp
  have hc3 : Cur W3 b (m + 7000) := by rw [hW3]; exact hc2.alloc _
  have q3 : W3.cell? ⟨w2.heap.size, 0, none⟩ = some (.slice (some ⟨g, 0, none⟩) L.length cap) := by rw [hW3]; go_simp
  have HROW3 : Hid (TyRow W3 (w.heap.size + 1) (.slice (some ⟨g, 0, none⟩) L.length cap) L) := by rw [← hs1]; exact hrow.below hB3
  have hgw3 : w.grownBy W3 (some b) := grown_below (Lib.grownBy_trans hg1 hg2) hB3
  have y3 : W3.cell? ⟨w.heap.size, 0, none⟩ = some (.slice none 0 0) := (hB3.cell (p := ⟨w.heap.size, 0, none⟩) (by show w.heap.size < _; omega)).trans ((World.cell?_of_block (w := W1) blk2).trans y1)
  have z3 : W3.frozen? ⟨w.heap.size, 0, none⟩ = false := (hB3.frozen (p := ⟨w.heap.size, 0, none⟩) (by show w.heap.size < _; omega)).trans ((World.frozen?_of_block (w := W1) blk2).trans z1)
  clear hrow hnm hc2 hg2 hg1 hc1 y1 z1 blk2 SC hc
  go_wp2_with fail
  rw [← hW3]
  clear hW3
  refine (one_any b (m + 7000) 12 _ hc3 (by omega)).mono ?_
  rintro e w4 ⟨t4, rfl, hc4, hg4⟩
  have hs3 := HS3.out
  have hsz4 := hg4.size
  have bk4 : ∀ j, j ≠ b → j < W3.heap.size → w4.heap[j]? = W3.heap[j]? := fun j h1 h2 => hg4.block j h2 (by simp; omega)
  have y4 : w4.cell? ⟨w.heap.size, 0, none⟩ = some (.slice none 0 0) := (World.cell?_of_block (w := W3) (bk4 w.heap.size (by omega) (by omega))).trans y3
  have z4 : w4.frozen? ⟨w.heap.size, 0, none⟩ = false := (World.frozen?_of_block (w := W3) (bk4 w.heap.size (by omega) (by omega))).trans z3
  have q4 : w4.cell? ⟨w2.heap.size, 0, none⟩ = some (.slice (some ⟨g, 0, none⟩) L.length cap) := (World.cell?_of_block (w := W3) (bk4 w2.heap.size (by omega) (by omega))).trans q3
  have HROW4 : Hid (TyRow w4 (w.heap.size + 1) (.slice (some ⟨g, 0, none⟩) L.length cap) L) := row_lt HROW3.out (fun j hj => bk4 j (by simp [Value.ownBlock] at hj; omega) (by simp [Value.ownBlock] at hj; omega))
  have hgw4 := Lib.grownBy_trans hgw3 hg4
  have hz24 : w2.heap.size < w4.heap.size := by omega
  have hz04 : w.heap.size < w4.heap.size := by omega
  clear y3 z3 q3 HROW3 hgw3 hg4 hc3 bk4
  cases t4
  · go_wp2
    (try simp only [Exit.inBlock, Exit.then])
    refine bodyPost_ret (v := .agg #[.slice (some ⟨g, 0, none⟩) L.length cap]) ?_ rfl ⟨.slice (some ⟨g, 0, none⟩) L.length cap, L, rfl, ?_, hl1, hl30, HNM.out, fun h => absurd h (by decide), ?_, ?_⟩
    · rw [results_cell1 rfl]
      go_simp
    · exact (HROW4.out.setCell (a := ⟨w.heap.size, 0, none⟩) (by show w.heap.size < _; omega) _).lower (by omega)
    · exact (hc4.le (by omega)).below ((Below.refl _ w4).setCell (p := ⟨w.heap.size, 0, none⟩) (by show b + 1 ≤ w.heap.size; omega) _)
    · exact grown_set hgw4 (Nat.le_refl _) _
  · have hL : (L.length : Int) ≤ 30 := by omega
    go_wp2_with fail
    refine (pick_any b (m + 7000 + 2) _ _ hc4 (by omega)).mono ?_
    rintro e w5 ⟨k, rfl, hk, hc5, hg5⟩
    have hk : k < L.length := by omega
    have hsz5 := hg5.size
    have hgw5 := Lib.grownBy_trans hgw4 hg5
    have bk5 : ∀ j, j ≠ b → j < w4.heap.size → w5.heap[j]? = w4.heap[j]? := fun j h1 h2 => hg5.block j h2 (by simp; omega)
    have HBK5 : Hid (∀ j, j ≠ b → j < w4.heap.size → w5.heap[j]? = w4.heap[j]?) := bk5
    clear bk5 hg5 hc4 hgw4
    go_wp2_with fail
    refine (pick_any b (m + 7000 + 2 + 2) 5 _ hc5 (by omega)).mono ?_
    rintro e w6 ⟨c, rfl, hcc, hc6, hg6⟩
    have hc5' : c < 5 := by omega
    have hsz6 := hg6.size
    have hgw6 := Lib.grownBy_trans hgw5 hg6
    have HBK6 : Hid (∀ j, j ≠ b → j < w4.heap.size → w6.heap[j]? = w4.heap[j]?) := fun j h1 h2 => (hg6.block j (by omega) (by simp; omega)).trans (HBK5.out j h1 h2)
    have q6 : w6.cell? ⟨w2.heap.size, 0, none⟩ = some (.slice (some ⟨g, 0, none⟩) L.length cap) := (World.cell?_of_block (w := w4) (HBK6.out w2.heap.size (by omega) (by omega))).trans q4
    have hk' : (k : Int) < (L.length : Int) := by omega
    have hk0' : (0 : Int) ≤ (k : Int) := by omega
    have HR : Hid (∀ W : World, (∀ j, j ≠ b → j < w4.heap.size → W.heap[j]? = w4.heap[j]?) → TyRow W (w.heap.size + 1) (.slice (some ⟨g, 0, none⟩) L.length cap) L ∧ W.cell? ⟨w2.heap.size, 0, none⟩ = some (.slice (some ⟨g, 0, none⟩) L.length cap) ∧ W.cell? ⟨w.heap.size, 0, none⟩ = some (.slice none 0 0) ∧ W.frozen? ⟨w.heap.size, 0, none⟩ = false ∧ ∀ j, j < 6 → W.cell? ⟨g, k * 6 + j, none⟩ = (ty L k).cells[j]? ∧ W.frozen? ⟨g, k * 6 + j, none⟩ = false) := fun W hW => by
      have h1 : TyRow W (w.heap.size + 1) (.slice (some ⟨g, 0, none⟩) L.length cap) L := row_lt HROW4.out (fun j hj => hW j (by simp [Value.ownBlock] at hj; omega) (by simp [Value.ownBlock] at hj; omega))
      refine ⟨h1, (World.cell?_of_block (w := w4) (hW w2.heap.size (by omega) (by omega))).trans q4, (World.cell?_of_block (w := w4) (hW w.heap.size (by omega) (by omega))).trans y4, (World.frozen?_of_block (w := w4) (hW w.heap.size (by omega) (by omega))).trans z4, fun j hj => ⟨?_, World.ownsRow.frozenAt h1 _⟩⟩
      rw [World.ownsRow.cellAt h1 (k * 6 + j) (by omega)]
      exact flat6T L k j hk hj
    have HCUR : Hid (Cur w6 b (m + 7006)) := hc6.le (by omega)
    have HGW : Hid (w.grownBy w6 (some b)) := hgw6
    clear hg6 hc5 hc6 HBK5 hgw5 hgw6 hcc
    obtain ⟨tk, hty⟩ : ∃ t, ty L k = t := ⟨_, rfl⟩
    have HTY : Hid (ty L k = tk) := hty
    have hnk : tk.name.size ≤ 10 := by rw [← hty]; exact ty_name HNM.out hk
    clear hty y4 z4 q4
    obtain ⟨kind, name, no, must, up, most⟩ := tk
    rw [HTY.out] at HR
    dsimp only at hnk
    have hcs : c = 0 ∨ c = 1 ∨ c = 2 ∨ c = 3 ∨ c = 4 := by omega
    clear hc5'
    rcases hcs with rfl | rfl | rfl | rfl | rfl
    · have q6d : w6.drew.cell? ⟨w2.heap.size, 0, none⟩ = some (.slice (some ⟨g, 0, none⟩) L.length cap) := q6
      have hcd : Cur w6.drew b (m + 7006) := HCUR.out.drew
      go_upto_region 7 with fail
      go_region_held3 (fun w' => w'.cell? ⟨w2.heap.size, 0, none⟩ = some (.slice (some ⟨g, 0, none⟩) L.length cap))
        (first | exact (World.cell?_setCell_other _ _ _ _ (fun e => by have := congrArg Addr.block e; simp at this; omega)).trans q7 | exact q7 | exact q6d | exact q6)
        (first
          | (go_at_call 37; refine (pick_any b (m + 7006) 7 _ hcd (by omega)).mono ?_; rintro e w7 ⟨x7, rfl, hx7, hc7, hg7⟩; have hsz7 := hg7.size; have hbk7 : ∀ j, j ≠ b → j < w4.heap.size → w7.heap[j]? = w4.heap[j]? := fun j h1 h2 => (hg7.block j (by show j < w6.heap.size; omega) (by simp; omega)).trans (HBK6.out j h1 h2); have hr7 := HR.out w7 hbk7; have q7 := hr7.2.1; have hcf := hr7.2.2.2.2 0 (by omega); have cc7 : w7.cell? ⟨g, k * 6, none⟩ = some (Value.int .i64 kind) := hcf.1; have cf7 : w7.frozen? ⟨g, k * 6, none⟩ = false := hcf.2))
      have hst := hr7.1.stored k 0 (.int .i64 (x7 : Int)) ⟨(x7 : Int), name, no, must, up, most⟩ hk (by omega) (by rw [HTY.out]; rfl)
      have HST : Hid (TyRow (w7.setCell ⟨g, k * 6, none⟩ (.int .i64 (x7 : Int))) (w.heap.size + 1) (.slice (some ⟨g, 0, none⟩) L.length cap) (L.set k ⟨(x7 : Int), name, no, must, up, most⟩)) := hst
      have hgw7 : w.grownBy w7 (some b) := Lib.grownBy_trans HGW.out ⟨hg7.os, hg7.tape, hg7.output, hg7.size, hg7.block⟩
      have hc7' : Cur w7 b (m + 8000) := hc7.le (by omega)
      have hy7 := hr7.2.2.1
      have hz7 := hr7.2.2.2.1
      have hszw : w6.heap.size ≤ w7.heap.size := by exact hsz7
      have hgg : g ≠ w.heap.size := by omega
      have hgg2 : g ≠ w2.heap.size := by omega
      have HG7 : Hid (w.grownBy w7 (some b)) := hgw7
      have HC7 : Hid (Cur w7 b (m + 8000)) := hc7'
      have hz07 : w.heap.size < w7.heap.size := by omega
      have hz27 : w2.heap.size < w7.heap.size := by omega
      clear hst hgw7 hc7' hr7 hcf hg7 hc7
      go_wp2
      (try simp only [Exit.inBlock, Exit.then])
      refine bodyPost_ret (v := .agg #[.slice (some ⟨g, 0, none⟩) L.length cap]) ?_ rfl ⟨.slice (some ⟨g, 0, none⟩) L.length cap, L.set k ⟨(x7 : Int), name, no, must, up, most⟩, rfl, ?_, by rw [List.length_set]; exact hl1, by rw [List.length_set]; exact hl30, set_names HNM.out hnk, fun h => absurd h (by decide), ?_, ?_⟩
      · rw [results_cell1 rfl]
        go_simp
      · exact (HST.out.setCell (a := ⟨w.heap.size, 0, none⟩) (by show w.heap.size < _; omega) _).lower (by omega)
      · exact (HC7.out.below ((Below.refl _ w7).setCell (p := ⟨g, k * 6, none⟩) (by show b + 1 ≤ g; omega) _)).below ((Below.refl _ _).setCell (p := ⟨w.heap.size, 0, none⟩) (by show b + 1 ≤ w.heap.size; omega) _)
      · exact grown_set (grown_set HG7.out (a := ⟨g, k * 6, none⟩) (by show w.heap.size ≤ g; omega) _) (a := ⟨w.heap.size, 0, none⟩) (Nat.le_refl _) _
    · have q6d : w6.drew.cell? ⟨w2.heap.size, 0, none⟩ = some (.slice (some ⟨g, 0, none⟩) L.length cap) := q6
      have hcd : Cur w6.drew b (m + 7006) := HCUR.out.drew
      go_upto_region 9 with fail
      go_region_held3 (fun w' => w'.cell? ⟨w2.heap.size, 0, none⟩ = some (.slice (some ⟨g, 0, none⟩) L.length cap))
        (first | exact (World.cell?_setCell_other _ _ _ _ (fun e => by have := congrArg Addr.block e; simp at this; omega)).trans q7 | exact q7 | exact q6d | exact q6)
        (first
          | (go_at_call 37; refine (pick_any b (m + 7006) 4 _ hcd (by omega)).mono ?_; rintro e w7 ⟨x7, rfl, hx7, hc7, hg7⟩; have hsz7 := hg7.size; have hbk7 : ∀ j, j ≠ b → j < w4.heap.size → w7.heap[j]? = w4.heap[j]? := fun j h1 h2 => (hg7.block j (by show j < w6.heap.size; omega) (by simp; omega)).trans (HBK6.out j h1 h2); have hr7 := HR.out w7 hbk7; have q7 := hr7.2.1; have hcf := hr7.2.2.2.2 2 (by omega); have cc7 : w7.cell? ⟨g, k * 6 + 2, none⟩ = some (Value.int .i64 no) := hcf.1; have cf7 : w7.frozen? ⟨g, k * 6 + 2, none⟩ = false := hcf.2))
      have hst := hr7.1.stored k 2 (.int .i64 (x7 : Int)) ⟨kind, name, (x7 : Int), must, up, most⟩ hk (by omega) (by rw [HTY.out]; rfl)
      have HST : Hid (TyRow (w7.setCell ⟨g, k * 6 + 2, none⟩ (.int .i64 (x7 : Int))) (w.heap.size + 1) (.slice (some ⟨g, 0, none⟩) L.length cap) (L.set k ⟨kind, name, (x7 : Int), must, up, most⟩)) := hst
      have hgw7 : w.grownBy w7 (some b) := Lib.grownBy_trans HGW.out ⟨hg7.os, hg7.tape, hg7.output, hg7.size, hg7.block⟩
      have hc7' : Cur w7 b (m + 8000) := hc7.le (by omega)
      have hy7 := hr7.2.2.1
      have hz7 := hr7.2.2.2.1
      have hszw : w6.heap.size ≤ w7.heap.size := by exact hsz7
      have hgg : g ≠ w.heap.size := by omega
      have hgg2 : g ≠ w2.heap.size := by omega
      have HG7 : Hid (w.grownBy w7 (some b)) := hgw7
      have HC7 : Hid (Cur w7 b (m + 8000)) := hc7'
      have hz07 : w.heap.size < w7.heap.size := by omega
      have hz27 : w2.heap.size < w7.heap.size := by omega
      clear hst hgw7 hc7' hr7 hcf hg7 hc7
      go_wp2
      (try simp only [Exit.inBlock, Exit.then])
      refine bodyPost_ret (v := .agg #[.slice (some ⟨g, 0, none⟩) L.length cap]) ?_ rfl ⟨.slice (some ⟨g, 0, none⟩) L.length cap, L.set k ⟨kind, name, (x7 : Int), must, up, most⟩, rfl, ?_, by rw [List.length_set]; exact hl1, by rw [List.length_set]; exact hl30, set_names HNM.out hnk, fun h => absurd h (by decide), ?_, ?_⟩
      · rw [results_cell1 rfl]
        go_simp
      · exact (HST.out.setCell (a := ⟨w.heap.size, 0, none⟩) (by show w.heap.size < _; omega) _).lower (by omega)
      · exact (HC7.out.below ((Below.refl _ w7).setCell (p := ⟨g, k * 6 + 2, none⟩) (by show b + 1 ≤ g; omega) _)).below ((Below.refl _ _).setCell (p := ⟨w.heap.size, 0, none⟩) (by show b + 1 ≤ w.heap.size; omega) _)
      · exact grown_set (grown_set HG7.out (a := ⟨g, k * 6 + 2, none⟩) (by show w.heap.size ≤ g; omega) _) (a := ⟨w.heap.size, 0, none⟩) (Nat.le_refl _) _
    · have q6d : w6.drew.cell? ⟨w2.heap.size, 0, none⟩ = some (.slice (some ⟨g, 0, none⟩) L.length cap) := q6
      have hcd : Cur w6.drew b (m + 7006) := HCUR.out.drew
      go_upto_region 11 with fail
      go_region_held3 (fun w' => w'.cell? ⟨w2.heap.size, 0, none⟩ = some (.slice (some ⟨g, 0, none⟩) L.length cap))
        (first | exact (World.cell?_setCell_other _ _ _ _ (fun e => by have := congrArg Addr.block e; simp at this; omega)).trans q7 | exact q7 | exact q6d | exact q6)
        (first
          | (go_at_call 37; refine (pick_any b (m + 7006) 4 _ hcd (by omega)).mono ?_; rintro e w7 ⟨x7, rfl, hx7, hc7, hg7⟩; have hsz7 := hg7.size; have hbk7 : ∀ j, j ≠ b → j < w4.heap.size → w7.heap[j]? = w4.heap[j]? := fun j h1 h2 => (hg7.block j (by show j < w6.heap.size; omega) (by simp; omega)).trans (HBK6.out j h1 h2); have hr7 := HR.out w7 hbk7; have q7 := hr7.2.1; have hcf := hr7.2.2.2.2 4 (by omega); have cc7 : w7.cell? ⟨g, k * 6 + 4, none⟩ = some (Value.int .i64 up) := hcf.1; have cf7 : w7.frozen? ⟨g, k * 6 + 4, none⟩ = false := hcf.2))
      have hst := hr7.1.stored k 4 (.int .i64 ((x7 : Int) - 1)) ⟨kind, name, no, must, (x7 : Int) - 1, most⟩ hk (by omega) (by rw [HTY.out]; rfl)
      have HST : Hid (TyRow (w7.setCell ⟨g, k * 6 + 4, none⟩ (.int .i64 ((x7 : Int) - 1))) (w.heap.size + 1) (.slice (some ⟨g, 0, none⟩) L.length cap) (L.set k ⟨kind, name, no, must, (x7 : Int) - 1, most⟩)) := hst
      have hgw7 : w.grownBy w7 (some b) := Lib.grownBy_trans HGW.out ⟨hg7.os, hg7.tape, hg7.output, hg7.size, hg7.block⟩
      have hc7' : Cur w7 b (m + 8000) := hc7.le (by omega)
      have hy7 := hr7.2.2.1
      have hz7 := hr7.2.2.2.1
      have hszw : w6.heap.size ≤ w7.heap.size := by exact hsz7
      have hgg : g ≠ w.heap.size := by omega
      have hgg2 : g ≠ w2.heap.size := by omega
      have HG7 : Hid (w.grownBy w7 (some b)) := hgw7
      have HC7 : Hid (Cur w7 b (m + 8000)) := hc7'
      have hz07 : w.heap.size < w7.heap.size := by omega
      have hz27 : w2.heap.size < w7.heap.size := by omega
      clear hst hgw7 hc7' hr7 hcf hg7 hc7
      go_wp2
      (try simp only [Exit.inBlock, Exit.then])
      refine bodyPost_ret (v := .agg #[.slice (some ⟨g, 0, none⟩) L.length cap]) ?_ rfl ⟨.slice (some ⟨g, 0, none⟩) L.length cap, L.set k ⟨kind, name, no, must, (x7 : Int) - 1, most⟩, rfl, ?_, by rw [List.length_set]; exact hl1, by rw [List.length_set]; exact hl30, set_names HNM.out hnk, fun h => absurd h (by decide), ?_, ?_⟩
      · rw [results_cell1 rfl]
        go_simp
      · exact (HST.out.setCell (a := ⟨w.heap.size, 0, none⟩) (by show w.heap.size < _; omega) _).lower (by omega)
      · exact (HC7.out.below ((Below.refl _ w7).setCell (p := ⟨g, k * 6 + 4, none⟩) (by show b + 1 ≤ g; omega) _)).below ((Below.refl _ _).setCell (p := ⟨w.heap.size, 0, none⟩) (by show b + 1 ≤ w.heap.size; omega) _)
      · exact grown_set (grown_set HG7.out (a := ⟨g, k * 6 + 4, none⟩) (by show w.heap.size ≤ g; omega) _) (a := ⟨w.heap.size, 0, none⟩) (Nat.le_refl _) _
    · have q6d : w6.drew.cell? ⟨w2.heap.size, 0, none⟩ = some (.slice (some ⟨g, 0, none⟩) L.length cap) := q6
      obtain ⟨W6, hW6⟩ : ∃ W, W = (w6.alloc (.cells #[.int .i64 (-1), .int .i64 20, .int .i64 21] 3)).drew := ⟨_, rfl⟩
      have hB6 : Below w6.heap.size w6 W6 := by rw [hW6]; exact ((Below.refl _ w6).alloc (Nat.le_refl _) _).drew
      have HS6 : Hid (W6.heap.size = w6.heap.size + 1) := by show _ = _; rw [hW6]; simp
      have hcd : Cur W6 b (m + 7006) := by rw [hW6]; exact (HCUR.out.alloc _).drew
      have q6a : W6.cell? ⟨w2.heap.size, 0, none⟩ = some (.slice (some ⟨g, 0, none⟩) L.length cap) := (hB6.cell (p := ⟨w2.heap.size, 0, none⟩) (by show w2.heap.size < _; omega)).trans q6
      have q6b := q6a
      rw [hW6] at q6b
      have hb6 : w6.heap.size ≠ b := by omega
      obtain ⟨zs, HZ⟩ : ∃ zs : Nat → Int, Hid (∀ i, i < 3 → W6.cell? ⟨w6.heap.size, i, none⟩ = some (.int .i64 (zs i))) := by
        refine ⟨fun i => [(-1 : Int), 20, 21].getD i 0, fun i hi3 => ?_⟩
        · rw [hW6]
          have h3 : i = 0 ∨ i = 1 ∨ i = 2 := by omega
          rcases h3 with rfl | rfl | rfl
          · go_simp; (try rfl)
          · go_simp; (try rfl)
          · go_simp; (try rfl)
      go_upto_region 13 with fail
      go_region_held3 (fun w' => w'.cell? ⟨w2.heap.size, 0, none⟩ = some (.slice (some ⟨g, 0, none⟩) L.length cap))
        (first | exact (World.cell?_setCell_other _ _ _ _ (fun e => by have := congrArg Addr.block e; simp at this; omega)).trans q7 | exact q7 | exact q6b | exact q6d | exact q6)
        (first
          | (go_at_call 38; rw [← hW6]; refine (among_any b (m + 7006) w6.heap.size 3 3 zs W6 hcd (by omega) (by omega) (by omega) hb6 HZ.out).mono ?_; rintro e w7 ⟨ix, hix, rfl, hc7, hg7⟩; have hsz7 := hg7.size; have hbk7 : ∀ j, j ≠ b → j < w4.heap.size → w7.heap[j]? = w4.heap[j]? := fun j h1 h2 => (hg7.block j (by have := HS6.out; omega) (by simp; omega)).trans ((hB6.block j (by omega)).trans (HBK6.out j h1 h2)); have hr7 := HR.out w7 hbk7; have q7 := hr7.2.1; have hcf := hr7.2.2.2.2 5 (by omega); have cc7 : w7.cell? ⟨g, k * 6 + 5, none⟩ = some (Value.int .i64 most) := hcf.1; have cf7 : w7.frozen? ⟨g, k * 6 + 5, none⟩ = false := hcf.2))
      have hst := hr7.1.stored k 5 (.int .i64 (zs ix)) (⟨kind, name, no, must, up, zs ix⟩ : Ty) hk (by omega) (by rw [HTY.out]; rfl)
      have HST : Hid (TyRow (w7.setCell ⟨g, k * 6 + 5, none⟩ (.int .i64 (zs ix))) (w.heap.size + 1) (.slice (some ⟨g, 0, none⟩) L.length cap) (L.set k (⟨kind, name, no, must, up, zs ix⟩ : Ty))) := hst
      have hgw7 : w.grownBy w7 (some b) := Lib.grownBy_trans (grown_below HGW.out hB6) hg7
      have hc7' : Cur w7 b (m + 8000) := hc7.le (by omega)
      have hy7 := hr7.2.2.1
      have hz7 := hr7.2.2.2.1
      have hszw : w6.heap.size ≤ w7.heap.size := by have := HS6.out; omega
      have hgg : g ≠ w.heap.size := by omega
      have hgg2 : g ≠ w2.heap.size := by omega
      have HG7 : Hid (w.grownBy w7 (some b)) := hgw7
      have HC7 : Hid (Cur w7 b (m + 8000)) := hc7'
      have hz07 : w.heap.size < w7.heap.size := by omega
      have hz27 : w2.heap.size < w7.heap.size := by omega
      have HNK : Hid ((Ty.name (⟨kind, name, no, must, up, zs ix⟩ : Ty)).size ≤ 10) := hnk
      clear hst hgw7 hc7' hr7 hcf hg7 hc7 hW6
      go_wp2
      (try simp only [Exit.inBlock, Exit.then])
      refine bodyPost_ret (v := .agg #[.slice (some ⟨g, 0, none⟩) L.length cap]) ?_ rfl ⟨.slice (some ⟨g, 0, none⟩) L.length cap, L.set k (⟨kind, name, no, must, up, zs ix⟩ : Ty), rfl, ?_, by rw [List.length_set]; exact hl1, by rw [List.length_set]; exact hl30, set_names HNM.out HNK.out, fun h => absurd h (by decide), ?_, ?_⟩
      · rw [results_cell1 rfl]
        go_simp
      · exact (HST.out.setCell (a := ⟨w.heap.size, 0, none⟩) (by show w.heap.size < _; omega) _).lower (by omega)
      · exact (HC7.out.below ((Below.refl _ w7).setCell (p := ⟨g, k * 6 + 5, none⟩) (by show b + 1 ≤ g; omega) _)).below ((Below.refl _ _).setCell (p := ⟨w.heap.size, 0, none⟩) (by show b + 1 ≤ w.heap.size; omega) _)
      · exact grown_set (grown_set HG7.out (a := ⟨g, k * 6 + 5, none⟩) (by show w.heap.size ≤ g; omega) _) (a := ⟨w.heap.size, 0, none⟩) (Nat.le_refl _) _
    · have q6d : w6.drew.cell? ⟨w2.heap.size, 0, none⟩ = some (.slice (some ⟨g, 0, none⟩) L.length cap) := q6
      obtain ⟨W6, hW6⟩ : ∃ W, W = (w6.alloc (.cells #[.string ⟨#[]⟩, .string ⟨#[97]⟩, .string ⟨#[65]⟩] 9)).drew := ⟨_, rfl⟩
      have hB6 : Below w6.heap.size w6 W6 := by rw [hW6]; exact ((Below.refl _ w6).alloc (Nat.le_refl _) _).drew
      have HS6 : Hid (W6.heap.size = w6.heap.size + 1) := by show _ = _; rw [hW6]; simp
      have hcd : Cur W6 b (m + 7006) := by rw [hW6]; exact (HCUR.out.alloc _).drew
      have q6a : W6.cell? ⟨w2.heap.size, 0, none⟩ = some (.slice (some ⟨g, 0, none⟩) L.length cap) := (hB6.cell (p := ⟨w2.heap.size, 0, none⟩) (by show w2.heap.size < _; omega)).trans q6
      have q6b := q6a
      rw [hW6] at q6b
      have hb6 : w6.heap.size ≠ b := by omega
      obtain ⟨zs, HZ, HZN⟩ : ∃ zs : Nat → ByteArray, Hid (∀ i, i < 3 → W6.cell? ⟨w6.heap.size, i, none⟩ = some (.string (zs i))) ∧ Hid (∀ i, i < 3 → (zs i).size ≤ 10) := by
        refine ⟨fun i => [(⟨#[]⟩ : ByteArray), ⟨#[97]⟩, ⟨#[65]⟩].getD i ⟨#[]⟩, fun i hi3 => ?_, fun i hi3 => ?_⟩
        · rw [hW6]
          have h3 : i = 0 ∨ i = 1 ∨ i = 2 := by omega
          rcases h3 with rfl | rfl | rfl
          · go_simp; (try rfl)
          · go_simp; (try rfl)
          · go_simp; (try rfl)
        · have h3 : i = 0 ∨ i = 1 ∨ i = 2 := by omega
          rcases h3 with rfl | rfl | rfl <;> decide
      go_upto_region 5 with fail
      go_region_held3 (fun w' => w'.cell? ⟨w2.heap.size, 0, none⟩ = some (.slice (some ⟨g, 0, none⟩) L.length cap))
        (first | exact (World.cell?_setCell_other _ _ _ _ (fun e => by have := congrArg Addr.block e; simp at this; omega)).trans q7 | exact q7 | exact q6b | exact q6d | exact q6)
        (first
          | (go_at_call 39; rw [← hW6]; refine (of_any b (m + 7006) w6.heap.size 3 3 zs W6 hcd (by omega) (by omega) (by omega) hb6 HZ.out).mono ?_; rintro e w7 ⟨ix, hix, rfl, hc7, hg7⟩; have hsz7 := hg7.size; have hbk7 : ∀ j, j ≠ b → j < w4.heap.size → w7.heap[j]? = w4.heap[j]? := fun j h1 h2 => (hg7.block j (by have := HS6.out; omega) (by simp; omega)).trans ((hB6.block j (by omega)).trans (HBK6.out j h1 h2)); have hr7 := HR.out w7 hbk7; have q7 := hr7.2.1; have hcf := hr7.2.2.2.2 1 (by omega); have cc7 : w7.cell? ⟨g, k * 6 + 1, none⟩ = some (Value.string name) := hcf.1; have cf7 : w7.frozen? ⟨g, k * 6 + 1, none⟩ = false := hcf.2))
      have hst := hr7.1.stored k 1 (.string (zs ix)) (⟨kind, zs ix, no, must, up, most⟩ : Ty) hk (by omega) (by rw [HTY.out]; rfl)
      have HST : Hid (TyRow (w7.setCell ⟨g, k * 6 + 1, none⟩ (.string (zs ix))) (w.heap.size + 1) (.slice (some ⟨g, 0, none⟩) L.length cap) (L.set k (⟨kind, zs ix, no, must, up, most⟩ : Ty))) := hst
      have hgw7 : w.grownBy w7 (some b) := Lib.grownBy_trans (grown_below HGW.out hB6) hg7
      have hc7' : Cur w7 b (m + 8000) := hc7.le (by omega)
      have hy7 := hr7.2.2.1
      have hz7 := hr7.2.2.2.1
      have hszw : w6.heap.size ≤ w7.heap.size := by have := HS6.out; omega
      have hgg : g ≠ w.heap.size := by omega
      have hgg2 : g ≠ w2.heap.size := by omega
      have HG7 : Hid (w.grownBy w7 (some b)) := hgw7
      have HC7 : Hid (Cur w7 b (m + 8000)) := hc7'
      have hz07 : w.heap.size < w7.heap.size := by omega
      have hz27 : w2.heap.size < w7.heap.size := by omega
      have HNK : Hid ((Ty.name (⟨kind, zs ix, no, must, up, most⟩ : Ty)).size ≤ 10) := HZN.out ix hix
      clear hst hgw7 hc7' hr7 hcf hg7 hc7 hW6
      go_wp2
      (try simp only [Exit.inBlock, Exit.then])
      refine bodyPost_ret (v := .agg #[.slice (some ⟨g, 0, none⟩) L.length cap]) ?_ rfl ⟨.slice (some ⟨g, 0, none⟩) L.length cap, L.set k (⟨kind, zs ix, no, must, up, most⟩ : Ty), rfl, ?_, by rw [List.length_set]; exact hl1, by rw [List.length_set]; exact hl30, set_names HNM.out HNK.out, fun h => absurd h (by decide), ?_, ?_⟩
      · rw [results_cell1 rfl]
        go_simp
      · exact (HST.out.setCell (a := ⟨w.heap.size, 0, none⟩) (by show w.heap.size < _; omega) _).lower (by omega)
      · exact (HC7.out.below ((Below.refl _ w7).setCell (p := ⟨g, k * 6 + 1, none⟩) (by show b + 1 ≤ g; omega) _)).below ((Below.refl _ _).setCell (p := ⟨w.heap.size, 0, none⟩) (by show b + 1 ≤ w.heap.size; omega) _)
      · exact grown_set (grown_set HG7.out (a := ⟨g, k * 6 + 1, none⟩) (by show w.heap.size ≤ g; omega) _) (a := ⟨w.heap.size, 0, none⟩) (Nat.le_refl _) _

end Go.Proofs.Ytnhmleelhopjmaa

namespace Go.Proofs.Ytnhmleelhopjmaa
open Go.RowKit Plain Sch
attribute [local go_sem ↓] Go.wp_at_zero Go.wp_at_succ

/-- a small schema in new memory -/
def SmallSch (w w' : World) (rv : Value) (L : List Ty) : Prop := TyRow w' w.heap.size rv L ∧ 1 ≤ L.length ∧ L.length ≤ 30 ∧ (∀ x ∈ L, x.name.size ≤ 10) ∧ Below w.heap.size w w'

def DrI (w : World) (e : Ending) (w' : World) : Prop := ∃ (ar : Option Addr) (cr : Nat) (L : List Ty) (k : Int), e = .returned (.tuple #[.agg #[.slice ar L.length cr], .int .i64 k]) ∧ SmallSch w w' (.slice ar L.length cr) L

theorem grown_toBelow {n b : Nat} {w W w' : World} (hB : Below n w W) (hg : W.grownBy w' (some b)) (hb : n ≤ b) (hn : n ≤ W.heap.size) : Below n w w' :=
  hB.grown hg hn (fun k hk => by simp at hk; omega)

set_option maxRecDepth 100000 in
set_option maxHeartbeats 4000000 in
theorem drawFieldsOf_any (ao : Option Addr) (len cap : Nat) (w : World) (hcode : CodeAt w ao len) :
    Calls Try.prog 32 #[.slice ao len cap] w (DrI w) := by
  obtain ⟨W2, hW2⟩ : ∃ W, W = (w.alloc (.cells #[.slice none 0 0] 25)).alloc (.cells #[.slice ao len cap, .int .i64 0, .int .u64 0] 46) := ⟨_, rfl⟩
  have hB1 : Below w.heap.size w (w.alloc (.cells #[.slice none 0 0] 25)) := (Below.refl _ w).alloc (Nat.le_refl _) _
  have hB2 : Below w.heap.size w W2 := by rw [hW2]; exact hB1.alloc (by simp) _
  have HS2 : Hid (W2.heap.size = w.heap.size + 2) := by show _ = _; rw [hW2]; simp
  have hc2 : Cur W2 (w.heap.size + 1) 0 := by
    rw [hW2]
    have := Cur.made (cap := cap) (hcode.below hB1) 46
    simpa using this
  have y2 : W2.cell? ⟨w.heap.size, 0, none⟩ = some (.slice none 0 0) := by rw [hW2]; go_simp
  have z2 : W2.frozen? ⟨w.heap.size, 0, none⟩ = false := by rw [hW2]; go_simp
  have MC : Hid (Calls Try.prog 18 #[.pointer (some ⟨w.heap.size + 1, 0, none⟩)] W2 (SchR (w.heap.size + 1) (0 + 8000) false W2)) := maybeSchema_any (w.heap.size + 1) 0 W2 hc2 (by omega)
  unfold SchR at MC
  go_enter Try.func32, Try.ntmps32
  go_wp2_with fail
  rw [← hW2]
  clear hW2
  refine MC.out.mono ?_
  rintro e w3 ⟨rv, L, rfl, hrow, hl1, hl30, hnm, _, hc3, hg3⟩
  have hs2 := HS2.out
  have hsz3 := hg3.size
  have HNM : Hid (∀ x ∈ L, x.name.size ≤ 10) := hnm
  have blk3 := hg3.block w.heap.size (by omega) (by simp)
  have y3 : w3.cell? ⟨w.heap.size, 0, none⟩ = some (.slice none 0 0) := (World.cell?_of_block (w := W2) blk3).trans y2
  have z3 : w3.frozen? ⟨w.heap.size, 0, none⟩ = false := (World.frozen?_of_block (w := W2) blk3).trans z2
  have hB3 : Below w.heap.size w w3 := grown_toBelow hB2 hg3 (by omega) (by omega)
  obtain ⟨g, cr, rfl⟩ := Joins.ownsRow_form hrow (by omega)
  have hgb := hrow.lt g rfl
  obtain ⟨W4, hW4⟩ : ∃ W, W = w3.alloc (.cells #[.slice (some ⟨g, 0, none⟩) L.length cr] 25) := ⟨_, rfl⟩
  have hB4 : Below w3.heap.size w3 W4 := by rw [hW4]; exact (Below.refl _ w3).alloc (Nat.le_refl _) _
  have HS4 : Hid (W4.heap.size = w3.heap.size + 1) := by show _ = _; rw [hW4]; simp
  have hc4 : Cur W4 (w.heap.size + 1) 8000 := by rw [hW4]; simpa using hc3.alloc _
  have q4 : W4.cell? ⟨w3.heap.size, 0, none⟩ = some (.slice (some ⟨g, 0, none⟩) L.length cr) := by rw [hW4]; go_simp
  have y4 : W4.cell? ⟨w.heap.size, 0, none⟩ = some (.slice none 0 0) := (hB4.cell (p := ⟨w.heap.size, 0, none⟩) (by show w.heap.size < _; omega)).trans y3
  have z4 : W4.frozen? ⟨w.heap.size, 0, none⟩ = false := (hB4.frozen (p := ⟨w.heap.size, 0, none⟩) (by show w.heap.size < _; omega)).trans z3
  have HR4 : Hid (TyRow W4 (w.heap.size + 2) (.slice (some ⟨g, 0, none⟩) L.length cr) L) := by rw [← hs2]; exact hrow.below hB4
  have HB4 : Hid (Below w.heap.size w W4) := hB3.trans (hB4.mono hB3.size)
  have hL : (L.length : Int) ≤ 30 := by omega
  clear hrow hnm hc3 hg3 hc2 y2 z2 y3 z3 blk3 MC hB3
  go_upto_region 3 with fail
  rw [← hW4]
  clear hW4
  have q4d : W4.drew.cell? ⟨w3.heap.size, 0, none⟩ = some (.slice (some ⟨g, 0, none⟩) L.length cr) := q4
  have hc4d : Cur W4.drew (w.heap.size + 1) 8000 := hc4.drew
  go_region_held3 (fun w' => w'.cell? ⟨w3.heap.size, 0, none⟩ = some (.slice (some ⟨g, 0, none⟩) L.length cr))
    (first | exact (World.cell?_setCell_other _ _ _ _ (fun e => by have := congrArg Addr.block e; simp at this; omega)).trans q7 | exact q7 | exact q4d | exact q4)
    (first
      | (go_at_call 37; refine (pick_any (w.heap.size + 1) 8000 _ _ hc4d (by omega)).mono ?_; rintro e w7 ⟨x7, rfl, hx7, hc7, hg7⟩; have hsz7 := hg7.size; have hbk7 : ∀ j, j ≠ w.heap.size + 1 → j < W4.heap.size → w7.heap[j]? = W4.heap[j]? := fun j h1 h2 => hg7.block j h2 (by simp; omega); have hs4 := HS4.out; have q7 : w7.cell? ⟨w3.heap.size, 0, none⟩ = some (.slice (some ⟨g, 0, none⟩) L.length cr) := (World.cell?_of_block (w := W4) (hbk7 w3.heap.size (by omega) (by omega))).trans q4; have y7 : w7.cell? ⟨w.heap.size, 0, none⟩ = some (.slice none 0 0) := (World.cell?_of_block (w := W4) (hbk7 w.heap.size (by omega) (by omega))).trans y4; have z7 : w7.frozen? ⟨w.heap.size, 0, none⟩ = false := (World.frozen?_of_block (w := W4) (hbk7 w.heap.size (by omega) (by omega))).trans z4))
  have HR7 : Hid (TyRow w7 (w.heap.size + 2) (.slice (some ⟨g, 0, none⟩) L.length cr) L) := row_lt HR4.out (fun j hj => hbk7 j (by simp [Value.ownBlock] at hj; omega) (by simp [Value.ownBlock] at hj; omega))
  have HB7 : Hid (Below w.heap.size w w7) := grown_toBelow HB4.out ⟨hg7.os, hg7.tape, hg7.output, hg7.size, hg7.block⟩ (by omega) (by omega)
  have hz07 : w.heap.size < w7.heap.size := by have : W4.heap.size ≤ w7.heap.size := hsz7; omega
  clear hg7 hc7 hbk7
  go_wp2
  (try simp only [Exit.inBlock, Exit.then])
  refine bodyPost_ret (v := .tuple #[.agg #[.slice (some ⟨g, 0, none⟩) L.length cr], .int .i64 (IntKind.i64.wrap ((x7 : Int) - 1))]) ?_ rfl ⟨some ⟨g, 0, none⟩, cr, L, _, rfl, (HR7.out.setCell (a := ⟨w.heap.size, 0, none⟩) (by show w.heap.size < _; omega) _).lower (by omega), hl1, hl30, HNM.out, HB7.out.setCell (p := ⟨w.heap.size, 0, none⟩) (Nat.le_refl _) _⟩
  rw [results_cell_tmp rfl]
  go_simp

end Go.Proofs.Ytnhmleelhopjmaa
