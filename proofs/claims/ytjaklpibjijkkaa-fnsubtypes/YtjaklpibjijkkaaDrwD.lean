/- The schemas that the model draws: schema. -/
import Derived.Test.YtjaklpibjijkkaaDrwC
import Derived.Test.YtjaklpibjijkkaaFlE
namespace Go.Proofs.Ytjaklpibjijkkaa
open Go.RowKit Plain Sch

theorem draw_all : ∀ d : Nat, TypOK d ∧ MsgOK d
  | 0 => by
    have h := typeOf_step 0 (fun e he => by omega)
    exact ⟨h, messageOf_step 0 h⟩
  | d + 1 => by
    have ih := draw_all d
    have h := typeOf_step (d + 1) (fun e he => by
      obtain rfl : d = e := by omega
      exact ih)
    exact ⟨h, messageOf_step (d + 1) h⟩

theorem draw_small (x : Nat) (h : x ≤ 3) : stT x ≤ 1244 ∧ szT x ≤ 156 := by
  have h4 : x = 0 ∨ x = 1 ∨ x = 2 ∨ x = 3 := by omega
  rcases h4 with rfl | rfl | rfl | rfl <;> decide

def oneTy : Ty := ⟨5, ⟨#[]⟩, 0, false, -1, 0⟩

theorem one_good : gs [oneTy] = true := by
  have hG : GT (.mk 5 ⟨#[]⟩ 0 false 0 []) := by
    rw [GT_iff]
    refine ⟨by decide, ⟨fun h => absurd rfl h, fun h => absurd h (by decide), fun _ => ⟨fun x hx => ?_, List.Pairwise.nil⟩⟩, fun x hx => ?_⟩
    · simp [Tr.kids] at hx
    · simp [Tr.kids] at hx
  exact gs_flat (.mk 5 ⟨#[]⟩ 0 false 0 []) hG ⟨rfl, rfl, rfl, rfl⟩ (by simp [Tr.size, sizeL]) (by simp [Tr.size, sizeL]; decide)

theorem own_one (w' : World) (B g : Nat) (t : Ty) (hg : w'.heap[g]? = some (.cells #[.int .i64 t.kind, .string t.name, .int .i64 t.no, .bool t.must, .int .i64 t.up, .int .i64 t.most] 65 (0, 0))) (hB : B ≤ g) : TyRow w' B (.slice (some ⟨g, 0, none⟩) 1 1) [t] := by
  refine ⟨rfl, .inr ⟨g, 1, _, rfl, hB, hg, Nat.le_refl _, by unfold maxLen; omega, rfl, rfl⟩⟩

/-- what schema answers -/
def SchR (b m : Nat) (good : Bool) (w : World) (e : Ending) (w' : World) : Prop :=
  ∃ (rv : Value) (L : List Ty), e = .returned (.agg #[rv]) ∧ TyRow w' w.heap.size rv L ∧ 1 ≤ L.length ∧ L.length ≤ 30 ∧ (∀ x ∈ L, x.name.size ≤ 10) ∧ (good = true → gs L = true) ∧ Cur w' b m ∧ w.grownBy w' (some b)

theorem grown_below {w w1 w2 : World} {r : Option Nat} (h : w.grownBy w1 r) (hb : Below w1.heap.size w1 w2) : w.grownBy w2 r :=
  ⟨hb.os.trans h.os, hb.tape.trans h.tape, hb.output.trans h.output, Nat.le_trans h.size hb.size, fun j hj hne => (hb.block j (by have := h.size; omega)).trans (h.block j hj hne)⟩

theorem row_lt {w w' : World} {B : Nat} {v : Value} {L : List Ty} (h : TyRow w B v L) (hb : ∀ g, v.ownBlock = some g → w'.heap[g]? = w.heap[g]?) : TyRow w' B v L := own_keptB h hb

set_option maxRecDepth 100000 in
set_option maxHeartbeats 4000000 in
theorem schema_any (b m : Nat) (w : World) (hc : Cur w b m) (hm : m ≤ 800000000) :
    Calls Try.prog 51 #[.pointer (some ⟨b, 0, none⟩)] w (SchR b (m + 7000) true w) := by
  have hbw := hc.lt
  obtain ⟨W1, hW1⟩ : ∃ W, W = w.alloc (.cells #[.slice none 0 0] 30) := ⟨_, rfl⟩
  have hc1 : Cur W1 b m := by rw [hW1]; exact hc.alloc _
  have HS1 : Hid (W1.heap.size = w.heap.size + 1) := by show _ = _; rw [hW1]; simp
  have hg1 : w.grownBy W1 (some b) := by rw [hW1]; exact grown_alloc (World.grownBy.refl _ _) _
  have y1 : W1.cell? ⟨w.heap.size, 0, none⟩ = some (.slice none 0 0) := by rw [hW1]; go_simp
  have z1 : W1.frozen? ⟨w.heap.size, 0, none⟩ = false := by rw [hW1]; go_simp
  unfold SchR
  go_enter Try.func51, Try.ntmps51
  go_wp2_with fail
  rw [← hW1]
  clear hW1
  refine (pick_any b m 4 _ hc1 (by omega)).mono ?_
  rintro e w2 ⟨x, rfl, hx, hc2, hg2⟩
  have hx3 : x ≤ 3 := by omega
  have hsm := draw_small x hx3
  have MC : Hid (Calls Try.prog 78 #[.pointer (some ⟨b, 0, none⟩), .int .i64 (x : Int)] w2 (TypR b (m + 2) (x + 1) (1 + 5 * szT x) (20 + 5 * stT x) w2)) := (draw_all x).2 b (m + 2) w2 hc2 (by omega)
  unfold TypR at MC
  have hs2 : w.heap.size < w2.heap.size := by have h1 := hg2.size; have h2 := HS1.out; omega
  have blk2 := hg2.block w.heap.size (by have := HS1.out; omega) (by simp; omega)
  have hgw2 := Lib.grownBy_trans hg1 hg2
  have y2 : w2.cell? ⟨w.heap.size, 0, none⟩ = some (.slice none 0 0) := (World.cell?_of_block (w := W1) blk2).trans y1
  have z2 : w2.frozen? ⟨w.heap.size, 0, none⟩ = false := (World.frozen?_of_block (w := W1) blk2).trans z1
  clear hc1 hg1 hg2 y1 z1 hx hc blk2
  go_wp2_with fail
  refine MC.out.mono ?_
  rintro e w3 ⟨t, ac, lc, cc, rfl, hk, hz, hnt, hc3, hg3⟩
  have hs3 : w.heap.size < w3.heap.size := by have := hg3.size; omega
  have blk3 := hg3.block w.heap.size hs2 (by simp; omega)
  have y3 : w3.cell? ⟨w.heap.size, 0, none⟩ = some (.slice none 0 0) := (World.cell?_of_block (w := w2) blk3).trans y2
  have z3 : w3.frozen? ⟨w.heap.size, 0, none⟩ = false := (World.frozen?_of_block (w := w2) blk3).trans z2
  have hgw3 := Lib.grownBy_trans hgw2 hg3
  have HC3 : Hid (Cur w3 b (m + 7000)) := hc3.le (by omega)
  have TL : Hid (Calls Try.prog 40 #[tv t ac lc cc] w3 fun e w' => ∃ rv, e = .returned (.tuple #[.agg #[rv], .bool (tell t).2]) ∧ TyRow w' w3.heap.size rv (tell t).1 ∧ Below w3.heap.size w3 w') := l2Tell_any (x + 1) t ac lc cc _ w3 hk (fun g hg => hg.2) (by omega) hnt
  have HTG : Hid ((tell t).2 = true → gs (tell t).1 = true ∧ (tell t).1.length ≤ 30 ∧ 1 ≤ (tell t).1.length ∧ ∀ x ∈ (tell t).1, x.name.size ≤ 10) := by
    intro ht
    unfold tell at ht ⊢
    split at ht
    · rename_i hgd
      rw [if_pos hgd]
      have hp := gs_parts _ hgd
      exact ⟨hgd, hp.2.1, hp.1, flat_names t _ _ hnt⟩
    · cases ht
  clear hk hz hnt hc3 hg3 hc2 hgw2 y2 z2 MC blk3
  generalize tell t = R at TL HTG
  obtain ⟨F, ok⟩ := R
  generalize tv t ac lc cc = tvv at TL
  dsimp only at TL HTG
  go_wp2_with fail
  refine TL.out.mono ?_
  rintro e w4 ⟨rv, rfl, hrow, hb4⟩
  have hs4 : w3.heap.size ≤ w4.heap.size := hb4.size
  have y4 := (hb4.cell (p := ⟨w.heap.size, 0, none⟩) hs3).trans y3
  have z4 := (hb4.frozen (p := ⟨w.heap.size, 0, none⟩) hs3).trans z3
  have HG4 : Hid (w.grownBy w4 (some b)) := grown_below hgw3 hb4
  have HC4 : Hid (Cur w4 b (m + 7000)) := HC3.out.below (hb4.mono (by omega))
  have HROW : Hid (TyRow w4 w3.heap.size rv F) := hrow
  have hz4 : w.heap.size < w4.heap.size := by omega
  obtain ⟨ar, capr, rfl, _⟩ := ownSlice hrow
  have HRB : Hid (∀ g, (Value.slice ar F.length capr).ownBlock = some g → w3.heap.size ≤ g ∧ g < w4.heap.size) := fun g hg => hrow.lt g hg
  clear hrow hb4 y3 z3 TL hgw3 HC3
  cases ok
  · go_wp2
    (try simp only [Exit.inBlock, Exit.then])
    refine bodyPost_ret (v := .agg #[.slice (some ⟨w4.heap.size + 1, 0, none⟩) 1 1]) ?_ rfl ⟨.slice (some ⟨w4.heap.size + 1, 0, none⟩) 1 1, [oneTy], rfl, ?_, by simp, by simp, fun x hx => by simp at hx; subst hx; simp [oneTy, ByteArray.size], fun _ => one_good, ?_, ?_⟩
    · rw [results_cell1 rfl]
      go_simp
    · refine own_one _ _ _ oneTy ?_ (by omega)
      have h := heap_alloc_new ((w4.setCell ⟨w.heap.size, 0, none⟩ (.slice (some ⟨w4.heap.size + 1, 0, none⟩) 1 1)).alloc (.cells #[.slice (some ⟨w4.heap.size + 1, 0, none⟩) 1 1] 30)) (.cells #[.int .i64 5, .string ⟨#[]⟩, .int .i64 0, .bool false, .int .i64 (-1), .int .i64 0] 65)
      rw [show ((w4.setCell ⟨w.heap.size, 0, none⟩ (.slice (some ⟨w4.heap.size + 1, 0, none⟩) 1 1)).alloc (.cells #[.slice (some ⟨w4.heap.size + 1, 0, none⟩) 1 1] 30)).heap.size = w4.heap.size + 1 by simp] at h
      exact h
    · exact ((HC4.out.below ((Below.refl _ w4).setCell (p := ⟨w.heap.size, 0, none⟩) (by show b + 1 ≤ w.heap.size; omega) _)).alloc _).alloc _
    · exact grown_alloc (grown_alloc (grown_set HG4.out (Nat.le_refl _) _) _) _
  · have hgd := HTG.out rfl
    have HGD : Hid (gs F = true ∧ F.length ≤ 30 ∧ 1 ≤ F.length ∧ ∀ x ∈ F, x.name.size ≤ 10) := hgd
    clear hgd
    go_wp2
    (try simp only [Exit.inBlock, Exit.then])
    refine bodyPost_ret (v := .agg #[.slice ar F.length capr]) ?_ rfl ⟨.slice ar F.length capr, F, rfl, ?_, HGD.out.2.2.1, HGD.out.2.1, HGD.out.2.2.2, fun _ => HGD.out.1, ?_, ?_⟩
    · rw [results_cell1 rfl]
      go_simp
    · exact ((HROW.out.setCell (a := ⟨w.heap.size, 0, none⟩) hs3 _).below ((Below.refl _ _).alloc (Nat.le_refl _) _)).lower (by omega)
    · exact (HC4.out.below ((Below.refl _ w4).setCell (p := ⟨w.heap.size, 0, none⟩) (by show b + 1 ≤ w.heap.size; omega) _)).alloc _
    · exact grown_alloc (grown_set HG4.out (Nat.le_refl _) _) _

end Go.Proofs.Ytjaklpibjijkkaa
