/- What the model draws for paths: DrawFieldsOf. -/
import Derived.Test.YtjaklpibjijkkaaDrwE
namespace Go.Proofs.Ytjaklpibjijkkaa
open Go.RowKit Plain Sch
attribute [local go_sem ↓] Go.wp_at_zero Go.wp_at_succ

/-- a small schema in new memory -/
def SmallSch (w w' : World) (rv : Value) (L : List Ty) : Prop := TyRow w' w.heap.size rv L ∧ 1 ≤ L.length ∧ L.length ≤ 30 ∧ (∀ x ∈ L, x.name.size ≤ 10) ∧ Below w.heap.size w w'

def DrI (w : World) (e : Ending) (w' : World) : Prop := ∃ (ar : Option Addr) (cr : Nat) (L : List Ty) (k : Int), e = .returned (.tuple #[.agg #[.slice ar L.length cr], .int .i64 k]) ∧ SmallSch w w' (.slice ar L.length cr) L

theorem grown_toBelow {n b : Nat} {w W w' : World} (hB : Below n w W) (hg : W.grownBy w' (some b)) (hb : n ≤ b) (hn : n ≤ W.heap.size) : Below n w w' :=
  hB.grown hg hn (fun k hk => by simp at hk; omega)

set_option maxRecDepth 100000 in
set_option maxHeartbeats 4000000 in
theorem drawFieldsOf_any (ao : Option Addr) (len cap : Nat) (w : World) (hcode : CodeAt w ao len) :
    Calls Try.prog 58 #[.slice ao len cap] w (DrI w) := by
  obtain ⟨W2, hW2⟩ : ∃ W, W = (w.alloc (.cells #[.slice none 0 0] 30)).alloc (.cells #[.slice ao len cap, .int .i64 0, .int .u64 0] 77) := ⟨_, rfl⟩
  have hB1 : Below w.heap.size w (w.alloc (.cells #[.slice none 0 0] 30)) := (Below.refl _ w).alloc (Nat.le_refl _) _
  have hB2 : Below w.heap.size w W2 := by rw [hW2]; exact hB1.alloc (by simp) _
  have HS2 : Hid (W2.heap.size = w.heap.size + 2) := by show _ = _; rw [hW2]; simp
  have hc2 : Cur W2 (w.heap.size + 1) 0 := by
    rw [hW2]
    have := Cur.made (cap := cap) (hcode.below hB1) 77
    simpa using this
  have y2 : W2.cell? ⟨w.heap.size, 0, none⟩ = some (.slice none 0 0) := by rw [hW2]; go_simp
  have z2 : W2.frozen? ⟨w.heap.size, 0, none⟩ = false := by rw [hW2]; go_simp
  have MC : Hid (Calls Try.prog 48 #[.pointer (some ⟨w.heap.size + 1, 0, none⟩)] W2 (SchR (w.heap.size + 1) (0 + 8000) false W2)) := maybeSchema_any (w.heap.size + 1) 0 W2 hc2 (by omega)
  unfold SchR at MC
  go_enter Try.func58, Try.ntmps58
  go_wp2_with fail
  rw [← hW2]
  clear hW2
  refine MC.out.mono ?_
  rintro e w3 ⟨rv, L, rfl, hrow, hl1, hl30, hnm, _, hc3, hg3⟩
  have hs2 := HS2.out
  have hsz3 := hg3.size
  have HNM : Hid (∀ x ∈ L, x.name.size ≤ 10) := hnm
  have blk3 := hg3.block w.heap.size (by omega) (by simp)
  have y3 : w3.cell? ⟨w.heap.size, 0, none⟩ = some (.slice none 0 0) := (World.cell?_of_block (w := W2) blk3).trans y2
  have z3 : w3.frozen? ⟨w.heap.size, 0, none⟩ = false := (World.frozen?_of_block (w := W2) blk3).trans z2
  have hB3 : Below w.heap.size w w3 := grown_toBelow hB2 hg3 (by omega) (by omega)
  obtain ⟨g, cr, rfl⟩ := Joins.ownsRow_form hrow (by omega)
  have hgb := hrow.lt g rfl
  obtain ⟨W4, hW4⟩ : ∃ W, W = w3.alloc (.cells #[.slice (some ⟨g, 0, none⟩) L.length cr] 30) := ⟨_, rfl⟩
  have hB4 : Below w3.heap.size w3 W4 := by rw [hW4]; exact (Below.refl _ w3).alloc (Nat.le_refl _) _
  have HS4 : Hid (W4.heap.size = w3.heap.size + 1) := by show _ = _; rw [hW4]; simp
  have hc4 : Cur W4 (w.heap.size + 1) 8000 := by rw [hW4]; simpa using hc3.alloc _
  have q4 : W4.cell? ⟨w3.heap.size, 0, none⟩ = some (.slice (some ⟨g, 0, none⟩) L.length cr) := by rw [hW4]; go_simp
  have y4 : W4.cell? ⟨w.heap.size, 0, none⟩ = some (.slice none 0 0) := (hB4.cell (p := ⟨w.heap.size, 0, none⟩) (by show w.heap.size < _; omega)).trans y3
  have z4 : W4.frozen? ⟨w.heap.size, 0, none⟩ = false := (hB4.frozen (p := ⟨w.heap.size, 0, none⟩) (by show w.heap.size < _; omega)).trans z3
  have HR4 : Hid (TyRow W4 (w.heap.size + 2) (.slice (some ⟨g, 0, none⟩) L.length cr) L) := by rw [← hs2]; exact hrow.below hB4
  have HB4 : Hid (Below w.heap.size w W4) := hB3.trans (hB4.mono hB3.size)
  have hL : (L.length : Int) ≤ 30 := by omega
  clear hrow hnm hc3 hg3 hc2 y2 z2 y3 z3 blk3 MC hB3
  go_upto_region 3 with fail
  rw [← hW4]
  clear hW4
  have q4d : W4.drew.cell? ⟨w3.heap.size, 0, none⟩ = some (.slice (some ⟨g, 0, none⟩) L.length cr) := q4
  have hc4d : Cur W4.drew (w.heap.size + 1) 8000 := hc4.drew
  go_region_held3 (fun w' => w'.cell? ⟨w3.heap.size, 0, none⟩ = some (.slice (some ⟨g, 0, none⟩) L.length cr))
    (first | exact (World.cell?_setCell_other _ _ _ _ (fun e => by have := congrArg Addr.block e; simp at this; omega)).trans q7 | exact q7 | exact q4d | exact q4)
    (first
      | (go_at_call 75; refine (pick_any (w.heap.size + 1) 8000 _ _ hc4d (by omega)).mono ?_; rintro e w7 ⟨x7, rfl, hx7, hc7, hg7⟩; have hsz7 := hg7.size; have hbk7 : ∀ j, j ≠ w.heap.size + 1 → j < W4.heap.size → w7.heap[j]? = W4.heap[j]? := fun j h1 h2 => hg7.block j h2 (by simp; omega); have hs4 := HS4.out; have q7 : w7.cell? ⟨w3.heap.size, 0, none⟩ = some (.slice (some ⟨g, 0, none⟩) L.length cr) := (World.cell?_of_block (w := W4) (hbk7 w3.heap.size (by omega) (by omega))).trans q4; have y7 : w7.cell? ⟨w.heap.size, 0, none⟩ = some (.slice none 0 0) := (World.cell?_of_block (w := W4) (hbk7 w.heap.size (by omega) (by omega))).trans y4; have z7 : w7.frozen? ⟨w.heap.size, 0, none⟩ = false := (World.frozen?_of_block (w := W4) (hbk7 w.heap.size (by omega) (by omega))).trans z4))
  have HR7 : Hid (TyRow w7 (w.heap.size + 2) (.slice (some ⟨g, 0, none⟩) L.length cr) L) := row_lt HR4.out (fun j hj => hbk7 j (by simp [Value.ownBlock] at hj; omega) (by simp [Value.ownBlock] at hj; omega))
  have HB7 : Hid (Below w.heap.size w w7) := grown_toBelow HB4.out ⟨hg7.os, hg7.tape, hg7.output, hg7.size, hg7.block⟩ (by omega) (by omega)
  have hz07 : w.heap.size < w7.heap.size := by have : W4.heap.size ≤ w7.heap.size := hsz7; omega
  clear hg7 hc7 hbk7
  go_wp2
  (try simp only [Exit.inBlock, Exit.then])
  refine bodyPost_ret (v := .tuple #[.agg #[.slice (some ⟨g, 0, none⟩) L.length cr], .int .i64 (IntKind.i64.wrap ((x7 : Int) - 1))]) ?_ rfl ⟨some ⟨g, 0, none⟩, cr, L, _, rfl, (HR7.out.setCell (a := ⟨w.heap.size, 0, none⟩) (by show w.heap.size < _; omega) _).lower (by omega), hl1, hl30, HNM.out, HB7.out.setCell (p := ⟨w.heap.size, 0, none⟩) (Nat.le_refl _) _⟩
  rw [results_cell_tmp rfl]
  go_simp

end Go.Proofs.Ytjaklpibjijkkaa
