/- What the model draws for types at paths: DrawTypeAt. -/
import Derived.Test.YtjaklpibjijkkabDrwF
import Derived.Test.YtjaklpibjijkkabPthD
import Derived.Deep.RegionWith
namespace Go.Proofs.Ytjaklpibjijkkab
open Go.RowKit Plain Sch
attribute [local go_sem ↓] Go.wp_at_zero Go.wp_at_succ

def DrT (w : World) (e : Ending) (w' : World) : Prop := ∃ (ar : Option Addr) (cr : Nat) (L : List Ty) (p : ByteArray), e = .returned (.tuple #[.agg #[.slice ar L.length cr], .string p]) ∧ SmallSch w w' (.slice ar L.length cr) L

set_option maxRecDepth 100000 in
set_option maxHeartbeats 4000000 in
theorem drawTypeAt_any (ao : Option Addr) (len cap : Nat) (w : World) (hcode : CodeAt w ao len) :
    Calls Try.prog 15 #[.slice ao len cap] w (DrT w) := by
  obtain ⟨W2, hW2⟩ : ∃ W, W = (w.alloc (.cells #[.slice none 0 0] 30)).alloc (.cells #[.slice ao len cap, .int .i64 0, .int .u64 0] 56) := ⟨_, rfl⟩
  have hB1 : Below w.heap.size w (w.alloc (.cells #[.slice none 0 0] 30)) := (Below.refl _ w).alloc (Nat.le_refl _) _
  have hB2 : Below w.heap.size w W2 := by rw [hW2]; exact hB1.alloc (by simp) _
  have HS2 : Hid (W2.heap.size = w.heap.size + 2) := by show _ = _; rw [hW2]; simp
  have hc2 : Cur W2 (w.heap.size + 1) 0 := by
    rw [hW2]
    have := Cur.made (cap := cap) (hcode.below hB1) 56
    simpa using this
  have y2 : W2.cell? ⟨w.heap.size, 0, none⟩ = some (.slice none 0 0) := by rw [hW2]; go_simp
  have z2 : W2.frozen? ⟨w.heap.size, 0, none⟩ = false := by rw [hW2]; go_simp
  have MC : Hid (Calls Try.prog 28 #[.pointer (some ⟨w.heap.size + 1, 0, none⟩)] W2 (SchR (w.heap.size + 1) (0 + 8000) false W2)) := maybeSchema_any (w.heap.size + 1) 0 W2 hc2 (by omega)
  unfold SchR at MC
  go_enter Try.func15, Try.ntmps15
  go_wp2_with fail
  rw [← hW2]
  clear hW2
  refine MC.out.mono ?_
  rintro e w3 ⟨rv, L, rfl, hrow, hl1, hl30, hnm, _, hc3, hg3⟩
  have hs2 := HS2.out
  have hsz3 := hg3.size
  have HNM : Hid (∀ x ∈ L, x.name.size ≤ 10) := hnm
  have blk3 := hg3.block w.heap.size (by omega) (by simp)
  have y3 : w3.cell? ⟨w.heap.size, 0, none⟩ = some (.slice none 0 0) := (World.cell?_of_block (w := W2) blk3).trans y2
  have z3 : w3.frozen? ⟨w.heap.size, 0, none⟩ = false := (World.frozen?_of_block (w := W2) blk3).trans z2
  have hB3 : Below w.heap.size w w3 := grown_toBelow hB2 hg3 (by omega) (by omega)
  obtain ⟨g, cr, rfl⟩ := Joins.ownsRow_form hrow (by omega)
  have hgb := hrow.lt g rfl
  obtain ⟨W4, hW4⟩ : ∃ W, W = w3.alloc (.cells #[.slice (some ⟨g, 0, none⟩) L.length cr] 30) := ⟨_, rfl⟩
  have hB4 : Below w3.heap.size w3 W4 := by rw [hW4]; exact (Below.refl _ w3).alloc (Nat.le_refl _) _
  have HS4 : Hid (W4.heap.size = w3.heap.size + 1) := by show _ = _; rw [hW4]; simp
  have hc4 : Cur W4 (w.heap.size + 1) 8000 := by rw [hW4]; simpa using hc3.alloc _
  have q4 : W4.cell? ⟨w3.heap.size, 0, none⟩ = some (.slice (some ⟨g, 0, none⟩) L.length cr) := by rw [hW4]; go_simp
  have y4 : W4.cell? ⟨w.heap.size, 0, none⟩ = some (.slice none 0 0) := (hB4.cell (p := ⟨w.heap.size, 0, none⟩) (by show w.heap.size < _; omega)).trans y3
  have z4 : W4.frozen? ⟨w.heap.size, 0, none⟩ = false := (hB4.frozen (p := ⟨w.heap.size, 0, none⟩) (by show w.heap.size < _; omega)).trans z3
  have HR4 : Hid (TyRow W4 (w.heap.size + 2) (.slice (some ⟨g, 0, none⟩) L.length cr) L) := by rw [← hs2]; exact hrow.below hB4
  have HB4 : Hid (Below w.heap.size w W4) := hB3.trans (hB4.mono hB3.size)
  have hL : (L.length : Int) ≤ 30 := by omega
  -- what stays as it was in W4, but for the cursor
  have HK : Hid (∀ W : World, W4.grownBy W (some (w.heap.size + 1)) → W.cell? ⟨w3.heap.size, 0, none⟩ = some (.slice (some ⟨g, 0, none⟩) L.length cr) ∧ W.cell? ⟨w.heap.size, 0, none⟩ = some (.slice none 0 0) ∧ W.frozen? ⟨w.heap.size, 0, none⟩ = false ∧ TyRow W (w.heap.size + 2) (.slice (some ⟨g, 0, none⟩) L.length cr) L ∧ Below w.heap.size w W ∧ w.heap.size < W.heap.size ∧ w3.heap.size < W.heap.size) := fun W hg => by
    have hs4 := HS4.out
    have hbk : ∀ j, j ≠ w.heap.size + 1 → j < W4.heap.size → W.heap[j]? = W4.heap[j]? := fun j h1 h2 => hg.block j h2 (by simp; omega)
    have hsz := hg.size
    exact ⟨(World.cell?_of_block (w := W4) (hbk w3.heap.size (by omega) (by omega))).trans q4, (World.cell?_of_block (w := W4) (hbk w.heap.size (by omega) (by omega))).trans y4, (World.frozen?_of_block (w := W4) (hbk w.heap.size (by omega) (by omega))).trans z4, row_lt HR4.out (fun j hj => hbk j (by simp [Value.ownBlock] at hj; omega) (by simp [Value.ownBlock] at hj; omega)), grown_toBelow HB4.out hg (by omega) (by omega), by omega, by omega⟩
  have PC : Hid (∀ (W : World) (k : Int), W4.grownBy W (some (w.heap.size + 1)) → Calls Try.prog 8 #[.agg #[.slice (some ⟨g, 0, none⟩) L.length cr], .int .i64 k] W fun e w' => ∃ p ok, e = .returned (.tuple #[.string p, .bool ok]) ∧ Below W.heap.size W w') := fun W k hg => by
    refine (specPath L _ k W ((HK.out W hg).2.2.2.1.at HNM.out)).mono ?_
    rintro e w' ⟨rfl, hb⟩
    exact ⟨_, _, rfl, hb⟩
  clear hrow hnm hc3 hg3 hc2 y2 z2 y3 z3 blk3 MC hB3
  go_upto_region 3 with fail
  rw [← hW4]
  clear hW4
  have q4d : W4.drew.cell? ⟨w3.heap.size, 0, none⟩ = some (.slice (some ⟨g, 0, none⟩) L.length cr) := q4
  have hc4d : Cur W4.drew (w.heap.size + 1) 8000 := hc4.drew
  go_cut [6, 7] (fun s6 s7 wx => ∃ p ok, s6 = .string p ∧ s7 = .bool ok ∧ W4.grownBy wx (some (w.heap.size + 1)) ∧ Cur wx (w.heap.size + 1) 8002)
  case first =>
    go_region_held3 (fun w' => w'.cell? ⟨w3.heap.size, 0, none⟩ = some (.slice (some ⟨g, 0, none⟩) L.length cr))
      (first | exact q8 | exact q7 | exact q4d | exact q4)
      (first
        | (go_at_call 8; refine (PC.out _ _ hg7').mono ?_; rintro e w8 ⟨p8, ok8, rfl, hb8⟩; have hg8 : W4.grownBy w8 (some (w.heap.size + 1)) := grown_below hg7' hb8; have q8 := (HK.out w8 hg8).1; have hc8 : Cur w8 (w.heap.size + 1) 8002 := hc7.below (hb8.mono (by have := (HK.out w7 hg7').2.2.2.2.2.2; omega)))
        | (go_at_call 29; refine (pick_any (w.heap.size + 1) 8000 _ _ hc4d (by omega)).mono ?_; rintro e w7 ⟨x7, rfl, hx7, hc7, hg7⟩; have hg7' : W4.grownBy w7 (some (w.heap.size + 1)) := ⟨hg7.os, hg7.tape, hg7.output, hg7.size, hg7.block⟩; have q7 := (HK.out w7 hg7').1))
    all_goals
      go_wp2_with fail
      go_meet
      exact ⟨_, _, rfl, rfl, hg8, hc8⟩
  case rest =>
    obtain ⟨p, ok, rfl, rfl, hgc, hcc⟩ := hcut
    clear q4d hc4d hc4
    cases ok
    · have hk0 := HK.out wc hgc
      obtain ⟨W6, hW6⟩ : ∃ W, W = (wc.alloc (.cells #[.string ⟨#[]⟩, .string ⟨#[97]⟩, .string ⟨#[110, 97, 109, 101]⟩, .string ⟨#[108, 105, 115, 116, 46, 97]⟩, .string ⟨#[107, 105, 110, 100, 46, 97, 46, 98]⟩, .string ⟨#[120]⟩] 9)).drew := ⟨_, rfl⟩
      have hB6 : Below wc.heap.size wc W6 := by rw [hW6]; exact ((Below.refl _ wc).alloc (Nat.le_refl _) _).drew
      have HS6 : Hid (W6.heap.size = wc.heap.size + 1) := by show _ = _; rw [hW6]; simp
      have hcd : Cur W6 (w.heap.size + 1) 8002 := by rw [hW6]; exact (hcc.alloc _).drew
      have hg6 : W4.grownBy W6 (some (w.heap.size + 1)) := grown_below hgc hB6
      have q0 := hk0.1
      have q0d : wc.drew.cell? ⟨w3.heap.size, 0, none⟩ = some (.slice (some ⟨g, 0, none⟩) L.length cr) := q0
      have q6b := (HK.out W6 hg6).1
      rw [hW6] at q6b
      have hb6 : wc.heap.size ≠ w.heap.size + 1 := by have := hk0.2.2.2.2.2.2; omega
      obtain ⟨zs, HZ⟩ : ∃ zs : Nat → ByteArray, Hid (∀ i, i < 6 → W6.cell? ⟨wc.heap.size, i, none⟩ = some (.string (zs i))) := by
        refine ⟨fun i => [(⟨#[]⟩ : ByteArray), ⟨#[97]⟩, ⟨#[110, 97, 109, 101]⟩, ⟨#[108, 105, 115, 116, 46, 97]⟩, ⟨#[107, 105, 110, 100, 46, 97, 46, 98]⟩, ⟨#[120]⟩].getD i ⟨#[]⟩, fun i hi3 => ?_⟩
        rw [hW6]
        have h3 : i = 0 ∨ i = 1 ∨ i = 2 ∨ i = 3 ∨ i = 4 ∨ i = 5 := by omega
        rcases h3 with rfl | rfl | rfl | rfl | rfl | rfl
        · go_simp; (try rfl)
        · go_simp; (try rfl)
        · go_simp; (try rfl)
        · go_simp; (try rfl)
        · go_simp; (try rfl)
        · go_simp; (try rfl)
      go_upto_region 6 with fail
      go_region_held3 (fun w' => w'.cell? ⟨w3.heap.size, 0, none⟩ = some (.slice (some ⟨g, 0, none⟩) L.length cr))
        (first | exact (World.cell?_setCell_other _ _ _ _ (fun e => by have := congrArg Addr.block e; simp at this; omega)).trans q7 | exact q7 | exact q6b | exact q0d | exact q0)
        (first
          | (go_at_call 31; rw [← hW6]; refine (of_any (w.heap.size + 1) 8002 wc.heap.size 6 6 zs W6 hcd (by omega) (by omega) (by omega) hb6 HZ.out).mono ?_; rintro e w7 ⟨ix, hix, rfl, hc7, hg7⟩; have hg7' : W4.grownBy w7 (some (w.heap.size + 1)) := Lib.grownBy_trans hg6 hg7; have hk7 := HK.out w7 hg7'; have q7 := hk7.1; have y7 := hk7.2.1; have z7 := hk7.2.2.1))
      have HR7 : Hid (TyRow w7 (w.heap.size + 2) (.slice (some ⟨g, 0, none⟩) L.length cr) L) := hk7.2.2.2.1
      have HB7 : Hid (Below w.heap.size w w7) := hk7.2.2.2.2.1
      have hz07 : w.heap.size < w7.heap.size := hk7.2.2.2.2.2.1
      have hz37 : w3.heap.size < w7.heap.size := hk7.2.2.2.2.2.2
      clear hg7 hc7 hk7 hg7' hk0 hW6
      go_wp2
      (try simp only [Exit.inBlock, Exit.then])
      refine bodyPost_ret (v := .tuple #[.agg #[.slice (some ⟨g, 0, none⟩) L.length cr], .string (zs ix)]) ?_ rfl ⟨some ⟨g, 0, none⟩, cr, L, zs ix, rfl, (HR7.out.setCell (a := ⟨w.heap.size, 0, none⟩) (by show w.heap.size < _; omega) _).lower (by omega), hl1, hl30, HNM.out, HB7.out.setCell (p := ⟨w.heap.size, 0, none⟩) (Nat.le_refl _) _⟩
      rw [results_cell_tmp rfl]
      go_simp
    · go_wp2_with fail
      refine (one_any (w.heap.size + 1) 8002 2 _ hcc (by omega)).mono ?_
      rintro e w9 ⟨t9, rfl, hc9, hg9⟩
      have hg9' : W4.grownBy w9 (some (w.heap.size + 1)) := Lib.grownBy_trans hgc hg9
      cases t9
      · have hk0 := HK.out w9 hg9'
        obtain ⟨W6, hW6⟩ : ∃ W, W = (w9.alloc (.cells #[.string ⟨#[]⟩, .string ⟨#[97]⟩, .string ⟨#[110, 97, 109, 101]⟩, .string ⟨#[108, 105, 115, 116, 46, 97]⟩, .string ⟨#[107, 105, 110, 100, 46, 97, 46, 98]⟩, .string ⟨#[120]⟩] 9)).drew := ⟨_, rfl⟩
        have hB6 : Below w9.heap.size w9 W6 := by rw [hW6]; exact ((Below.refl _ w9).alloc (Nat.le_refl _) _).drew
        have HS6 : Hid (W6.heap.size = w9.heap.size + 1) := by show _ = _; rw [hW6]; simp
        have hcd : Cur W6 (w.heap.size + 1) (8002 + 2) := by rw [hW6]; exact (hc9.alloc _).drew
        have hg6 : W4.grownBy W6 (some (w.heap.size + 1)) := grown_below hg9' hB6
        have q0 := hk0.1
        have q0d : w9.drew.cell? ⟨w3.heap.size, 0, none⟩ = some (.slice (some ⟨g, 0, none⟩) L.length cr) := q0
        have q6b := (HK.out W6 hg6).1
        rw [hW6] at q6b
        have hb6 : w9.heap.size ≠ w.heap.size + 1 := by have := hk0.2.2.2.2.2.2; omega
        obtain ⟨zs, HZ⟩ : ∃ zs : Nat → ByteArray, Hid (∀ i, i < 6 → W6.cell? ⟨w9.heap.size, i, none⟩ = some (.string (zs i))) := by
          refine ⟨fun i => [(⟨#[]⟩ : ByteArray), ⟨#[97]⟩, ⟨#[110, 97, 109, 101]⟩, ⟨#[108, 105, 115, 116, 46, 97]⟩, ⟨#[107, 105, 110, 100, 46, 97, 46, 98]⟩, ⟨#[120]⟩].getD i ⟨#[]⟩, fun i hi3 => ?_⟩
          rw [hW6]
          have h3 : i = 0 ∨ i = 1 ∨ i = 2 ∨ i = 3 ∨ i = 4 ∨ i = 5 := by omega
          rcases h3 with rfl | rfl | rfl | rfl | rfl | rfl
          · go_simp; (try rfl)
          · go_simp; (try rfl)
          · go_simp; (try rfl)
          · go_simp; (try rfl)
          · go_simp; (try rfl)
          · go_simp; (try rfl)
        go_upto_region 6 with fail
        go_region_held3 (fun w' => w'.cell? ⟨w3.heap.size, 0, none⟩ = some (.slice (some ⟨g, 0, none⟩) L.length cr))
          (first | exact (World.cell?_setCell_other _ _ _ _ (fun e => by have := congrArg Addr.block e; simp at this; omega)).trans q7 | exact q7 | exact q6b | exact q0d | exact q0)
          (first
            | (go_at_call 31; rw [← hW6]; refine (of_any (w.heap.size + 1) (8002 + 2) w9.heap.size 6 6 zs W6 hcd (by omega) (by omega) (by omega) hb6 HZ.out).mono ?_; rintro e w7 ⟨ix, hix, rfl, hc7, hg7⟩; have hg7' : W4.grownBy w7 (some (w.heap.size + 1)) := Lib.grownBy_trans hg6 hg7; have hk7 := HK.out w7 hg7'; have q7 := hk7.1; have y7 := hk7.2.1; have z7 := hk7.2.2.1))
        have HR7 : Hid (TyRow w7 (w.heap.size + 2) (.slice (some ⟨g, 0, none⟩) L.length cr) L) := hk7.2.2.2.1
        have HB7 : Hid (Below w.heap.size w w7) := hk7.2.2.2.2.1
        have hz07 : w.heap.size < w7.heap.size := hk7.2.2.2.2.2.1
        have hz37 : w3.heap.size < w7.heap.size := hk7.2.2.2.2.2.2
        clear hg7 hc7 hk7 hg7' hk0 hW6
        go_wp2
        (try simp only [Exit.inBlock, Exit.then])
        refine bodyPost_ret (v := .tuple #[.agg #[.slice (some ⟨g, 0, none⟩) L.length cr], .string (zs ix)]) ?_ rfl ⟨some ⟨g, 0, none⟩, cr, L, zs ix, rfl, (HR7.out.setCell (a := ⟨w.heap.size, 0, none⟩) (by show w.heap.size < _; omega) _).lower (by omega), hl1, hl30, HNM.out, HB7.out.setCell (p := ⟨w.heap.size, 0, none⟩) (Nat.le_refl _) _⟩
        rw [results_cell_tmp rfl]
        go_simp
      · have hk7 := HK.out w9 hg9'
        have q7 := hk7.1
        have y7 := hk7.2.1
        have z7 := hk7.2.2.1
        have HR7 : Hid (TyRow w9 (w.heap.size + 2) (.slice (some ⟨g, 0, none⟩) L.length cr) L) := hk7.2.2.2.1
        have HB7 : Hid (Below w.heap.size w w9) := hk7.2.2.2.2.1
        have hz07 : w.heap.size < w9.heap.size := hk7.2.2.2.2.2.1
        have hz37 : w3.heap.size < w9.heap.size := hk7.2.2.2.2.2.2
        clear hg9 hc9 hk7 hg9'
        go_wp2
        (try simp only [Exit.inBlock, Exit.then])
        refine bodyPost_ret (v := .tuple #[.agg #[.slice (some ⟨g, 0, none⟩) L.length cr], .string p]) ?_ rfl ⟨some ⟨g, 0, none⟩, cr, L, p, rfl, (HR7.out.setCell (a := ⟨w.heap.size, 0, none⟩) (by show w.heap.size < _; omega) _).lower (by omega), hl1, hl30, HNM.out, HB7.out.setCell (p := ⟨w.heap.size, 0, none⟩) (Nat.le_refl _) _⟩
        rw [results_cell_tmp rfl]
        go_simp

end Go.Proofs.Ytjaklpibjijkkab
