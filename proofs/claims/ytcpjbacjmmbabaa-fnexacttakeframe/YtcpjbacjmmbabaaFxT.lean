/- Readers that came in: opened, measured, copied, compared, marked. -/
import Derived.Test.YtcpjbacjmmbabaaFxP
namespace Go.Proofs.Ytcpjbacjmmbabaa
open Go.RowKit Plain Tpc Frm

theorem grow_allocF {w w' : World} {o : Obj} {row : Option Nat} (h : (w.alloc o).grownBy w' row) : w.grownBy w' row := by
  have hb : Below w.heap.size w (w.alloc o) := (Below.refl _ w).alloc (Nat.le_refl _) o
  exact Lib.grownBy_trans (grow_belowY hb) h

set_option maxRecDepth 100000 in
set_option maxHeartbeats 4000000 in
theorem eqReader_same (r : Rdr) (v1 v2 : Value) (w : World) (h1 : StAt w w.heap.size v1 r.got) (h2 : StAt w w.heap.size v2 r.got) (hl : r.got.length ≤ 2097152) :
    Calls Try.prog 24 #[r.val v1, r.val v2] w fun e w' => e = .returned (.bool true) ∧ Below w.heap.size w w' := by
  obtain ⟨q, L, bad⟩ := r
  unfold Rdr.val
  dsimp only at *
  obtain ⟨W0, hW0⟩ : ∃ W, W = (w.alloc (.cells #[.string q, v1, .bool bad] 33)).alloc (.cells #[.string q, v2, .bool bad] 33) := ⟨_, rfl⟩
  have hB0 : Below w.heap.size w W0 := by rw [hW0]; exact ((Below.refl _ w).alloc (Nat.le_refl _) _).alloc (by simp) _
  have V1 : Rv W0 w.heap.size (.string q) v1 (.bool bad) := by rw [hW0]; exact (Rv.fresh w _ _ _ _).below ((Below.refl _ _).alloc (Nat.le_refl _) _)
  have V2 : Rv W0 (w.heap.size + 1) (.string q) v2 (.bool bad) := by
    have h := Rv.fresh (w.alloc (.cells #[.string q, v1, .bool bad] 33)) (.string q) v2 (.bool bad) 33
    rw [hW0]
    simpa using h
  have C := eqTexts_same L v1 v2 W0 (h1.below hB0) (h2.below hB0) hl
  obtain ⟨a1, c1, rfl, _⟩ := h1
  obtain ⟨a2, c2, rfl, _⟩ := h2
  have x0 := V1.c0
  have x1 := V1.c1
  have y0 := V2.c0
  have y1 := V2.c1
  have nR : (q.toList == q.toList) = true := by simp
  have nb : (bad != bad) = false := bne_self_eq_false bad
  go_enter Try.func24, Try.ntmps24
  go_upto_region 1 with fail
  rw [← hW0]
  clear hW0
  go_wp2_with fail
  go_at_call 19
  refine C.mono ?_
  rintro e w1 ⟨rfl, hb1⟩
  have hB1 : Below w.heap.size w w1 := hB0.trans (hb1.mono hB0.size)
  have z1 := (V1.below hb1).c2
  have z2 := (V2.below hb1).c2
  clear hb1 V1 V2
  go_wp2_with fail
  go_ret
  exact ⟨rfl, hB1⟩

set_option maxRecDepth 100000 in
set_option maxHeartbeats 4000000 in
theorem markReader_any (r : Rdr) (B n k : Nat) (v : Value) (xs : List Value) (w : World) (hown : w.ownsRow B 9 1 v n xs) (hn : n ≤ 2097152) (hk1 : 1 ≤ k) (hk2 : k ≤ 100000000) :
    Calls Try.prog 25 #[r.val v, .int .i64 k] w fun e w' => e = .returned (.int .i64 ((k + n : Nat) : Int)) ∧ (∃ ys, w'.ownsRow B 9 1 v n ys ∧ ∀ j, j < n → ys[j]? = some (.string (mt (k + j)))) ∧ w.grownBy w' v.ownBlock := by
  unfold Rdr.val
  obtain ⟨W0, hW0⟩ : ∃ W, W = w.alloc (.cells #[.string r.rest, v, .bool r.bad] 33) := ⟨_, rfl⟩
  have hB0 : Below w.heap.size w W0 := by rw [hW0]; exact (Below.refl _ w).alloc (Nat.le_refl _) _
  have V1 : Rv W0 w.heap.size (.string r.rest) v (.bool r.bad) := by rw [hW0]; exact Rv.fresh w _ _ _ _
  have x1 := V1.c1
  have C := markTexts_any B n k v xs W0 (own_belowY hown hB0) hn hk1 hk2
  have hv : ∃ ao cap, v = Value.slice ao n cap := by
    rcases hown.2 with ⟨rfl, h0⟩ | ⟨g, cap, _, rfl, _⟩
    · exact ⟨none, 0, by rw [h0]⟩
    · exact ⟨_, _, rfl⟩
  obtain ⟨a1, c1, rfl⟩ := hv
  clear hown V1
  go_enter Try.func25, Try.ntmps25
  go_upto_region 1 with fail
  rw [← hW0]
  clear hW0
  go_wp2_with fail
  go_at_call 20
  refine C.mono ?_
  rintro e w1 ⟨rfl, hy, hg⟩
  have HY : Hid (∃ ys, w1.ownsRow B 9 1 (.slice a1 n c1) n ys ∧ ∀ j, j < n → ys[j]? = some (.string (mt (k + j)))) := hy
  have HG : Hid (w.grownBy w1 (Value.slice a1 n c1).ownBlock) := Lib.grownBy_trans (grow_belowY hB0) hg
  clear hy hg
  go_wp2_with fail
  go_ret
  exact ⟨rfl, HY.out, HG.out⟩

set_option maxRecDepth 100000 in
set_option maxHeartbeats 4000000 in
theorem heldReader_any (r : Rdr) (n k : Nat) (v : Value) (w : World) (h : StAt w w.heap.size v (mks k n)) (hn : n ≤ 2097152) (hk1 : 1 ≤ k) (hk2 : k ≤ 100000000) :
    Calls Try.prog 26 #[r.val v, .int .i64 k] w fun e w' => e = .returned (.int .i64 ((k + n : Nat) : Int)) ∧ Below w.heap.size w w' := by
  unfold Rdr.val
  obtain ⟨W0, hW0⟩ : ∃ W, W = w.alloc (.cells #[.string r.rest, v, .bool r.bad] 33) := ⟨_, rfl⟩
  have hB0 : Below w.heap.size w W0 := by rw [hW0]; exact (Below.refl _ w).alloc (Nat.le_refl _) _
  have V1 : Rv W0 w.heap.size (.string r.rest) v (.bool r.bad) := by rw [hW0]; exact Rv.fresh w _ _ _ _
  have x1 := V1.c1
  have C := heldTexts_any n k v W0 (h.below hB0) hn hk1 hk2
  obtain ⟨a1, c1, rfl, _⟩ := h
  clear V1
  have hge : ¬ (((k + n : Nat) : Int) < 0) := by omega
  go_enter Try.func26, Try.ntmps26
  go_upto_region 1 with fail
  rw [← hW0]
  clear hW0
  go_wp2_with fail
  go_at_call 21
  refine C.mono ?_
  rintro e w1 ⟨rfl, hb1⟩
  have hB1 : Below w.heap.size w w1 := hB0.trans (hb1.mono hB0.size)
  clear hb1
  go_wp2_with fail
  go_ret
  exact ⟨rfl, hB1⟩

set_option maxRecDepth 100000 in
set_option maxHeartbeats 4000000 in
theorem szReader_left (r : Rdr) (v : Value) (w : World) (hT : StAt w w.heap.size v r.got) (hN : ∀ i, i < r.got.length → (lq r.got i).size ≤ 9223372036854775807) (hR : r.rest.size ≤ maxLen) :
    Calls Try.prog 27 #[r.val v, .int .i64 1048576] w fun e w' => (∃ n : Int, e = .returned (.int .i64 n) ∧ -1 ≤ n ∧ n ≤ 1048576 ∧ (0 ≤ n → r.rest.size ≤ 1048576 ∧ r.got.length ≤ 1048576 ∧ ∀ i, i < r.got.length → (lq r.got i).size ≤ 1048576)) ∧ Below w.heap.size w w' := by
  unfold maxLen at hR
  obtain ⟨q, L, bad⟩ := r
  unfold Rdr.val
  dsimp only at *
  obtain ⟨W0, hW0⟩ : ∃ W, W = w.alloc (.cells #[.string q, v, .bool bad] 38) := ⟨_, rfl⟩
  have hB0 : Below w.heap.size w W0 := by rw [hW0]; exact (Below.refl _ w).alloc (Nat.le_refl _) _
  have V1 : Rv W0 w.heap.size (.string q) v (.bool bad) := by rw [hW0]; exact Rv.fresh w _ _ _ _
  have x0 := V1.c0
  have x1 := V1.c1
  by_cases hbig : (1048576 : Int) < (q.size : Int)
  · have hlt : (1048576 : Int) - (q.size : Int) < 0 := by omega
    obtain ⟨a1, c1, rfl, _⟩ := hT
    clear V1
    go_enter Try.func27, Try.ntmps27
    go_upto_region 1 with fail
    rw [← hW0]
    clear hW0
    go_wp2_with fail
    go_ret
    exact ⟨⟨-1, rfl, by omega, by omega, fun h => by omega⟩, hB0⟩
  · have hge : ¬ ((1048576 : Int) - (q.size : Int) < 0) := by omega
    have C := szTexts_left L v (1048576 - (q.size : Int)) W0 (hT.below hB0) hN (by omega) (by omega)
    obtain ⟨a1, c1, rfl, _⟩ := hT
    clear V1 hN
    go_enter Try.func27, Try.ntmps27
    go_upto_region 1 with fail
    rw [← hW0]
    clear hW0
    go_wp2_with fail
    go_at_call 35
    refine C.mono ?_
    rintro e w1 ⟨⟨n, rfl, hn0, hn1, hn2⟩, h1⟩
    have h1 := h1.symm
    subst h1
    have HN2 : Hid (0 ≤ n → L.length ≤ 1048576 ∧ ∀ i, i < L.length → (lq L i).size ≤ 1048576) := hn2
    clear hn2
    by_cases hneg : n < 0
    · go_wp2_with fail
      go_ret
      exact ⟨⟨-1, rfl, by omega, by omega, fun h => by omega⟩, hB0⟩
    · go_wp2_with fail
      go_ret
      exact ⟨⟨n, rfl, by omega, by omega, fun h => ⟨by omega, HN2.out h⟩⟩, hB0⟩

set_option maxRecDepth 100000 in
set_option maxHeartbeats 4000000 in
theorem toReader_any (r : Rdr) (v : Value) (w : World) (hT : StAt w w.heap.size v r.got) (hl : r.got.length ≤ 1048576) :
    Calls Try.prog 29 #[r.val v] w fun e w' => ∃ a c, e = .returned (r.val (.slice a r.got.length c)) ∧ StRow w' w.heap.size (.slice a r.got.length c) r.got ∧ Below w.heap.size w w' := by
  have rc := fun (tmps : Array Value) (P : Program) (w : World) => results_cellF (fn := Try.f29) (p := 2) (ty := 33) rfl tmps P w
  obtain ⟨q, L, bad⟩ := r
  unfold Rdr.val
  dsimp only at *
  have HT : Hid (StAt w w.heap.size v L) := hT
  obtain ⟨a1, c1, rfl, _⟩ := hT
  obtain ⟨W0, hW0⟩ : ∃ W, W = ((w.alloc (.cells #[.string q, .slice a1 L.length c1, .bool bad] 38)).alloc (.cells #[.string ⟨#[]⟩, .slice none 0 0, .bool false] 33)).alloc (.cells #[.string ⟨#[]⟩, .slice none 0 0, .bool false] 33) := ⟨_, rfl⟩
  have hB0 : Below w.heap.size w W0 := by rw [hW0]; exact (((Below.refl _ w).alloc (Nat.le_refl _) _).alloc (by simp) _).alloc (by simp; omega) _
  have hs0 : W0.heap.size = w.heap.size + 3 := by rw [hW0]; simp
  have x0 : W0.cell? ⟨w.heap.size, 0, none⟩ = some (.string q) := by rw [hW0]; go_simp
  have x1 : W0.cell? ⟨w.heap.size, 1, none⟩ = some (.slice a1 L.length c1) := by rw [hW0]; go_simp
  have x2 : W0.cell? ⟨w.heap.size, 2, none⟩ = some (.bool bad) := by rw [hW0]; go_simp
  have y0 : W0.cell? ⟨w.heap.size + 1, 0, none⟩ = some (.string ⟨#[]⟩) := by rw [hW0]; go_simp
  have y1 : W0.cell? ⟨w.heap.size + 1, 1, none⟩ = some (.slice none 0 0) := by rw [hW0]; go_simp
  have y2 : W0.cell? ⟨w.heap.size + 1, 2, none⟩ = some (.bool false) := by rw [hW0]; go_simp
  have z0 : W0.cell? ⟨w.heap.size + 2, 0, none⟩ = some (.string ⟨#[]⟩) := by rw [hW0]; go_simp
  have z1 : W0.cell? ⟨w.heap.size + 2, 1, none⟩ = some (.slice none 0 0) := by rw [hW0]; go_simp
  have z2 : W0.cell? ⟨w.heap.size + 2, 2, none⟩ = some (.bool false) := by rw [hW0]; go_simp
  have fy : ∀ k, W0.frozen? ⟨w.heap.size + 1, k, none⟩ = false := fun k => by rw [hW0]; go_simp
  have fz : ∀ k, W0.frozen? ⟨w.heap.size + 2, k, none⟩ = false := fun k => by rw [hW0]; go_simp
  obtain ⟨W1, hW1⟩ : ∃ W, W = W0.setCell ⟨w.heap.size + 2, 0, none⟩ (.string q) := ⟨_, rfl⟩
  have V0 : Rv W0 (w.heap.size + 2) (.string ⟨#[]⟩) (.slice none 0 0) (.bool false) := ⟨by omega, z0, z1, z2, fz 0, fz 1, fz 2⟩
  have hB1 : Below w.heap.size w W1 := by rw [hW1]; exact hB0.setCell (p := ⟨w.heap.size + 2, 0, none⟩) (Nat.le_add_right _ _) _
  have hs1 : W1.heap.size = w.heap.size + 3 := by rw [hW1]; simp; omega
  have X1 : Rv W1 w.heap.size (.string q) (.slice a1 L.length c1) (.bool bad) := by
    rw [hW1]
    refine ⟨by simp; omega, ?_, ?_, ?_, ?_, ?_, ?_⟩
    · rw [World.cell?_setCell_other _ _ _ _ (by simp)]; exact x0
    · rw [World.cell?_setCell_other _ _ _ _ (by simp)]; exact x1
    · rw [World.cell?_setCell_other _ _ _ _ (by simp)]; exact x2
    all_goals
      rw [World.frozen?_setCell, hW0]
      go_simp
  have Y1 : Rv W1 (w.heap.size + 1) (.string ⟨#[]⟩) (.slice none 0 0) (.bool false) := by
    rw [hW1]
    refine ⟨by simp; omega, ?_, ?_, ?_, by rw [World.frozen?_setCell]; exact fy 0, by rw [World.frozen?_setCell]; exact fy 1, by rw [World.frozen?_setCell]; exact fy 2⟩
    · rw [World.cell?_setCell_other _ _ _ _ (by simp)]; exact y0
    · rw [World.cell?_setCell_other _ _ _ _ (by simp)]; exact y1
    · rw [World.cell?_setCell_other _ _ _ _ (by simp)]; exact y2
  have Z1 : Rv W1 (w.heap.size + 2) (.string q) (.slice none 0 0) (.bool false) := by
    rw [hW1]
    refine ⟨by simp; omega, World.cell?_setCell_same _ _ _ z0, ?_, ?_, by rw [World.frozen?_setCell]; exact fz 0, by rw [World.frozen?_setCell]; exact fz 1, by rw [World.frozen?_setCell]; exact fz 2⟩
    · rw [World.cell?_setCell_other _ _ _ _ (by simp)]; exact z1
    · rw [World.cell?_setCell_other _ _ _ _ (by simp)]; exact z2
  have C := toTexts_any L _ W1 (HT.out.below hB1) hl
  have f0 := fz 0
  have k1 := X1.c1
  clear V0 fz fy y0 y1 y2 z1 z2 x1 x2
  go_enter Try.func29, Try.ntmps29
  go_upto_region 2 with fail
  rw [← hW0]
  clear hW0
  go_upto_region 3 with fail
  rw [← hW1]
  clear hW1 x0 z0 f0
  go_wp2_with fail
  go_at_call 37
  refine C.mono ?_
  rintro e w1 ⟨u, rfl, hz, hb⟩
  have hs2 := hb.size
  have X2 := X1.below hb
  have Y2 := Y1.below hb
  have Z2 := Z1.below hb
  have p2 := X2.c2
  have y0 := Y2.c0
  have y1 := Y2.c1
  have y2 := Y2.c2
  have fy0 := Y2.f0
  have fy1 := Y2.f1
  have fy2 := Y2.f2
  have z0 := Z2.c0
  have z1 := Z2.c1
  have z2 := Z2.c2
  have fz0 := Z2.f0
  have fz1 := Z2.f1
  have fz2 := Z2.f2
  obtain ⟨a, c, rfl⟩ := hz.slice
  have hlz := World.ownsRow.lt hz
  have HN1 : Hid (∀ g, (Value.slice a L.length c).ownBlock = some g → g ≠ w.heap.size + 1) := fun g hg => by have := (hlz g hg).1; omega
  have HN2 : Hid (∀ g, (Value.slice a L.length c).ownBlock = some g → g ≠ w.heap.size + 2) := fun g hg => by have := (hlz g hg).1; omega
  have HZ : Hid (StRow w1 w.heap.size (.slice a L.length c) L) := by
    refine ⟨hz.1, ?_⟩
    rcases hz.2 with hn | ⟨g, cap, cur, hv, hg, rest⟩
    · exact .inl hn
    · exact .inr ⟨g, cap, cur, hv, by omega, rest⟩
  have HB : Hid (Below w.heap.size w w1) := hB1.trans (hb.mono (by omega))
  clear hz hb hlz X1 X2 Y1 Y2 Z1 Z2 hB0 hB1 k1 C hs0 hs1 hs2
  go_wp2
  (try simp only [Exit.inBlock, Exit.then])
  refine bodyPost_ret (v := .agg #[.string q, .slice a L.length c, .bool bad]) ?_ rfl ⟨a, c, rfl, ?_, ?_⟩
  · rw [rc]
    go_simp
  · exact own_setCell (own_setCell (own_setCell (own_setCell (own_setCell HZ.out _ 1 _ HN2.out) _ 2 _ HN2.out) _ 0 _ HN1.out) _ 1 _ HN1.out) _ 2 _ HN1.out
  · exact ((((HB.out.setCell (p := ⟨w.heap.size + 2, 1, none⟩) (Nat.le_add_right _ _) _).setCell (p := ⟨w.heap.size + 2, 2, none⟩) (Nat.le_add_right _ _) _).setCell (p := ⟨w.heap.size + 1, 0, none⟩) (Nat.le_add_right _ _) _).setCell (p := ⟨w.heap.size + 1, 1, none⟩) (Nat.le_add_right _ _) _).setCell (p := ⟨w.heap.size + 1, 2, none⟩) (Nat.le_add_right _ _) _

set_option maxRecDepth 100000 in
theorem open_textsIn {H : Type} {enc : TypeId × Value → H} {W : World} {m : Nat} {v0 : Value} {x : DataW H × List MemPlace}
    (hf : DataW.trod enc Try.prog W 0 (fun _ => true) true m 27 [v0] = some x) : ∃ l, StAt W W.heap.size v0 l ∧ ∀ i, i < l.length → (lq l i).size ≤ 9223372036854775807 := by
  have c3 : Try.prog.cellsOf 9 = 1 := by kernel_rfl
  rcases DataW.trod_slice Try.underlying27 hf with ⟨hcs, _⟩ | ⟨a, len, cap, elems, rest, m2, _, hcs, _, _, hlc, hcm, hel, hcell, _⟩
  · simp at hcs
    subst hcs
    exact ⟨[], ⟨none, 0, rfl, by simp, by unfold maxLen; omega, fun i hi => by simp at hi⟩, fun i hi => by simp at hi⟩
  · simp at hcs
    subst hcs
    rw [c3] at hcell
    have each : ∀ i, i < len → ∃ t : ByteArray, (a = ⟨a.block, a.off, none⟩ ∧ a.block < W.heap.size) ∧ W.cell? ⟨a.block, a.off + i, none⟩ = some (.string t) ∧ t.size ≤ maxLen := by
      intro i hi
      have h1 := hcell i hi
      rw [List.getElem?_eq_getElem (by omega), Option.bind_eq_some_iff] at h1
      obtain ⟨ci, hci, htr⟩ := h1
      obtain ⟨t, rfl, _, hts⟩ := DataW.trod_string Try.underlying9 htr
      obtain ⟨_, _, hcc⟩ := World.cells?_some hci
      have h00 := hcell 0 (by omega)
      rw [List.getElem?_eq_getElem (by omega), Option.bind_eq_some_iff] at h00
      obtain ⟨c0, hc0, htr0⟩ := h00
      obtain ⟨t0, rfl, _⟩ := DataW.trod_string Try.underlying9 htr0
      obtain ⟨_, _, hcc0⟩ := World.cells?_some hc0
      have hz := hcc0 0 (by omega)
      have hz' : W.cell? a = some (.string t0) := by simpa [Addr.add] using hz
      have hsp := spot_none hz'
      refine ⟨t, ⟨hsp, World.block_lt_of_cell? W a hz'⟩, ?_, hts⟩
      have h2 := hcc 0 (by omega)
      rw [show (some (Value.string t)) = [Value.string t][0]? from rfl, ← h2]
      congr 1
      rw [hsp]
      unfold Addr.add
      by_cases h0 : i * 1 = 0
      · rw [if_pos h0]; simp; omega
      · rw [if_neg h0]; simp
    obtain ⟨l, hl, hP⟩ := pick_list each
    have el : ∀ i, i < l.length → lq l i = l.getD i default := fun i hi => by
      unfold lq
      rw [List.getD_eq_getElem?_getD, List.getD_eq_getElem?_getD, List.getElem?_eq_getElem hi]
      rfl
    refine ⟨l, ⟨some a, cap, by rw [hl], by omega, hcm, fun i hi => ?_⟩, fun i hi => ?_⟩
    · have h1 := hP i (by omega)
      refine ⟨a.block, a.off, by rw [← h1.1.1], h1.1.2, ?_⟩
      rw [h1.2.1, el i hi]
    · have h1 := (hP i (by omega)).2.2
      unfold maxLen at h1
      rw [el i hi]
      exact h1

set_option maxRecDepth 100000 in
theorem open_reader {H : Type} {enc : TypeId × Value → H} {W : World} {base : Nat} {v0 : Value} {d0 : DataW H} {p0 : List MemPlace} (hok : Value.okWide Try.prog W .any base 38 v0)
    (h0 : DataW.Trod enc Try.prog W 0 (fun _ => true) true 38 v0 d0 p0) : ∃ (r : Rdr) (v : Value), v0 = r.val v ∧ StAt W W.heap.size v r.got ∧ (∀ i, i < r.got.length → (lq r.got i).size ≤ 9223372036854775807) ∧ r.rest.size ≤ maxLen := by
  unfold Value.okWide at hok
  rw [Try.underlying38] at hok
  obtain ⟨cs, rfl, hsz, _⟩ := hok
  have c24 : Try.prog.cellsOf 38 = 3 := by kernel_rfl
  have c9 : Try.prog.cellsOf 9 = 1 := by kernel_rfl
  have c22 : Try.prog.cellsOf 27 = 1 := by kernel_rfl
  have c4 : Try.prog.cellsOf 4 = 1 := by kernel_rfl
  rw [c24] at hsz
  obtain ⟨fuel, hf⟩ := h0
  obtain ⟨l⟩ := cs
  match l, hsz with
  | [x, v, y], _ =>
    obtain ⟨xs, m1, rfl, _, _, hn, hff⟩ := DataW.trod_struct Try.underlying38 hf
    have f0 : DataW.trod enc Try.prog W 0 (fun _ => true) true m1 9 ((([x, v, y] : List Value).drop 0).take (Try.prog.cellsOf 9)) = xs[0]? := hff 0 _ rfl
    have f1 : DataW.trod enc Try.prog W 0 (fun _ => true) true m1 27 ((([x, v, y] : List Value).drop 1).take (Try.prog.cellsOf 27)) = xs[1]? := hff 1 _ rfl
    have f2 : DataW.trod enc Try.prog W 0 (fun _ => true) true m1 4 ((([x, v, y] : List Value).drop 2).take (Try.prog.cellsOf 4)) = xs[2]? := hff 2 _ rfl
    rw [c9] at f0
    rw [c22] at f1
    rw [c4] at f2
    match xs, hn with
    | [x0, x1, x2], _ =>
      obtain ⟨q, e0, _, hs⟩ := DataW.trod_string Try.underlying9 (show DataW.trod enc Try.prog W 0 (fun _ => true) true m1 9 [x] = some x0 from f0)
      obtain ⟨L, hL, hLs⟩ := open_textsIn (show DataW.trod enc Try.prog W 0 (fun _ => true) true m1 27 [v] = some x1 from f1)
      obtain ⟨b, e2, _⟩ := DataW.trod_bool Try.underlying4 (show DataW.trod enc Try.prog W 0 (fun _ => true) true m1 4 [y] = some x2 from f2)
      simp at e0 e2
      subst e0 e2
      exact ⟨⟨q, L, b⟩, v, rfl, hL, hLs, hs⟩

end Go.Proofs.Ytcpjbacjmmbabaa
