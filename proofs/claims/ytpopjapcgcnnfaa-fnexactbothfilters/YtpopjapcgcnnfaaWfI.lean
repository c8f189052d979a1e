/- The program's BothFilters. -/
import Derived.Test.YtpopjapcgcnnfaaWfH
namespace Go.Proofs.Ytpopjapcgcnnfaa
open Go.RowKit Plain Sch Wan

theorem WRow.tight {w w' : World} {B : Nat} {v : Value} {L : List Wa} (h : WRow w B v L) (hb : Below w.heap.size w w') : WRow w' B v L := own_belowFw h hb

set_option maxRecDepth 100000 in
set_option maxHeartbeats 8000000 in
theorem implBoth (T U : List Wa) (v1 v2 : Value) (w : World) (hT : WasAt w w.heap.size v1 T) (hU : WasAt w w.heap.size v2 U) :
    Calls Try.prog 41 #[.agg #[v1], .agg #[v2]] w fun e w' => OFil w w' e (bothF T U) := by
  obtain ⟨i0, hi, hz0, hz1, hz2⟩ := info_parts infoWaG
  have HT : Hid (WasAt w w.heap.size v1 T) := hT
  have HU : Hid (WasAt w w.heap.size v2 U) := hU
  obtain ⟨ao, cap, rfl, hlc, hcm, _⟩ := hT
  obtain ⟨au, capu, rfl, hlcu, hcmu, _⟩ := hU
  unfold maxLen at hcm hcmu
  obtain ⟨R, hR⟩ : ∃ R, R = bothF T U := ⟨_, rfl⟩
  rw [← hR]
  have HR : Hid (R = bothF T U) := hR
  clear hR
  unfold OFil
  obtain ⟨W1, hW1⟩ : ∃ W, W = ((w.alloc (.cells #[.slice ao T.length cap] 43)).alloc (.cells #[.slice au U.length capu] 43)).alloc (.cells #[.slice none 0 0] 43) := ⟨_, rfl⟩
  have hB1 : Below w.heap.size w W1 := by rw [hW1]; exact (((Below.refl _ w).alloc (Nat.le_refl _) _).alloc (by simp) _).alloc (by simp; omega) _
  have hs1 : Hid (W1.heap.size = w.heap.size + 3) := by show _ = _; rw [hW1]; simp
  have hl1 : w.heap.size + 1 + 1 < W1.heap.size := by rw [hs1.out]; omega
  have q1 : W1.cell? ⟨w.heap.size, 0, none⟩ = some (.slice ao T.length cap) := by rw [hW1]; go_simp
  have p1 : W1.cell? ⟨w.heap.size + 1, 0, none⟩ = some (.slice au U.length capu) := by rw [hW1]; go_simp
  have r1 : W1.cell? ⟨w.heap.size + 1 + 1, 0, none⟩ = some (.slice none 0 0) := by rw [hW1]; go_simp
  have f1 : W1.frozen? ⟨w.heap.size + 1 + 1, 0, none⟩ = false := by rw [hW1]; go_simp
  have zero : Hid (∀ W : World, Below w.heap.size w W → R = ([], false) → ∃ rv, Ending.returned (.tuple #[.agg #[.slice none 0 0], .bool false]) = .returned (.tuple #[.agg #[rv], .bool R.2]) ∧ WRow W w.heap.size rv R.1 ∧ Below w.heap.size w W) := fun W hW e => ⟨.slice none 0 0, by rw [e], by rw [e]; exact World.ownsRow_nil _ _ _ _, hW⟩
  go_enter Try.func41, Try.ntmps41
  go_wp2_with fail
  rw [← hW1]
  clear hW1
  refine (implGoodF T _ _ (HT.out.below hB1)).mono ?_
  rintro e w2 ⟨rfl, hb2⟩
  have hB2 : Below w.heap.size w w2 := hB1.trans (hb2.mono (by omega))
  have hl2 : w.heap.size + 1 + 1 < w2.heap.size := by have := hb2.size; omega
  have q2 := (hb2.cell (p := ⟨w.heap.size, 0, none⟩) (by show w.heap.size < _; omega)).trans q1
  have p2 := (hb2.cell (p := ⟨w.heap.size + 1, 0, none⟩) (by show w.heap.size + 1 < _; omega)).trans p1
  have r2 := (hb2.cell (p := ⟨w.heap.size + 1 + 1, 0, none⟩) hl1).trans r1
  have f2 := (hb2.frozen (p := ⟨w.heap.size + 1 + 1, 0, none⟩) hl1).trans f1
  clear hb2 q1 r1 f1 p1 hs1 hl1
  cases hg : gf T with
  | false =>
    have hn : Hid (R = ([], false)) := HR.out.trans (by unfold bothF; rw [hg]; rfl)
    clear HR hg
    go_wp2
    (try simp only [Exit.inBlock, Exit.then])
    refine bodyPost_ret (v := .tuple #[.agg #[.slice none 0 0], .bool false]) ?_ rfl (zero.out _ (hB2.setCell (by show w.heap.size ≤ w.heap.size + 1 + 1; omega) _) hn.out)
    rw [results_cell_tmp rfl]
    go_simp
  | true =>
    go_wp2_with fail
    refine (implGoodF U _ _ (HU.out.below hB2)).mono ?_
    rintro e w3 ⟨rfl, hb3⟩
    have hB3 : Below w.heap.size w w3 := hB2.trans (hb3.mono (by omega))
    have hl3 : w.heap.size + 1 + 1 < w3.heap.size := by have := hb3.size; omega
    have q3 := (hb3.cell (p := ⟨w.heap.size, 0, none⟩) (by show w.heap.size < _; omega)).trans q2
    have p3 := (hb3.cell (p := ⟨w.heap.size + 1, 0, none⟩) (by show w.heap.size + 1 < _; omega)).trans p2
    have r3 := (hb3.cell (p := ⟨w.heap.size + 1 + 1, 0, none⟩) hl2).trans r2
    have f3 := (hb3.frozen (p := ⟨w.heap.size + 1 + 1, 0, none⟩) hl2).trans f2
    clear hb3 q2 r2 f2 p2
    cases hgu : gf U with
    | false =>
      have hn : Hid (R = ([], false)) := HR.out.trans (by unfold bothF; rw [hg, hgu]; rfl)
      clear HR hg hgu
      go_wp2
      (try simp only [Exit.inBlock, Exit.then])
      refine bodyPost_ret (v := .tuple #[.agg #[.slice none 0 0], .bool false]) ?_ rfl (zero.out _ (hB3.setCell (by show w.heap.size ≤ w.heap.size + 1 + 1; omega) _) hn.out)
      rw [results_cell_tmp rfl]
      go_simp
    | true =>
      obtain ⟨h0, h20⟩ := gf_len hg
      obtain ⟨h0u, h20u⟩ := gf_len hgu
      by_cases h19 : T.length + U.length < 20
      · have h19' : ¬ (20 : Int) < (T.length : Int) + (U.length : Int) + 1 := by omega
        have hn : Hid (R = (T ++ U.map (sh T.length) ++ [⟨6, 0, 0, ⟨#[]⟩, (T.length : Int) - 1, (T.length : Int) + U.length - 1⟩], true)) := HR.out.trans (by unfold bothF; rw [hg, hgu]; simp [h19])
        have HOK : Hid (∀ i, i < T.length → okW (wa T i) i = true) := gf_ok hg
        have HOKu : Hid (∀ i, i < U.length → okW (wa U i) i = true) := gf_ok hgu
        clear HR hg hgu
        go_wp2_with fail
        refine (appendWants_any [] T _ _ w3.heap.size w3 (World.ownsRow_nil _ _ _ _) (HT.out.below hB3) (Nat.le_refl _) (by simp) (by omega) HOK.out).mono ?_
        rintro e w4 ⟨rv, rfl, hrow, hb4⟩
        have hrow : WRow w4 w3.heap.size rv T := by simpa [sh_zeros] using hrow
        have HW4 : Hid (WRow w4 w3.heap.size rv T) := hrow
        have hs4 : w3.heap.size ≤ w4.heap.size := hb4.size
        have hB4 : Below w.heap.size w w4 := hB3.trans (hb4.mono (by omega))
        have p4 := (hb4.cell (p := ⟨w.heap.size + 1, 0, none⟩) (by show w.heap.size + 1 < _; omega)).trans p3
        have r4 := (hb4.cell (p := ⟨w.heap.size + 1 + 1, 0, none⟩) hl3).trans r3
        have f4 := (hb4.frozen (p := ⟨w.heap.size + 1 + 1, 0, none⟩) hl3).trans f3
        have HU4 : Hid (WasAt w4 w3.heap.size (.slice au U.length capu) U) := by
          have h3 := HU.out.below hB3
          obtain ⟨a1, c1, hv1, k1, k2, k3, k4⟩ := h3
          exact ⟨a1, c1, hv1, k1, k2, fun i hi => by obtain ⟨g, o, e1, e2, e3⟩ := k3 i hi; exact ⟨g, o, e1, e2, e3.below hb4 e2⟩, k4⟩
        obtain ⟨ar, capr, rfl⟩ := hrow.slice
        clear hb4 hrow r3 f3 q3 p3
        go_wp2_with fail
        refine (appendWants_any T U _ _ w3.heap.size w4 HW4.out HU4.out hs4 (by omega) (by omega) HOKu.out).mono ?_
        rintro e w5 ⟨rv, rfl, hrow, hb5⟩
        obtain ⟨D, hD⟩ : ∃ D, D = T ++ U.map (sh T.length) := ⟨_, rfl⟩
        have HD : Hid (T ++ U.map (sh T.length) = D) := hD.symm
        have hDl : Hid (D.length = T.length + U.length) := by show _ = _; rw [hD]; simp
        rw [← hD] at hrow hn
        have HW5 : Hid (WRow w5 w3.heap.size rv D) := hrow
        have hs5 : w4.heap.size ≤ w5.heap.size := hb5.size
        have hB5 : Below w.heap.size w w5 := hB4.trans (hb5.mono (by omega))
        have r5 := (hb5.cell (p := ⟨w.heap.size + 1 + 1, 0, none⟩) hl3).trans r4
        have f5 := (hb5.frozen (p := ⟨w.heap.size + 1 + 1, 0, none⟩) hl3).trans f4
        have hlt0 : Hid (∀ g, rv.ownBlock = some g → w3.heap.size ≤ g ∧ g < w5.heap.size) := fun g hg => hrow.lt g hg
        obtain ⟨ar5, capr5, hrv5⟩ := hrow.slice
        rw [hDl.out] at hrv5
        subst hrv5
        have hcast : Hid (((T.length + U.length : Nat) : Int) = (T.length : Int) + (U.length : Int)) := by show _ = _; omega
        obtain ⟨M, hM⟩ : ∃ M, M = T.length + U.length := ⟨_, rfl⟩
        have hMM : Hid (D.length = M) := by show _ = _; rw [hM]; exact hDl.out
        rw [← hM] at HW5 hlt0 ⊢
        have hn2 : Hid (R = (D ++ [⟨6, 0, 0, ⟨#[]⟩, (T.length : Int) - 1, (M : Int) - 1⟩], true)) := by show _ = _; rw [hn.out, hM, hcast.out]
        have hM40 : M ≤ 40 := by omega
        have hM0 : 0 < M := by omega
        clear hb5 hrow r4 f4 p4 hn hM hD hDl hcast HU4 HW4
        have hO5 : w5.ownsRow w3.heap.size 97 6 (.slice ar5 M capr5) M (D.flatMap Wa.cells) := by have := HW5.out; unfold WRow at this; rw [hMM.out] at this; exact this
        go_wp2_with (at_builtin; refine wpList_append_lies _ rfl _ _ 41 rfl w3.heap.size 97 i0 (.agg #[.int .i64 0, .int .i64 0, .int .i64 0, .string ⟨#[]⟩, .int .i64 0, .int .i64 0]) 6 56 Try.underlying41 hi hz0 hz1 hz2 rfl (by decide) _ M _ rfl (hO5.alloc _) ⟨w5.heap.size, 0, none⟩ 1 1 [.int .i64 6, .int .i64 0, .int .i64 0, .string ⟨#[]⟩, .int .i64 ((T.length : Int) - 1), .int .i64 ((M : Int) - 1)] rfl rfl (World.news_of_block (heap_alloc_new w5 _)) (one6W _ _ _ _ _ _) (by omega) (by unfold maxLen; omega) (by omega) (by simp; omega) (w5.heap.size + 1) (by simp) ?_)
        intro g9 cap9 w9 hown9 hgrow9 hat9 hlt9
        have hne9 : some (w.heap.size + 1 + 1) ≠ (Value.slice ar5 M capr5).ownBlock := fun e => by have := (hlt0.out _ e.symm).1; omega
        have hB9 : Below w.heap.size w w9 := (hB5.alloc (by omega) _).grown hgrow9 (by simp; omega) (fun k hk => by have := (hlt0.out k hk).1; omega)
        have r9 : w9.cell? ⟨w.heap.size + 1 + 1, 0, none⟩ = some (.slice none 0 0) := (hgrow9.cell_far ⟨w.heap.size + 1 + 1, 0, none⟩ (by simp; omega) hne9).trans ((Below.cell ((Below.refl _ w5).alloc (Nat.le_refl _) _) (p := ⟨w.heap.size + 1 + 1, 0, none⟩) (by show w.heap.size + 1 + 1 < _; omega)).trans r5)
        have f9 : w9.frozen? ⟨w.heap.size + 1 + 1, 0, none⟩ = false := (hgrow9.frozen_far ⟨w.heap.size + 1 + 1, 0, none⟩ (by simp; omega) hne9).trans ((Below.frozen ((Below.refl _ w5).alloc (Nat.le_refl _) _) (p := ⟨w.heap.size + 1 + 1, 0, none⟩) (by show w.heap.size + 1 + 1 < _; omega)).trans f5)
        have hZ9 : Hid (WRow w9 w3.heap.size (.slice (some ⟨g9, 0, none⟩) (M + 1) cap9) (D ++ [⟨6, 0, 0, ⟨#[]⟩, (T.length : Int) - 1, (M : Int) - 1⟩])) := by
          show WRow _ _ _ _
          unfold WRow
          rw [List.length_append, List.length_singleton, List.flatMap_append, hMM.out]
          simpa [Wa.cells] using hown9
        clear hown9 hgrow9 hat9 hlt9 HW5 hO5 r5 f5 hlt0 hne9
        go_wp2
        (try simp only [Exit.inBlock, Exit.then])
        refine bodyPost_ret (v := .tuple #[.agg #[.slice (some ⟨g9, 0, none⟩) (M + 1) cap9], .bool true]) ?_ rfl ⟨.slice (some ⟨g9, 0, none⟩) (M + 1) cap9, by rw [hn2.out], ?_, ?_⟩
        · rw [results_cell_tmp rfl]
          go_simp
        · rw [hn2.out]
          exact WRow.lower (ownsRow_setCell_below hZ9.out (a := ⟨w.heap.size + 1 + 1, 0, none⟩) (by show w.heap.size + 1 + 1 < _; omega) _) (by omega)
        · exact hB9.setCell (by show w.heap.size ≤ w.heap.size + 1 + 1; omega) _
      · have h19' : (20 : Int) < (T.length : Int) + (U.length : Int) + 1 := by omega
        have hn : Hid (R = ([], false)) := HR.out.trans (by unfold bothF; rw [hg, hgu]; simp [h19])
        clear HR hg hgu
        go_wp2
        (try simp only [Exit.inBlock, Exit.then])
        refine bodyPost_ret (v := .tuple #[.agg #[.slice none 0 0], .bool false]) ?_ rfl (zero.out _ (hB3.setCell (by show w.heap.size ≤ w.heap.size + 1 + 1; omega) _) hn.out)
        rw [results_cell_tmp rfl]
        go_simp

end Go.Proofs.Ytpopjapcgcnnfaa
