/- The program's BothFilters. The model's NotFilter. The model's BothFilters. -/
import Derived.Test.YtpopjapcgcnnfabDoorWfH
import Derived.Test.YtpopjapcgcnnfabDoorWsB
namespace Go.Proofs.YtpopjapcgcnnfabDoor
open Go.RowKit Plain Sch Wan

theorem WRow.tight {w w' : World} {B : Nat} {v : Value} {L : List Wa} (h : WRow w B v L) (hb : Below w.heap.size w w') : WRow w' B v L := own_belowFw h hb

set_option maxRecDepth 100000 in
set_option maxHeartbeats 8000000 in
theorem implBoth (T U : List Wa) (v1 v2 : Value) (w : World) (hT : WasAt w w.heap.size v1 T) (hU : WasAt w w.heap.size v2 U) :
    Calls Tryd.prog 27 #[.agg #[v1], .agg #[v2]] w fun e w' => OFil w w' e (bothF T U) := by
  obtain ⟨i0, hi, hz0, hz1, hz2⟩ := info_parts infoWaG
  have HT : Hid (WasAt w w.heap.size v1 T) := hT
  have HU : Hid (WasAt w w.heap.size v2 U) := hU
  obtain ⟨ao, cap, rfl, hlc, hcm, _⟩ := hT
  obtain ⟨au, capu, rfl, hlcu, hcmu, _⟩ := hU
  unfold maxLen at hcm hcmu
  obtain ⟨R, hR⟩ : ∃ R, R = bothF T U := ⟨_, rfl⟩
  rw [← hR]
  have HR : Hid (R = bothF T U) := hR
  clear hR
  unfold OFil
  obtain ⟨W1, hW1⟩ : ∃ W, W = ((w.alloc (.cells #[.slice ao T.length cap] 25)).alloc (.cells #[.slice au U.length capu] 25)).alloc (.cells #[.slice none 0 0] 25) := ⟨_, rfl⟩
  have hB1 : Below w.heap.size w W1 := by rw [hW1]; exact (((Below.refl _ w).alloc (Nat.le_refl _) _).alloc (by simp) _).alloc (by simp; omega) _
  have hs1 : Hid (W1.heap.size = w.heap.size + 3) := by show _ = _; rw [hW1]; simp
  have hl1 : w.heap.size + 1 + 1 < W1.heap.size := by rw [hs1.out]; omega
  have q1 : W1.cell? ⟨w.heap.size, 0, none⟩ = some (.slice ao T.length cap) := by rw [hW1]; go_simp
  have p1 : W1.cell? ⟨w.heap.size + 1, 0, none⟩ = some (.slice au U.length capu) := by rw [hW1]; go_simp
  have r1 : W1.cell? ⟨w.heap.size + 1 + 1, 0, none⟩ = some (.slice none 0 0) := by rw [hW1]; go_simp
  have f1 : W1.frozen? ⟨w.heap.size + 1 + 1, 0, none⟩ = false := by rw [hW1]; go_simp
  have zero : Hid (∀ W : World, Below w.heap.size w W → R = ([], false) → ∃ rv, Ending.returned (.tuple #[.agg #[.slice none 0 0], .bool false]) = .returned (.tuple #[.agg #[rv], .bool R.2]) ∧ WRow W w.heap.size rv R.1 ∧ Below w.heap.size w W) := fun W hW e => ⟨.slice none 0 0, by rw [e], by rw [e]; exact World.ownsRow_nil _ _ _ _, hW⟩
  go_enter Tryd.func27, Tryd.ntmps27
  go_wp2_with fail
  rw [← hW1]
  clear hW1
  refine (implGoodF T _ _ (HT.out.below hB1)).mono ?_
  rintro e w2 ⟨rfl, hb2⟩
  have hB2 : Below w.heap.size w w2 := hB1.trans (hb2.mono (by omega))
  have hl2 : w.heap.size + 1 + 1 < w2.heap.size := by have := hb2.size; omega
  have q2 := (hb2.cell (p := ⟨w.heap.size, 0, none⟩) (by show w.heap.size < _; omega)).trans q1
  have p2 := (hb2.cell (p := ⟨w.heap.size + 1, 0, none⟩) (by show w.heap.size + 1 < _; omega)).trans p1
  have r2 := (hb2.cell (p := ⟨w.heap.size + 1 + 1, 0, none⟩) hl1).trans r1
  have f2 := (hb2.frozen (p := ⟨w.heap.size + 1 + 1, 0, none⟩) hl1).trans f1
  clear hb2 q1 r1 f1 p1 hs1 hl1
  cases hg : gf T with
  | false =>
    have hn : Hid (R = ([], false)) := HR.out.trans (by unfold bothF; rw [hg]; rfl)
    clear HR hg
    go_wp2
    (try simp only [Exit.inBlock, Exit.then])
    refine bodyPost_ret (v := .tuple #[.agg #[.slice none 0 0], .bool false]) ?_ rfl (zero.out _ (hB2.setCell (by show w.heap.size ≤ w.heap.size + 1 + 1; omega) _) hn.out)
    rw [results_cell_tmp rfl]
    go_simp
  | true =>
    go_wp2_with fail
    refine (implGoodF U _ _ (HU.out.below hB2)).mono ?_
    rintro e w3 ⟨rfl, hb3⟩
    have hB3 : Below w.heap.size w w3 := hB2.trans (hb3.mono (by omega))
    have hl3 : w.heap.size + 1 + 1 < w3.heap.size := by have := hb3.size; omega
    have q3 := (hb3.cell (p := ⟨w.heap.size, 0, none⟩) (by show w.heap.size < _; omega)).trans q2
    have p3 := (hb3.cell (p := ⟨w.heap.size + 1, 0, none⟩) (by show w.heap.size + 1 < _; omega)).trans p2
    have r3 := (hb3.cell (p := ⟨w.heap.size + 1 + 1, 0, none⟩) hl2).trans r2
    have f3 := (hb3.frozen (p := ⟨w.heap.size + 1 + 1, 0, none⟩) hl2).trans f2
    clear hb3 q2 r2 f2 p2
    cases hgu : gf U with
    | false =>
      have hn : Hid (R = ([], false)) := HR.out.trans (by unfold bothF; rw [hg, hgu]; rfl)
      clear HR hg hgu
      go_wp2
      (try simp only [Exit.inBlock, Exit.then])
      refine bodyPost_ret (v := .tuple #[.agg #[.slice none 0 0], .bool false]) ?_ rfl (zero.out _ (hB3.setCell (by show w.heap.size ≤ w.heap.size + 1 + 1; omega) _) hn.out)
      rw [results_cell_tmp rfl]
      go_simp
    | true =>
      obtain ⟨h0, h20⟩ := gf_len hg
      obtain ⟨h0u, h20u⟩ := gf_len hgu
      by_cases h19 : T.length + U.length < 20
      · have h19' : ¬ (20 : Int) < (T.length : Int) + (U.length : Int) + 1 := by omega
        have hn : Hid (R = (T ++ U.map (sh T.length) ++ [⟨6, 0, 0, ⟨#[]⟩, (T.length : Int) - 1, (T.length : Int) + U.length - 1⟩], true)) := HR.out.trans (by unfold bothF; rw [hg, hgu]; simp [h19])
        have HOK : Hid (∀ i, i < T.length → okW (wa T i) i = true) := gf_ok hg
        have HOKu : Hid (∀ i, i < U.length → okW (wa U i) i = true) := gf_ok hgu
        clear HR hg hgu
        go_wp2_with fail
        refine (appendWants_any [] T _ _ w3.heap.size w3 (World.ownsRow_nil _ _ _ _) (HT.out.below hB3) (Nat.le_refl _) (by simp) (by omega) HOK.out).mono ?_
        rintro e w4 ⟨rv, rfl, hrow, hb4⟩
        have hrow : WRow w4 w3.heap.size rv T := by simpa [sh_zeros] using hrow
        have HW4 : Hid (WRow w4 w3.heap.size rv T) := hrow
        have hs4 : w3.heap.size ≤ w4.heap.size := hb4.size
        have hB4 : Below w.heap.size w w4 := hB3.trans (hb4.mono (by omega))
        have p4 := (hb4.cell (p := ⟨w.heap.size + 1, 0, none⟩) (by show w.heap.size + 1 < _; omega)).trans p3
        have r4 := (hb4.cell (p := ⟨w.heap.size + 1 + 1, 0, none⟩) hl3).trans r3
        have f4 := (hb4.frozen (p := ⟨w.heap.size + 1 + 1, 0, none⟩) hl3).trans f3
        have HU4 : Hid (WasAt w4 w3.heap.size (.slice au U.length capu) U) := by
          have h3 := HU.out.below hB3
          obtain ⟨a1, c1, hv1, k1, k2, k3, k4⟩ := h3
          exact ⟨a1, c1, hv1, k1, k2, fun i hi => by obtain ⟨g, o, e1, e2, e3⟩ := k3 i hi; exact ⟨g, o, e1, e2, e3.below hb4 e2⟩, k4⟩
        obtain ⟨ar, capr, rfl⟩ := hrow.slice
        clear hb4 hrow r3 f3 q3 p3
        go_wp2_with fail
        refine (appendWants_any T U _ _ w3.heap.size w4 HW4.out HU4.out hs4 (by omega) (by omega) HOKu.out).mono ?_
        rintro e w5 ⟨rv, rfl, hrow, hb5⟩
        obtain ⟨D, hD⟩ : ∃ D, D = T ++ U.map (sh T.length) := ⟨_, rfl⟩
        have HD : Hid (T ++ U.map (sh T.length) = D) := hD.symm
        have hDl : Hid (D.length = T.length + U.length) := by show _ = _; rw [hD]; simp
        rw [← hD] at hrow hn
        have HW5 : Hid (WRow w5 w3.heap.size rv D) := hrow
        have hs5 : w4.heap.size ≤ w5.heap.size := hb5.size
        have hB5 : Below w.heap.size w w5 := hB4.trans (hb5.mono (by omega))
        have r5 := (hb5.cell (p := ⟨w.heap.size + 1 + 1, 0, none⟩) hl3).trans r4
        have f5 := (hb5.frozen (p := ⟨w.heap.size + 1 + 1, 0, none⟩) hl3).trans f4
        have hlt0 : Hid (∀ g, rv.ownBlock = some g → w3.heap.size ≤ g ∧ g < w5.heap.size) := fun g hg => hrow.lt g hg
        obtain ⟨ar5, capr5, hrv5⟩ := hrow.slice
        rw [hDl.out] at hrv5
        subst hrv5
        have hcast : Hid (((T.length + U.length : Nat) : Int) = (T.length : Int) + (U.length : Int)) := by show _ = _; omega
        obtain ⟨M, hM⟩ : ∃ M, M = T.length + U.length := ⟨_, rfl⟩
        have hMM : Hid (D.length = M) := by show _ = _; rw [hM]; exact hDl.out
        rw [← hM] at HW5 hlt0 ⊢
        have hn2 : Hid (R = (D ++ [⟨6, 0, 0, ⟨#[]⟩, (T.length : Int) - 1, (M : Int) - 1⟩], true)) := by show _ = _; rw [hn.out, hM, hcast.out]
        have hM40 : M ≤ 40 := by omega
        have hM0 : 0 < M := by omega
        clear hb5 hrow r4 f4 p4 hn hM hD hDl hcast HU4 HW4
        have hO5 : w5.ownsRow w3.heap.size 72 6 (.slice ar5 M capr5) M (D.flatMap Wa.cells) := by have := HW5.out; unfold WRow at this; rw [hMM.out] at this; exact this
        go_wp2_with (at_builtin; refine wpList_append_lies _ rfl _ _ 23 rfl w3.heap.size 72 i0 (.agg #[.int .i64 0, .int .i64 0, .int .i64 0, .string ⟨#[]⟩, .int .i64 0, .int .i64 0]) 6 56 Tryd.underlying23 hi hz0 hz1 hz2 rfl (by decide) _ M _ rfl (hO5.alloc _) ⟨w5.heap.size, 0, none⟩ 1 1 [.int .i64 6, .int .i64 0, .int .i64 0, .string ⟨#[]⟩, .int .i64 ((T.length : Int) - 1), .int .i64 ((M : Int) - 1)] rfl rfl (World.news_of_block (heap_alloc_new w5 _)) (one6W _ _ _ _ _ _) (by omega) (by unfold maxLen; omega) (by omega) (by simp; omega) (w5.heap.size + 1) (by simp) ?_)
        intro g9 cap9 w9 hown9 hgrow9 hat9 hlt9
        have hne9 : some (w.heap.size + 1 + 1) ≠ (Value.slice ar5 M capr5).ownBlock := fun e => by have := (hlt0.out _ e.symm).1; omega
        have hB9 : Below w.heap.size w w9 := (hB5.alloc (by omega) _).grown hgrow9 (by simp; omega) (fun k hk => by have := (hlt0.out k hk).1; omega)
        have r9 : w9.cell? ⟨w.heap.size + 1 + 1, 0, none⟩ = some (.slice none 0 0) := (hgrow9.cell_far ⟨w.heap.size + 1 + 1, 0, none⟩ (by simp; omega) hne9).trans ((Below.cell ((Below.refl _ w5).alloc (Nat.le_refl _) _) (p := ⟨w.heap.size + 1 + 1, 0, none⟩) (by show w.heap.size + 1 + 1 < _; omega)).trans r5)
        have f9 : w9.frozen? ⟨w.heap.size + 1 + 1, 0, none⟩ = false := (hgrow9.frozen_far ⟨w.heap.size + 1 + 1, 0, none⟩ (by simp; omega) hne9).trans ((Below.frozen ((Below.refl _ w5).alloc (Nat.le_refl _) _) (p := ⟨w.heap.size + 1 + 1, 0, none⟩) (by show w.heap.size + 1 + 1 < _; omega)).trans f5)
        have hZ9 : Hid (WRow w9 w3.heap.size (.slice (some ⟨g9, 0, none⟩) (M + 1) cap9) (D ++ [⟨6, 0, 0, ⟨#[]⟩, (T.length : Int) - 1, (M : Int) - 1⟩])) := by
          show WRow _ _ _ _
          unfold WRow
          rw [List.length_append, List.length_singleton, List.flatMap_append, hMM.out]
          simpa [Wa.cells] using hown9
        clear hown9 hgrow9 hat9 hlt9 HW5 hO5 r5 f5 hlt0 hne9
        go_wp2
        (try simp only [Exit.inBlock, Exit.then])
        refine bodyPost_ret (v := .tuple #[.agg #[.slice (some ⟨g9, 0, none⟩) (M + 1) cap9], .bool true]) ?_ rfl ⟨.slice (some ⟨g9, 0, none⟩) (M + 1) cap9, by rw [hn2.out], ?_, ?_⟩
        · rw [results_cell_tmp rfl]
          go_simp
        · rw [hn2.out]
          exact WRow.lower (ownsRow_setCell_below hZ9.out (a := ⟨w.heap.size + 1 + 1, 0, none⟩) (by show w.heap.size + 1 + 1 < _; omega) _) (by omega)
        · exact hB9.setCell (by show w.heap.size ≤ w.heap.size + 1 + 1; omega) _
      · have h19' : (20 : Int) < (T.length : Int) + (U.length : Int) + 1 := by omega
        have hn : Hid (R = ([], false)) := HR.out.trans (by unfold bothF; rw [hg, hgu]; simp [h19])
        clear HR hg hgu
        go_wp2
        (try simp only [Exit.inBlock, Exit.then])
        refine bodyPost_ret (v := .tuple #[.agg #[.slice none 0 0], .bool false]) ?_ rfl (zero.out _ (hB3.setCell (by show w.heap.size ≤ w.heap.size + 1 + 1; omega) _) hn.out)
        rw [results_cell_tmp rfl]
        go_simp

end Go.Proofs.YtpopjapcgcnnfabDoor

namespace Go.Proofs.YtpopjapcgcnnfabDoor
open Go.RowKit Plain Sch Wan

theorem was_cells {w : World} {g o : Nat} {T : List Wa} (h : ∀ i, i < T.length → WaIn w g (o + i * 6) (wa T i)) : ∀ j u, (T.flatMap Wa.cells)[j]? = some u → w.cell? ((⟨g, o, none⟩ : Addr).add j) = some u := by
  intro j u hj
  have hlen : j < T.length * 6 := by have := (List.getElem?_eq_some_iff.1 hj).1; rw [flat6Wa_len] at this; exact this
  have e : j = j / 6 * 6 + j % 6 := by omega
  have hi : j / 6 < T.length := by omega
  have hc := h (j / 6) hi
  have hf := flat6Wa T (j / 6) (j % 6) hi (by omega)
  rw [← e, hj] at hf
  have hadd : ((⟨g, o, none⟩ : Addr).add j) = ⟨g, o + j / 6 * 6 + j % 6, none⟩ := by
    unfold Addr.add
    by_cases h0 : j = 0
    · rw [if_pos h0]; subst h0; rfl
    · rw [if_neg h0]; show (⟨g, o + j, none⟩ : Addr) = _; congr 1; omega
  rw [hadd]
  obtain ⟨c0, c1, c2, c3, c4, c5⟩ := hc
  have hm : j % 6 < 6 := by omega
  generalize j % 6 = r at *
  match r, hm with
  | 0, _ => rw [Nat.add_zero, c0]; exact hf.symm
  | 1, _ => rw [c1]; exact hf.symm
  | 2, _ => rw [c2]; exact hf.symm
  | 3, _ => rw [c3]; exact hf.symm
  | 4, _ => rw [c4]; exact hf.symm
  | 5, _ => rw [c5]; exact hf.symm

theorem ones6W (T : List Wa) : ∀ u ∈ T.flatMap Wa.cells, u.oneCell' = true := by
  intro u hu
  rw [List.mem_flatMap] at hu
  obtain ⟨x, _, hx⟩ := hu
  simp [Wa.cells] at hx
  rcases hx with rfl | rfl | rfl | rfl | rfl | rfl <;> rfl

set_option maxRecDepth 100000 in
set_option maxHeartbeats 8000000 in
theorem specNot (T : List Wa) (v : Value) (w : World) (hT : WasAt w w.heap.size v T) :
    Calls Tryd.prog 24 #[.agg #[v]] w fun e w' => OFil w w' e (notF T) := by
  obtain ⟨i0, hi, hz0, hz1, hz2⟩ := info_parts infoWaG
  have HT : Hid (WasAt w w.heap.size v T) := hT
  obtain ⟨ao, cap, rfl, hlc, hcm, _⟩ := hT
  unfold maxLen at hcm
  obtain ⟨R, hR⟩ : ∃ R, R = notF T := ⟨_, rfl⟩
  rw [← hR]
  have HR : Hid (R = notF T) := hR
  clear hR
  unfold OFil
  obtain ⟨W1, hW1⟩ : ∃ W, W = (w.alloc (.cells #[.slice ao T.length cap] 25)).alloc (.cells #[.slice none 0 0] 25) := ⟨_, rfl⟩
  have hB1 : Below w.heap.size w W1 := by rw [hW1]; exact ((Below.refl _ w).alloc (Nat.le_refl _) _).alloc (by simp) _
  have hs1 : Hid (W1.heap.size = w.heap.size + 2) := by show _ = _; rw [hW1]; simp
  have hl1 : w.heap.size + 1 < W1.heap.size := by rw [hs1.out]; omega
  have q1 : W1.cell? ⟨w.heap.size, 0, none⟩ = some (.slice ao T.length cap) := by rw [hW1]; go_simp
  have r1 : W1.cell? ⟨w.heap.size + 1, 0, none⟩ = some (.slice none 0 0) := by rw [hW1]; go_simp
  have f1 : W1.frozen? ⟨w.heap.size + 1, 0, none⟩ = false := by rw [hW1]; go_simp
  go_enter Tryd.func24, Tryd.ntmps24
  go_wp2_with fail
  rw [← hW1]
  clear hW1
  refine (specGoodF T _ _ (HT.out.below hB1)).mono ?_
  rintro e w2 ⟨rfl, hb2⟩
  have hB2 : Below w.heap.size w w2 := hB1.trans (hb2.mono (by omega))
  have hl2 : w.heap.size + 1 < w2.heap.size := by have := hb2.size; omega
  have q2 := (hb2.cell (p := ⟨w.heap.size, 0, none⟩) (by show w.heap.size < _; omega)).trans q1
  have r2 := (hb2.cell (p := ⟨w.heap.size + 1, 0, none⟩) hl1).trans r1
  have f2 := (hb2.frozen (p := ⟨w.heap.size + 1, 0, none⟩) hl1).trans f1
  have hl2' : w.heap.size < w2.heap.size := by omega
  clear hb2 q1 r1 f1 hs1 hl1
  cases hg : gf T with
  | false =>
    have hn : Hid (R = ([], false)) := HR.out.trans (by unfold notF; rw [hg]; rfl)
    clear HR hg
    go_wp2
    (try simp only [Exit.inBlock, Exit.then])
    refine bodyPost_ret (v := .tuple #[.agg #[.slice none 0 0], .bool false]) ?_ rfl ⟨.slice none 0 0, by rw [hn.out], by rw [hn.out]; exact World.ownsRow_nil _ _ _ _, ?_⟩
    · rw [results_cell_tmp rfl]
      go_simp
    · exact hB2.setCell (by simp) _
  | true =>
    obtain ⟨h0, h20⟩ := gf_len hg
    by_cases h19 : T.length < 20
    · have h19' : ((T.length : Int) == 20) = false := by simp; omega
      have hn : Hid (R = (T ++ [⟨8, 0, 0, ⟨#[]⟩, (T.length : Int) - 1, 0⟩], true)) := HR.out.trans (by unfold notF; rw [hg]; simp [h19])
      clear HR hg
      obtain ⟨g, o, cap', hv', _, _, hgB, hcells, _⟩ := (HT.out.below hB2).open (by omega)
      simp only [Value.slice.injEq, true_and] at hv'
      obtain ⟨rfl, rfl⟩ := hv'
      have HCE : Hid (∀ j u, (T.flatMap Wa.cells)[j]? = some u → w2.cell? ((⟨g, o, none⟩ : Addr).add j) = some u) := was_cells hcells
      clear hcells
      obtain ⟨W3, hW3⟩ : ∃ W, W = w2.alloc (.cells #[] 72) := ⟨_, rfl⟩
      have hA3 : Below w2.heap.size w2 W3 := by rw [hW3]; exact (Below.refl _ w2).alloc (Nat.le_refl _) _
      have hs3 : Hid (W3.heap.size = w2.heap.size + 1) := by show _ = _; rw [hW3]; simp
      have hO3 : Hid (W3.ownsRow w2.heap.size 72 6 (.slice (some ⟨w2.heap.size, 0, none⟩) 0 0) 0 []) := by show World.ownsRow _ _ _ _ _ _ _; rw [hW3]; exact World.ownsRow_made w2 #[] 0 (Nat.le_refl _) (by unfold maxLen; omega) rfl
      have HC3 : Hid (∀ j u, (T.flatMap Wa.cells)[j]? = some u → W3.cell? ((⟨g, o, none⟩ : Addr).add j) = some u) := fun j u h => by
        have hb : ((⟨g, o, none⟩ : Addr).add j).block < w2.heap.size := by unfold Addr.add; split <;> exact hgB
        exact (hA3.cell hb).trans (HCE.out j u h)
      have hl3 : w2.heap.size < W3.heap.size := by rw [hs3.out]; omega
      have r3 := (hA3.cell (p := ⟨w.heap.size + 1, 0, none⟩) hl2).trans r2
      have f3 := (hA3.frozen (p := ⟨w.heap.size + 1, 0, none⟩) hl2).trans f2
      have q3 := (hA3.cell (p := ⟨w.heap.size, 0, none⟩) (by show w.heap.size < _; omega)).trans q2
      have hB3 : Below w.heap.size w W3 := hB2.trans (hA3.mono (by omega))
      go_wp2_with (at_builtin; (try rw [← hW3]); refine wpList_append_lies _ rfl _ _ 23 rfl w2.heap.size 72 i0 (.agg #[.int .i64 0, .int .i64 0, .int .i64 0, .string ⟨#[]⟩, .int .i64 0, .int .i64 0]) 6 56 Tryd.underlying23 hi hz0 hz1 hz2 rfl (by decide) _ 0 [] rfl hO3.out ⟨g, o, none⟩ T.length cap (T.flatMap Wa.cells) rfl (flat6Wa_len T) HC3.out (ones6W T) (by omega) (by unfold maxLen; omega) (by omega) (by omega) W3.heap.size rfl ?_)
      intro g4 cap4 w4 hown4 hgrow4 hat4 hlt4
      rw [← hW3] at hgrow4
      (try simp only [Nat.zero_add, List.nil_append] at hown4)
      (try simp only [Nat.zero_add])
      have hO4 : Hid (WRow w4 w2.heap.size (.slice (some ⟨g4, 0, none⟩) T.length cap4) T) := hown4
      have hlt0 : Hid (∀ g, (Value.slice (some ⟨g4, 0, none⟩) T.length cap4).ownBlock = some g → w2.heap.size ≤ g ∧ g < w4.heap.size) := fun g hg => hown4.lt g hg
      have hs4 : w2.heap.size < w4.heap.size := by have := hgrow4.size; omega
      have hB4 : Below w.heap.size w w4 := hB3.grown hgrow4 (by omega) (fun k hk => by simp [Value.ownBlock] at hk; omega)
      have hne4 : some (w.heap.size + 1) ≠ (Value.slice (some ⟨w2.heap.size, 0, none⟩) 0 0).ownBlock := by simp [Value.ownBlock]; omega
      have r4 : w4.cell? ⟨w.heap.size + 1, 0, none⟩ = some (.slice none 0 0) := (hgrow4.cell_far ⟨w.heap.size + 1, 0, none⟩ (by show w.heap.size + 1 < _; omega) hne4).trans r3
      have f4 : w4.frozen? ⟨w.heap.size + 1, 0, none⟩ = false := (hgrow4.frozen_far ⟨w.heap.size + 1, 0, none⟩ (by show w.heap.size + 1 < _; omega) hne4).trans f3
      clear hown4 hgrow4 hat4 hlt4 hne4 HC3 HCE hO3 r3 f3 q3 r2 f2 q2 hW3
      go_wp2_with (at_builtin; refine wpList_append_lies _ rfl _ _ 23 rfl w2.heap.size 72 i0 (.agg #[.int .i64 0, .int .i64 0, .int .i64 0, .string ⟨#[]⟩, .int .i64 0, .int .i64 0]) 6 56 Tryd.underlying23 hi hz0 hz1 hz2 rfl (by decide) _ T.length _ rfl (World.ownsRow.alloc hO4.out _) ⟨w4.heap.size, 0, none⟩ 1 1 [.int .i64 8, .int .i64 0, .int .i64 0, .string ⟨#[]⟩, .int .i64 ((T.length : Int) - 1), .int .i64 0] rfl rfl (World.news_of_block (heap_alloc_new w4 _)) (one6W _ _ _ _ _ _) (by omega) (by unfold maxLen; omega) (by omega) (by simp; omega) (w4.heap.size + 1) (by simp) ?_)
      intro g9 cap9 w9 hown9 hgrow9 hat9 hlt9
      have hne9 : some (w.heap.size + 1) ≠ (Value.slice (some ⟨g4, 0, none⟩) T.length cap4).ownBlock := fun e => by have := (hlt0.out _ e.symm).1; omega
      have hB9 : Below w.heap.size w w9 := (hB4.alloc (by omega) _).grown hgrow9 (by simp; omega) (fun k hk => by have := (hlt0.out k hk).1; omega)
      have r9 : w9.cell? ⟨w.heap.size + 1, 0, none⟩ = some (.slice none 0 0) := (hgrow9.cell_far ⟨w.heap.size + 1, 0, none⟩ (by simp; omega) hne9).trans ((Below.cell ((Below.refl _ w4).alloc (Nat.le_refl _) _) (p := ⟨w.heap.size + 1, 0, none⟩) (by show w.heap.size + 1 < _; omega)).trans r4)
      have f9 : w9.frozen? ⟨w.heap.size + 1, 0, none⟩ = false := (hgrow9.frozen_far ⟨w.heap.size + 1, 0, none⟩ (by simp; omega) hne9).trans ((Below.frozen ((Below.refl _ w4).alloc (Nat.le_refl _) _) (p := ⟨w.heap.size + 1, 0, none⟩) (by show w.heap.size + 1 < _; omega)).trans f4)
      have hZ9 : Hid (WRow w9 w2.heap.size (.slice (some ⟨g9, 0, none⟩) (T.length + 1) cap9) (T ++ [⟨8, 0, 0, ⟨#[]⟩, (T.length : Int) - 1, 0⟩])) := by
        show WRow _ _ _ _
        unfold WRow
        rw [List.length_append, List.length_singleton, List.flatMap_append]
        simpa [Wa.cells] using hown9
      clear hown9 hgrow9 hat9 hlt9 hO4 r4 f4 hlt0 hne9
      go_wp2
      (try simp only [Exit.inBlock, Exit.then])
      refine bodyPost_ret (v := .tuple #[.agg #[.slice (some ⟨g9, 0, none⟩) (T.length + 1) cap9], .bool true]) ?_ rfl ⟨.slice (some ⟨g9, 0, none⟩) (T.length + 1) cap9, by rw [hn.out], ?_, ?_⟩
      · rw [results_cell_tmp rfl]
        go_simp
      · rw [hn.out]
        exact WRow.lower (ownsRow_setCell_below hZ9.out (a := ⟨w.heap.size + 1, 0, none⟩) (by show w.heap.size + 1 < _; omega) _) (by omega)
      · exact hB9.setCell (by simp) _
    · have h19' : ((T.length : Int) == 20) = true := by simp; omega
      have hn : Hid (R = ([], false)) := HR.out.trans (by unfold notF; rw [hg]; simp [h19])
      clear HR hg
      go_wp2
      (try simp only [Exit.inBlock, Exit.then])
      refine bodyPost_ret (v := .tuple #[.agg #[.slice none 0 0], .bool false]) ?_ rfl ⟨.slice none 0 0, by rw [hn.out], by rw [hn.out]; exact World.ownsRow_nil _ _ _ _, ?_⟩
      · rw [results_cell_tmp rfl]
        go_simp
      · exact hB2.setCell (by simp) _

end Go.Proofs.YtpopjapcgcnnfabDoor

namespace Go.Proofs.YtpopjapcgcnnfabDoor
open Go.RowKit Plain Sch Wan

set_option maxRecDepth 100000 in
set_option maxHeartbeats 8000000 in
theorem specBoth (T U : List Wa) (v1 v2 : Value) (w : World) (hT : WasAt w w.heap.size v1 T) (hU : WasAt w w.heap.size v2 U) :
    Calls Tryd.prog 28 #[.agg #[v1], .agg #[v2]] w fun e w' => OFil w w' e (bothF T U) := by
  obtain ⟨i0, hi, hz0, hz1, hz2⟩ := info_parts infoWaG
  have HT : Hid (WasAt w w.heap.size v1 T) := hT
  have HU : Hid (WasAt w w.heap.size v2 U) := hU
  obtain ⟨ao, cap, rfl, hlc, hcm, _⟩ := hT
  obtain ⟨au, capu, rfl, hlcu, hcmu, _⟩ := hU
  unfold maxLen at hcm hcmu
  obtain ⟨R, hR⟩ : ∃ R, R = bothF T U := ⟨_, rfl⟩
  rw [← hR]
  have HR : Hid (R = bothF T U) := hR
  clear hR
  unfold OFil
  obtain ⟨W1, hW1⟩ : ∃ W, W = ((w.alloc (.cells #[.slice ao T.length cap] 25)).alloc (.cells #[.slice au U.length capu] 25)).alloc (.cells #[.slice none 0 0] 25) := ⟨_, rfl⟩
  have hB1 : Below w.heap.size w W1 := by rw [hW1]; exact (((Below.refl _ w).alloc (Nat.le_refl _) _).alloc (by simp) _).alloc (by simp; omega) _
  have hs1 : Hid (W1.heap.size = w.heap.size + 3) := by show _ = _; rw [hW1]; simp
  have hl1 : w.heap.size + 1 + 1 < W1.heap.size := by rw [hs1.out]; omega
  have q1 : W1.cell? ⟨w.heap.size, 0, none⟩ = some (.slice ao T.length cap) := by rw [hW1]; go_simp
  have p1 : W1.cell? ⟨w.heap.size + 1, 0, none⟩ = some (.slice au U.length capu) := by rw [hW1]; go_simp
  have r1 : W1.cell? ⟨w.heap.size + 1 + 1, 0, none⟩ = some (.slice none 0 0) := by rw [hW1]; go_simp
  have f1 : W1.frozen? ⟨w.heap.size + 1 + 1, 0, none⟩ = false := by rw [hW1]; go_simp
  have zero : Hid (∀ W : World, Below w.heap.size w W → R = ([], false) → ∃ rv, Ending.returned (.tuple #[.agg #[.slice none 0 0], .bool false]) = .returned (.tuple #[.agg #[rv], .bool R.2]) ∧ WRow W w.heap.size rv R.1 ∧ Below w.heap.size w W) := fun W hW e => ⟨.slice none 0 0, by rw [e], by rw [e]; exact World.ownsRow_nil _ _ _ _, hW⟩
  go_enter Tryd.func28, Tryd.ntmps28
  go_wp2_with fail
  rw [← hW1]
  clear hW1
  refine (specGoodF T _ _ (HT.out.below hB1)).mono ?_
  rintro e w2 ⟨rfl, hb2⟩
  have hB2 : Below w.heap.size w w2 := hB1.trans (hb2.mono (by omega))
  have hl2 : w.heap.size + 1 + 1 < w2.heap.size := by have := hb2.size; omega
  have q2 := (hb2.cell (p := ⟨w.heap.size, 0, none⟩) (by show w.heap.size < _; omega)).trans q1
  have p2 := (hb2.cell (p := ⟨w.heap.size + 1, 0, none⟩) (by show w.heap.size + 1 < _; omega)).trans p1
  have r2 := (hb2.cell (p := ⟨w.heap.size + 1 + 1, 0, none⟩) hl1).trans r1
  have f2 := (hb2.frozen (p := ⟨w.heap.size + 1 + 1, 0, none⟩) hl1).trans f1
  clear hb2 q1 r1 f1 p1 hs1 hl1
  cases hg : gf T with
  | false =>
    have hn : Hid (R = ([], false)) := HR.out.trans (by unfold bothF; rw [hg]; rfl)
    clear HR hg
    go_wp2
    (try simp only [Exit.inBlock, Exit.then])
    refine bodyPost_ret (v := .tuple #[.agg #[.slice none 0 0], .bool false]) ?_ rfl (zero.out _ (hB2.setCell (by show w.heap.size ≤ w.heap.size + 1 + 1; omega) _) hn.out)
    rw [results_cell_tmp rfl]
    go_simp
  | true =>
    go_wp2_with fail
    refine (specGoodF U _ _ (HU.out.below hB2)).mono ?_
    rintro e w3 ⟨rfl, hb3⟩
    have hB3 : Below w.heap.size w w3 := hB2.trans (hb3.mono (by omega))
    have hl3 : w.heap.size + 1 + 1 < w3.heap.size := by have := hb3.size; omega
    have q3 := (hb3.cell (p := ⟨w.heap.size, 0, none⟩) (by show w.heap.size < _; omega)).trans q2
    have p3 := (hb3.cell (p := ⟨w.heap.size + 1, 0, none⟩) (by show w.heap.size + 1 < _; omega)).trans p2
    have r3 := (hb3.cell (p := ⟨w.heap.size + 1 + 1, 0, none⟩) hl2).trans r2
    have f3 := (hb3.frozen (p := ⟨w.heap.size + 1 + 1, 0, none⟩) hl2).trans f2
    clear hb3 q2 r2 f2 p2
    cases hgu : gf U with
    | false =>
      have hn : Hid (R = ([], false)) := HR.out.trans (by unfold bothF; rw [hg, hgu]; rfl)
      clear HR hg hgu
      go_wp2
      (try simp only [Exit.inBlock, Exit.then])
      refine bodyPost_ret (v := .tuple #[.agg #[.slice none 0 0], .bool false]) ?_ rfl (zero.out _ (hB3.setCell (by show w.heap.size ≤ w.heap.size + 1 + 1; omega) _) hn.out)
      rw [results_cell_tmp rfl]
      go_simp
    | true =>
      obtain ⟨h0, h20⟩ := gf_len hg
      obtain ⟨h0u, h20u⟩ := gf_len hgu
      by_cases h19 : T.length + U.length < 20
      · have h19' : ¬ (20 : Int) ≤ (T.length : Int) + (U.length : Int) := by omega
        have hn : Hid (R = (T ++ U.map (sh T.length) ++ [⟨6, 0, 0, ⟨#[]⟩, (T.length : Int) - 1, (T.length : Int) + U.length - 1⟩], true)) := HR.out.trans (by unfold bothF; rw [hg, hgu]; simp [h19])
        have HOK : Hid (∀ i, i < T.length → okW (wa T i) i = true) := gf_ok hg
        have HOKu : Hid (∀ i, i < U.length → okW (wa U i) i = true) := gf_ok hgu
        clear HR hg hgu
        obtain ⟨g, o, cap', hv', _, _, hgB, hcells, _⟩ := (HT.out.below hB3).open (by omega)
        simp only [Value.slice.injEq, true_and] at hv'
        obtain ⟨rfl, rfl⟩ := hv'
        have HCE : Hid (∀ j u, (T.flatMap Wa.cells)[j]? = some u → w3.cell? ((⟨g, o, none⟩ : Addr).add j) = some u) := was_cells hcells
        clear hcells
        have hl3' : w.heap.size < w3.heap.size := by omega
        have hl3'' : w.heap.size + 1 < w3.heap.size := by omega
        obtain ⟨W4, hW4⟩ : ∃ W, W = w3.alloc (.cells #[] 72) := ⟨_, rfl⟩
        have hA4 : Below w3.heap.size w3 W4 := by rw [hW4]; exact (Below.refl _ w3).alloc (Nat.le_refl _) _
        have hs4 : Hid (W4.heap.size = w3.heap.size + 1) := by show _ = _; rw [hW4]; simp
        have hO4 : Hid (W4.ownsRow w3.heap.size 72 6 (.slice (some ⟨w3.heap.size, 0, none⟩) 0 0) 0 []) := by show World.ownsRow _ _ _ _ _ _ _; rw [hW4]; exact World.ownsRow_made w3 #[] 0 (Nat.le_refl _) (by unfold maxLen; omega) rfl
        have HC4 : Hid (∀ j u, (T.flatMap Wa.cells)[j]? = some u → W4.cell? ((⟨g, o, none⟩ : Addr).add j) = some u) := fun j u h => by
          have hb : ((⟨g, o, none⟩ : Addr).add j).block < w3.heap.size := by unfold Addr.add; split <;> exact hgB
          exact (hA4.cell hb).trans (HCE.out j u h)
        have hl4 : w3.heap.size < W4.heap.size := by rw [hs4.out]; omega
        have p4 := (hA4.cell (p := ⟨w.heap.size + 1, 0, none⟩) hl3'').trans p3
        have r4 := (hA4.cell (p := ⟨w.heap.size + 1 + 1, 0, none⟩) hl3).trans r3
        have f4 := (hA4.frozen (p := ⟨w.heap.size + 1 + 1, 0, none⟩) hl3).trans f3
        have hB4 : Below w.heap.size w W4 := hB3.trans (hA4.mono (by omega))
        go_wp2_with (at_builtin; (try rw [← hW4]); refine wpList_append_lies _ rfl _ _ 23 rfl w3.heap.size 72 i0 (.agg #[.int .i64 0, .int .i64 0, .int .i64 0, .string ⟨#[]⟩, .int .i64 0, .int .i64 0]) 6 56 Tryd.underlying23 hi hz0 hz1 hz2 rfl (by decide) _ 0 [] rfl hO4.out ⟨g, o, none⟩ T.length cap (T.flatMap Wa.cells) rfl (flat6Wa_len T) HC4.out (ones6W T) (by omega) (by unfold maxLen; omega) (by omega) (by omega) W4.heap.size rfl ?_)
        intro g5 cap5 w5 hown5 hgrow5 hat5 hlt5
        rw [← hW4] at hgrow5
        (try simp only [Nat.zero_add, List.nil_append] at hown5)
        (try simp only [Nat.zero_add])
        have hO5 : Hid (WRow w5 w3.heap.size (.slice (some ⟨g5, 0, none⟩) T.length cap5) T) := hown5
        have hs5 : w3.heap.size < w5.heap.size := by have := hgrow5.size; omega
        have hB35 : Hid (Below w3.heap.size w3 w5) := hA4.grown hgrow5 (by omega) (fun k hk => by simp [Value.ownBlock] at hk; omega)
        clear hown5 hgrow5 hat5 hlt5 HC4 HCE hO4 p4 r4 f4 hW4 hA4 hB4 hs4 hl4
        have p5 := (hB35.out.cell (p := ⟨w.heap.size + 1, 0, none⟩) hl3'').trans p3
        obtain ⟨_, _, hvu, _, _, hrowu, _⟩ := HU.out
        simp only [Value.slice.injEq, true_and] at hvu
        obtain ⟨rfl, rfl⟩ := hvu
        have HROW : Hid (∀ i, i < U.length → ∃ g o, au = some ⟨g, o, none⟩ ∧ g < w.heap.size ∧ WaIn w g (o + i * 6) (wa U i)) := hrowu
        clear hrowu
        go_wp2
        go_loopw [7, 37] (fun vl vi wr => ∃ i : Nat, i ≤ U.length ∧ vi = .int .i64 (i : Int) ∧ Hid (WRow wr w3.heap.size vl (T ++ (U.take i).map (sh T.length))) ∧ Hid (Below w3.heap.size w3 wr))
          (fun _ vi _ => U.length - (intOf vi).toNat)
        case atStart => exact ⟨0, by omega, rfl, by show WRow _ _ _ _; simpa using hO5.out, hB35⟩
        case round =>
          clear p5
          obtain ⟨i, hi', rfl, hZ, hBw2⟩ := hrel
          have hsz : w3.heap.size ≤ wr.heap.size := hBw2.out.size
          have hB0 : Below w.heap.size w wr := hB3.trans (hBw2.out.mono (by omega))
          by_cases hlt : i < U.length
          · have hlt' : (i : Int) < (U.length : Int) := by omega
            obtain ⟨g1, o1, rfl, hg1, hty⟩ := HROW.out i hlt
            have hci := hty.below hB0 hg1
            have hgw : g1 < wr.heap.size := by omega
            have hKC := Wan.kind_cases (HOKu.out i hlt)
            have hOB : Hid (isBin (wa U i).kind = true → 0 ≤ (wa U i).a ∧ (wa U i).a < (wa U i).b ∧ (wa U i).b < i) := okW_binG (HOKu.out i hlt)
            have hON : Hid (isNot (wa U i).kind = true → 0 ≤ (wa U i).a ∧ (wa U i).a < i) := okW_notG (HOKu.out i hlt)
            have hST : Hid (T ++ (U.take (i + 1)).map (sh T.length) = (T ++ (U.take i).map (sh T.length)) ++ [sh T.length (wa U i)]) := by
              show _ = _
              rw [take_snoc U i hlt, List.map_append, List.append_assoc]; rfl
            have hDL : Hid ((T ++ (U.take i).map (sh T.length)).length = T.length + i) := by
              show _ = _
              rw [List.length_append, List.length_map, List.length_take, Nat.min_eq_left hi']
            generalize T ++ (U.take i).map (sh T.length) = D at hST hDL hZ
            generalize wa U i = x at hci hKC hOB hON hST
            obtain ⟨k, no, m, t, a, b⟩ := x
            dsimp only at hci hKC hOB hON
            obtain ⟨c0, c1, c2, c3, c4, c5⟩ := hci
            dsimp only at c0 c1 c2 c3 c4 c5
            clear hty
            obtain ⟨W7, hW7⟩ : ∃ W, W = wr.alloc (.cells #[.int .i64 k, .int .i64 no, .int .i64 m, .string t, .int .i64 a, .int .i64 b] 72) := ⟨_, rfl⟩
            have hA7 : Below wr.heap.size wr W7 := by rw [hW7]; exact (Below.refl _ wr).alloc (Nat.le_refl _) _
            have x0 : W7.cell? ⟨wr.heap.size, 0, none⟩ = some (.int .i64 k) := by rw [hW7]; go_simp
            have x1 : W7.cell? ⟨wr.heap.size, 1, none⟩ = some (.int .i64 no) := by rw [hW7]; go_simp
            have x2 : W7.cell? ⟨wr.heap.size, 2, none⟩ = some (.int .i64 m) := by rw [hW7]; go_simp
            have x3 : W7.cell? ⟨wr.heap.size, 3, none⟩ = some (.string t) := by rw [hW7]; go_simp
            have x4 : W7.cell? ⟨wr.heap.size, 4, none⟩ = some (.int .i64 a) := by rw [hW7]; go_simp
            have x5 : W7.cell? ⟨wr.heap.size, 5, none⟩ = some (.int .i64 b) := by rw [hW7]; go_simp
            have u4 : W7.frozen? ⟨wr.heap.size, 4, none⟩ = false := by rw [hW7]; go_simp
            have u5 : W7.frozen? ⟨wr.heap.size, 5, none⟩ = false := by rw [hW7]; go_simp
            have hdl : D.length ≤ 40 := by rw [hDL.out]; omega
            have HZ8 : Hid (∀ W8 : World, Below wr.heap.size wr W8 → W8.ownsRow w3.heap.size 72 6 u7 D.length (D.flatMap Wa.cells)) := fun W8 h => hZ.out.below h
            have hlt0 : Hid (∀ g, u7.ownBlock = some g → w3.heap.size ≤ g ∧ g < wr.heap.size) := fun g hg => hZ.out.lt g hg
            clear hZ
            go_upto_region 8 with fail
            rw [← hW7]
            clear hW7 c0 c1 c2 c3 c4 c5
            rcases hKC with h | h | h
            · have hb := ask_bounds h
              have h678 : decide (6 ≤ k ∧ k ≤ 7) = false := by simp only [decide_eq_false_iff_not]; omega
              have hk6 : ¬ (6 : Int) ≤ k := by omega
              have e1 : isBin k = false := by cases q : isBin k; rfl; have := bin_bounds q; omega
              have hsh : Hid (sh T.length ⟨k, no, m, t, a, b⟩ = ⟨k, no, m, t, a, b⟩) := by show _ = _; unfold sh; dsimp only; rw [e1]; rw [if_neg (by decide), if_neg (by intro q; have := not_bounds q; omega)]
              clear hOB hON e1 h hb
              go_wp2_with fail
              refine (l1In_any k 6 7 _).mono ?_
              rintro e w8 ⟨rfl, rfl⟩
              rw [h678]
              have hown8 := HZ8.out w8 hA7
              go_wp2_with (at_builtin; refine wpList_append_lies _ rfl _ _ 23 rfl w3.heap.size 72 i0 (.agg #[.int .i64 0, .int .i64 0, .int .i64 0, .string ⟨#[]⟩, .int .i64 0, .int .i64 0]) 6 56 Tryd.underlying23 hi hz0 hz1 hz2 rfl (by decide) _ D.length _ rfl (hown8.alloc _) ⟨w8.heap.size, 0, none⟩ 1 1 [.int .i64 k, .int .i64 no, .int .i64 m, .string t, .int .i64 a, .int .i64 b] rfl rfl (World.news_of_block (heap_alloc_new w8 _)) (one6W _ _ _ _ _ _) (by omega) (by unfold maxLen; omega) (by omega) (by have := hA7.size; simp; omega) (w8.heap.size + 1) (by simp) ?_)
              intro g9 cap9 w9 hown9 hgrow9 hat9 hlt9
              have hB9 : Hid (Below w3.heap.size w3 w9) := ((hBw2.out.trans (hA7.mono hsz)).alloc (by have := hA7.size; omega) _).grown hgrow9 (by have := hA7.size; simp; omega) (fun k hk => (hlt0.out k hk).1)
              have hZ9 : Hid (WRow w9 w3.heap.size (.slice (some ⟨g9, 0, none⟩) (D.length + 1) cap9) (T ++ (U.take (i + 1)).map (sh T.length))) := by
                show WRow _ _ _ _
                rw [hST.out]
                unfold WRow
                rw [List.length_append, List.length_singleton, List.flatMap_append]
                rw [hsh.out]
                simpa [Wa.cells] using hown9
              clear hown9 hgrow9 hat9 hlt9 hown8
              go_wp2
              go_roundw
              case rel => first | exact ⟨i + 1, by omega, by go_num, hZ9, hB9⟩ | ((repeat apply Exists.intro); exact ⟨⟨i + 1, by omega, by go_num, hZ9, hB9⟩, rfl⟩)
              case measure => simp [intOf]; omega
            · have hb := bin_bounds h
              have h678 : decide (6 ≤ k ∧ k ≤ 7) = true := by simp; omega
              have hk6 : (6 : Int) ≤ k := by omega
              obtain ⟨ha0, hab, hbi⟩ := hOB.out h
              have hsh : Hid (sh T.length ⟨k, no, m, t, a, b⟩ = ⟨k, no, m, t, a + T.length, b + T.length⟩) := by show _ = _; unfold sh; dsimp only; rw [if_pos h]
              clear hOB hON h hb
              obtain ⟨W8, hW8⟩ : ∃ W, W = W7.setCell ⟨wr.heap.size, 4, none⟩ (.int .i64 (a + T.length)) := ⟨_, rfl⟩
              have hA8 : Below wr.heap.size wr W8 := by rw [hW8]; exact hA7.setCell (Nat.le_refl _) _
              have p0 : W8.cell? ⟨wr.heap.size, 0, none⟩ = some (.int .i64 k) := by rw [hW8, World.cell?_setCell_other _ _ _ _ (by simp)]; exact x0
              have p1 : W8.cell? ⟨wr.heap.size, 1, none⟩ = some (.int .i64 no) := by rw [hW8, World.cell?_setCell_other _ _ _ _ (by simp)]; exact x1
              have p2 : W8.cell? ⟨wr.heap.size, 2, none⟩ = some (.int .i64 m) := by rw [hW8, World.cell?_setCell_other _ _ _ _ (by simp)]; exact x2
              have p3 : W8.cell? ⟨wr.heap.size, 3, none⟩ = some (.string t) := by rw [hW8, World.cell?_setCell_other _ _ _ _ (by simp)]; exact x3
              have p4 : W8.cell? ⟨wr.heap.size, 4, none⟩ = some (.int .i64 (a + T.length)) := by rw [hW8]; exact World.cell?_setCell_same _ _ _ x4
              have p5 : W8.cell? ⟨wr.heap.size, 5, none⟩ = some (.int .i64 b) := by rw [hW8, World.cell?_setCell_other _ _ _ _ (by simp)]; exact x5
              have v5 : W8.frozen? ⟨wr.heap.size, 5, none⟩ = false := by rw [hW8, World.frozen?_setCell]; exact u5
              go_wp2_with fail
              rw [← hW8]
              clear hW8 x0 x1 x2 x3 x4 x5 u4 u5 hA7
              refine (l1In_any k 6 7 _).mono ?_
              rintro e w8 ⟨rfl, rfl⟩
              rw [h678]
              obtain ⟨W9, hW9⟩ : ∃ W, W = w8.setCell ⟨wr.heap.size, 5, none⟩ (.int .i64 (b + T.length)) := ⟨_, rfl⟩
              have hA9 : Below wr.heap.size wr W9 := by rw [hW9]; exact hA8.setCell (Nat.le_refl _) _
              have s0 : W9.cell? ⟨wr.heap.size, 0, none⟩ = some (.int .i64 k) := by rw [hW9, World.cell?_setCell_other _ _ _ _ (by simp)]; exact p0
              have s1 : W9.cell? ⟨wr.heap.size, 1, none⟩ = some (.int .i64 no) := by rw [hW9, World.cell?_setCell_other _ _ _ _ (by simp)]; exact p1
              have s2 : W9.cell? ⟨wr.heap.size, 2, none⟩ = some (.int .i64 m) := by rw [hW9, World.cell?_setCell_other _ _ _ _ (by simp)]; exact p2
              have s3 : W9.cell? ⟨wr.heap.size, 3, none⟩ = some (.string t) := by rw [hW9, World.cell?_setCell_other _ _ _ _ (by simp)]; exact p3
              have s4 : W9.cell? ⟨wr.heap.size, 4, none⟩ = some (.int .i64 (a + T.length)) := by rw [hW9, World.cell?_setCell_other _ _ _ _ (by simp)]; exact p4
              have s5 : W9.cell? ⟨wr.heap.size, 5, none⟩ = some (.int .i64 (b + T.length)) := by rw [hW9]; exact World.cell?_setCell_same _ _ _ p5
              go_upto_region 12 with fail
              rw [← hW9]
              clear hW9 p0 p1 p2 p3 p4 p5 v5 hA8
              have hown8 := HZ8.out W9 hA9
              go_wp2_with (at_builtin; refine wpList_append_lies _ rfl _ _ 23 rfl w3.heap.size 72 i0 (.agg #[.int .i64 0, .int .i64 0, .int .i64 0, .string ⟨#[]⟩, .int .i64 0, .int .i64 0]) 6 56 Tryd.underlying23 hi hz0 hz1 hz2 rfl (by decide) _ D.length _ rfl (hown8.alloc _) ⟨W9.heap.size, 0, none⟩ 1 1 [.int .i64 k, .int .i64 no, .int .i64 m, .string t, .int .i64 (a + T.length), .int .i64 (b + T.length)] rfl rfl (World.news_of_block (heap_alloc_new W9 _)) (one6W _ _ _ _ _ _) (by omega) (by unfold maxLen; omega) (by omega) (by have := hA9.size; simp; omega) (W9.heap.size + 1) (by simp) ?_)
              intro g9 cap9 w9 hown9 hgrow9 hat9 hlt9
              have hB9 : Hid (Below w3.heap.size w3 w9) := ((hBw2.out.trans (hA9.mono hsz)).alloc (by have := hA9.size; omega) _).grown hgrow9 (by have := hA9.size; simp; omega) (fun k hk => (hlt0.out k hk).1)
              have hZ9 : Hid (WRow w9 w3.heap.size (.slice (some ⟨g9, 0, none⟩) (D.length + 1) cap9) (T ++ (U.take (i + 1)).map (sh T.length))) := by
                show WRow _ _ _ _
                rw [hST.out]
                unfold WRow
                rw [List.length_append, List.length_singleton, List.flatMap_append]
                rw [hsh.out]
                simpa [Wa.cells] using hown9
              clear hown9 hgrow9 hat9 hlt9 hown8
              go_wp2
              go_roundw
              case rel => first | exact ⟨i + 1, by omega, by go_num, hZ9, hB9⟩ | ((repeat apply Exists.intro); exact ⟨⟨i + 1, by omega, by go_num, hZ9, hB9⟩, rfl⟩)
              case measure => simp [intOf]; omega
            · have hb := not_bounds h
              have h678 : decide (6 ≤ k ∧ k ≤ 7) = false := by simp only [decide_eq_false_iff_not]; omega
              have hk6 : (6 : Int) ≤ k := by omega
              have e1 : isBin k = false := by cases q : isBin k; rfl; have := bin_bounds q; omega
              obtain ⟨ha0, hai⟩ := hON.out h
              have hsh : Hid (sh T.length ⟨k, no, m, t, a, b⟩ = ⟨k, no, m, t, a + T.length, b⟩) := by show _ = _; unfold sh; dsimp only; rw [e1]; rw [if_neg (by decide), if_pos h]
              clear hOB hON h hb e1
              obtain ⟨W8, hW8⟩ : ∃ W, W = W7.setCell ⟨wr.heap.size, 4, none⟩ (.int .i64 (a + T.length)) := ⟨_, rfl⟩
              have hA8 : Below wr.heap.size wr W8 := by rw [hW8]; exact hA7.setCell (Nat.le_refl _) _
              have p0 : W8.cell? ⟨wr.heap.size, 0, none⟩ = some (.int .i64 k) := by rw [hW8, World.cell?_setCell_other _ _ _ _ (by simp)]; exact x0
              have p1 : W8.cell? ⟨wr.heap.size, 1, none⟩ = some (.int .i64 no) := by rw [hW8, World.cell?_setCell_other _ _ _ _ (by simp)]; exact x1
              have p2 : W8.cell? ⟨wr.heap.size, 2, none⟩ = some (.int .i64 m) := by rw [hW8, World.cell?_setCell_other _ _ _ _ (by simp)]; exact x2
              have p3 : W8.cell? ⟨wr.heap.size, 3, none⟩ = some (.string t) := by rw [hW8, World.cell?_setCell_other _ _ _ _ (by simp)]; exact x3
              have p4 : W8.cell? ⟨wr.heap.size, 4, none⟩ = some (.int .i64 (a + T.length)) := by rw [hW8]; exact World.cell?_setCell_same _ _ _ x4
              have p5 : W8.cell? ⟨wr.heap.size, 5, none⟩ = some (.int .i64 b) := by rw [hW8, World.cell?_setCell_other _ _ _ _ (by simp)]; exact x5
              have v5 : W8.frozen? ⟨wr.heap.size, 5, none⟩ = false := by rw [hW8, World.frozen?_setCell]; exact u5
              go_wp2_with fail
              rw [← hW8]
              clear hW8 x0 x1 x2 x3 x4 x5 u4 u5 hA7
              refine (l1In_any k 6 7 _).mono ?_
              rintro e w8 ⟨rfl, rfl⟩
              rw [h678]
              have hown8 := HZ8.out w8 hA8
              go_wp2_with (at_builtin; refine wpList_append_lies _ rfl _ _ 23 rfl w3.heap.size 72 i0 (.agg #[.int .i64 0, .int .i64 0, .int .i64 0, .string ⟨#[]⟩, .int .i64 0, .int .i64 0]) 6 56 Tryd.underlying23 hi hz0 hz1 hz2 rfl (by decide) _ D.length _ rfl (hown8.alloc _) ⟨w8.heap.size, 0, none⟩ 1 1 [.int .i64 k, .int .i64 no, .int .i64 m, .string t, .int .i64 (a + T.length), .int .i64 b] rfl rfl (World.news_of_block (heap_alloc_new w8 _)) (one6W _ _ _ _ _ _) (by omega) (by unfold maxLen; omega) (by omega) (by have := hA8.size; simp; omega) (w8.heap.size + 1) (by simp) ?_)
              intro g9 cap9 w9 hown9 hgrow9 hat9 hlt9
              have hB9 : Hid (Below w3.heap.size w3 w9) := ((hBw2.out.trans (hA8.mono hsz)).alloc (by have := hA8.size; omega) _).grown hgrow9 (by have := hA8.size; simp; omega) (fun k hk => (hlt0.out k hk).1)
              have hZ9 : Hid (WRow w9 w3.heap.size (.slice (some ⟨g9, 0, none⟩) (D.length + 1) cap9) (T ++ (U.take (i + 1)).map (sh T.length))) := by
                show WRow _ _ _ _
                rw [hST.out]
                unfold WRow
                rw [List.length_append, List.length_singleton, List.flatMap_append]
                rw [hsh.out]
                simpa [Wa.cells] using hown9
              clear hown9 hgrow9 hat9 hlt9 hown8
              go_wp2
              go_roundw
              case rel => first | exact ⟨i + 1, by omega, by go_num, hZ9, hB9⟩ | ((repeat apply Exists.intro); exact ⟨⟨i + 1, by omega, by go_num, hZ9, hB9⟩, rfl⟩)
              case measure => simp [intOf]; omega
          · have hke : i = U.length := by omega
            subst hke
            have hge : ¬ ((U.length : Int) < (U.length : Int)) := by omega
            have hZe := hZ.out
            rw [List.take_length] at hZe
            obtain ⟨D, hD⟩ : ∃ D, D = T ++ U.map (sh T.length) := ⟨_, rfl⟩
            rw [← hD] at hZe hn
            have hDl : Hid (D.length = T.length + U.length) := by show _ = _; rw [hD]; simp
            have HW5 : Hid (WRow wr w3.heap.size u7 D) := hZe
            have r5 := (hBw2.out.cell (p := ⟨w.heap.size + 1 + 1, 0, none⟩) hl3).trans r3
            have f5 := (hBw2.out.frozen (p := ⟨w.heap.size + 1 + 1, 0, none⟩) hl3).trans f3
            have hlt0 : Hid (∀ g, u7.ownBlock = some g → w3.heap.size ≤ g ∧ g < wr.heap.size) := fun g hg => hZe.lt g hg
            obtain ⟨ar5, capr5, hrv5⟩ := hZe.slice
            rw [hDl.out] at hrv5
            have hcast : Hid (((T.length + U.length : Nat) : Int) = (T.length : Int) + (U.length : Int)) := by show _ = _; omega
            obtain ⟨M, hM⟩ : ∃ M, M = T.length + U.length := ⟨_, rfl⟩
            rw [← hM] at hrv5
            subst hrv5
            have hMM : Hid (D.length = M) := by show _ = _; rw [hM]; exact hDl.out
            have hn2 : Hid (R = (D ++ [⟨6, 0, 0, ⟨#[]⟩, (T.length : Int) - 1, (M : Int) - 1⟩], true)) := by show _ = _; rw [hn.out, hM, hcast.out]
            have hM40 : M ≤ 40 := by omega
            have hM0 : 0 < M := by omega
            clear hZe hn hM hD hDl hcast hZ hBw2
            have hO6 : wr.ownsRow w3.heap.size 72 6 (.slice ar5 M capr5) M (D.flatMap Wa.cells) := by have := HW5.out; unfold WRow at this; rw [hMM.out] at this; exact this
            go_wp2_with (at_builtin; refine wpList_append_lies _ rfl _ _ 23 rfl w3.heap.size 72 i0 (.agg #[.int .i64 0, .int .i64 0, .int .i64 0, .string ⟨#[]⟩, .int .i64 0, .int .i64 0]) 6 56 Tryd.underlying23 hi hz0 hz1 hz2 rfl (by decide) _ M _ rfl (hO6.alloc _) ⟨wr.heap.size, 0, none⟩ 1 1 [.int .i64 6, .int .i64 0, .int .i64 0, .string ⟨#[]⟩, .int .i64 ((T.length : Int) - 1), .int .i64 ((M : Int) - 1)] rfl rfl (World.news_of_block (heap_alloc_new wr _)) (one6W _ _ _ _ _ _) (by omega) (by unfold maxLen; omega) (by omega) (by simp; omega) (wr.heap.size + 1) (by simp) ?_)
            intro g9 cap9 w9 hown9 hgrow9 hat9 hlt9
            have hne9 : some (w.heap.size + 1 + 1) ≠ (Value.slice ar5 M capr5).ownBlock := fun e => by have := (hlt0.out _ e.symm).1; omega
            have hB9 : Below w.heap.size w w9 := (hB0.alloc (by omega) _).grown hgrow9 (by simp; omega) (fun k hk => by have := (hlt0.out k hk).1; omega)
            have r9 : w9.cell? ⟨w.heap.size + 1 + 1, 0, none⟩ = some (.slice none 0 0) := (hgrow9.cell_far ⟨w.heap.size + 1 + 1, 0, none⟩ (by simp; omega) hne9).trans ((Below.cell ((Below.refl _ wr).alloc (Nat.le_refl _) _) (p := ⟨w.heap.size + 1 + 1, 0, none⟩) (by show w.heap.size + 1 + 1 < _; omega)).trans r5)
            have f9 : w9.frozen? ⟨w.heap.size + 1 + 1, 0, none⟩ = false := (hgrow9.frozen_far ⟨w.heap.size + 1 + 1, 0, none⟩ (by simp; omega) hne9).trans ((Below.frozen ((Below.refl _ wr).alloc (Nat.le_refl _) _) (p := ⟨w.heap.size + 1 + 1, 0, none⟩) (by show w.heap.size + 1 + 1 < _; omega)).trans f5)
            have hZ9 : Hid (WRow w9 w3.heap.size (.slice (some ⟨g9, 0, none⟩) (M + 1) cap9) (D ++ [⟨6, 0, 0, ⟨#[]⟩, (T.length : Int) - 1, (M : Int) - 1⟩])) := by
              show WRow _ _ _ _
              unfold WRow
              rw [List.length_append, List.length_singleton, List.flatMap_append, hMM.out]
              simpa [Wa.cells] using hown9
            clear hown9 hgrow9 hat9 hlt9 HW5 hO6 r5 f5 hlt0 hne9
            go_wp2
            (try simp only [Exit.inBlock, Exit.then])
            refine bodyPost_ret (v := .tuple #[.agg #[.slice (some ⟨g9, 0, none⟩) (M + 1) cap9], .bool true]) ?_ rfl ⟨.slice (some ⟨g9, 0, none⟩) (M + 1) cap9, by rw [hn2.out], ?_, ?_⟩
            · rw [results_cell_tmp rfl]
              go_simp
            · rw [hn2.out]
              exact WRow.lower (ownsRow_setCell_below hZ9.out (a := ⟨w.heap.size + 1 + 1, 0, none⟩) (by show w.heap.size + 1 + 1 < _; omega) _) (by omega)
            · exact hB9.setCell (by show w.heap.size ≤ w.heap.size + 1 + 1; omega) _
      · have h19' : (20 : Int) ≤ (T.length : Int) + (U.length : Int) := by omega
        have hn : Hid (R = ([], false)) := HR.out.trans (by unfold bothF; rw [hg, hgu]; simp [h19])
        clear HR hg hgu
        go_wp2
        (try simp only [Exit.inBlock, Exit.then])
        refine bodyPost_ret (v := .tuple #[.agg #[.slice none 0 0], .bool false]) ?_ rfl (zero.out _ (hB3.setCell (by show w.heap.size ≤ w.heap.size + 1 + 1; omega) _) hn.out)
        rw [results_cell_tmp rfl]
        go_simp

end Go.Proofs.YtpopjapcgcnnfabDoor
