/- The model's NotFilter. -/
import Derived.Test.YtpopjapcgcnnfaaWsB
import Derived.Test.YtpopjapcgcnnfaaWfH
namespace Go.Proofs.Ytpopjapcgcnnfaa
open Go.RowKit Plain Sch Wan

theorem was_cells {w : World} {g o : Nat} {T : List Wa} (h : ∀ i, i < T.length → WaIn w g (o + i * 6) (wa T i)) : ∀ j u, (T.flatMap Wa.cells)[j]? = some u → w.cell? ((⟨g, o, none⟩ : Addr).add j) = some u := by
  intro j u hj
  have hlen : j < T.length * 6 := by have := (List.getElem?_eq_some_iff.1 hj).1; rw [flat6Wa_len] at this; exact this
  have e : j = j / 6 * 6 + j % 6 := by omega
  have hi : j / 6 < T.length := by omega
  have hc := h (j / 6) hi
  have hf := flat6Wa T (j / 6) (j % 6) hi (by omega)
  rw [← e, hj] at hf
  have hadd : ((⟨g, o, none⟩ : Addr).add j) = ⟨g, o + j / 6 * 6 + j % 6, none⟩ := by
    unfold Addr.add
    by_cases h0 : j = 0
    · rw [if_pos h0]; subst h0; rfl
    · rw [if_neg h0]; show (⟨g, o + j, none⟩ : Addr) = _; congr 1; omega
  rw [hadd]
  obtain ⟨c0, c1, c2, c3, c4, c5⟩ := hc
  have hm : j % 6 < 6 := by omega
  generalize j % 6 = r at *
  match r, hm with
  | 0, _ => rw [Nat.add_zero, c0]; exact hf.symm
  | 1, _ => rw [c1]; exact hf.symm
  | 2, _ => rw [c2]; exact hf.symm
  | 3, _ => rw [c3]; exact hf.symm
  | 4, _ => rw [c4]; exact hf.symm
  | 5, _ => rw [c5]; exact hf.symm

theorem ones6W (T : List Wa) : ∀ u ∈ T.flatMap Wa.cells, u.oneCell' = true := by
  intro u hu
  rw [List.mem_flatMap] at hu
  obtain ⟨x, _, hx⟩ := hu
  simp [Wa.cells] at hx
  rcases hx with rfl | rfl | rfl | rfl | rfl | rfl <;> rfl

set_option maxRecDepth 100000 in
set_option maxHeartbeats 8000000 in
theorem specNot (T : List Wa) (v : Value) (w : World) (hT : WasAt w w.heap.size v T) :
    Calls Try.prog 37 #[.agg #[v]] w fun e w' => OFil w w' e (notF T) := by
  obtain ⟨i0, hi, hz0, hz1, hz2⟩ := info_parts infoWaG
  have HT : Hid (WasAt w w.heap.size v T) := hT
  obtain ⟨ao, cap, rfl, hlc, hcm, _⟩ := hT
  unfold maxLen at hcm
  obtain ⟨R, hR⟩ : ∃ R, R = notF T := ⟨_, rfl⟩
  rw [← hR]
  have HR : Hid (R = notF T) := hR
  clear hR
  unfold OFil
  obtain ⟨W1, hW1⟩ : ∃ W, W = (w.alloc (.cells #[.slice ao T.length cap] 43)).alloc (.cells #[.slice none 0 0] 43) := ⟨_, rfl⟩
  have hB1 : Below w.heap.size w W1 := by rw [hW1]; exact ((Below.refl _ w).alloc (Nat.le_refl _) _).alloc (by simp) _
  have hs1 : Hid (W1.heap.size = w.heap.size + 2) := by show _ = _; rw [hW1]; simp
  have hl1 : w.heap.size + 1 < W1.heap.size := by rw [hs1.out]; omega
  have q1 : W1.cell? ⟨w.heap.size, 0, none⟩ = some (.slice ao T.length cap) := by rw [hW1]; go_simp
  have r1 : W1.cell? ⟨w.heap.size + 1, 0, none⟩ = some (.slice none 0 0) := by rw [hW1]; go_simp
  have f1 : W1.frozen? ⟨w.heap.size + 1, 0, none⟩ = false := by rw [hW1]; go_simp
  go_enter Try.func37, Try.ntmps37
  go_wp2_with fail
  rw [← hW1]
  clear hW1
  refine (specGoodF T _ _ (HT.out.below hB1)).mono ?_
  rintro e w2 ⟨rfl, hb2⟩
  have hB2 : Below w.heap.size w w2 := hB1.trans (hb2.mono (by omega))
  have hl2 : w.heap.size + 1 < w2.heap.size := by have := hb2.size; omega
  have q2 := (hb2.cell (p := ⟨w.heap.size, 0, none⟩) (by show w.heap.size < _; omega)).trans q1
  have r2 := (hb2.cell (p := ⟨w.heap.size + 1, 0, none⟩) hl1).trans r1
  have f2 := (hb2.frozen (p := ⟨w.heap.size + 1, 0, none⟩) hl1).trans f1
  have hl2' : w.heap.size < w2.heap.size := by omega
  clear hb2 q1 r1 f1 hs1 hl1
  cases hg : gf T with
  | false =>
    have hn : Hid (R = ([], false)) := HR.out.trans (by unfold notF; rw [hg]; rfl)
    clear HR hg
    go_wp2
    (try simp only [Exit.inBlock, Exit.then])
    refine bodyPost_ret (v := .tuple #[.agg #[.slice none 0 0], .bool false]) ?_ rfl ⟨.slice none 0 0, by rw [hn.out], by rw [hn.out]; exact World.ownsRow_nil _ _ _ _, ?_⟩
    · rw [results_cell_tmp rfl]
      go_simp
    · exact hB2.setCell (by simp) _
  | true =>
    obtain ⟨h0, h20⟩ := gf_len hg
    by_cases h19 : T.length < 20
    · have h19' : ((T.length : Int) == 20) = false := by simp; omega
      have hn : Hid (R = (T ++ [⟨8, 0, 0, ⟨#[]⟩, (T.length : Int) - 1, 0⟩], true)) := HR.out.trans (by unfold notF; rw [hg]; simp [h19])
      clear HR hg
      obtain ⟨g, o, cap', hv', _, _, hgB, hcells, _⟩ := (HT.out.below hB2).open (by omega)
      simp only [Value.slice.injEq, true_and] at hv'
      obtain ⟨rfl, rfl⟩ := hv'
      have HCE : Hid (∀ j u, (T.flatMap Wa.cells)[j]? = some u → w2.cell? ((⟨g, o, none⟩ : Addr).add j) = some u) := was_cells hcells
      clear hcells
      obtain ⟨W3, hW3⟩ : ∃ W, W = w2.alloc (.cells #[] 97) := ⟨_, rfl⟩
      have hA3 : Below w2.heap.size w2 W3 := by rw [hW3]; exact (Below.refl _ w2).alloc (Nat.le_refl _) _
      have hs3 : Hid (W3.heap.size = w2.heap.size + 1) := by show _ = _; rw [hW3]; simp
      have hO3 : Hid (W3.ownsRow w2.heap.size 97 6 (.slice (some ⟨w2.heap.size, 0, none⟩) 0 0) 0 []) := by show World.ownsRow _ _ _ _ _ _ _; rw [hW3]; exact World.ownsRow_made w2 #[] 0 (Nat.le_refl _) (by unfold maxLen; omega) rfl
      have HC3 : Hid (∀ j u, (T.flatMap Wa.cells)[j]? = some u → W3.cell? ((⟨g, o, none⟩ : Addr).add j) = some u) := fun j u h => by
        have hb : ((⟨g, o, none⟩ : Addr).add j).block < w2.heap.size := by unfold Addr.add; split <;> exact hgB
        exact (hA3.cell hb).trans (HCE.out j u h)
      have hl3 : w2.heap.size < W3.heap.size := by rw [hs3.out]; omega
      have r3 := (hA3.cell (p := ⟨w.heap.size + 1, 0, none⟩) hl2).trans r2
      have f3 := (hA3.frozen (p := ⟨w.heap.size + 1, 0, none⟩) hl2).trans f2
      have q3 := (hA3.cell (p := ⟨w.heap.size, 0, none⟩) (by show w.heap.size < _; omega)).trans q2
      have hB3 : Below w.heap.size w W3 := hB2.trans (hA3.mono (by omega))
      go_wp2_with (at_builtin; (try rw [← hW3]); refine wpList_append_lies _ rfl _ _ 41 rfl w2.heap.size 97 i0 (.agg #[.int .i64 0, .int .i64 0, .int .i64 0, .string ⟨#[]⟩, .int .i64 0, .int .i64 0]) 6 56 Try.underlying41 hi hz0 hz1 hz2 rfl (by decide) _ 0 [] rfl hO3.out ⟨g, o, none⟩ T.length cap (T.flatMap Wa.cells) rfl (flat6Wa_len T) HC3.out (ones6W T) (by omega) (by unfold maxLen; omega) (by omega) (by omega) W3.heap.size rfl ?_)
      intro g4 cap4 w4 hown4 hgrow4 hat4 hlt4
      rw [← hW3] at hgrow4
      (try simp only [Nat.zero_add, List.nil_append] at hown4)
      (try simp only [Nat.zero_add])
      have hO4 : Hid (WRow w4 w2.heap.size (.slice (some ⟨g4, 0, none⟩) T.length cap4) T) := hown4
      have hlt0 : Hid (∀ g, (Value.slice (some ⟨g4, 0, none⟩) T.length cap4).ownBlock = some g → w2.heap.size ≤ g ∧ g < w4.heap.size) := fun g hg => hown4.lt g hg
      have hs4 : w2.heap.size < w4.heap.size := by have := hgrow4.size; omega
      have hB4 : Below w.heap.size w w4 := hB3.grown hgrow4 (by omega) (fun k hk => by simp [Value.ownBlock] at hk; omega)
      have hne4 : some (w.heap.size + 1) ≠ (Value.slice (some ⟨w2.heap.size, 0, none⟩) 0 0).ownBlock := by simp [Value.ownBlock]; omega
      have r4 : w4.cell? ⟨w.heap.size + 1, 0, none⟩ = some (.slice none 0 0) := (hgrow4.cell_far ⟨w.heap.size + 1, 0, none⟩ (by show w.heap.size + 1 < _; omega) hne4).trans r3
      have f4 : w4.frozen? ⟨w.heap.size + 1, 0, none⟩ = false := (hgrow4.frozen_far ⟨w.heap.size + 1, 0, none⟩ (by show w.heap.size + 1 < _; omega) hne4).trans f3
      clear hown4 hgrow4 hat4 hlt4 hne4 HC3 HCE hO3 r3 f3 q3 r2 f2 q2 hW3
      go_wp2_with (at_builtin; refine wpList_append_lies _ rfl _ _ 41 rfl w2.heap.size 97 i0 (.agg #[.int .i64 0, .int .i64 0, .int .i64 0, .string ⟨#[]⟩, .int .i64 0, .int .i64 0]) 6 56 Try.underlying41 hi hz0 hz1 hz2 rfl (by decide) _ T.length _ rfl (World.ownsRow.alloc hO4.out _) ⟨w4.heap.size, 0, none⟩ 1 1 [.int .i64 8, .int .i64 0, .int .i64 0, .string ⟨#[]⟩, .int .i64 ((T.length : Int) - 1), .int .i64 0] rfl rfl (World.news_of_block (heap_alloc_new w4 _)) (one6W _ _ _ _ _ _) (by omega) (by unfold maxLen; omega) (by omega) (by simp; omega) (w4.heap.size + 1) (by simp) ?_)
      intro g9 cap9 w9 hown9 hgrow9 hat9 hlt9
      have hne9 : some (w.heap.size + 1) ≠ (Value.slice (some ⟨g4, 0, none⟩) T.length cap4).ownBlock := fun e => by have := (hlt0.out _ e.symm).1; omega
      have hB9 : Below w.heap.size w w9 := (hB4.alloc (by omega) _).grown hgrow9 (by simp; omega) (fun k hk => by have := (hlt0.out k hk).1; omega)
      have r9 : w9.cell? ⟨w.heap.size + 1, 0, none⟩ = some (.slice none 0 0) := (hgrow9.cell_far ⟨w.heap.size + 1, 0, none⟩ (by simp; omega) hne9).trans ((Below.cell ((Below.refl _ w4).alloc (Nat.le_refl _) _) (p := ⟨w.heap.size + 1, 0, none⟩) (by show w.heap.size + 1 < _; omega)).trans r4)
      have f9 : w9.frozen? ⟨w.heap.size + 1, 0, none⟩ = false := (hgrow9.frozen_far ⟨w.heap.size + 1, 0, none⟩ (by simp; omega) hne9).trans ((Below.frozen ((Below.refl _ w4).alloc (Nat.le_refl _) _) (p := ⟨w.heap.size + 1, 0, none⟩) (by show w.heap.size + 1 < _; omega)).trans f4)
      have hZ9 : Hid (WRow w9 w2.heap.size (.slice (some ⟨g9, 0, none⟩) (T.length + 1) cap9) (T ++ [⟨8, 0, 0, ⟨#[]⟩, (T.length : Int) - 1, 0⟩])) := by
        show WRow _ _ _ _
        unfold WRow
        rw [List.length_append, List.length_singleton, List.flatMap_append]
        simpa [Wa.cells] using hown9
      clear hown9 hgrow9 hat9 hlt9 hO4 r4 f4 hlt0 hne9
      go_wp2
      (try simp only [Exit.inBlock, Exit.then])
      refine bodyPost_ret (v := .tuple #[.agg #[.slice (some ⟨g9, 0, none⟩) (T.length + 1) cap9], .bool true]) ?_ rfl ⟨.slice (some ⟨g9, 0, none⟩) (T.length + 1) cap9, by rw [hn.out], ?_, ?_⟩
      · rw [results_cell_tmp rfl]
        go_simp
      · rw [hn.out]
        exact WRow.lower (ownsRow_setCell_below hZ9.out (a := ⟨w.heap.size + 1, 0, none⟩) (by show w.heap.size + 1 < _; omega) _) (by omega)
      · exact hB9.setCell (by simp) _
    · have h19' : ((T.length : Int) == 20) = true := by simp; omega
      have hn : Hid (R = ([], false)) := HR.out.trans (by unfold notF; rw [hg]; simp [h19])
      clear HR hg
      go_wp2
      (try simp only [Exit.inBlock, Exit.then])
      refine bodyPost_ret (v := .tuple #[.agg #[.slice none 0 0], .bool false]) ?_ rfl ⟨.slice none 0 0, by rw [hn.out], by rw [hn.out]; exact World.ownsRow_nil _ _ _ _, ?_⟩
      · rw [results_cell_tmp rfl]
        go_simp
      · exact hB2.setCell (by simp) _

end Go.Proofs.Ytpopjapcgcnnfaa
