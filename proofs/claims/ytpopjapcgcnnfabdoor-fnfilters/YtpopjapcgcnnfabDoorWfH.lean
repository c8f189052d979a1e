/- The program's NotFilter. -/
import Derived.Test.YtpopjapcgcnnfabDoorWfF
import Derived.Test.YtpopjapcgcnnfabDoorWfG
namespace Go.Proofs.YtpopjapcgcnnfabDoor
open Go.RowKit Plain Sch Wan

/-- a filter and a bool told, in memory of the call's own -/
def OFil (w w' : World) (e : Ending) (R : List Wa × Bool) : Prop := ∃ rv, e = .returned (.tuple #[.agg #[rv], .bool R.2]) ∧ WRow w' w.heap.size rv R.1 ∧ Below w.heap.size w w'

theorem WRow.lower {w : World} {B B' : Nat} {v : Value} {l : List Wa} (h : WRow w B v l) (hB : B' ≤ B) : WRow w B' v l := by
  refine ⟨h.1, ?_⟩
  rcases h.2 with hn | ⟨g, cap, cur, hv, hg, rest⟩
  · exact .inl hn
  · exact .inr ⟨g, cap, cur, hv, by omega, rest⟩

theorem WasAt.lower {w : World} {B B' : Nat} {v : Value} {T : List Wa} (h : WasAt w B v T) (hB : B ≤ B') : WasAt w B' v T := by
  obtain ⟨ao, cap, hv, hc, hm, hr, hn⟩ := h
  refine ⟨ao, cap, hv, hc, hm, fun i hi => ?_, hn⟩
  obtain ⟨g, o, ha, hg, c⟩ := hr i hi
  exact ⟨g, o, ha, by omega, c⟩

set_option maxRecDepth 100000 in
set_option maxHeartbeats 8000000 in
theorem implNot (T : List Wa) (v : Value) (w : World) (hT : WasAt w w.heap.size v T) :
    Calls Tryd.prog 23 #[.agg #[v]] w fun e w' => OFil w w' e (notF T) := by
  obtain ⟨i0, hi, hz0, hz1, hz2⟩ := info_parts infoWaG
  have HT : Hid (WasAt w w.heap.size v T) := hT
  obtain ⟨ao, cap, rfl, hlc, hcm, _⟩ := hT
  unfold maxLen at hcm
  obtain ⟨R, hR⟩ : ∃ R, R = notF T := ⟨_, rfl⟩
  rw [← hR]
  have HR : Hid (R = notF T) := hR
  clear hR
  unfold OFil
  obtain ⟨W1, hW1⟩ : ∃ W, W = (w.alloc (.cells #[.slice ao T.length cap] 25)).alloc (.cells #[.slice none 0 0] 25) := ⟨_, rfl⟩
  have hB1 : Below w.heap.size w W1 := by rw [hW1]; exact ((Below.refl _ w).alloc (Nat.le_refl _) _).alloc (by simp) _
  have hs1 : Hid (W1.heap.size = w.heap.size + 2) := by show _ = _; rw [hW1]; simp
  have hl1 : w.heap.size + 1 < W1.heap.size := by rw [hs1.out]; omega
  have q1 : W1.cell? ⟨w.heap.size, 0, none⟩ = some (.slice ao T.length cap) := by rw [hW1]; go_simp
  have r1 : W1.cell? ⟨w.heap.size + 1, 0, none⟩ = some (.slice none 0 0) := by rw [hW1]; go_simp
  have f1 : W1.frozen? ⟨w.heap.size + 1, 0, none⟩ = false := by rw [hW1]; go_simp
  go_enter Tryd.func23, Tryd.ntmps23
  go_wp2_with fail
  rw [← hW1]
  clear hW1
  refine (implGoodF T _ _ (HT.out.below hB1)).mono ?_
  rintro e w2 ⟨rfl, hb2⟩
  have hB2 : Below w.heap.size w w2 := hB1.trans (hb2.mono (by omega))
  have hl2 : w.heap.size + 1 < w2.heap.size := by have := hb2.size; omega
  have q2 := (hb2.cell (p := ⟨w.heap.size, 0, none⟩) (by show w.heap.size < _; omega)).trans q1
  have r2 := (hb2.cell (p := ⟨w.heap.size + 1, 0, none⟩) hl1).trans r1
  have f2 := (hb2.frozen (p := ⟨w.heap.size + 1, 0, none⟩) hl1).trans f1
  clear hb2 q1 r1 f1 hs1 hl1
  cases hg : gf T with
  | false =>
    have hn : Hid (R = ([], false)) := HR.out.trans (by unfold notF; rw [hg]; rfl)
    clear HR hg
    go_wp2
    (try simp only [Exit.inBlock, Exit.then])
    refine bodyPost_ret (v := .tuple #[.agg #[.slice none 0 0], .bool false]) ?_ rfl ⟨.slice none 0 0, by rw [hn.out], by rw [hn.out]; exact World.ownsRow_nil _ _ _ _, ?_⟩
    · rw [results_cell_tmp rfl]
      go_simp
    · exact hB2.setCell (by simp) _
  | true =>
    obtain ⟨h0, h20⟩ := gf_len hg
    by_cases h19 : T.length < 20
    · have h19' : ¬ (20 : Int) < (T.length : Int) + 1 := by omega
      have hn : Hid (R = (T ++ [⟨8, 0, 0, ⟨#[]⟩, (T.length : Int) - 1, 0⟩], true)) := HR.out.trans (by unfold notF; rw [hg]; simp [h19])
      have HOK : Hid (∀ i, i < T.length → okW (wa T i) i = true) := gf_ok hg
      clear HR hg
      go_wp2_with fail
      refine (appendWants_any [] T _ _ w2.heap.size w2 (World.ownsRow_nil _ _ _ _) (HT.out.below hB2) (Nat.le_refl _) (by simp) (by omega) HOK.out).mono ?_
      rintro e w3 ⟨rv, rfl, hrow, hb3⟩
      have hrow : WRow w3 w2.heap.size rv T := by simpa [sh_zeros] using hrow
      have HW3 : Hid (WRow w3 w2.heap.size rv T) := hrow
      have hs3 : w2.heap.size ≤ w3.heap.size := hb3.size
      have hB3 : Below w.heap.size w w3 := hB2.trans (hb3.mono (by omega))
      have r3 := (hb3.cell (p := ⟨w.heap.size + 1, 0, none⟩) hl2).trans r2
      have f3 := (hb3.frozen (p := ⟨w.heap.size + 1, 0, none⟩) hl2).trans f2
      have hlt0 : Hid (∀ g, rv.ownBlock = some g → w2.heap.size ≤ g ∧ g < w3.heap.size) := fun g hg => hrow.lt g hg
      obtain ⟨ar, capr, rfl⟩ := hrow.slice
      clear hb3 hrow r2 f2 q2
      go_wp2_with (at_builtin; refine wpList_append_lies _ rfl _ _ 23 rfl w2.heap.size 72 i0 (.agg #[.int .i64 0, .int .i64 0, .int .i64 0, .string ⟨#[]⟩, .int .i64 0, .int .i64 0]) 6 56 Tryd.underlying23 hi hz0 hz1 hz2 rfl (by decide) _ T.length _ rfl (World.ownsRow.alloc HW3.out _) ⟨w3.heap.size, 0, none⟩ 1 1 [.int .i64 8, .int .i64 0, .int .i64 0, .string ⟨#[]⟩, .int .i64 ((T.length : Int) - 1), .int .i64 0] rfl rfl (World.news_of_block (heap_alloc_new w3 _)) (one6W _ _ _ _ _ _) (by omega) (by unfold maxLen; omega) (by omega) (by simp; omega) (w3.heap.size + 1) (by simp) ?_)
      intro g9 cap9 w9 hown9 hgrow9 hat9 hlt9
      have hne9 : some (w.heap.size + 1) ≠ (Value.slice ar T.length capr).ownBlock := fun e => by have := (hlt0.out _ e.symm).1; omega
      have hB9 : Below w.heap.size w w9 := (hB3.alloc (by omega) _).grown hgrow9 (by simp; omega) (fun k hk => by have := (hlt0.out k hk).1; omega)
      have r9 : w9.cell? ⟨w.heap.size + 1, 0, none⟩ = some (.slice none 0 0) := (hgrow9.cell_far ⟨w.heap.size + 1, 0, none⟩ (by simp; omega) hne9).trans ((Below.cell ((Below.refl _ w3).alloc (Nat.le_refl _) _) (p := ⟨w.heap.size + 1, 0, none⟩) (by show w.heap.size + 1 < _; omega)).trans r3)
      have f9 : w9.frozen? ⟨w.heap.size + 1, 0, none⟩ = false := (hgrow9.frozen_far ⟨w.heap.size + 1, 0, none⟩ (by simp; omega) hne9).trans ((Below.frozen ((Below.refl _ w3).alloc (Nat.le_refl _) _) (p := ⟨w.heap.size + 1, 0, none⟩) (by show w.heap.size + 1 < _; omega)).trans f3)
      have hZ9 : Hid (WRow w9 w2.heap.size (.slice (some ⟨g9, 0, none⟩) (T.length + 1) cap9) (T ++ [⟨8, 0, 0, ⟨#[]⟩, (T.length : Int) - 1, 0⟩])) := by
        show WRow _ _ _ _
        unfold WRow
        rw [List.length_append, List.length_singleton, List.flatMap_append]
        simpa [Wa.cells] using hown9
      clear hown9 hgrow9 hat9 hlt9 HW3 r3 f3 hlt0 hne9
      go_wp2
      (try simp only [Exit.inBlock, Exit.then])
      refine bodyPost_ret (v := .tuple #[.agg #[.slice (some ⟨g9, 0, none⟩) (T.length + 1) cap9], .bool true]) ?_ rfl ⟨.slice (some ⟨g9, 0, none⟩) (T.length + 1) cap9, by rw [hn.out], ?_, ?_⟩
      · rw [results_cell_tmp rfl]
        go_simp
      · rw [hn.out]
        exact WRow.lower (ownsRow_setCell_below hZ9.out (a := ⟨w.heap.size + 1, 0, none⟩) (by show w.heap.size + 1 < _; omega) _) (by omega)
      · exact hB9.setCell (by simp) _
    · have h19' : (20 : Int) < (T.length : Int) + 1 := by omega
      have hn : Hid (R = ([], false)) := HR.out.trans (by unfold notF; rw [hg]; simp [h19])
      clear HR hg
      go_wp2
      (try simp only [Exit.inBlock, Exit.then])
      refine bodyPost_ret (v := .tuple #[.agg #[.slice none 0 0], .bool false]) ?_ rfl ⟨.slice none 0 0, by rw [hn.out], by rw [hn.out]; exact World.ownsRow_nil _ _ _ _, ?_⟩
      · rw [results_cell_tmp rfl]
        go_simp
      · exact hB2.setCell (by simp) _

end Go.Proofs.YtpopjapcgcnnfabDoor
