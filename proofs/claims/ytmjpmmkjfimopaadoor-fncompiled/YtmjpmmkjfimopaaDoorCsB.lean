/- The model's CompileFilter. -/
import Derived.Test.YtmjpmmkjfimopaaDoorCsA
import Derived.Test.YtmjpmmkjfimopaaDoorHh
import Derived.Test.YtmjpmmkjfimopaaDoorWsB
namespace Go.Proofs.YtmjpmmkjfimopaaDoor
open Go.RowKit Plain Sch Wan Prg

set_option maxRecDepth 100000 in
set_option maxHeartbeats 4000000 in
theorem specCompile (T : List Wa) (v : Value) (w : World) (hT : WasAt w w.heap.size v T) :
    Calls Tryd.prog 7 #[.agg #[v]] w fun e w' => OPro w w' e (cpo T) := by
  obtain ⟨i0, hi, hz0, hz1, hz2⟩ := info_parts Tryd.infoIns
  have HT : Hid (WasAt w w.heap.size v T) := hT
  obtain ⟨ao, cap, rfl, hlc, hcm, _⟩ := hT
  unfold maxLen at hcm
  obtain ⟨R, hR⟩ : ∃ R, R = cpo T := ⟨_, rfl⟩
  rw [← hR]
  have HR : Hid (R = cpo T) := hR
  clear hR
  unfold OPro
  obtain ⟨W1, hW1⟩ : ∃ W, W = (w.alloc (.cells #[.slice ao T.length cap] 25)).alloc (.cells #[.slice none 0 0] 30) := ⟨_, rfl⟩
  have hB1 : Below w.heap.size w W1 := by rw [hW1]; exact ((Below.refl _ w).alloc (Nat.le_refl _) _).alloc (by simp) _
  have hs1 : Hid (W1.heap.size = w.heap.size + 2) := by show _ = _; rw [hW1]; simp
  have hl1 : w.heap.size + 1 < W1.heap.size := by rw [hs1.out]; omega
  have q1 : W1.cell? ⟨w.heap.size, 0, none⟩ = some (.slice ao T.length cap) := by rw [hW1]; go_simp
  have r1 : W1.cell? ⟨w.heap.size + 1, 0, none⟩ = some (.slice none 0 0) := by rw [hW1]; go_simp
  have f1 : W1.frozen? ⟨w.heap.size + 1, 0, none⟩ = false := by rw [hW1]; go_simp
  go_enter Tryd.func7, Tryd.ntmps7
  go_wp2_with fail
  rw [← hW1]
  clear hW1
  refine (specGoodF T _ _ (HT.out.below hB1)).mono ?_
  rintro e w2 ⟨rfl, hb2⟩
  have hB2 : Below w.heap.size w w2 := hB1.trans (hb2.mono (by omega))
  have hl2 : w.heap.size + 1 < w2.heap.size := by have := hb2.size; omega
  have hl2' : w.heap.size < w2.heap.size := by omega
  have q2 := (hb2.cell (p := ⟨w.heap.size, 0, none⟩) (by show w.heap.size < _; omega)).trans q1
  have r2 := (hb2.cell (p := ⟨w.heap.size + 1, 0, none⟩) hl1).trans r1
  have f2 := (hb2.frozen (p := ⟨w.heap.size + 1, 0, none⟩) hl1).trans f1
  clear hb2 q1 r1 f1 hs1 hl1
  cases hg : gf T with
  | false =>
    have hn : Hid (R = ([], false)) := HR.out.trans (by unfold cpo; rw [hg]; rfl)
    clear HR hg
    go_wp2
    (try simp only [Exit.inBlock, Exit.then])
    refine bodyPost_ret (v := .tuple #[.agg #[.slice none 0 0], .bool false]) ?_ rfl ⟨.slice none 0 0, by rw [hn.out], by rw [hn.out]; exact World.ownsRow_nil _ _ _ _, ?_⟩
    · rw [results_cell_tmp rfl]
      go_simp
    · exact hB2.setCell (by simp) _
  | true =>
    obtain ⟨h0, h20⟩ := gf_len hg
    have hn : Hid (R = (cmp T (T.length - 1) 0 ++ [iEnd], true)) := HR.out.trans (by unfold cpo; rw [hg]; rfl)
    have HG : Hid (gf T = true) := hg
    clear HR hg
    have hk1 : (((T.length - 1 : Nat)) : Int) = (T.length : Int) - 1 := by omega
    have HT2 : Hid (WasAt w2 w2.heap.size (.slice ao T.length cap) T) := HT.out.below hB2
    have CP : Hid (∀ W : World, WasAt W W.heap.size (.slice ao T.length cap) T → Calls Tryd.prog 25 #[.agg #[.slice ao T.length cap], .int .i64 ((T.length : Int) - 1), .slice none 0 0] W (CmpOut W W.heap.size (.slice none 0 0) (cmp T (T.length - 1) 0))) := fun W h2 => by
      have hp : 2 ^ (T.length - 1 + 2) ≤ 2 ^ 21 := Nat.pow_le_pow_right (by omega) (by omega)
      have hp2 : (2 : Nat) ^ 21 = 2097152 := by decide
      have := l8Compile_any T HG.out (T.length - 1) (by omega) W.heap.size _ (.slice none 0 0) [] W (World.ownsRow_nil _ _ _ _) (Nat.le_refl _) h2 (by simp only [List.length_nil]; omega)
      rw [hk1] at this
      simpa using this
    have hql : 1 ≤ T.length := h0
    clear hk1
    go_wp2_with fail
    refine (CP.out _ HT2.out).mono ?_
    rintro e w4 ⟨v4, rfl, hR4, hP4⟩
    have hsm : (cmp T (T.length - 1) 0).length ≤ 9999999 := by have := cmp_small T (T.length - 1) 0 (by omega); omega
    generalize cmp T (T.length - 1) 0 = L at hR4 hsm hn CP
    clear CP
    obtain ⟨ar4, cap4, rfl, hn4, hcm4⟩ := hR4.slice
    have HR4 : Hid (IRow w4 w2.heap.size (.slice ar4 L.length cap4) L) := hR4
    have hB4 : Below w2.heap.size w2 w4 := hP4.below (Nat.le_refl _) (fun g h => by cases h) (fun g h => by simp [Value.ownBlock] at h)
    have hs4 := hB4.size
    clear hR4 hP4
    go_wp2_with (at_builtin; refine wpList_append_lies _ rfl _ _ 28 rfl w2.heap.size 59 i0 (.agg #[.int .i64 0, .int .i64 0, .int .i64 0, .int .i64 0, .string ⟨#[]⟩, .int .i64 0]) 6 56 Tryd.underlying28 hi hz0 hz1 hz2 rfl (by decide) _ L.length _ rfl (World.ownsRow.alloc HR4.out _) ⟨w4.heap.size, 0, none⟩ 1 1 [.int .i64 5, .int .i64 0, .int .i64 0, .int .i64 0, .string ⟨#[]⟩, .int .i64 0] rfl rfl ?c1 (one6I _ _ _ _ _ _) ?c2 ?c3 ?c4 ?c5 (w4.heap.size + 1) ?c6 ?_)
    case c1 => exact World.news_of_block (heap_alloc_new w4 _)
    case c2 => omega
    case c3 => unfold maxLen; omega
    case c4 => omega
    case c5 => simp; omega
    case c6 => simp
    intro g5 cap5 w5 hown5 hgrow5 hat5 hlt5
    have hE5 := app_end (L := L) (x := iEnd) hown5 hgrow5 hat5
    rw [show (L ++ [iEnd]).length = L.length + 1 by simp] at hE5
    have HR5 : Hid (IRow w5 w2.heap.size (.slice (some ⟨g5, 0, none⟩) (L.length + 1) cap5) (L ++ [iEnd])) := hE5.1
    have hB5 : Below w2.heap.size w4 w5 := HR4.out.keeps hs4 hE5.2
    have hB25 : Below w2.heap.size w2 w5 := hB4.trans hB5
    have r5 := (hB25.cell (p := ⟨w.heap.size + 1, 0, none⟩) hl2).trans r2
    have f5 := (hB25.frozen (p := ⟨w.heap.size + 1, 0, none⟩) hl2).trans f2
    have hBw5 : Hid (Below w.heap.size w w5) := hB2.trans (hB25.mono (by omega))
    clear hown5 hgrow5 hat5 hE5 hB5 hB4 HR4 hB25
    go_wp2
    (try simp only [Exit.inBlock, Exit.then])
    refine bodyPost_ret (v := .tuple #[.agg #[.slice (some ⟨g5, 0, none⟩) (L.length + 1) cap5], .bool true]) ?_ rfl ⟨.slice (some ⟨g5, 0, none⟩) (L.length + 1) cap5, by rw [hn.out], by rw [hn.out]; exact (HR5.out.setCell (a := ⟨w.heap.size + 1, 0, none⟩) (by show w.heap.size + 1 < _; omega) _).lower (by omega), hBw5.out.setCell (by simp) _⟩
    rw [results_cell_tmp rfl]
    go_simp

end Go.Proofs.YtmjpmmkjfimopaaDoor
