/- The program's CompileFilter. -/
import Derived.Test.YtpopjapcgcnnfaaCpB
import Derived.Test.YtpopjapcgcnnfaaWfF
namespace Go.Proofs.Ytpopjapcgcnnfaa
open Go.RowKit Plain Sch Wan Prg

/-- a program and a bool told, in memory of the call's own -/
def OPro (w w' : World) (e : Ending) (R : List Ins × Bool) : Prop := ∃ rv, e = .returned (.tuple #[.agg #[rv], .bool R.2]) ∧ IRow w' w.heap.size rv R.1 ∧ Below w.heap.size w w'

set_option maxRecDepth 100000 in
set_option maxHeartbeats 4000000 in
theorem implCompile (T : List Wa) (v : Value) (w : World) (hT : WasAt w w.heap.size v T) :
    Calls Try.prog 23 #[.agg #[v]] w fun e w' => OPro w w' e (cpo T) := by
  have HT : Hid (WasAt w w.heap.size v T) := hT
  obtain ⟨ao, cap, rfl, hlc, hcm, _⟩ := hT
  unfold maxLen at hcm
  obtain ⟨R, hR⟩ : ∃ R, R = cpo T := ⟨_, rfl⟩
  rw [← hR]
  have HR : Hid (R = cpo T) := hR
  clear hR
  unfold OPro
  obtain ⟨W1, hW1⟩ : ∃ W, W = (w.alloc (.cells #[.slice ao T.length cap] 43)).alloc (.cells #[.slice none 0 0] 29) := ⟨_, rfl⟩
  have hB1 : Below w.heap.size w W1 := by rw [hW1]; exact ((Below.refl _ w).alloc (Nat.le_refl _) _).alloc (by simp) _
  have hs1 : Hid (W1.heap.size = w.heap.size + 2) := by show _ = _; rw [hW1]; simp
  have hl1 : w.heap.size + 1 < W1.heap.size := by rw [hs1.out]; omega
  have q1 : W1.cell? ⟨w.heap.size, 0, none⟩ = some (.slice ao T.length cap) := by rw [hW1]; go_simp
  have r1 : W1.cell? ⟨w.heap.size + 1, 0, none⟩ = some (.slice none 0 0) := by rw [hW1]; go_simp
  have f1 : W1.frozen? ⟨w.heap.size + 1, 0, none⟩ = false := by rw [hW1]; go_simp
  go_enter Try.func23, Try.ntmps23
  go_wp2_with fail
  rw [← hW1]
  clear hW1
  refine (implGoodF T _ _ (HT.out.below hB1)).mono ?_
  rintro e w2 ⟨rfl, hb2⟩
  have hB2 : Below w.heap.size w w2 := hB1.trans (hb2.mono (by omega))
  have hl2 : w.heap.size + 1 < w2.heap.size := by have := hb2.size; omega
  have hl2' : w.heap.size < w2.heap.size := by omega
  have q2 := (hb2.cell (p := ⟨w.heap.size, 0, none⟩) (by show w.heap.size < _; omega)).trans q1
  have r2 := (hb2.cell (p := ⟨w.heap.size + 1, 0, none⟩) hl1).trans r1
  have f2 := (hb2.frozen (p := ⟨w.heap.size + 1, 0, none⟩) hl1).trans f1
  clear hb2 q1 r1 f1 hs1 hl1
  cases hg : gf T with
  | false =>
    have hn : Hid (R = ([], false)) := HR.out.trans (by unfold cpo; rw [hg]; rfl)
    clear HR hg
    go_wp2
    (try simp only [Exit.inBlock, Exit.then])
    refine bodyPost_ret (v := .tuple #[.agg #[.slice none 0 0], .bool false]) ?_ rfl ⟨.slice none 0 0, by rw [hn.out], by rw [hn.out]; exact World.ownsRow_nil _ _ _ _, ?_⟩
    · rw [results_cell_tmp rfl]
      go_simp
    · exact hB2.setCell (by simp) _
  | true =>
    obtain ⟨h0, h20⟩ := gf_len hg
    have hn : Hid (R = (cmp T (T.length - 1) 0 ++ [iEnd], true)) := HR.out.trans (by unfold cpo; rw [hg]; rfl)
    have HG : Hid (gf T = true) := hg
    clear HR hg
    have hk1 : (((T.length - 1 : Nat)) : Int) = (T.length : Int) - 1 := by omega
    obtain ⟨W3, hW3⟩ : ∃ W, W = w2.alloc (.cells #[.slice ao T.length cap, .slice none 0 0] 84) := ⟨_, rfl⟩
    have hB3 : Below w2.heap.size w2 W3 := by rw [hW3]; exact (Below.refl _ w2).alloc (Nat.le_refl _) _
    have hs3 : Hid (W3.heap.size = w2.heap.size + 1) := by show _ = _; rw [hW3]; simp
    have HC3 : Hid (CSt W3 w2.heap.size (.slice ao T.length cap) (.slice none 0 0) []) := by
      show CSt _ _ _ _ _
      refine ⟨by rw [hs3.out]; omega, by rw [hW3]; go_simp, by rw [hW3]; go_simp, by rw [hW3]; go_simp, World.ownsRow_nil _ _ _ _⟩
    have HT3 : Hid (WasAt W3 w2.heap.size (.slice ao T.length cap) T) := ((HT.out.below hB2).keep hB3)
    have CP : Hid (∀ W : World, CSt W w2.heap.size (.slice ao T.length cap) (.slice none 0 0) [] → WasAt W w2.heap.size (.slice ao T.length cap) T → Calls Try.prog 58 #[.pointer (some ⟨w2.heap.size, 0, none⟩), .int .i64 ((T.length : Int) - 1)] W (PutOut W w2.heap.size (.slice ao T.length cap) (.slice none 0 0) (cmp T (T.length - 1) 0))) := fun W h1 h2 => by
      have hp : 2 ^ (T.length - 1 + 2) ≤ 2 ^ 21 := Nat.pow_le_pow_right (by omega) (by omega)
      have hp2 : (2 : Nat) ^ 21 = 2097152 := by decide
      have := putWant_any T HG.out (T.length - 1) (by omega) w2.heap.size _ _ [] W h1 h2 (by simp only [List.length_nil]; omega)
      rw [hk1] at this
      simpa using this
    have hql : 1 ≤ T.length := h0
    go_upto_region 4 with fail
    rw [← hW3]
    clear hW3
    have q3 := (hB3.cell (p := ⟨w.heap.size, 0, none⟩) hl2').trans q2
    clear hk1
    go_wp2_with fail
    refine (CP.out _ HC3.out HT3.out).mono ?_
    rintro e w4 ⟨rfl, v4, hC4, hP4⟩
    have hB4 : Below w2.heap.size W3 w4 := HC3.out.keeps hP4
    have HC4 : Hid (CSt w4 w2.heap.size (.slice ao T.length cap) v4 (cmp T (T.length - 1) 0)) := hC4
    have hsm : Hid ((cmp T (T.length - 1) 0).length ≤ 10000000) := by show _ ≤ _; have := cmp_small T (T.length - 1) 0 (by omega); omega
    clear hC4 hP4 q3
    go_wp2_with fail
    refine (put_any iEnd w2.heap.size _ v4 _ w4 HC4.out hsm.out).mono ?_
    rintro e w5 ⟨rfl, v5, hC5, hP5⟩
    have hB5 : Below w2.heap.size w4 w5 := HC4.out.keeps hP5
    have hB25 : Below w2.heap.size w2 w5 := (hB3.mono (Nat.le_refl _)).trans (hB4.trans hB5)
    have q5 := hC5.2.2.1
    have hc5 := hC5.1
    have r5 := (hB25.cell (p := ⟨w.heap.size + 1, 0, none⟩) hl2).trans r2
    have f5 := (hB25.frozen (p := ⟨w.heap.size + 1, 0, none⟩) hl2).trans f2
    have HR5 : Hid (IRow w5 (w2.heap.size + 1) v5 (cmp T (T.length - 1) 0 ++ [iEnd])) := hC5.2.2.2.2
    have hBw5 : Hid (Below w.heap.size w w5) := hB2.trans (hB25.mono (by omega))
    have hl5 : w.heap.size + 1 < w5.heap.size := by omega
    clear hC5 hP5 hB5 hB4 HC4 HC3 HT3 hB3 hB25
    obtain ⟨ar5, cap5, rfl, hn5, hcm5⟩ := HR5.out.slice
    go_wp2
    (try simp only [Exit.inBlock, Exit.then])
    refine bodyPost_ret (v := .tuple #[.agg #[.slice ar5 (cmp T (T.length - 1) 0 ++ [iEnd]).length cap5], .bool true]) ?_ rfl ⟨.slice ar5 (cmp T (T.length - 1) 0 ++ [iEnd]).length cap5, by rw [hn.out], by rw [hn.out]; exact (HR5.out.setCell (a := ⟨w.heap.size + 1, 0, none⟩) (by show w.heap.size + 1 < _; omega) _).lower (by omega), hBw5.out.setCell (by simp) _⟩
    rw [results_cell_tmp rfl]
    go_simp

end Go.Proofs.Ytpopjapcgcnnfaa
