/- The program's CompileFilter. The law's own comparison of programs, where both sides are the same. -/
import Derived.Test.YtmjpmmkjfimopaaDoorCpB
import Derived.Test.YtmjpmmkjfimopaaDoorWfF
import Derived.Deep.QuietTactic
import Derived.BigQuiet
import Derived.Deep.DeepCutAuto
namespace Go.Proofs.YtmjpmmkjfimopaaDoor
open Go.RowKit Plain Sch Wan Prg

/-- a program and a bool told, in memory of the call's own -/
def OPro (w w' : World) (e : Ending) (R : List Ins × Bool) : Prop := ∃ rv, e = .returned (.tuple #[.agg #[rv], .bool R.2]) ∧ IRow w' w.heap.size rv R.1 ∧ Below w.heap.size w w'

set_option maxRecDepth 100000 in
set_option maxHeartbeats 4000000 in
theorem implCompile (T : List Wa) (v : Value) (w : World) (hT : WasAt w w.heap.size v T) :
    Calls Tryd.prog 6 #[.agg #[v]] w fun e w' => OPro w w' e (cpo T) := by
  have HT : Hid (WasAt w w.heap.size v T) := hT
  obtain ⟨ao, cap, rfl, hlc, hcm, _⟩ := hT
  unfold maxLen at hcm
  obtain ⟨R, hR⟩ : ∃ R, R = cpo T := ⟨_, rfl⟩
  rw [← hR]
  have HR : Hid (R = cpo T) := hR
  clear hR
  unfold OPro
  obtain ⟨W1, hW1⟩ : ∃ W, W = (w.alloc (.cells #[.slice ao T.length cap] 25)).alloc (.cells #[.slice none 0 0] 30) := ⟨_, rfl⟩
  have hB1 : Below w.heap.size w W1 := by rw [hW1]; exact ((Below.refl _ w).alloc (Nat.le_refl _) _).alloc (by simp) _
  have hs1 : Hid (W1.heap.size = w.heap.size + 2) := by show _ = _; rw [hW1]; simp
  have hl1 : w.heap.size + 1 < W1.heap.size := by rw [hs1.out]; omega
  have q1 : W1.cell? ⟨w.heap.size, 0, none⟩ = some (.slice ao T.length cap) := by rw [hW1]; go_simp
  have r1 : W1.cell? ⟨w.heap.size + 1, 0, none⟩ = some (.slice none 0 0) := by rw [hW1]; go_simp
  have f1 : W1.frozen? ⟨w.heap.size + 1, 0, none⟩ = false := by rw [hW1]; go_simp
  go_enter Tryd.func6, Tryd.ntmps6
  go_wp2_with fail
  rw [← hW1]
  clear hW1
  refine (implGoodF T _ _ (HT.out.below hB1)).mono ?_
  rintro e w2 ⟨rfl, hb2⟩
  have hB2 : Below w.heap.size w w2 := hB1.trans (hb2.mono (by omega))
  have hl2 : w.heap.size + 1 < w2.heap.size := by have := hb2.size; omega
  have hl2' : w.heap.size < w2.heap.size := by omega
  have q2 := (hb2.cell (p := ⟨w.heap.size, 0, none⟩) (by show w.heap.size < _; omega)).trans q1
  have r2 := (hb2.cell (p := ⟨w.heap.size + 1, 0, none⟩) hl1).trans r1
  have f2 := (hb2.frozen (p := ⟨w.heap.size + 1, 0, none⟩) hl1).trans f1
  clear hb2 q1 r1 f1 hs1 hl1
  cases hg : gf T with
  | false =>
    have hn : Hid (R = ([], false)) := HR.out.trans (by unfold cpo; rw [hg]; rfl)
    clear HR hg
    go_wp2
    (try simp only [Exit.inBlock, Exit.then])
    refine bodyPost_ret (v := .tuple #[.agg #[.slice none 0 0], .bool false]) ?_ rfl ⟨.slice none 0 0, by rw [hn.out], by rw [hn.out]; exact World.ownsRow_nil _ _ _ _, ?_⟩
    · rw [results_cell_tmp rfl]
      go_simp
    · exact hB2.setCell (by simp) _
  | true =>
    obtain ⟨h0, h20⟩ := gf_len hg
    have hn : Hid (R = (cmp T (T.length - 1) 0 ++ [iEnd], true)) := HR.out.trans (by unfold cpo; rw [hg]; rfl)
    have HG : Hid (gf T = true) := hg
    clear HR hg
    have hk1 : (((T.length - 1 : Nat)) : Int) = (T.length : Int) - 1 := by omega
    obtain ⟨W3, hW3⟩ : ∃ W, W = w2.alloc (.cells #[.slice ao T.length cap, .slice none 0 0] 55) := ⟨_, rfl⟩
    have hB3 : Below w2.heap.size w2 W3 := by rw [hW3]; exact (Below.refl _ w2).alloc (Nat.le_refl _) _
    have hs3 : Hid (W3.heap.size = w2.heap.size + 1) := by show _ = _; rw [hW3]; simp
    have HC3 : Hid (CSt W3 w2.heap.size (.slice ao T.length cap) (.slice none 0 0) []) := by
      show CSt _ _ _ _ _
      refine ⟨by rw [hs3.out]; omega, by rw [hW3]; go_simp, by rw [hW3]; go_simp, by rw [hW3]; go_simp, World.ownsRow_nil _ _ _ _⟩
    have HT3 : Hid (WasAt W3 w2.heap.size (.slice ao T.length cap) T) := ((HT.out.below hB2).keep hB3)
    have CP : Hid (∀ W : World, CSt W w2.heap.size (.slice ao T.length cap) (.slice none 0 0) [] → WasAt W w2.heap.size (.slice ao T.length cap) T → Calls Tryd.prog 22 #[.pointer (some ⟨w2.heap.size, 0, none⟩), .int .i64 ((T.length : Int) - 1)] W (PutOut W w2.heap.size (.slice ao T.length cap) (.slice none 0 0) (cmp T (T.length - 1) 0))) := fun W h1 h2 => by
      have hp : 2 ^ (T.length - 1 + 2) ≤ 2 ^ 21 := Nat.pow_le_pow_right (by omega) (by omega)
      have hp2 : (2 : Nat) ^ 21 = 2097152 := by decide
      have := putWant_any T HG.out (T.length - 1) (by omega) w2.heap.size _ _ [] W h1 h2 (by simp only [List.length_nil]; omega)
      rw [hk1] at this
      simpa using this
    have hql : 1 ≤ T.length := h0
    go_upto_region 4 with fail
    rw [← hW3]
    clear hW3
    have q3 := (hB3.cell (p := ⟨w.heap.size, 0, none⟩) hl2').trans q2
    clear hk1
    go_wp2_with fail
    refine (CP.out _ HC3.out HT3.out).mono ?_
    rintro e w4 ⟨rfl, v4, hC4, hP4⟩
    have hB4 : Below w2.heap.size W3 w4 := HC3.out.keeps hP4
    have HC4 : Hid (CSt w4 w2.heap.size (.slice ao T.length cap) v4 (cmp T (T.length - 1) 0)) := hC4
    have hsm : Hid ((cmp T (T.length - 1) 0).length ≤ 10000000) := by show _ ≤ _; have := cmp_small T (T.length - 1) 0 (by omega); omega
    clear hC4 hP4 q3
    go_wp2_with fail
    refine (put_any iEnd w2.heap.size _ v4 _ w4 HC4.out hsm.out).mono ?_
    rintro e w5 ⟨rfl, v5, hC5, hP5⟩
    have hB5 : Below w2.heap.size w4 w5 := HC4.out.keeps hP5
    have hB25 : Below w2.heap.size w2 w5 := (hB3.mono (Nat.le_refl _)).trans (hB4.trans hB5)
    have q5 := hC5.2.2.1
    have hc5 := hC5.1
    have r5 := (hB25.cell (p := ⟨w.heap.size + 1, 0, none⟩) hl2).trans r2
    have f5 := (hB25.frozen (p := ⟨w.heap.size + 1, 0, none⟩) hl2).trans f2
    have HR5 : Hid (IRow w5 (w2.heap.size + 1) v5 (cmp T (T.length - 1) 0 ++ [iEnd])) := hC5.2.2.2.2
    have hBw5 : Hid (Below w.heap.size w w5) := hB2.trans (hB25.mono (by omega))
    have hl5 : w.heap.size + 1 < w5.heap.size := by omega
    clear hC5 hP5 hB5 hB4 HC4 HC3 HT3 hB3 hB25
    obtain ⟨ar5, cap5, rfl, hn5, hcm5⟩ := HR5.out.slice
    go_wp2
    (try simp only [Exit.inBlock, Exit.then])
    refine bodyPost_ret (v := .tuple #[.agg #[.slice ar5 (cmp T (T.length - 1) 0 ++ [iEnd]).length cap5], .bool true]) ?_ rfl ⟨.slice ar5 (cmp T (T.length - 1) 0 ++ [iEnd]).length cap5, by rw [hn.out], by rw [hn.out]; exact (HR5.out.setCell (a := ⟨w.heap.size + 1, 0, none⟩) (by show w.heap.size + 1 < _; omega) _).lower (by omega), hBw5.out.setCell (by simp) _⟩
    rw [results_cell_tmp rfl]
    go_simp

end Go.Proofs.YtmjpmmkjfimopaaDoor

namespace Go.Proofs.YtmjpmmkjfimopaaDoor
open Go.RowKit Plain Sch Wan Prg

theorem below_drewP {B : Nat} {a w : World} (h : Below B a w) (q : Nat) : Below B a (w.drewN q) := ⟨h.os, h.tape, h.output, h.size, h.block⟩

set_option maxRecDepth 100000 in
set_option maxHeartbeats 4000000 in
theorem samePrograms_same (T : List Ins) (v1 v2 : Value) (w : World) (h1 : InsAt w w.heap.size v1 T) (h2 : InsAt w w.heap.size v2 T) (hl : T.length ≤ 2097152) :
    Calls Tryd.prog 8 #[.agg #[v1], .agg #[v2]] w fun e w' => e = .returned (.bool true) ∧ Below w.heap.size w w' := by
  obtain ⟨ao, cap, rfl, _, hmax, hrow, _⟩ := h1
  obtain ⟨ao2, cap2, rfl, _, _, hrow2, _⟩ := h2
  have HROW : Hid (∀ i, i < T.length → ∃ g o, ao = some ⟨g, o, none⟩ ∧ g < w.heap.size ∧ InsIn w g (o + i * 6) (ins T i)) := hrow
  have HROW2 : Hid (∀ i, i < T.length → ∃ g o, ao2 = some ⟨g, o, none⟩ ∧ g < w.heap.size ∧ InsIn w g (o + i * 6) (ins T i)) := hrow2
  clear hrow hrow2
  obtain ⟨W2, hW2⟩ : ∃ W, W = (w.alloc (.cells #[.slice ao T.length cap] 30)).alloc (.cells #[.slice ao2 T.length cap2] 30) := ⟨_, rfl⟩
  have hB2 : Below w.heap.size w W2 := by rw [hW2]; exact ((Below.refl _ w).alloc (Nat.le_refl _) _).alloc (by simp) _
  have HS2 : Hid (W2.heap.size = w.heap.size + 2) := by show _ = _; rw [hW2]; simp
  have y2 : W2.cell? ⟨w.heap.size, 0, none⟩ = some (.slice ao T.length cap) ∧ W2.cell? ⟨w.heap.size + 1, 0, none⟩ = some (.slice ao2 T.length cap2) := by rw [hW2]; exact ⟨by go_simp, by go_simp⟩
  have hq1 := y2.1
  have hq2 := y2.2
  have hne : ((T.length : Int) != (T.length : Int)) = false := by simp
  have hz0 : w.heap.size < W2.heap.size := by have := HS2.out; omega
  have hz1 : w.heap.size + 1 < W2.heap.size := by have := HS2.out; omega
  go_enter Tryd.func8, Tryd.ntmps8
  go_upto_region 1 with fail
  rw [← hW2]
  clear hW2
  go_wp2
  go_loopw [16] (fun vi wr => ∃ k : Nat, k ≤ T.length ∧ vi = .int .i64 (k : Int) ∧ Below W2.heap.size W2 wr)
    (fun vi _ => T.length - (intOf vi).toNat)
  case atStart => exact ⟨0, by omega, rfl, Below.refl _ _⟩
  case round =>
    obtain ⟨k, hk, rfl, hbw⟩ := hrel
    have c1 := (hbw.cell (p := ⟨w.heap.size, 0, none⟩) (by show w.heap.size < _; omega)).trans hq1
    have c2 := (hbw.cell (p := ⟨w.heap.size + 1, 0, none⟩) (by show w.heap.size + 1 < _; omega)).trans hq2
    have hbw0 : Below w.heap.size w wr := hB2.trans (hbw.mono hB2.size)
    clear hq1 hq2 y2
    by_cases hlt : k < T.length
    · obtain ⟨g, o, rfl, hgB, hy1⟩ := HROW.out k hlt
      obtain ⟨g2, o2, rfl, hgB2, hy2⟩ := HROW2.out k hlt
      have e1 := hy1.below hbw0 hgB
      have e2 := hy2.below hbw0 hgB2
      clear hy1 hy2
      obtain ⟨ti, hti⟩ : ∃ t, ins T k = t := ⟨_, rfl⟩
      rw [hti] at e1 e2
      clear hti
      obtain ⟨kind, no, num, text, ja, jb⟩ := ti
      obtain ⟨a0, a1, a2, a3, a4, a5⟩ := e1
      obtain ⟨x0, x1, x2, x3, x4, x5⟩ := e2
      dsimp only at a0 a1 a2 a3 a4 a5 x0 x1 x2 x3 x4 x5
      have hlt' : (k : Int) < (T.length : Int) := by omega
      go_wp2
      go_quiet (fail)
      go_wp2
      go_roundw
      case rel => exact ⟨k + 1, by omega, by go_num, below_drewP hbw _⟩
      case measure => simp [intOf]; omega
    · have hke : k = T.length := by omega
      subst hke
      have hge : ¬ ((T.length : Int) < (T.length : Int)) := by omega
      go_wp2
      go_ret
      exact ⟨rfl, hbw0⟩

end Go.Proofs.YtmjpmmkjfimopaaDoor
