/- How many points a box in an array has: the program's points. -/
import Derived.Test.YtnbaeplbnonhkaaVoA
namespace Go.Proofs.Ytnbaeplbnonhkaa
open Go.RowKit Plain Sch Bxs

set_option maxRecDepth 100000 in
set_option maxHeartbeats 4000000 in
theorem points_any (x : Bx) (w : World) (hx : okB x = true) :
    Calls Try.prog 59 #[x.val] w fun e w' => e = .returned (.int .i64 (pts x)) ∧ Below w.heap.size w w' := by
  obtain ⟨W1, hW1⟩ : ∃ W, W = w.alloc x.obj := ⟨_, rfl⟩
  have hB1 : Below w.heap.size w W1 := by rw [hW1]; exact (Below.refl _ w).alloc (Nat.le_refl _) _
  have hA0 : Hid (ArrAt W1 w.heap.size x) := by rw [hW1]; exact ArrAt.made w x
  have hxo := (okB_iff x).1 hx
  obtain ⟨a0, a1⟩ := len1_pos hxo.1
  obtain ⟨b0, b1⟩ := len1_pos hxo.2.1
  obtain ⟨g0, g1⟩ := len1_pos hxo.2.2
  have hax := (okS_iff _).1 hxo.1
  have hbx := (okS_iff _).1 hxo.2.1
  have hgx := (okS_iff _).1 hxo.2.2
  have e1 : 1 ≤ len1 x.a * len1 x.b := mul_pos1 a0 b0
  have e2 : len1 x.a * len1 x.b ≤ 2001 * 2001 := Int.mul_le_mul a1 b1 (by omega) (by omega)
  have e3 := pts_pos hx
  have e4 := pts_le hx
  obtain ⟨PP, hPP⟩ : ∃ PP : Nat → Int, PP = fun i => if i = 0 then 1 else if i = 1 then len1 x.a else if i = 2 then len1 x.a * len1 x.b else pts x := ⟨_, rfl⟩
  have HP0 : Hid (PP 0 = 1) := by rw [hPP]; rfl
  have HP1 : Hid (PP 1 = PP 0 * len1 x.a) := by show _ = _; rw [hPP]; simp
  have HP2 : Hid (PP 2 = PP 1 * len1 x.b) := by rw [hPP]; rfl
  have HP3 : Hid (PP 3 = PP 2 * len1 x.c) := by rw [hPP]; rfl
  have HPE : Hid (PP 3 = pts x) := by rw [hPP]; rfl
  have p1 : 1 ≤ PP 1 ∧ PP 1 ≤ 2001 := by rw [hPP]; exact ⟨a0, a1⟩
  have p2 : 1 ≤ PP 2 ∧ PP 2 ≤ 4004001 := by rw [hPP]; exact ⟨e1, by show len1 x.a * len1 x.b ≤ _; omega⟩
  have p3 : 1 ≤ PP 3 ∧ PP 3 ≤ 8012006001 := by rw [hPP]; exact ⟨e3, e4⟩
  obtain ⟨R, hR⟩ : ∃ R, R = pts x := ⟨_, rfl⟩
  rw [← hR]
  have HR : Hid (R = PP 3) := hR.trans HPE.out.symm
  clear hPP hR e1 e2 e3 e4 a0 a1 b0 b1 g0 g1 hxo hx HPE
  obtain ⟨_, ⟨c0, c1, c2, c3, c4, c5⟩, _⟩ := hA0.out
  obtain ⟨⟨x0, x1⟩, ⟨x2, x3⟩, ⟨x4, x5⟩⟩ := x
  unfold Bx.val
  dsimp only [Bx.obj, Nat.zero_add] at hW1 c0 c1 c2 c3 c4 c5
  dsimp only at hax hbx hgx
  have ix0 : ∀ w : World, (Instr.index 60 (.agg #[.int .i64 x0, .int .i64 x1, .int .i64 x2, .int .i64 x3, .int .i64 x4, .int .i64 x5]) (.int .i64 0)).run Try.prog w = .ok (.agg #[.int .i64 x0, .int .i64 x1]) w := fun _ => by kernel_rfl
  have ix1 : ∀ w : World, (Instr.index 60 (.agg #[.int .i64 x0, .int .i64 x1, .int .i64 x2, .int .i64 x3, .int .i64 x4, .int .i64 x5]) (.int .i64 1)).run Try.prog w = .ok (.agg #[.int .i64 x2, .int .i64 x3]) w := fun _ => by kernel_rfl
  have ix2 : ∀ w : World, (Instr.index 60 (.agg #[.int .i64 x0, .int .i64 x1, .int .i64 x2, .int .i64 x3, .int .i64 x4, .int .i64 x5]) (.int .i64 2)).run Try.prog w = .ok (.agg #[.int .i64 x4, .int .i64 x5]) w := fun _ => by kernel_rfl
  go_enter Try.func59, Try.ntmps59
  go_upto_region 1 with fail
  rw [← hW1]
  clear hW1
  go_wp2
  clear c0 c1 c2 c3 c4 c5
  go_loopw [3, 7] (fun vm vi wr => ∃ i : Nat, i ≤ 3 ∧ vi = .int .i64 (i : Int) ∧ vm = .int .i64 (PP i) ∧ Hid (Below w.heap.size w wr))
    (fun _ vi _ => 3 - (intOf vi).toNat)
  case atStart => exact ⟨0, by omega, rfl, by rw [HP0.out], hB1⟩
  case round =>
    obtain ⟨i, hi, rfl, rfl, hBw⟩ := hrel
    have hcase : i = 0 ∨ i = 1 ∨ i = 2 ∨ i = 3 := by omega
    rcases hcase with rfl | rfl | rfl | rfl
    · obtain ⟨W4, hW4⟩ : ∃ W, W = wr.alloc (.cells #[.int .i64 x0, .int .i64 x1] 58) := ⟨_, rfl⟩
      have hB4 : Below wr.heap.size wr W4 := by rw [hW4]; exact (Below.refl _ wr).alloc (Nat.le_refl _) _
      have z0 : W4.cell? ⟨wr.heap.size, 0, none⟩ = some (.int .i64 x0) := by rw [hW4]; go_simp
      have z1 : W4.cell? ⟨wr.heap.size, 1, none⟩ = some (.int .i64 x1) := by rw [hW4]; go_simp
      have HB4 : Hid (Below w.heap.size w W4) := hBw.out.trans (hB4.mono hBw.out.size)
      have hn : PP 1 = PP 0 * (x1 - x0 + 1) := HP1.out
      have hm1 : (-9223372036854775808 : Int) ≤ PP 0 * (x1 - x0 + 1) := by rw [← hn]; omega
      have hm2 : PP 0 * (x1 - x0 + 1) ≤ 9223372036854775807 := by rw [← hn]; omega
      have HN : Hid (PP 1 = PP 0 * (x1 - x0 + 1)) := hn
      clear hn
      go_upto_region 5 with fail
      rw [← hW4]
      clear hW4 hB4 hBw
      go_wp2
      go_roundw
      case rel => exact ⟨1, by omega, by go_num, by rw [HN.out], HB4⟩
      case measure => simp [intOf]
    · obtain ⟨W4, hW4⟩ : ∃ W, W = wr.alloc (.cells #[.int .i64 x2, .int .i64 x3] 58) := ⟨_, rfl⟩
      have hB4 : Below wr.heap.size wr W4 := by rw [hW4]; exact (Below.refl _ wr).alloc (Nat.le_refl _) _
      have z0 : W4.cell? ⟨wr.heap.size, 0, none⟩ = some (.int .i64 x2) := by rw [hW4]; go_simp
      have z1 : W4.cell? ⟨wr.heap.size, 1, none⟩ = some (.int .i64 x3) := by rw [hW4]; go_simp
      have HB4 : Hid (Below w.heap.size w W4) := hBw.out.trans (hB4.mono hBw.out.size)
      have hn : PP 2 = PP 1 * (x3 - x2 + 1) := HP2.out
      have hm1 : (-9223372036854775808 : Int) ≤ PP 1 * (x3 - x2 + 1) := by rw [← hn]; omega
      have hm2 : PP 1 * (x3 - x2 + 1) ≤ 9223372036854775807 := by rw [← hn]; omega
      have HN : Hid (PP 2 = PP 1 * (x3 - x2 + 1)) := hn
      clear hn
      go_upto_region 5 with fail
      rw [← hW4]
      clear hW4 hB4 hBw
      go_wp2
      go_roundw
      case rel => exact ⟨2, by omega, by go_num, by rw [HN.out], HB4⟩
      case measure => simp [intOf]
    · obtain ⟨W4, hW4⟩ : ∃ W, W = wr.alloc (.cells #[.int .i64 x4, .int .i64 x5] 58) := ⟨_, rfl⟩
      have hB4 : Below wr.heap.size wr W4 := by rw [hW4]; exact (Below.refl _ wr).alloc (Nat.le_refl _) _
      have z0 : W4.cell? ⟨wr.heap.size, 0, none⟩ = some (.int .i64 x4) := by rw [hW4]; go_simp
      have z1 : W4.cell? ⟨wr.heap.size, 1, none⟩ = some (.int .i64 x5) := by rw [hW4]; go_simp
      have HB4 : Hid (Below w.heap.size w W4) := hBw.out.trans (hB4.mono hBw.out.size)
      have hn : PP 3 = PP 2 * (x5 - x4 + 1) := HP3.out
      have hm1 : (-9223372036854775808 : Int) ≤ PP 2 * (x5 - x4 + 1) := by rw [← hn]; omega
      have hm2 : PP 2 * (x5 - x4 + 1) ≤ 9223372036854775807 := by rw [← hn]; omega
      have HN : Hid (PP 3 = PP 2 * (x5 - x4 + 1)) := hn
      clear hn
      go_upto_region 5 with fail
      rw [← hW4]
      clear hW4 hB4 hBw
      go_wp2
      go_roundw
      case rel => exact ⟨3, by omega, by go_num, by rw [HN.out], HB4⟩
      case measure => simp [intOf]
    · have HE : Hid (R = PP 3) := HR
      go_wp2
      go_ret
      exact ⟨by rw [HE.out]; rfl, hBw.out⟩

end Go.Proofs.Ytnbaeplbnonhkaa
