/- The program's way down: its arms. -/
import Derived.Test.YtlglngmlaknmlaaLgO
import Derived.Deep.QuietTactic
import Derived.BigQuiet
namespace Go.Proofs.Ytlglngmlaknmlaa
open Go.RowKit Plain Lgs Tpc

theorem wrap_id {x : Int} (h0 : 0 ≤ x) (h1 : x ≤ 1000000000) : IntKind.i64.wrap x = x := by
  unfold IntKind.wrap IntKind.bits IntKind.signed
  simp only [Bool.true_and]
  rw [show ((2 : Int) ^ 64) = 18446744073709551616 from rfl, show ((2 : Int) ^ (64 - 1)) = 9223372036854775808 from rfl]
  rw [if_neg (by rw [decide_eq_true_eq]; omega)]
  omega

/-- what a way's making answers -/
def ORt (W w' : World) (e : Ending) (R : (Nat × Nat) × List As) : Prop := ∃ v, e = .returned (.agg #[.int .i64 (R.1.1 : Int), .int .i64 (R.1.2 : Int), v]) ∧ AsRow w' W.heap.size v R.2 ∧ Below W.heap.size W w'

/-- the two parts in variables of their own -/
def KRt (w : World) (a b s : Nat) (s8 s9 : Value) (wx : World) : Prop := ∃ g8 g9, s8 = .pointer (some ⟨g8, 0, none⟩) ∧ s9 = .pointer (some ⟨g9, 0, none⟩) ∧ w.heap.size ≤ g8 ∧ w.heap.size ≤ g9 ∧ g8 < wx.heap.size ∧ g9 < wx.heap.size ∧ wx.cell? ⟨g8, 0, none⟩ = some (.int .i64 (a : Int)) ∧ wx.cell? ⟨g8, 1, none⟩ = some (.int .i64 ((a : Int) + (s : Int))) ∧ wx.cell? ⟨g9, 0, none⟩ = some (.int .i64 ((a : Int) + (s : Int))) ∧ wx.cell? ⟨g9, 1, none⟩ = some (.int .i64 (b : Int)) ∧ Below w.heap.size w wx

theorem KRt.ab (w : World) (a b s : Nat) : KRt w a b s (.pointer (some ⟨w.heap.size, 0, none⟩)) (.pointer (some ⟨w.heap.size + 1, 0, none⟩)) ((w.alloc (.cells #[.int .i64 (a : Int), .int .i64 ((a : Int) + (s : Int))] 70)).alloc (.cells #[.int .i64 ((a : Int) + (s : Int)), .int .i64 (b : Int)] 70)).drew := by
  refine ⟨_, _, rfl, rfl, Nat.le_refl _, Nat.le_succ _, by simp; omega, by simp, ?_, ?_, ?_, ?_, (((Below.refl _ w).alloc (Nat.le_refl _) _).alloc (by simp) _).drew⟩ <;> go_simp

theorem KRt.ba (w : World) (a b s : Nat) : KRt w a b s (.pointer (some ⟨w.heap.size + 1, 0, none⟩)) (.pointer (some ⟨w.heap.size, 0, none⟩)) ((w.alloc (.cells #[.int .i64 ((a : Int) + (s : Int)), .int .i64 (b : Int)] 70)).alloc (.cells #[.int .i64 (a : Int), .int .i64 ((a : Int) + (s : Int))] 70)).drew := by
  refine ⟨_, _, rfl, rfl, Nat.le_succ _, Nat.le_refl _, by simp, by simp; omega, ?_, ?_, ?_, ?_, (((Below.refl _ w).alloc (Nat.le_refl _) _).alloc (by simp) _).drew⟩ <;> go_simp

attribute [local go_sem ↓] Go.wp_at_zero Go.wp_at_succ in
set_option maxRecDepth 100000 in
set_option maxHeartbeats 4000000 in
theorem routeTo_one_left (a b k s : Nat) (R : (Nat × Nat) × List As) (w : World) (h1 : 1 ≤ s) (h2 : a + s < b) (h4 : b ≤ 40) (hk : (k : Int) < (a : Int) + (s : Int)) (hL : R.2.length ≤ 40)
    (CQ : Hid (∀ W, Below w.heap.size w W → Calls Try.prog 88 #[.agg #[.int .i64 (a : Int), .int .i64 (b : Int)]] W fun e w' => e = .returned (.bool false) ∧ Below W.heap.size W w'))
    (CS : Hid (∀ W, Calls Try.prog 49 #[.int .i64 ((b : Int) - (a : Int))] W fun e w' => e = .returned (.int .i64 (s : Int)) ∧ w' = W))
    (CR : Hid (∀ W, Below w.heap.size w W → Calls Try.prog 87 #[.agg #[.int .i64 (a : Int), .int .i64 ((a : Int) + (s : Int))], .int .i64 (k : Int), .func (.func 88) #[] #[]] W fun e w' => ORt W w' e R)) :
    Calls Try.prog 87 #[.agg #[.int .i64 (a : Int), .int .i64 (b : Int)], .int .i64 (k : Int), .func (.func 88) #[] #[]] w fun e w' => ORt w w' e (R.1, R.2 ++ [(⟨a + s, b, false⟩ : As)]) := by
  have rc := fun (tmps : Array Value) (P : Program) (w : World) => results_cellL (fn := Try.f87) (p := 6) (ty := 75) rfl tmps P w
  obtain ⟨W0, hW0⟩ : ∃ W, W = (w.alloc (.cells #[.int .i64 (a : Int), .int .i64 (b : Int)] 70)).alloc (.cells #[.int .i64 0, .int .i64 0, .slice none 0 0] 75) := ⟨_, rfl⟩
  have hB0 : Below w.heap.size w W0 := by rw [hW0]; exact ((Below.refl _ w).alloc (Nat.le_refl _) _).alloc (by simp) _
  have hs0 : W0.heap.size = w.heap.size + 2 := by rw [hW0]; simp
  have X0 : Hid (W0.cell? ⟨w.heap.size, 0, none⟩ = some (.int .i64 (a : Int))) := by show _ = _; rw [hW0]; go_simp
  have X1 : Hid (W0.cell? ⟨w.heap.size, 1, none⟩ = some (.int .i64 (b : Int))) := by show _ = _; rw [hW0]; go_simp
  have Y0 : Hid (W0.cell? ⟨w.heap.size + 1, 0, none⟩ = some (.int .i64 0)) := by show _ = _; rw [hW0]; go_simp
  have Y1 : Hid (W0.cell? ⟨w.heap.size + 1, 1, none⟩ = some (.int .i64 0)) := by show _ = _; rw [hW0]; go_simp
  have Y2 : Hid (W0.cell? ⟨w.heap.size + 1, 2, none⟩ = some (.slice none 0 0)) := by show _ = _; rw [hW0]; go_simp
  have Z0 : Hid (W0.frozen? ⟨w.heap.size + 1, 0, none⟩ = false) := by show _ = _; rw [hW0]; go_simp
  have Z1 : Hid (W0.frozen? ⟨w.heap.size + 1, 1, none⟩ = false) := by show _ = _; rw [hW0]; go_simp
  have Z2 : Hid (W0.frozen? ⟨w.heap.size + 1, 2, none⟩ = false) := by show _ = _; rw [hW0]; go_simp
  have x0 := X0.out
  have x1 := X1.out
  have hsum : IntKind.i64.wrap ((a : Int) + (s : Int)) = (a : Int) + (s : Int) := wrap_id (by omega) (by omega)
  have hdif : IntKind.i64.wrap ((b : Int) - (a : Int)) = (b : Int) - (a : Int) := wrap_id (by omega) (by omega)
  go_enter Try.func87, Try.ntmps87
  go_upto_region 1 with fail
  rw [← hW0]
  clear hW0
  go_wp2_with fail
  go_at_call 88
  refine (CQ.out _ hB0).mono ?_
  rintro e w1 ⟨rfl, hb1⟩
  have HB1 : Hid (Below (w.heap.size + 2) W0 w1) := by rw [← hs0]; exact hb1
  have x0 := (HB1.out.cell (p := ⟨w.heap.size, 0, none⟩) (by show w.heap.size < _; omega)).trans X0.out
  have x1 := (HB1.out.cell (p := ⟨w.heap.size, 1, none⟩) (by show w.heap.size < _; omega)).trans X1.out
  clear hb1
  go_wp2_with fail
  go_quiet (first
    | (go_at_call 49; exact Calls.quiet_of_same (CS.out _)))
  clear CS CQ
  go_upto_region 4 with fail
  rename Nat => m9
  obtain ⟨w2, hw2⟩ : ∃ W, W = w1.drewN m9 := ⟨_, rfl⟩
  rw [← hw2]
  have HB2 : Hid (Below (w.heap.size + 2) W0 w2) := by rw [hw2]; exact below_drewT HB1.out
  clear hw2 HB1 x0 x1
  have hs2 : w.heap.size + 2 ≤ w2.heap.size := by have := HB2.out.size; omega
  have HS : Hid (∀ V : World, Below w2.heap.size w2 V → V.cell? ⟨w.heap.size, 0, none⟩ = some (.int .i64 (a : Int)) ∧ V.cell? ⟨w.heap.size, 1, none⟩ = some (.int .i64 (b : Int))) := fun V hV =>
    ⟨((hV.mono (by omega : w.heap.size + 2 ≤ _)).cell (p := ⟨w.heap.size, 0, none⟩) (by show w.heap.size < _; omega)).trans ((HB2.out.cell (p := ⟨w.heap.size, 0, none⟩) (by show w.heap.size < _; omega)).trans X0.out), ((hV.mono (by omega : w.heap.size + 2 ≤ _)).cell (p := ⟨w.heap.size, 1, none⟩) (by show w.heap.size < _; omega)).trans ((HB2.out.cell (p := ⟨w.heap.size, 1, none⟩) (by show w.heap.size < _; omega)).trans X1.out)⟩
  clear X0 X1
  have hSd := HS.out _ ((Below.refl _ w2).drew)
  go_cut [8, 9] from 26 to 33 (fun s8 s9 wx => KRt w2 a b s s8 s9 wx)
  case first =>
    clear CR
    go_region_held3 (fun V => V.cell? ⟨w.heap.size, 0, none⟩ = some (.int .i64 (a : Int)) ∧ V.cell? ⟨w.heap.size, 1, none⟩ = some (.int .i64 (b : Int)))
      (first
        | with_reducible exact hSd
        | exact HS.out _ (Below.drew (by repeat' (first | exact Below.refl _ _ | refine Below.alloc ?_ (by simp) _))))
      (fail)
    all_goals
      go_wp2_with fail
      go_meet
      first | exact KRt.ab w2 a b s | exact KRt.ba w2 a b s
  case rest =>
    obtain ⟨g8, g9, rfl, rfl, hg8, hg9, hl8, hl9, c80, c81, c90, c91, hbc⟩ := hcut
    obtain ⟨U, hU⟩ : ∃ U, U = wc := ⟨_, rfl⟩
    rw [← hU] at hl8 hl9 c80 c81 c90 c91 hbc ⊢
    clear hU hSd HS
    have HBU : Hid (Below (w.heap.size + 2) W0 U) := HB2.out.trans (hbc.mono hs2)
    have hsU : w.heap.size + 2 ≤ U.heap.size := by have := HBU.out.size; omega
    have HBw : Hid (Below w.heap.size w U) := hB0.trans (HBU.out.mono (by omega))
    clear hbc HB2
    go_wp2_with fail
    go_at_call 87
    refine (CR.out _ HBw.out).mono ?_
    rintro e w5 ⟨v, rfl, hr5, hb5⟩
    have hs5 := hb5.size
    obtain ⟨ar, capr, hv, hnr, hcmr⟩ := hr5.slice
    subst hv
    obtain ⟨W6, hW6⟩ : ∃ W, W = w5.alloc (.cells #[.int .i64 (R.1.1 : Int), .int .i64 (R.1.2 : Int), .slice ar R.2.length capr] 75) := ⟨_, rfl⟩
    have hB6 : Below w5.heap.size w5 W6 := by rw [hW6]; exact (Below.refl _ w5).alloc (Nat.le_refl _) _
    have hs6 : W6.heap.size = w5.heap.size + 1 := by rw [hW6]; simp
    have HRt : Hid (Rt W6 w5.heap.size U.heap.size (.slice ar R.2.length capr) R.1.1 R.1.2 R.2) := by
      refine ⟨by omega, ?_, ?_, ?_, ?_, own_belowL hr5 hB6, fun g hg => by have := (World.ownsRow.lt hr5 g hg).2; omega⟩ <;> (rw [hW6]; go_simp)
    have HBU6 : Hid (Below U.heap.size U W6) := hb5.trans (hB6.mono hs5)
    go_upto_region 7 with fail
    rw [← hW6]
    clear hW6
    have d0 := (HBU6.out.cell (p := ⟨g9, 0, none⟩) (by assumption)).trans c90
    have d1 := (HBU6.out.cell (p := ⟨g9, 1, none⟩) (by assumption)).trans c91
    have CA : Hid (Calls Try.prog 94 #[.pointer (some ⟨w5.heap.size, 2, none⟩), .agg #[.int .i64 ((a : Int) + (s : Int)), .int .i64 (b : Int), .bool false]] W6 fun e w' => e = .returned (.tuple #[]) ∧ ∃ v', Rt w' w5.heap.size U.heap.size v' R.1.1 R.1.2 (R.2 ++ [(⟨a + s, b, false⟩ : As)]) ∧ Pl W6 w' w5.heap.size (.slice ar R.2.length capr) v') := addAs_any (⟨a + s, b, false⟩ : As) w5.heap.size U.heap.size _ R.1.1 R.1.2 R.2 W6 HRt.out (by omega) (by omega)
    have hne : ∀ g, (Value.slice ar R.2.length capr).ownBlock = some g → U.heap.size ≤ g := fun g hg => (World.ownsRow.lt hr5 g hg).1
    clear HRt hr5 c80 c81 c90 c91 hb5
    go_wp2_with fail
    go_at_call 94
    refine CA.out.mono ?_
    rintro e w7 ⟨rfl, v7, hR7, hP7⟩
    have HBU7 : Hid (Below U.heap.size U w7) := HBU6.out.trans (hP7.below (by omega) hs5 hne)
    have HBW7 : Hid (Below (w.heap.size + 2) W0 w7) := HBU.out.trans (HBU7.out.mono hsU)
    have hs7 := HBU7.out.size
    have n0 := hR7.fr
    have n1 := hR7.tt
    have n2 := hR7.row
    have hl7 := hR7.low
    have y0 := (HBW7.out.cell (p := ⟨w.heap.size + 1, 0, none⟩) (by show w.heap.size + 1 < _; omega)).trans Y0.out
    have y1 := (HBW7.out.cell (p := ⟨w.heap.size + 1, 1, none⟩) (by show w.heap.size + 1 < _; omega)).trans Y1.out
    have y2 := (HBW7.out.cell (p := ⟨w.heap.size + 1, 2, none⟩) (by show w.heap.size + 1 < _; omega)).trans Y2.out
    have z0 := (HBW7.out.frozen (p := ⟨w.heap.size + 1, 0, none⟩) (by show w.heap.size + 1 < _; omega)).trans Z0.out
    have z1 := (HBW7.out.frozen (p := ⟨w.heap.size + 1, 1, none⟩) (by show w.heap.size + 1 < _; omega)).trans Z1.out
    have z2 := (HBW7.out.frozen (p := ⟨w.heap.size + 1, 2, none⟩) (by show w.heap.size + 1 < _; omega)).trans Z2.out
    have hrow := hR7.own
    obtain ⟨ar7, capr7, hv7, _, _⟩ := hrow.slice
    rw [show (R.2 ++ [(⟨a + s, b, false⟩ : As)]).length = R.2.length + 1 by simp] at hv7
    subst hv7
    have HEND : Hid (ORt w (((w7.setCell ⟨w.heap.size + 1, 0, none⟩ (.int .i64 (R.1.1 : Int))).setCell ⟨w.heap.size + 1, 1, none⟩ (.int .i64 (R.1.2 : Int))).setCell ⟨w.heap.size + 1, 2, none⟩ (.slice ar7 (R.2.length + 1) capr7)) (.returned (.agg #[.int .i64 (R.1.1 : Int), .int .i64 (R.1.2 : Int), .slice ar7 (R.2.length + 1) capr7])) (R.1, R.2 ++ [(⟨a + s, b, false⟩ : As)])) := by
      have hne7 : ∀ g, (Value.slice ar7 (R.2.length + 1) capr7).ownBlock = some g → some g ≠ some (w.heap.size + 1) := fun g hg e => by
        have := (World.ownsRow.lt hrow g hg).1
        simp only [Option.some.injEq] at e
        omega
      refine ⟨_, rfl, ?_, ?_⟩
      · exact own_asideL (own_asideL (own_asideL (AsRow.lower hrow (by omega)) (Lib.grownBy_setCell _ (w.heap.size + 1) 0 _) hne7) (Lib.grownBy_setCell _ (w.heap.size + 1) 1 _) hne7) (Lib.grownBy_setCell _ (w.heap.size + 1) 2 _) hne7
      · exact (((hB0.trans (HBW7.out.mono (by omega))).setCell (p := ⟨w.heap.size + 1, 0, none⟩) (Nat.le_succ _) _).setCell (p := ⟨w.heap.size + 1, 1, none⟩) (Nat.le_succ _) _).setCell (p := ⟨w.heap.size + 1, 2, none⟩) (Nat.le_succ _) _
    clear hR7 hP7 hrow CA
    go_wp2
    (try simp only [Exit.inBlock, Exit.then])
    refine bodyPost_ret (v := .agg #[.int .i64 (R.1.1 : Int), .int .i64 (R.1.2 : Int), .slice ar7 (R.2.length + 1) capr7]) ?_ rfl HEND.out
    rw [rc]
    go_simp

attribute [local go_sem ↓] Go.wp_at_zero Go.wp_at_succ in
set_option maxRecDepth 100000 in
set_option maxHeartbeats 4000000 in
theorem routeTo_one_right (a b k s : Nat) (R : (Nat × Nat) × List As) (w : World) (h1 : 1 ≤ s) (h2 : a + s < b) (h4 : b ≤ 40) (hk : ¬ (k : Int) < (a : Int) + (s : Int)) (hL : R.2.length ≤ 40)
    (CQ : Hid (∀ W, Below w.heap.size w W → Calls Try.prog 88 #[.agg #[.int .i64 (a : Int), .int .i64 (b : Int)]] W fun e w' => e = .returned (.bool false) ∧ Below W.heap.size W w'))
    (CS : Hid (∀ W, Calls Try.prog 49 #[.int .i64 ((b : Int) - (a : Int))] W fun e w' => e = .returned (.int .i64 (s : Int)) ∧ w' = W))
    (CR : Hid (∀ W, Below w.heap.size w W → Calls Try.prog 87 #[.agg #[.int .i64 ((a : Int) + (s : Int)), .int .i64 (b : Int)], .int .i64 (k : Int), .func (.func 88) #[] #[]] W fun e w' => ORt W w' e R)) :
    Calls Try.prog 87 #[.agg #[.int .i64 (a : Int), .int .i64 (b : Int)], .int .i64 (k : Int), .func (.func 88) #[] #[]] w fun e w' => ORt w w' e (R.1, R.2 ++ [(⟨a, a + s, true⟩ : As)]) := by
  have rc := fun (tmps : Array Value) (P : Program) (w : World) => results_cellL (fn := Try.f87) (p := 6) (ty := 75) rfl tmps P w
  obtain ⟨W0, hW0⟩ : ∃ W, W = (w.alloc (.cells #[.int .i64 (a : Int), .int .i64 (b : Int)] 70)).alloc (.cells #[.int .i64 0, .int .i64 0, .slice none 0 0] 75) := ⟨_, rfl⟩
  have hB0 : Below w.heap.size w W0 := by rw [hW0]; exact ((Below.refl _ w).alloc (Nat.le_refl _) _).alloc (by simp) _
  have hs0 : W0.heap.size = w.heap.size + 2 := by rw [hW0]; simp
  have X0 : Hid (W0.cell? ⟨w.heap.size, 0, none⟩ = some (.int .i64 (a : Int))) := by show _ = _; rw [hW0]; go_simp
  have X1 : Hid (W0.cell? ⟨w.heap.size, 1, none⟩ = some (.int .i64 (b : Int))) := by show _ = _; rw [hW0]; go_simp
  have Y0 : Hid (W0.cell? ⟨w.heap.size + 1, 0, none⟩ = some (.int .i64 0)) := by show _ = _; rw [hW0]; go_simp
  have Y1 : Hid (W0.cell? ⟨w.heap.size + 1, 1, none⟩ = some (.int .i64 0)) := by show _ = _; rw [hW0]; go_simp
  have Y2 : Hid (W0.cell? ⟨w.heap.size + 1, 2, none⟩ = some (.slice none 0 0)) := by show _ = _; rw [hW0]; go_simp
  have Z0 : Hid (W0.frozen? ⟨w.heap.size + 1, 0, none⟩ = false) := by show _ = _; rw [hW0]; go_simp
  have Z1 : Hid (W0.frozen? ⟨w.heap.size + 1, 1, none⟩ = false) := by show _ = _; rw [hW0]; go_simp
  have Z2 : Hid (W0.frozen? ⟨w.heap.size + 1, 2, none⟩ = false) := by show _ = _; rw [hW0]; go_simp
  have x0 := X0.out
  have x1 := X1.out
  have hsum : IntKind.i64.wrap ((a : Int) + (s : Int)) = (a : Int) + (s : Int) := wrap_id (by omega) (by omega)
  have hdif : IntKind.i64.wrap ((b : Int) - (a : Int)) = (b : Int) - (a : Int) := wrap_id (by omega) (by omega)
  go_enter Try.func87, Try.ntmps87
  go_upto_region 1 with fail
  rw [← hW0]
  clear hW0
  go_wp2_with fail
  go_at_call 88
  refine (CQ.out _ hB0).mono ?_
  rintro e w1 ⟨rfl, hb1⟩
  have HB1 : Hid (Below (w.heap.size + 2) W0 w1) := by rw [← hs0]; exact hb1
  have x0 := (HB1.out.cell (p := ⟨w.heap.size, 0, none⟩) (by show w.heap.size < _; omega)).trans X0.out
  have x1 := (HB1.out.cell (p := ⟨w.heap.size, 1, none⟩) (by show w.heap.size < _; omega)).trans X1.out
  clear hb1
  go_wp2_with fail
  go_quiet (first
    | (go_at_call 49; exact Calls.quiet_of_same (CS.out _)))
  clear CS CQ
  go_upto_region 4 with fail
  rename Nat => m9
  obtain ⟨w2, hw2⟩ : ∃ W, W = w1.drewN m9 := ⟨_, rfl⟩
  rw [← hw2]
  have HB2 : Hid (Below (w.heap.size + 2) W0 w2) := by rw [hw2]; exact below_drewT HB1.out
  clear hw2 HB1 x0 x1
  have hs2 : w.heap.size + 2 ≤ w2.heap.size := by have := HB2.out.size; omega
  have HS : Hid (∀ V : World, Below w2.heap.size w2 V → V.cell? ⟨w.heap.size, 0, none⟩ = some (.int .i64 (a : Int)) ∧ V.cell? ⟨w.heap.size, 1, none⟩ = some (.int .i64 (b : Int))) := fun V hV =>
    ⟨((hV.mono (by omega : w.heap.size + 2 ≤ _)).cell (p := ⟨w.heap.size, 0, none⟩) (by show w.heap.size < _; omega)).trans ((HB2.out.cell (p := ⟨w.heap.size, 0, none⟩) (by show w.heap.size < _; omega)).trans X0.out), ((hV.mono (by omega : w.heap.size + 2 ≤ _)).cell (p := ⟨w.heap.size, 1, none⟩) (by show w.heap.size < _; omega)).trans ((HB2.out.cell (p := ⟨w.heap.size, 1, none⟩) (by show w.heap.size < _; omega)).trans X1.out)⟩
  clear X0 X1
  have hSd := HS.out _ ((Below.refl _ w2).drew)
  go_cut [8, 9] from 26 to 33 (fun s8 s9 wx => KRt w2 a b s s8 s9 wx)
  case first =>
    clear CR
    go_region_held3 (fun V => V.cell? ⟨w.heap.size, 0, none⟩ = some (.int .i64 (a : Int)) ∧ V.cell? ⟨w.heap.size, 1, none⟩ = some (.int .i64 (b : Int)))
      (first
        | with_reducible exact hSd
        | exact HS.out _ (Below.drew (by repeat' (first | exact Below.refl _ _ | refine Below.alloc ?_ (by simp) _))))
      (fail)
    all_goals
      go_wp2_with fail
      go_meet
      first | exact KRt.ab w2 a b s | exact KRt.ba w2 a b s
  case rest =>
    obtain ⟨g8, g9, rfl, rfl, hg8, hg9, hl8, hl9, c80, c81, c90, c91, hbc⟩ := hcut
    obtain ⟨U, hU⟩ : ∃ U, U = wc := ⟨_, rfl⟩
    rw [← hU] at hl8 hl9 c80 c81 c90 c91 hbc ⊢
    clear hU hSd HS
    have HBU : Hid (Below (w.heap.size + 2) W0 U) := HB2.out.trans (hbc.mono hs2)
    have hsU : w.heap.size + 2 ≤ U.heap.size := by have := HBU.out.size; omega
    have HBw : Hid (Below w.heap.size w U) := hB0.trans (HBU.out.mono (by omega))
    clear hbc HB2
    go_wp2_with fail
    go_at_call 87
    refine (CR.out _ HBw.out).mono ?_
    rintro e w5 ⟨v, rfl, hr5, hb5⟩
    have hs5 := hb5.size
    obtain ⟨ar, capr, hv, hnr, hcmr⟩ := hr5.slice
    subst hv
    obtain ⟨W6, hW6⟩ : ∃ W, W = w5.alloc (.cells #[.int .i64 (R.1.1 : Int), .int .i64 (R.1.2 : Int), .slice ar R.2.length capr] 75) := ⟨_, rfl⟩
    have hB6 : Below w5.heap.size w5 W6 := by rw [hW6]; exact (Below.refl _ w5).alloc (Nat.le_refl _) _
    have hs6 : W6.heap.size = w5.heap.size + 1 := by rw [hW6]; simp
    have HRt : Hid (Rt W6 w5.heap.size U.heap.size (.slice ar R.2.length capr) R.1.1 R.1.2 R.2) := by
      refine ⟨by omega, ?_, ?_, ?_, ?_, own_belowL hr5 hB6, fun g hg => by have := (World.ownsRow.lt hr5 g hg).2; omega⟩ <;> (rw [hW6]; go_simp)
    have HBU6 : Hid (Below U.heap.size U W6) := hb5.trans (hB6.mono hs5)
    go_upto_region 10 with fail
    rw [← hW6]
    clear hW6
    have d0 := (HBU6.out.cell (p := ⟨g8, 0, none⟩) (by assumption)).trans c80
    have d1 := (HBU6.out.cell (p := ⟨g8, 1, none⟩) (by assumption)).trans c81
    have CA : Hid (Calls Try.prog 94 #[.pointer (some ⟨w5.heap.size, 2, none⟩), .agg #[.int .i64 (a : Int), .int .i64 ((a : Int) + (s : Int)), .bool true]] W6 fun e w' => e = .returned (.tuple #[]) ∧ ∃ v', Rt w' w5.heap.size U.heap.size v' R.1.1 R.1.2 (R.2 ++ [(⟨a, a + s, true⟩ : As)]) ∧ Pl W6 w' w5.heap.size (.slice ar R.2.length capr) v') := addAs_any (⟨a, a + s, true⟩ : As) w5.heap.size U.heap.size _ R.1.1 R.1.2 R.2 W6 HRt.out (by omega) (by omega)
    have hne : ∀ g, (Value.slice ar R.2.length capr).ownBlock = some g → U.heap.size ≤ g := fun g hg => (World.ownsRow.lt hr5 g hg).1
    clear HRt hr5 c80 c81 c90 c91 hb5
    go_wp2_with fail
    go_at_call 94
    refine CA.out.mono ?_
    rintro e w7 ⟨rfl, v7, hR7, hP7⟩
    have HBU7 : Hid (Below U.heap.size U w7) := HBU6.out.trans (hP7.below (by omega) hs5 hne)
    have HBW7 : Hid (Below (w.heap.size + 2) W0 w7) := HBU.out.trans (HBU7.out.mono hsU)
    have hs7 := HBU7.out.size
    have n0 := hR7.fr
    have n1 := hR7.tt
    have n2 := hR7.row
    have hl7 := hR7.low
    have y0 := (HBW7.out.cell (p := ⟨w.heap.size + 1, 0, none⟩) (by show w.heap.size + 1 < _; omega)).trans Y0.out
    have y1 := (HBW7.out.cell (p := ⟨w.heap.size + 1, 1, none⟩) (by show w.heap.size + 1 < _; omega)).trans Y1.out
    have y2 := (HBW7.out.cell (p := ⟨w.heap.size + 1, 2, none⟩) (by show w.heap.size + 1 < _; omega)).trans Y2.out
    have z0 := (HBW7.out.frozen (p := ⟨w.heap.size + 1, 0, none⟩) (by show w.heap.size + 1 < _; omega)).trans Z0.out
    have z1 := (HBW7.out.frozen (p := ⟨w.heap.size + 1, 1, none⟩) (by show w.heap.size + 1 < _; omega)).trans Z1.out
    have z2 := (HBW7.out.frozen (p := ⟨w.heap.size + 1, 2, none⟩) (by show w.heap.size + 1 < _; omega)).trans Z2.out
    have hrow := hR7.own
    obtain ⟨ar7, capr7, hv7, _, _⟩ := hrow.slice
    rw [show (R.2 ++ [(⟨a, a + s, true⟩ : As)]).length = R.2.length + 1 by simp] at hv7
    subst hv7
    have HEND : Hid (ORt w (((w7.setCell ⟨w.heap.size + 1, 0, none⟩ (.int .i64 (R.1.1 : Int))).setCell ⟨w.heap.size + 1, 1, none⟩ (.int .i64 (R.1.2 : Int))).setCell ⟨w.heap.size + 1, 2, none⟩ (.slice ar7 (R.2.length + 1) capr7)) (.returned (.agg #[.int .i64 (R.1.1 : Int), .int .i64 (R.1.2 : Int), .slice ar7 (R.2.length + 1) capr7])) (R.1, R.2 ++ [(⟨a, a + s, true⟩ : As)])) := by
      have hne7 : ∀ g, (Value.slice ar7 (R.2.length + 1) capr7).ownBlock = some g → some g ≠ some (w.heap.size + 1) := fun g hg e => by
        have := (World.ownsRow.lt hrow g hg).1
        simp only [Option.some.injEq] at e
        omega
      refine ⟨_, rfl, ?_, ?_⟩
      · exact own_asideL (own_asideL (own_asideL (AsRow.lower hrow (by omega)) (Lib.grownBy_setCell _ (w.heap.size + 1) 0 _) hne7) (Lib.grownBy_setCell _ (w.heap.size + 1) 1 _) hne7) (Lib.grownBy_setCell _ (w.heap.size + 1) 2 _) hne7
      · exact (((hB0.trans (HBW7.out.mono (by omega))).setCell (p := ⟨w.heap.size + 1, 0, none⟩) (Nat.le_succ _) _).setCell (p := ⟨w.heap.size + 1, 1, none⟩) (Nat.le_succ _) _).setCell (p := ⟨w.heap.size + 1, 2, none⟩) (Nat.le_succ _) _
    clear hR7 hP7 hrow CA
    go_wp2
    (try simp only [Exit.inBlock, Exit.then])
    refine bodyPost_ret (v := .agg #[.int .i64 (R.1.1 : Int), .int .i64 (R.1.2 : Int), .slice ar7 (R.2.length + 1) capr7]) ?_ rfl HEND.out
    rw [rc]
    go_simp

set_option maxRecDepth 100000 in
set_option maxHeartbeats 4000000 in
theorem isOne_any (a b : Nat) (w : World) (h1 : a < b) (h2 : b ≤ 1000) :
    Calls Try.prog 88 #[.agg #[.int .i64 (a : Int), .int .i64 (b : Int)]] w fun e w' => e = .returned (.bool (isOne a b)) ∧ Below w.heap.size w w' := by
  have HR : Hid (isOne a b = decide ((b : Int) - (a : Int) = 1)) := by show _ = _; unfold isOne; rw [decide_eq_decide]; omega
  rw [HR.out]
  clear HR
  go_enter Try.func88, Try.ntmps88
  go_wp2
  go_ret
  exact ⟨rfl, (Below.refl _ w).alloc (Nat.le_refl _) _⟩

set_option maxRecDepth 100000 in
set_option maxHeartbeats 4000000 in
theorem routeTo_one_begin (a b k : Nat) (w : World)
    (CQ : Hid (∀ W, Below w.heap.size w W → Calls Try.prog 88 #[.agg #[.int .i64 (a : Int), .int .i64 (b : Int)]] W fun e w' => e = .returned (.bool true) ∧ Below W.heap.size W w')) :
    Calls Try.prog 87 #[.agg #[.int .i64 (a : Int), .int .i64 (b : Int)], .int .i64 (k : Int), .func (.func 88) #[] #[]] w fun e w' => ORt w w' e ((a, b), []) := by
  have rc := fun (tmps : Array Value) (P : Program) (w : World) => results_cellL (fn := Try.f87) (p := 6) (ty := 75) rfl tmps P w
  obtain ⟨W0, hW0⟩ : ∃ W, W = (w.alloc (.cells #[.int .i64 (a : Int), .int .i64 (b : Int)] 70)).alloc (.cells #[.int .i64 0, .int .i64 0, .slice none 0 0] 75) := ⟨_, rfl⟩
  have hB0 : Below w.heap.size w W0 := by rw [hW0]; exact ((Below.refl _ w).alloc (Nat.le_refl _) _).alloc (by simp) _
  have hs0 : W0.heap.size = w.heap.size + 2 := by rw [hW0]; simp
  have x0 : W0.cell? ⟨w.heap.size, 0, none⟩ = some (.int .i64 (a : Int)) := by rw [hW0]; go_simp
  have x1 : W0.cell? ⟨w.heap.size, 1, none⟩ = some (.int .i64 (b : Int)) := by rw [hW0]; go_simp
  have y0 : W0.cell? ⟨w.heap.size + 1, 0, none⟩ = some (.int .i64 0) := by rw [hW0]; go_simp
  have y1 : W0.cell? ⟨w.heap.size + 1, 1, none⟩ = some (.int .i64 0) := by rw [hW0]; go_simp
  have y2 : W0.cell? ⟨w.heap.size + 1, 2, none⟩ = some (.slice none 0 0) := by rw [hW0]; go_simp
  have z0 : W0.frozen? ⟨w.heap.size + 1, 0, none⟩ = false := by rw [hW0]; go_simp
  have z1 : W0.frozen? ⟨w.heap.size + 1, 1, none⟩ = false := by rw [hW0]; go_simp
  have z2 : W0.frozen? ⟨w.heap.size + 1, 2, none⟩ = false := by rw [hW0]; go_simp
  go_enter Try.func87, Try.ntmps87
  go_upto_region 1 with fail
  rw [← hW0]
  clear hW0
  go_wp2_with fail
  go_at_call 88
  refine (CQ.out _ hB0).mono ?_
  rintro e w1 ⟨rfl, hb1⟩
  have hs1 := hb1.size
  have x0 := (hb1.cell (p := ⟨w.heap.size, 0, none⟩) (by show w.heap.size < _; omega)).trans x0
  have x1 := (hb1.cell (p := ⟨w.heap.size, 1, none⟩) (by show w.heap.size < _; omega)).trans x1
  have y0 := (hb1.cell (p := ⟨w.heap.size + 1, 0, none⟩) (by show w.heap.size + 1 < _; omega)).trans y0
  have y1 := (hb1.cell (p := ⟨w.heap.size + 1, 1, none⟩) (by show w.heap.size + 1 < _; omega)).trans y1
  have y2 := (hb1.cell (p := ⟨w.heap.size + 1, 2, none⟩) (by show w.heap.size + 1 < _; omega)).trans y2
  have z0 := (hb1.frozen (p := ⟨w.heap.size + 1, 0, none⟩) (by show w.heap.size + 1 < _; omega)).trans z0
  have z1 := (hb1.frozen (p := ⟨w.heap.size + 1, 1, none⟩) (by show w.heap.size + 1 < _; omega)).trans z1
  have z2 := (hb1.frozen (p := ⟨w.heap.size + 1, 2, none⟩) (by show w.heap.size + 1 < _; omega)).trans z2
  have hBE : Below w.heap.size w (((w1.setCell ⟨w.heap.size + 1, 0, none⟩ (.int .i64 (a : Int))).setCell ⟨w.heap.size + 1, 1, none⟩ (.int .i64 (b : Int))).setCell ⟨w.heap.size + 1, 2, none⟩ (.slice none 0 0)) := (((hB0.trans (hb1.mono (by omega))).setCell (p := ⟨w.heap.size + 1, 0, none⟩) (Nat.le_succ _) _).setCell (p := ⟨w.heap.size + 1, 1, none⟩) (Nat.le_succ _) _).setCell (p := ⟨w.heap.size + 1, 2, none⟩) (Nat.le_succ _) _
  clear hb1
  go_wp2
  (try simp only [Exit.inBlock, Exit.then])
  refine bodyPost_ret (v := .agg #[.int .i64 (a : Int), .int .i64 (b : Int), .slice none 0 0]) ?_ rfl ⟨_, rfl, AsRow.nil _ _, ?_⟩
  · rw [rc]
    go_simp
  · exact hBE

theorem routeTo_one (k : Nat) : ∀ (f a b : Nat) (w : World), a ≤ k → k < b → b - a ≤ f → b ≤ 40 →
    Calls Try.prog 87 #[.agg #[.int .i64 (a : Int), .int .i64 (b : Int)], .int .i64 (k : Int), .func (.func 88) #[] #[]] w fun e w' => ORt w w' e (rt isOne k f a b) := by
  intro f
  induction f with
  | zero => intro a b w h1 h2 h3; omega
  | succ f ih =>
    intro a b w h1 h2 h3 h4
    have CQ : Hid (∀ W, Below w.heap.size w W → Calls Try.prog 88 #[.agg #[.int .i64 (a : Int), .int .i64 (b : Int)]] W fun e w' => e = .returned (.bool (isOne a b)) ∧ Below W.heap.size W w') := fun W hW => isOne_any a b W (by omega) (by omega)
    by_cases hq : isOne a b = true
    · rw [hq] at CQ
      rw [rt, if_pos hq]
      exact routeTo_one_begin a b k w CQ
    · have hq' : isOne a b = false := by simpa using hq
      rw [hq'] at CQ
      have h2n := one_fit k a b h1 h2 hq'
      obtain ⟨s1, s2, s3⟩ := spl_pos h2n (by omega)
      have CS : Hid (∀ W, Calls Try.prog 49 #[.int .i64 ((b : Int) - (a : Int))] W fun e w' => e = .returned (.int .i64 ((spl (b - a) : Nat) : Int)) ∧ w' = W) := fun W => by
        have h := splitAt_any (b - a) W h2n (by omega)
        rw [show (((b - a : Nat) : Int)) = (b : Int) - (a : Int) by omega] at h
        exact h
      have e : ((a + spl (b - a) : Nat) : Int) = (a : Int) + ((spl (b - a) : Nat) : Int) := by omega
      rw [rt, if_neg hq]
      by_cases hk : k < a + spl (b - a)
      · rw [if_pos hk]
        have hl : (rt isOne k f a (a + spl (b - a))).2.length ≤ 6 := rt_len (one_fit k) f 6 a (a + spl (b - a)) (by omega) h1 hk (by omega) (by omega)
        refine routeTo_one_left a b k (spl (b - a)) (rt isOne k f a (a + spl (b - a))) w s1 (by omega) h4 (by omega) (by omega) CQ CS (fun W hW => ?_)
        have h := ih a (a + spl (b - a)) W h1 hk (by omega) (by omega)
        rw [e] at h
        exact h
      · rw [if_neg hk]
        have hl : (rt isOne k f (a + spl (b - a)) b).2.length ≤ 6 := rt_len (one_fit k) f 6 (a + spl (b - a)) b (by omega) (by omega) h2 (by omega) (by omega)
        refine routeTo_one_right a b k (spl (b - a)) (rt isOne k f (a + spl (b - a)) b) w s1 (by omega) h4 (by omega) (by omega) CQ CS (fun W hW => ?_)
        have h := ih (a + spl (b - a)) b W (by omega) h2 (by omega) h4
        rw [e] at h
        exact h

end Go.Proofs.Ytlglngmlaknmlaa
