/- The program's told: a queue under way as a queue. -/
import Derived.Test.YtfkhbbmnjndmcaaQuR
import Derived.Test.YtfkhbbmnjndmcaaQuK
import Derived.Test.YtfkhbbmnjndmcaaInvA
import Derived.OpenShut
namespace Go.Proofs.Ytfkhbbmnjndmcaa
open Go.RowKit Plain Qus

def ToI (w : World) (c r : Int) (M : List Int) (b : Nat) (l : Array Bool) (a : Act) (W : World) : Prop :=
  l.size = 18 ∧ Below w.heap.size w W ∧ w.heap.size + 1 ≤ W.heap.size ∧ (l.getD 17 false = false → Sv W w.heap.size (.int .i64 0) (.int .i64 0) (.int .i64 0) (.slice none 0 0) (.slice none 0 0) (.slice none 0 0)) ∧ ∃ u3 u4 u5 u6 u7 u8 u9 u10 u11 u12 u13 u14 u15 u16 u17 u18 u19 : Value, a = ⟨#[.pointer (some ⟨b, 0, none⟩), undef, .pointer (some ⟨w.heap.size, 0, none⟩), u3, u4, u5, u6, u7, u8, u9, u10, u11, u12, u13, u14, u15, u16, u17, u18, u19], []⟩ ∧
    (l.getD 0 false = true → u3 = .pointer (some ⟨b, 0, none⟩)) ∧
    (l.getD 1 false = true → u4 = .pointer (some ⟨b, 0, none⟩)) ∧
    (l.getD 2 false = true → u5 = .pointer (some ⟨b, 0, none⟩)) ∧
    (l.getD 3 false = true → u6 = .int .i64 c) ∧
    (l.getD 4 false = true → u7 = .pointer (some ⟨b, 0, none⟩)) ∧
    (l.getD 5 false = true → u8 = .pointer (some ⟨b, 0, none⟩)) ∧
    (l.getD 6 false = true → u9 = .pointer (some ⟨b, 1, none⟩)) ∧
    (l.getD 7 false = true → u10 = .int .i64 r) ∧
    (l.getD 8 false = true → u11 = .pointer (some ⟨b, 0, none⟩)) ∧
    (l.getD 9 false = true → u12 = .int .i64 (M.length : Int)) ∧
    (l.getD 10 false = true → u13 = .pointer (some ⟨b, 0, none⟩)) ∧
    (l.getD 11 false = true → ∃ a k, u14 = .slice a (al M 1).length k ∧ ZRow W (w.heap.size + 1) u14 (al M 1)) ∧
    (l.getD 12 false = true → u15 = .pointer (some ⟨b, 0, none⟩)) ∧
    (l.getD 13 false = true → ∃ a k, u16 = .slice a (al M 2).length k ∧ ZRow W (w.heap.size + 1) u16 (al M 2)) ∧
    (l.getD 14 false = true → u17 = .pointer (some ⟨b, 0, none⟩)) ∧
    (l.getD 15 false = true → ∃ a k, u18 = .slice a (al M 3).length k ∧ ZRow W (w.heap.size + 1) u18 (al M 3)) ∧
    (l.getD 16 false = true → (l.getD 3 false = true ∧ l.getD 7 false = true ∧ l.getD 9 false = true ∧ l.getD 11 false = true ∧ l.getD 13 false = true ∧ l.getD 15 false = true) ∧ u19 = .agg #[.int .i64 c, .int .i64 r, .int .i64 (M.length : Int), u14, u16, u18]) ∧
    (l.getD 17 false = true → l.getD 16 false = true ∧ Sv W w.heap.size (.int .i64 c) (.int .i64 r) (.int .i64 (M.length : Int)) u14 u16 u18) ∧
    (l.getD 11 false = true → l.getD 13 false = true → ∀ g, u14.ownBlock = some g → u16.ownBlock ≠ some g) ∧
    (l.getD 11 false = true → l.getD 15 false = true → ∀ g, u14.ownBlock = some g → u18.ownBlock ≠ some g) ∧
    (l.getD 13 false = true → l.getD 15 false = true → ∀ g, u16.ownBlock = some g → u18.ownBlock ≠ some g)

theorem Sv.set6Q {w' : World} {b : Nat} {y0 y1 y2 y3 y4 y5 x0 x1 x2 x3 x4 x5 : Value} (h : Sv w' b y0 y1 y2 y3 y4 y5) : Sv ((((((w'.setCell ⟨b, 0, none⟩ x0).setCell ⟨b, 1, none⟩ x1).setCell ⟨b, 2, none⟩ x2).setCell ⟨b, 3, none⟩ x3).setCell ⟨b, 4, none⟩ x4).setCell ⟨b, 5, none⟩ x5) b x0 x1 x2 x3 x4 x5 :=
  (((((h.set0 x0).set1 x1).set2 x2).set3 x3).set4 x4).set5 x5

theorem own_set6Q {w' : World} {B e c m b : Nat} {v x0 x1 x2 x3 x4 x5 : Value} {xs : List Value} (h : w'.ownsRow B e c v m xs) (hN : ∀ g, v.ownBlock = some g → g ≠ b) : World.ownsRow ((((((w'.setCell ⟨b, 0, none⟩ x0).setCell ⟨b, 1, none⟩ x1).setCell ⟨b, 2, none⟩ x2).setCell ⟨b, 3, none⟩ x3).setCell ⟨b, 4, none⟩ x4).setCell ⟨b, 5, none⟩ x5) B e c v m xs :=
  own_setCellQ (own_setCellQ (own_setCellQ (own_setCellQ (own_setCellQ (own_setCellQ h b 0 x0 hN) b 1 x1 hN) b 2 x2 hN) b 3 x3 hN) b 4 x4 hN) b 5 x5 hN

theorem apart_newQ {w : World} {B e n B' e' n' : Nat} {u v : Value} {xs ys : List Value} {w' : World} (hu : w.ownsRow B e 1 u n xs) (hv : w'.ownsRow B' e' 1 v n' ys) (hB : w.heap.size ≤ B') : (∀ g, u.ownBlock = some g → v.ownBlock ≠ some g) ∧ (∀ g, v.ownBlock = some g → u.ownBlock ≠ some g) :=
  ⟨fun g hg e => by have := (World.ownsRow.lt hu g hg).2; have := (World.ownsRow.lt hv g e).1; omega, fun g hg e => by have := (World.ownsRow.lt hu g e).2; have := (World.ownsRow.lt hv g hg).1; omega⟩

set_option maxRecDepth 100000 in
set_option maxHeartbeats 16000000 in
theorem toldU (B b : Nat) (c r : Int) (M : List Int) (vm : Value) (w : World) (h : Lu w B b c r M vm) (hl : M.length ≤ 1000) :
    Calls Try.prog 46 #[.pointer (some ⟨b, 0, none⟩)] w fun e w' => QuOut w w' (tq c r M) (fun v => e = .returned v) := by
  have rc := fun (tmps : Array Value) (P : Program) (w : World) => results_cellQ (fn := Try.f46) (p := 2) (ty := 24) rfl tmps P w
  have HLU : Hid (Lu w B b c r M vm) := h
  have hI0 : ToI w c r M b (Array.replicate 18 false) ⟨#[.pointer (some ⟨b, 0, none⟩), undef, .pointer (some ⟨w.heap.size, 0, none⟩), undef, undef, undef, undef, undef, undef, undef, undef, undef, undef, undef, undef, undef, undef, undef, undef, undef], []⟩ (w.alloc (.cells #[.int .i64 0, .int .i64 0, .int .i64 0, .slice none 0 0, .slice none 0 0, .slice none 0 0] 24)).drew := by
    refine ⟨by simp, ((Below.refl _ w).alloc (Nat.le_refl _) _).drew, by show _ ≤ (w.alloc _).heap.size; simp, fun _ => (Sv.fresh w _ _ _ _ _ _ _).kept rfl (Nat.le_refl _), _, _, _, _, _, _, _, _, _, _, _, _, _, _, _, _, _, rfl, ?_, ?_, ?_, ?_, ?_, ?_, ?_, ?_, ?_, ?_, ?_, ?_, ?_, ?_, ?_, ?_, ?_, ?_, ?_, ?_, ?_⟩
    all_goals
      intro h
      exact absurd h (by decide)
  have HI0 : Hid (type_of% hI0) := hI0
  clear hI0 h
  go_enter Try.func46, Try.ntmps46
  go_upto_region 1 with fail
  refine wp_region_held_drew (S := fun _ => True) (by kernel_rfl) trivial (fun _ => ?_)
  refine wpAnyH_inv (ToI w c r M b) ?step ?fin _ _ _ _ HI0.out (by decide)
  case fin =>
    intro l a W hI h0
    obtain ⟨hls, hB, hN, hZ, u3, u4, u5, u6, u7, u8, u9, u10, u11, u12, u13, u14, u15, u16, u17, u18, u19, rfl, c0, c1, c2, c3, c4, c5, c6, c7, c8, c9, c10, c11, c12, c13, c14, c15, c16, c17, p0, p1, p2⟩ := hI
    have b0 : l.getD 0 false = true := listed_of h0 0 _ (by omega) rfl (by intro e he; first | (simp at he; done) | skip; simp at he; (repeat (rcases he with rfl | he; · assumption)); all_goals (subst he; assumption))
    have b1 : l.getD 1 false = true := listed_of h0 1 _ (by omega) rfl (by intro e he; first | (simp at he; done) | skip; simp at he; (repeat (rcases he with rfl | he; · assumption)); all_goals (subst he; assumption))
    have b2 : l.getD 2 false = true := listed_of h0 2 _ (by omega) rfl (by intro e he; first | (simp at he; done) | skip; simp at he; (repeat (rcases he with rfl | he; · assumption)); all_goals (subst he; assumption))
    have b3 : l.getD 3 false = true := listed_of h0 3 _ (by omega) rfl (by intro e he; first | (simp at he; done) | skip; simp at he; (repeat (rcases he with rfl | he; · assumption)); all_goals (subst he; assumption))
    have b4 : l.getD 4 false = true := listed_of h0 4 _ (by omega) rfl (by intro e he; first | (simp at he; done) | skip; simp at he; (repeat (rcases he with rfl | he; · assumption)); all_goals (subst he; assumption))
    have b5 : l.getD 5 false = true := listed_of h0 5 _ (by omega) rfl (by intro e he; first | (simp at he; done) | skip; simp at he; (repeat (rcases he with rfl | he; · assumption)); all_goals (subst he; assumption))
    have b6 : l.getD 6 false = true := listed_of h0 6 _ (by omega) rfl (by intro e he; first | (simp at he; done) | skip; simp at he; (repeat (rcases he with rfl | he; · assumption)); all_goals (subst he; assumption))
    have b7 : l.getD 7 false = true := listed_of h0 7 _ (by omega) rfl (by intro e he; first | (simp at he; done) | skip; simp at he; (repeat (rcases he with rfl | he; · assumption)); all_goals (subst he; assumption))
    have b8 : l.getD 8 false = true := listed_of h0 8 _ (by omega) rfl (by intro e he; first | (simp at he; done) | skip; simp at he; (repeat (rcases he with rfl | he; · assumption)); all_goals (subst he; assumption))
    have b9 : l.getD 9 false = true := listed_of h0 9 _ (by omega) rfl (by intro e he; first | (simp at he; done) | skip; simp at he; (repeat (rcases he with rfl | he; · assumption)); all_goals (subst he; assumption))
    have b10 : l.getD 10 false = true := listed_of h0 10 _ (by omega) rfl (by intro e he; first | (simp at he; done) | skip; simp at he; (repeat (rcases he with rfl | he; · assumption)); all_goals (subst he; assumption))
    have b11 : l.getD 11 false = true := listed_of h0 11 _ (by omega) rfl (by intro e he; first | (simp at he; done) | skip; simp at he; (repeat (rcases he with rfl | he; · assumption)); all_goals (subst he; assumption))
    have b12 : l.getD 12 false = true := listed_of h0 12 _ (by omega) rfl (by intro e he; first | (simp at he; done) | skip; simp at he; (repeat (rcases he with rfl | he; · assumption)); all_goals (subst he; assumption))
    have b13 : l.getD 13 false = true := listed_of h0 13 _ (by omega) rfl (by intro e he; first | (simp at he; done) | skip; simp at he; (repeat (rcases he with rfl | he; · assumption)); all_goals (subst he; assumption))
    have b14 : l.getD 14 false = true := listed_of h0 14 _ (by omega) rfl (by intro e he; first | (simp at he; done) | skip; simp at he; (repeat (rcases he with rfl | he; · assumption)); all_goals (subst he; assumption))
    have b15 : l.getD 15 false = true := listed_of h0 15 _ (by omega) rfl (by intro e he; first | (simp at he; done) | skip; simp at he; (repeat (rcases he with rfl | he; · assumption)); all_goals (subst he; assumption))
    have b16 : l.getD 16 false = true := listed_of h0 16 _ (by omega) rfl (by intro e he; first | (simp at he; done) | skip; simp at he; (repeat (rcases he with rfl | he; · assumption)); all_goals (subst he; assumption))
    have b17 : l.getD 17 false = true := listed_of h0 17 _ (by omega) rfl (by intro e he; first | (simp at he; done) | skip; simp at he; (repeat (rcases he with rfl | he; · assumption)); all_goals (subst he; assumption))
    obtain ⟨a14, k14, e14, r14⟩ := c11 b11
    obtain ⟨a16, k16, e16, r16⟩ := c13 b13
    obtain ⟨a18, k18, e18, r18⟩ := c15 b15
    have hv := (c17 b17).2
    have q0 := p0 b11 b13
    have q1 := p1 b11 b15
    have q2 := p2 b13 b15
    subst e14 e16 e18
    have HQ : Hid (QuOut w W (tq c r M) (fun v => v = .agg #[.int .i64 c, .int .i64 r, .int .i64 (M.length : Int), .slice a14 (al M 1).length k14, .slice a16 (al M 2).length k16, .slice a18 (al M 3).length k18])) := ⟨_, _, _, _, _, _, rfl, ⟨own_lowerQ r14 (by omega), own_lowerQ r16 (by omega), own_lowerQ r18 (by omega), q0, q1, q2⟩, hB⟩
    have y0 := hv.c0
    have y1 := hv.c1
    have y2 := hv.c2
    have y3 := hv.c3
    have y4 := hv.c4
    have y5 := hv.c5
    clear c0 c1 c2 c3 c4 c5 c6 c7 c8 c9 c10 c11 c12 c13 c14 c15 c16 c17 p0 p1 p2 b0 b1 b2 b3 b4 b5 b6 b7 b8 b9 b10 b11 b12 b13 b14 b15 b16 b17 r14 r16 r18 hv hB hN hZ h0 hls q0 q1 q2
    (try dsimp only)
    go_wp2_with fail
    (try simp only [Exit.inBlock, Exit.then])
    refine bodyPost_ret (v := .agg #[.int .i64 c, .int .i64 r, .int .i64 (M.length : Int), .slice a14 (al M 1).length k14, .slice a16 (al M 2).length k16, .slice a18 (al M 3).length k18]) ?_ rfl ?_
    · rw [rc]
      go_simp
    · obtain ⟨x1, x2, x3, x4, x5, x6, e, h1, h2⟩ := HQ.out
      exact ⟨x1, x2, x3, x4, x5, x6, by rw [e], h1, h2⟩
  case step =>
    intro l a W i hI hi K hK
    have hlt := ready_lt hi
    obtain ⟨hls, hB, hN, hZ, u3, u4, u5, u6, u7, u8, u9, u10, u11, u12, u13, u14, u15, u16, u17, u18, u19, rfl, c0, c1, c2, c3, c4, c5, c6, c7, c8, c9, c10, c11, c12, c13, c14, c15, c16, c17, p0, p1, p2⟩ := hI
    have hlt' : i < 18 := hlt
    have hLu := HLU.out.below hB
    rcases (show i = 0 ∨ i = 1 ∨ i = 2 ∨ i = 3 ∨ i = 4 ∨ i = 5 ∨ i = 6 ∨ i = 7 ∨ i = 8 ∨ i = 9 ∨ i = 10 ∨ i = 11 ∨ i = 12 ∨ i = 13 ∨ i = 14 ∨ i = 15 ∨ i = 16 ∨ i = 17 by omega) with rfl | rfl | rfl | rfl | rfl | rfl | rfl | rfl | rfl | rfl | rfl | rfl | rfl | rfl | rfl | rfl | rfl | rfl
    · -- 0
      refine wpOp_step rfl (fun K' hK' => ?_)
      have HK : Hid (∀ a w, K a w → K' a w) := hK'
      have HK2 : Hid (type_of% hK) := hK
      clear hK hK'
      have y0 := hLu.c0
      have y1 := hLu.c1
      go_simp
      exact HK.out _ _ (HK2.out _ _ ⟨by simp [hls], hB, hN, fun h => hZ (getD_off h (by decide)), _, _, _, _, _, _, _, _, _, _, _, _, _, _, _, _, _, rfl, fun _ => rfl, fun h => (c1 (getD_ne h (by decide))), fun h => (c2 (getD_ne h (by decide))), fun h => (c3 (getD_ne h (by decide))), fun h => (c4 (getD_ne h (by decide))), fun h => (c5 (getD_ne h (by decide))), fun h => (c6 (getD_ne h (by decide))), fun h => (c7 (getD_ne h (by decide))), fun h => (c8 (getD_ne h (by decide))), fun h => (c9 (getD_ne h (by decide))), fun h => (c10 (getD_ne h (by decide))), fun h => (c11 (getD_ne h (by decide))), fun h => (c12 (getD_ne h (by decide))), fun h => (c13 (getD_ne h (by decide))), fun h => (c14 (getD_ne h (by decide))), fun h => (c15 (getD_ne h (by decide))), fun h => ⟨⟨getD_set_true (c16 (getD_ne h (by decide))).1.1, getD_set_true (c16 (getD_ne h (by decide))).1.2.1, getD_set_true (c16 (getD_ne h (by decide))).1.2.2.1, getD_set_true (c16 (getD_ne h (by decide))).1.2.2.2.1, getD_set_true (c16 (getD_ne h (by decide))).1.2.2.2.2.1, getD_set_true (c16 (getD_ne h (by decide))).1.2.2.2.2.2⟩, (c16 (getD_ne h (by decide))).2⟩, fun h => ⟨getD_set_true (c17 (getD_ne h (by decide))).1, (c17 (getD_ne h (by decide))).2⟩, fun h h2 => p0 (getD_ne h (by decide)) (getD_ne h2 (by decide)), fun h h2 => p1 (getD_ne h (by decide)) (getD_ne h2 (by decide)), fun h h2 => p2 (getD_ne h (by decide)) (getD_ne h2 (by decide))⟩)
    · -- 1
      have g0 := (show l.getD 0 false = true from by have hd := ready_deps hi (o := _) rfl; exact hd ⟨0, .data⟩ (by simp) (by rfl))
      obtain rfl := c0 g0
      refine wpOp_step rfl (fun K' hK' => ?_)
      have HK : Hid (∀ a w, K a w → K' a w) := hK'
      have HK2 : Hid (type_of% hK) := hK
      clear hK hK'
      have y0 := hLu.c0
      have y1 := hLu.c1
      go_simp
      exact HK.out _ _ (HK2.out _ _ ⟨by simp [hls], hB, hN, fun h => hZ (getD_off h (by decide)), _, _, _, _, _, _, _, _, _, _, _, _, _, _, _, _, _, rfl, fun h => (c0 (getD_ne h (by decide))), fun _ => rfl, fun h => (c2 (getD_ne h (by decide))), fun h => (c3 (getD_ne h (by decide))), fun h => (c4 (getD_ne h (by decide))), fun h => (c5 (getD_ne h (by decide))), fun h => (c6 (getD_ne h (by decide))), fun h => (c7 (getD_ne h (by decide))), fun h => (c8 (getD_ne h (by decide))), fun h => (c9 (getD_ne h (by decide))), fun h => (c10 (getD_ne h (by decide))), fun h => (c11 (getD_ne h (by decide))), fun h => (c12 (getD_ne h (by decide))), fun h => (c13 (getD_ne h (by decide))), fun h => (c14 (getD_ne h (by decide))), fun h => (c15 (getD_ne h (by decide))), fun h => ⟨⟨getD_set_true (c16 (getD_ne h (by decide))).1.1, getD_set_true (c16 (getD_ne h (by decide))).1.2.1, getD_set_true (c16 (getD_ne h (by decide))).1.2.2.1, getD_set_true (c16 (getD_ne h (by decide))).1.2.2.2.1, getD_set_true (c16 (getD_ne h (by decide))).1.2.2.2.2.1, getD_set_true (c16 (getD_ne h (by decide))).1.2.2.2.2.2⟩, (c16 (getD_ne h (by decide))).2⟩, fun h => ⟨getD_set_true (c17 (getD_ne h (by decide))).1, (c17 (getD_ne h (by decide))).2⟩, fun h h2 => p0 (getD_ne h (by decide)) (getD_ne h2 (by decide)), fun h h2 => p1 (getD_ne h (by decide)) (getD_ne h2 (by decide)), fun h h2 => p2 (getD_ne h (by decide)) (getD_ne h2 (by decide))⟩)
    · -- 2
      have g1 := (show l.getD 1 false = true from by have hd := ready_deps hi (o := _) rfl; exact hd ⟨1, .data⟩ (by simp) (by rfl))
      obtain rfl := c1 g1
      refine wpOp_step rfl (fun K' hK' => ?_)
      have HK : Hid (∀ a w, K a w → K' a w) := hK'
      have HK2 : Hid (type_of% hK) := hK
      clear hK hK'
      have y0 := hLu.c0
      have y1 := hLu.c1
      go_simp
      exact HK.out _ _ (HK2.out _ _ ⟨by simp [hls], hB, hN, fun h => hZ (getD_off h (by decide)), _, _, _, _, _, _, _, _, _, _, _, _, _, _, _, _, _, rfl, fun h => (c0 (getD_ne h (by decide))), fun h => (c1 (getD_ne h (by decide))), fun _ => rfl, fun h => (c3 (getD_ne h (by decide))), fun h => (c4 (getD_ne h (by decide))), fun h => (c5 (getD_ne h (by decide))), fun h => (c6 (getD_ne h (by decide))), fun h => (c7 (getD_ne h (by decide))), fun h => (c8 (getD_ne h (by decide))), fun h => (c9 (getD_ne h (by decide))), fun h => (c10 (getD_ne h (by decide))), fun h => (c11 (getD_ne h (by decide))), fun h => (c12 (getD_ne h (by decide))), fun h => (c13 (getD_ne h (by decide))), fun h => (c14 (getD_ne h (by decide))), fun h => (c15 (getD_ne h (by decide))), fun h => ⟨⟨getD_set_true (c16 (getD_ne h (by decide))).1.1, getD_set_true (c16 (getD_ne h (by decide))).1.2.1, getD_set_true (c16 (getD_ne h (by decide))).1.2.2.1, getD_set_true (c16 (getD_ne h (by decide))).1.2.2.2.1, getD_set_true (c16 (getD_ne h (by decide))).1.2.2.2.2.1, getD_set_true (c16 (getD_ne h (by decide))).1.2.2.2.2.2⟩, (c16 (getD_ne h (by decide))).2⟩, fun h => ⟨getD_set_true (c17 (getD_ne h (by decide))).1, (c17 (getD_ne h (by decide))).2⟩, fun h h2 => p0 (getD_ne h (by decide)) (getD_ne h2 (by decide)), fun h h2 => p1 (getD_ne h (by decide)) (getD_ne h2 (by decide)), fun h h2 => p2 (getD_ne h (by decide)) (getD_ne h2 (by decide))⟩)
    · -- 3
      have g2 := (show l.getD 2 false = true from by have hd := ready_deps hi (o := _) rfl; exact hd ⟨2, .data⟩ (by simp) (by rfl))
      obtain rfl := c2 g2
      refine wpOp_step rfl (fun K' hK' => ?_)
      have HK : Hid (∀ a w, K a w → K' a w) := hK'
      have HK2 : Hid (type_of% hK) := hK
      clear hK hK'
      have y0 := hLu.c0
      have y1 := hLu.c1
      go_simp
      exact HK.out _ _ (HK2.out _ _ ⟨by simp [hls], hB, hN, fun h => hZ (getD_off h (by decide)), _, _, _, _, _, _, _, _, _, _, _, _, _, _, _, _, _, rfl, fun h => (c0 (getD_ne h (by decide))), fun h => (c1 (getD_ne h (by decide))), fun h => (c2 (getD_ne h (by decide))), fun _ => rfl, fun h => (c4 (getD_ne h (by decide))), fun h => (c5 (getD_ne h (by decide))), fun h => (c6 (getD_ne h (by decide))), fun h => (c7 (getD_ne h (by decide))), fun h => (c8 (getD_ne h (by decide))), fun h => (c9 (getD_ne h (by decide))), fun h => (c10 (getD_ne h (by decide))), fun h => (c11 (getD_ne h (by decide))), fun h => (c12 (getD_ne h (by decide))), fun h => (c13 (getD_ne h (by decide))), fun h => (c14 (getD_ne h (by decide))), fun h => (c15 (getD_ne h (by decide))), fun h => ⟨⟨getD_set_true (c16 (getD_ne h (by decide))).1.1, getD_set_true (c16 (getD_ne h (by decide))).1.2.1, getD_set_true (c16 (getD_ne h (by decide))).1.2.2.1, getD_set_true (c16 (getD_ne h (by decide))).1.2.2.2.1, getD_set_true (c16 (getD_ne h (by decide))).1.2.2.2.2.1, getD_set_true (c16 (getD_ne h (by decide))).1.2.2.2.2.2⟩, (c16 (getD_ne h (by decide))).2⟩, fun h => ⟨getD_set_true (c17 (getD_ne h (by decide))).1, (c17 (getD_ne h (by decide))).2⟩, fun h h2 => p0 (getD_ne h (by decide)) (getD_ne h2 (by decide)), fun h h2 => p1 (getD_ne h (by decide)) (getD_ne h2 (by decide)), fun h h2 => p2 (getD_ne h (by decide)) (getD_ne h2 (by decide))⟩)
    · -- 4
      refine wpOp_step rfl (fun K' hK' => ?_)
      have HK : Hid (∀ a w, K a w → K' a w) := hK'
      have HK2 : Hid (type_of% hK) := hK
      clear hK hK'
      have y0 := hLu.c0
      have y1 := hLu.c1
      go_simp
      exact HK.out _ _ (HK2.out _ _ ⟨by simp [hls], hB, hN, fun h => hZ (getD_off h (by decide)), _, _, _, _, _, _, _, _, _, _, _, _, _, _, _, _, _, rfl, fun h => (c0 (getD_ne h (by decide))), fun h => (c1 (getD_ne h (by decide))), fun h => (c2 (getD_ne h (by decide))), fun h => (c3 (getD_ne h (by decide))), fun _ => rfl, fun h => (c5 (getD_ne h (by decide))), fun h => (c6 (getD_ne h (by decide))), fun h => (c7 (getD_ne h (by decide))), fun h => (c8 (getD_ne h (by decide))), fun h => (c9 (getD_ne h (by decide))), fun h => (c10 (getD_ne h (by decide))), fun h => (c11 (getD_ne h (by decide))), fun h => (c12 (getD_ne h (by decide))), fun h => (c13 (getD_ne h (by decide))), fun h => (c14 (getD_ne h (by decide))), fun h => (c15 (getD_ne h (by decide))), fun h => ⟨⟨getD_set_true (c16 (getD_ne h (by decide))).1.1, getD_set_true (c16 (getD_ne h (by decide))).1.2.1, getD_set_true (c16 (getD_ne h (by decide))).1.2.2.1, getD_set_true (c16 (getD_ne h (by decide))).1.2.2.2.1, getD_set_true (c16 (getD_ne h (by decide))).1.2.2.2.2.1, getD_set_true (c16 (getD_ne h (by decide))).1.2.2.2.2.2⟩, (c16 (getD_ne h (by decide))).2⟩, fun h => ⟨getD_set_true (c17 (getD_ne h (by decide))).1, (c17 (getD_ne h (by decide))).2⟩, fun h h2 => p0 (getD_ne h (by decide)) (getD_ne h2 (by decide)), fun h h2 => p1 (getD_ne h (by decide)) (getD_ne h2 (by decide)), fun h h2 => p2 (getD_ne h (by decide)) (getD_ne h2 (by decide))⟩)
    · -- 5
      have g4 := (show l.getD 4 false = true from by have hd := ready_deps hi (o := _) rfl; exact hd ⟨4, .data⟩ (by simp) (by rfl))
      obtain rfl := c4 g4
      refine wpOp_step rfl (fun K' hK' => ?_)
      have HK : Hid (∀ a w, K a w → K' a w) := hK'
      have HK2 : Hid (type_of% hK) := hK
      clear hK hK'
      have y0 := hLu.c0
      have y1 := hLu.c1
      go_simp
      exact HK.out _ _ (HK2.out _ _ ⟨by simp [hls], hB, hN, fun h => hZ (getD_off h (by decide)), _, _, _, _, _, _, _, _, _, _, _, _, _, _, _, _, _, rfl, fun h => (c0 (getD_ne h (by decide))), fun h => (c1 (getD_ne h (by decide))), fun h => (c2 (getD_ne h (by decide))), fun h => (c3 (getD_ne h (by decide))), fun h => (c4 (getD_ne h (by decide))), fun _ => rfl, fun h => (c6 (getD_ne h (by decide))), fun h => (c7 (getD_ne h (by decide))), fun h => (c8 (getD_ne h (by decide))), fun h => (c9 (getD_ne h (by decide))), fun h => (c10 (getD_ne h (by decide))), fun h => (c11 (getD_ne h (by decide))), fun h => (c12 (getD_ne h (by decide))), fun h => (c13 (getD_ne h (by decide))), fun h => (c14 (getD_ne h (by decide))), fun h => (c15 (getD_ne h (by decide))), fun h => ⟨⟨getD_set_true (c16 (getD_ne h (by decide))).1.1, getD_set_true (c16 (getD_ne h (by decide))).1.2.1, getD_set_true (c16 (getD_ne h (by decide))).1.2.2.1, getD_set_true (c16 (getD_ne h (by decide))).1.2.2.2.1, getD_set_true (c16 (getD_ne h (by decide))).1.2.2.2.2.1, getD_set_true (c16 (getD_ne h (by decide))).1.2.2.2.2.2⟩, (c16 (getD_ne h (by decide))).2⟩, fun h => ⟨getD_set_true (c17 (getD_ne h (by decide))).1, (c17 (getD_ne h (by decide))).2⟩, fun h h2 => p0 (getD_ne h (by decide)) (getD_ne h2 (by decide)), fun h h2 => p1 (getD_ne h (by decide)) (getD_ne h2 (by decide)), fun h h2 => p2 (getD_ne h (by decide)) (getD_ne h2 (by decide))⟩)
    · -- 6
      have g5 := (show l.getD 5 false = true from by have hd := ready_deps hi (o := _) rfl; exact hd ⟨5, .data⟩ (by simp) (by rfl))
      obtain rfl := c5 g5
      refine wpOp_step rfl (fun K' hK' => ?_)
      have HK : Hid (∀ a w, K a w → K' a w) := hK'
      have HK2 : Hid (type_of% hK) := hK
      clear hK hK'
      have y0 := hLu.c0
      have y1 := hLu.c1
      go_simp
      exact HK.out _ _ (HK2.out _ _ ⟨by simp [hls], hB, hN, fun h => hZ (getD_off h (by decide)), _, _, _, _, _, _, _, _, _, _, _, _, _, _, _, _, _, rfl, fun h => (c0 (getD_ne h (by decide))), fun h => (c1 (getD_ne h (by decide))), fun h => (c2 (getD_ne h (by decide))), fun h => (c3 (getD_ne h (by decide))), fun h => (c4 (getD_ne h (by decide))), fun h => (c5 (getD_ne h (by decide))), fun _ => rfl, fun h => (c7 (getD_ne h (by decide))), fun h => (c8 (getD_ne h (by decide))), fun h => (c9 (getD_ne h (by decide))), fun h => (c10 (getD_ne h (by decide))), fun h => (c11 (getD_ne h (by decide))), fun h => (c12 (getD_ne h (by decide))), fun h => (c13 (getD_ne h (by decide))), fun h => (c14 (getD_ne h (by decide))), fun h => (c15 (getD_ne h (by decide))), fun h => ⟨⟨getD_set_true (c16 (getD_ne h (by decide))).1.1, getD_set_true (c16 (getD_ne h (by decide))).1.2.1, getD_set_true (c16 (getD_ne h (by decide))).1.2.2.1, getD_set_true (c16 (getD_ne h (by decide))).1.2.2.2.1, getD_set_true (c16 (getD_ne h (by decide))).1.2.2.2.2.1, getD_set_true (c16 (getD_ne h (by decide))).1.2.2.2.2.2⟩, (c16 (getD_ne h (by decide))).2⟩, fun h => ⟨getD_set_true (c17 (getD_ne h (by decide))).1, (c17 (getD_ne h (by decide))).2⟩, fun h h2 => p0 (getD_ne h (by decide)) (getD_ne h2 (by decide)), fun h h2 => p1 (getD_ne h (by decide)) (getD_ne h2 (by decide)), fun h h2 => p2 (getD_ne h (by decide)) (getD_ne h2 (by decide))⟩)
    · -- 7
      have g6 := (show l.getD 6 false = true from by have hd := ready_deps hi (o := _) rfl; exact hd ⟨6, .data⟩ (by simp) (by rfl))
      obtain rfl := c6 g6
      refine wpOp_step rfl (fun K' hK' => ?_)
      have HK : Hid (∀ a w, K a w → K' a w) := hK'
      have HK2 : Hid (type_of% hK) := hK
      clear hK hK'
      have y0 := hLu.c0
      have y1 := hLu.c1
      go_simp
      exact HK.out _ _ (HK2.out _ _ ⟨by simp [hls], hB, hN, fun h => hZ (getD_off h (by decide)), _, _, _, _, _, _, _, _, _, _, _, _, _, _, _, _, _, rfl, fun h => (c0 (getD_ne h (by decide))), fun h => (c1 (getD_ne h (by decide))), fun h => (c2 (getD_ne h (by decide))), fun h => (c3 (getD_ne h (by decide))), fun h => (c4 (getD_ne h (by decide))), fun h => (c5 (getD_ne h (by decide))), fun h => (c6 (getD_ne h (by decide))), fun _ => rfl, fun h => (c8 (getD_ne h (by decide))), fun h => (c9 (getD_ne h (by decide))), fun h => (c10 (getD_ne h (by decide))), fun h => (c11 (getD_ne h (by decide))), fun h => (c12 (getD_ne h (by decide))), fun h => (c13 (getD_ne h (by decide))), fun h => (c14 (getD_ne h (by decide))), fun h => (c15 (getD_ne h (by decide))), fun h => ⟨⟨getD_set_true (c16 (getD_ne h (by decide))).1.1, getD_set_true (c16 (getD_ne h (by decide))).1.2.1, getD_set_true (c16 (getD_ne h (by decide))).1.2.2.1, getD_set_true (c16 (getD_ne h (by decide))).1.2.2.2.1, getD_set_true (c16 (getD_ne h (by decide))).1.2.2.2.2.1, getD_set_true (c16 (getD_ne h (by decide))).1.2.2.2.2.2⟩, (c16 (getD_ne h (by decide))).2⟩, fun h => ⟨getD_set_true (c17 (getD_ne h (by decide))).1, (c17 (getD_ne h (by decide))).2⟩, fun h h2 => p0 (getD_ne h (by decide)) (getD_ne h2 (by decide)), fun h h2 => p1 (getD_ne h (by decide)) (getD_ne h2 (by decide)), fun h h2 => p2 (getD_ne h (by decide)) (getD_ne h2 (by decide))⟩)
    · -- 8
      refine wpOp_step rfl (fun K' hK' => ?_)
      have HK : Hid (∀ a w, K a w → K' a w) := hK'
      have HK2 : Hid (type_of% hK) := hK
      clear hK hK'
      have y0 := hLu.c0
      have y1 := hLu.c1
      go_simp
      exact HK.out _ _ (HK2.out _ _ ⟨by simp [hls], hB, hN, fun h => hZ (getD_off h (by decide)), _, _, _, _, _, _, _, _, _, _, _, _, _, _, _, _, _, rfl, fun h => (c0 (getD_ne h (by decide))), fun h => (c1 (getD_ne h (by decide))), fun h => (c2 (getD_ne h (by decide))), fun h => (c3 (getD_ne h (by decide))), fun h => (c4 (getD_ne h (by decide))), fun h => (c5 (getD_ne h (by decide))), fun h => (c6 (getD_ne h (by decide))), fun h => (c7 (getD_ne h (by decide))), fun _ => rfl, fun h => (c9 (getD_ne h (by decide))), fun h => (c10 (getD_ne h (by decide))), fun h => (c11 (getD_ne h (by decide))), fun h => (c12 (getD_ne h (by decide))), fun h => (c13 (getD_ne h (by decide))), fun h => (c14 (getD_ne h (by decide))), fun h => (c15 (getD_ne h (by decide))), fun h => ⟨⟨getD_set_true (c16 (getD_ne h (by decide))).1.1, getD_set_true (c16 (getD_ne h (by decide))).1.2.1, getD_set_true (c16 (getD_ne h (by decide))).1.2.2.1, getD_set_true (c16 (getD_ne h (by decide))).1.2.2.2.1, getD_set_true (c16 (getD_ne h (by decide))).1.2.2.2.2.1, getD_set_true (c16 (getD_ne h (by decide))).1.2.2.2.2.2⟩, (c16 (getD_ne h (by decide))).2⟩, fun h => ⟨getD_set_true (c17 (getD_ne h (by decide))).1, (c17 (getD_ne h (by decide))).2⟩, fun h h2 => p0 (getD_ne h (by decide)) (getD_ne h2 (by decide)), fun h h2 => p1 (getD_ne h (by decide)) (getD_ne h2 (by decide)), fun h h2 => p2 (getD_ne h (by decide)) (getD_ne h2 (by decide))⟩)
    · -- 9
      have g8 := (show l.getD 8 false = true from by have hd := ready_deps hi (o := _) rfl; exact hd ⟨8, .data⟩ (by simp) (by rfl))
      obtain rfl := c8 g8
      have CC := nextU B b c r M vm W hLu
      refine wpOp_step rfl (fun K' hK' => ?_)
      have HK : Hid (∀ a w, K a w → K' a w) := hK'
      have HK2 : Hid (type_of% hK) := hK
      clear hK hK'
      go_simp
      go_at_call 57
      refine CC.mono ?_
      rintro e W9 ⟨rfl, hw⟩
      have hw := hw.symm
      subst hw
      (try go_simp)
      exact HK.out _ _ (HK2.out _ _ ⟨by simp [hls], hB, hN, fun h => hZ (getD_off h (by decide)), _, _, _, _, _, _, _, _, _, _, _, _, _, _, _, _, _, rfl, fun h => (c0 (getD_ne h (by decide))), fun h => (c1 (getD_ne h (by decide))), fun h => (c2 (getD_ne h (by decide))), fun h => (c3 (getD_ne h (by decide))), fun h => (c4 (getD_ne h (by decide))), fun h => (c5 (getD_ne h (by decide))), fun h => (c6 (getD_ne h (by decide))), fun h => (c7 (getD_ne h (by decide))), fun h => (c8 (getD_ne h (by decide))), fun _ => rfl, fun h => (c10 (getD_ne h (by decide))), fun h => (c11 (getD_ne h (by decide))), fun h => (c12 (getD_ne h (by decide))), fun h => (c13 (getD_ne h (by decide))), fun h => (c14 (getD_ne h (by decide))), fun h => (c15 (getD_ne h (by decide))), fun h => ⟨⟨getD_set_true (c16 (getD_ne h (by decide))).1.1, getD_set_true (c16 (getD_ne h (by decide))).1.2.1, getD_set_true (c16 (getD_ne h (by decide))).1.2.2.1, getD_set_true (c16 (getD_ne h (by decide))).1.2.2.2.1, getD_set_true (c16 (getD_ne h (by decide))).1.2.2.2.2.1, getD_set_true (c16 (getD_ne h (by decide))).1.2.2.2.2.2⟩, (c16 (getD_ne h (by decide))).2⟩, fun h => ⟨getD_set_true (c17 (getD_ne h (by decide))).1, (c17 (getD_ne h (by decide))).2⟩, fun h h2 => p0 (getD_ne h (by decide)) (getD_ne h2 (by decide)), fun h h2 => p1 (getD_ne h (by decide)) (getD_ne h2 (by decide)), fun h h2 => p2 (getD_ne h (by decide)) (getD_ne h2 (by decide))⟩)
    · -- 10
      refine wpOp_step rfl (fun K' hK' => ?_)
      have HK : Hid (∀ a w, K a w → K' a w) := hK'
      have HK2 : Hid (type_of% hK) := hK
      clear hK hK'
      have y0 := hLu.c0
      have y1 := hLu.c1
      go_simp
      exact HK.out _ _ (HK2.out _ _ ⟨by simp [hls], hB, hN, fun h => hZ (getD_off h (by decide)), _, _, _, _, _, _, _, _, _, _, _, _, _, _, _, _, _, rfl, fun h => (c0 (getD_ne h (by decide))), fun h => (c1 (getD_ne h (by decide))), fun h => (c2 (getD_ne h (by decide))), fun h => (c3 (getD_ne h (by decide))), fun h => (c4 (getD_ne h (by decide))), fun h => (c5 (getD_ne h (by decide))), fun h => (c6 (getD_ne h (by decide))), fun h => (c7 (getD_ne h (by decide))), fun h => (c8 (getD_ne h (by decide))), fun h => (c9 (getD_ne h (by decide))), fun _ => rfl, fun h => (c11 (getD_ne h (by decide))), fun h => (c12 (getD_ne h (by decide))), fun h => (c13 (getD_ne h (by decide))), fun h => (c14 (getD_ne h (by decide))), fun h => (c15 (getD_ne h (by decide))), fun h => ⟨⟨getD_set_true (c16 (getD_ne h (by decide))).1.1, getD_set_true (c16 (getD_ne h (by decide))).1.2.1, getD_set_true (c16 (getD_ne h (by decide))).1.2.2.1, getD_set_true (c16 (getD_ne h (by decide))).1.2.2.2.1, getD_set_true (c16 (getD_ne h (by decide))).1.2.2.2.2.1, getD_set_true (c16 (getD_ne h (by decide))).1.2.2.2.2.2⟩, (c16 (getD_ne h (by decide))).2⟩, fun h => ⟨getD_set_true (c17 (getD_ne h (by decide))).1, (c17 (getD_ne h (by decide))).2⟩, fun h h2 => p0 (getD_ne h (by decide)) (getD_ne h2 (by decide)), fun h h2 => p1 (getD_ne h (by decide)) (getD_ne h2 (by decide)), fun h h2 => p2 (getD_ne h (by decide)) (getD_ne h2 (by decide))⟩)
    · -- 11
      have g10 := (show l.getD 10 false = true from by have hd := ready_deps hi (o := _) rfl; exact hd ⟨10, .data⟩ (by simp) (by rfl))
      obtain rfl := c10 g10
      have hoff := ready_off hi (by omega)
      have CC := allU B b c r 1 M vm W hLu hl
      refine wpOp_step rfl (fun K' hK' => ?_)
      have HK : Hid (∀ a w, K a w → K' a w) := hK'
      have HK2 : Hid (type_of% hK) := hK
      clear hK hK'
      go_simp
      go_at_call 59
      refine CC.mono ?_
      rintro e W9 ⟨v9, rfl, hr, hb⟩
      obtain ⟨ra, rk, rfl⟩ := ZRow.slice hr
      (try go_simp)
      exact HK.out _ _ (HK2.out _ _ ⟨by simp [hls], hB.trans (hb.mono hB.size), Nat.le_trans hN hb.size, fun h => (hZ (getD_off h (by decide))).below hb, _, _, _, _, _, _, _, _, _, _, _, _, _, _, _, _, _, rfl, fun h => (c0 (getD_ne h (by decide))), fun h => (c1 (getD_ne h (by decide))), fun h => (c2 (getD_ne h (by decide))), fun h => (c3 (getD_ne h (by decide))), fun h => (c4 (getD_ne h (by decide))), fun h => (c5 (getD_ne h (by decide))), fun h => (c6 (getD_ne h (by decide))), fun h => (c7 (getD_ne h (by decide))), fun h => (c8 (getD_ne h (by decide))), fun h => (c9 (getD_ne h (by decide))), fun h => (c10 (getD_ne h (by decide))), fun _ => ⟨_, _, rfl, own_lowerQ hr (by omega)⟩, fun h => (c12 (getD_ne h (by decide))), fun h => by obtain ⟨a, k, e, r⟩ := (c13 (getD_ne h (by decide))); exact ⟨a, k, e, own_belowQ r hb⟩, fun h => (c14 (getD_ne h (by decide))), fun h => by obtain ⟨a, k, e, r⟩ := (c15 (getD_ne h (by decide))); exact ⟨a, k, e, own_belowQ r hb⟩, fun h => absurd (c16 (getD_ne h (by decide))).1.2.2.2.1 (by rw [hoff]; decide), fun h => absurd (c16 (c17 (getD_ne h (by decide))).1).1.2.2.2.1 (by rw [hoff]; decide), fun _ h2 => (apart_newQ (c13 (getD_ne h2 (by decide))).choose_spec.choose_spec.2 hr (Nat.le_refl _)).2, fun _ h2 => (apart_newQ (c15 (getD_ne h2 (by decide))).choose_spec.choose_spec.2 hr (Nat.le_refl _)).2, fun h h2 => p2 (getD_ne h (by decide)) (getD_ne h2 (by decide))⟩)
    · -- 12
      refine wpOp_step rfl (fun K' hK' => ?_)
      have HK : Hid (∀ a w, K a w → K' a w) := hK'
      have HK2 : Hid (type_of% hK) := hK
      clear hK hK'
      have y0 := hLu.c0
      have y1 := hLu.c1
      go_simp
      exact HK.out _ _ (HK2.out _ _ ⟨by simp [hls], hB, hN, fun h => hZ (getD_off h (by decide)), _, _, _, _, _, _, _, _, _, _, _, _, _, _, _, _, _, rfl, fun h => (c0 (getD_ne h (by decide))), fun h => (c1 (getD_ne h (by decide))), fun h => (c2 (getD_ne h (by decide))), fun h => (c3 (getD_ne h (by decide))), fun h => (c4 (getD_ne h (by decide))), fun h => (c5 (getD_ne h (by decide))), fun h => (c6 (getD_ne h (by decide))), fun h => (c7 (getD_ne h (by decide))), fun h => (c8 (getD_ne h (by decide))), fun h => (c9 (getD_ne h (by decide))), fun h => (c10 (getD_ne h (by decide))), fun h => (c11 (getD_ne h (by decide))), fun _ => rfl, fun h => (c13 (getD_ne h (by decide))), fun h => (c14 (getD_ne h (by decide))), fun h => (c15 (getD_ne h (by decide))), fun h => ⟨⟨getD_set_true (c16 (getD_ne h (by decide))).1.1, getD_set_true (c16 (getD_ne h (by decide))).1.2.1, getD_set_true (c16 (getD_ne h (by decide))).1.2.2.1, getD_set_true (c16 (getD_ne h (by decide))).1.2.2.2.1, getD_set_true (c16 (getD_ne h (by decide))).1.2.2.2.2.1, getD_set_true (c16 (getD_ne h (by decide))).1.2.2.2.2.2⟩, (c16 (getD_ne h (by decide))).2⟩, fun h => ⟨getD_set_true (c17 (getD_ne h (by decide))).1, (c17 (getD_ne h (by decide))).2⟩, fun h h2 => p0 (getD_ne h (by decide)) (getD_ne h2 (by decide)), fun h h2 => p1 (getD_ne h (by decide)) (getD_ne h2 (by decide)), fun h h2 => p2 (getD_ne h (by decide)) (getD_ne h2 (by decide))⟩)
    · -- 13
      have g12 := (show l.getD 12 false = true from by have hd := ready_deps hi (o := _) rfl; exact hd ⟨12, .data⟩ (by simp) (by rfl))
      obtain rfl := c12 g12
      have hoff := ready_off hi (by omega)
      have CC := allU B b c r 2 M vm W hLu hl
      refine wpOp_step rfl (fun K' hK' => ?_)
      have HK : Hid (∀ a w, K a w → K' a w) := hK'
      have HK2 : Hid (type_of% hK) := hK
      clear hK hK'
      go_simp
      go_at_call 59
      refine CC.mono ?_
      rintro e W9 ⟨v9, rfl, hr, hb⟩
      obtain ⟨ra, rk, rfl⟩ := ZRow.slice hr
      (try go_simp)
      exact HK.out _ _ (HK2.out _ _ ⟨by simp [hls], hB.trans (hb.mono hB.size), Nat.le_trans hN hb.size, fun h => (hZ (getD_off h (by decide))).below hb, _, _, _, _, _, _, _, _, _, _, _, _, _, _, _, _, _, rfl, fun h => (c0 (getD_ne h (by decide))), fun h => (c1 (getD_ne h (by decide))), fun h => (c2 (getD_ne h (by decide))), fun h => (c3 (getD_ne h (by decide))), fun h => (c4 (getD_ne h (by decide))), fun h => (c5 (getD_ne h (by decide))), fun h => (c6 (getD_ne h (by decide))), fun h => (c7 (getD_ne h (by decide))), fun h => (c8 (getD_ne h (by decide))), fun h => (c9 (getD_ne h (by decide))), fun h => (c10 (getD_ne h (by decide))), fun h => by obtain ⟨a, k, e, r⟩ := (c11 (getD_ne h (by decide))); exact ⟨a, k, e, own_belowQ r hb⟩, fun h => (c12 (getD_ne h (by decide))), fun _ => ⟨_, _, rfl, own_lowerQ hr (by omega)⟩, fun h => (c14 (getD_ne h (by decide))), fun h => by obtain ⟨a, k, e, r⟩ := (c15 (getD_ne h (by decide))); exact ⟨a, k, e, own_belowQ r hb⟩, fun h => absurd (c16 (getD_ne h (by decide))).1.2.2.2.2.1 (by rw [hoff]; decide), fun h => absurd (c16 (c17 (getD_ne h (by decide))).1).1.2.2.2.2.1 (by rw [hoff]; decide), fun h _ => (apart_newQ (c11 (getD_ne h (by decide))).choose_spec.choose_spec.2 hr (Nat.le_refl _)).1, fun h h2 => p1 (getD_ne h (by decide)) (getD_ne h2 (by decide)), fun _ h2 => (apart_newQ (c15 (getD_ne h2 (by decide))).choose_spec.choose_spec.2 hr (Nat.le_refl _)).2⟩)
    · -- 14
      refine wpOp_step rfl (fun K' hK' => ?_)
      have HK : Hid (∀ a w, K a w → K' a w) := hK'
      have HK2 : Hid (type_of% hK) := hK
      clear hK hK'
      have y0 := hLu.c0
      have y1 := hLu.c1
      go_simp
      exact HK.out _ _ (HK2.out _ _ ⟨by simp [hls], hB, hN, fun h => hZ (getD_off h (by decide)), _, _, _, _, _, _, _, _, _, _, _, _, _, _, _, _, _, rfl, fun h => (c0 (getD_ne h (by decide))), fun h => (c1 (getD_ne h (by decide))), fun h => (c2 (getD_ne h (by decide))), fun h => (c3 (getD_ne h (by decide))), fun h => (c4 (getD_ne h (by decide))), fun h => (c5 (getD_ne h (by decide))), fun h => (c6 (getD_ne h (by decide))), fun h => (c7 (getD_ne h (by decide))), fun h => (c8 (getD_ne h (by decide))), fun h => (c9 (getD_ne h (by decide))), fun h => (c10 (getD_ne h (by decide))), fun h => (c11 (getD_ne h (by decide))), fun h => (c12 (getD_ne h (by decide))), fun h => (c13 (getD_ne h (by decide))), fun _ => rfl, fun h => (c15 (getD_ne h (by decide))), fun h => ⟨⟨getD_set_true (c16 (getD_ne h (by decide))).1.1, getD_set_true (c16 (getD_ne h (by decide))).1.2.1, getD_set_true (c16 (getD_ne h (by decide))).1.2.2.1, getD_set_true (c16 (getD_ne h (by decide))).1.2.2.2.1, getD_set_true (c16 (getD_ne h (by decide))).1.2.2.2.2.1, getD_set_true (c16 (getD_ne h (by decide))).1.2.2.2.2.2⟩, (c16 (getD_ne h (by decide))).2⟩, fun h => ⟨getD_set_true (c17 (getD_ne h (by decide))).1, (c17 (getD_ne h (by decide))).2⟩, fun h h2 => p0 (getD_ne h (by decide)) (getD_ne h2 (by decide)), fun h h2 => p1 (getD_ne h (by decide)) (getD_ne h2 (by decide)), fun h h2 => p2 (getD_ne h (by decide)) (getD_ne h2 (by decide))⟩)
    · -- 15
      have g14 := (show l.getD 14 false = true from by have hd := ready_deps hi (o := _) rfl; exact hd ⟨14, .data⟩ (by simp) (by rfl))
      obtain rfl := c14 g14
      have hoff := ready_off hi (by omega)
      have CC := allU B b c r 3 M vm W hLu hl
      refine wpOp_step rfl (fun K' hK' => ?_)
      have HK : Hid (∀ a w, K a w → K' a w) := hK'
      have HK2 : Hid (type_of% hK) := hK
      clear hK hK'
      go_simp
      go_at_call 59
      refine CC.mono ?_
      rintro e W9 ⟨v9, rfl, hr, hb⟩
      obtain ⟨ra, rk, rfl⟩ := ZRow.slice hr
      (try go_simp)
      exact HK.out _ _ (HK2.out _ _ ⟨by simp [hls], hB.trans (hb.mono hB.size), Nat.le_trans hN hb.size, fun h => (hZ (getD_off h (by decide))).below hb, _, _, _, _, _, _, _, _, _, _, _, _, _, _, _, _, _, rfl, fun h => (c0 (getD_ne h (by decide))), fun h => (c1 (getD_ne h (by decide))), fun h => (c2 (getD_ne h (by decide))), fun h => (c3 (getD_ne h (by decide))), fun h => (c4 (getD_ne h (by decide))), fun h => (c5 (getD_ne h (by decide))), fun h => (c6 (getD_ne h (by decide))), fun h => (c7 (getD_ne h (by decide))), fun h => (c8 (getD_ne h (by decide))), fun h => (c9 (getD_ne h (by decide))), fun h => (c10 (getD_ne h (by decide))), fun h => by obtain ⟨a, k, e, r⟩ := (c11 (getD_ne h (by decide))); exact ⟨a, k, e, own_belowQ r hb⟩, fun h => (c12 (getD_ne h (by decide))), fun h => by obtain ⟨a, k, e, r⟩ := (c13 (getD_ne h (by decide))); exact ⟨a, k, e, own_belowQ r hb⟩, fun h => (c14 (getD_ne h (by decide))), fun _ => ⟨_, _, rfl, own_lowerQ hr (by omega)⟩, fun h => absurd (c16 (getD_ne h (by decide))).1.2.2.2.2.2 (by rw [hoff]; decide), fun h => absurd (c16 (c17 (getD_ne h (by decide))).1).1.2.2.2.2.2 (by rw [hoff]; decide), fun h h2 => p0 (getD_ne h (by decide)) (getD_ne h2 (by decide)), fun h _ => (apart_newQ (c11 (getD_ne h (by decide))).choose_spec.choose_spec.2 hr (Nat.le_refl _)).1, fun h _ => (apart_newQ (c13 (getD_ne h (by decide))).choose_spec.choose_spec.2 hr (Nat.le_refl _)).1⟩)
    · -- 16
      have g3 := (show l.getD 3 false = true from by have hd := ready_deps hi (o := _) rfl; exact hd ⟨3, .data⟩ (by simp) (by rfl))
      obtain rfl := c3 g3
      have g7 := (show l.getD 7 false = true from by have hd := ready_deps hi (o := _) rfl; exact hd ⟨7, .data⟩ (by simp) (by rfl))
      obtain rfl := c7 g7
      have g9 := (show l.getD 9 false = true from by have hd := ready_deps hi (o := _) rfl; exact hd ⟨9, .data⟩ (by simp) (by rfl))
      obtain rfl := c9 g9
      have d11 := (show l.getD 11 false = true from by have hd := ready_deps hi (o := _) rfl; exact hd ⟨11, .data⟩ (by simp) (by rfl))
      have f11 := c11 d11
      have d13 := (show l.getD 13 false = true from by have hd := ready_deps hi (o := _) rfl; exact hd ⟨13, .data⟩ (by simp) (by rfl))
      have f13 := c13 d13
      have d15 := (show l.getD 15 false = true from by have hd := ready_deps hi (o := _) rfl; exact hd ⟨15, .data⟩ (by simp) (by rfl))
      have f15 := c15 d15
      obtain ⟨a14, k14, e14, r14⟩ := f11
      obtain ⟨a16, k16, e16, r16⟩ := f13
      obtain ⟨a18, k18, e18, r18⟩ := f15
      subst e14 e16 e18
      have hoff := ready_off hi (by omega)
      have G3 : Hid (type_of% g3) := g3
      have G7 : Hid (type_of% g7) := g7
      have G9 : Hid (type_of% g9) := g9
      have D11 : Hid (type_of% d11) := d11
      have D13 : Hid (type_of% d13) := d13
      have D15 : Hid (type_of% d15) := d15
      clear g3 g7 g9 d11 d13 d15
      refine wpOp_step rfl (fun K' hK' => ?_)
      have HK : Hid (∀ a w, K a w → K' a w) := hK'
      have HK2 : Hid (type_of% hK) := hK
      clear hK hK'
      go_simp
      exact HK.out _ _ (HK2.out _ _ ⟨by simp [hls], hB, hN, fun h => hZ (getD_off h (by decide)), _, _, _, _, _, _, _, _, _, _, _, _, _, _, _, _, _, rfl, fun h => (c0 (getD_ne h (by decide))), fun h => (c1 (getD_ne h (by decide))), fun h => (c2 (getD_ne h (by decide))), fun h => (c3 (getD_ne h (by decide))), fun h => (c4 (getD_ne h (by decide))), fun h => (c5 (getD_ne h (by decide))), fun h => (c6 (getD_ne h (by decide))), fun h => (c7 (getD_ne h (by decide))), fun h => (c8 (getD_ne h (by decide))), fun h => (c9 (getD_ne h (by decide))), fun h => (c10 (getD_ne h (by decide))), fun h => (c11 (getD_ne h (by decide))), fun h => (c12 (getD_ne h (by decide))), fun h => (c13 (getD_ne h (by decide))), fun h => (c14 (getD_ne h (by decide))), fun h => (c15 (getD_ne h (by decide))), fun _ => ⟨⟨getD_set_true G3.out, getD_set_true G7.out, getD_set_true G9.out, getD_set_true D11.out, getD_set_true D13.out, getD_set_true D15.out⟩, rfl⟩, fun h => absurd (c17 (getD_ne h (by decide))).1 (by rw [hoff]; decide), fun h h2 => p0 (getD_ne h (by decide)) (getD_ne h2 (by decide)), fun h h2 => p1 (getD_ne h (by decide)) (getD_ne h2 (by decide)), fun h h2 => p2 (getD_ne h (by decide)) (getD_ne h2 (by decide))⟩)
    · -- 17
      have d16 := (show l.getD 16 false = true from by have hd := ready_deps hi (o := _) rfl; exact hd ⟨16, .data⟩ (by simp) (by rfl))
      have f16 := c16 d16
      have hoff := ready_off hi (by omega)
      have hv := hZ hoff
      obtain ⟨a14, k14, e14, r14⟩ := c11 f16.1.2.2.2.1
      obtain ⟨a16, k16, e16, r16⟩ := c13 f16.1.2.2.2.2.1
      obtain ⟨a18, k18, e18, r18⟩ := c15 f16.1.2.2.2.2.2
      obtain rfl := f16.2
      subst e14 e16 e18
      have y0 := hv.c0
      have z0 := hv.f0
      have y1 := hv.c1
      have z1 := hv.f1
      have y2 := hv.c2
      have z2 := hv.f2
      have y3 := hv.c3
      have z3 := hv.f3
      have y4 := hv.c4
      have z4 := hv.f4
      have y5 := hv.c5
      have z5 := hv.f5
      have D16 : Hid (type_of% d16) := d16
      clear d16 f16
      refine wpOp_step rfl (fun K' hK' => ?_)
      have HK : Hid (∀ a w, K a w → K' a w) := hK'
      have HK2 : Hid (type_of% hK) := hK
      clear hK hK'
      go_simp
      refine HK.out _ _ (HK2.out _ _ ⟨by simp [hls], ?_, ?_, fun h => absurd h (by rw [getD_on (by omega)]; decide), _, _, _, _, _, _, _, _, _, _, _, _, _, _, _, _, _, rfl, fun h => (c0 (getD_ne h (by decide))), fun h => (c1 (getD_ne h (by decide))), fun h => (c2 (getD_ne h (by decide))), fun h => (c3 (getD_ne h (by decide))), fun h => (c4 (getD_ne h (by decide))), fun h => (c5 (getD_ne h (by decide))), fun h => (c6 (getD_ne h (by decide))), fun h => (c7 (getD_ne h (by decide))), fun h => (c8 (getD_ne h (by decide))), fun h => (c9 (getD_ne h (by decide))), fun h => (c10 (getD_ne h (by decide))), fun h => by obtain ⟨a, k, e, r⟩ := (c11 (getD_ne h (by decide))); exact ⟨a, k, e, own_set6Q r (fun g hg => by have := (World.ownsRow.lt r g hg).1; omega)⟩, fun h => (c12 (getD_ne h (by decide))), fun h => by obtain ⟨a, k, e, r⟩ := (c13 (getD_ne h (by decide))); exact ⟨a, k, e, own_set6Q r (fun g hg => by have := (World.ownsRow.lt r g hg).1; omega)⟩, fun h => (c14 (getD_ne h (by decide))), fun h => by obtain ⟨a, k, e, r⟩ := (c15 (getD_ne h (by decide))); exact ⟨a, k, e, own_set6Q r (fun g hg => by have := (World.ownsRow.lt r g hg).1; omega)⟩, fun h => ⟨⟨getD_set_true (c16 (getD_ne h (by decide))).1.1, getD_set_true (c16 (getD_ne h (by decide))).1.2.1, getD_set_true (c16 (getD_ne h (by decide))).1.2.2.1, getD_set_true (c16 (getD_ne h (by decide))).1.2.2.2.1, getD_set_true (c16 (getD_ne h (by decide))).1.2.2.2.2.1, getD_set_true (c16 (getD_ne h (by decide))).1.2.2.2.2.2⟩, (c16 (getD_ne h (by decide))).2⟩, fun _ => ⟨getD_set_true D16.out, hv.set6Q⟩, fun h h2 => p0 (getD_ne h (by decide)) (getD_ne h2 (by decide)), fun h h2 => p1 (getD_ne h (by decide)) (getD_ne h2 (by decide)), fun h h2 => p2 (getD_ne h (by decide)) (getD_ne h2 (by decide))⟩)
      · exact (((((hB.setCell (p := ⟨w.heap.size, 0, none⟩) (Nat.le_refl _) _).setCell (p := ⟨w.heap.size, 1, none⟩) (Nat.le_refl _) _).setCell (p := ⟨w.heap.size, 2, none⟩) (Nat.le_refl _) _).setCell (p := ⟨w.heap.size, 3, none⟩) (Nat.le_refl _) _).setCell (p := ⟨w.heap.size, 4, none⟩) (Nat.le_refl _) _).setCell (p := ⟨w.heap.size, 5, none⟩) (Nat.le_refl _) _
      · simpa using hN

end Go.Proofs.Ytfkhbbmnjndmcaa
