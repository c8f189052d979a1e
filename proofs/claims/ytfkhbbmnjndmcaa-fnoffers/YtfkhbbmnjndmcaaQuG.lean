/- The program's GapsIn: marks cleared, what is left counted. -/
import Derived.Test.YtfkhbbmnjndmcaaQuI
import Derived.Test.YtfkhbbmnjndmcaaQsD
import Derived.Test.YtfkhbbmnjndmcaaInvA
import Derived.Lib.SliceRun
namespace Go.Proofs.Ytfkhbbmnjndmcaa
open Go.RowKit Plain Qus

/-- marks cleared in memory -/
theorem Lu.clear {B b g cap n : Nat} {c r : Int} : ∀ (k p : Nat) (w : World) (M : List Int), p + k ≤ M.length → n = M.length → Lu w B b c r M (.slice (some ⟨g, 0, none⟩) n cap) →
    Lu (w.setCells g p (List.replicate k (.int .i64 0))) B b c r (M.take p ++ List.replicate k 0 ++ M.drop (p + k)) (.slice (some ⟨g, 0, none⟩) n cap) ∧ Below B w (w.setCells g p (List.replicate k (.int .i64 0)))
  | 0, p, w, M, _, _, h => by
    have e : M.take p ++ List.replicate 0 0 ++ M.drop (p + 0) = M := by simp
    rw [e]
    exact ⟨h, Below.refl _ _⟩
  | k + 1, p, w, M, hk, hn, h => by
    subst hn
    obtain ⟨h1, hb1⟩ := h.put p 0
    have hl : M.length = (M.set p 0).length := by simp
    obtain ⟨h2, hb2⟩ := Lu.clear k (p + 1) _ (M.set p 0) (by simp; omega) hl h1
    have e : (M.set p 0).take (p + 1) ++ List.replicate k 0 ++ (M.set p 0).drop (p + 1 + k) = M.take p ++ List.replicate (k + 1) 0 ++ M.drop (p + (k + 1)) := by
      apply List.ext_getElem?
      intro i
      simp only [List.replicate_succ, List.getElem?_append, List.length_append, List.length_take, List.length_set, List.length_replicate, List.length_cons, List.getElem?_take, List.getElem?_drop, List.getElem?_set, List.getElem?_cons, List.getElem?_replicate]
      by_cases c1 : i < p
      · rw [if_pos (by omega), if_pos (by omega), if_pos (by omega), if_neg (by omega), if_pos (by omega), if_pos (by omega), if_pos (by omega)]
      · by_cases c2 : i = p
        · subst c2
          rw [if_pos (by omega), if_pos (by omega), if_pos (by omega), if_pos rfl, if_pos (by omega), if_pos (by omega), if_neg (by omega), if_pos (by omega)]
        · by_cases c3 : i < p + 1 + k
          · rw [if_pos (by omega), if_neg (by omega), if_pos (by omega), if_pos (by omega), if_neg (by omega), if_neg (by omega), if_pos (by omega)]
          · rw [if_neg (by omega), if_neg (by omega), if_neg (by omega)]
            congr 1
            omega
    rw [e] at h2
    exact ⟨h2, hb1.trans hb2⟩

theorem clr_eq (M : List Int) (p : Nat) (hp : p ≤ M.length) : M.take p ++ List.replicate (M.length - p) 0 ++ M.drop (p + (M.length - p)) = clr M p := by
  unfold clr
  rw [List.drop_of_length_le (by omega), List.append_nil]
theorem clr_len (M : List Int) (p : Nat) (hp : p ≤ M.length) : (clr M p).length = M.length := by
  unfold clr
  simp
  omega
theorem lst_place (M : List Int) : ∃ p : Nat, lstM M 2 + 1 = (p : Int) ∧ p ≤ M.length ∧ (lstM M 2 + 1).toNat = p := by
  rcases lstM_nat M 2 with ⟨h, _⟩ | ⟨i, hi, h, _⟩
  · exact ⟨0, by omega, by omega, by omega⟩
  · exact ⟨i + 1, by omega, by omega, by omega⟩

theorem zeroIntQ (w : World) : (zeroValue 3).run Try.prog w = .ok (.int .i64 0) w := by kernel_rfl

def GpI (v0 v1 v2 v3 v5 v6 v7 v8 v9 v10 v11 v12 : Value) (b p : Nat) (M : List Int) (ao : Option Addr) (cap : Nat) (X : Value) (W4 W5 : World) (l : Array Bool) (a : Act) (W : World) : Prop :=
  l.size = 9 ∧ (l.getD 8 false = false → W = W4) ∧ ∃ u13 u14 u15 u16 u17 u18 u19 u20 : Value, a = ⟨#[v0, v1, v2, v3, .pointer (some ⟨b, 0, none⟩), v5, v6, v7, v8, v9, v10, v11, v12, u13, u14, u15, u16, u17, u18, u19, u20, undef, undef, undef, undef, undef, undef, undef], []⟩ ∧
    (l.getD 0 false = true → u13 = .pointer (some ⟨b, 0, none⟩)) ∧
    (l.getD 1 false = true → u14 = .pointer (some ⟨b, 0, none⟩)) ∧
    (l.getD 2 false = true → u15 = .pointer (some ⟨b, 3, none⟩)) ∧
    (l.getD 3 false = true → u16 = .slice ao M.length cap) ∧
    (l.getD 4 false = true → u17 = .pointer (some ⟨b, 0, none⟩)) ∧
    (l.getD 5 false = true → u18 = .int .i64 ((p : Int) - 1)) ∧
    (l.getD 6 false = true → l.getD 5 false = true ∧ u19 = .int .i64 (p : Int)) ∧
    (l.getD 7 false = true → (l.getD 3 false = true ∧ l.getD 6 false = true) ∧ u20 = X) ∧
    (l.getD 8 false = true → l.getD 7 false = true ∧ W = W5)

set_option maxRecDepth 100000 in
set_option maxHeartbeats 8000000 in
theorem implGaps (q : Qu) (v1 v2 v3 : Value) (w : World) (h : QuAt w w.heap.size q v1 v2 v3) :
    Calls Try.prog 36 #[q.val v1 v2 v3] w fun e w' => e = .returned (.tuple #[.int .i64 (gpQ q).1, .bool (gpQ q).2]) ∧ Below w.heap.size w w' := by
  obtain ⟨W0, hW0⟩ : ∃ W, W = w.alloc (.cells #[.int .i64 q.cap, .int .i64 q.rule, .int .i64 q.next, v1, v2, v3] 24) := ⟨_, rfl⟩
  have hB0 : Below w.heap.size w W0 := by rw [hW0]; exact (Below.refl _ w).alloc (Nat.le_refl _) _
  have V1 : Sv W0 w.heap.size (.int .i64 q.cap) (.int .i64 q.rule) (.int .i64 q.next) v1 v2 v3 := by rw [hW0]; exact Sv.fresh w _ _ _ _ _ _ _
  have CL := lineupOf_any q v1 v2 v3 W0 (h.below hB0)
  obtain ⟨a1, c1, a2, c2, a3, c3, rfl, rfl, rfl⟩ := h.form
  unfold Qu.val at CL ⊢
  have HB : Hid (type_of% hB0) := hB0
  have y0 := V1.c0
  have y1 := V1.c1
  have y2 := V1.c2
  have y3 := V1.c3
  have y4 := V1.c4
  have y5 := V1.c5
  clear h V1 hB0
  cases hK : gq q with
  | false =>
    have HQ : Hid (gpQ q = (0, false)) := by show _ = _; unfold gpQ; rw [if_neg (by rw [hK]; simp)]
    rw [hK] at CL
    clear hK
    go_enter Try.func36, Try.ntmps36
    go_upto_region 1 with fail
    rw [← hW0]
    clear hW0
    go_wp2_with fail
    go_at_call 49
    refine CL.mono ?_
    rintro e w1 ⟨u, rfl, hb1, -⟩
    have HE : Hid (Below w.heap.size w w1) := HB.out.trans (hb1.mono HB.out.size)
    clear hb1 CL
    go_wp2_with fail
    go_ret2
    exact ⟨by rw [HQ.out]; rfl, HE.out⟩
  | true =>
    have hgl := (gq_gd hK).1.len
    have HG : Hid (gpQ q = ((((al (clr (mq q) (lstM (mq q) 2 + 1).toNat) 1).length + (al (clr (mq q) (lstM (mq q) 2 + 1).toNat) 3).length : Nat) : Int), true)) := by
      show _ = _
      unfold gpQ
      rw [if_pos hK, gaps_eq hK]
    rw [hK] at CL
    clear hK
    generalize mq q = M at *
    obtain ⟨p, hp, hpl, hpn⟩ := lst_place M
    rw [hpn] at HG
    have HP : Hid (lstM M 2 + 1 = (p : Int)) := hp
    have hgI : (M.length : Int) ≤ 100 := by omega
    clear hp hpn
    have hpI : (p : Int) ≤ (M.length : Int) := by omega
    have hp100 : (p : Int) ≤ 100 := by omega
    go_enter Try.func36, Try.ntmps36
    go_upto_region 1 with fail
    rw [← hW0]
    clear hW0
    go_wp2_with fail
    go_at_call 49
    refine CL.mono ?_
    rintro e w1 ⟨u, rfl, hb1, hL⟩
    obtain ⟨b, vm, hu, hL2⟩ := hL (by trivial)
    clear hL
    subst hu
    have HE1 : Hid (Below w.heap.size w w1) := HB.out.trans (hb1.mono HB.out.size)
    have hs1 : w.heap.size ≤ W0.heap.size := HB.out.size
    have hs2 : W0.heap.size ≤ w1.heap.size := hb1.size
    have HL : Hid (type_of% hL2) := hL2
    have CLA : Hid (Calls Try.prog 58 #[.pointer (some ⟨b, 0, none⟩), .int .i64 2] w1.drew fun e w' => e = .returned (.int .i64 ((p : Int) - 1)) ∧ w' = w1.drew) := by rw [show (p : Int) - 1 = lstM M 2 by have := HP.out; omega]; exact lastU _ b _ _ 2 M vm w1.drew (hL2.below (Below.refl _ w1).drew) (by omega)
    have CAL : Hid (∀ W a, Lu W W0.heap.size b q.cap q.rule (clr M p) vm → Calls Try.prog 59 #[.pointer (some ⟨b, 0, none⟩), .int .i64 a] W fun e w' => ∃ v, e = .returned v ∧ ZRow w' W.heap.size v (al (clr M p) a) ∧ Below W.heap.size W w') := fun W a hW => allU _ b _ _ a (clr M p) vm W hW (by rw [clr_len M p hpl]; omega)
    have hclrl := clr_len M p hpl
    have hal1 := al_le (clr M p) 1
    have hal3 := al_le (clr M p) 3
    rw [hclrl] at hal1 hal3
    clear hb1 CL y0 y1 y2 y3 y4 y5 hclrl
    obtain ⟨ao, cap, hvm⟩ := ZRow.slice HL.out.row
    have hcapx : M.length ≤ cap ∧ cap ≤ maxLen := by
      obtain ⟨_, _, e, h1, h2, _⟩ := ZAt.own HL.out.row
      rw [hvm] at e
      cases e
      exact ⟨h1, h2⟩
    obtain ⟨hcap1, hcap2⟩ := hcapx
    unfold maxLen at hcap2
    have key : ∃ X W5, (∀ W : World, (Instr.slice 22 (.slice ao M.length cap) (some (.int .i64 (p : Int))) none none).run Try.prog W = .ok X W) ∧ (∀ ty, (Builtin.clear_ #[22] ty #[X]).run Try.prog w1.drew = .ok (.tuple #[]) W5) ∧ Lu W5 W0.heap.size b q.cap q.rule (clr M p) vm ∧ Below W0.heap.size w1 W5 := by
      by_cases hpe : p = M.length
      · have hnop : clr M p = M := by
          have := clr_eq M p hpl
          rw [hpe] at this ⊢
          rw [← this]
          simp
        obtain ⟨b2, hsl0, -⟩ := cutF M ao cap p hpl
        have hdl : (M.drop p).length = 0 := by rw [List.length_drop]; omega
        rw [hdl] at hsl0
        refine ⟨_, w1.drew, hsl0, fun ty => ?_, by rw [hnop]; exact hL2.below (Below.refl _ w1).drew, (Below.refl _ w1).drew⟩
        cases b2 <;> simp [Builtin.clear_, run_underlying Try.underlying22]
      · have hplt : p < M.length := by omega
        obtain ⟨g, cap', hvm', hgB, hg, _, _, _, _⟩ := HL.out.cell hplt
        rw [hvm] at hvm'
        cases hvm'
        subst hvm
        obtain ⟨hC1, hC2⟩ := Lu.clear (M.length - p) p w1.drew M (by omega) rfl (hL2.below (Below.refl _ w1).drew)
        rw [clr_eq M p hpl] at hC1
        refine ⟨.slice (some ⟨g, p, none⟩) (M.length - p) (cap - p), _, fun W => ?_, fun ty => ?_, hC1, ((Below.refl _ w1).drew).trans hC2⟩
        · rw [run_slice_l (P := Try.prog) (w := W) 22 _ M.length cap Try.underlying22 .i64 (p : Int) (by omega) (by omega)]
          have e : (sizeOf (Try.prog.elem 22)).run Try.prog W = .ok 1 W := by kernel_rfl
          rw [e]
          show Result.ok (sliced _ (p : Int).toNat M.length cap 1) W = _
          unfold sliced
          rw [Int.toNat_natCast, if_neg (by omega)]
          show Result.ok (Value.slice (some ((⟨g, 0, none⟩ : Addr).add (p * 1))) _ _) W = _
          rw [addr_add, Nat.mul_one, Nat.zero_add]
        · exact Lib.run_clear_slice w1.drew 22 3 ty (.int .i64 0) Try.underlying22 zeroIntQ rfl rfl g p (M.length - p) (cap - p) (by omega)
            (fun j hj => by
              have := (World.ownsRow.cellAt (hL2.below (Below.refl _ w1).drew).row (p + j) (by omega))
              rw [this]
              simp [zints]
              omega)
            (fun j hj => World.ownsRow.frozenAt (hL2.below (Below.refl _ w1).drew).row (p + j))
    obtain ⟨X, W5, hsl, hcl, hL5, hB5⟩ := key
    have HSL : Hid (type_of% hsl) := hsl
    have HCL : Hid (type_of% hcl) := hcl
    have HL5 : Hid (type_of% hL5) := hL5
    have HE2 : Hid (Below w.heap.size w W5) := HE1.out.trans (hB5.mono (by omega))
    have HC3 : Hid (w1.drew.cell? ⟨b, 3, none⟩ = some (.slice ao M.length cap)) := by have := (hL2.below (Below.refl _ w1).drew).c3; rw [hvm] at this; exact this
    have hwp : IntKind.i64.wrap (p : Int) = (p : Int) := by rw [IntKind.wrap_i64]; omega
    clear hL2 hL5 hB5 hsl hcl hvm
    go_upto_region 4 with fail
    refine wp_region_held_drew (S := fun _ => True) (by kernel_rfl) trivial (fun _ => ?_)
    refine wpAnyH_inv (GpI (.agg #[.int .i64 q.cap, .int .i64 q.rule, .int .i64 q.next, .slice a1 q.wt.length c1, .slice a2 q.hd.length c2, .slice a3 q.dr.length c3]) (.pointer (some ⟨w.heap.size, 0, none⟩)) (.int .i64 0) (.bool false) (.bool true) (.tuple #[.pointer (some ⟨b, 0, none⟩), .bool true]) (.agg #[.int .i64 q.cap, .int .i64 q.rule, .int .i64 q.next, .slice a1 q.wt.length c1, .slice a2 q.hd.length c2, .slice a3 q.dr.length c3]) (.tuple #[.pointer (some ⟨b, 0, none⟩), .bool true]) (.pointer (some ⟨b, 0, none⟩)) (.bool true) (.bool true) (.bool false) b p M ao cap X w1.drew W5) ?step ?fin _ _ _ _ ?init (by decide)
    case init =>
      refine ⟨by simp, fun _ => rfl, _, _, _, _, _, _, _, _, rfl, ?_, ?_, ?_, ?_, ?_, ?_, ?_, ?_, ?_⟩
      all_goals
        intro h
        exact absurd h (by decide)
    case fin =>
      intro l a W hI h0
      obtain ⟨hls, hw, u13, u14, u15, u16, u17, u18, u19, u20, rfl, c0, c1, c2, c3, c4, c5, c6, c7, c8⟩ := hI
      have b0 : l.getD 0 false = true := listed_of h0 0 _ (by omega) rfl (by intro e he; first | (simp at he; done) | skip; simp at he; (repeat (rcases he with rfl | he; · assumption)); all_goals (subst he; assumption))
      have b1 : l.getD 1 false = true := listed_of h0 1 _ (by omega) rfl (by intro e he; first | (simp at he; done) | skip; simp at he; (repeat (rcases he with rfl | he; · assumption)); all_goals (subst he; assumption))
      have b2 : l.getD 2 false = true := listed_of h0 2 _ (by omega) rfl (by intro e he; first | (simp at he; done) | skip; simp at he; (repeat (rcases he with rfl | he; · assumption)); all_goals (subst he; assumption))
      have b3 : l.getD 3 false = true := listed_of h0 3 _ (by omega) rfl (by intro e he; first | (simp at he; done) | skip; simp at he; (repeat (rcases he with rfl | he; · assumption)); all_goals (subst he; assumption))
      have b4 : l.getD 4 false = true := listed_of h0 4 _ (by omega) rfl (by intro e he; first | (simp at he; done) | skip; simp at he; (repeat (rcases he with rfl | he; · assumption)); all_goals (subst he; assumption))
      have b5 : l.getD 5 false = true := listed_of h0 5 _ (by omega) rfl (by intro e he; first | (simp at he; done) | skip; simp at he; (repeat (rcases he with rfl | he; · assumption)); all_goals (subst he; assumption))
      have b6 : l.getD 6 false = true := listed_of h0 6 _ (by omega) rfl (by intro e he; first | (simp at he; done) | skip; simp at he; (repeat (rcases he with rfl | he; · assumption)); all_goals (subst he; assumption))
      have b7 : l.getD 7 false = true := listed_of h0 7 _ (by omega) rfl (by intro e he; first | (simp at he; done) | skip; simp at he; (repeat (rcases he with rfl | he; · assumption)); all_goals (subst he; assumption))
      have b8 : l.getD 8 false = true := listed_of h0 8 _ (by omega) rfl (by intro e he; first | (simp at he; done) | skip; simp at he; (repeat (rcases he with rfl | he; · assumption)); all_goals (subst he; assumption))
      obtain rfl := (c8 b8).2
      clear hw c0 c1 c2 c3 c4 c5 c6 c7 c8 b0 b1 b2 b3 b4 b5 b6 b7 b8 h0 hls
      (try dsimp only)
      go_wp2_with fail
      go_at_call 59
      refine (CAL.out _ 1 HL5.out).mono ?_
      rintro e w3 ⟨r3, rfl, hr3, hb3⟩
      obtain ⟨ra3, rk3, rfl⟩ := ZRow.slice hr3
      have HL6 : Hid (type_of% (HL5.out.below hb3)) := HL5.out.below hb3
      have HE3 : Hid (Below w.heap.size w w3) := HE2.out.trans (hb3.mono HE2.out.size)
      clear hr3 hb3
      go_wp2_with fail
      go_at_call 59
      refine (CAL.out _ 3 HL6.out).mono ?_
      rintro e w4 ⟨r4, rfl, hr4, hb4⟩
      obtain ⟨ra4, rk4, rfl⟩ := ZRow.slice hr4
      have HE4 : Hid (Below w.heap.size w w4) := HE3.out.trans (hb4.mono HE3.out.size)
      clear hr4 hb4
      go_wp2_with fail
      go_ret2
      exact ⟨by rw [HG.out]; simp, HE4.out⟩
    case step =>
      intro l a W i hI hi K hK
      have hlt := ready_lt hi
      obtain ⟨hls, hw, u13, u14, u15, u16, u17, u18, u19, u20, rfl, c0, c1, c2, c3, c4, c5, c6, c7, c8⟩ := hI
      have hlt' : i < 9 := hlt
      rcases (show i = 0 ∨ i = 1 ∨ i = 2 ∨ i = 3 ∨ i = 4 ∨ i = 5 ∨ i = 6 ∨ i = 7 ∨ i = 8 by omega) with rfl | rfl | rfl | rfl | rfl | rfl | rfl | rfl | rfl
      · -- 0
        have hoff := ready_off hi (by omega)
        refine wpOp_step rfl (fun K' hK' => ?_)
        have HK : Hid (∀ a w, K a w → K' a w) := hK'
        have HK2 : Hid (type_of% hK) := hK
        clear hK hK'
        go_simp
        exact HK.out _ _ (HK2.out _ _ ⟨by simp [hls], fun h => hw (getD_off h (by decide)), _, _, _, _, _, _, _, _, rfl, fun _ => rfl, fun h => c1 (getD_ne h (by decide)), fun h => c2 (getD_ne h (by decide)), fun h => c3 (getD_ne h (by decide)), fun h => c4 (getD_ne h (by decide)), fun h => c5 (getD_ne h (by decide)), fun h => ⟨getD_set_true (c6 (getD_ne h (by decide))).1, (c6 (getD_ne h (by decide))).2⟩, fun h => ⟨⟨getD_set_true (c7 (getD_ne h (by decide))).1.1, getD_set_true (c7 (getD_ne h (by decide))).1.2⟩, (c7 (getD_ne h (by decide))).2⟩, fun h => ⟨getD_set_true (c8 (getD_ne h (by decide))).1, (c8 (getD_ne h (by decide))).2⟩⟩)
      · -- 1
        have g0 := (show l.getD 0 false = true from by have hd := ready_deps hi (o := _) rfl; exact hd ⟨0, .data⟩ (by simp) (by rfl))
        obtain rfl := c0 g0
        have hoff := ready_off hi (by omega)
        refine wpOp_step rfl (fun K' hK' => ?_)
        have HK : Hid (∀ a w, K a w → K' a w) := hK'
        have HK2 : Hid (type_of% hK) := hK
        clear hK hK'
        go_simp
        exact HK.out _ _ (HK2.out _ _ ⟨by simp [hls], fun h => hw (getD_off h (by decide)), _, _, _, _, _, _, _, _, rfl, fun h => c0 (getD_ne h (by decide)), fun _ => rfl, fun h => c2 (getD_ne h (by decide)), fun h => c3 (getD_ne h (by decide)), fun h => c4 (getD_ne h (by decide)), fun h => c5 (getD_ne h (by decide)), fun h => ⟨getD_set_true (c6 (getD_ne h (by decide))).1, (c6 (getD_ne h (by decide))).2⟩, fun h => ⟨⟨getD_set_true (c7 (getD_ne h (by decide))).1.1, getD_set_true (c7 (getD_ne h (by decide))).1.2⟩, (c7 (getD_ne h (by decide))).2⟩, fun h => ⟨getD_set_true (c8 (getD_ne h (by decide))).1, (c8 (getD_ne h (by decide))).2⟩⟩)
      · -- 2
        have g1 := (show l.getD 1 false = true from by have hd := ready_deps hi (o := _) rfl; exact hd ⟨1, .data⟩ (by simp) (by rfl))
        obtain rfl := c1 g1
        have hoff := ready_off hi (by omega)
        refine wpOp_step rfl (fun K' hK' => ?_)
        have HK : Hid (∀ a w, K a w → K' a w) := hK'
        have HK2 : Hid (type_of% hK) := hK
        clear hK hK'
        go_simp
        exact HK.out _ _ (HK2.out _ _ ⟨by simp [hls], fun h => hw (getD_off h (by decide)), _, _, _, _, _, _, _, _, rfl, fun h => c0 (getD_ne h (by decide)), fun h => c1 (getD_ne h (by decide)), fun _ => rfl, fun h => c3 (getD_ne h (by decide)), fun h => c4 (getD_ne h (by decide)), fun h => c5 (getD_ne h (by decide)), fun h => ⟨getD_set_true (c6 (getD_ne h (by decide))).1, (c6 (getD_ne h (by decide))).2⟩, fun h => ⟨⟨getD_set_true (c7 (getD_ne h (by decide))).1.1, getD_set_true (c7 (getD_ne h (by decide))).1.2⟩, (c7 (getD_ne h (by decide))).2⟩, fun h => ⟨getD_set_true (c8 (getD_ne h (by decide))).1, (c8 (getD_ne h (by decide))).2⟩⟩)
      · -- 3
        have g2 := (show l.getD 2 false = true from by have hd := ready_deps hi (o := _) rfl; exact hd ⟨2, .data⟩ (by simp) (by rfl))
        obtain rfl := c2 g2
        have hoff := ready_off hi (by omega)
        rcases Bool.eq_false_or_eq_true (l.getD 8 false) with h8 | h8
        · have := (c8 h8).1
          have h3 : l.getD 3 false = true := (c7 this).1.1
          rw [h3] at hoff
          cases hoff
        obtain rfl := hw h8
        have y3 := HC3.out
        refine wpOp_step rfl (fun K' hK' => ?_)
        have HK : Hid (∀ a w, K a w → K' a w) := hK'
        have HK2 : Hid (type_of% hK) := hK
        clear hK hK'
        go_simp
        exact HK.out _ _ (HK2.out _ _ ⟨by simp [hls], fun _ => rfl, _, _, _, _, _, _, _, _, rfl, fun h => c0 (getD_ne h (by decide)), fun h => c1 (getD_ne h (by decide)), fun h => c2 (getD_ne h (by decide)), fun _ => rfl, fun h => c4 (getD_ne h (by decide)), fun h => c5 (getD_ne h (by decide)), fun h => ⟨getD_set_true (c6 (getD_ne h (by decide))).1, (c6 (getD_ne h (by decide))).2⟩, fun h => ⟨⟨getD_set_true (c7 (getD_ne h (by decide))).1.1, getD_set_true (c7 (getD_ne h (by decide))).1.2⟩, (c7 (getD_ne h (by decide))).2⟩, fun h => ⟨getD_set_true (c8 (getD_ne h (by decide))).1, (c8 (getD_ne h (by decide))).2⟩⟩)
      · -- 4
        have hoff := ready_off hi (by omega)
        refine wpOp_step rfl (fun K' hK' => ?_)
        have HK : Hid (∀ a w, K a w → K' a w) := hK'
        have HK2 : Hid (type_of% hK) := hK
        clear hK hK'
        go_simp
        exact HK.out _ _ (HK2.out _ _ ⟨by simp [hls], fun h => hw (getD_off h (by decide)), _, _, _, _, _, _, _, _, rfl, fun h => c0 (getD_ne h (by decide)), fun h => c1 (getD_ne h (by decide)), fun h => c2 (getD_ne h (by decide)), fun h => c3 (getD_ne h (by decide)), fun _ => rfl, fun h => c5 (getD_ne h (by decide)), fun h => ⟨getD_set_true (c6 (getD_ne h (by decide))).1, (c6 (getD_ne h (by decide))).2⟩, fun h => ⟨⟨getD_set_true (c7 (getD_ne h (by decide))).1.1, getD_set_true (c7 (getD_ne h (by decide))).1.2⟩, (c7 (getD_ne h (by decide))).2⟩, fun h => ⟨getD_set_true (c8 (getD_ne h (by decide))).1, (c8 (getD_ne h (by decide))).2⟩⟩)
      · -- 5
        have g4 := (show l.getD 4 false = true from by have hd := ready_deps hi (o := _) rfl; exact hd ⟨4, .data⟩ (by simp) (by rfl))
        obtain rfl := c4 g4
        have hoff := ready_off hi (by omega)
        rcases Bool.eq_false_or_eq_true (l.getD 8 false) with h8 | h8
        · have h5 : l.getD 5 false = true := (c6 (c7 (c8 h8).1).1.2).1
          rw [h5] at hoff
          cases hoff
        obtain rfl := hw h8
        have CC := CLA.out
        refine wpOp_step rfl (fun K' hK' => ?_)
        have HK : Hid (∀ a w, K a w → K' a w) := hK'
        have HK2 : Hid (type_of% hK) := hK
        clear hK hK'
        go_simp
        go_at_call 58
        refine CC.mono ?_
        rintro e W9 ⟨rfl, hw9⟩
        have hw9 := hw9.symm
        subst hw9
        (try go_simp)
        exact HK.out _ _ (HK2.out _ _ ⟨by simp [hls], fun _ => rfl, _, _, _, _, _, _, _, _, rfl, fun h => c0 (getD_ne h (by decide)), fun h => c1 (getD_ne h (by decide)), fun h => c2 (getD_ne h (by decide)), fun h => c3 (getD_ne h (by decide)), fun h => c4 (getD_ne h (by decide)), fun _ => rfl, fun h => ⟨getD_set_true (c6 (getD_ne h (by decide))).1, (c6 (getD_ne h (by decide))).2⟩, fun h => ⟨⟨getD_set_true (c7 (getD_ne h (by decide))).1.1, getD_set_true (c7 (getD_ne h (by decide))).1.2⟩, (c7 (getD_ne h (by decide))).2⟩, fun h => ⟨getD_set_true (c8 (getD_ne h (by decide))).1, (c8 (getD_ne h (by decide))).2⟩⟩)
      · -- 6
        have g5 := (show l.getD 5 false = true from by have hd := ready_deps hi (o := _) rfl; exact hd ⟨5, .data⟩ (by simp) (by rfl))
        obtain rfl := c5 g5
        have hoff := ready_off hi (by omega)
        have G5 : Hid (type_of% g5) := g5
        clear g5
        refine wpOp_step rfl (fun K' hK' => ?_)
        have HK : Hid (∀ a w, K a w → K' a w) := hK'
        have HK2 : Hid (type_of% hK) := hK
        clear hK hK'
        go_simp
        exact HK.out _ _ (HK2.out _ _ ⟨by simp [hls], fun h => hw (getD_off h (by decide)), _, _, _, _, _, _, _, _, rfl, fun h => c0 (getD_ne h (by decide)), fun h => c1 (getD_ne h (by decide)), fun h => c2 (getD_ne h (by decide)), fun h => c3 (getD_ne h (by decide)), fun h => c4 (getD_ne h (by decide)), fun h => c5 (getD_ne h (by decide)), fun _ => ⟨getD_set_true G5.out, rfl⟩, fun h => ⟨⟨getD_set_true (c7 (getD_ne h (by decide))).1.1, getD_set_true (c7 (getD_ne h (by decide))).1.2⟩, (c7 (getD_ne h (by decide))).2⟩, fun h => ⟨getD_set_true (c8 (getD_ne h (by decide))).1, (c8 (getD_ne h (by decide))).2⟩⟩)
      · -- 7
        have g3 := (show l.getD 3 false = true from by have hd := ready_deps hi (o := _) rfl; exact hd ⟨3, .data⟩ (by simp) (by rfl))
        obtain rfl := c3 g3
        have g6 := (show l.getD 6 false = true from by have hd := ready_deps hi (o := _) rfl; exact hd ⟨6, .data⟩ (by simp) (by rfl))
        obtain rfl := (c6 g6).2
        have hoff := ready_off hi (by omega)
        have hsl := HSL.out
        have G3 : Hid (type_of% g3) := g3
        have G6 : Hid (type_of% g6) := g6
        clear g3 g6
        refine wpOp_step rfl (fun K' hK' => ?_)
        have HK : Hid (∀ a w, K a w → K' a w) := hK'
        have HK2 : Hid (type_of% hK) := hK
        clear hK hK'
        go_simp
        (try simp only [hsl, Result.andThen_ok])
        (try go_simp)
        exact HK.out _ _ (HK2.out _ _ ⟨by simp [hls], fun h => hw (getD_off h (by decide)), _, _, _, _, _, _, _, _, rfl, fun h => c0 (getD_ne h (by decide)), fun h => c1 (getD_ne h (by decide)), fun h => c2 (getD_ne h (by decide)), fun h => c3 (getD_ne h (by decide)), fun h => c4 (getD_ne h (by decide)), fun h => c5 (getD_ne h (by decide)), fun h => ⟨getD_set_true (c6 (getD_ne h (by decide))).1, (c6 (getD_ne h (by decide))).2⟩, fun _ => ⟨⟨getD_set_true G3.out, getD_set_true G6.out⟩, rfl⟩, fun h => absurd (c8 (getD_ne h (by decide))).1 (by rw [hoff]; decide)⟩)
      · -- 8
        have g7 := (show l.getD 7 false = true from by have hd := ready_deps hi (o := _) rfl; exact hd ⟨7, .data⟩ (by simp) (by rfl))
        obtain rfl := (c7 g7).2
        have hoff := ready_off hi (by omega)
        obtain rfl := hw hoff
        have hcl := HCL.out
        have G7 : Hid (type_of% g7) := g7
        clear g7
        refine wpOp_step rfl (fun K' hK' => ?_)
        have HK : Hid (∀ a w, K a w → K' a w) := hK'
        have HK2 : Hid (type_of% hK) := hK
        clear hK hK'
        go_simp
        exact HK.out _ _ (HK2.out _ _ ⟨by simp [hls], fun h => absurd h (by rw [getD_on (by omega)]; decide), _, _, _, _, _, _, _, _, rfl, fun h => c0 (getD_ne h (by decide)), fun h => c1 (getD_ne h (by decide)), fun h => c2 (getD_ne h (by decide)), fun h => c3 (getD_ne h (by decide)), fun h => c4 (getD_ne h (by decide)), fun h => c5 (getD_ne h (by decide)), fun h => ⟨getD_set_true (c6 (getD_ne h (by decide))).1, (c6 (getD_ne h (by decide))).2⟩, fun h => ⟨⟨getD_set_true (c7 (getD_ne h (by decide))).1.1, getD_set_true (c7 (getD_ne h (by decide))).1.2⟩, (c7 (getD_ne h (by decide))).2⟩, fun _ => ⟨getD_set_true G7.out, rfl⟩⟩)

end Go.Proofs.Ytfkhbbmnjndmcaa
