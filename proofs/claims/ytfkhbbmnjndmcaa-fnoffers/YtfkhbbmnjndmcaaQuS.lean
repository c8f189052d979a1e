/- The program's lineupOf: a queue taken up. -/
import Derived.Test.YtfkhbbmnjndmcaaQuR
import Derived.Test.YtfkhbbmnjndmcaaQuK
import Derived.Laws.OwnMore
namespace Go.Proofs.Ytfkhbbmnjndmcaa
open Go.RowKit Plain Qus

theorem ZAt.keepQ {w w' : World} {B : Nat} {v : Value} {l : List Int} (h : ZAt w B v l) (hb : Below B w w') : ZAt w' B v l := by
  obtain ⟨ao, cap, hv, hm, hc, hr⟩ := h
  refine ⟨ao, cap, hv, hm, hc, fun i x hi => ?_⟩
  obtain ⟨g, o, ha, hg, c⟩ := hr i x hi
  exact ⟨g, o, ha, hg, (hb.cell (p := ⟨g, o + i, none⟩) hg).trans c⟩

theorem Lu.made {w1 : World} {N : Nat} {c r : Int} {vm : Value} (h : Lu w1 N N c r [] vm) (n : Nat) (hn : n ≤ 1000) {Mc : Array Value} (hM : Mc = madeCells #[Value.int .i64 0] n) : Lu ((w1.setCell ⟨N, 3, none⟩ (.slice (some ⟨w1.heap.size, 0, none⟩) n n)).alloc (.cells Mc 3)) N N c r (List.replicate n 0) (.slice (some ⟨w1.heap.size, 0, none⟩) n n) ∧ Below N w1 ((w1.setCell ⟨N, 3, none⟩ (.slice (some ⟨w1.heap.size, 0, none⟩) n n)).alloc (.cells Mc 3)) := by
  have hNl := h.hi
  obtain ⟨W1, hW1⟩ : ∃ W, W = w1.setCell ⟨N, 3, none⟩ (.slice (some ⟨w1.heap.size, 0, none⟩) n n) := ⟨_, rfl⟩
  have hs1 : W1.heap.size = w1.heap.size := by rw [hW1]; simp
  have hbN : Below N w1 W1 := by rw [hW1]; exact (Below.refl _ w1).setCell (p := ⟨N, 3, none⟩) (Nat.le_refl _) _
  have d0 : W1.cell? ⟨N, 0, none⟩ = some (.int .i64 c) := by rw [hW1, World.cell?_setCell_other _ _ _ _ (by simp)]; exact h.c0
  have d1 : W1.cell? ⟨N, 1, none⟩ = some (.int .i64 r) := by rw [hW1, World.cell?_setCell_other _ _ _ _ (by simp)]; exact h.c1
  have d2 : W1.cell? ⟨N, 2, none⟩ = some (fnD r N) := by rw [hW1, World.cell?_setCell_other _ _ _ _ (by simp)]; exact h.c2
  have d3 : W1.cell? ⟨N, 3, none⟩ = some (.slice (some ⟨w1.heap.size, 0, none⟩) n n) := by rw [hW1]; exact World.cell?_setCell_same _ _ _ h.c3
  have e3 : W1.frozen? ⟨N, 3, none⟩ = false := by rw [hW1, World.frozen?_setCell]; exact h.f3
  rw [← hW1]
  have hb : Below W1.heap.size W1 (W1.alloc (.cells Mc 3)) := (Below.refl _ W1).alloc (Nat.le_refl _) _
  have hNl1 : N < W1.heap.size := by omega
  have hown : (W1.alloc (.cells Mc 3)).ownsRow N 3 1 (.slice (some ⟨w1.heap.size, 0, none⟩) n n) n (zints (List.replicate n 0)) := by
    have hs : Mc.size = n := by rw [hM, size_madeCells]
    refine ⟨by simp [zints], .inr ⟨w1.heap.size, n, Mc, rfl, by omega, by rw [← hs1]; exact heap_alloc_new W1 _, Nat.le_refl _, by unfold maxLen; omega, by omega, ?_⟩⟩
    rw [hM, toList_madeCells_one]
    simp [zints]
  have cc : ∀ k, (W1.alloc (.cells Mc 3)).cell? ⟨N, k, none⟩ = W1.cell? ⟨N, k, none⟩ := fun k => hb.cell (p := ⟨N, k, none⟩) hNl1
  refine ⟨⟨h.lo, by simp; omega, (cc 0).trans d0, (cc 1).trans d1, (cc 2).trans d2, (cc 3).trans d3, (hb.frozen (p := ⟨N, 3, none⟩) hNl1).trans e3, ?_, by simp [Value.ownBlock]; omega⟩, hbN.trans (hb.mono (by omega))⟩
  show World.ownsRow _ _ _ _ _ _ _
  rw [List.length_replicate]
  exact hown

theorem Lu.lower {w : World} {B B' b : Nat} {c r : Int} {M : List Int} {vm : Value} (h : Lu w B b c r M vm) (hB : B' ≤ B) : Lu w B' b c r M vm :=
  ⟨by have := h.lo; omega, h.hi, h.c0, h.c1, h.c2, h.c3, h.f3, ZRow.lower h.row hB, h.ap⟩

theorem g1_no {q : Qu} (h : g1 q = false) : gq q = false := by unfold gq; rw [h]; rfl
theorem mk3_no {q : Qu} (h : mk3 q = none) : gq q = false := by unfold gq; rw [h]; simp
theorem mk3_yes {q : Qu} {M : List Int} (h1 : g1 q = true) (h : mk3 q = some M) : gq q = !decide ((0 : Int) ∈ M) ∧ mq q = M := by
  refine ⟨?_, by unfold mq; rw [h]; rfl⟩
  unfold gq
  rw [h1, h]
  simp

theorem infoIntR : (Try.prog.info? 3).map (fun i => (i.zero, i.size, i.bytes)) = some (some (.int .i64 0), 1, 8) := by kernel_rfl

set_option maxRecDepth 100000 in
set_option maxHeartbeats 8000000 in
theorem lineupOf_core (c r x : Int) (L1 L2 L3 : List Int) (v1 v2 v3 : Value) (w : World) (h : QuAt w w.heap.size ⟨c, r, x, L1, L2, L3⟩ v1 v2 v3) :
    Calls Try.prog 49 #[.agg #[.int .i64 c, .int .i64 r, .int .i64 x, v1, v2, v3]] w fun e w' => ∃ v, e = .returned (.tuple #[v, .bool (gq ⟨c, r, x, L1, L2, L3⟩)]) ∧ Below w.heap.size w w' ∧ (gq ⟨c, r, x, L1, L2, L3⟩ = true → ∃ b vm, v = .pointer (some ⟨b, 0, none⟩) ∧ Lu w' w.heap.size b c r (mq ⟨c, r, x, L1, L2, L3⟩) vm) := by
  obtain ⟨W0, hW0⟩ : ∃ W, W = w.alloc (.cells #[.int .i64 c, .int .i64 r, .int .i64 x, v1, v2, v3] 24) := ⟨_, rfl⟩
  have hB0 : Below w.heap.size w W0 := by rw [hW0]; exact (Below.refl _ w).alloc (Nat.le_refl _) _
  have hs0 : W0.heap.size = w.heap.size + 1 := by rw [hW0]; simp
  have V1 : Sv W0 w.heap.size (.int .i64 c) (.int .i64 r) (.int .i64 x) v1 v2 v3 := by rw [hW0]; exact Sv.fresh w _ _ _ _ _ _ _
  have A1 : QuAt W0 W0.heap.size ⟨c, r, x, L1, L2, L3⟩ v1 v2 v3 := h.below hB0
  have CN := newLineup_any c r W0
  have HA : Hid (type_of% A1) := A1
  have HV : Hid (type_of% V1) := V1
  have HB : Hid (type_of% hB0) := hB0
  obtain ⟨a1, k1, a2, k2, a3, k3, hv1, hv2, hv3⟩ := A1.form
  dsimp only at hv1 hv2 hv3
  have hl1 : (L1.length : Int) ≤ 9223372036854775807 := by
    obtain ⟨_, _, e, h1, h2, _⟩ := A1.a
    unfold maxLen at h2
    dsimp only at h1
    omega
  subst hv1 hv2 hv3
  have y0 := V1.c0
  have y1 := V1.c1
  clear h A1 V1 hB0
  obtain ⟨N, hN⟩ : ∃ N, N = W0.heap.size := ⟨_, rfl⟩
  have hNw : w.heap.size + 1 ≤ N := by omega
  have hNa : N ≤ W0.heap.size := by omega
  have hNb : W0.heap.size ≤ N := by omega
  have HN : Hid (N = W0.heap.size) := hN
  rw [← hN] at CN
  clear hN hs0
  by_cases hok : okR c r = true
  · rw [hok] at CN
    by_cases hx : 0 ≤ x ∧ x ≤ 100 ∧ (L1.length : Int) ≤ c
    · have hg1 : g1 ⟨c, r, x, L1, L2, L3⟩ = true := by
        unfold g1
        rw [show okR (Qu.mk c r x L1 L2 L3).cap (Qu.mk c r x L1 L2 L3).rule = true from hok]
        simp [hx]
      obtain ⟨n, rfl⟩ : ∃ n : Nat, x = (n : Int) := ⟨x.toNat, by omega⟩
      obtain ⟨i0, hi, hz0, hz1, hz2⟩ := info_parts infoIntR
      obtain ⟨Mc, hMc⟩ : ∃ M, M = madeCells (Value.int .i64 0).cells (((n : Nat) : Int).toNat * i0.size) := ⟨_, rfl⟩
      have hmk : ∀ W : World, (Instr.makeSlice 22 (.int .i64 (n : Int)) (.int .i64 (n : Int))).run Try.prog W = .ok (.slice (some ⟨W.heap.size, 0, none⟩) n n) (W.alloc (.cells Mc 3)) := fun W => by
        have h := run_make (P := Try.prog) W 22 3 i0 (.int .i64 0) Try.underlying22 hi hz0 .i64 .i64 (n : Int) (n : Int) (by omega) (by omega) (by rw [hz2]; omega) (by omega)
        rw [← hMc] at h
        simpa using h
      have hMz : Hid (Mc = madeCells #[Value.int .i64 0] n) := by show _ = _; rw [hMc, hz1]; simp [Value.cells]
      clear hMc
      have hn0 : ¬ ((n : Int) < 0) := by omega
      have hn1 : ¬ ((n : Int) > 100) := by omega
      have hn2 : ¬ ((L1.length : Int) > c) := by omega
      have hn100 : n ≤ 100 := by omega
      have HM : Hid (∀ M, mk3 ⟨c, r, (n : Int), L1, L2, L3⟩ = some M → gq ⟨c, r, (n : Int), L1, L2, L3⟩ = !decide ((0 : Int) ∈ M) ∧ mq ⟨c, r, (n : Int), L1, L2, L3⟩ = M) := fun M h => mk3_yes hg1 h
      have HMN : Hid (mk3 ⟨c, r, (n : Int), L1, L2, L3⟩ = none → gq ⟨c, r, (n : Int), L1, L2, L3⟩ = false) := mk3_no
      have HK3 : Hid (mk3 ⟨c, r, (n : Int), L1, L2, L3⟩ = match mkl 1 0 L1 (List.replicate n 0) with | none => none | some M1 => match mkl 2 0 L2 M1 with | none => none | some M2 => mkl 3 0 L3 M2) := by
        show _ = _
        unfold mk3 mk0
        rfl
      have HLN : Hid (∀ (a : Int) (l M M' : List Int), mkl a 0 l M = some M' → M'.length = M.length) := fun a l M M' h => (mkl_some a l 0 M M' h).1
      clear hg1 hx
      go_enter Try.func49, Try.ntmps49
      go_upto_region 1 with fail
      rw [← hW0]
      clear hW0
      go_wp2_with fail
      go_at_call 45
      refine CN.mono ?_
      rintro e w1 ⟨rfl, hb1, hL⟩
      have hL := hL (by trivial)
      obtain ⟨W3, hW3⟩ : ∃ W, W = (w1.setCell ⟨N, 3, none⟩ (.slice (some ⟨w1.heap.size, 0, none⟩) n n)).alloc (.cells Mc 3) := ⟨_, rfl⟩
      obtain ⟨hL3, hb3⟩ := hL.made n (by omega) hMz.out
      rw [← hW3] at hL3 hb3
      have V := HV.out.below (by rw [← HN.out]; exact hb1)
      have y0 := V.c0
      have y1 := V.c1
      have y2 := V.c2
      have y3 := V.c3
      have c3 := hL.c3
      have f3 := hL.f3
      have hNl := hL.hi
      have HL3 : Hid (type_of% hL3) := hL3
      have hb13 : Below N W0 W3 := (hb1.mono (by omega)).trans hb3
      have HB3 : Hid (type_of% hb13) := hb13
      have hS13 : W0.heap.size ≤ W3.heap.size := hb13.size
      have hwl : w.heap.size < w1.heap.size := V.low
      clear hL hL3 hb3 hb1 V hb13 CN
      go_upto_region 5 with fail
      rw [← hW3]
      clear hW3 y0 y1 y2 y3 c3 f3 hmk hMz
      have HV3 : Hid (Sv W3 w.heap.size (.int .i64 c) (.int .i64 r) (.int .i64 (n : Int)) (.slice a1 L1.length k1) (.slice a2 L2.length k2) (.slice a3 L3.length k3)) := HV.out.kept (HB3.out.block _ (show w.heap.size < N by omega)) HB3.out.size
      have y3 := HV3.out.c3
      have C1 := markU N N c r 1 (List.replicate n 0) L1 _ _ W3 HL3.out (by omega) ((HN.out ▸ HA.out.a).keepQ HB3.out) (by simp; omega)
      cases h1 : mkl 1 0 L1 (List.replicate n 0) with
      | none =>
        rw [h1] at C1
        have hG : Hid (gq ⟨c, r, (n : Int), L1, L2, L3⟩ = false) := HMN.out (by rw [HK3.out, h1])
        clear h1
        go_wp2_with fail
        go_at_call 67
        refine C1.mono ?_
        rintro e w4 ⟨rfl, -, hb4⟩
        have HE : Hid (Below w.heap.size w w4) := HB.out.trans ((HB3.out.trans hb4).mono (by omega))
        clear hb4 C1
        simp only [Option.isSome_none]
        go_wp2_with fail
        go_ret2
        exact ⟨_, by rw [hG.out]; rfl, HE.out, fun h => by rw [hG.out] at h; cases h⟩
      | some M1 =>
        rw [h1] at C1
        have hM1 : M1.length = n := by rw [HLN.out _ _ _ _ h1]; simp
        have HK : Hid (mk3 ⟨c, r, (n : Int), L1, L2, L3⟩ = match mkl 2 0 L2 M1 with | none => none | some M2 => mkl 3 0 L3 M2) := by show _ = _; rw [HK3.out, h1]
        clear h1 HK3
        go_wp2_with fail
        go_at_call 67
        refine C1.mono ?_
        rintro e w4 ⟨rfl, hLm, hb4⟩
        have HL4 : Hid (type_of% (hLm M1 rfl)) := hLm M1 rfl
        have HB4 : Hid (Below N W0 w4) := HB3.out.trans hb4
        have hS4 : W3.heap.size ≤ w4.heap.size := hb4.size
        have HV4 : Hid (Sv w4 w.heap.size (.int .i64 c) (.int .i64 r) (.int .i64 (n : Int)) (.slice a1 L1.length k1) (.slice a2 L2.length k2) (.slice a3 L3.length k3)) := HV.out.kept (HB4.out.block _ (show w.heap.size < N by omega)) HB4.out.size
        clear hb4 C1 hLm y3
        have y4 := HV4.out.c4
        have C1 := markU N N c r 2 M1 L2 _ _ w4 HL4.out (by omega) ((HN.out ▸ HA.out.b).keepQ HB4.out) (by omega)
        simp only [Option.isSome_some]
        cases h1 : mkl 2 0 L2 M1 with
        | none =>
          rw [h1] at C1
          have hG : Hid (gq ⟨c, r, (n : Int), L1, L2, L3⟩ = false) := HMN.out (by rw [HK.out, h1])
          clear h1
          go_wp2_with fail
          go_at_call 67
          refine C1.mono ?_
          rintro e w5 ⟨rfl, -, hb5⟩
          have HE : Hid (Below w.heap.size w w5) := HB.out.trans ((HB4.out.trans hb5).mono (by omega))
          clear hb5 C1
          simp only [Option.isSome_none]
          go_wp2_with fail
          go_ret2
          exact ⟨_, by rw [hG.out]; rfl, HE.out, fun h => by rw [hG.out] at h; cases h⟩
        | some M2 =>
          rw [h1] at C1
          have hM2 : M2.length = n := by rw [HLN.out _ _ _ _ h1]; exact hM1
          have HK : Hid (mk3 ⟨c, r, (n : Int), L1, L2, L3⟩ = mkl 3 0 L3 M2) := by show _ = _; rw [HK.out, h1]
          clear h1
          go_wp2_with fail
          go_at_call 67
          refine C1.mono ?_
          rintro e w5 ⟨rfl, hLm, hb5⟩
          have HL5 : Hid (type_of% (hLm M2 rfl)) := hLm M2 rfl
          have HB5 : Hid (Below N W0 w5) := HB4.out.trans hb5
          have hS5 : w4.heap.size ≤ w5.heap.size := hb5.size
          have HV5 : Hid (Sv w5 w.heap.size (.int .i64 c) (.int .i64 r) (.int .i64 (n : Int)) (.slice a1 L1.length k1) (.slice a2 L2.length k2) (.slice a3 L3.length k3)) := HV.out.kept (HB5.out.block _ (show w.heap.size < N by omega)) HB5.out.size
          clear hb5 C1 hLm y4
          have y5 := HV5.out.c5
          have C1 := markU N N c r 3 M2 L3 _ _ w5 HL5.out (by omega) ((HN.out ▸ HA.out.c).keepQ HB5.out) (by omega)
          simp only [Option.isSome_some]
          cases h1 : mkl 3 0 L3 M2 with
          | none =>
            rw [h1] at C1
            have hG : Hid (gq ⟨c, r, (n : Int), L1, L2, L3⟩ = false) := HMN.out (by rw [HK.out, h1])
            clear h1
            go_wp2_with fail
            go_at_call 67
            refine C1.mono ?_
            rintro e w6 ⟨rfl, -, hb6⟩
            have HE : Hid (Below w.heap.size w w6) := HB.out.trans ((HB5.out.trans hb6).mono (by omega))
            clear hb6 C1
            simp only [Option.isSome_none]
            go_wp2_with fail
            go_ret2
            exact ⟨_, by rw [hG.out]; rfl, HE.out, fun h => by rw [hG.out] at h; cases h⟩
          | some M3 =>
            rw [h1] at C1
            have hM3 : M3.length = n := by rw [HLN.out _ _ _ _ h1]; exact hM2
            have HG : Hid (gq ⟨c, r, (n : Int), L1, L2, L3⟩ = !decide ((0 : Int) ∈ M3) ∧ mq ⟨c, r, (n : Int), L1, L2, L3⟩ = M3) := HM.out M3 (by rw [HK.out, h1])
            clear h1
            go_wp2_with fail
            go_at_call 67
            refine C1.mono ?_
            rintro e w6 ⟨rfl, hLm, hb6⟩
            have hL6 := hLm M3 rfl
            have HL6 : Hid (type_of% hL6) := hL6
            have HE : Hid (Below w.heap.size w w6) := HB.out.trans ((HB5.out.trans hb6).mono (by omega))
            have CC := contains_any M3 0 _ w6 (ZAt.own hL6.row) (by omega)
            have c3 := hL6.c3
            clear hb6 C1 hLm hL6 y5
            generalize decide ((0 : Int) ∈ M3) = K at CC HG
            simp only [Option.isSome_some]
            go_wp2_with fail
            go_at_call 68
            refine CC.mono ?_
            rintro e w7 ⟨rfl, hw⟩
            have hw := hw.symm
            subst hw
            go_wp2_with fail
            go_ret2
            exact ⟨_, by rw [HG.out.1]; rfl, HE.out, fun _ => ⟨N, _, rfl, by rw [HG.out.2]; exact HL6.out.lower (by omega)⟩⟩
    · have hG : gq ⟨c, r, x, L1, L2, L3⟩ = false := g1_no (by
        unfold g1
        rw [show okR (Qu.mk c r x L1 L2 L3).cap (Qu.mk c r x L1 L2 L3).rule = true from hok]
        simp only [Bool.true_and, Bool.and_eq_false_iff, decide_eq_false_iff_not]
        omega)
      rw [hG]
      clear hG
      by_cases x0 : x < 0
      · have d0 : decide (x < 0) = true := by simpa using x0
        clear hx x0
        go_enter Try.func49, Try.ntmps49
        go_upto_region 1 with fail
        rw [← hW0]
        clear hW0
        go_wp2_with fail
        go_at_call 45
        refine CN.mono ?_
        rintro e w1 ⟨rfl, hb1, -⟩
        have y2 := (HV.out.below (by rw [← HN.out]; exact hb1)).c2
        have HE : Hid (Below w.heap.size w w1) := HB.out.trans (hb1.mono (by omega))
        clear hb1 CN
        go_wp2_with fail
        go_ret2
        first | exact ⟨_, rfl, HE.out, fun h => by cases h⟩ | exact ⟨_, rfl, HE.out⟩
      · have d0 : decide (x < 0) = false := by simpa using x0
        by_cases x1 : 100 < x
        · have d1 : decide (100 < x) = true := by simpa using x1
          clear hx x0 x1
          go_enter Try.func49, Try.ntmps49
          go_upto_region 1 with fail
          rw [← hW0]
          clear hW0
          go_wp2_with fail
          go_at_call 45
          refine CN.mono ?_
          rintro e w1 ⟨rfl, hb1, -⟩
          have y2 := (HV.out.below (by rw [← HN.out]; exact hb1)).c2
          have HE : Hid (Below w.heap.size w w1) := HB.out.trans (hb1.mono (by omega))
          clear hb1 CN
          go_wp2_with fail
          go_ret2
          first | exact ⟨_, rfl, HE.out, fun h => by cases h⟩ | exact ⟨_, rfl, HE.out⟩
        · have d1 : decide (100 < x) = false := by simpa using x1
          have d2 : decide (c < (L1.length : Int)) = true := by simp; omega
          clear hx x0 x1
          go_enter Try.func49, Try.ntmps49
          go_upto_region 1 with fail
          rw [← hW0]
          clear hW0
          go_wp2_with fail
          go_at_call 45
          refine CN.mono ?_
          rintro e w1 ⟨rfl, hb1, -⟩
          have V := HV.out.below (by rw [← HN.out]; exact hb1)
          have y0 := V.c0
          have y2 := V.c2
          have y3 := V.c3
          have HE : Hid (Below w.heap.size w w1) := HB.out.trans (hb1.mono (by omega))
          clear hb1 CN V
          go_wp2_with fail
          go_ret2
          first | exact ⟨_, rfl, HE.out, fun h => by cases h⟩ | exact ⟨_, rfl, HE.out⟩
  · have hok' : okR c r = false := by simpa using hok
    have hG : gq ⟨c, r, x, L1, L2, L3⟩ = false := g1_no (by
      unfold g1
      rw [show okR (Qu.mk c r x L1 L2 L3).cap (Qu.mk c r x L1 L2 L3).rule = false from hok']
      rfl)
    rw [hG]
    rw [hok'] at CN
    clear hG hok hok'
    go_enter Try.func49, Try.ntmps49
    go_upto_region 1 with fail
    rw [← hW0]
    clear hW0
    go_wp2_with fail
    go_at_call 45
    refine CN.mono ?_
    rintro e w1 ⟨rfl, hb1, -⟩
    have HE : Hid (Below w.heap.size w w1) := HB.out.trans (hb1.mono (by omega))
    clear hb1 CN
    go_wp2_with fail
    go_ret2
    first | exact ⟨_, rfl, HE.out, fun h => by cases h⟩ | exact ⟨_, rfl, HE.out⟩

theorem lineupOf_any (q : Qu) (v1 v2 v3 : Value) (w : World) (h : QuAt w w.heap.size q v1 v2 v3) :
    Calls Try.prog 49 #[q.val v1 v2 v3] w fun e w' => ∃ v, e = .returned (.tuple #[v, .bool (gq q)]) ∧ Below w.heap.size w w' ∧ (gq q = true → ∃ b vm, v = .pointer (some ⟨b, 0, none⟩) ∧ Lu w' w.heap.size b q.cap q.rule (mq q) vm) := by
  obtain ⟨c, r, x, L1, L2, L3⟩ := q
  exact lineupOf_core c r x L1 L2 L3 v1 v2 v3 w h

end Go.Proofs.Ytfkhbbmnjndmcaa
