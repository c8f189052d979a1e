/- The program's CheckGrew: up to both roots. -/
import Derived.Test.YtlglngmlaknmlaaLgDa
namespace Go.Proofs.Ytlglngmlaknmlaa
open Go.RowKit Plain Lgs Tpc

set_option maxRecDepth 100000 in
set_option maxHeartbeats 8000000 in
theorem implCheckGrew_ok (A : Nat) (b : Int) (N k : Nat) (P : List Nat) (v : Value) (w : World) (hK : k < N) (hN : N ≤ 40) (hv : ZAt w w.heap.size v (zl P)) (hP : ∀ y ∈ P, y < 1000003)
    (ha : A < 1000003) (hb : 0 ≤ b ∧ b ≤ 1000002) (hlen : P.length = (rt (isEld (k + 1)) k 41 0 N).2.length + off (rt (isEld (k + 1)) k 41 0 N).1.1) :
    Calls Try.prog 37 #[.int .i64 (A : Int), .int .i64 ((k : Int) + 1), .int .i64 b, .int .i64 (N : Int), .agg #[v]] w fun e w' => e = .returned (.tuple #[.bool (decide (((eldN (beg (rt (isEld (k + 1)) k 41 0 N).1.1 A P) (rt (isEld (k + 1)) k 41 0 N).2 (P.drop (off (rt (isEld (k + 1)) k 41 0 N).1.1)) (rt (isEld (k + 1)) k 41 0 N).2.length : Nat) : Int) = (A : Int)) && decide (((fld (beg (rt (isEld (k + 1)) k 41 0 N).1.1 A P) (rt (isEld (k + 1)) k 41 0 N).2 (P.drop (off (rt (isEld (k + 1)) k 41 0 N).1.1)) (rt (isEld (k + 1)) k 41 0 N).2.length : Nat) : Int) = b)), .bool true]) ∧ Below w.heap.size w w' := by
  have HV : Hid (ZAt w w.heap.size v (zl P)) := hv
  obtain ⟨ao, cap, rfl, hlc, hcm, _⟩ := hv
  rw [zl_len] at HV hlc
  rw [zl_len]
  obtain ⟨W0, hW0⟩ : ∃ W, W = w.alloc (.cells #[.slice ao P.length cap] 37) := ⟨_, rfl⟩
  have hB0 : Below w.heap.size w W0 := by rw [hW0]; exact (Below.refl _ w).alloc (Nat.le_refl _) _
  have hs0 : Hid (W0.heap.size = w.heap.size + 1) := by show _ = _; rw [hW0]; simp
  have q0 : W0.cell? ⟨w.heap.size, 0, none⟩ = some (.slice ao P.length cap) := by rw [hW0]; go_simp
  have d1 : ¬ ((k : Int) + 1 < 1) := by omega
  have d2 : ¬ ((N : Int) < (k : Int) + 1) := by omega
  have d3 : ¬ ((40 : Int) < (N : Int)) := by omega
  have d3' : ¬ 40 < N := by omega
  have CT : Hid (Calls Try.prog 74 #[.int .i64 (N : Int), .int .i64 ((k : Int) + 1)] W0 fun e w' => ORt W0 w' e (rt (isEld (k + 1)) k 41 0 N)) := routeOfElder_any N k W0 hK hN
  have HLN : (rt (isEld (k + 1)) k 41 0 N).2.length ≤ 6 := rt_len (eld_fit k) 41 6 0 N (by omega) (by omega) hK (by omega) (by omega)
  have CS1 : Hid (∀ W, Calls Try.prog 52 #[.int .i64 (A : Int)] W fun e w' => e = .returned (.bool true) ∧ w' = W) := fun W => by
    have h := isSum_any (A : Int) W
    rw [decide_eq_true (show 0 ≤ (A : Int) ∧ (A : Int) ≤ 1000002 by omega)] at h
    exact h
  have CS2 : Hid (∀ W, Calls Try.prog 52 #[.int .i64 b] W fun e w' => e = .returned (.bool true) ∧ w' = W) := fun W => by
    have h := isSum_any b W
    rw [decide_eq_true hb] at h
    exact h
  have HPL0 : Hid (∀ i, P.getD i 0 < 1000003) := fun i => getD_low hP i
  have hall : (zl P).all (fun n => decide (0 ≤ n ∧ n ≤ 1000002)) = true := by
    rw [List.all_eq_true]
    intro x hx
    unfold zl at hx
    obtain ⟨y, hy, rfl⟩ := List.mem_map.1 hx
    have := hP y hy
    exact decide_eq_true (by show 0 ≤ (y : Int) ∧ (y : Int) ≤ 1000002; omega)
  have CA : Hid (∀ W, Below w.heap.size w W → Calls Try.prog 70 #[.slice ao P.length cap] W fun e w' => e = .returned (.bool true) ∧ w' = W) := fun W hW => by
    have h := areSums_any (zl P) _ W (HV.out.below hW)
    rw [hall] at h
    exact h
  generalize rt (isEld (k + 1)) k 41 0 N = Q at CT hlen HLN ⊢
  obtain ⟨M, hM⟩ : ∃ M, M = Q.2.length + off Q.1.1 := ⟨_, rfl⟩
  have HM : Hid (M = Q.2.length + off Q.1.1) := hM
  rw [← hM] at hlen
  have HLM : Hid (P.length = M) := hlen
  clear hM
  obtain ⟨E, hE⟩ : ∃ E, E = eldN (beg Q.1.1 A P) Q.2 (P.drop (off Q.1.1)) Q.2.length := ⟨_, rfl⟩
  obtain ⟨F, hF⟩ : ∃ F, F = fld (beg Q.1.1 A P) Q.2 (P.drop (off Q.1.1)) Q.2.length := ⟨_, rfl⟩
  rw [← hE, ← hF]
  have HE : Hid (E = eldN (beg Q.1.1 A P) Q.2 (P.drop (off Q.1.1)) Q.2.length) := hE
  have HF : Hid (F = fld (beg Q.1.1 A P) Q.2 (P.drop (off Q.1.1)) Q.2.length) := hF
  obtain ⟨RB, hRB⟩ : ∃ RB, RB = (decide ((E : Int) = (A : Int)) && decide ((F : Int) = b)) := ⟨_, rfl⟩
  rw [← hRB]
  have HRB : Hid (RB = (decide ((E : Int) = (A : Int)) && decide ((F : Int) = b))) := hRB
  clear hRB
  rw [hlen] at q0 CA HV hW0
  rw [hlen]
  clear hF hE hall hP hlen
  go_enter Try.func37, Try.ntmps37
  go_upto_region 1 with fail
  rw [← hW0]
  clear hW0
  go_wp2_with fail
  go_at_call 74
  refine CT.out.mono ?_
  rintro e w2 ⟨u, rfl, hr2, hb2⟩
  have hs2 := hb2.size
  obtain ⟨ar, cr, hu, hlc2, hcm2⟩ := hr2.slice
  subst hu
  unfold maxLen at hcm2
  have hRt := Rt.made (x := Q.1.1) (y := Q.1.2) hr2
  obtain ⟨W3, hW3⟩ : ∃ W, W = w2.alloc (.cells #[.int .i64 (Q.1.1 : Int), .int .i64 (Q.1.2 : Int), .slice ar Q.2.length cr] 75) := ⟨_, rfl⟩
  rw [← hW3] at hRt
  have hB3 : Below w2.heap.size w2 W3 := by rw [hW3]; exact (Below.refl _ w2).alloc (Nat.le_refl _) _
  have hs3 : Hid (W3.heap.size = w2.heap.size + 1) := by show _ = _; rw [hW3]; simp
  have hB03 : Below W0.heap.size W0 W3 := hb2.trans (hB3.mono hs2)
  have hBw : Below w.heap.size w W3 := hB0.trans (hB03.mono hB0.size)
  have q3 := (hB03.cell (p := ⟨w.heap.size, 0, none⟩) (by show w.heap.size < W0.heap.size; have := hs0.out; omega)).trans q0
  have hl3 : w.heap.size < W3.heap.size := by have h1 := hB03.size; have h2 := hs0.out; omega
  have HCA3 : Hid (∀ n, Calls Try.prog 70 #[.slice ao M cap] (W3.drewN n) fun e w' => e = .returned (.bool true) ∧ w' = W3.drewN n) := fun n => CA.out _ (below_drewT hBw)
  have CM : Hid (∀ n, Calls Try.prog 79 #[.pointer (some ⟨w2.heap.size, 0, none⟩)] (W3.drewN n) fun e w' => e = .returned (.int .i64 (M : Int)) ∧ w' = W3.drewN n) := fun n => by
    rw [HM.out]
    exact manySums_any w2.heap.size _ _ Q.1.1 Q.1.2 Q.2 (W3.drewN n) (hRt.drewN n) (by omega)
  have HRt3 : Hid (Rt W3 w2.heap.size W0.heap.size (.slice ar Q.2.length cr) Q.1.1 Q.1.2 Q.2) := hRt
  clear CA hb2 hRt CT
  go_upto_region 4 with fail
  rw [← hW3]
  clear hW3
  go_quiet (first
    | (go_at_call 79; with_reducible exact Calls.quiet_of_same (CM.out _))
    | (go_at_call 52; with_reducible exact Calls.quiet_of_same (CS1.out _))
    | (go_at_call 52; with_reducible exact Calls.quiet_of_same (CS2.out _))
    | (go_at_call 70; with_reducible exact Calls.quiet_of_same (HCA3.out _)))
  rename Nat => m9
  obtain ⟨w3, hw3⟩ : ∃ W, W = W3.drewN m9 := ⟨_, rfl⟩
  rw [← hw3]
  have q3 : w3.cell? ⟨w.heap.size, 0, none⟩ = some (.slice ao M cap) := by rw [hw3]; exact q3
  have hsw3 : Hid (w3.heap.size = w2.heap.size + 1) := by show _ = _; rw [hw3]; exact hs3.out
  have hB3w : Below W3.heap.size W3 w3 := by rw [hw3]; exact below_drewT (Below.refl _ _)
  have hl3 : w.heap.size < w3.heap.size := by rw [hw3]; exact hl3
  have HBw3 : Hid (Below w.heap.size w w3) := by rw [hw3]; exact below_drewT hBw
  clear hw3 HCA3 CM CS1 CS2
  obtain ⟨bt, hbt⟩ : ∃ b, b = w3.heap.size := ⟨_, rfl⟩
  have HBT : Hid (bt = w3.heap.size) := hbt
  obtain ⟨W4, hW4⟩ : ∃ W, W = w3.alloc (.cells #[.slice ao M cap] 79) := ⟨_, rfl⟩
  have hB4 : Below w3.heap.size w3 W4 := by rw [hW4]; exact (Below.refl _ w3).alloc (Nat.le_refl _) _
  have hs4 : Hid (W4.heap.size = w3.heap.size + 1) := by show _ = _; rw [hW4]; simp
  have HB4w : Hid (Below w.heap.size w W4) := HBw3.out.trans (hB4.mono HBw3.out.size)
  have HRt4 : Hid (Rt W4 w2.heap.size W0.heap.size (.slice ar Q.2.length cr) Q.1.1 Q.1.2 Q.2) := (HRt3.out.below hB3w).below hB4
  have HAS : Hid (AsAt W4 bt (.slice ar Q.2.length cr) Q.2) := AsAt.own HRt4.out.own (fun g hg => by have h1 := (World.ownsRow.lt hr2 g hg).2; have h2 := hsw3.out; have h3 := HBT.out; omega)
  have HTV : Hid (Tv W4 bt w.heap.size (.slice ao M cap) P) := by
    show Tv _ _ _ _ _
    rw [hbt]
    refine ⟨by have := hs4.out; omega, by rw [hW4]; go_simp, by rw [hW4]; go_simp, ?_, by omega⟩
    obtain ⟨a', c', hv', hm', hc', hr'⟩ := HV.out
    refine ⟨a', c', hv', hm', hc', fun i x hx => ?_⟩
    obtain ⟨g, o, ha, hg, c⟩ := hr' i x hx
    exact ⟨g, o, ha, hg, (HB4w.out.cell (p := ⟨g, o + i, none⟩) hg).trans c⟩
  have r4 := HRt4.out.row
  have rl4 : w2.heap.size < W4.heap.size := HRt4.out.low
  have hbt2 : Hid (w2.heap.size < bt) := by show _ < _; rw [hbt, hsw3.out]; omega
  have hls : w.heap.size ≤ bt := by rw [hbt]; omega
  have hlbt : bt < W4.heap.size := by rw [hbt]; have := hs4.out; omega
  have CW : Hid (Calls Try.prog 75 #[.pointer (some ⟨w2.heap.size, 0, none⟩)] W4 fun e w' => e = .returned (.bool (decide (Q.1.1 = 0))) ∧ w' = W4) := isWhole_any w2.heap.size W0.heap.size _ Q.1.1 Q.1.2 Q.2 W4 HRt4.out
  obtain ⟨bw, hbw⟩ : ∃ b, b = decide (Q.1.1 = 0) := ⟨_, rfl⟩
  rw [← hbw] at CW
  have HBW : Hid (bw = decide (Q.1.1 = 0)) := hbw
  clear hbw hr2 hB3w HRt3 hB3 hB03 hBw
  go_upto_region 7 with fail
  rw [← hW4, ← hbt]
  clear hW4 q3 q0 hB4 hbt HBT
  go_wp2_with fail
  go_at_call 75
  refine CW.out.mono ?_
  rintro e w' ⟨rfl, h9⟩
  have h9 := h9.symm
  subst h9
  cases bw with
  | true =>
    have hx0 : Q.1.1 = 0 := of_decide_eq_true HBW.out.symm
    have e1 : off Q.1.1 = 0 := by unfold off; rw [if_pos hx0]
    have e2 : beg Q.1.1 A P = A := by unfold beg; rw [if_pos hx0]
    rw [e1, e2] at HE HF
    rw [List.drop_zero] at HE HF
    have HLEN : Hid (P.length = Q.2.length) := by show _ = _; rw [HLM.out, HM.out, e1, Nat.add_zero]
    have HPL : Hid (∀ i, P.getD i 0 < 1000003) := HPL0.out
    have hl0 := ha
    obtain ⟨s0, hs0'⟩ : ∃ s, s = A := ⟨_, rfl⟩
    have HS0 : Hid (s0 = A) := hs0'
    rw [← hs0'] at HE HF hl0
    obtain ⟨PP, hPP⟩ : ∃ p, p = P := ⟨_, rfl⟩
    rw [← hPP] at HE HF HLEN HPL HTV
    clear hs0' hPP e1 e2 hx0 HBW CW HRt4 HLM HM
    go_wp2_with fail
    go_loopw [14, 15, 66] (fun ve vn vi wr => ∃ (i : Nat) (u : Value), i ≤ Q.2.length ∧ vi = .int .i64 (i : Int) ∧ ve = .int .i64 ((eldN s0 Q.2 PP i : Nat) : Int) ∧ vn = .int .i64 ((fld s0 Q.2 PP i : Nat) : Int) ∧ CkS W4 wr bt w.heap.size u (PP.drop i))
      (fun _ _ vi _ => Q.2.length - (intOf vi).toNat)
    case atStart => exact ⟨0, _, by omega, rfl, by first | rfl | (rw [HS0.out]; rfl), by first | rfl | (rw [HS0.out]; rfl), HTV.out, grow_belowL (Below.refl _ _)⟩
    case round =>
      obtain ⟨i, u, hi, rfl, rfl, rfl, hC⟩ := hrel
      clear r4
      by_cases hlt : i < Q.2.length
      · have hlt' : (i : Int) < (Q.2.length : Int) := by omega
        obtain ⟨ao2, cap2, hv2, _, _, hrow⟩ := HAS.out
        obtain ⟨g, rfl, hg, hgb, c0, c1, c2⟩ := hrow i hlt
        simp only [Value.slice.injEq] at hv2
        obtain ⟨rfl, _, rfl⟩ := hv2
        have hgr := hC.gr
        have hgs : g < wr.heap.size := by have := hgr.size; omega
        have hne : some g ≠ some bt := fun e => hgb (by simpa using e)
        have c0 := (hgr.cell_far ⟨g, i * 3, none⟩ hg hne).trans c0
        have c1 := (hgr.cell_far ⟨g, i * 3 + 1, none⟩ hg hne).trans c1
        have c2 := (hgr.cell_far ⟨g, i * 3 + 2, none⟩ hg hne).trans c2
        have HNX : Hid (fld s0 Q.2 PP (i + 1) = jn (Q.2.getD i a0) (fld s0 Q.2 PP i) (PP.getD i 0)) := rfl
        have HEX : Hid (eldN s0 Q.2 PP (i + 1) = if (Q.2.getD i a0).ah = true then node (PP.getD i 0) (eldN s0 Q.2 PP i) else eldN s0 Q.2 PP i) := rfl
        have hy : PP.getD i 0 < 1000003 := HPL.out i
        have hx : fld s0 Q.2 PP i < 1000003 := fld_lt hl0 _ _ i
        have hz : eldN s0 Q.2 PP i < 1000003 := eldN_lt hl0 _ _ i
        have HTK : Hid ((PP.drop i).drop 1 = PP.drop (i + 1)) := by show _ = _; rw [List.drop_drop]
        have hpl : 0 < (PP.drop i).length := by rw [List.length_drop, HLEN.out]; omega
        have CJ : Hid (∀ W, Calls Try.prog 71 #[.agg #[.int .i64 ((Q.2.getD i a0).fr : Int), .int .i64 ((Q.2.getD i a0).tt : Int), .bool (Q.2.getD i a0).ah], .int .i64 ((fld s0 Q.2 PP i : Nat) : Int), .int .i64 ((PP.getD i 0 : Nat) : Int)] W fun e w' => e = .returned (.int .i64 ((jn (Q.2.getD i a0) (fld s0 Q.2 PP i) (PP.getD i 0) : Nat) : Int)) ∧ Below W.heap.size W w') := fun W => join_any _ _ _ W hx hy
        have CE : Hid (∀ W, Calls Try.prog 71 #[.agg #[.int .i64 ((Q.2.getD i a0).fr : Int), .int .i64 ((Q.2.getD i a0).tt : Int), .bool (Q.2.getD i a0).ah], .int .i64 ((eldN s0 Q.2 PP i : Nat) : Int), .int .i64 ((PP.getD i 0 : Nat) : Int)] W fun e w' => e = .returned (.int .i64 ((jn (Q.2.getD i a0) (eldN s0 Q.2 PP i) (PP.getD i 0) : Nat) : Int)) ∧ Below W.heap.size W w') := fun W => join_any _ _ _ W hz hy
        obtain ⟨⟨fr, tt, ah⟩, ha⟩ : ∃ s, Q.2.getD i a0 = s := ⟨_, rfl⟩
        rw [ha] at c0 c1 c2 CJ CE HNX HEX
        clear ha
        dsimp only at c0 c1 c2 CJ CE HEX
        have hTv := hC.tv
        have CTk : Hid (∀ W, Below wr.heap.size wr W → Calls Try.prog 72 #[.pointer (some ⟨bt, 0, none⟩)] W fun e w' => e = .returned (.int .i64 ((PP.getD i 0 : Nat) : Int)) ∧ ∃ u', Tv w' bt w.heap.size u' (PP.drop (i + 1)) ∧ w' = W.setCell ⟨bt, 0, none⟩ u') := fun W hW => by
          have h := takeZ_any bt w.heap.size u (PP.drop i) W (hTv.below hW) hpl
          rw [getD_drop0, HTK.out] at h
          exact h
        obtain ⟨F1, hF1⟩ : ∃ F, fld s0 Q.2 PP (i + 1) = F := ⟨_, rfl⟩
        obtain ⟨E1, hE1⟩ : ∃ F, eldN s0 Q.2 PP (i + 1) = F := ⟨_, rfl⟩
        have HF1 : Hid (fld s0 Q.2 PP (i + 1) = F1) := hF1
        have HE1 : Hid (eldN s0 Q.2 PP (i + 1) = E1) := hE1
        rw [hF1] at HNX
        rw [hE1] at HEX
        generalize PP.getD i 0 = y at CTk CJ CE hy HNX HEX
        generalize fld s0 Q.2 PP i = X at CJ hx HNX ⊢
        generalize eldN s0 Q.2 PP i = Z at CE hz HEX ⊢
        clear hF1 hE1
        obtain ⟨Wa, hWa⟩ : ∃ W, W = wr.alloc (.cells #[.int .i64 (fr : Int), .int .i64 (tt : Int), .bool ah] 88) := ⟨_, rfl⟩
        have hBa : Below wr.heap.size wr Wa := by rw [hWa]; exact (Below.refl _ wr).alloc (Nat.le_refl _) _
        have hsa : Hid (Wa.heap.size = wr.heap.size + 1) := by show _ = _; rw [hWa]; simp
        have hlow := hTv.low
        have A0 : Hid (Wa.cell? ⟨wr.heap.size, 0, none⟩ = some (.int .i64 (fr : Int)) ∧ Wa.cell? ⟨wr.heap.size, 1, none⟩ = some (.int .i64 (tt : Int)) ∧ Wa.cell? ⟨wr.heap.size, 2, none⟩ = some (.bool ah)) := by refine ⟨?_, ?_, ?_⟩ <;> (rw [hWa]; go_simp)
        have HGA : Hid (W4.grownBy Wa (some bt)) := Lib.grownBy_trans hgr (grow_belowL hBa)
        have HTK2 := CTk.out Wa hBa
        have HCT : Hid (type_of% HTK2) := HTK2
        clear hC hTv hgr hrow HTK CTk HTK2
        go_upto_region 14 with fail
        rw [← hWa]
        clear hWa
        go_wp2_with fail
        go_at_call 72
        refine HCT.out.mono ?_
        rintro e w7 ⟨rfl, u7, ht7, hw7⟩
        have hS7 : w7.cell? ⟨wr.heap.size, 0, none⟩ = some (.int .i64 (fr : Int)) ∧ w7.cell? ⟨wr.heap.size, 1, none⟩ = some (.int .i64 (tt : Int)) ∧ w7.cell? ⟨wr.heap.size, 2, none⟩ = some (.bool ah) := by rw [hw7]; exact far3 A0.out (by omega)
        have hl7 : wr.heap.size < w7.heap.size := by rw [hw7]; have := hsa.out; simp; omega
        have HC7 : Hid (CkS W4 w7 bt w.heap.size u7 (PP.drop (i + 1))) := ⟨ht7, by rw [hw7]; exact Lib.grownBy_trans HGA.out (Lib.grownBy_setCell _ _ 0 _)⟩
        obtain ⟨x0, x1, x2⟩ := hS7
        clear ht7 hw7 A0 HGA HCT
        go_wp2_with fail
        go_at_call 71
        refine (CJ.out _).mono ?_
        rintro e w8 ⟨rfl, hb8⟩
        have x0 := (hb8.cell (p := ⟨wr.heap.size, 0, none⟩) hl7).trans x0
        have x1 := (hb8.cell (p := ⟨wr.heap.size, 1, none⟩) hl7).trans x1
        have x2 := (hb8.cell (p := ⟨wr.heap.size, 2, none⟩) hl7).trans x2
        have hl8 : wr.heap.size < w8.heap.size := by have := hb8.size; omega
        have HC8 : Hid (CkS W4 w8 bt w.heap.size u7 (PP.drop (i + 1))) := ⟨HC7.out.tv.below hb8, Lib.grownBy_trans HC7.out.gr (grow_belowL hb8)⟩
        clear hb8 HC7 hl7
        cases ah with
        | false =>
          have HEZ : Hid (E1 = Z) := HEX.out
          go_wp2_with fail
          go_roundw
          case rel => exact ⟨i + 1, u7, by omega, by go_num, by rw [HE1.out, HEZ.out], by rw [HF1.out, HNX.out], HC8.out⟩
          case measure => simp [intOf]; omega
        | true =>
          have HEZ : Hid (E1 = jn ⟨fr, tt, true⟩ Z y) := HEX.out
          go_wp2_with fail
          go_at_call 71
          refine (CE.out _).mono ?_
          rintro e w9 ⟨rfl, hb9⟩
          have HC9 : Hid (CkS W4 w9 bt w.heap.size u7 (PP.drop (i + 1))) := ⟨HC8.out.tv.below hb9, Lib.grownBy_trans HC8.out.gr (grow_belowL hb9)⟩
          clear hb9 HC8
          go_wp2_with fail
          go_roundw
          case rel => exact ⟨i + 1, u7, by omega, by go_num, by rw [HE1.out, HEZ.out], by rw [HF1.out, HNX.out], HC9.out⟩
          case measure => simp [intOf]; omega
      · have hke : i = Q.2.length := by omega
        have hge : ¬ ((i : Int) < (Q.2.length : Int)) := by omega
        have HFE : Hid (fld s0 Q.2 PP i = F) := by show _ = _; rw [HF.out, hke]
        have HEE : Hid (eldN s0 Q.2 PP i = E) := by show _ = _; rw [HE.out, hke]
        rw [HFE.out, HEE.out]
        have hBE : Below w.heap.size w wr := HB4w.out.grown hC.gr HB4w.out.size (fun k hk => by
          simp only [Option.some.injEq] at hk
          omega)
        clear hke hC
        by_cases hu : E = A
        · have hu' : (E : Int) = (A : Int) := by omega
          have hG : Hid (RB = decide ((F : Int) = b)) := by show _ = _; rw [HRB.out, decide_eq_true hu', Bool.true_and]
          subst hu
          go_wp2_with fail
          go_ret2
          exact ⟨by rw [hG.out]; first | rfl | simp, hBE⟩
        · have hu' : ¬ (E : Int) = (A : Int) := by omega
          have hG : Hid (RB = false) := by show _ = _; rw [HRB.out, decide_eq_false hu', Bool.false_and]
          go_wp2_with fail
          go_ret2
          exact ⟨by rw [hG.out]; first | rfl | simp, hBE⟩
  | false =>
    have hx0 : ¬ Q.1.1 = 0 := of_decide_eq_false HBW.out.symm
    have e1 : off Q.1.1 = 1 := by unfold off; rw [if_neg hx0]
    have e2 : beg Q.1.1 A P = P.getD 0 0 := by unfold beg; rw [if_neg hx0]
    rw [e1, e2] at HE HF
    have HLEN : Hid ((P.drop 1).length = Q.2.length) := by show _ = _; rw [List.length_drop, HLM.out, HM.out, e1]; omega
    have hp0 : 0 < P.length := by rw [HLM.out, HM.out, e1]; omega
    have HPL : Hid (∀ i, (P.drop 1).getD i 0 < 1000003) := fun i => by rw [getD_drop1]; exact HPL0.out _
    have hl0 := HPL0.out 0
    have CK : Hid (Calls Try.prog 72 #[.pointer (some ⟨bt, 0, none⟩)] W4 fun e w' => e = .returned (.int .i64 ((P.getD 0 0 : Nat) : Int)) ∧ ∃ v', Tv w' bt w.heap.size v' (P.drop 1) ∧ w' = W4.setCell ⟨bt, 0, none⟩ v') := takeZ_any bt w.heap.size _ P W4 HTV.out hp0
    obtain ⟨s0, hs0'⟩ : ∃ s, s = P.getD 0 0 := ⟨_, rfl⟩
    have HS0 : Hid (s0 = s0) := rfl
    rw [← hs0'] at HE HF hl0 CK
    obtain ⟨PP, hPP⟩ : ∃ p, p = P.drop 1 := ⟨_, rfl⟩
    rw [← hPP] at HE HF HLEN HPL CK
    clear hs0' hPP e1 e2 hx0 HBW CW HLM HM hp0 HTV
    go_wp2_with fail
    go_at_call 72
    refine CK.out.mono ?_
    rintro e w5 ⟨rfl, u5, ht5, hw5⟩
    have HTV : Hid (Tv w5 bt w.heap.size u5 PP) := ht5
    have HG5 : Hid (W4.grownBy w5 (some bt)) := by rw [hw5]; exact Lib.grownBy_setCell _ _ 0 _
    have r4 : w5.cell? ⟨w2.heap.size, 2, none⟩ = some (.slice ar Q.2.length cr) := (HG5.out.cell_far ⟨w2.heap.size, 2, none⟩ rl4 (fun e => by
      simp only [Option.some.injEq] at e
      have h1 := HRt4.out
      have h2 := hbt2.out
      omega)).trans HRt4.out.row
    have rl5 : w2.heap.size < w5.heap.size := by have := HG5.out.size; omega
    have hlbt5 : bt < w5.heap.size := by have := HG5.out.size; omega
    clear ht5 hw5 CK HRt4
    go_wp2_with fail
    go_loopw [14, 15, 66] (fun ve vn vi wr => ∃ (i : Nat) (u : Value), i ≤ Q.2.length ∧ vi = .int .i64 (i : Int) ∧ ve = .int .i64 ((eldN s0 Q.2 PP i : Nat) : Int) ∧ vn = .int .i64 ((fld s0 Q.2 PP i : Nat) : Int) ∧ CkS W4 wr bt w.heap.size u (PP.drop i))
      (fun _ _ vi _ => Q.2.length - (intOf vi).toNat)
    case atStart => exact ⟨0, _, by omega, rfl, by first | rfl | (rw [HS0.out]; rfl), by first | rfl | (rw [HS0.out]; rfl), HTV.out, HG5.out⟩
    case round =>
      obtain ⟨i, u, hi, rfl, rfl, rfl, hC⟩ := hrel
      clear r4
      by_cases hlt : i < Q.2.length
      · have hlt' : (i : Int) < (Q.2.length : Int) := by omega
        obtain ⟨ao2, cap2, hv2, _, _, hrow⟩ := HAS.out
        obtain ⟨g, rfl, hg, hgb, c0, c1, c2⟩ := hrow i hlt
        simp only [Value.slice.injEq] at hv2
        obtain ⟨rfl, _, rfl⟩ := hv2
        have hgr := hC.gr
        have hgs : g < wr.heap.size := by have := hgr.size; omega
        have hne : some g ≠ some bt := fun e => hgb (by simpa using e)
        have c0 := (hgr.cell_far ⟨g, i * 3, none⟩ hg hne).trans c0
        have c1 := (hgr.cell_far ⟨g, i * 3 + 1, none⟩ hg hne).trans c1
        have c2 := (hgr.cell_far ⟨g, i * 3 + 2, none⟩ hg hne).trans c2
        have HNX : Hid (fld s0 Q.2 PP (i + 1) = jn (Q.2.getD i a0) (fld s0 Q.2 PP i) (PP.getD i 0)) := rfl
        have HEX : Hid (eldN s0 Q.2 PP (i + 1) = if (Q.2.getD i a0).ah = true then node (PP.getD i 0) (eldN s0 Q.2 PP i) else eldN s0 Q.2 PP i) := rfl
        have hy : PP.getD i 0 < 1000003 := HPL.out i
        have hx : fld s0 Q.2 PP i < 1000003 := fld_lt hl0 _ _ i
        have hz : eldN s0 Q.2 PP i < 1000003 := eldN_lt hl0 _ _ i
        have HTK : Hid ((PP.drop i).drop 1 = PP.drop (i + 1)) := by show _ = _; rw [List.drop_drop]
        have hpl : 0 < (PP.drop i).length := by rw [List.length_drop, HLEN.out]; omega
        have CJ : Hid (∀ W, Calls Try.prog 71 #[.agg #[.int .i64 ((Q.2.getD i a0).fr : Int), .int .i64 ((Q.2.getD i a0).tt : Int), .bool (Q.2.getD i a0).ah], .int .i64 ((fld s0 Q.2 PP i : Nat) : Int), .int .i64 ((PP.getD i 0 : Nat) : Int)] W fun e w' => e = .returned (.int .i64 ((jn (Q.2.getD i a0) (fld s0 Q.2 PP i) (PP.getD i 0) : Nat) : Int)) ∧ Below W.heap.size W w') := fun W => join_any _ _ _ W hx hy
        have CE : Hid (∀ W, Calls Try.prog 71 #[.agg #[.int .i64 ((Q.2.getD i a0).fr : Int), .int .i64 ((Q.2.getD i a0).tt : Int), .bool (Q.2.getD i a0).ah], .int .i64 ((eldN s0 Q.2 PP i : Nat) : Int), .int .i64 ((PP.getD i 0 : Nat) : Int)] W fun e w' => e = .returned (.int .i64 ((jn (Q.2.getD i a0) (eldN s0 Q.2 PP i) (PP.getD i 0) : Nat) : Int)) ∧ Below W.heap.size W w') := fun W => join_any _ _ _ W hz hy
        obtain ⟨⟨fr, tt, ah⟩, ha⟩ : ∃ s, Q.2.getD i a0 = s := ⟨_, rfl⟩
        rw [ha] at c0 c1 c2 CJ CE HNX HEX
        clear ha
        dsimp only at c0 c1 c2 CJ CE HEX
        have hTv := hC.tv
        have CTk : Hid (∀ W, Below wr.heap.size wr W → Calls Try.prog 72 #[.pointer (some ⟨bt, 0, none⟩)] W fun e w' => e = .returned (.int .i64 ((PP.getD i 0 : Nat) : Int)) ∧ ∃ u', Tv w' bt w.heap.size u' (PP.drop (i + 1)) ∧ w' = W.setCell ⟨bt, 0, none⟩ u') := fun W hW => by
          have h := takeZ_any bt w.heap.size u (PP.drop i) W (hTv.below hW) hpl
          rw [getD_drop0, HTK.out] at h
          exact h
        obtain ⟨F1, hF1⟩ : ∃ F, fld s0 Q.2 PP (i + 1) = F := ⟨_, rfl⟩
        obtain ⟨E1, hE1⟩ : ∃ F, eldN s0 Q.2 PP (i + 1) = F := ⟨_, rfl⟩
        have HF1 : Hid (fld s0 Q.2 PP (i + 1) = F1) := hF1
        have HE1 : Hid (eldN s0 Q.2 PP (i + 1) = E1) := hE1
        rw [hF1] at HNX
        rw [hE1] at HEX
        generalize PP.getD i 0 = y at CTk CJ CE hy HNX HEX
        generalize fld s0 Q.2 PP i = X at CJ hx HNX ⊢
        generalize eldN s0 Q.2 PP i = Z at CE hz HEX ⊢
        clear hF1 hE1
        obtain ⟨Wa, hWa⟩ : ∃ W, W = wr.alloc (.cells #[.int .i64 (fr : Int), .int .i64 (tt : Int), .bool ah] 88) := ⟨_, rfl⟩
        have hBa : Below wr.heap.size wr Wa := by rw [hWa]; exact (Below.refl _ wr).alloc (Nat.le_refl _) _
        have hsa : Hid (Wa.heap.size = wr.heap.size + 1) := by show _ = _; rw [hWa]; simp
        have hlow := hTv.low
        have A0 : Hid (Wa.cell? ⟨wr.heap.size, 0, none⟩ = some (.int .i64 (fr : Int)) ∧ Wa.cell? ⟨wr.heap.size, 1, none⟩ = some (.int .i64 (tt : Int)) ∧ Wa.cell? ⟨wr.heap.size, 2, none⟩ = some (.bool ah)) := by refine ⟨?_, ?_, ?_⟩ <;> (rw [hWa]; go_simp)
        have HGA : Hid (W4.grownBy Wa (some bt)) := Lib.grownBy_trans hgr (grow_belowL hBa)
        have HTK2 := CTk.out Wa hBa
        have HCT : Hid (type_of% HTK2) := HTK2
        clear hC hTv hgr hrow HTK CTk HTK2
        go_upto_region 14 with fail
        rw [← hWa]
        clear hWa
        go_wp2_with fail
        go_at_call 72
        refine HCT.out.mono ?_
        rintro e w7 ⟨rfl, u7, ht7, hw7⟩
        have hS7 : w7.cell? ⟨wr.heap.size, 0, none⟩ = some (.int .i64 (fr : Int)) ∧ w7.cell? ⟨wr.heap.size, 1, none⟩ = some (.int .i64 (tt : Int)) ∧ w7.cell? ⟨wr.heap.size, 2, none⟩ = some (.bool ah) := by rw [hw7]; exact far3 A0.out (by omega)
        have hl7 : wr.heap.size < w7.heap.size := by rw [hw7]; have := hsa.out; simp; omega
        have HC7 : Hid (CkS W4 w7 bt w.heap.size u7 (PP.drop (i + 1))) := ⟨ht7, by rw [hw7]; exact Lib.grownBy_trans HGA.out (Lib.grownBy_setCell _ _ 0 _)⟩
        obtain ⟨x0, x1, x2⟩ := hS7
        clear ht7 hw7 A0 HGA HCT
        go_wp2_with fail
        go_at_call 71
        refine (CJ.out _).mono ?_
        rintro e w8 ⟨rfl, hb8⟩
        have x0 := (hb8.cell (p := ⟨wr.heap.size, 0, none⟩) hl7).trans x0
        have x1 := (hb8.cell (p := ⟨wr.heap.size, 1, none⟩) hl7).trans x1
        have x2 := (hb8.cell (p := ⟨wr.heap.size, 2, none⟩) hl7).trans x2
        have hl8 : wr.heap.size < w8.heap.size := by have := hb8.size; omega
        have HC8 : Hid (CkS W4 w8 bt w.heap.size u7 (PP.drop (i + 1))) := ⟨HC7.out.tv.below hb8, Lib.grownBy_trans HC7.out.gr (grow_belowL hb8)⟩
        clear hb8 HC7 hl7
        cases ah with
        | false =>
          have HEZ : Hid (E1 = Z) := HEX.out
          go_wp2_with fail
          go_roundw
          case rel => exact ⟨i + 1, u7, by omega, by go_num, by rw [HE1.out, HEZ.out], by rw [HF1.out, HNX.out], HC8.out⟩
          case measure => simp [intOf]; omega
        | true =>
          have HEZ : Hid (E1 = jn ⟨fr, tt, true⟩ Z y) := HEX.out
          go_wp2_with fail
          go_at_call 71
          refine (CE.out _).mono ?_
          rintro e w9 ⟨rfl, hb9⟩
          have HC9 : Hid (CkS W4 w9 bt w.heap.size u7 (PP.drop (i + 1))) := ⟨HC8.out.tv.below hb9, Lib.grownBy_trans HC8.out.gr (grow_belowL hb9)⟩
          clear hb9 HC8
          go_wp2_with fail
          go_roundw
          case rel => exact ⟨i + 1, u7, by omega, by go_num, by rw [HE1.out, HEZ.out], by rw [HF1.out, HNX.out], HC9.out⟩
          case measure => simp [intOf]; omega
      · have hke : i = Q.2.length := by omega
        have hge : ¬ ((i : Int) < (Q.2.length : Int)) := by omega
        have HFE : Hid (fld s0 Q.2 PP i = F) := by show _ = _; rw [HF.out, hke]
        have HEE : Hid (eldN s0 Q.2 PP i = E) := by show _ = _; rw [HE.out, hke]
        rw [HFE.out, HEE.out]
        have hBE : Below w.heap.size w wr := HB4w.out.grown hC.gr HB4w.out.size (fun k hk => by
          simp only [Option.some.injEq] at hk
          omega)
        clear hke hC
        by_cases hu : E = A
        · have hu' : (E : Int) = (A : Int) := by omega
          have hG : Hid (RB = decide ((F : Int) = b)) := by show _ = _; rw [HRB.out, decide_eq_true hu', Bool.true_and]
          subst hu
          go_wp2_with fail
          go_ret2
          exact ⟨by rw [hG.out]; first | rfl | simp, hBE⟩
        · have hu' : ¬ (E : Int) = (A : Int) := by omega
          have hG : Hid (RB = false) := by show _ = _; rw [HRB.out, decide_eq_false hu', Bool.false_and]
          go_wp2_with fail
          go_ret2
          exact ⟨by rw [hG.out]; first | rfl | simp, hBE⟩

theorem implCheckGrew (a o b n : Int) (p : List Int) (v : Value) (w : World) (hv : ZAt w w.heap.size v p) :
    Calls Try.prog 37 #[.int .i64 a, .int .i64 o, .int .i64 b, .int .i64 n, .agg #[v]] w fun e w' => e = .returned (.tuple #[.bool (cgr a o b n p).1, .bool (cgr a o b n p).2]) ∧ Below w.heap.size w w' := by
  by_cases h : 1 ≤ o ∧ o ≤ n ∧ n ≤ 40
  · obtain ⟨N, rfl⟩ : ∃ N : Nat, n = N := ⟨n.toNat, by omega⟩
    obtain ⟨k, rfl⟩ : ∃ k : Nat, o = (k : Int) + 1 := ⟨(o - 1).toNat, by omega⟩
    rw [cgr_prog (by omega) (by omega)]
    by_cases hg : p.length = (rt (isEld (k + 1)) k 41 0 N).2.length + off (rt (isEld (k + 1)) k 41 0 N).1.1 ∧ (0 ≤ a ∧ a ≤ 1000002) ∧ (0 ≤ b ∧ b ≤ 1000002) ∧ p.all (fun n => decide (0 ≤ n ∧ n ≤ 1000002)) = true
    · rw [if_pos hg]
      have hall := List.all_eq_true.1 hg.2.2.2
      have hzp : zl (p.map Int.toNat) = p := zl_nat (fun x hx => (of_decide_eq_true (hall x hx)).1)
      obtain ⟨A, rfl⟩ : ∃ A : Nat, a = A := ⟨a.toNat, by omega⟩
      rw [Int.toNat_natCast]
      exact implCheckGrew_ok A b N k (p.map Int.toNat) v w (by omega) (by omega) (by rw [hzp]; exact hv) (fun y hy => by
        obtain ⟨x, hx, rfl⟩ := List.mem_map.1 hy
        have := of_decide_eq_true (hall x hx)
        omega) (by omega) hg.2.2.1 (by rw [List.length_map]; exact hg.1)
    · rw [if_neg hg]
      exact implCheckGrew_mis a b N k p v w (by omega) (by omega) hv hg
  · rw [cgr_bad h]
    exact implCheckGrew_bad a o b n p v w hv h

end Go.Proofs.Ytlglngmlaknmlaa
