/- The law FnIn, walked: for what is drawn from the bytes it answers true. -/
import Derived.Test.YtlglngmlaknmlaaLgFb
import Derived.Test.YtlglngmlaknmlaaLgFa
import Derived.Laws.BytesArg
namespace Go.Proofs.Ytlglngmlaknmlaa
open Go.RowKit Plain Lgs Tpc

/-- what CheckIn tells of a proof that a text is in -/
theorem cin_law {l : List ByteArray} {K : Nat} {s : ByteArray} (hl : l.length ≤ 40) (hK : K < l.length) (hs : s.size ≤ 20) : cin ((root l : Nat) : Int) (l.length : Int) (K : Int) s (zl (inF 41 l K)) = (decide (leaf s = leaf (lq l K)), true) := by
  have hlt := inF_lt 41 l K
  have hm : (zl (inF 41 l K)).map Int.toNat = inF 41 l K := by
    unfold zl
    rw [List.map_map]
    conv => rhs; rw [← List.map_id (inF 41 l K)]
    apply List.map_congr_left
    intro x _
    rfl
  have hlen : (inF 41 l K).length ≤ 20 := by
    have e := in_rt l K 41 0 l.length (by omega) hK (Nat.le_refl _) (by omega) (by omega)
    rw [sub_all, Nat.sub_zero] at e
    rw [e, List.length_map]
    exact Nat.le_trans (rt_len (one_fit K) 41 6 0 l.length (by omega) (by omega) hK (by omega) (by omega)) (by omega)
  have hp : pok (zl (inF 41 l K)) = true := by
    unfold pok
    rw [Bool.and_eq_true, List.all_eq_true, decide_eq_true_eq, zl_len]
    refine ⟨fun x hx => ?_, hlen⟩
    unfold zl at hx
    obtain ⟨y, hy, rfl⟩ := List.mem_map.1 hx
    have := hlt y hy
    exact decide_eq_true (by show 0 ≤ (y : Int) ∧ (y : Int) ≤ 1000002; omega)
  have hr := root_lt l
  have hin := up_in 41 l K (by omega) hl hK
  have hsame := up_same 41 l.length K (leaf (l.getD K ByteArray.empty)) (leaf s) (inF 41 l K)
  unfold cin
  rw [if_pos ⟨by omega, by omega, by omega, by omega, hs, hp⟩, Int.toNat_natCast, Int.toNat_natCast, hm]
  have h2 : (upF 41 l.length K (leaf s) (inF 41 l K)).2 = true := by rw [← hsame, hin]
  rw [if_pos h2]
  congr 1
  rw [decide_eq_decide]
  have e0 : lq l K = l.getD K ByteArray.empty := rfl
  constructor
  · intro h
    rw [e0]
    refine up_one 41 l.length K _ _ (inF 41 l K) (leaf_lt _) (leaf_lt _) h2 ?_
    rw [hin]
    show _ = root l
    omega
  · intro h
    rw [h, e0, hin]

theorem conv_any {w : World} {ao : Option Addr} {len : Nat} (h : CodeAt w ao len) (cap : Nat) : ∃ s : ByteArray, s.size = len ∧ ∀ W, Below w.heap.size w W → (convert 51 9 (.slice ao len cap)).run Try.prog W = .ok (.string s) W := by
  by_cases h0 : len = 0
  · subst h0
    refine ⟨ByteArray.empty, rfl, fun W _ => ?_⟩
    rw [run_convert_bytes_string W 51 9 5 ao 0 cap Try.underlying51 Try.underlying5 Try.underlying9]
    cases ao with
    | none => simp [Conv.bytesToString]
    | some x => simp [Conv.bytesToString, loadCells, loadCellsFrom]
  · obtain ⟨g, o, rfl, hg, hx⟩ := h.2 (by omega)
    obtain ⟨xs, hxl, hxs⟩ : ∃ xs : List Int, xs.length = len ∧ ∀ i, i < len → w.cell? ⟨g, o + i, none⟩ = some (.int .u8 (xs.getD i 0)) := by
      have hx' : ∀ i, i < len → ∃ x : Int, w.cell? ⟨g, o + i, none⟩ = some (.int .u8 x) := fun i hi => by
        obtain ⟨y, _, c⟩ := hx i hi
        exact ⟨_, c⟩
      obtain ⟨l, hl, hP⟩ := pick_list hx'
      refine ⟨l, hl, fun i hi => ?_⟩
      rw [hP i hi]
      rfl
    refine ⟨strOfNums xs, by rw [strOfNums_size, hxl], fun W hW => ?_⟩
    exact run_convert_bytes_arg W 51 5 Try.underlying51 Try.underlying5 g o len cap xs hxl (fun i hi => (hW.cell (p := ⟨g, o + i, none⟩) hg).trans (hxs i hi)) 9 Try.underlying9

attribute [local go_sem ↓] Go.wp_at_zero Go.wp_at_succ

set_option maxRecDepth 100000 in
set_option maxHeartbeats 8000000 in
theorem walkFnIn (a0 : Option Addr) (len0 cap0 : Nat) (a1 : Option Addr) (len1 cap1 : Nat) (w : World) (h0 : len0 ≤ 1048576 → CodeAt w a0 len0) (h1 : len1 ≤ 1048576 → CodeAt w a1 len1) (y0 : len0 ≤ 140737488351232) (y1 : len1 ≤ 140737488351232) :
    Calls Try.prog 12 #[.slice a0 len0 cap0, .slice a1 len1 cap1] w fun e w' => e = .returned (.bool true) ∧ Below w.heap.size w w' := by
  by_cases hbig : 1048576 < len0 + len1
  · have hbig' : (1048576 : Int) < (len0 : Int) + (len1 : Int) := by omega
    clear h0 h1
    go_enter Try.func12, Try.ntmps12
    go_wp2
    go_ret
    exact ⟨rfl, Below.refl _ _⟩
  have hbig' : ¬ (1048576 : Int) < (len0 : Int) + (len1 : Int) := by omega
  have H0 : Hid (CodeAt w a0 len0) := h0 (by omega)
  have H1 : Hid (CodeAt w a1 len1) := h1 (by omega)
  have HL1 : Hid (len1 ≤ 1048576) := by show _ ≤ _; omega
  clear h0 h1 hbig
  go_enter Try.func12, Try.ntmps12
  go_wp2_with fail
  go_at_call 43
  refine (drawPI_any a0 len0 cap0 w H0.out).mono ?_
  rintro e w1 ⟨⟨l, v, k, rfl, hR1, hl41, hS⟩, hB1⟩
  have HB1 : Hid (Below w.heap.size w w1) := hB1
  have HA1 : Hid (StAt w1 w1.heap.size v l) := StAt.own hR1
  obtain ⟨av, cv, hv⟩ := hR1.slice
  subst hv
  have hcap : l.length ≤ cv ∧ cv ≤ 9223372036854775807 := by
    obtain ⟨_, _, h1, h2, h3, _⟩ := HA1.out
    simp only [Value.slice.injEq] at h1
    unfold maxLen at h3
    obtain ⟨_, _, rfl⟩ := h1
    exact ⟨h2, by omega⟩
  have HSz : Hid (∀ i, i < l.length → (lq l i).size ≤ 9223372036854775807) := fun i hi => by have := hS _ (lq_mem hi); omega
  have CI : Hid (Calls Try.prog 25 #[.slice av l.length cv, .int .i64 k] w1 fun e w' => OPr w1 w' e (pin l k)) := implProveIn l k _ w1 HA1.out HSz.out
  have CS : Hid (∀ W, Below w1.heap.size w1 W → Calls Try.prog 24 #[.slice av l.length cv, .int .i64 k] W fun e w' => OPr W w' e (pin l k)) := fun W hW => specProveIn l k _ W (HA1.out.below hW)
  have HPG : Hid ((pin l k).2 = true → ∃ K : Nat, k = (K : Int) ∧ K < l.length ∧ l.length ≤ 40 ∧ lok l = true ∧ (pin l k).1 = inF 41 l K) := fun h => by
    unfold pin at h ⊢
    split at h
    · rename_i hc
      obtain ⟨K, hK⟩ : ∃ K : Nat, k = (K : Int) := ⟨k.toNat, by omega⟩
      subst hK
      refine ⟨K, rfl, by omega, (lok_parts hc.1).1, hc.1, ?_⟩
      rw [if_pos hc, Int.toNat_natCast]
    · cases h
  have HPL : Hid ((pin l k).1.length ≤ 100) := by
    unfold pin
    split
    · exact Nat.le_trans (inF_len 41 _ _) (by omega)
    · exact Nat.zero_le _
  obtain ⟨⟨P, ok⟩, hR⟩ : ∃ R, pin l k = R := ⟨_, rfl⟩
  rw [hR] at CI CS HPG HPL
  dsimp only at HPG HPL
  clear hR hR1 hS H0 hB1
  go_wp2_with fail
  go_at_call 25
  refine CI.out.mono ?_
  rintro e w2 ⟨⟨u2, rfl, hz2⟩, hb2⟩
  dsimp only at hz2 ⊢
  obtain ⟨a2, c2, hu2⟩ := hz2.slice
  subst hu2
  obtain ⟨W3, hW3⟩ : ∃ W, W = w2.alloc (.cells #[.slice a2 (zl P).length c2] 37) := ⟨_, rfl⟩
  have hB3 : Below w2.heap.size w2 W3 := by rw [hW3]; exact (Below.refl _ w2).alloc (Nat.le_refl _) _
  have HB3 : Hid (Below w1.heap.size w1 W3) := hb2.trans (hB3.mono hb2.size)
  have HX3 : Hid (W3.cell? ⟨w2.heap.size, 0, none⟩ = some (.slice a2 (zl P).length c2) ∧ w2.heap.size < W3.heap.size ∧ ZAt W3 W3.heap.size (.slice a2 (zl P).length c2) (zl P)) := ⟨by rw [hW3]; go_simp, by rw [hW3]; simp, ZAt.own (hz2.below hB3)⟩
  have KX : Hid (∀ W, Below W3.heap.size W3 W → W.cell? ⟨w2.heap.size, 0, none⟩ = some (.slice a2 (zl P).length c2) ∧ w2.heap.size < W.heap.size ∧ ZAt W W.heap.size (.slice a2 (zl P).length c2) (zl P) ∧ Below w1.heap.size w1 W ∧ Below w.heap.size w W) := fun W hW => by
    have hb : Below w1.heap.size w1 W := HB3.out.trans (hW.mono HB3.out.size)
    exact ⟨(hW.cell (p := ⟨w2.heap.size, 0, none⟩) HX3.out.2.1).trans HX3.out.1, Nat.lt_of_lt_of_le HX3.out.2.1 hW.size, HX3.out.2.2.below hW, hb, HB1.out.trans (hb.mono HB1.out.size)⟩
  clear hz2 hb2 hB3 CI
  go_upto_region 5 with fail
  rw [← hW3]
  clear hW3
  go_wp2_with fail
  go_at_call 24
  refine (CS.out _ HB3.out).mono ?_
  rintro e w4 ⟨⟨u4, rfl, hz4⟩, hb4⟩
  dsimp only at hz4 ⊢
  obtain ⟨a4, c4, hu4⟩ := hz4.slice
  subst hu4
  obtain ⟨W5, hW5⟩ : ∃ W, W = w4.alloc (.cells #[.slice a4 (zl P).length c4] 37) := ⟨_, rfl⟩
  have hB5 : Below w4.heap.size w4 W5 := by rw [hW5]; exact (Below.refl _ w4).alloc (Nat.le_refl _) _
  have HB5 : Hid (Below W3.heap.size W3 W5) := hb4.trans (hB5.mono hb4.size)
  have y9 : W5.cell? ⟨w4.heap.size, 0, none⟩ = some (.slice a4 (zl P).length c4) := by rw [hW5]; go_simp
  have l9 : w4.heap.size < W5.heap.size := by rw [hW5]; simp
  have HZ5 : Hid (ZAt W5 W5.heap.size (.slice a4 (zl P).length c4) (zl P)) := ZAt.own (hz4.below hB5)
  have k5 := KX.out _ HB5.out
  have y7 := k5.1
  have l7 := k5.2.1
  have nok : (ok != ok) = false := bne_self_eq_false ok
  have CR1 : Hid (∀ W, Below w1.heap.size w1 W → Calls Try.prog 22 #[.slice av l.length cv] W fun e w' => e = .returned (.tuple #[.int .i64 (if lok l then ((root l : Nat) : Int) else 0), .bool (lok l)]) ∧ ∃ m, w' = W.drewN m) := fun W hW => implRoot l _ W (HA1.out.below hW) HSz.out
  have CR2 : Hid (∀ W, Below w1.heap.size w1 W → Calls Try.prog 20 #[.slice av l.length cv] W fun e w' => e = .returned (.tuple #[.int .i64 (if lok l then ((root l : Nat) : Int) else 0), .bool (lok l)]) ∧ ∃ m, w' = W.drewN m) := fun W hW => specRoot l _ W (HA1.out.below hW)
  have HRK : Hid (lok l = true → (if lok l then ((root l : Nat) : Int) else 0) = ((root l : Nat) : Int)) := fun h => by rw [if_pos h]
  obtain ⟨R0, hR0⟩ : ∃ R, (if lok l then ((root l : Nat) : Int) else 0) = R := ⟨_, rfl⟩
  obtain ⟨okl, hokl⟩ : ∃ R, lok l = R := ⟨_, rfl⟩
  have HOL : Hid (lok l = okl) := hokl
  rw [hR0] at CR1 CR2 HRK
  rw [hokl] at CR1 CR2
  have nokl : (okl != okl) = false := bne_self_eq_false okl
  have CM : Hid (∀ W, Below W5.heap.size W5 W → Calls Try.prog 39 #[.slice a2 (zl P).length c2, .slice a4 (zl P).length c4] W fun e w' => e = .returned (.bool true) ∧ Below W.heap.size W w') := fun W hW => sameIntsL (zl P) _ _ W (KX.out _ (HB5.out.trans (hW.mono HB5.out.size))).2.2.1 (HZ5.out.below hW) (by rw [zl_len]; have := HPL.out; omega)
  clear hz4 hb4 hB5 CS k5 hR0 hokl y7 l7
  go_upto_region 6 with fail
  rw [← hW5]
  clear hW5
  go_wp2_with fail
  go_at_call 22
  refine (CR1.out _ (KX.out _ HB5.out).2.2.2.1).mono ?_
  rintro e wp ⟨rfl, mp, hp1⟩
  have HQ1 : Hid (Below W5.heap.size W5 wp) := by rw [hp1]; exact below_drewT (Below.refl _ _)
  have HQ1' : Hid (Below W3.heap.size W3 wp) := HB5.out.trans (HQ1.out.mono HB5.out.size)
  clear hp1
  go_wp2_with fail
  go_at_call 20
  refine (CR2.out _ (KX.out _ HQ1'.out).2.2.2.1).mono ?_
  rintro e wq ⟨rfl, mq, hq1⟩
  have HQ2 : Hid (Below W5.heap.size W5 wq) := by rw [hq1]; exact below_drewT HQ1.out
  have HQ2' : Hid (Below W3.heap.size W3 wq) := HB5.out.trans (HQ2.out.mono HB5.out.size)
  have y9 := (HQ2.out.cell (p := ⟨w4.heap.size, 0, none⟩) l9).trans y9
  have l9' : w4.heap.size < wq.heap.size := by have := HQ2.out.size; omega
  have y7 := (KX.out _ HQ2'.out).1
  have l7 := (KX.out _ HQ2'.out).2.1
  clear hq1 HQ1 HQ1' CR1 CR2
  go_wp2_with fail
  go_at_call 39
  refine (CM.out _ HQ2.out).mono ?_
  rintro e w6 ⟨rfl, hb6⟩
  have HB6 : Hid (Below W3.heap.size W3 w6) := HQ2'.out.trans (hb6.mono HQ2'.out.size)
  have HW6 : Hid (Below w.heap.size w w6) := (KX.out _ HB6.out).2.2.2.2
  clear hb6 HB5 y9 l9 l9' HZ5 CM y7 l7 HQ2 HQ2'
  cases ok with
  | false =>
    clear HPG KX HB6
    have CD : Hid (∀ W, Below w.heap.size w W → Calls Try.prog 44 #[.slice a1 len1 cap1] W fun e w' => ODi W w' e) := fun W hW => drawCI_any a1 len1 cap1 W (H1.out.below hW)
    have CQ : Hid (∀ W, Below w.heap.size w W → Calls Try.prog 45 #[.slice a1 len1 cap1] W fun e w' => (∃ x y : Int, e = .returned (.tuple #[.int .i64 x, .int .i64 y])) ∧ Below W.heap.size W w') := fun W hW => drawNS_any a1 len1 cap1 W (H1.out.below hW)
    have CL : Hid (∀ W, Below w.heap.size w W → Calls Try.prog 46 #[.slice a1 len1 cap1] W fun e w' => (∃ s : ByteArray, e = .returned (.string s) ∧ s.size ≤ 400) ∧ Below W.heap.size W w') := fun W hW => drawLS_any a1 len1 cap1 W (H1.out.below hW)
    go_wp2_with fail
    go_at_call 44
    refine (CD.out _ HW6.out).mono ?_
    rintro e wa ⟨⟨ga, gn, gk, gs, gv, gP, rfl, hgs, hza⟩, hba⟩
    have HBa : Hid (Below w.heap.size w wa) := HW6.out.trans (hba.mono HW6.out.size)
    obtain ⟨av, cv, hgv⟩ := hza.slice
    subst hgv
    obtain ⟨Wb, hWb⟩ : ∃ W, W = wa.alloc (.cells #[.slice av gP.length cv] 37) := ⟨_, rfl⟩
    have hBb : Below wa.heap.size wa Wb := by rw [hWb]; exact (Below.refl _ wa).alloc (Nat.le_refl _) _
    have HBb : Hid (Below w.heap.size w Wb) := HBa.out.trans (hBb.mono HBa.out.size)
    have HZb : Hid (ZAt Wb Wb.heap.size (.slice av gP.length cv) gP) := ZAt.own (hza.below hBb)
    have yb : Wb.cell? ⟨wa.heap.size, 0, none⟩ = some (.slice av gP.length cv) := by rw [hWb]; go_simp
    have lb : wa.heap.size < Wb.heap.size := by rw [hWb]; simp
    have C1 : Hid (Calls Try.prog 33 #[.int .i64 ga, .int .i64 gn, .int .i64 gk, .string gs, .agg #[.slice av gP.length cv]] Wb fun e w' => e = .returned (.tuple #[.bool (cin ga gn gk gs gP).1, .bool (cin ga gn gk gs gP).2]) ∧ Below Wb.heap.size Wb w') := implCheckIn ga gn gk gs gP _ Wb (by omega) HZb.out
    have C2 : Hid (∀ W, Below Wb.heap.size Wb W → Calls Try.prog 31 #[.int .i64 ga, .int .i64 gn, .int .i64 gk, .string gs, .agg #[.slice av gP.length cv]] W fun e w' => e = .returned (.tuple #[.bool (cin ga gn gk gs gP).1, .bool (cin ga gn gk gs gP).2]) ∧ Below W.heap.size W w') := fun W hW => specCheckIn ga gn gk gs gP _ W (by unfold maxLen; omega) (HZb.out.below hW)
    generalize cin ga gn gk gs gP = RG at C1 C2
    obtain ⟨g1, g2⟩ := RG
    dsimp only at C1 C2
    have ng1 : (g1 == g1) = true := beq_self_eq_true g1
    have ng2 : (g2 == g2) = true := beq_self_eq_true g2
    clear hza hba hBb HBa
    go_upto_region 20 with fail
    rw [← hWb]
    clear hWb
    go_wp2_with fail
    go_at_call 33
    refine C1.out.mono ?_
    rintro e wc ⟨rfl, hbc⟩
    have HBc : Hid (Below Wb.heap.size Wb wc) := hbc
    have yc := (hbc.cell (p := ⟨wa.heap.size, 0, none⟩) lb).trans yb
    have lc : wa.heap.size < wc.heap.size := by have := hbc.size; omega
    clear hbc yb
    go_wp2_with fail
    go_at_call 31
    refine (C2.out _ HBc.out).mono ?_
    rintro e wd ⟨rfl, hbd⟩
    have HBd : Hid (Below w.heap.size w wd) := HBb.out.trans ((HBc.out.trans (hbd.mono HBc.out.size)).mono HBb.out.size)
    clear hbd yc C1 C2 HZb
    go_wp2_with fail
    go_at_call 45
    refine (CQ.out _ HBd.out).mono ?_
    rintro e we ⟨⟨x, y, rfl⟩, hbe⟩
    have HBe : Hid (Below w.heap.size w we) := HBd.out.trans (hbe.mono HBd.out.size)
    have S1 : Hid (∀ W, Calls Try.prog 18 #[.int .i64 x, .int .i64 y] W fun e w' => e = .returned (.tuple #[.int .i64 (nsum x y).1, .bool (nsum x y).2]) ∧ w' = W) := fun W => implNode x y W
    have S2 : Hid (∀ W, Calls Try.prog 17 #[.int .i64 x, .int .i64 y] W fun e w' => e = .returned (.tuple #[.int .i64 (nsum x y).1, .bool (nsum x y).2]) ∧ w' = W) := fun W => specNode x y W
    generalize nsum x y = RN at S1 S2
    obtain ⟨n1, n2⟩ := RN
    dsimp only at S1 S2
    have nn2 : (n2 == n2) = true := beq_self_eq_true n2
    clear hbe HBd CQ CD
    go_wp2_with fail
    go_at_call 18
    refine (S1.out _).mono ?_
    rintro e w' ⟨rfl, h9⟩
    have h9 := h9.symm
    subst h9
    go_wp2_with fail
    go_at_call 17
    refine (S2.out _).mono ?_
    rintro e w' ⟨rfl, h9⟩
    have h9 := h9.symm
    subst h9
    go_wp2_with fail
    go_at_call 46
    refine (CL.out _ HBe.out).mono ?_
    rintro e wf ⟨⟨ss, rfl, hss⟩, hbf⟩
    have hBf : Below w.heap.size w wf := HBe.out.trans (hbf.mono HBe.out.size)
    have L1 : Hid (∀ W, Calls Try.prog 16 #[.string ss] W fun e w' => e = .returned (.int .i64 ((leaf ss : Nat) : Int)) ∧ w' = W) := fun W => implLeaf ss W (by unfold maxLen; omega)
    have L2 : Hid (∀ W, Calls Try.prog 15 #[.string ss] W fun e w' => e = .returned (.int .i64 ((leaf ss : Nat) : Int)) ∧ w' = W) := fun W => specLeaf ss W (by unfold maxLen; omega)
    generalize leaf ss = lf at L1 L2
    clear hbf HBe CL S1 S2
    cases g1 <;> cases g2 <;> cases n2
    all_goals
      go_wp2_with fail
      go_at_call 16
      refine (L1.out _).mono ?_
      rintro e w' ⟨rfl, h9⟩
      have h9 := h9.symm
      subst h9
      go_wp2_with fail
      go_at_call 15
      refine (L2.out _).mono ?_
      rintro e w' ⟨rfl, h9⟩
      have h9 := h9.symm
      subst h9
      go_wp2
      go_ret
      exact ⟨rfl, hBf⟩
  | true =>
    obtain ⟨K, rfl, hK, hl40, hlok, hPe⟩ := HPG.out rfl
    have hok : okl = true := by rw [← HOL.out]; exact hlok
    have hR := HRK.out hlok
    subst hok
    subst hR
    have hK' : (K : Int) < (l.length : Int) := by omega
    obtain ⟨_, _, hv9, _, _, hr9⟩ := HA1.out
    simp only [Value.slice.injEq] at hv9
    obtain ⟨h91, _, _⟩ := hv9
    rw [← h91] at hr9
    obtain ⟨g, o, ha2, hg, ck⟩ := hr9 K hK
    subst ha2
    have hlk : (lq l K).size ≤ 20 := (lok_parts hlok).2 K hK
    have HCI : Hid (∀ (s : ByteArray) (W : World), s.size ≤ 20 → ZAt W W.heap.size (.slice a2 (zl P).length c2) (zl P) → Calls Try.prog 33 #[.int .i64 ((root l : Nat) : Int), .int .i64 (l.length : Int), .int .i64 (K : Int), .string s, .agg #[.slice a2 (zl P).length c2]] W fun e w' => e = .returned (.tuple #[.bool (decide (leaf s = leaf (lq l K))), .bool true]) ∧ Below W.heap.size W w') := fun s W hs hz => by
      have h := implCheckIn ((root l : Nat) : Int) (l.length : Int) (K : Int) s (zl P) (.slice a2 (zl P).length c2) W (by omega) hz
      rw [hPe, cin_law hl40 hK hs, ← hPe] at h
      exact h
    have KC : Hid (∀ W, Below W3.heap.size W3 W → W.cell? ⟨g, o + K, none⟩ = some (.string (lq l K)) ∧ W.cell? ⟨w2.heap.size, 0, none⟩ = some (.slice a2 (zl P).length c2)) := fun W hW => ⟨((KX.out _ hW).2.2.2.1.cell (p := ⟨g, o + K, none⟩) hg).trans ck, (KX.out _ hW).1⟩
    have hgl : Hid (∀ W, Below W3.heap.size W3 W → g < W.heap.size ∧ w2.heap.size < W.heap.size) := fun W hW => ⟨by have := (KX.out _ hW).2.2.2.1.size; omega, (KX.out _ hW).2.1⟩
    generalize lq l K = lk at ck hlk HCI KC
    generalize root l = RL at HCI
    clear HPG HRK HOL hPe hr9 h91 hlok ck
    obtain ⟨so, hso, hcv⟩ := conv_any H1.out cap1
    have HCV : Hid (∀ W, Below w.heap.size w W → (convert 51 9 (.slice a1 len1 cap1)).run Try.prog W = .ok (.string so) W) := hcv
    have hso' : so.size ≤ 1048576 := by rw [hso]; exact HL1.out
    clear hcv hso
    have hB6d : Below W3.heap.size W3 w6.drew := HB6.out.drew
    have hSd := KC.out _ hB6d
    have C8 : Hid (Calls Try.prog 33 #[.int .i64 (RL : Int), .int .i64 (l.length : Int), .int .i64 (K : Int), .string lk, .agg #[.slice a2 (zl P).length c2]] w6.drew fun e w' => e = .returned (.tuple #[.bool true, .bool true]) ∧ Below w6.drew.heap.size w6.drew w') := by
      have h := HCI.out lk w6.drew hlk (KX.out _ hB6d).2.2.1
      rw [decide_eq_true rfl] at h
      exact h
    go_upto_region 11 with fail
    go_region_held3 (fun W => W.cell? ⟨g, o + K, none⟩ = some (.string lk) ∧ W.cell? ⟨w2.heap.size, 0, none⟩ = some (.slice a2 (zl P).length c2))
      (first
        | with_reducible exact hS9
        | with_reducible exact hSd)
      (first
        | (go_at_call 33; (with_reducible refine C8.out.mono ?_); rintro e w9 ⟨rfl, hb9⟩; have HB9 : Hid (Below W3.heap.size W3 w9) := hB6d.trans (hb9.mono hB6d.size); have hS9 := KC.out _ HB9.out))
    all_goals
      have HW9 : Hid (Below w.heap.size w w9) := (KX.out _ HB9.out).2.2.2.2
      have hcv9 := HCV.out _ HW9.out
      have y9 := hS9.2
      have l9 := (hgl.out _ HB9.out).2
      clear hS9 hSd C8 hb9 hB6d HB6 HW6
      by_cases h20 : so.size ≤ 20
      · have h20' : (so.size : Int) ≤ 20 := by omega
        obtain ⟨q, hq⟩ : ∃ q, q = decide (leaf so = leaf lk) := ⟨_, rfl⟩
        have C9 : Hid (Calls Try.prog 33 #[.int .i64 (RL : Int), .int .i64 (l.length : Int), .int .i64 (K : Int), .string so, .agg #[.slice a2 (zl P).length c2]] w9 fun e w' => e = .returned (.tuple #[.bool q, .bool true]) ∧ Below w9.heap.size w9 w') := by
          rw [hq]
          exact HCI.out so w9 h20 (KX.out _ HB9.out).2.2.1
        have L1 : Hid (∀ W, Calls Try.prog 16 #[.string so] W fun e w' => e = .returned (.int .i64 ((leaf so : Nat) : Int)) ∧ w' = W) := fun W => implLeaf so W (by unfold maxLen; omega)
        have L2 : Hid (∀ W, Calls Try.prog 16 #[.string lk] W fun e w' => e = .returned (.int .i64 ((leaf lk : Nat) : Int)) ∧ w' = W) := fun W => implLeaf lk W (by unfold maxLen; omega)
        generalize leaf so = e1 at hq L1
        generalize leaf lk = e2 at hq L2
        have HQ : Hid (q = decide (e1 = e2)) := hq
        clear hq
        go_wp2_with fail
        go_at_call 33
        refine C9.out.mono ?_
        rintro e w10 ⟨rfl, hb10⟩
        have HB10 : Hid (Below W3.heap.size W3 w10) := HB9.out.trans (hb10.mono HB9.out.size)
        have HW10 : Hid (Below w.heap.size w w10) := (KX.out _ HB10.out).2.2.2.2
        have y10 := (KC.out _ HB10.out).1
        have l10 := (hgl.out _ HB10.out).1
        clear hb10 C9 y9 l9 HB9 HW9 hcv9
        by_cases he : e1 = e2
        · subst he
          obtain rfl : q = true := by rw [HQ.out]; simp
          clear HQ
          go_upto_region 17 with fail
          go_quiet (first
            | (go_at_call 16; with_reducible exact Calls.quiet_of_same (L1.out _))
            | (go_at_call 16; with_reducible exact Calls.quiet_of_same (L2.out _)))
          rename Nat => m9
          obtain ⟨w11, hw11⟩ : ∃ W, W = w10.drewN m9 := ⟨_, rfl⟩
          rw [← hw11]
          have HW11 : Hid (Below w.heap.size w w11) := by rw [hw11]; exact below_drewT HW10.out
          clear hw11 HW10 y10 l10 HCI HCV KC KX L1 L2 HB10
          have CD : Hid (∀ W, Below w.heap.size w W → Calls Try.prog 44 #[.slice a1 len1 cap1] W fun e w' => ODi W w' e) := fun W hW => drawCI_any a1 len1 cap1 W (H1.out.below hW)
          have CQ : Hid (∀ W, Below w.heap.size w W → Calls Try.prog 45 #[.slice a1 len1 cap1] W fun e w' => (∃ x y : Int, e = .returned (.tuple #[.int .i64 x, .int .i64 y])) ∧ Below W.heap.size W w') := fun W hW => drawNS_any a1 len1 cap1 W (H1.out.below hW)
          have CL : Hid (∀ W, Below w.heap.size w W → Calls Try.prog 46 #[.slice a1 len1 cap1] W fun e w' => (∃ s : ByteArray, e = .returned (.string s) ∧ s.size ≤ 400) ∧ Below W.heap.size W w') := fun W hW => drawLS_any a1 len1 cap1 W (H1.out.below hW)
          go_wp2_with fail
          go_at_call 44
          refine (CD.out _ HW11.out).mono ?_
          rintro e wa ⟨⟨ga, gn, gk, gs, gv, gP, rfl, hgs, hza⟩, hba⟩
          have HBa : Hid (Below w.heap.size w wa) := HW11.out.trans (hba.mono HW11.out.size)
          obtain ⟨av, cv, hgv⟩ := hza.slice
          subst hgv
          obtain ⟨Wb, hWb⟩ : ∃ W, W = wa.alloc (.cells #[.slice av gP.length cv] 37) := ⟨_, rfl⟩
          have hBb : Below wa.heap.size wa Wb := by rw [hWb]; exact (Below.refl _ wa).alloc (Nat.le_refl _) _
          have HBb : Hid (Below w.heap.size w Wb) := HBa.out.trans (hBb.mono HBa.out.size)
          have HZb : Hid (ZAt Wb Wb.heap.size (.slice av gP.length cv) gP) := ZAt.own (hza.below hBb)
          have yb : Wb.cell? ⟨wa.heap.size, 0, none⟩ = some (.slice av gP.length cv) := by rw [hWb]; go_simp
          have lb : wa.heap.size < Wb.heap.size := by rw [hWb]; simp
          have C1 : Hid (Calls Try.prog 33 #[.int .i64 ga, .int .i64 gn, .int .i64 gk, .string gs, .agg #[.slice av gP.length cv]] Wb fun e w' => e = .returned (.tuple #[.bool (cin ga gn gk gs gP).1, .bool (cin ga gn gk gs gP).2]) ∧ Below Wb.heap.size Wb w') := implCheckIn ga gn gk gs gP _ Wb (by omega) HZb.out
          have C2 : Hid (∀ W, Below Wb.heap.size Wb W → Calls Try.prog 31 #[.int .i64 ga, .int .i64 gn, .int .i64 gk, .string gs, .agg #[.slice av gP.length cv]] W fun e w' => e = .returned (.tuple #[.bool (cin ga gn gk gs gP).1, .bool (cin ga gn gk gs gP).2]) ∧ Below W.heap.size W w') := fun W hW => specCheckIn ga gn gk gs gP _ W (by unfold maxLen; omega) (HZb.out.below hW)
          generalize cin ga gn gk gs gP = RG at C1 C2
          obtain ⟨g1, g2⟩ := RG
          dsimp only at C1 C2
          have ng1 : (g1 == g1) = true := beq_self_eq_true g1
          have ng2 : (g2 == g2) = true := beq_self_eq_true g2
          clear hza hba hBb HBa
          go_upto_region 20 with fail
          rw [← hWb]
          clear hWb
          go_wp2_with fail
          go_at_call 33
          refine C1.out.mono ?_
          rintro e wc ⟨rfl, hbc⟩
          have HBc : Hid (Below Wb.heap.size Wb wc) := hbc
          have yc := (hbc.cell (p := ⟨wa.heap.size, 0, none⟩) lb).trans yb
          have lc : wa.heap.size < wc.heap.size := by have := hbc.size; omega
          clear hbc yb
          go_wp2_with fail
          go_at_call 31
          refine (C2.out _ HBc.out).mono ?_
          rintro e wd ⟨rfl, hbd⟩
          have HBd : Hid (Below w.heap.size w wd) := HBb.out.trans ((HBc.out.trans (hbd.mono HBc.out.size)).mono HBb.out.size)
          clear hbd yc C1 C2 HZb
          go_wp2_with fail
          go_at_call 45
          refine (CQ.out _ HBd.out).mono ?_
          rintro e we ⟨⟨x, y, rfl⟩, hbe⟩
          have HBe : Hid (Below w.heap.size w we) := HBd.out.trans (hbe.mono HBd.out.size)
          have S1 : Hid (∀ W, Calls Try.prog 18 #[.int .i64 x, .int .i64 y] W fun e w' => e = .returned (.tuple #[.int .i64 (nsum x y).1, .bool (nsum x y).2]) ∧ w' = W) := fun W => implNode x y W
          have S2 : Hid (∀ W, Calls Try.prog 17 #[.int .i64 x, .int .i64 y] W fun e w' => e = .returned (.tuple #[.int .i64 (nsum x y).1, .bool (nsum x y).2]) ∧ w' = W) := fun W => specNode x y W
          generalize nsum x y = RN at S1 S2
          obtain ⟨n1, n2⟩ := RN
          dsimp only at S1 S2
          have nn2 : (n2 == n2) = true := beq_self_eq_true n2
          clear hbe HBd CQ CD
          go_wp2_with fail
          go_at_call 18
          refine (S1.out _).mono ?_
          rintro e w' ⟨rfl, h9⟩
          have h9 := h9.symm
          subst h9
          go_wp2_with fail
          go_at_call 17
          refine (S2.out _).mono ?_
          rintro e w' ⟨rfl, h9⟩
          have h9 := h9.symm
          subst h9
          go_wp2_with fail
          go_at_call 46
          refine (CL.out _ HBe.out).mono ?_
          rintro e wf ⟨⟨ss, rfl, hss⟩, hbf⟩
          have hBf : Below w.heap.size w wf := HBe.out.trans (hbf.mono HBe.out.size)
          have L1 : Hid (∀ W, Calls Try.prog 16 #[.string ss] W fun e w' => e = .returned (.int .i64 ((leaf ss : Nat) : Int)) ∧ w' = W) := fun W => implLeaf ss W (by unfold maxLen; omega)
          have L2 : Hid (∀ W, Calls Try.prog 15 #[.string ss] W fun e w' => e = .returned (.int .i64 ((leaf ss : Nat) : Int)) ∧ w' = W) := fun W => specLeaf ss W (by unfold maxLen; omega)
          generalize leaf ss = lf at L1 L2
          clear hbf HBe CL S1 S2
          cases g1 <;> cases g2 <;> cases n2
          all_goals
            go_wp2_with fail
            go_at_call 16
            refine (L1.out _).mono ?_
            rintro e w' ⟨rfl, h9⟩
            have h9 := h9.symm
            subst h9
            go_wp2_with fail
            go_at_call 15
            refine (L2.out _).mono ?_
            rintro e w' ⟨rfl, h9⟩
            have h9 := h9.symm
            subst h9
            go_wp2
            go_ret
            exact ⟨rfl, hBf⟩
        · obtain rfl : q = false := by rw [HQ.out]; simp; exact he
          have he' : ¬ (e1 : Int) = (e2 : Int) := by omega
          clear HQ
          go_upto_region 17 with fail
          go_quiet (first
            | (go_at_call 16; with_reducible exact Calls.quiet_of_same (L1.out _))
            | (go_at_call 16; with_reducible exact Calls.quiet_of_same (L2.out _)))
          rename Nat => m9
          obtain ⟨w11, hw11⟩ : ∃ W, W = w10.drewN m9 := ⟨_, rfl⟩
          rw [← hw11]
          have HW11 : Hid (Below w.heap.size w w11) := by rw [hw11]; exact below_drewT HW10.out
          clear hw11 HW10 y10 l10 HCI HCV KC KX L1 L2 HB10
          have CD : Hid (∀ W, Below w.heap.size w W → Calls Try.prog 44 #[.slice a1 len1 cap1] W fun e w' => ODi W w' e) := fun W hW => drawCI_any a1 len1 cap1 W (H1.out.below hW)
          have CQ : Hid (∀ W, Below w.heap.size w W → Calls Try.prog 45 #[.slice a1 len1 cap1] W fun e w' => (∃ x y : Int, e = .returned (.tuple #[.int .i64 x, .int .i64 y])) ∧ Below W.heap.size W w') := fun W hW => drawNS_any a1 len1 cap1 W (H1.out.below hW)
          have CL : Hid (∀ W, Below w.heap.size w W → Calls Try.prog 46 #[.slice a1 len1 cap1] W fun e w' => (∃ s : ByteArray, e = .returned (.string s) ∧ s.size ≤ 400) ∧ Below W.heap.size W w') := fun W hW => drawLS_any a1 len1 cap1 W (H1.out.below hW)
          go_wp2_with fail
          go_at_call 44
          refine (CD.out _ HW11.out).mono ?_
          rintro e wa ⟨⟨ga, gn, gk, gs, gv, gP, rfl, hgs, hza⟩, hba⟩
          have HBa : Hid (Below w.heap.size w wa) := HW11.out.trans (hba.mono HW11.out.size)
          obtain ⟨av, cv, hgv⟩ := hza.slice
          subst hgv
          obtain ⟨Wb, hWb⟩ : ∃ W, W = wa.alloc (.cells #[.slice av gP.length cv] 37) := ⟨_, rfl⟩
          have hBb : Below wa.heap.size wa Wb := by rw [hWb]; exact (Below.refl _ wa).alloc (Nat.le_refl _) _
          have HBb : Hid (Below w.heap.size w Wb) := HBa.out.trans (hBb.mono HBa.out.size)
          have HZb : Hid (ZAt Wb Wb.heap.size (.slice av gP.length cv) gP) := ZAt.own (hza.below hBb)
          have yb : Wb.cell? ⟨wa.heap.size, 0, none⟩ = some (.slice av gP.length cv) := by rw [hWb]; go_simp
          have lb : wa.heap.size < Wb.heap.size := by rw [hWb]; simp
          have C1 : Hid (Calls Try.prog 33 #[.int .i64 ga, .int .i64 gn, .int .i64 gk, .string gs, .agg #[.slice av gP.length cv]] Wb fun e w' => e = .returned (.tuple #[.bool (cin ga gn gk gs gP).1, .bool (cin ga gn gk gs gP).2]) ∧ Below Wb.heap.size Wb w') := implCheckIn ga gn gk gs gP _ Wb (by omega) HZb.out
          have C2 : Hid (∀ W, Below Wb.heap.size Wb W → Calls Try.prog 31 #[.int .i64 ga, .int .i64 gn, .int .i64 gk, .string gs, .agg #[.slice av gP.length cv]] W fun e w' => e = .returned (.tuple #[.bool (cin ga gn gk gs gP).1, .bool (cin ga gn gk gs gP).2]) ∧ Below W.heap.size W w') := fun W hW => specCheckIn ga gn gk gs gP _ W (by unfold maxLen; omega) (HZb.out.below hW)
          generalize cin ga gn gk gs gP = RG at C1 C2
          obtain ⟨g1, g2⟩ := RG
          dsimp only at C1 C2
          have ng1 : (g1 == g1) = true := beq_self_eq_true g1
          have ng2 : (g2 == g2) = true := beq_self_eq_true g2
          clear hza hba hBb HBa
          go_upto_region 20 with fail
          rw [← hWb]
          clear hWb
          go_wp2_with fail
          go_at_call 33
          refine C1.out.mono ?_
          rintro e wc ⟨rfl, hbc⟩
          have HBc : Hid (Below Wb.heap.size Wb wc) := hbc
          have yc := (hbc.cell (p := ⟨wa.heap.size, 0, none⟩) lb).trans yb
          have lc : wa.heap.size < wc.heap.size := by have := hbc.size; omega
          clear hbc yb
          go_wp2_with fail
          go_at_call 31
          refine (C2.out _ HBc.out).mono ?_
          rintro e wd ⟨rfl, hbd⟩
          have HBd : Hid (Below w.heap.size w wd) := HBb.out.trans ((HBc.out.trans (hbd.mono HBc.out.size)).mono HBb.out.size)
          clear hbd yc C1 C2 HZb
          go_wp2_with fail
          go_at_call 45
          refine (CQ.out _ HBd.out).mono ?_
          rintro e we ⟨⟨x, y, rfl⟩, hbe⟩
          have HBe : Hid (Below w.heap.size w we) := HBd.out.trans (hbe.mono HBd.out.size)
          have S1 : Hid (∀ W, Calls Try.prog 18 #[.int .i64 x, .int .i64 y] W fun e w' => e = .returned (.tuple #[.int .i64 (nsum x y).1, .bool (nsum x y).2]) ∧ w' = W) := fun W => implNode x y W
          have S2 : Hid (∀ W, Calls Try.prog 17 #[.int .i64 x, .int .i64 y] W fun e w' => e = .returned (.tuple #[.int .i64 (nsum x y).1, .bool (nsum x y).2]) ∧ w' = W) := fun W => specNode x y W
          generalize nsum x y = RN at S1 S2
          obtain ⟨n1, n2⟩ := RN
          dsimp only at S1 S2
          have nn2 : (n2 == n2) = true := beq_self_eq_true n2
          clear hbe HBd CQ CD
          go_wp2_with fail
          go_at_call 18
          refine (S1.out _).mono ?_
          rintro e w' ⟨rfl, h9⟩
          have h9 := h9.symm
          subst h9
          go_wp2_with fail
          go_at_call 17
          refine (S2.out _).mono ?_
          rintro e w' ⟨rfl, h9⟩
          have h9 := h9.symm
          subst h9
          go_wp2_with fail
          go_at_call 46
          refine (CL.out _ HBe.out).mono ?_
          rintro e wf ⟨⟨ss, rfl, hss⟩, hbf⟩
          have hBf : Below w.heap.size w wf := HBe.out.trans (hbf.mono HBe.out.size)
          have L1 : Hid (∀ W, Calls Try.prog 16 #[.string ss] W fun e w' => e = .returned (.int .i64 ((leaf ss : Nat) : Int)) ∧ w' = W) := fun W => implLeaf ss W (by unfold maxLen; omega)
          have L2 : Hid (∀ W, Calls Try.prog 15 #[.string ss] W fun e w' => e = .returned (.int .i64 ((leaf ss : Nat) : Int)) ∧ w' = W) := fun W => specLeaf ss W (by unfold maxLen; omega)
          generalize leaf ss = lf at L1 L2
          clear hbf HBe CL S1 S2
          cases g1 <;> cases g2 <;> cases n2
          all_goals
            go_wp2_with fail
            go_at_call 16
            refine (L1.out _).mono ?_
            rintro e w' ⟨rfl, h9⟩
            have h9 := h9.symm
            subst h9
            go_wp2_with fail
            go_at_call 15
            refine (L2.out _).mono ?_
            rintro e w' ⟨rfl, h9⟩
            have h9 := h9.symm
            subst h9
            go_wp2
            go_ret
            exact ⟨rfl, hBf⟩
      · have h20' : ¬ (so.size : Int) ≤ 20 := by omega
        clear y9 l9 HCI HCV KC KX HB9
        have CD : Hid (∀ W, Below w.heap.size w W → Calls Try.prog 44 #[.slice a1 len1 cap1] W fun e w' => ODi W w' e) := fun W hW => drawCI_any a1 len1 cap1 W (H1.out.below hW)
        have CQ : Hid (∀ W, Below w.heap.size w W → Calls Try.prog 45 #[.slice a1 len1 cap1] W fun e w' => (∃ x y : Int, e = .returned (.tuple #[.int .i64 x, .int .i64 y])) ∧ Below W.heap.size W w') := fun W hW => drawNS_any a1 len1 cap1 W (H1.out.below hW)
        have CL : Hid (∀ W, Below w.heap.size w W → Calls Try.prog 46 #[.slice a1 len1 cap1] W fun e w' => (∃ s : ByteArray, e = .returned (.string s) ∧ s.size ≤ 400) ∧ Below W.heap.size W w') := fun W hW => drawLS_any a1 len1 cap1 W (H1.out.below hW)
        go_wp2_with fail
        go_at_call 44
        refine (CD.out _ HW9.out).mono ?_
        rintro e wa ⟨⟨ga, gn, gk, gs, gv, gP, rfl, hgs, hza⟩, hba⟩
        have HBa : Hid (Below w.heap.size w wa) := HW9.out.trans (hba.mono HW9.out.size)
        obtain ⟨av, cv, hgv⟩ := hza.slice
        subst hgv
        obtain ⟨Wb, hWb⟩ : ∃ W, W = wa.alloc (.cells #[.slice av gP.length cv] 37) := ⟨_, rfl⟩
        have hBb : Below wa.heap.size wa Wb := by rw [hWb]; exact (Below.refl _ wa).alloc (Nat.le_refl _) _
        have HBb : Hid (Below w.heap.size w Wb) := HBa.out.trans (hBb.mono HBa.out.size)
        have HZb : Hid (ZAt Wb Wb.heap.size (.slice av gP.length cv) gP) := ZAt.own (hza.below hBb)
        have yb : Wb.cell? ⟨wa.heap.size, 0, none⟩ = some (.slice av gP.length cv) := by rw [hWb]; go_simp
        have lb : wa.heap.size < Wb.heap.size := by rw [hWb]; simp
        have C1 : Hid (Calls Try.prog 33 #[.int .i64 ga, .int .i64 gn, .int .i64 gk, .string gs, .agg #[.slice av gP.length cv]] Wb fun e w' => e = .returned (.tuple #[.bool (cin ga gn gk gs gP).1, .bool (cin ga gn gk gs gP).2]) ∧ Below Wb.heap.size Wb w') := implCheckIn ga gn gk gs gP _ Wb (by omega) HZb.out
        have C2 : Hid (∀ W, Below Wb.heap.size Wb W → Calls Try.prog 31 #[.int .i64 ga, .int .i64 gn, .int .i64 gk, .string gs, .agg #[.slice av gP.length cv]] W fun e w' => e = .returned (.tuple #[.bool (cin ga gn gk gs gP).1, .bool (cin ga gn gk gs gP).2]) ∧ Below W.heap.size W w') := fun W hW => specCheckIn ga gn gk gs gP _ W (by unfold maxLen; omega) (HZb.out.below hW)
        generalize cin ga gn gk gs gP = RG at C1 C2
        obtain ⟨g1, g2⟩ := RG
        dsimp only at C1 C2
        have ng1 : (g1 == g1) = true := beq_self_eq_true g1
        have ng2 : (g2 == g2) = true := beq_self_eq_true g2
        clear hza hba hBb HBa
        go_upto_region 20 with fail
        rw [← hWb]
        clear hWb
        go_wp2_with fail
        go_at_call 33
        refine C1.out.mono ?_
        rintro e wc ⟨rfl, hbc⟩
        have HBc : Hid (Below Wb.heap.size Wb wc) := hbc
        have yc := (hbc.cell (p := ⟨wa.heap.size, 0, none⟩) lb).trans yb
        have lc : wa.heap.size < wc.heap.size := by have := hbc.size; omega
        clear hbc yb
        go_wp2_with fail
        go_at_call 31
        refine (C2.out _ HBc.out).mono ?_
        rintro e wd ⟨rfl, hbd⟩
        have HBd : Hid (Below w.heap.size w wd) := HBb.out.trans ((HBc.out.trans (hbd.mono HBc.out.size)).mono HBb.out.size)
        clear hbd yc C1 C2 HZb
        go_wp2_with fail
        go_at_call 45
        refine (CQ.out _ HBd.out).mono ?_
        rintro e we ⟨⟨x, y, rfl⟩, hbe⟩
        have HBe : Hid (Below w.heap.size w we) := HBd.out.trans (hbe.mono HBd.out.size)
        have S1 : Hid (∀ W, Calls Try.prog 18 #[.int .i64 x, .int .i64 y] W fun e w' => e = .returned (.tuple #[.int .i64 (nsum x y).1, .bool (nsum x y).2]) ∧ w' = W) := fun W => implNode x y W
        have S2 : Hid (∀ W, Calls Try.prog 17 #[.int .i64 x, .int .i64 y] W fun e w' => e = .returned (.tuple #[.int .i64 (nsum x y).1, .bool (nsum x y).2]) ∧ w' = W) := fun W => specNode x y W
        generalize nsum x y = RN at S1 S2
        obtain ⟨n1, n2⟩ := RN
        dsimp only at S1 S2
        have nn2 : (n2 == n2) = true := beq_self_eq_true n2
        clear hbe HBd CQ CD
        go_wp2_with fail
        go_at_call 18
        refine (S1.out _).mono ?_
        rintro e w' ⟨rfl, h9⟩
        have h9 := h9.symm
        subst h9
        go_wp2_with fail
        go_at_call 17
        refine (S2.out _).mono ?_
        rintro e w' ⟨rfl, h9⟩
        have h9 := h9.symm
        subst h9
        go_wp2_with fail
        go_at_call 46
        refine (CL.out _ HBe.out).mono ?_
        rintro e wf ⟨⟨ss, rfl, hss⟩, hbf⟩
        have hBf : Below w.heap.size w wf := HBe.out.trans (hbf.mono HBe.out.size)
        have L1 : Hid (∀ W, Calls Try.prog 16 #[.string ss] W fun e w' => e = .returned (.int .i64 ((leaf ss : Nat) : Int)) ∧ w' = W) := fun W => implLeaf ss W (by unfold maxLen; omega)
        have L2 : Hid (∀ W, Calls Try.prog 15 #[.string ss] W fun e w' => e = .returned (.int .i64 ((leaf ss : Nat) : Int)) ∧ w' = W) := fun W => specLeaf ss W (by unfold maxLen; omega)
        generalize leaf ss = lf at L1 L2
        clear hbf HBe CL S1 S2
        cases g1 <;> cases g2 <;> cases n2
        all_goals
          go_wp2_with fail
          go_at_call 16
          refine (L1.out _).mono ?_
          rintro e w' ⟨rfl, h9⟩
          have h9 := h9.symm
          subst h9
          go_wp2_with fail
          go_at_call 15
          refine (L2.out _).mono ?_
          rintro e w' ⟨rfl, h9⟩
          have h9 := h9.symm
          subst h9
          go_wp2
          go_ret
          exact ⟨rfl, hBf⟩

end Go.Proofs.Ytlglngmlaknmlaa
