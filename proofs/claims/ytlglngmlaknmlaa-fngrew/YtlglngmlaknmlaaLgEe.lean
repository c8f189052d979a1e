/- The law FnGrew, walked: for what is drawn from the bytes it answers true. -/
import Derived.Test.YtlglngmlaknmlaaLgEd
namespace Go.Proofs.Ytlglngmlaknmlaa
open Go.RowKit Plain Lgs Tpc

theorem lok_take {l : List ByteArray} (h : lok l = true) (k : Nat) : lok (l.take k) = true := by
  obtain ⟨h1, _⟩ := lok_parts h
  unfold lok at h ⊢
  rw [Bool.and_eq_true, List.all_eq_true] at h ⊢
  refine ⟨fun x hx => h.1 x (List.mem_of_mem_take hx), ?_⟩
  rw [decide_eq_true_eq, List.length_take]
  omega

/-- what CheckGrew tells of a proof that a log only grew -/
theorem cgr_law {l : List ByteArray} {K o : Nat} (hl : l.length ≤ 40) (hK : K < l.length) (ho : o < 1000003) : cgr (o : Int) ((K : Int) + 1) ((root l : Nat) : Int) (l.length : Int) (zl (groF 41 l (K + 1) true)) = (decide (o = root (l.take (K + 1))), true) := by
  have hlt := groF_lt 41 l (K + 1) true
  have hm : (zl (groF 41 l (K + 1) true)).map Int.toNat = groF 41 l (K + 1) true := by
    unfold zl
    rw [List.map_map]
    conv => rhs; rw [← List.map_id (groF 41 l (K + 1) true)]
    apply List.map_congr_left
    intro x _
    rfl
  have hlen : (groF 41 l (K + 1) true).length ≤ 20 := by
    have e := gro_rt l K 41 0 l.length (by omega) hK (Nat.le_refl _) (by omega) (by omega)
    rw [sub_all, Nat.sub_zero, decide_eq_true (rfl : 0 = 0)] at e
    rw [e, List.length_append, List.length_map]
    have h6 := rt_len (eld_fit K) 41 6 0 l.length (by omega) (by omega) hK (by omega) (by omega)
    split
    · simp; omega
    · simp; omega
  have hp : pok (zl (groF 41 l (K + 1) true)) = true := by
    unfold pok
    rw [Bool.and_eq_true, List.all_eq_true, decide_eq_true_eq, zl_len]
    refine ⟨fun x hx => ?_, hlen⟩
    unfold zl at hx
    obtain ⟨y, hy, rfl⟩ := List.mem_map.1 hx
    have := hlt y hy
    exact decide_eq_true (by show 0 ≤ (y : Int) ∧ (y : Int) ≤ 1000002; omega)
  have hr := root_lt l
  unfold cgr
  rw [if_pos ⟨by omega, by omega, by omega, by omega, hp⟩, Int.toNat_natCast, Int.toNat_natCast, show ((K : Int) + 1).toNat = K + 1 by omega, hm]
  obtain ⟨g1, g2⟩ := grew_law (o := o) (l := l) (m := K + 1) ho hl (by omega) (by omega)
  rw [if_pos g1]
  congr 1
  rw [Bool.eq_iff_iff, Bool.and_eq_true, decide_eq_true_eq, decide_eq_true_eq, decide_eq_true_eq, ← g2]
  constructor
  · rintro ⟨e1, e2⟩
    exact ⟨by omega, by omega⟩
  · rintro ⟨e1, e2⟩
    exact ⟨by omega, by omega⟩

set_option maxRecDepth 100000 in
set_option maxHeartbeats 8000000 in
theorem walkFnGrew (a0 : Option Addr) (len0 cap0 : Nat) (a1 : Option Addr) (len1 cap1 : Nat) (w : World) (h0 : len0 ≤ 1048576 → CodeAt w a0 len0) (h1 : len1 ≤ 1048576 → CodeAt w a1 len1) (y0 : len0 ≤ 140737488351232) (y1 : len1 ≤ 140737488351232) :
    Calls Try.prog 11 #[.slice a0 len0 cap0, .slice a1 len1 cap1] w fun e w' => e = .returned (.bool true) ∧ Below w.heap.size w w' := by
  by_cases hbig : 1048576 < len0 + len1
  · have hbig' : (1048576 : Int) < (len0 : Int) + (len1 : Int) := by omega
    clear h0 h1
    go_enter Try.func11, Try.ntmps11
    go_wp2
    go_ret
    exact ⟨rfl, Below.refl _ _⟩
  have hbig' : ¬ (1048576 : Int) < (len0 : Int) + (len1 : Int) := by omega
  have H0 : Hid (CodeAt w a0 len0) := h0 (by omega)
  have H1 : Hid (CodeAt w a1 len1) := h1 (by omega)
  have HL1 : Hid (len1 ≤ 1048576) := by show _ ≤ _; omega
  clear h0 h1 hbig
  go_enter Try.func11, Try.ntmps11
  go_wp2_with fail
  go_at_call 38
  refine (drawPG_any a0 len0 cap0 w H0.out).mono ?_
  rintro e w1 ⟨⟨l, v, k, rfl, hR1, hl41, hS⟩, hB1⟩
  have HB1 : Hid (Below w.heap.size w w1) := hB1
  have HA1 : Hid (StAt w1 w1.heap.size v l) := StAt.own hR1
  obtain ⟨av, cv, hv⟩ := hR1.slice
  subst hv
  have hcap : l.length ≤ cv ∧ cv ≤ 9223372036854775807 := by
    obtain ⟨_, _, h1, h2, h3, _⟩ := HA1.out
    simp only [Value.slice.injEq] at h1
    unfold maxLen at h3
    obtain ⟨_, _, rfl⟩ := h1
    exact ⟨h2, by omega⟩
  have HSz : Hid (∀ i, i < l.length → (lq l i).size ≤ 9223372036854775807) := fun i hi => by have := hS _ (lq_mem hi); omega
  have CI : Hid (Calls Try.prog 35 #[.slice av l.length cv, .int .i64 k] w1 fun e w' => OPr w1 w' e (pgr l k)) := implProveGrew l k _ w1 HA1.out HSz.out
  have CS : Hid (∀ W, Below w1.heap.size w1 W → Calls Try.prog 34 #[.slice av l.length cv, .int .i64 k] W fun e w' => OPr W w' e (pgr l k)) := fun W hW => specProveGrew l k _ W (HA1.out.below hW)
  have HPG : Hid ((pgr l k).2 = true → ∃ K : Nat, k = (K : Int) + 1 ∧ K < l.length ∧ l.length ≤ 40 ∧ lok l = true ∧ (pgr l k).1 = groF 41 l (K + 1) true) := fun h => by
    unfold pgr at h ⊢
    split at h
    · rename_i hc
      obtain ⟨K, hK⟩ : ∃ K : Nat, k = (K : Int) + 1 := ⟨(k - 1).toNat, by omega⟩
      subst hK
      refine ⟨K, rfl, by omega, (lok_parts hc.1).1, hc.1, ?_⟩
      rw [if_pos hc, show ((K : Int) + 1).toNat = K + 1 by omega]
    · cases h
  have HPL : Hid ((pgr l k).1.length ≤ 100) := by
    unfold pgr
    split
    · exact Nat.le_trans (groF_le 41 _ _ _) (by omega)
    · exact Nat.zero_le _
  obtain ⟨⟨P, ok⟩, hR⟩ : ∃ R, pgr l k = R := ⟨_, rfl⟩
  rw [hR] at CI CS HPG HPL
  dsimp only at HPG HPL
  clear hR hR1 hS H0 hB1
  go_wp2_with fail
  go_at_call 35
  refine CI.out.mono ?_
  rintro e w2 ⟨⟨u2, rfl, hz2⟩, hb2⟩
  dsimp only at hz2 ⊢
  obtain ⟨a2, c2, hu2⟩ := hz2.slice
  subst hu2
  obtain ⟨W3, hW3⟩ : ∃ W, W = w2.alloc (.cells #[.slice a2 (zl P).length c2] 37) := ⟨_, rfl⟩
  have hB3 : Below w2.heap.size w2 W3 := by rw [hW3]; exact (Below.refl _ w2).alloc (Nat.le_refl _) _
  have HB3 : Hid (Below w1.heap.size w1 W3) := hb2.trans (hB3.mono hb2.size)
  have HX3 : Hid (W3.cell? ⟨w2.heap.size, 0, none⟩ = some (.slice a2 (zl P).length c2) ∧ w2.heap.size < W3.heap.size ∧ ZAt W3 W3.heap.size (.slice a2 (zl P).length c2) (zl P)) := ⟨by rw [hW3]; go_simp, by rw [hW3]; simp, ZAt.own (hz2.below hB3)⟩
  have KX : Hid (∀ W, Below W3.heap.size W3 W → W.cell? ⟨w2.heap.size, 0, none⟩ = some (.slice a2 (zl P).length c2) ∧ w2.heap.size < W.heap.size ∧ ZAt W W.heap.size (.slice a2 (zl P).length c2) (zl P) ∧ Below w1.heap.size w1 W ∧ Below w.heap.size w W) := fun W hW => by
    have hb : Below w1.heap.size w1 W := HB3.out.trans (hW.mono HB3.out.size)
    exact ⟨(hW.cell (p := ⟨w2.heap.size, 0, none⟩) HX3.out.2.1).trans HX3.out.1, Nat.lt_of_lt_of_le HX3.out.2.1 hW.size, HX3.out.2.2.below hW, hb, HB1.out.trans (hb.mono HB1.out.size)⟩
  clear hz2 hb2 hB3 CI
  go_upto_region 5 with fail
  rw [← hW3]
  clear hW3
  go_wp2_with fail
  go_at_call 34
  refine (CS.out _ HB3.out).mono ?_
  rintro e w4 ⟨⟨u4, rfl, hz4⟩, hb4⟩
  dsimp only at hz4 ⊢
  obtain ⟨a4, c4, hu4⟩ := hz4.slice
  subst hu4
  obtain ⟨W5, hW5⟩ : ∃ W, W = w4.alloc (.cells #[.slice a4 (zl P).length c4] 37) := ⟨_, rfl⟩
  have hB5 : Below w4.heap.size w4 W5 := by rw [hW5]; exact (Below.refl _ w4).alloc (Nat.le_refl _) _
  have HB5 : Hid (Below W3.heap.size W3 W5) := hb4.trans (hB5.mono hb4.size)
  have y9 : W5.cell? ⟨w4.heap.size, 0, none⟩ = some (.slice a4 (zl P).length c4) := by rw [hW5]; go_simp
  have l9 : w4.heap.size < W5.heap.size := by rw [hW5]; simp
  have HZ5 : Hid (ZAt W5 W5.heap.size (.slice a4 (zl P).length c4) (zl P)) := ZAt.own (hz4.below hB5)
  have k5 := KX.out _ HB5.out
  have y7 := k5.1
  have l7 := k5.2.1
  have nok : (ok != ok) = false := bne_self_eq_false ok
  have CM : Hid (Calls Try.prog 39 #[.slice a2 (zl P).length c2, .slice a4 (zl P).length c4] W5 fun e w' => e = .returned (.bool true) ∧ Below W5.heap.size W5 w') := sameIntsL (zl P) _ _ W5 k5.2.2.1 HZ5.out (by rw [zl_len]; have := HPL.out; omega)
  clear hz4 hb4 hB5 CS k5
  go_upto_region 6 with fail
  rw [← hW5]
  clear hW5
  go_wp2_with fail
  go_at_call 39
  refine CM.out.mono ?_
  rintro e w6 ⟨rfl, hb6⟩
  have HB6 : Hid (Below W3.heap.size W3 w6) := HB5.out.trans (hb6.mono HB5.out.size)
  have HW6 : Hid (Below w.heap.size w w6) := (KX.out _ HB6.out).2.2.2.2
  clear hb6 HB5 y9 l9 HZ5 CM y7 l7
  cases ok with
  | false =>
    clear HPG KX HB6
    have CD : Hid (∀ W, Below w.heap.size w W → Calls Try.prog 41 #[.slice a1 len1 cap1] W fun e w' => ODr W w' e) := fun W hW => drawCG_any a1 len1 cap1 W (H1.out.below hW)
    have CQ : Hid (∀ W, Below w.heap.size w W → Calls Try.prog 42 #[.slice a1 len1 cap1] W fun e w' => (∃ x : Nat, e = .returned (.int .i64 (x : Int))) ∧ Below W.heap.size W w') := fun W hW => drawSp_any a1 len1 cap1 W (H1.out.below hW)
    go_wp2_with fail
    go_at_call 41
    refine (CD.out _ HW6.out).mono ?_
    rintro e wa ⟨⟨ga, gp, gb, gn, gv, gP, rfl, hza⟩, hba⟩
    have HBa : Hid (Below w.heap.size w wa) := HW6.out.trans (hba.mono HW6.out.size)
    obtain ⟨av, cv, hgv⟩ := hza.slice
    subst hgv
    obtain ⟨Wb, hWb⟩ : ∃ W, W = wa.alloc (.cells #[.slice av gP.length cv] 37) := ⟨_, rfl⟩
    have hBb : Below wa.heap.size wa Wb := by rw [hWb]; exact (Below.refl _ wa).alloc (Nat.le_refl _) _
    have HBb : Hid (Below w.heap.size w Wb) := HBa.out.trans (hBb.mono HBa.out.size)
    have HZb : Hid (ZAt Wb Wb.heap.size (.slice av gP.length cv) gP) := ZAt.own (hza.below hBb)
    have yb : Wb.cell? ⟨wa.heap.size, 0, none⟩ = some (.slice av gP.length cv) := by rw [hWb]; go_simp
    have lb : wa.heap.size < Wb.heap.size := by rw [hWb]; simp
    have C1 : Hid (Calls Try.prog 37 #[.int .i64 ga, .int .i64 gp, .int .i64 gb, .int .i64 gn, .agg #[.slice av gP.length cv]] Wb fun e w' => e = .returned (.tuple #[.bool (cgr ga gp gb gn gP).1, .bool (cgr ga gp gb gn gP).2]) ∧ Below Wb.heap.size Wb w') := implCheckGrew ga gp gb gn gP _ Wb HZb.out
    have C2 : Hid (∀ W, Below Wb.heap.size Wb W → Calls Try.prog 36 #[.int .i64 ga, .int .i64 gp, .int .i64 gb, .int .i64 gn, .agg #[.slice av gP.length cv]] W fun e w' => e = .returned (.tuple #[.bool (cgr ga gp gb gn gP).1, .bool (cgr ga gp gb gn gP).2]) ∧ Below W.heap.size W w') := fun W hW => specCheckGrew ga gp gb gn gP _ W (HZb.out.below hW)
    generalize cgr ga gp gb gn gP = RG at C1 C2
    obtain ⟨g1, g2⟩ := RG
    dsimp only at C1 C2
    have ng1 : (g1 != g1) = false := bne_self_eq_false g1
    have ng2 : (g2 != g2) = false := bne_self_eq_false g2
    clear hza hba hBb HBa
    go_upto_region 20 with fail
    rw [← hWb]
    clear hWb
    go_wp2_with fail
    go_at_call 37
    refine C1.out.mono ?_
    rintro e wc ⟨rfl, hbc⟩
    have HBc : Hid (Below Wb.heap.size Wb wc) := hbc
    have yc := (hbc.cell (p := ⟨wa.heap.size, 0, none⟩) lb).trans yb
    have lc : wa.heap.size < wc.heap.size := by have := hbc.size; omega
    clear hbc yb
    go_wp2_with fail
    go_at_call 36
    refine (C2.out _ HBc.out).mono ?_
    rintro e wd ⟨rfl, hbd⟩
    have HBd : Hid (Below w.heap.size w wd) := HBb.out.trans ((HBc.out.trans (hbd.mono HBc.out.size)).mono HBb.out.size)
    clear hbd yc C1 C2 HZb
    go_wp2_with fail
    go_at_call 42
    refine (CQ.out _ HBd.out).mono ?_
    rintro e we ⟨⟨x, rfl⟩, hbe⟩
    have hBe : Below w.heap.size w we := HBd.out.trans (hbe.mono HBd.out.size)
    have S1 : Hid (∀ W, Calls Try.prog 14 #[.int .i64 (x : Int)] W fun e w' => e = .returned (.tuple #[.int .i64 (if 2 ≤ (x : Int) ∧ (x : Int) ≤ 40 then ((spl (x : Int).toNat : Nat) : Int) else 0), .bool (decide (2 ≤ (x : Int) ∧ (x : Int) ≤ 40))]) ∧ w' = W) := fun W => implSplit (x : Int) W
    have S2 : Hid (∀ W, Calls Try.prog 13 #[.int .i64 (x : Int)] W fun e w' => e = .returned (.tuple #[.int .i64 (if 2 ≤ (x : Int) ∧ (x : Int) ≤ 40 then ((spl (x : Int).toNat : Nat) : Int) else 0), .bool (decide (2 ≤ (x : Int) ∧ (x : Int) ≤ 40))]) ∧ w' = W) := fun W => specSplit (x : Int) W
    have HSP : Hid ((decide (2 ≤ (x : Int) ∧ (x : Int) ≤ 40) = true → ∃ s : Nat, (if 2 ≤ (x : Int) ∧ (x : Int) ≤ 40 then ((spl (x : Int).toNat : Nat) : Int) else 0) = (s : Int) ∧ s < x ∧ x ≤ 2 * s ∧ x ≤ 40)) := fun h => by
      have h' := of_decide_eq_true h
      rw [if_pos h', Int.toNat_natCast]
      obtain ⟨_, s2, s3⟩ := spl_pos (n := x) (by omega) (by omega)
      exact ⟨_, rfl, s2, s3, by omega⟩
    generalize (if 2 ≤ (x : Int) ∧ (x : Int) ≤ 40 then ((spl (x : Int).toNat : Nat) : Int) else 0) = sr at S1 S2 HSP
    generalize decide (2 ≤ (x : Int) ∧ (x : Int) ≤ 40) = so at S1 S2 HSP
    clear hbe HBd CQ CD
    cases so with
    | false =>
      go_wp2_with fail
      go_at_call 14
      refine (S1.out _).mono ?_
      rintro e w' ⟨rfl, rfl⟩
      go_wp2_with fail
      go_at_call 13
      refine (S2.out _).mono ?_
      rintro e w' ⟨rfl, rfl⟩
      go_wp2
      go_ret
      exact ⟨rfl, hBe⟩
    | true =>
      obtain ⟨s, rfl, hs1, hs2, hs3⟩ := HSP.out rfl
      have hs1' : (s : Int) < (x : Int) := by omega
      have hs2' : (x : Int) ≤ 2 * (s : Int) := by omega
      go_wp2_with fail
      go_at_call 14
      refine (S1.out _).mono ?_
      rintro e w' ⟨rfl, rfl⟩
      go_wp2_with fail
      go_at_call 13
      refine (S2.out _).mono ?_
      rintro e w' ⟨rfl, rfl⟩
      go_wp2
      go_ret
      exact ⟨rfl, hBe⟩
  | true =>
    obtain ⟨K, rfl, hK, hl40, hlok, hPe⟩ := HPG.out rfl
    have HPe : Hid (P = groF 41 l (K + 1) true) := hPe
    have b1 : (0 : Int) ≤ (K : Int) + 1 := by omega
    have b2 : (K : Int) + 1 ≤ (cv : Int) := by omega
    have HRA : Hid (∀ W, Below w1.heap.size w1 W → Calls Try.prog 22 #[.slice av (K + 1) cv] W fun e w' => e = .returned (.tuple #[.int .i64 ((root (l.take (K + 1)) : Nat) : Int), .bool true]) ∧ ∃ m, w' = W.drewN m) := fun W hW => by
      have h := implRoot (l.take (K + 1)) (.slice av (K + 1) cv) W (StAt.take (HA1.out.below hW) (by omega)) (fun i hi => by
        rw [List.length_take] at hi
        have e : lq (l.take (K + 1)) i = lq l i := by
          unfold lq
          rw [List.getD_eq_getElem?_getD, List.getD_eq_getElem?_getD, List.getElem?_take, if_pos (by omega)]
        rw [e]
        exact HSz.out i (by omega))
      rw [lok_take hlok, if_pos rfl] at h
      exact h
    have HRB : Hid (∀ W, Below w1.heap.size w1 W → Calls Try.prog 22 #[.slice av l.length cv] W fun e w' => e = .returned (.tuple #[.int .i64 ((root l : Nat) : Int), .bool true]) ∧ ∃ m, w' = W.drewN m) := fun W hW => by
      have h := implRoot l _ W (HA1.out.below hW) HSz.out
      rw [hlok, if_pos rfl] at h
      exact h
    have HCG : Hid (∀ (o : Nat) (W : World), o < 1000003 → ZAt W W.heap.size (.slice a2 (zl P).length c2) (zl P) → Calls Try.prog 37 #[.int .i64 (o : Int), .int .i64 ((K : Int) + 1), .int .i64 ((root l : Nat) : Int), .int .i64 (l.length : Int), .agg #[.slice a2 (zl P).length c2]] W fun e w' => e = .returned (.tuple #[.bool (decide (o = root (l.take (K + 1)))), .bool true]) ∧ Below W.heap.size W w') := fun o W ho hz => by
      have h := implCheckGrew (o : Int) ((K : Int) + 1) ((root l : Nat) : Int) (l.length : Int) (zl P) (.slice a2 (zl P).length c2) W hz
      rw [hPe, cgr_law hl40 hK ho, ← hPe] at h
      exact h
    have hF1 : root (l.take (K + 1)) < 1000003 := root_lt _
    generalize root (l.take (K + 1)) = F1 at HRA HCG hF1
    generalize root l = RL at HRB HCG
    have HNU : Hid (∀ W, Below w.heap.size w W → Calls Try.prog 40 #[.slice a1 len1 cap1] W fun e w' => (∃ x : Nat, e = .returned (.int .i64 (x : Int)) ∧ x < 1000003) ∧ w' = W) := fun W hW => numberOf_any a1 len1 cap1 W (H1.out.below hW) HL1.out
    clear HPG hPe HPe hlok
    go_wp2_with fail
    go_at_call 22
    refine (HRA.out _ (KX.out _ HB6.out).2.2.2.1).mono ?_
    rintro e w7 ⟨rfl, m7, h7⟩
    have HB7 : Hid (Below W3.heap.size W3 w7) := by rw [h7]; exact below_drewT HB6.out
    clear h7 HB6
    go_wp2_with fail
    go_at_call 22
    refine (HRB.out _ (KX.out _ HB7.out).2.2.2.1).mono ?_
    rintro e w8 ⟨rfl, m8, h8⟩
    have HB8 : Hid (Below W3.heap.size W3 w8) := by rw [h8]; exact below_drewT HB7.out
    have k8 := KX.out _ HB8.out
    have y8 := k8.1
    have l8 := k8.2.1
    have C8 : Hid (Calls Try.prog 37 #[.int .i64 (F1 : Int), .int .i64 ((K : Int) + 1), .int .i64 (RL : Int), .int .i64 (l.length : Int), .agg #[.slice a2 (zl P).length c2]] w8 fun e w' => e = .returned (.tuple #[.bool true, .bool true]) ∧ Below w8.heap.size w8 w') := by
      have h := HCG.out F1 w8 hF1 k8.2.2.1
      rw [decide_eq_true rfl] at h
      exact h
    clear h8 HB7 k8
    go_wp2_with fail
    go_at_call 37
    refine C8.out.mono ?_
    rintro e w9 ⟨rfl, hb9⟩
    have HB9 : Hid (Below W3.heap.size W3 w9) := HB8.out.trans (hb9.mono HB8.out.size)
    clear hb9 HB8 C8 y8 l8
    go_wp2_with fail
    go_at_call 40
    refine (HNU.out _ (KX.out _ HB9.out).2.2.2.2).mono ?_
    rintro e w' ⟨⟨x, rfl, hx⟩, h9⟩
    have h9 := h9.symm
    subst h9
    have HW9 : Hid (Below w.heap.size w w9) := (KX.out _ HB9.out).2.2.2.2
    by_cases hxf : x = F1
    · subst hxf
      clear HCG HRA HRB HNU KX HB9
      have CD : Hid (∀ W, Below w.heap.size w W → Calls Try.prog 41 #[.slice a1 len1 cap1] W fun e w' => ODr W w' e) := fun W hW => drawCG_any a1 len1 cap1 W (H1.out.below hW)
      have CQ : Hid (∀ W, Below w.heap.size w W → Calls Try.prog 42 #[.slice a1 len1 cap1] W fun e w' => (∃ x : Nat, e = .returned (.int .i64 (x : Int))) ∧ Below W.heap.size W w') := fun W hW => drawSp_any a1 len1 cap1 W (H1.out.below hW)
      go_wp2_with fail
      go_at_call 41
      refine (CD.out _ HW9.out).mono ?_
      rintro e wa ⟨⟨ga, gp, gb, gn, gv, gP, rfl, hza⟩, hba⟩
      have HBa : Hid (Below w.heap.size w wa) := HW9.out.trans (hba.mono HW9.out.size)
      obtain ⟨av, cv, hgv⟩ := hza.slice
      subst hgv
      obtain ⟨Wb, hWb⟩ : ∃ W, W = wa.alloc (.cells #[.slice av gP.length cv] 37) := ⟨_, rfl⟩
      have hBb : Below wa.heap.size wa Wb := by rw [hWb]; exact (Below.refl _ wa).alloc (Nat.le_refl _) _
      have HBb : Hid (Below w.heap.size w Wb) := HBa.out.trans (hBb.mono HBa.out.size)
      have HZb : Hid (ZAt Wb Wb.heap.size (.slice av gP.length cv) gP) := ZAt.own (hza.below hBb)
      have yb : Wb.cell? ⟨wa.heap.size, 0, none⟩ = some (.slice av gP.length cv) := by rw [hWb]; go_simp
      have lb : wa.heap.size < Wb.heap.size := by rw [hWb]; simp
      have C1 : Hid (Calls Try.prog 37 #[.int .i64 ga, .int .i64 gp, .int .i64 gb, .int .i64 gn, .agg #[.slice av gP.length cv]] Wb fun e w' => e = .returned (.tuple #[.bool (cgr ga gp gb gn gP).1, .bool (cgr ga gp gb gn gP).2]) ∧ Below Wb.heap.size Wb w') := implCheckGrew ga gp gb gn gP _ Wb HZb.out
      have C2 : Hid (∀ W, Below Wb.heap.size Wb W → Calls Try.prog 36 #[.int .i64 ga, .int .i64 gp, .int .i64 gb, .int .i64 gn, .agg #[.slice av gP.length cv]] W fun e w' => e = .returned (.tuple #[.bool (cgr ga gp gb gn gP).1, .bool (cgr ga gp gb gn gP).2]) ∧ Below W.heap.size W w') := fun W hW => specCheckGrew ga gp gb gn gP _ W (HZb.out.below hW)
      generalize cgr ga gp gb gn gP = RG at C1 C2
      obtain ⟨g1, g2⟩ := RG
      dsimp only at C1 C2
      have ng1 : (g1 != g1) = false := bne_self_eq_false g1
      have ng2 : (g2 != g2) = false := bne_self_eq_false g2
      clear hza hba hBb HBa
      go_upto_region 20 with fail
      rw [← hWb]
      clear hWb
      go_wp2_with fail
      go_at_call 37
      refine C1.out.mono ?_
      rintro e wc ⟨rfl, hbc⟩
      have HBc : Hid (Below Wb.heap.size Wb wc) := hbc
      have yc := (hbc.cell (p := ⟨wa.heap.size, 0, none⟩) lb).trans yb
      have lc : wa.heap.size < wc.heap.size := by have := hbc.size; omega
      clear hbc yb
      go_wp2_with fail
      go_at_call 36
      refine (C2.out _ HBc.out).mono ?_
      rintro e wd ⟨rfl, hbd⟩
      have HBd : Hid (Below w.heap.size w wd) := HBb.out.trans ((HBc.out.trans (hbd.mono HBc.out.size)).mono HBb.out.size)
      clear hbd yc C1 C2 HZb
      go_wp2_with fail
      go_at_call 42
      refine (CQ.out _ HBd.out).mono ?_
      rintro e we ⟨⟨x, rfl⟩, hbe⟩
      have hBe : Below w.heap.size w we := HBd.out.trans (hbe.mono HBd.out.size)
      have S1 : Hid (∀ W, Calls Try.prog 14 #[.int .i64 (x : Int)] W fun e w' => e = .returned (.tuple #[.int .i64 (if 2 ≤ (x : Int) ∧ (x : Int) ≤ 40 then ((spl (x : Int).toNat : Nat) : Int) else 0), .bool (decide (2 ≤ (x : Int) ∧ (x : Int) ≤ 40))]) ∧ w' = W) := fun W => implSplit (x : Int) W
      have S2 : Hid (∀ W, Calls Try.prog 13 #[.int .i64 (x : Int)] W fun e w' => e = .returned (.tuple #[.int .i64 (if 2 ≤ (x : Int) ∧ (x : Int) ≤ 40 then ((spl (x : Int).toNat : Nat) : Int) else 0), .bool (decide (2 ≤ (x : Int) ∧ (x : Int) ≤ 40))]) ∧ w' = W) := fun W => specSplit (x : Int) W
      have HSP : Hid ((decide (2 ≤ (x : Int) ∧ (x : Int) ≤ 40) = true → ∃ s : Nat, (if 2 ≤ (x : Int) ∧ (x : Int) ≤ 40 then ((spl (x : Int).toNat : Nat) : Int) else 0) = (s : Int) ∧ s < x ∧ x ≤ 2 * s ∧ x ≤ 40)) := fun h => by
        have h' := of_decide_eq_true h
        rw [if_pos h', Int.toNat_natCast]
        obtain ⟨_, s2, s3⟩ := spl_pos (n := x) (by omega) (by omega)
        exact ⟨_, rfl, s2, s3, by omega⟩
      generalize (if 2 ≤ (x : Int) ∧ (x : Int) ≤ 40 then ((spl (x : Int).toNat : Nat) : Int) else 0) = sr at S1 S2 HSP
      generalize decide (2 ≤ (x : Int) ∧ (x : Int) ≤ 40) = so at S1 S2 HSP
      clear hbe HBd CQ CD
      cases so with
      | false =>
        go_wp2_with fail
        go_at_call 14
        refine (S1.out _).mono ?_
        rintro e w' ⟨rfl, rfl⟩
        go_wp2_with fail
        go_at_call 13
        refine (S2.out _).mono ?_
        rintro e w' ⟨rfl, rfl⟩
        go_wp2
        go_ret
        exact ⟨rfl, hBe⟩
      | true =>
        obtain ⟨s, rfl, hs1, hs2, hs3⟩ := HSP.out rfl
        have hs1' : (s : Int) < (x : Int) := by omega
        have hs2' : (x : Int) ≤ 2 * (s : Int) := by omega
        go_wp2_with fail
        go_at_call 14
        refine (S1.out _).mono ?_
        rintro e w' ⟨rfl, rfl⟩
        go_wp2_with fail
        go_at_call 13
        refine (S2.out _).mono ?_
        rintro e w' ⟨rfl, rfl⟩
        go_wp2
        go_ret
        exact ⟨rfl, hBe⟩
    · have hxf' : ¬ (x : Int) = (F1 : Int) := by omega
      have k9 := KX.out _ HB9.out
      have y9 := k9.1
      have l9 := k9.2.1
      have C9 : Hid (Calls Try.prog 37 #[.int .i64 (x : Int), .int .i64 ((K : Int) + 1), .int .i64 (RL : Int), .int .i64 (l.length : Int), .agg #[.slice a2 (zl P).length c2]] w9 fun e w' => e = .returned (.tuple #[.bool false, .bool true]) ∧ Below w9.heap.size w9 w') := by
        have h := HCG.out x w9 hx k9.2.2.1
        rw [decide_eq_false hxf] at h
        exact h
      clear k9
      go_wp2_with fail
      go_at_call 37
      refine C9.out.mono ?_
      rintro e w10 ⟨rfl, hb10⟩
      have HW10 : Hid (Below w.heap.size w w10) := HW9.out.trans (hb10.mono HW9.out.size)
      clear hb10 C9 y9 l9 HCG HRA HRB HNU KX HB9 HW9
      have CD : Hid (∀ W, Below w.heap.size w W → Calls Try.prog 41 #[.slice a1 len1 cap1] W fun e w' => ODr W w' e) := fun W hW => drawCG_any a1 len1 cap1 W (H1.out.below hW)
      have CQ : Hid (∀ W, Below w.heap.size w W → Calls Try.prog 42 #[.slice a1 len1 cap1] W fun e w' => (∃ x : Nat, e = .returned (.int .i64 (x : Int))) ∧ Below W.heap.size W w') := fun W hW => drawSp_any a1 len1 cap1 W (H1.out.below hW)
      go_wp2_with fail
      go_at_call 41
      refine (CD.out _ HW10.out).mono ?_
      rintro e wa ⟨⟨ga, gp, gb, gn, gv, gP, rfl, hza⟩, hba⟩
      have HBa : Hid (Below w.heap.size w wa) := HW10.out.trans (hba.mono HW10.out.size)
      obtain ⟨av, cv, hgv⟩ := hza.slice
      subst hgv
      obtain ⟨Wb, hWb⟩ : ∃ W, W = wa.alloc (.cells #[.slice av gP.length cv] 37) := ⟨_, rfl⟩
      have hBb : Below wa.heap.size wa Wb := by rw [hWb]; exact (Below.refl _ wa).alloc (Nat.le_refl _) _
      have HBb : Hid (Below w.heap.size w Wb) := HBa.out.trans (hBb.mono HBa.out.size)
      have HZb : Hid (ZAt Wb Wb.heap.size (.slice av gP.length cv) gP) := ZAt.own (hza.below hBb)
      have yb : Wb.cell? ⟨wa.heap.size, 0, none⟩ = some (.slice av gP.length cv) := by rw [hWb]; go_simp
      have lb : wa.heap.size < Wb.heap.size := by rw [hWb]; simp
      have C1 : Hid (Calls Try.prog 37 #[.int .i64 ga, .int .i64 gp, .int .i64 gb, .int .i64 gn, .agg #[.slice av gP.length cv]] Wb fun e w' => e = .returned (.tuple #[.bool (cgr ga gp gb gn gP).1, .bool (cgr ga gp gb gn gP).2]) ∧ Below Wb.heap.size Wb w') := implCheckGrew ga gp gb gn gP _ Wb HZb.out
      have C2 : Hid (∀ W, Below Wb.heap.size Wb W → Calls Try.prog 36 #[.int .i64 ga, .int .i64 gp, .int .i64 gb, .int .i64 gn, .agg #[.slice av gP.length cv]] W fun e w' => e = .returned (.tuple #[.bool (cgr ga gp gb gn gP).1, .bool (cgr ga gp gb gn gP).2]) ∧ Below W.heap.size W w') := fun W hW => specCheckGrew ga gp gb gn gP _ W (HZb.out.below hW)
      generalize cgr ga gp gb gn gP = RG at C1 C2
      obtain ⟨g1, g2⟩ := RG
      dsimp only at C1 C2
      have ng1 : (g1 != g1) = false := bne_self_eq_false g1
      have ng2 : (g2 != g2) = false := bne_self_eq_false g2
      clear hza hba hBb HBa
      go_upto_region 20 with fail
      rw [← hWb]
      clear hWb
      go_wp2_with fail
      go_at_call 37
      refine C1.out.mono ?_
      rintro e wc ⟨rfl, hbc⟩
      have HBc : Hid (Below Wb.heap.size Wb wc) := hbc
      have yc := (hbc.cell (p := ⟨wa.heap.size, 0, none⟩) lb).trans yb
      have lc : wa.heap.size < wc.heap.size := by have := hbc.size; omega
      clear hbc yb
      go_wp2_with fail
      go_at_call 36
      refine (C2.out _ HBc.out).mono ?_
      rintro e wd ⟨rfl, hbd⟩
      have HBd : Hid (Below w.heap.size w wd) := HBb.out.trans ((HBc.out.trans (hbd.mono HBc.out.size)).mono HBb.out.size)
      clear hbd yc C1 C2 HZb
      go_wp2_with fail
      go_at_call 42
      refine (CQ.out _ HBd.out).mono ?_
      rintro e we ⟨⟨x, rfl⟩, hbe⟩
      have hBe : Below w.heap.size w we := HBd.out.trans (hbe.mono HBd.out.size)
      have S1 : Hid (∀ W, Calls Try.prog 14 #[.int .i64 (x : Int)] W fun e w' => e = .returned (.tuple #[.int .i64 (if 2 ≤ (x : Int) ∧ (x : Int) ≤ 40 then ((spl (x : Int).toNat : Nat) : Int) else 0), .bool (decide (2 ≤ (x : Int) ∧ (x : Int) ≤ 40))]) ∧ w' = W) := fun W => implSplit (x : Int) W
      have S2 : Hid (∀ W, Calls Try.prog 13 #[.int .i64 (x : Int)] W fun e w' => e = .returned (.tuple #[.int .i64 (if 2 ≤ (x : Int) ∧ (x : Int) ≤ 40 then ((spl (x : Int).toNat : Nat) : Int) else 0), .bool (decide (2 ≤ (x : Int) ∧ (x : Int) ≤ 40))]) ∧ w' = W) := fun W => specSplit (x : Int) W
      have HSP : Hid ((decide (2 ≤ (x : Int) ∧ (x : Int) ≤ 40) = true → ∃ s : Nat, (if 2 ≤ (x : Int) ∧ (x : Int) ≤ 40 then ((spl (x : Int).toNat : Nat) : Int) else 0) = (s : Int) ∧ s < x ∧ x ≤ 2 * s ∧ x ≤ 40)) := fun h => by
        have h' := of_decide_eq_true h
        rw [if_pos h', Int.toNat_natCast]
        obtain ⟨_, s2, s3⟩ := spl_pos (n := x) (by omega) (by omega)
        exact ⟨_, rfl, s2, s3, by omega⟩
      generalize (if 2 ≤ (x : Int) ∧ (x : Int) ≤ 40 then ((spl (x : Int).toNat : Nat) : Int) else 0) = sr at S1 S2 HSP
      generalize decide (2 ≤ (x : Int) ∧ (x : Int) ≤ 40) = so at S1 S2 HSP
      clear hbe HBd CQ CD
      cases so with
      | false =>
        go_wp2_with fail
        go_at_call 14
        refine (S1.out _).mono ?_
        rintro e w' ⟨rfl, rfl⟩
        go_wp2_with fail
        go_at_call 13
        refine (S2.out _).mono ?_
        rintro e w' ⟨rfl, rfl⟩
        go_wp2
        go_ret
        exact ⟨rfl, hBe⟩
      | true =>
        obtain ⟨s, rfl, hs1, hs2, hs3⟩ := HSP.out rfl
        have hs1' : (s : Int) < (x : Int) := by omega
        have hs2' : (x : Int) ≤ 2 * (s : Int) := by omega
        go_wp2_with fail
        go_at_call 14
        refine (S1.out _).mono ?_
        rintro e w' ⟨rfl, rfl⟩
        go_wp2_with fail
        go_at_call 13
        refine (S2.out _).mono ?_
        rintro e w' ⟨rfl, rfl⟩
        go_wp2
        go_ret
        exact ⟨rfl, hBe⟩

end Go.Proofs.Ytlglngmlaknmlaa
