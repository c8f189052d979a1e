/- The model's GoodQueue. -/
import Derived.Test.YtfkhbbmnjndmcaaQsF
namespace Go.Proofs.Ytfkhbbmnjndmcaa
open Go.RowKit Plain Qus

/-- the list k of a queue in memory -/
theorem QuAt.lk {w : World} {B : Nat} {q : Qu} {v1 v2 v3 : Value} (h : QuAt w B q v1 v2 v3) (k : Nat) : ZAt w B (if k = 0 then v1 else if k = 1 then v2 else v3) (Lk q k) := by
  unfold Lk
  by_cases h0 : k = 0
  · rw [if_pos h0, if_pos h0]; exact h.a
  · rw [if_neg h0, if_neg h0]
    by_cases h1 : k = 1
    · rw [if_pos h1, if_pos h1]; exact h.b
    · rw [if_neg h1, if_neg h1]; exact h.c

/-- what the walk keeps: the variable, the lists' block, the marks' row -/
structure GqI (w W : World) (q : Qu) (v1 v2 v3 : Value) (D S n : Nat) (M : List Int) : Prop where
  b : Below w.heap.size w W
  x : Sv W w.heap.size (.int .i64 q.cap) (.int .i64 q.rule) (.int .i64 q.next) v1 v2 v3
  d0 : W.cell? ⟨D, 0, none⟩ = some v1
  d1 : W.cell? ⟨D, 1, none⟩ = some v2
  d2 : W.cell? ⟨D, 2, none⟩ = some v3
  dl : w.heap.size < D
  dS : D ≠ S
  xS : w.heap.size < S
  r : W.ownsRow (w.heap.size + 1) 4 1 (.slice (some ⟨S, 0, none⟩) n n) n (bl M)
  l : M.length = n

theorem GqI.dk {w W : World} {q : Qu} {v1 v2 v3 : Value} {D S n : Nat} {M : List Int} (h : GqI w W q v1 v2 v3 D S n M) (k : Nat) (hk : k < 3) : W.cell? ⟨D, k, none⟩ = some (if k = 0 then v1 else if k = 1 then v2 else v3) := by
  rcases (show k = 0 ∨ k = 1 ∨ k = 2 by omega) with rfl | rfl | rfl
  · exact h.d0
  · exact h.d1
  · exact h.d2

theorem GqI.mark {w W : World} {q : Qu} {v1 v2 v3 : Value} {D S n : Nat} {M : List Int} (h : GqI w W q v1 v2 v3 D S n M) (i : Nat) (a : Int) (ha : a ≠ 0) : GqI w (W.setCell ⟨S, i, none⟩ (.bool true)) q v1 v2 v3 D S n (M.set i a) := by
  have hc : ∀ k, (W.setCell ⟨S, i, none⟩ (.bool true)).cell? ⟨D, k, none⟩ = W.cell? ⟨D, k, none⟩ := fun k => World.cell?_setCell_other _ _ _ _ (by simp; intro e; exact absurd e.symm h.dS)
  have hr := (World.ownsRow.stored h.r i (.bool true)).1
  rw [← bl_set M i a ha] at hr
  exact ⟨h.b.setCell (p := ⟨S, i, none⟩) (Nat.le_of_lt h.xS) _, h.x.apart (by have := h.xS; omega), (hc 0).trans h.d0, (hc 1).trans h.d1, (hc 2).trans h.d2, h.dl, h.dS, h.xS, hr, by rw [List.length_set]; exact h.l⟩

set_option maxRecDepth 100000 in
set_option maxHeartbeats 16000000 in
theorem specGoodQ_core (q : Qu) (n : Nat) (hnx : q.next = (n : Int)) (v1 v2 v3 : Value) (w : World) (h : QuAt w w.heap.size q v1 v2 v3) (hg1 : g1 q = true) (hsum : ((q.wt.length + q.hd.length + q.dr.length : Nat) : Int) = q.next) :
    Calls Try.prog 18 #[q.val v1 v2 v3] w fun e w' => e = .returned (.bool (gq q)) ∧ Below w.heap.size w w' := by
  obtain ⟨i0, hi, hz0, hz1, hz2⟩ := info_parts infoBoolQ
  obtain ⟨Mc, hMc⟩ : ∃ M, M = madeCells (Value.bool false).cells (((n : Nat) : Int).toNat * i0.size) := ⟨_, rfl⟩
  have hparts := hg1
  unfold g1 okR at hparts
  simp only [Bool.and_eq_true, decide_eq_true_eq] at hparts
  obtain ⟨⟨⟨hc1, hc2⟩, hr1, hr2⟩, ⟨hx1, hx2⟩, hwl⟩ := hparts
  have hn100 : n ≤ 100 := by omega
  have hmk : ∀ W : World, (Instr.makeSlice 37 (.int .i64 (n : Int)) (.int .i64 (n : Int))).run Try.prog W = .ok (.slice (some ⟨W.heap.size, 0, none⟩) n n) (W.alloc (.cells Mc 4)) := fun W => by
    have h := run_make (P := Try.prog) W 37 4 i0 (.bool false) Try.underlying37 hi hz0 .i64 .i64 (n : Int) (n : Int) (by omega) (by omega) (by rw [hz2]; omega) (by omega)
    rw [← hMc] at h
    simpa using h
  have hMz : Mc = madeCells #[Value.bool false] n := by rw [hMc, hz1]; simp [Value.cells]
  obtain ⟨W0, hW0⟩ : ∃ W, W = w.alloc (.cells #[.int .i64 q.cap, .int .i64 q.rule, .int .i64 (n : Int), v1, v2, v3] 24) := ⟨_, rfl⟩
  have hB0 : Below w.heap.size w W0 := by rw [hW0]; exact (Below.refl _ w).alloc (Nat.le_refl _) _
  have V1 : Sv W0 w.heap.size (.int .i64 q.cap) (.int .i64 q.rule) (.int .i64 (n : Int)) v1 v2 v3 := by rw [hW0]; exact Sv.fresh w _ _ _ _ _ _ _
  have hs0 : W0.heap.size = w.heap.size + 1 := by rw [hW0]; simp
  have C1 := l1In_any q.cap 1 10 W0
  have C2 := l1In_any q.rule 1 3 W0
  have C3 := l1In_any (n : Int) 0 100 W0
  rw [decide_eq_true ⟨hc1, hc2⟩] at C1
  rw [decide_eq_true ⟨hr1, hr2⟩] at C2
  rw [decide_eq_true (show (0 : Int) ≤ (n : Int) ∧ (n : Int) ≤ 100 by omega)] at C3
  have hlens : q.wt.length ≤ 100 ∧ q.hd.length ≤ 100 ∧ q.dr.length ≤ 100 := by omega
  have HLL : Hid (∀ k, (Lk q k).length ≤ 100) := fun k => by
    unfold Lk
    split
    · exact hlens.1
    · split
      · exact hlens.2.1
      · exact hlens.2.2
  have d4 : decide (q.cap < (q.wt.length : Int)) = false := by simp; omega
  have HAt : Hid (QuAt w w.heap.size q v1 v2 v3) := h
  obtain ⟨a1, k1, a2, k2, a3, k3, rfl, rfl, rfl⟩ := h.form
  have HST : Hid (GqI w ((W0.alloc (.cells Mc 4)).alloc (.cells #[.slice a1 q.wt.length k1, .slice a2 q.hd.length k2, .slice a3 q.dr.length k3] 22)) q (.slice a1 q.wt.length k1) (.slice a2 q.hd.length k2) (.slice a3 q.dr.length k3) (W0.heap.size + 1) W0.heap.size n (mk0 q)) := by
    have b1 : Below W0.heap.size W0 (W0.alloc (.cells Mc 4)) := (Below.refl _ W0).alloc (Nat.le_refl _) _
    have hsz1 : (W0.alloc (.cells Mc 4)).heap.size = W0.heap.size + 1 := by simp
    have b2 : Below W0.heap.size W0 ((W0.alloc (.cells Mc 4)).alloc (.cells #[.slice a1 q.wt.length k1, .slice a2 q.hd.length k2, .slice a3 q.dr.length k3] 22)) := b1.alloc (by omega) _
    have hml : (mk0 q).length = n := by unfold mk0; rw [hnx]; simp
    refine ⟨hB0.trans (b2.mono hB0.size), by rw [hnx]; exact V1.below b2, ?_, ?_, ?_, by omega, by omega, by omega, ?_, hml⟩
    · rw [← hsz1]; simp
    · rw [← hsz1]; simp
    · rw [← hsz1]; simp
    · have how : (W0.alloc (.cells Mc 4)).ownsRow (w.heap.size + 1) 4 1 (.slice (some ⟨W0.heap.size, 0, none⟩) n n) n (bl (mk0 q)) := by
        refine ⟨by unfold bl; simp [hml], .inr ⟨W0.heap.size, n, Mc, rfl, by omega, heap_alloc_new W0 _, Nat.le_refl _, by unfold maxLen; omega, by rw [hMz, size_madeCells]; omega, ?_⟩⟩
        rw [hMz, toList_madeCells_one]
        unfold bl mk0
        rw [hnx]
        simp
      exact World.ownsRow.alloc how _
  have HREST : Hid (∀ k M, k < 3 → rest q k M = match mkl ((k : Int) + 1) 0 (Lk q k) M with | none => none | some M1 => rest q (k + 1) M1) := fun k M hk => rest_step q k M hk
  have HM3 : Hid (mk3 q = rest q 0 (mk0 q)) := mk3_rest q
  have HYES : Hid (∀ M, mk3 q = some M → gq q = true) := fun M hm => gq_yes hg1 hm hsum (by omega)
  have HNO : Hid (mk3 q = none → gq q = false) := mk3_no
  unfold Qu.val
  rw [hnx]
  have HV0 : Hid (type_of% V1) := V1
  have y0 := V1.c0
  have y1 := V1.c1
  have y2 := V1.c2
  have y3 := V1.c3
  have y4 := V1.c4
  have y5 := V1.c5
  have hsumI : ((q.wt.length : Int) + (q.hd.length : Int) + (q.dr.length : Int) != (n : Int)) = false := by rw [bne_eq_false_iff_eq]; omega
  obtain ⟨m3, hm3⟩ : ∃ m, m = mk3 q := ⟨_, rfl⟩
  rw [← hm3] at HM3 HYES HNO
  have HNX : Hid (q.next = (n : Int)) := hnx
  have l1 := hlens.1
  have l2 := hlens.2.1
  have l3 := hlens.2.2
  clear hm3 h hlens V1 hB0 hMz hMc hg1 hsum hc1 hc2 hr1 hr2 hx1 hx2 hwl hs0 hnx
  go_enter Try.func18, Try.ntmps18
  go_upto_region 1 with fail
  rw [← hW0]
  clear hW0
  go_wp2_with fail
  go_at_call 44
  refine C1.mono ?_
  rintro e w1 ⟨rfl, hw⟩
  have hw := hw.symm
  subst hw
  clear C1
  go_wp2_with fail
  go_at_call 44
  refine C2.mono ?_
  rintro e w1 ⟨rfl, hw⟩
  have hw := hw.symm
  subst hw
  clear C2
  go_wp2_with fail
  go_at_call 44
  refine C3.mono ?_
  rintro e w1 ⟨rfl, hw⟩
  have hw := hw.symm
  subst hw
  clear C3
  obtain ⟨W1, hW1⟩ : ∃ W, W = W0.alloc (.cells Mc 4) := ⟨_, rfl⟩
  have hb1 : Below W0.heap.size W0 W1 := by rw [hW1]; exact (Below.refl _ W0).alloc (Nat.le_refl _) _
  have hsz1 : W1.heap.size = W0.heap.size + 1 := by rw [hW1]; simp
  have HV1 : Hid (type_of% (HV0.out.below hb1)) := HV0.out.below hb1
  obtain ⟨W2, hW2⟩ : ∃ W, W = W1.alloc (.cells #[.slice a1 q.wt.length k1, .slice a2 q.hd.length k2, .slice a3 q.dr.length k3] 22) := ⟨_, rfl⟩
  rw [← hW1, ← hW2] at HST
  go_upto_region 6 with fail
  rw [← hW1]
  clear y0 y1 y2 y3 y4 y5
  have y3 := HV1.out.c3
  have y4 := HV1.out.c4
  have y5 := HV1.out.c5
  clear hW1 hmk hb1
  go_upto_region 7 with fail
  rw [← hW2]
  clear hW2 y3 y4 y5 HV1
  obtain ⟨S, hS⟩ : ∃ S, S = W0.heap.size := ⟨_, rfl⟩
  rw [← hS] at HST ⊢
  clear hS hsz1
  go_loopw [57] (fun vi wr => ∃ (k : Nat) (M : List Int), k ≤ 3 ∧ vi = .int .i64 (k : Int) ∧ Hid (m3 = rest q k M) ∧ Hid (GqI w wr q (.slice a1 q.wt.length k1) (.slice a2 q.hd.length k2) (.slice a3 q.dr.length k3) (S + 1) S n M))
    (fun vi _ => 3 - (intOf vi).toNat)
  case atStart => exact ⟨0, mk0 q, by omega, rfl, HM3, HST⟩
  case round =>
    obtain ⟨k, M, hk, rfl, hm, HI0⟩ := hrel
    by_cases hlt : k < 3
    · have hltI : (k : Int) < 3 := by omega
      have hck := HI0.out.dk k hlt
      obtain ⟨ak, ck, hvk, hlck, hcck, hrowk⟩ := HAt.out.lk k
      rw [hvk] at hck
      have hLl := HLL.out k
      have HR1 : Hid (m3 = match mkl ((k : Int) + 1) 0 (Lk q k) M with | none => none | some M1 => rest q (k + 1) M1) := hm.out.trans (HREST.out k M hlt)
      generalize Lk q k = L at hvk hck hlck hrowk hLl HR1
      obtain ⟨ka, hka⟩ : ∃ a : Int, a = (k : Int) + 1 := ⟨_, rfl⟩
      rw [← hka] at HR1
      have hka0 : ka ≠ 0 := by omega
      have HROW : Hid (∀ i (x : Int), L[i]? = some x → ∃ g o, ak = some ⟨g, o, none⟩ ∧ g < w.heap.size ∧ w.cell? ⟨g, o + i, none⟩ = some (.int .i64 x)) := hrowk
      have hcck' : ck ≤ 9223372036854775807 := by unfold maxLen at hcck; omega
      clear hvk hrowk hka hm
      go_wp2
      obtain ⟨wo, rfl⟩ : ∃ W, W = wr := ⟨_, rfl⟩
      go_loopw [63] (fun vj wr => ∃ (j least : Nat) (M1 : List Int), j ≤ L.length ∧ vj = .int .i64 (j : Int) ∧ least ≤ n ∧ Hid ((j = 0 → least = 0) ∧ (0 < j → 1 ≤ least ∧ L[j - 1]? = some ((least : Int) - 1))) ∧ Hid (mkl ka 0 L M = mkl ka least (L.drop j) M1) ∧ Hid (GqI w wr q (.slice a1 q.wt.length k1) (.slice a2 q.hd.length k2) (.slice a3 q.dr.length k3) (S + 1) S n M1))
        (fun vj _ => L.length - (intOf vj).toNat)
      case atStart => exact ⟨0, 0, M, by omega, rfl, by omega, ⟨fun _ => rfl, fun h => by omega⟩, rfl, HI0⟩
      case round =>
        obtain ⟨j, least, M1, hj, rfl, hls, HLE, HO1, HI⟩ := hrel
        by_cases hltj : j < L.length
        · have hltjI : (j : Int) < (L.length : Int) := by omega
          obtain ⟨x, hx⟩ : ∃ x, L[j]? = some x := ⟨_, List.getElem?_eq_getElem hltj⟩
          obtain ⟨g, o, rfl, hg, c0⟩ := HROW.out j x hx
          have e1 := (HI.out.b.cell (p := ⟨g, o + j, none⟩) hg).trans c0
          have HO2 : Hid (mkl ka 0 L M = mkl ka least (x :: L.drop (j + 1)) M1) := by show _ = _; rw [← drop_at hx]; exact HO1.out
          have HFAIL : Hid ((x < (least : Int) ∨ (M1.length : Int) ≤ x ∨ M1.getD x.toNat 0 ≠ 0) → gq q = false) := fun h => HNO.out (by
            rw [HR1.out, HO2.out]
            have := (mkl_isNone (a := ka) (l := L.drop (j + 1)) h).1
            cases hh : mkl ka least (x :: L.drop (j + 1)) M1 with
            | none => rfl
            | some M9 => rw [hh] at this; cases this)
          have hM1 := HI.out.l
          have y2 := HI.out.x.c2
          rw [HNX.out] at y2
          clear c0 HO1
          by_cases x0 : x < 0
          · have d1 : decide (x < 0) = true := by simpa using x0
            have HF : Hid (gq q = false) := HFAIL.out (.inl (by omega))
            clear HFAIL x0 hx HO2
            go_wp2
            go_ret
            exact ⟨by rw [HF.out]; rfl, HI.out.b⟩
          · obtain ⟨m, rfl⟩ : ∃ m : Nat, x = (m : Int) := ⟨x.toNat, by omega⟩
            have d1 : ¬ ((m : Int) < 0) := by omega
            by_cases x1 : n ≤ m
            · have d2 : decide (n ≤ m) = true := by simpa using x1
              have HF : Hid (gq q = false) := HFAIL.out (.inr (.inl (by omega)))
              clear HFAIL x0 x1 hx HO2
              go_wp2
              go_ret
              exact ⟨by rw [HF.out]; rfl, HI.out.b⟩
            · have d2 : decide (n ≤ m) = false := by simpa using x1
              have hmn : m < n := by omega
              have hmnI : (m : Int) < (n : Int) := by omega
              have hcs := World.ownsRow.cellAt HI.out.r m (by omega)
              rw [bl_get (by omega)] at hcs
              have hfs := World.ownsRow.frozenAt HI.out.r m
              by_cases x2 : M1.getD m 0 = 0
              · have hb0 : (M1.getD m 0 != 0) = false := by rw [x2]; rfl
                rw [hb0] at hcs
                clear hb0
                rcases Nat.eq_zero_or_pos j with hj0 | hj0
                · have hl0 := HLE.out.1 hj0
                  obtain rfl : j = 0 := hj0
                  rw [Nat.add_zero] at e1
                  have HO3 : Hid (mkl ka 0 L M = mkl ka (m + 1) (L.drop (0 + 1)) (M1.set m ka)) := by
                    show _ = _
                    rw [HO2.out]
                    simp only [mkl]
                    rw [if_neg (by rw [Int.toNat_natCast]; omega), Int.toNat_natCast]
                  have HI2 : Hid (type_of% (HI.out.mark m ka hka0)) := HI.out.mark m ka hka0
                  have HNXT : Hid ((0 + 1 = 0 → m + 1 = 0) ∧ (0 < 0 + 1 → 1 ≤ m + 1 ∧ L[0 + 1 - 1]? = some (((m + 1 : Nat) : Int) - 1))) := ⟨fun h => by omega, fun _ => ⟨by omega, by rw [show 0 + 1 - 1 = 0 from rfl, hx]; congr 1; omega⟩⟩
                  clear HFAIL hx HO2 x2 x1 x0 HLE
                  generalize M1.set m ka = M2 at *
                  go_wp2
                  go_roundw
                  case rel => exact ⟨0 + 1, m + 1, M2, by omega, by go_num, by omega, HNXT, HO3, HI2⟩
                  case measure => simp [intOf]; omega
                · obtain ⟨hl1, hprev⟩ := HLE.out.2 hj0
                  obtain ⟨i, rfl⟩ : ∃ i, j = i + 1 := ⟨j - 1, by omega⟩
                  rw [Nat.add_sub_cancel] at hprev
                  obtain ⟨g', o', hao, hg', cp⟩ := HROW.out i _ hprev
                  simp only [Option.some.injEq, Addr.mk.injEq, and_true] at hao
                  obtain ⟨rfl, rfl⟩ := hao
                  have e2 := (HI.out.b.cell (p := ⟨g, o + i, none⟩) hg').trans cp
                  obtain ⟨pv, hpv⟩ : ∃ pv : Nat, least = pv + 1 := ⟨least - 1, by omega⟩
                  rw [show ((least : Int) - 1) = (pv : Int) by omega] at e2
                  have hiL : (i : Int) < (L.length : Int) := by omega
                  have hi100 : (i : Int) ≤ 100 := by omega
                  by_cases x3 : m < least
                  · have d3 : decide (m ≤ pv) = true := by simp; omega
                    have HF : Hid (gq q = false) := HFAIL.out (.inl (by omega))
                    clear HFAIL x0 x1 x2 x3 hx HO2 HLE hprev cp hg'
                    go_wp2
                    go_ret
                    exact ⟨by rw [HF.out]; rfl, HI.out.b⟩
                  · have d3 : decide (m ≤ pv) = false := by simp; omega
                    have HO3 : Hid (mkl ka 0 L M = mkl ka (m + 1) (L.drop (i + 1 + 1)) (M1.set m ka)) := by
                      show _ = _
                      rw [HO2.out]
                      simp only [mkl]
                      rw [if_neg (by rw [Int.toNat_natCast]; omega), Int.toNat_natCast]
                    have HI2 : Hid (type_of% (HI.out.mark m ka hka0)) := HI.out.mark m ka hka0
                    have HNXT : Hid ((i + 1 + 1 = 0 → m + 1 = 0) ∧ (0 < i + 1 + 1 → 1 ≤ m + 1 ∧ L[i + 1 + 1 - 1]? = some (((m + 1 : Nat) : Int) - 1))) := ⟨fun h => by omega, fun _ => ⟨by omega, by rw [Nat.add_sub_cancel, hx]; congr 1; omega⟩⟩
                    clear HFAIL hx HO2 x2 x1 x0 x3 HLE hprev cp hg'
                    generalize M1.set m ka = M2 at *
                    go_wp2
                    go_roundw
                    case rel => exact ⟨i + 1 + 1, m + 1, M2, by omega, by go_num, by omega, HNXT, HO3, HI2⟩
                    case measure => simp [intOf]; omega
              · have hb0 : (M1.getD m 0 != 0) = true := by simpa using x2
                rw [hb0] at hcs
                have HF : Hid (gq q = false) := HFAIL.out (.inr (.inr (by rw [Int.toNat_natCast]; exact x2)))
                clear HFAIL x0 x1 x2 hx HO2 hb0
                go_wp2
                go_ret
                exact ⟨by rw [HF.out]; rfl, HI.out.b⟩
        · have hke : j = L.length := by omega
          subst hke
          have hge : ¬ ((L.length : Int) < (L.length : Int)) := by omega
          have HR2 : Hid (m3 = rest q (k + 1) M1) := by
            show _ = _
            rw [HR1.out, HO1.out, List.drop_length]
            rfl
          clear HO1 HLE
          go_wp2
          go_roundw
          case rel => exact ⟨k + 1, M1, by omega, by go_num, HR2, HI⟩
          case measure => simp [intOf]; omega
    · have hke : k = 3 := by omega
      subst hke
      have HR2 : Hid (m3 = some M) := hm.out
      have HF : Hid (gq q = true) := HYES.out M HR2.out
      clear hm
      go_wp2
      go_ret
      exact ⟨by rw [HF.out]; rfl, HI0.out.b⟩

end Go.Proofs.Ytfkhbbmnjndmcaa
