/- The model's l12Least and LeastOf. The model's LeastOf. -/
import Derived.Test.YtecgjhnihagleaaMcEe
import Derived.Test.YtecgjhnihagleaaXj
import Derived.Test.YtecgjhnihagleaaMcH
namespace Go.Proofs.Ytecgjhnihagleaa
open Go.RowKit Plain Mch Tpc

theorem nri_take {A B : List (List Int)} {j k : Nat} (hk : k < 3) : (nri A B j).take (k + 1) = (nri A B j).take k ++ [((ix (prs A B) (nt A (pq (prs A B) j).a k) (nt B (pq (prs A B) j).b k) : Nat) : Int)] := by
  rw [List.take_add_one, nri_at A B j hk]
  rfl

theorem nt_mgc {M : List (List Int)} {E : List Bool} {x k : Nat} (hx : x < E.length) (hk : k < 3) : nt (mgc M E) x k = cx (cls M E) (nt M x k) := nt_mg (by rw [cls_len]; exact hx) hk

set_option maxRecDepth 100000 in
set_option maxHeartbeats 16000000 in
theorem l12Least_any (M : List (List Int)) (E : List Bool) (v e : Value) (w : World) (hM : MAt w w.heap.size v M) (hE : EAt w w.heap.size e E) (hg : gm M E = true) :
    Calls Try.prog 48 #[.agg #[v, e]] w fun x w' => (∃ r q, x = .returned (.agg #[r, q]) ∧ ∃ us, MaOwn w' w.heap.size r q (NR (mgc M E) (mgc M E) (prs (mgc M E) (mgc M E)).length) ((prs (mgc M E) (mgc M E)).map (ben E E)) us) ∧ Below w.heap.size w w' := by
  obtain ⟨i0, hi, hz0, hz1, hz2⟩ := info_parts Try.infoInt
  obtain ⟨s0, hs, sz0, sz1, sz2⟩ := info_parts Try.infoZs
  obtain ⟨j0, hj, jz0, jz1, jz2⟩ := info_parts Try.infoBo
  have rc := fun (tmps : Array Value) (P : Program) (w : World) => results_cellM (fn := Try.f48) (p := 2) (ty := 30) rfl tmps P w
  have HM : Hid (MAt w w.heap.size v M) := hM
  have HE : Hid (EAt w w.heap.size e E) := hE
  have HG : Hid (gm M E = true) := hg
  have HLE : Hid (E.length = M.length) := (gm_iff.1 hg).1.2.2
  have HM1 : Hid (1 ≤ M.length) := (gm_iff.1 hg).1.1
  have HGC : Hid (gm (mgc M E) E = true) := gm_mgc hg
  have HNT : Hid (∀ x k, x < M.length → k < 3 → nt (mgc M E) x k = cx (cls M E) (nt M x k)) := fun x k hx hk => nt_mgc (by rw [HLE.out]; exact hx) hk
  have HCN : Hid ((mgc M E).length = M.length) := mgc_len.trans HLE.out
  have HC0 : Hid (cx (cls M E) 0 = 0) := Nat.le_zero.1 ((cls_cf M E).le 0 (by rw [cls_len, HLE.out]; exact HM1.out))
  have HCL : Hid ((cls M E).length = M.length) := (cls_len M E).trans HLE.out
  have h12 : M.length ≤ 12 := (gm_iff.1 hg).1.2.1
  obtain ⟨aM, cM, rfl, hm1, hm2, _⟩ := hM
  obtain ⟨aE, cE, rfl, he1, he2, _⟩ := hE
  unfold maxLen at hm2 he2
  have CC : Hid (∀ W, Below w.heap.size w W → Calls Try.prog 40 #[.agg #[.slice aM M.length cM, .slice aE E.length cE]] W fun e w' => (∃ r, e = .returned (.tuple #[r, .int .i64 ((cln M E : Nat) : Int)]) ∧ ZRow w' W.heap.size r (zn (cls M E))) ∧ Below W.heap.size W w') := fun W hW => l12Classes_any M E _ _ W (HM.out.below hW) (HE.out.below hW) HG.out
  obtain ⟨C, hC⟩ : ∃ C, C = mgc M E := ⟨_, rfl⟩
  rw [← hC] at HGC HNT HCN ⊢
  obtain ⟨c, hc⟩ : ∃ c, c = cls M E := ⟨_, rfl⟩
  rw [← hc] at CC HNT HC0 HCL
  generalize cln M E = cnum at CC
  clear hC hc hg
  obtain ⟨W1, hW1⟩ : ∃ W, W = (w.alloc (.cells #[.slice aM M.length cM, .slice aE E.length cE] 30)).alloc (.cells #[.slice none 0 0, .slice none 0 0] 30) := ⟨_, rfl⟩
  have hB1 : Below w.heap.size w W1 := by rw [hW1]; exact ((Below.refl _ w).alloc (Nat.le_refl _) _).alloc (by simp) _
  have HS1 : Hid (W1.heap.size = w.heap.size + 2) := by show _ = _; rw [hW1]; simp
  have q0 : W1.cell? ⟨w.heap.size, 0, none⟩ = some (.slice aM M.length cM) := by rw [hW1]; go_simp
  have q1 : W1.cell? ⟨w.heap.size, 1, none⟩ = some (.slice aE E.length cE) := by rw [hW1]; go_simp
  have P1 : Hid (W1.cell? ⟨w.heap.size + 1, 0, none⟩ = some (.slice none 0 0) ∧ W1.cell? ⟨w.heap.size + 1, 1, none⟩ = some (.slice none 0 0) ∧ W1.frozen? ⟨w.heap.size + 1, 0, none⟩ = false ∧ W1.frozen? ⟨w.heap.size + 1, 1, none⟩ = false) := by refine ⟨?_, ?_, ?_, ?_⟩ <;> rw [hW1] <;> go_simp
  have Q1 : Hid (W1.cell? ⟨w.heap.size, 0, none⟩ = some (.slice aM M.length cM) ∧ W1.cell? ⟨w.heap.size, 1, none⟩ = some (.slice aE E.length cE)) := ⟨q0, q1⟩
  have hl0 : w.heap.size < W1.heap.size := by rw [HS1.out]; omega
  go_enter Try.func48, Try.ntmps48
  go_wp2_with fail
  rw [← hW1]
  clear hW1
  refine (CC.out _ hB1).mono ?_
  rintro x w2 ⟨⟨r2, rfl, ho2⟩, hb2⟩
  have hB2 : Below w.heap.size w w2 := hB1.trans (hb2.mono hB1.size)
  have hs2 : w.heap.size + 2 ≤ w2.heap.size := by have := hb2.size; have := HS1.out; omega
  have P2 : Hid (w2.cell? ⟨w.heap.size + 1, 0, none⟩ = some (.slice none 0 0) ∧ w2.cell? ⟨w.heap.size + 1, 1, none⟩ = some (.slice none 0 0) ∧ w2.frozen? ⟨w.heap.size + 1, 0, none⟩ = false ∧ w2.frozen? ⟨w.heap.size + 1, 1, none⟩ = false) := by
    have hl : w.heap.size + 1 < W1.heap.size := by rw [HS1.out]; omega
    exact ⟨(hb2.cell (p := ⟨w.heap.size + 1, 0, none⟩) hl).trans P1.out.1, (hb2.cell (p := ⟨w.heap.size + 1, 1, none⟩) hl).trans P1.out.2.1, (hb2.frozen (p := ⟨w.heap.size + 1, 0, none⟩) hl).trans P1.out.2.2.1, (hb2.frozen (p := ⟨w.heap.size + 1, 1, none⟩) hl).trans P1.out.2.2.2⟩
  have Q2 : Hid (w2.cell? ⟨w.heap.size, 0, none⟩ = some (.slice aM M.length cM) ∧ w2.cell? ⟨w.heap.size, 1, none⟩ = some (.slice aE E.length cE)) := ⟨(hb2.cell (p := ⟨w.heap.size, 0, none⟩) hl0).trans Q1.out.1, (hb2.cell (p := ⟨w.heap.size, 1, none⟩) hl0).trans Q1.out.2⟩
  obtain ⟨ac, cc, hvc⟩ := ZRow.slice ho2
  subst hvc
  rw [zn_len, HCL.out] at ho2 ⊢
  obtain ⟨gc, oc, hac, hgc, _⟩ := (ZAt.own ho2).cx (i := 0) (by rw [HCL.out]; exact HM1.out)
  subst hac
  have HVC : Hid (∀ W, Below w2.heap.size w2 W → ∀ y, y < M.length → W.cell? ⟨gc, oc + y, none⟩ = some (.int .i64 ((cx c y : Nat) : Int))) := fun W hW y hy => by
    obtain ⟨g', o', e1, e2, e3⟩ := (ZAt.own ho2).cx (i := y) (by rw [HCL.out]; exact hy)
    simp only [Option.some.injEq, Addr.mk.injEq] at e1
    obtain ⟨rfl, rfl, _⟩ := e1
    exact (hW.cell (p := ⟨gc, oc + y, none⟩) e2).trans e3
  have HGCL : Hid (gc < w2.heap.size) := hgc
  have hcc : cc ≤ maxLen := by
    obtain ⟨_, _, hv, _, h, _⟩ := ZAt.own ho2
    simp only [Value.slice.injEq] at hv
    obtain ⟨_, _, rfl⟩ := hv
    exact h
  have ccell0 := HVC.out w2 (Below.refl _ _) 0 HM1.out
  rw [HC0.out, Nat.add_zero] at ccell0
  have hM1' : (0 : Int) < (M.length : Int) := by have := HM1.out; omega
  obtain ⟨W3, hW3⟩ : ∃ W, W = w2.alloc (.cells #[.int .i64 0] 3) := ⟨_, rfl⟩
  have hb3 : Below w2.heap.size w2 W3 := by rw [hW3]; exact (Below.refl _ w2).alloc (Nat.le_refl _) _
  have HS3 : Hid (W3.heap.size = w2.heap.size + 1) := by show _ = _; rw [hW3]; simp
  have HZ3 : Hid (ZRow W3 w2.heap.size (.slice (some ⟨w2.heap.size, 0, none⟩) 1 1) (zn (sts [⟨0, 0, ByteArray.empty⟩]))) := by
    refine ⟨rfl, .inr ⟨w2.heap.size, 1, #[.int .i64 0], rfl, Nat.le_refl _, ?_, Nat.le_refl _, by unfold maxLen; omega, rfl, rfl⟩⟩
    rw [hW3]
    exact heap_alloc_new w2 _
  obtain ⟨W4, hW4⟩ : ∃ W, W = W3.alloc (.cells #[.slice none 0 0, .slice none 0 0] 30) := ⟨_, rfl⟩
  have hb34 : Below W3.heap.size W3 W4 := by rw [hW4]; exact (Below.refl _ W3).alloc (Nat.le_refl _) _
  have hb4 : Below w2.heap.size w2 W4 := hb3.trans (hb34.mono hb3.size)
  have HT4 : Hid (LSt W4 w2.heap.size (w2.heap.size + 1) (.slice (some ⟨w2.heap.size, 0, none⟩) 1 1) (.slice none 0 0) (.slice none 0 0) (zn (sts [⟨0, 0, ByteArray.empty⟩])) (NR C C 0) (((prs C C).map (ben E E)).take 0) []) := by
    have e3 := HS3.out
    refine ⟨⟨by rw [hW4, World.size_alloc, e3]; omega, ?_, ?_, ?_, ?_, MaOwn.nil _ _⟩, ZRow.below HZ3.out hb34, by omega, by simp [Value.ownBlock], fun g hg => ⟨by simp [Value.ownBlock], by simp [Value.ownBlock], fun u hu => by simp at hu⟩⟩
    · rw [hW4, ← e3]; go_simp
    · rw [hW4, ← e3]; go_simp
    · rw [hW4, ← e3]; go_simp
    · rw [hW4, ← e3]; go_simp
  clear hb2 ho2 CC q0 q1 hl0
  go_upto_region 3 with fail
  rw [← hW3]
  clear hW3 ccell0
  have hs3 : W3.heap.size = w2.heap.size + 1 := HS3.out
  go_upto_region 4 with fail
  rw [← hW4]
  clear hW4 hs3 hb3 hb34 HZ3
  go_wp2
  go_loopw [5, 7] (fun vo vi wr => ∃ (i : Nat) (l : List Pq) (tv te : Value) (us : List Value), vi = .int .i64 (i : Int) ∧ Hid (At C C i l) ∧ Hid (Dia l) ∧ Hid (LSt wr w2.heap.size (w2.heap.size + 1) vo tv te (zn (sts l)) (NR C C i) (((prs C C).map (ben E E)).take i) us) ∧ Hid (Below w2.heap.size w2 wr))
    (fun _ vi _ => 145 - (intOf vi).toNat)
  case atStart => exact ⟨0, _, _, _, _, rfl, At.start HGC.out HGC.out, dia_one, HT4, hb4⟩
  case round =>
    obtain ⟨i, l, tv, te, us, rfl, hAt, hDi, hL, hbw⟩ := hrel
    clear HT4 hb4
    have hl144 : l.length ≤ 144 := hAt.out.met.le HGC.out HGC.out
    have hil : i ≤ l.length := hAt.out.le
    have hBr : Below w.heap.size w wr := hB2.trans (hbw.out.mono hB2.size)
    have hszr : w2.heap.size + 1 < wr.heap.size := hL.out.ts.lb
    obtain ⟨av, cv, hvo⟩ := ZRow.slice hL.out.or
    subst hvo
    obtain ⟨Z, hZ⟩ : ∃ Z, Z = zn (sts l) := ⟨_, rfl⟩
    have HZ : Hid (Z = zn (sts l)) := hZ
    have HZL : Hid (Z.length = l.length) := by show _ = _; rw [hZ, zn_len, sts_len]
    rw [← hZ] at hL
    rw [← hZ]
    clear hZ
    have q0 := (hbw.out.cell (p := ⟨w.heap.size, 0, none⟩) (by show w.heap.size < _; omega)).trans Q2.out.1
    have hzw : w.heap.size < wr.heap.size := by omega
    by_cases hlt : i < l.length
    · have hlt' : (i : Int) < (Z.length : Int) := by have := HZL.out; omega
      obtain ⟨p, hp⟩ : ∃ p, pq l i = p := ⟨_, rfl⟩
      have HPP : Hid (pq l i = p) := hp
      have hpa : p.a < M.length := by rw [← hp, ← HCN.out]; exact (hAt.out.met.lo i hlt).1
      have hpb : p.b = p.a := by rw [← hp]; exact hDi.out i hlt
      have HPB : Hid (p.b = p.a) := hpb
      have hZi : Z[i]? = some (p.a : Int) := by
        rw [HZ.out, ← hp]
        unfold zn
        rw [List.getElem?_map, sts_at hlt]
        rfl
      have HPR : Hid (pq (prs C C) i = p ∧ i < (prs C C).length) := by
        obtain ⟨m, em⟩ := hAt.out.ahead
        show _ ∧ _
        rw [em, pq_left hlt, hp, List.length_append]
        exact ⟨rfl, by omega⟩
      clear hp hpb
      obtain ⟨a2, c2, hv2, _, _, hzr⟩ := ZAt.own hL.out.or
      simp only [Value.slice.injEq, true_and] at hv2
      obtain ⟨rfl, rfl⟩ := hv2
      obtain ⟨gz, oz, haz, hgz, hcz⟩ := hzr i _ hZi
      subst haz
      obtain ⟨gA, oA, gu, ou, cu, hA1, hA2, hA3, hA4, hA5⟩ := (HM.out.below hBr).row HG.out hpa
      subst hA1
      obtain ⟨_, _, gu2, ou2, cu2, hA1', hgw, hcw, hguw, hcuw⟩ := HM.out.row HG.out hpa
      simp at hA1'
      obtain ⟨rfl, rfl⟩ := hA1'
      have heq := (hBr.cell (p := ⟨gA, oA + p.a, none⟩) hgw).trans hcw
      rw [hA3] at heq
      simp at heq
      obtain ⟨⟨rfl, rfl⟩, rfl⟩ := heq
      have HROW : Hid (∀ W, Below w.heap.size w W → ∀ k, k < 3 → W.cell? ⟨gu, ou + k, none⟩ = some (.int .i64 ((nt M p.a k : Nat) : Int))) := fun W hW k hk => (hW.cell (p := ⟨gu, ou + k, none⟩) hguw).trans (hcuw k hk)
      have HNX : Hid (∀ k, k < 3 → nt M p.a k < M.length) := fun k hk => (gm_next HG.out hpa hk).2.1
      have hpaM : (p.a : Int) < (M.length : Int) := by omega
      obtain ⟨gE, oE, hvE, hgE, cEo⟩ := HE.out.to (i := p.a) (by rw [HLE.out]; exact hpa)
      subst hvE
      have HEC : Hid (∀ W, Below w.heap.size w W → W.cell? ⟨gE, oE + p.a, none⟩ = some (.bool (en E p.a))) := fun W hW => (hW.cell (p := ⟨gE, oE + p.a, none⟩) hgE).trans cEo
      clear hzr hZi hA5 hcuw hcw hgw cEo
      go_upto_region 8 with fail
      go_quiet (fail)
      go_wp2
      have HL1 : Hid (LSt (wr.drewN nq) w2.heap.size (w2.heap.size + 1) (.slice (some ⟨gz, oz, none⟩) Z.length cv) tv te (zn (sts (stk C C l p 0))) (NR C C i) (((prs C C).map (ben E E)).take i) us) := by
        show LSt _ _ _ _ _ _ _ _ _ _
        rw [show stk C C l p 0 = l from rfl, ← HZ.out]
        exact hL.out.below (below_drewT (Below.refl _ wr))
      have HB1 : Hid (Below w2.heap.size w2 (wr.drewN nq)) := below_drewT hbw.out
      have HK0 : Hid (ZRow (wr.drewN nq) (w2.heap.size + 2) (.slice none 0 0) ((nri C C i).take 0)) := ⟨rfl, .inl ⟨rfl, rfl⟩⟩
      clear hL hbw hA3 hcz q0
      go_loopw [5, 8, 39] (fun vo vl vk wr => ∃ k : Nat, k ≤ 3 ∧ vk = .int .i64 (k : Int) ∧ Hid (LSt wr w2.heap.size (w2.heap.size + 1) vo tv te (zn (sts (stk C C l p k))) (NR C C i) (((prs C C).map (ben E E)).take i) us) ∧ Hid (ZRow wr (w2.heap.size + 2) vl ((nri C C i).take k)) ∧ Hid (Apt4 vl tv te us) ∧ Hid (∀ g, vl.ownBlock = some g → vo.ownBlock ≠ some g) ∧ Hid (Below w2.heap.size w2 wr))
        (fun _ _ vk _ => 3 - (intOf vk).toNat)
      case atStart => exact ⟨0, by omega, rfl, HL1, HK0, fun g hg => by simp [Value.ownBlock] at hg, fun g hg => by simp [Value.ownBlock] at hg, HB1⟩
      case round =>
        obtain ⟨k, hk3, rfl, hLk, hKk, hAk, hNk, hbk⟩ := hrel
        clear HL1 HB1 HK0
        have hBk : Below w.heap.size w wr := hB2.trans (hbk.out.mono hB2.size)
        have hszk : w2.heap.size + 1 < wr.heap.size := hLk.out.ts.lb
        obtain ⟨ao, co, hvo2⟩ := ZRow.slice hLk.out.or
        subst hvo2
        obtain ⟨al, cl', hvl⟩ := ZRow.slice hKk.out
        subst hvl
        have HKL : Hid (((nri C C i).take k).length = k) := by show _ = _; rw [List.length_take, nri_len]; omega
        rw [HKL.out] at hKk hAk hNk ⊢
        obtain ⟨Y, hY⟩ : ∃ Y, Y = stk C C l p k := ⟨_, rfl⟩
        have HY : Hid (Y = stk C C l p k) := hY
        have HYD : Hid (Dia Y) := by rw [hY]; exact dia_stk hDi.out HPB.out k
        have HYM : Hid (Mch.Met C.length C.length Y) := by rw [hY, ← HPP.out]; exact stk_met HGC.out HGC.out hAt.out.met hlt k hk3
        have hY144 : Y.length ≤ 144 := HYM.out.le HGC.out HGC.out
        obtain ⟨V, hV⟩ : ∃ V, V = zn (sts Y) := ⟨_, rfl⟩
        have HV : Hid (V = zn (sts Y)) := hV
        have HVL : Hid (V.length = Y.length) := by show _ = _; rw [hV, zn_len, sts_len]
        rw [← hY, ← hV] at hLk
        rw [← hY, ← hV] at hNk
        rw [← hY, ← hV]
        clear hY hV
        have hv145 : V.length ≤ 144 := by rw [HVL.out]; exact hY144
        by_cases hlk : k < 3
        · have hlk' : (k : Int) < 3 := by omega
          have ck := HROW.out _ hBk k hlk
          have hnk := HNX.out k hlk
          have cX := HVC.out _ hbk.out _ hnk
          have HX : Hid (cx c (nt M p.a k) = nt C p.a k) := (HNT.out p.a k hpa hlk).symm
          rw [HX.out] at cX
          have HPU : Hid (sts (stk C C l p (k + 1)) = if nt C p.a k ∈ sts Y then sts Y else sts Y ++ [nt C p.a k]) := by
            show _ = _
            rw [stk, ← HY.out, sts_pu HYD.out (by show nt C p.b k = nt C p.a k; rw [HPB.out])]
            rfl
          have HIX : Hid ((nri C C i).take (k + 1) = (nri C C i).take k ++ [((ix Y (nt C p.a k) (nt C p.a k) : Nat) : Int)]) := by
            show _ = _
            have h := stk_ix HGC.out HGC.out hAt.out hlt hlk
            rw [HPP.out, ← HY.out] at h
            rw [nri_take hlk, ← h]
            show _ ++ [((ix Y (nt C p.a k) (nt C p.b k) : Nat) : Int)] = _
            rw [HPB.out]
          have HMEM : Hid (nt C p.a k ∈ sts Y ↔ ix Y (nt C p.a k) (nt C p.a k) < Y.length) := sts_mem HYD.out _
          have HIXL : Hid (ix Y (nt C p.a k) (nt C p.a k) ≤ Y.length) := ix_le _ _ _
          generalize nt C p.a k = X at cX HPU HIX HMEM HIXL
          generalize hsn : nt M p.a k = s at ck hnk cX
          clear hsn
          have hsM : (s : Int) < (M.length : Int) := by omega
          obtain ⟨K, hK⟩ : ∃ K, K = (nri C C i).take k := ⟨_, rfl⟩
          rw [← hK] at hKk HKL HIX
          clear hK
          have HCY : Hid (∀ j, j < Y.length → ∃ g o, ao = some ⟨g, o, none⟩ ∧ g < wr.heap.size ∧ wr.cell? ⟨g, o + j, none⟩ = some (.int .i64 ((pq Y j).a : Int))) := fun j hj => by
            obtain ⟨a', c', hv', _, _, hr'⟩ := ZAt.own hLk.out.or
            simp only [Value.slice.injEq, true_and] at hv'
            obtain ⟨rfl, rfl⟩ := hv'
            exact hr' j _ (by rw [HV.out]; unfold zn; rw [List.getElem?_map, sts_at hj]; rfl)
          have hgcw : gc < wr.heap.size := by have := HGCL.out; have := hbk.out.size; omega
          go_wp2
          obtain ⟨wo, hwo⟩ : ∃ W, W = wr := ⟨_, rfl⟩
          rw [← hwo] at hLk hKk hbk HCY ck cX hBk hszk hgcw
          have HLk : Hid (type_of% hLk.out) := hLk
          rw [← hwo]
          clear hwo ck
          go_loopw [11, 45] (fun va vj wr => ∃ j : Nat, j ≤ Y.length ∧ vj = .int .i64 (j : Int) ∧ va = .int .i64 (fa Y X j) ∧ wr = wo)
            (fun _ vj _ => Y.length - (intOf vj).toNat)
          case atStart => exact ⟨0, by omega, rfl, by rw [fa_zero], rfl⟩
          case round =>
            obtain ⟨j, hjY, rfl, rfl, rfl⟩ := hrel
            by_cases hjl : j < Y.length
            · have hjl' : (j : Int) < (V.length : Int) := by have := HVL.out; omega
              obtain ⟨gy, oy, hao, hgy, cj⟩ := HCY.out j hjl
              subst hao
              have HH : Hid ((pq Y j).a = X → fa Y X (j + 1) = (j : Int)) := fun e => fa_hit HYM.out HYD.out hjl e
              have HN : Hid ((pq Y j).a ≠ X → fa Y X (j + 1) = fa Y X j) := fun e => fa_miss hjl e
              generalize (pq Y j).a = z at cj HH HN
              generalize fa Y X j = fo at HN ⊢
              by_cases hzX : z = X
              · subst hzX
                have HF : Hid (fa Y z (j + 1) = (j : Int)) := HH.out rfl
                clear HH HN
                go_wp2
                go_roundw
                case rel => exact ⟨j + 1, by omega, by go_num, by rw [HF.out], by first | rfl | trivial⟩
                case measure => simp [intOf]; omega
              · have HF : Hid (fa Y X (j + 1) = fo) := HN.out hzX
                have hne : ((z : Int) == (X : Int)) = false := by simp; omega
                have hne2 : ¬ ((z : Int) = (X : Int)) := by omega
                clear HH HN
                go_wp2
                go_roundw
                case rel => exact ⟨j + 1, by omega, by go_num, by rw [HF.out], by first | rfl | trivial⟩
                case measure => simp [intOf]; omega
            · have hje : j = Y.length := by omega
              have hge : ¬ ((j : Int) < (V.length : Int)) := by have := HVL.out; omega
              have HFE : Hid (fa Y X j = if ix Y X X < Y.length then ((ix Y X X : Nat) : Int) else -1) := by rw [hje]; rfl
              clear hje
              generalize fa Y X j = fo at HFE ⊢
              by_cases hin : ix Y X X < Y.length
              · have HFO : Hid (fo = ((ix Y X X : Nat) : Int)) := by rw [HFE.out, if_pos hin]; rfl
                rw [HFO.out]
                have HSS : Hid (zn (sts (stk C C l p (k + 1))) = V) := by show _ = _; rw [HPU.out, if_pos (HMEM.out.2 hin), HV.out]
                generalize ix Y X X = t at hin HIX
                have ht : ¬ ((t : Int) < 0) := by omega
                clear HFE HPU HMEM HIXL
                have HKf : Hid (ZRow wr (w2.heap.size + 2) (.slice al k cl') K) := hKk
                have HAf : Hid (Apt4 (.slice al k cl') tv te us) := hAk
                have HNf : Hid (∀ g, (Value.slice al k cl').ownBlock = some g → (Value.slice ao V.length co).ownBlock ≠ some g) := hNk
                go_wp2_with (at_builtin; refine wpList_append_lies _ rfl _ _ 27 rfl (w2.heap.size + 2) 3 i0 (.int .i64 0) 1 8 Try.underlying27 hi hz0 hz1 hz2 rfl (by decide) _ k _ rfl (World.ownsRow.alloc (by have h := HKf.out; unfold ZRow at h; rw [HKL.out] at h; exact h) _) ⟨wr.heap.size, 0, none⟩ 1 1 [.int .i64 (t : Int)] rfl rfl (World.news_of_block (heap_alloc_new wr _)) (onezJ _) (by omega) (by unfold maxLen; omega) (by omega) (by simp; omega) (wr.heap.size + 1) (by simp) ?_)
                intro g8 cap8 w8 hown8 hgrow8 hat8 hlt8
                have HK8 : Hid (ZRow w8 (w2.heap.size + 2) (.slice (some ⟨g8, 0, none⟩) (k + 1) cap8) ((nri C C i).take (k + 1))) := by
                  rw [HIX.out]
                  have h := hown8
                  rw [← HKL.out] at h
                  have h2 := ZRow.snocM h
                  rw [HKL.out] at h2
                  exact h2
                have HL8 : Hid (LSt w8 w2.heap.size (w2.heap.size + 1) (.slice ao V.length co) tv te V (NR C C i) (((prs C C).map (ben E E)).take i) us) := HLk.out.aside hgrow8 (fun e => by have := (World.ownsRow.lt HKf.out _ e).1; omega) HAf.out HNf.out
                have HR8 : Hid (type_of% HLk.out.ts.rows_lt) := HLk.out.ts.rows_lt
                have HO8 := World.ownsRow.lt HLk.out.or
                have HA8 : Hid (Apt4 (.slice (some ⟨g8, 0, none⟩) (k + 1) cap8) tv te us) := fun g e => by
                  simp [Value.ownBlock] at e
                  subst e
                  rcases hat8 with e | e
                  · exact HAf.out g8 e
                  · exact ⟨fun e2 => by have := (HR8.out.1 g8 e2).2; omega, fun e2 => by have := (HR8.out.2.1 g8 e2).2; omega, fun u hu e2 => by have := (HR8.out.2.2 u hu g8 e2).2; omega⟩
                have HN8 : Hid (∀ g, (Value.slice (some ⟨g8, 0, none⟩) (k + 1) cap8).ownBlock = some g → ((.slice ao V.length co) : Value).ownBlock ≠ some g) := fun g e => by
                  simp [Value.ownBlock] at e
                  subst e
                  rcases hat8 with e | e
                  · exact HNf.out g8 e
                  · exact fun e2 => by have := (HO8 g8 e2).2; omega
                have HB8 : Hid (Below w2.heap.size w2 w8) := below_grown hbk.out (by omega) hgrow8 (fun g hg => by have := (World.ownsRow.lt HKf.out g hg).1; omega)
                clear hown8 hgrow8 hat8 hlt8 HR8 HO8
                go_wp2
                go_roundw
                case rel => exact ⟨k + 1, by omega, by go_num, by rw [HSS.out]; exact HL8, HK8, HA8, HN8, HB8⟩
                case measure => simp [intOf]; omega
              · have HFO : Hid (fo = -1) := by rw [HFE.out, if_neg hin]; rfl
                rw [HFO.out]
                have HSS : Hid (zn (sts (stk C C l p (k + 1))) = V ++ [(X : Int)]) := by show _ = _; rw [HPU.out, if_neg (fun h => hin (HMEM.out.1 h)), zn_snoc, ← HV.out]
                have HT : Hid (ix Y X X = V.length) := by have h1 := HIXL.out; have h2 := HVL.out; show _ = _; omega
                rw [HT.out] at HIX
                have ht : ((-1 : Int) < 0) := by omega
                clear HFE HPU HMEM HIXL hin
                go_wp2_with (at_builtin; refine wpList_append_lies _ rfl _ _ 27 rfl w2.heap.size 3 i0 (.int .i64 0) 1 8 Try.underlying27 hi hz0 hz1 hz2 rfl (by decide) _ V.length _ rfl (World.ownsRow.alloc HLk.out.or _) ⟨wr.heap.size, 0, none⟩ 1 1 [.int .i64 (X : Int)] rfl rfl (World.news_of_block (heap_alloc_new wr _)) (onezJ _) (by omega) (by unfold maxLen; omega) (by omega) (by simp; omega) (wr.heap.size + 1) (by simp) ?_)
                intro g9 cap9 w9 hown9 hgrow9 hat9 hlt9
                obtain ⟨hL9, hb9⟩ := HLk.out.grow hown9 hgrow9 hat9
                have HL9 : Hid (LSt w9 w2.heap.size (w2.heap.size + 1) (.slice (some ⟨g9, 0, none⟩) (V.length + 1) cap9) tv te (V ++ [(X : Int)]) (NR C C i) (((prs C C).map (ben E E)).take i) us) := hL9
                have HB9 : Hid (Below w2.heap.size w2 w9) := hbk.out.trans hb9
                have HLLT := World.ownsRow.lt hKk.out
                have HKf : Hid (ZRow w9 (w2.heap.size + 2) (.slice al k cl') K) := own_besideM (World.ownsRow.alloc hKk.out _) hgrow9 (fun g' e1 e2 => hNk.out g' e1 e2.symm)
                have HAf : Hid (Apt4 (.slice al k cl') tv te us) := hAk
                have HNf : Hid (∀ g, (Value.slice al k cl').ownBlock = some g → (Value.slice (some ⟨g9, 0, none⟩) (V.length + 1) cap9).ownBlock ≠ some g) := fun g e1 e2 => by
                  simp [Value.ownBlock] at e2
                  subst e2
                  rcases hat9 with e | e
                  · exact hNk.out g9 e1 e
                  · have := (HLLT g9 e1).2; omega
                have hs9 : w2.heap.size + 1 < w9.heap.size := hL9.ts.lb
                clear hown9 hgrow9 hat9 hlt9 hL9 hb9 HLLT
                obtain ⟨t, htt⟩ : ∃ t, t = V.length := ⟨_, rfl⟩
                rw [← htt] at HIX HNf HL9 ⊢
                have ht145 : t ≤ 144 := by omega
                clear htt
                go_wp2_with (at_builtin; refine wpList_append_lies _ rfl _ _ 27 rfl (w2.heap.size + 2) 3 i0 (.int .i64 0) 1 8 Try.underlying27 hi hz0 hz1 hz2 rfl (by decide) _ k _ rfl (World.ownsRow.alloc (by have h := HKf.out; unfold ZRow at h; rw [HKL.out] at h; exact h) _) ⟨w9.heap.size, 0, none⟩ 1 1 [.int .i64 (t : Int)] rfl rfl (World.news_of_block (heap_alloc_new w9 _)) (onezJ _) (by omega) (by unfold maxLen; omega) (by omega) (by simp; omega) (w9.heap.size + 1) (by simp) ?_)
                intro g8 cap8 w8 hown8 hgrow8 hat8 hlt8
                have HK8 : Hid (ZRow w8 (w2.heap.size + 2) (.slice (some ⟨g8, 0, none⟩) (k + 1) cap8) ((nri C C i).take (k + 1))) := by
                  rw [HIX.out]
                  have h := hown8
                  rw [← HKL.out] at h
                  have h2 := ZRow.snocM h
                  rw [HKL.out] at h2
                  exact h2
                have HL8 : Hid (LSt w8 w2.heap.size (w2.heap.size + 1) (.slice (some ⟨g9, 0, none⟩) (t + 1) cap9) tv te (V ++ [(X : Int)]) (NR C C i) (((prs C C).map (ben E E)).take i) us) := HL9.out.aside hgrow8 (fun e => by have := (World.ownsRow.lt HKf.out _ e).1; omega) HAf.out HNf.out
                have HR8 : Hid (type_of% HL9.out.ts.rows_lt) := HL9.out.ts.rows_lt
                have HO8 := World.ownsRow.lt HL9.out.or
                have HA8 : Hid (Apt4 (.slice (some ⟨g8, 0, none⟩) (k + 1) cap8) tv te us) := fun g e => by
                  simp [Value.ownBlock] at e
                  subst e
                  rcases hat8 with e | e
                  · exact HAf.out g8 e
                  · exact ⟨fun e2 => by have := (HR8.out.1 g8 e2).2; omega, fun e2 => by have := (HR8.out.2.1 g8 e2).2; omega, fun u hu e2 => by have := (HR8.out.2.2 u hu g8 e2).2; omega⟩
                have HN8 : Hid (∀ g, (Value.slice (some ⟨g8, 0, none⟩) (k + 1) cap8).ownBlock = some g → ((.slice (some ⟨g9, 0, none⟩) (t + 1) cap9) : Value).ownBlock ≠ some g) := fun g e => by
                  simp [Value.ownBlock] at e
                  subst e
                  rcases hat8 with e | e
                  · exact HNf.out g8 e
                  · exact fun e2 => by have := (HO8 g8 e2).2; omega
                have HB8 : Hid (Below w2.heap.size w2 w8) := below_grown HB9.out (by omega) hgrow8 (fun g hg => by have := (World.ownsRow.lt HKf.out g hg).1; omega)
                clear hown8 hgrow8 hat8 hlt8 HR8 HO8
                go_wp2
                go_roundw
                case rel => exact ⟨k + 1, by omega, by go_num, by rw [HSS.out]; exact HL8, HK8, HA8, HN8, HB8⟩
                case measure => simp [intOf]; omega
        · have hk3' : k = 3 := by omega
          subst hk3'
          have hge : ¬ ((3 : Int) < 3) := by omega
          have HFULL : Hid ((nri C C i).take 3 = nri C C i) := List.take_of_length_le (by rw [nri_len]; exact Nat.le_refl _)
          have HKF : Hid (ZRow wr (w2.heap.size + 2) (.slice al 3 cl') (nri C C i)) := by
            have h := hKk.out
            rw [HFULL.out] at h
            exact h
          have HN : Hid (At C C (i + 1) Y) := by
            show At _ _ _ _
            rw [HY.out, stk_3, ← HPP.out]
            exact hAt.out.next HGC.out HGC.out hlt
          have HNR : Hid (NR C C (i + 1) = NR C C i ++ [nri C C i]) := NR_succ C C i
          have HNL : Hid ((NR C C i).length = i) := NR_len C C i
          have HFB : Hid (((prs C C).map (ben E E)).take (i + 1) = ((prs C C).map (ben E E)).take i ++ [en E p.a]) := by
            show _ = _
            rw [ben_at HPR.out.2, HPR.out.1]
            unfold ben
            rw [HPB.out, Bool.and_self]
          have HFLn : Hid ((((prs C C).map (ben E E)).take i).length = i) := by
            show _ = _
            rw [List.length_take, List.length_map]
            have := HPR.out.2
            omega
          have HYI : Hid ((sts Y)[i]? = some p.a) := by
            show _ = _
            have hlen : i < Y.length := by
              obtain ⟨m, em⟩ := stk_grows C C l p 3
              rw [HY.out, em, List.length_append]
              omega
            rw [sts_at hlen, HY.out]
            obtain ⟨m, em⟩ := stk_grows C C l p 3
            rw [em, pq_left hlt, HPP.out]
          clear hKk HFULL
          generalize NR C C i = NN at hLk HNR HNL
          generalize hFF : ((prs C C).map (ben E E)).take i = FF at hLk HFB HFLn
          clear hFF
          obtain ⟨at1, ct1, htv⟩ := hLk.out.ts.own.1.slice
          obtain ⟨at2, ct2, hte⟩ := ERow.slice hLk.out.ts.own.2.1
          subst htv hte
          have t0 := hLk.out.ts.c0
          have hi144 : i ≤ 144 := by omega
          have hn144 : NN.length ≤ 144 := by rw [HNL.out]; exact hi144
          have hf144 : FF.length ≤ 144 := by rw [HFLn.out]; exact hi144
          have HLk : Hid (type_of% hLk.out) := hLk
          go_wp2_with (at_builtin; refine wpList_append_lies _ rfl _ _ 22 rfl (w2.heap.size + 2) 27 s0 (.slice none 0 0) 1 24 Try.underlying22 hs sz0 sz1 sz2 rfl (by decide) _ NN.length _ rfl (World.ownsRow.alloc HLk.out.ts.own.1.1 _) ⟨wr.heap.size, 0, none⟩ 1 1 [.slice al 3 cl'] rfl rfl (World.news_of_block (heap_alloc_new wr _)) (one1M _ _ _) (by omega) (by unfold maxLen; omega) (by omega) (by simp; omega) (wr.heap.size + 1) (by simp) ?_)
          intro g9 cap9 w9 hown9 hgrow9 hat9 hlt9
          obtain ⟨⟨q9, f9, k9⟩, hT9, hB9⟩ := HLk.out.next HKF.out hAk.out hNk.out hown9 hgrow9 hat9
          obtain ⟨W6, hW6⟩ : ∃ W, W = w9.setCell ⟨w2.heap.size + 1, 0, none⟩ (.slice (some ⟨g9, 0, none⟩) (NN.length + 1) cap9) := ⟨_, rfl⟩
          rw [← hW6] at hT9 hB9
          have HB6 : Hid (Below w2.heap.size w2 W6) := hbk.out.trans hB9
          have hBe : Below w.heap.size w W6 := hB2.trans (HB6.out.mono hB2.size)
          have HT6 : Hid (LSt W6.drew w2.heap.size (w2.heap.size + 1) (.slice ao V.length co) (.slice (some ⟨g9, 0, none⟩) (NN.length + 1) cap9) (.slice at2 FF.length ct2) V (NN ++ [nri C C i]) FF (us ++ [.slice al 3 cl'])) := hT9.below ((Below.refl _ W6).drew)
          have t6 := hT9.ts.c1
          have t6d : W6.drew.cell? ⟨w2.heap.size + 1, 1, none⟩ = some (.slice at2 FF.length ct2) := t6
          have t6a : ∀ o, (W6.alloc o).cell? ⟨w2.heap.size + 1, 1, none⟩ = some (.slice at2 FF.length ct2) := fun o => (hT9.below ((Below.refl _ W6).alloc (Nat.le_refl _) o)).ts.c1
          have q6 := (HB6.out.cell (p := ⟨w.heap.size, 1, none⟩) (by show w.heap.size < _; omega)).trans Q2.out.2
          have q6d : W6.drew.cell? ⟨w.heap.size, 1, none⟩ = some (.slice (some ⟨gE, oE, none⟩) E.length cE) := q6
          have e6 := HEC.out _ hBe
          have e6d : W6.drew.cell? ⟨gE, oE + p.a, none⟩ = some (.bool (en E p.a)) := e6
          obtain ⟨a', c', hv', _, _, hr'⟩ := ZAt.own hT9.or
          simp only [Value.slice.injEq, true_and] at hv'
          obtain ⟨rfl, rfl⟩ := hv'
          obtain ⟨gy, oy, hao, hgy, cy⟩ := hr' i (p.a : Int) (by rw [HV.out]; unfold zn; rw [List.getElem?_map, HYI.out]; rfl)
          subst hao
          have cyd : W6.drew.cell? ⟨gy, oy + i, none⟩ = some (.int .i64 (p.a : Int)) := cy
          have hiV : (i : Int) < (V.length : Int) := by
            have h := (List.getElem?_eq_some_iff.1 HYI.out).1
            rw [sts_len] at h
            have := HVL.out
            omega
          have hpE : (p.a : Int) < (E.length : Int) := by have := HLE.out; omega
          have hs6 : w2.heap.size + 1 < W6.heap.size := hT9.ts.lb
          have hgE6 : gE < W6.heap.size := by have := hBe.size; omega
          have hzw6 : w.heap.size < W6.heap.size := by omega
          generalize en E p.a = pe at e6 e6d HFB
          clear hr' hT9 hB9 hown9 hgrow9 hat9 hlt9 t0 hLk HKF hbk
          go_upto_region 24 with fail
          rw [← hW6]
          clear hW6 q9 f9 k9
          go_region_law
            (refine step_append_lies _ (by rfl) _ _ _ (by rfl) (w2.heap.size + 2) 4 j0 (.bool false) 1 1 Try.underlying23 hj jz0 jz1 jz2 rfl (by decide) _ FF.length _ (by rfl) (World.ownsRow.alloc HT6.out.ts.own.2.1 _) ⟨W6.heap.size, 0, none⟩ 1 1 [.bool pe] (by rfl) rfl (World.news_of_block (heap_alloc_new W6.drew _)) (onebM _) (by omega) (by unfold maxLen; omega) (by omega) (by simp; omega) (W6.heap.size + 1) (by simp) ?_; intro g8 cap8 w8 hown8 hgrow8 hat8 hlt8; obtain ⟨⟨q8, f8, k8⟩, hT8, hB8⟩ := HT6.out.ends hown8 hgrow8 hat8)
          all_goals
            have HT8 : Hid (LSt (w8.setCell ⟨w2.heap.size + 1, 1, none⟩ (.slice (some ⟨g8, 0, none⟩) (FF.length + 1) cap8)) w2.heap.size (w2.heap.size + 1) (.slice (some ⟨gy, oy, none⟩) V.length co) (.slice (some ⟨g9, 0, none⟩) (NN.length + 1) cap9) (.slice (some ⟨g8, 0, none⟩) (FF.length + 1) cap8) (zn (sts Y)) (NR C C (i + 1)) (((prs C C).map (ben E E)).take (i + 1)) (us ++ [.slice al 3 cl'])) := by
              rw [HNR.out, HFB.out, ← HV.out]
              exact hT8
            have HB8 : Hid (Below w2.heap.size w2 (w8.setCell ⟨w2.heap.size + 1, 1, none⟩ (.slice (some ⟨g8, 0, none⟩) (FF.length + 1) cap8))) := HB6.out.trans ⟨hB8.os, hB8.tape, hB8.output, hB8.size, hB8.block⟩
            clear hT8 hB8 hown8 hgrow8 hat8 hlt8 HT6 t6 t6d t6a q6 q6d e6 e6d cy cyd HB6
            go_wp2
            go_roundw
            case rel => exact ⟨i + 1, Y, _, _, _, by go_num, HN, HYD, HT8, HB8⟩
            case measure => simp [intOf]; omega
    · have hke : i = l.length := by omega
      have hge : ¬ ((i : Int) < (Z.length : Int)) := by have := HZL.out; omega
      have HD : Hid (l = prs C C) := hAt.out.done HGC.out HGC.out hke
      have HEND : Hid (MaOwn wr (w2.heap.size + 2) tv te (NR C C (prs C C).length) ((prs C C).map (ben E E)) us) := by
        have h := hL.out.ts.own
        rw [hke, HD.out, List.take_of_length_le (by rw [List.length_map]; exact Nat.le_refl _)] at h
        exact h
      have d0 := hL.out.ts.c0
      have d1 := hL.out.ts.c1
      have p0 := (hbw.out.cell (p := ⟨w.heap.size + 1, 0, none⟩) (by show w.heap.size + 1 < _; omega)).trans P2.out.1
      have p1 := (hbw.out.cell (p := ⟨w.heap.size + 1, 1, none⟩) (by show w.heap.size + 1 < _; omega)).trans P2.out.2.1
      have y0 := (hbw.out.frozen (p := ⟨w.heap.size + 1, 0, none⟩) (by show w.heap.size + 1 < _; omega)).trans P2.out.2.2.1
      have y1 := (hbw.out.frozen (p := ⟨w.heap.size + 1, 1, none⟩) (by show w.heap.size + 1 < _; omega)).trans P2.out.2.2.2
      have hl1 : w.heap.size + 1 < wr.heap.size := by omega
      obtain ⟨NN, hNN⟩ : ∃ N, N = NR C C (prs C C).length := ⟨_, rfl⟩
      obtain ⟨FF, hFF⟩ : ∃ N, N = (prs C C).map (ben E E) := ⟨_, rfl⟩
      rw [← hNN, ← hFF] at HEND
      have HNN : Hid (NN = NR C C (prs C C).length ∧ FF = (prs C C).map (ben E E)) := ⟨hNN, hFF⟩
      clear hNN hFF
      obtain ⟨an, cn, hvn⟩ := HEND.out.1.slice
      obtain ⟨ev, dv, hev⟩ := ERow.slice HEND.out.2.1
      subst hvn hev
      clear hke hAt q0 hL
      go_wp2
      (try simp only [Exit.inBlock, Exit.then])
      refine bodyPost_ret (v := .agg #[.slice an NN.length cn, .slice ev FF.length dv]) ?_ rfl ⟨⟨_, _, rfl, us, ?_⟩, ?_⟩
      · rw [rc]
        go_simp
      · rw [← HNN.out.1, ← HNN.out.2]
        exact ((HEND.out.setCell (a := ⟨w.heap.size + 1, 0, none⟩) (by show w.heap.size + 1 < _; omega) _).setCell (a := ⟨w.heap.size + 1, 1, none⟩) (by show w.heap.size + 1 < _; omega) _).lower (by omega)
      · exact (hBr.setCell (p := ⟨w.heap.size + 1, 0, none⟩) (by show w.heap.size ≤ w.heap.size + 1; omega) _).setCell (p := ⟨w.heap.size + 1, 1, none⟩) (by show w.heap.size ≤ w.heap.size + 1; omega) _

end Go.Proofs.Ytecgjhnihagleaa

namespace Go.Proofs.Ytecgjhnihagleaa
open Go.RowKit Plain Mch Tpc

set_option maxRecDepth 100000 in
set_option maxHeartbeats 8000000 in
theorem specLeastM (A : List (List Int)) (E : List Bool) (va ea : Value) (w : World) (hA : MAt w w.heap.size va A) (hEA : EAt w w.heap.size ea E) :
    Calls Try.prog 16 #[.agg #[va, ea]] w fun x w' => (∃ r q, x = .returned (.tuple #[.agg #[r, q], .bool (gm A E)]) ∧ ∃ us, MaOwn w' w.heap.size r q (leM A E) (leE A E) us) ∧ Below w.heap.size w w' := by
  have HA : Hid (MAt w w.heap.size va A) := hA
  have HE : Hid (EAt w w.heap.size ea E) := hEA
  obtain ⟨aA, cA, rfl, hlcA, hcmA, _⟩ := hA
  obtain ⟨aE, cE, rfl, hlcE, hcmE, _⟩ := hEA
  unfold maxLen at hcmA hcmE
  have rc := fun (tmps : Array Value) (P : Program) (w : World) => results_cell_tmpM2 (fn := Try.f16) (p := 2) (u := 3) (ty := 30) rfl tmps P w
  obtain ⟨W1, hW1⟩ : ∃ W, W = (w.alloc (.cells #[.slice aA A.length cA, .slice aE E.length cE] 30)).alloc (.cells #[.slice none 0 0, .slice none 0 0] 30) := ⟨_, rfl⟩
  have hB1 : Below w.heap.size w W1 := by rw [hW1]; exact ((Below.refl _ w).alloc (Nat.le_refl _) _).alloc (by simp) _
  have q0 : W1.cell? ⟨w.heap.size, 0, none⟩ = some (.slice aA A.length cA) := by rw [hW1]; go_simp
  have q1 : W1.cell? ⟨w.heap.size, 1, none⟩ = some (.slice aE E.length cE) := by rw [hW1]; go_simp
  have p0 : W1.cell? ⟨w.heap.size + 1, 0, none⟩ = some (.slice none 0 0) := by rw [hW1]; go_simp
  have p1 : W1.cell? ⟨w.heap.size + 1, 1, none⟩ = some (.slice none 0 0) := by rw [hW1]; go_simp
  have y0 : W1.frozen? ⟨w.heap.size + 1, 0, none⟩ = false := by rw [hW1]; go_simp
  have y1 : W1.frozen? ⟨w.heap.size + 1, 1, none⟩ = false := by rw [hW1]; go_simp
  have hl1 : w.heap.size + 1 < W1.heap.size := by rw [hW1]; simp
  have hl0 : w.heap.size < W1.heap.size := by omega
  obtain ⟨G, hG⟩ : ∃ G, G = gm A E := ⟨_, rfl⟩
  obtain ⟨RM, hRM⟩ : ∃ R, R = leM A E := ⟨_, rfl⟩
  obtain ⟨RE, hRE⟩ : ∃ R, R = leE A E := ⟨_, rfl⟩
  have HG : Hid (G = gm A E) := hG
  have HRM : Hid (RM = leM A E) := hRM
  have HRE : Hid (RE = leE A E) := hRE
  rw [← hG, ← hRM, ← hRE]
  clear hG hRM hRE
  have HFF : Hid (gm A E = false → G = false ∧ RM = [] ∧ RE = []) := fun h => by
    refine ⟨HG.out.trans h, ?_, ?_⟩
    · rw [HRM.out]; unfold leM; rw [h]; rfl
    · rw [HRE.out]; unfold leE; rw [h]; rfl
  have HTT : Hid (gm A E = true → G = true ∧ RM = NR (mgc A E) (mgc A E) (prs (mgc A E) (mgc A E)).length ∧ RE = (prs (mgc A E) (mgc A E)).map (ben E E)) := fun h => by
    refine ⟨HG.out.trans h, ?_, ?_⟩
    · rw [HRM.out]; unfold leM; rw [h]; rfl
    · rw [HRE.out]; unfold leE; rw [h]; rfl
  clear HG HRM HRE
  go_enter Try.func16, Try.ntmps16
  go_wp2_with fail
  rw [← hW1]
  clear hW1
  refine (specGoodM A E _ _ _ (HA.out.below hB1) (HE.out.below hB1)).mono ?_
  rintro x w2 ⟨rfl, hb2⟩
  replace q0 := (hb2.cell (p := ⟨w.heap.size, 0, none⟩) hl0).trans q0
  replace q1 := (hb2.cell (p := ⟨w.heap.size, 1, none⟩) hl0).trans q1
  replace p0 := (hb2.cell (p := ⟨w.heap.size + 1, 0, none⟩) hl1).trans p0
  replace p1 := (hb2.cell (p := ⟨w.heap.size + 1, 1, none⟩) hl1).trans p1
  replace y0 := (hb2.frozen (p := ⟨w.heap.size + 1, 0, none⟩) hl1).trans y0
  replace y1 := (hb2.frozen (p := ⟨w.heap.size + 1, 1, none⟩) hl1).trans y1
  have hB2 : Below w.heap.size w w2 := hB1.trans (hb2.mono hB1.size)
  replace hl1 : w.heap.size + 1 < w2.heap.size := by have := hb2.size; omega
  replace hl0 : w.heap.size < w2.heap.size := by omega
  clear hb2 hB1
  cases hgA : gm A E with
  | false =>
    have hF : Hid (G = false ∧ RM = [] ∧ RE = []) := HFF.out hgA
    clear hgA HFF HTT
    go_wp2
    (try simp only [Exit.inBlock, Exit.then])
    refine bodyPost_ret (v := .tuple #[.agg #[.slice none 0 0, .slice none 0 0], .bool false]) ?_ rfl ⟨⟨_, _, by rw [hF.out.1], [], by rw [hF.out.2.1, hF.out.2.2]; exact MaOwn.nil _ _⟩, ?_⟩
    · rw [rc]
      go_simp
    · exact (hB2.setCell (by simp <;> omega) _).setCell (by simp <;> omega) _
  | true =>
  have hF : Hid (G = true ∧ RM = NR (mgc A E) (mgc A E) (prs (mgc A E) (mgc A E)).length ∧ RE = (prs (mgc A E) (mgc A E)).map (ben E E)) := HTT.out hgA
  have HGA : Hid (gm A E = true) := hgA
  clear hgA HFF HTT
  go_wp2_with fail
  refine (l12Least_any A E _ _ _ (HA.out.below hB2) (HE.out.below hB2) HGA.out).mono ?_
  rintro x w7 ⟨⟨r7, e7, rfl, us, ho7⟩, hb7⟩
  have HL2 : Hid (w.heap.size + 1 < w2.heap.size) := hl1
  replace p0 := (hb7.cell (p := ⟨w.heap.size + 1, 0, none⟩) hl1).trans p0
  replace p1 := (hb7.cell (p := ⟨w.heap.size + 1, 1, none⟩) hl1).trans p1
  replace y0 := (hb7.frozen (p := ⟨w.heap.size + 1, 0, none⟩) hl1).trans y0
  replace y1 := (hb7.frozen (p := ⟨w.heap.size + 1, 1, none⟩) hl1).trans y1
  replace hl1 : w.heap.size + 1 < w7.heap.size := by have := hb7.size; omega
  have hBe : Below w.heap.size w w7 := hB2.trans (hb7.mono hB2.size)
  have HOWN : Hid (MaOwn w7 w2.heap.size r7 e7 RM RE us) := by
    show MaOwn _ _ _ _ _ _ _
    rw [hF.out.2.1, hF.out.2.2]
    exact ho7
  obtain ⟨an, cn, hvn⟩ := HOWN.out.1.slice
  obtain ⟨ev, dv, hev⟩ := ERow.slice HOWN.out.2.1
  subst hvn hev
  clear ho7 hb7 q0 q1
  go_wp2
  (try simp only [Exit.inBlock, Exit.then])
  refine bodyPost_ret (v := .tuple #[.agg #[.slice an RM.length cn, .slice ev RE.length dv], .bool true]) ?_ rfl ⟨⟨_, _, by rw [hF.out.1], us, ?_⟩, ?_⟩
  · rw [rc]
    go_simp
  · exact ((HOWN.out.setCell (a := ⟨w.heap.size + 1, 0, none⟩) HL2.out _).setCell (a := ⟨w.heap.size + 1, 1, none⟩) HL2.out _).lower (by have := HL2.out; omega)
  · exact (hBe.setCell (by simp <;> omega) _).setCell (by simp <;> omega) _

end Go.Proofs.Ytecgjhnihagleaa
