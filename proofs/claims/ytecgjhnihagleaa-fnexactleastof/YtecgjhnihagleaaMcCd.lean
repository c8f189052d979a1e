/- The model's l12Classes and ClassesOf. -/
import Derived.Test.YtecgjhnihagleaaMcCc
import Derived.Test.YtecgjhnihagleaaMcH
namespace Go.Proofs.Ytecgjhnihagleaa
open Go.RowKit Plain Mch Tpc

set_option maxRecDepth 100000 in
set_option maxHeartbeats 8000000 in
theorem l12Classes_any (M : List (List Int)) (E : List Bool) (vM eM : Value) (w : World) (hM : MAt w w.heap.size vM M) (hE : EAt w w.heap.size eM E) (hg : gm M E = true) :
    Calls Try.prog 40 #[.agg #[vM, eM]] w fun e w' => (∃ r, e = .returned (.tuple #[r, .int .i64 ((cln M E : Nat) : Int)]) ∧ ZRow w' w.heap.size r (zn (cls M E))) ∧ Below w.heap.size w w' := by
  obtain ⟨i0, hi, hz0, hz1, hz2⟩ := info_parts Try.infoInt
  have HM : Hid (MAt w w.heap.size vM M) := hM
  have HE : Hid (EAt w w.heap.size eM E) := hE
  have HG : Hid (gm M E = true) := hg
  have HLE : Hid (E.length = M.length) := (gm_iff.1 hg).1.2.2
  have HE1 : Hid (1 ≤ E.length) := by have h1 := (gm_iff.1 hg).1.1; have h2 := HLE.out; show 1 ≤ _; omega
  obtain ⟨aM, cM, rfl, hm1, hm2, _⟩ := hM
  obtain ⟨aE, cE, rfl, he1, he2, _⟩ := hE
  unfold maxLen at hm2 he2
  have h12 : E.length ≤ 12 := by rw [HLE.out]; exact (gm_iff.1 hg).1.2.1
  clear hg
  obtain ⟨f, hf⟩ : ∃ f, f = en E := ⟨_, rfl⟩
  have HFE : Hid (f = en E) := hf
  have HC0 : Hid (c0 E = cl f E.length) := by show _ = _; rw [hf]; rfl
  clear hf
  obtain ⟨CN, hCN⟩ : ∃ n, n = cln M E := ⟨_, rfl⟩
  obtain ⟨CL, hCL⟩ : ∃ n, n = cls M E := ⟨_, rfl⟩
  have HCN : Hid (CN = cln M E) := hCN
  have HCL : Hid (CL = cls M E) := hCL
  rw [← hCN, ← hCL]
  clear hCN hCL
  obtain ⟨W1, hW1⟩ : ∃ W, W = w.alloc (.cells #[.slice aM M.length cM, .slice aE E.length cE] 30) := ⟨_, rfl⟩
  have hB1 : Below w.heap.size w W1 := by rw [hW1]; exact (Below.refl _ w).alloc (Nat.le_refl _) _
  have Q0 : Hid (W1.cell? ⟨w.heap.size, 0, none⟩ = some (.slice aM M.length cM) ∧ W1.cell? ⟨w.heap.size, 1, none⟩ = some (.slice aE E.length cE)) := by refine ⟨?_, ?_⟩ <;> rw [hW1] <;> go_simp
  have HS1 : Hid (W1.heap.size = w.heap.size + 1) := by show _ = _; rw [hW1]; simp
  have qe := Q0.out.2
  have hzw1 : w.heap.size < W1.heap.size := by have := HS1.out; omega
  have HZ0 : Hid (ZRow W1 (w.heap.size + 1) (.slice none 0 0) (zn (cl f 0))) := ⟨rfl, .inl ⟨rfl, rfl⟩⟩
  go_enter Try.func40, Try.ntmps40
  go_upto_region 1 with fail
  rw [← hW1]
  clear hW1
  go_wp2
  go_loopw [4, 13] (fun vo vi wr => ∃ i : Nat, i ≤ E.length ∧ vi = .int .i64 (i : Int) ∧ Hid (ZRow wr (w.heap.size + 1) vo (zn (cl f i))) ∧ Hid (Below (w.heap.size + 1) W1 wr))
    (fun _ vi _ => E.length - (intOf vi).toNat)
  case atStart => exact ⟨0, by omega, rfl, HZ0, Below.refl _ _⟩
  case round =>
    obtain ⟨i, hin, rfl, hO, hbw⟩ := hrel
    clear HZ0
    (try clear qe hzw1)
    have hszr : w.heap.size + 1 ≤ wr.heap.size := by have := hbw.out.size; have := HS1.out; omega
    obtain ⟨ao, co, hvo⟩ := ZRow.slice hO.out
    subst hvo
    rw [zn_len, cl_len]
    rw [zn_len, cl_len] at hO
    by_cases hlt : i < E.length
    · have hlt' : (i : Int) < (E.length : Int) := by omega
      obtain ⟨wo, hwo⟩ : ∃ W, W = wr := ⟨_, rfl⟩
      rw [← hwo] at hO hbw hszr
      go_wp2
      rw [← hwo]
      clear hwo
      go_loopw [6, 7] (fun vc vo wr => ∃ j : Nat, j ≤ i ∧ vo = .int .i64 ((j : Int) - 1) ∧ vc = .int .i64 ((dn f i j : Nat) : Int) ∧ Hid (Below wo.heap.size wo wr))
        (fun _ vo _ => (intOf vo + 1).toNat)
      case atStart => exact ⟨i, by omega, rfl, by rw [dn_top], Below.refl _ _⟩
      case round =>
        obtain ⟨j, hji, rfl, rfl, hbk⟩ := hrel
        have hB1k : Below (w.heap.size + 1) W1 wr := hbw.out.trans (hbk.out.mono hszr)
        have hBk : Below w.heap.size w wr := hB1.trans (hB1k.mono (by omega))
        have hszk : w.heap.size + 1 ≤ wr.heap.size := by have := hbk.out.size; omega
        by_cases hj : 1 ≤ j
        · obtain ⟨o, rfl⟩ : ∃ o, j = o + 1 := ⟨j - 1, by omega⟩
          have ho : (((o + 1 : Nat) : Int) - 1) = (o : Int) := by omega
          rw [ho]
          have hge : (0 : Int) ≤ (o : Int) := by omega
          have q0 := (hB1k.cell (p := ⟨w.heap.size, 0, none⟩) (by show w.heap.size < _; omega)).trans Q0.out.1
          have q1 := (hB1k.cell (p := ⟨w.heap.size, 1, none⟩) (by show w.heap.size < _; omega)).trans Q0.out.2
          have hzw : w.heap.size < wr.heap.size := by omega
          have hBW : Below w.heap.size w wr := hBk
          obtain ⟨gE, oE, hvE, hgE, cO⟩ := HE.out.to (i := o) (by omega)
          have cO' := (hBW.cell (p := ⟨gE, oE + o, none⟩) hgE).trans cO
          obtain ⟨gE2, oE2, hvE2, _, cI⟩ := HE.out.to (i := i) hlt
          rw [hvE] at hvE2
          simp only [Option.some.injEq, Addr.mk.injEq] at hvE2
          obtain ⟨rfl, rfl, _⟩ := hvE2
          have cI' := (hBW.cell (p := ⟨gE, oE + i, none⟩) hgE).trans cI
          subst hvE
          have hoE : (o : Int) < (E.length : Int) := by omega
          have HB5 : Hid (Below wo.heap.size wo wr) := hbk.out
          have HFO : Hid (f o = en E o) := by rw [HFE.out]; rfl
          have HFI : Hid (f i = en E i) := by rw [HFE.out]; rfl
          rw [← HFO.out] at cO'
          rw [← HFI.out] at cI'
          clear cO cI
          go_upto_region 9 with fail
          by_cases hal : f o = f i
          · have HDN : Hid (dn f i o = fi f o) := dn_hit f (by omega) hal
            obtain ⟨gz, oz, hz1', hz2', hz3'⟩ := (ZAt.own hO.out).cx (i := o) (by rw [cl_len]; omega)
            rw [cl_at f (by omega)] at hz3'
            subst hz1'
            have cz := (HB5.out.cell (p := ⟨gz, oz + o, none⟩) hz2').trans hz3'
            have hoi : (o : Int) < (i : Int) := by omega
            rw [← HDN.out] at cz
            clear hz3'
            obtain ⟨D, hD⟩ : ∃ D, D = dn f i o := ⟨_, rfl⟩
            have HDD : Hid (D = dn f i o) := hD
            rw [← hD] at cz
            clear hD HFO HFI
            rw [hal] at cO'
            have cz' : ∀ n, (wr.drewN n).cell? ⟨gz, oz + o, none⟩ = some (.int .i64 (D : Int)) := fun _ => cz
            generalize f i = y at cO' cI'
            clear hal
            cases y <;>
            · go_quiet (fail)
              go_wp2
              go_roundw
              case rel => exact ⟨o, by omega, by go_num, by rw [HDD.out], below_drewT HB5.out⟩
              case measure => simp [intOf] <;> omega
          · have HDN : Hid (dn f i (o + 1) = dn f i o) := (dn_miss f hal).symm
            rw [HDN.out]
            have hcase : (f o = true ∧ f i = false) ∨ (f o = false ∧ f i = true) := by cases h1 : f o <;> cases h2 : f i <;> simp_all
            clear HFO HFI hal
            rcases hcase with ⟨e1, e2⟩ | ⟨e1, e2⟩
            all_goals
              rw [e1] at cO'
              rw [e2] at cI'
              clear e1 e2
              go_quiet (fail)
              go_wp2
              go_roundw
              case rel => exact ⟨o, by omega, by go_num, rfl, below_drewT HB5.out⟩
              case measure => simp [intOf] <;> omega
        · have hj0 : j = 0 := by omega
          subst hj0
          have hge : ¬ ((0 : Int) ≤ ((0 : Nat) : Int) - 1) := by omega
          have HDN : Hid (dn f i 0 = fi f i) := dn_done f i
          rw [HDN.out]
          have HOk : Hid (ZRow wr (w.heap.size + 1) (.slice ao i co) (zn (cl f i))) := ZRow.below hO.out hbk.out
          have HNX : Hid (zn (cl f (i + 1)) = zn (cl f i) ++ [((fi f i : Nat) : Int)]) := zn_cl f i
          have HKL : Hid ((zn (cl f i)).length = i) := by show _ = _; rw [zn_len, cl_len]
          generalize fi f i = x at HNX ⊢
          generalize zn (cl f i) = K at HOk HNX HKL
          have hi12 : i ≤ 12 := by omega
          clear hO HDN
          go_wp2_with (at_builtin; refine wpList_append_lies _ rfl _ _ 27 rfl (w.heap.size + 1) 3 i0 (.int .i64 0) 1 8 Try.underlying27 hi hz0 hz1 hz2 rfl (by decide) _ i _ rfl (World.ownsRow.alloc (by have h := HOk.out; unfold ZRow at h; rw [HKL.out] at h; exact h) _) ⟨wr.heap.size, 0, none⟩ 1 1 [.int .i64 (x : Int)] rfl rfl (World.news_of_block (heap_alloc_new wr _)) (onezJ _) (by omega) (by unfold maxLen; omega) (by omega) (by simp; omega) (wr.heap.size + 1) (by simp) ?_)
          intro g9 cap9 w9 hown9 hgrow9 hat9 hlt9
          have HO9 : Hid (ZRow w9 (w.heap.size + 1) (.slice (some ⟨g9, 0, none⟩) (i + 1) cap9) (zn (cl f (i + 1)))) := by
            rw [HNX.out]
            have h := hown9
            rw [← HKL.out] at h
            have h2 := ZRow.snocM h
            rw [HKL.out] at h2
            exact h2
          have HB9 : Hid (Below (w.heap.size + 1) W1 w9) := below_grown hB1k hszk hgrow9 (fun g hg => (World.ownsRow.lt HOk.out g hg).1)
          clear hown9 hgrow9 hat9 hlt9 HOk
          go_wp2
          go_roundw
          case rel => exact ⟨i + 1, by omega, by go_num, HO9, HB9⟩
          case measure => simp [intOf]; omega
    · have hke : i = E.length := by omega
      have hge : ¬ ((i : Int) < (E.length : Int)) := by omega
      have HEND : Hid (ZRow wr (w.heap.size + 1) (.slice ao i co) (zn (c0 E))) := by
        have h := hO.out
        rw [hke] at h
        show World.ownsRow _ _ _ _ _ _ _
        rw [HC0.out, hke]
        exact h
      have HRD : Hid (Rd M E (c0 E) 0) := Rd.start HE1.out
      clear hke hO
      go_wp2
      obtain ⟨wo, hwo⟩ : ∃ W, W = wr := ⟨_, rfl⟩
      rw [← hwo] at HEND hbw hszr
      rw [← hwo]
      clear hwo
      go_loopw [4, 8] (fun vc vr wr => ∃ (r : Nat) (c : List Nat), vr = .int .i64 (r : Int) ∧ Hid (ZRow wr (w.heap.size + 1) vc (zn c)) ∧ Hid (Rd M E c r) ∧ Hid (Below (w.heap.size + 1) W1 wr))
        (fun _ vr _ => 13 - (intOf vr).toNat)
      case atStart => exact ⟨0, _, rfl, HEND, HRD, hbw⟩
      case round =>
        obtain ⟨r, c, rfl, hC, hR, hbk⟩ := hrel
        clear HEND HRD
        have hszk : w.heap.size + 1 ≤ wr.heap.size := by have := hbk.out.size; have := HS1.out; omega
        have hr11 : r ≤ 11 := hR.out.le h12
        obtain ⟨ac, cc, hvc⟩ := ZRow.slice hC.out
        subst hvc
        have q0 := (hbk.out.cell (p := ⟨w.heap.size, 0, none⟩) (by show w.heap.size < _; omega)).trans Q0.out.1
        have q1 := (hbk.out.cell (p := ⟨w.heap.size, 1, none⟩) (by show w.heap.size < _; omega)).trans Q0.out.2
        have hzw : w.heap.size < wr.heap.size := by omega
        have hBk : Below w.heap.size w wr := hB1.trans (hbk.out.mono (by omega))
        have HNK : Hid ((zn c).length = E.length) := by show _ = _; rw [zn_len]; exact hR.out.len
        generalize hnn : (zn c).length = nn at hC HNK ⊢
        clear hnn
        go_wp2_with fail
        refine (l12Split_any M E c _ _ _ _ (HM.out.below hBk) (HE.out.below hBk) (ZAt.own hC.out) HG.out (by rw [hR.out.len, HLE.out])).mono ?_
        rintro e w5 ⟨r5, rfl, ho5, hb5⟩
        have HC5 : Hid (ZRow w5 (w.heap.size + 1) (.slice ac nn cc) (zn c)) := ZRow.below hC.out hb5
        have HO5 : Hid (ZRow w5 (w.heap.size + 1) r5 (zn (sp M c))) := own_lowerM ho5 (by omega)
        have HB5 : Hid (Below (w.heap.size + 1) W1 w5) := hbk.out.trans (hb5.mono hszk)
        obtain ⟨a5, c5, hv5⟩ := ZRow.slice HO5.out
        subst hv5
        clear ho5 hb5 q0 q1 hC
        go_wp2_with fail
        refine (l12Same_any (sp M c) c _ _ _ (ZAt.own HO5.out) (ZAt.own HC5.out) (sp_len M c) (by rw [sp_len, hR.out.len]; exact h12)).mono ?_
        rintro e w6 ⟨rfl, hb6⟩
        have HC6 : Hid (ZRow w6 (w.heap.size + 1) (.slice ac nn cc) (zn c)) := ZRow.below HC5.out hb6
        have HO6 : Hid (ZRow w6 (w.heap.size + 1) (.slice a5 (zn (sp M c)).length c5) (zn (sp M c))) := ZRow.below HO5.out hb6
        have HB6 : Hid (Below (w.heap.size + 1) W1 w6) := HB5.out.trans (hb6.mono (by have := HB5.out.size; have := HS1.out; omega))
        clear hb6 HC5 HO5 HB5
        by_cases hsame : sp M c = c
        · have hd : decide (sp M c = c) = true := by simpa using hsame
          rw [hd]
          have HDN : Hid (CL = c ∧ CN = r) := by have h := hR.out.done h12 hsame; exact ⟨HCL.out.trans h.1, HCN.out.trans h.2⟩
          have hBe : Below w.heap.size w w6 := hB1.trans (HB6.out.mono (by omega))
          clear hd hsame
          go_wp2
          go_ret2
          refine ⟨⟨_, by rw [HDN.out.2]; rfl, ?_⟩, hBe⟩
          rw [HDN.out.1]
          exact own_lowerM HC6.out (by omega)
        · have hd : decide (sp M c = c) = false := by simpa using hsame
          rw [hd]
          have HRN : Hid (Rd M E (sp M c) (r + 1)) := hR.out.next h12 hsame
          clear hd hsame
          go_wp2
          go_roundw
          case rel => exact ⟨r + 1, _, by go_num, HO6, HRN, HB6⟩
          case measure => simp [intOf]; omega

end Go.Proofs.Ytecgjhnihagleaa
