/- The model's l12Split. -/
import Derived.Test.YtecgjhnihagleaaMcCb
import Derived.Test.YtecgjhnihagleaaMcMk
namespace Go.Proofs.Ytecgjhnihagleaa
open Go.RowKit Plain Mch Tpc

theorem zn_cl {α : Type} [DecidableEq α] (f : Nat → α) (k : Nat) : zn (cl f (k + 1)) = zn (cl f k) ++ [((fi f k : Nat) : Int)] := by
  rw [cl_succ]
  simp [zn]

set_option maxRecDepth 100000 in
set_option maxHeartbeats 4000000 in
theorem l12Split_any (M : List (List Int)) (E : List Bool) (c : List Nat) (vM eM v : Value) (w : World) (hM : MAt w w.heap.size vM M) (hE : EAt w w.heap.size eM E) (hv : ZAt w w.heap.size v (zn c)) (hg : gm M E = true) (hl : c.length = M.length) :
    Calls Try.prog 71 #[.agg #[vM, eM], v] w fun e w' => ∃ r, e = .returned r ∧ ZRow w' w.heap.size r (zn (sp M c)) ∧ Below w.heap.size w w' := by
  obtain ⟨i0, hi, hz0, hz1, hz2⟩ := info_parts Try.infoInt
  have HM : Hid (MAt w w.heap.size vM M) := hM
  have HE : Hid (EAt w w.heap.size eM E) := hE
  have HV : Hid (ZAt w w.heap.size v (zn c)) := hv
  have HG : Hid (gm M E = true) := hg
  have HL : Hid (c.length = M.length) := hl
  obtain ⟨aM, cM, rfl, hm1, hm2, _⟩ := hM
  obtain ⟨aE, cE, rfl, _⟩ := hE
  obtain ⟨av, cv, rfl, hc1, hc2, _⟩ := hv
  rw [zn_len] at hc1 HV
  rw [zn_len]
  unfold maxLen at hm2 hc2
  have h12 : M.length ≤ 12 := (gm_iff.1 hg).1.2.1
  rw [hl] at HV hc1
  rw [hl]
  have HSP : Hid (sp M c = cl (ky M c) M.length) := by show _ = _; unfold sp; rw [hl]
  clear hg hl
  obtain ⟨W1, hW1⟩ : ∃ W, W = w.alloc (.cells #[.slice aM M.length cM, .slice aE E.length cE] 30) := ⟨_, rfl⟩
  have hB1 : Below w.heap.size w W1 := by rw [hW1]; exact (Below.refl _ w).alloc (Nat.le_refl _) _
  have Q0 : Hid (W1.cell? ⟨w.heap.size, 0, none⟩ = some (.slice aM M.length cM) ∧ W1.cell? ⟨w.heap.size, 1, none⟩ = some (.slice aE E.length cE)) := by refine ⟨?_, ?_⟩ <;> rw [hW1] <;> go_simp
  have HS1 : Hid (W1.heap.size = w.heap.size + 1) := by show _ = _; rw [hW1]; simp
  have HZ0 : Hid (ZRow W1 (w.heap.size + 1) (.slice none 0 0) (zn (cl (ky M c) 0))) := ⟨rfl, .inl ⟨rfl, rfl⟩⟩
  have CA : Hid (∀ (W : World) (a b : Nat), Below w.heap.size w W → a < M.length → b < M.length → Calls Try.prog 84 #[.agg #[.slice aM M.length cM, .slice aE E.length cE], .slice av M.length cv, .int .i64 (a : Int), .int .i64 (b : Int)] W fun e w' => e = .returned (.bool (decide (ky M c a = ky M c b))) ∧ Below W.heap.size W w') := fun W a b hW ha hb => l12Alike_any M E c _ _ _ a b W (HM.out.below hW) (HE.out.below hW) (HV.out.below hW) HG.out HL.out ha hb
  generalize ky M c = f at HSP HZ0 CA
  go_enter Try.func71, Try.ntmps71
  go_upto_region 1 with fail
  rw [← hW1]
  clear hW1
  go_wp2
  go_loopw [5, 11] (fun vo vi wr => ∃ i : Nat, i ≤ M.length ∧ vi = .int .i64 (i : Int) ∧ Hid (ZRow wr (w.heap.size + 1) vo (zn (cl f i))) ∧ Hid (Below (w.heap.size + 1) W1 wr))
    (fun _ vi _ => M.length - (intOf vi).toNat)
  case atStart => exact ⟨0, by omega, rfl, HZ0, Below.refl _ _⟩
  case round =>
    obtain ⟨i, hin, rfl, hO, hbw⟩ := hrel
    clear HZ0
    have hszr : w.heap.size + 1 ≤ wr.heap.size := by have := hbw.out.size; have := HS1.out; omega
    obtain ⟨ao, co, hvo⟩ := ZRow.slice hO.out
    subst hvo
    rw [zn_len, cl_len]
    rw [zn_len, cl_len] at hO
    by_cases hlt : i < M.length
    · have hlt' : (i : Int) < (M.length : Int) := by omega
      obtain ⟨wo, hwo⟩ : ∃ W, W = wr := ⟨_, rfl⟩
      rw [← hwo] at hO hbw hszr
      go_wp2
      rw [← hwo]
      clear hwo
      go_loopw [7, 8] (fun vc vo wr => ∃ j : Nat, j ≤ i ∧ vo = .int .i64 ((j : Int) - 1) ∧ vc = .int .i64 ((dn f i j : Nat) : Int) ∧ Hid (Below wo.heap.size wo wr))
        (fun _ vo _ => (intOf vo + 1).toNat)
      case atStart => exact ⟨i, by omega, rfl, by rw [dn_top], Below.refl _ _⟩
      case round =>
        obtain ⟨j, hji, rfl, rfl, hbk⟩ := hrel
        have hB1k : Below (w.heap.size + 1) W1 wr := hbw.out.trans (hbk.out.mono hszr)
        have hBk : Below w.heap.size w wr := hB1.trans (hB1k.mono (by omega))
        have hszk : w.heap.size + 1 ≤ wr.heap.size := by have := hbk.out.size; omega
        by_cases hj : 1 ≤ j
        · obtain ⟨o, rfl⟩ : ∃ o, j = o + 1 := ⟨j - 1, by omega⟩
          have ho : (((o + 1 : Nat) : Int) - 1) = (o : Int) := by omega
          rw [ho]
          have hge : (0 : Int) ≤ (o : Int) := by omega
          have q0 := (hB1k.cell (p := ⟨w.heap.size, 0, none⟩) (by show w.heap.size < _; omega)).trans Q0.out.1
          have q1 := (hB1k.cell (p := ⟨w.heap.size, 1, none⟩) (by show w.heap.size < _; omega)).trans Q0.out.2
          have hzw : w.heap.size < wr.heap.size := by omega
          go_wp2_with fail
          refine (CA.out _ o i hBk (by omega) hlt).mono ?_
          rintro e w5 ⟨rfl, hb5⟩
          have HB5 : Hid (Below wo.heap.size wo w5) := hbk.out.trans (hb5.mono hbk.out.size)
          by_cases hal : f o = f i
          · have hd : decide (f o = f i) = true := by simpa using hal
            rw [hd]
            have HDN : Hid (dn f i o = fi f o) := dn_hit f (by omega) hal
            obtain ⟨gz, oz, hz1', hz2', hz3'⟩ := (ZAt.own hO.out).cx (i := o) (by rw [cl_len]; omega)
            rw [cl_at f (by omega)] at hz3'
            subst hz1'
            have cz := (HB5.out.cell (p := ⟨gz, oz + o, none⟩) hz2').trans hz3'
            have hoi : (o : Int) < (i : Int) := by omega
            rw [← HDN.out] at cz
            clear hd hal hb5 hz3' q0 q1
            obtain ⟨D, hD⟩ : ∃ D, D = dn f i o := ⟨_, rfl⟩
            have HDD : Hid (D = dn f i o) := hD
            rw [← hD] at cz
            clear hD
            go_wp2
            go_roundw
            case rel => exact ⟨o, by omega, by go_num, by rw [HDD.out], HB5⟩
            case measure => simp [intOf] <;> omega
          · have hd : decide (f o = f i) = false := by simpa using hal
            rw [hd]
            have HDN : Hid (dn f i (o + 1) = dn f i o) := (dn_miss f hal).symm
            rw [HDN.out]
            clear hd hal hb5 q0 q1
            go_wp2
            go_roundw
            case rel => exact ⟨o, by omega, by go_num, rfl, HB5⟩
            case measure => simp [intOf] <;> omega
        · have hj0 : j = 0 := by omega
          subst hj0
          have hge : ¬ ((0 : Int) ≤ ((0 : Nat) : Int) - 1) := by omega
          have HDN : Hid (dn f i 0 = fi f i) := dn_done f i
          rw [HDN.out]
          have HOk : Hid (ZRow wr (w.heap.size + 1) (.slice ao i co) (zn (cl f i))) := ZRow.below hO.out hbk.out
          have HNX : Hid (zn (cl f (i + 1)) = zn (cl f i) ++ [((fi f i : Nat) : Int)]) := zn_cl f i
          have HKL : Hid ((zn (cl f i)).length = i) := by show _ = _; rw [zn_len, cl_len]
          generalize fi f i = x at HNX ⊢
          generalize zn (cl f i) = K at HOk HNX HKL
          have hi12 : i ≤ 12 := by omega
          clear hO HDN
          go_wp2_with (at_builtin; refine wpList_append_lies _ rfl _ _ 27 rfl (w.heap.size + 1) 3 i0 (.int .i64 0) 1 8 Try.underlying27 hi hz0 hz1 hz2 rfl (by decide) _ i _ rfl (World.ownsRow.alloc (by have h := HOk.out; unfold ZRow at h; rw [HKL.out] at h; exact h) _) ⟨wr.heap.size, 0, none⟩ 1 1 [.int .i64 (x : Int)] rfl rfl (World.news_of_block (heap_alloc_new wr _)) (onezJ _) (by omega) (by unfold maxLen; omega) (by omega) (by simp; omega) (wr.heap.size + 1) (by simp) ?_)
          intro g9 cap9 w9 hown9 hgrow9 hat9 hlt9
          have HO9 : Hid (ZRow w9 (w.heap.size + 1) (.slice (some ⟨g9, 0, none⟩) (i + 1) cap9) (zn (cl f (i + 1)))) := by
            rw [HNX.out]
            have h := hown9
            rw [← HKL.out] at h
            have h2 := ZRow.snocM h
            rw [HKL.out] at h2
            exact h2
          have HB9 : Hid (Below (w.heap.size + 1) W1 w9) := below_grown hB1k hszk hgrow9 (fun g hg => (World.ownsRow.lt HOk.out g hg).1)
          clear hown9 hgrow9 hat9 hlt9 HOk
          go_wp2
          go_roundw
          case rel => exact ⟨i + 1, by omega, by go_num, HO9, HB9⟩
          case measure => simp [intOf]; omega
    · have hke : i = M.length := by omega
      have hge : ¬ ((i : Int) < (M.length : Int)) := by omega
      have HEND : Hid (ZRow wr w.heap.size (.slice ao i co) (zn (sp M c))) := by
        have h := hO.out
        rw [hke] at h
        show World.ownsRow _ _ _ _ _ _ _
        rw [HSP.out, hke]
        exact own_lowerM h (by omega)
      have hBr : Below w.heap.size w wr := hB1.trans (hbw.out.mono (by omega))
      clear hke hO
      go_wp2
      go_ret
      exact ⟨_, rfl, HEND.out, hBr⟩

end Go.Proofs.Ytecgjhnihagleaa
