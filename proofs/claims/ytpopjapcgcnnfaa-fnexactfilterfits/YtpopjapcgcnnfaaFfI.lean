/- The program's FilterFits. -/
import Derived.Test.YtpopjapcgcnnfaaFfA
import Derived.Test.YtpopjapcgcnnfaaWfF
import Derived.Deep.DeepCutAuto
import Derived.Shelf.Abstract
namespace Go.Proofs.Ytpopjapcgcnnfaa
open Go.RowKit Plain Sch Wan

attribute [local go_sem] storeJ storeF

set_option maxRecDepth 100000 in
set_option maxHeartbeats 16000000 in
theorem implFF (T : List Wa) (S : List Ty) (v1 v2 : Value) (w : World) (hT : WasAt w w.heap.size v1 T) (hS : TysAt w w.heap.size v2 S) :
    Calls Try.prog 35 #[.agg #[v1], .agg #[v2]] w fun e w' => e = .returned (.tuple #[.bool (ffo T S).1, .bool (ffo T S).2]) ∧ Below w.heap.size w w' := by
  have HT : Hid (WasAt w w.heap.size v1 T) := hT
  have HS : Hid (TysAt w w.heap.size v2 S) := hS
  obtain ⟨ao, cap, rfl, hlc, hcm, hrow, _⟩ := hT
  obtain ⟨au, capu, rfl, hlcu, hcmu, _⟩ := hS
  have HROW : Hid (∀ i, i < T.length → ∃ g o, ao = some ⟨g, o, none⟩ ∧ g < w.heap.size ∧ WaIn w g (o + i * 6) (wa T i)) := hrow
  clear hrow
  unfold maxLen at hcm hcmu
  obtain ⟨R, hR⟩ : ∃ R, R = ffo T S := ⟨_, rfl⟩
  rw [← hR]
  have HR : Hid (R = ffo T S) := hR
  clear hR
  obtain ⟨W1, hW1⟩ : ∃ W, W = (w.alloc (.cells #[.slice ao T.length cap] 43)).alloc (.cells #[.slice au S.length capu] 59) := ⟨_, rfl⟩
  have hB1 : Below w.heap.size w W1 := by rw [hW1]; exact ((Below.refl _ w).alloc (Nat.le_refl _) _).alloc (by simp) _
  have hs1 : Hid (W1.heap.size = w.heap.size + 2) := by show _ = _; rw [hW1]; simp
  have hl1 : w.heap.size + 1 < W1.heap.size := by rw [hs1.out]; omega
  have hl1' : w.heap.size < W1.heap.size := by rw [hs1.out]; omega
  have q1 : W1.cell? ⟨w.heap.size, 0, none⟩ = some (.slice ao T.length cap) := by rw [hW1]; go_simp
  have p1 : W1.cell? ⟨w.heap.size + 1, 0, none⟩ = some (.slice au S.length capu) := by rw [hW1]; go_simp
  have Q1 : Hid (∀ W, Below W1.heap.size W1 W → W.cell? ⟨w.heap.size, 0, none⟩ = some (.slice ao T.length cap) ∧ W.cell? ⟨w.heap.size + 1, 0, none⟩ = some (.slice au S.length capu) ∧ Below w.heap.size w W ∧ w.heap.size + 1 < W.heap.size) := fun W hW =>
    ⟨(hW.cell (p := ⟨w.heap.size, 0, none⟩) hl1').trans q1, (hW.cell (p := ⟨w.heap.size + 1, 0, none⟩) hl1).trans p1, hB1.trans (hW.mono (by omega)), by have := hW.size; omega⟩
  go_enter Try.func35, Try.ntmps35
  go_wp2_with fail
  rw [← hW1]
  clear hW1
  refine (implGoodF T _ _ (HT.out.below hB1)).mono ?_
  rintro e w2 ⟨rfl, hb2⟩
  obtain ⟨q2, p2, hB2, hl2⟩ := Q1.out _ hb2
  clear q1 p1
  cases hg : gf T with
  | false =>
    have hn : Hid (R = (false, false)) := HR.out.trans (by unfold ffo; rw [hg]; rfl)
    clear HR hg
    go_wp2
    go_ret2
    exact ⟨by rw [hn.out]; rfl, hB2⟩
  | true =>
    go_wp2_with fail
    refine (implGoodT S _ _ (HS.out.below hB2)).mono ?_
    rintro e w3 ⟨rfl, hb3⟩
    have hb13 : Below W1.heap.size W1 w3 := hb2.trans (hb3.mono hb2.size)
    clear q2 p2 hl2
    obtain ⟨q3, p3, hB3, hl3⟩ := Q1.out _ hb13
    clear hb2 hb3 hB2
    cases hgs : gs S with
    | false =>
      have hn : Hid (R = (false, false)) := HR.out.trans (by unfold ffo; rw [hg, hgs]; rfl)
      clear HR hg hgs
      go_wp2
      go_ret2
      exact ⟨by rw [hn.out]; rfl, hB3⟩
    | true =>
      have hn0 : Hid (R = (T.all (ffW (tree S 41 0).kids), true)) := HR.out.trans (by unfold ffo; rw [hg, hgs]; rfl)
      obtain ⟨h0, h20⟩ := gf_len hg
      have hS1 := gs_types S hgs
      have OP : Hid (Calls Try.prog 77 #[.slice au S.length capu, .int .i64 0] w3 (OwnPartsR S 40 0 w3)) := ownParts_any S _ hgs 40 0 w3 (HS.out.below hB3) (by omega) (by omega)
      unfold OwnPartsR at OP
      have hK : Hid ((kids S 0).map (tree S 40) = (tree S 41 0).kids) := rfl
      rw [hK.out] at OP
      generalize (tree S 41 0).kids = l at OP hn0
      clear HR hg hgs hS1 hK
      go_wp2_with fail
      refine OP.out.mono ?_
      rintro e w4 ⟨c, rfl, hpk, hb4⟩
      have hb14 : Below W1.heap.size W1 w4 := hb13.trans (hb4.mono hb13.size)
      clear q3 p3 hl3 OP
      obtain ⟨q4, p4, hB4, hl4⟩ := Q1.out _ hb14
      have hs34 : w3.heap.size ≤ w4.heap.size := hb4.size
      have HPK : Hid (PartsIn 40 w4 (fun g => w3.heap.size ≤ g ∧ g < w4.heap.size) c l) := hpk
      obtain ⟨ac, capc, rfl, _, hccm, _⟩ := hpk
      clear hb4 hb13 hB3 hb14
      obtain ⟨RR, hRR⟩ : ∃ RR, RR = T.all (ffW l) := ⟨_, rfl⟩
      have hn : Hid (R = (RR, true)) := by show _ = _; rw [hn0.out, hRR]
      have hRd : Hid (RR = (T.drop 0).all (ffW l)) := hRR
      clear hRR hn0
      go_wp2
      go_loopw [27] (fun vi wr => ∃ i : Nat, i ≤ T.length ∧ vi = .int .i64 (i : Int) ∧ Hid (RR = (T.drop i).all (ffW l)) ∧ Hid (Below w4.heap.size w4 wr))
        (fun vi _ => T.length - (intOf vi).toNat)
      case atStart => exact ⟨0, by omega, rfl, hRd, Below.refl _ _⟩
      case round =>
        obtain ⟨i, hi', rfl, hRi, hBw⟩ := hrel
        have hB0 : Below w.heap.size w wr := hB4.trans (hBw.out.mono (by omega))
        have hsz : w4.heap.size ≤ wr.heap.size := hBw.out.size
        clear hRd
        by_cases hlt : i < T.length
        · have hlt' : (i : Int) < (T.length : Int) := by omega
          obtain ⟨g, o, rfl, hg, hty⟩ := HROW.out i hlt
          have hci := hty.below hB0 hg
          have hSt : Hid (RR = (ffW l (wa T i) && (T.drop (i + 1)).all (ffW l))) := by show _ = _; rw [hRi.out, drop_wa T i hlt]; rfl
          clear hRi
          generalize wa T i = x at hci hSt
          obtain ⟨k, n, m, t, a, b⟩ := x
          obtain ⟨c0, c1, c2, c3, c4, c5⟩ := hci
          dsimp only at c0 c1 c2 c3 c4 c5
          clear hty
          obtain ⟨W5, hW5⟩ : ∃ W, W = wr.alloc (.cells #[.int .i64 k, .int .i64 n, .int .i64 m, .string t, .int .i64 a, .int .i64 b] 97) := ⟨_, rfl⟩
          have hA5 : Below wr.heap.size wr W5 := by rw [hW5]; exact (Below.refl _ wr).alloc (Nat.le_refl _) _
          have hl5 : wr.heap.size < W5.heap.size := by rw [hW5]; simp
          have z1 : W5.cell? ⟨wr.heap.size, 1, none⟩ = some (.int .i64 n) := by rw [hW5]; go_simp
          go_wp2_with fail
          rw [← hW5]
          clear hW5 c0 c1 c2 c3 c4 c5
          refine (fieldAskOf_any k _).mono ?_
          rintro e w6 ⟨fv, rfl, hv6, hb6⟩
          have hA6 : Below wr.heap.size wr w6 := hA5.trans (hb6.mono hA5.size)
          have hl6 : wr.heap.size < w6.heap.size := by have := hb6.size; omega
          have z1 := (hb6.cell (p := ⟨wr.heap.size, 1, none⟩) hl5).trans z1
          clear hb6 hA5 hl5
          cases hk : isAsk k with
          | false =>
            have hvn : fv = .nilFunc := by
              rcases hv6 with ⟨h, _⟩ | ⟨h, _⟩ | ⟨h, _⟩ | ⟨_, h⟩
              · unfold askN at h; unfold isAsk at hk; simp at h hk; omega
              · rw [h] at hk; cases hk
              · rw [h] at hk; cases hk
              · exact h
            subst hvn
            have hRn : Hid (RR = (T.drop (i + 1)).all (ffW l)) := by show _ = _; rw [hSt.out]; unfold ffW; dsimp only; rw [hk]; rfl
            have hBn : Hid (Below w4.heap.size w4 (w6.alloc (.cells #[.bool (askN k), .bool (askT k), fnF k, .nilFunc] 116))) := (hBw.out.trans (hA6.mono hsz)).alloc (by omega) _
            clear hSt hv6 hk
            go_wp2
            go_roundw
            case rel => first | exact ⟨i + 1, by omega, by go_num, hRn, hBn⟩ | ((repeat apply Exists.intro); exact ⟨⟨i + 1, by omega, by go_num, hRn, hBn⟩, rfl⟩)
            case measure => simp [intOf]; omega
          | true =>
            obtain ⟨pf, qf, rf, rfl⟩ := hv6.func hk
            have hfn := fnF_fn hk
            have hFW : Hid (RR = ((match byNo l n with | some y => fitK k y.kind | none => false) && (T.drop (i + 1)).all (ffW l))) := by show _ = _; rw [hSt.out]; unfold ffW; dsimp only; rw [hk]; rfl
            have CF : Hid (∀ (d : Int) (W : World), Calls Try.prog (fnN k) #[.int .i64 d] W fun e w' => e = .returned (.bool (fitK k d)) ∧ w' = W) := fun d W => fits_any k d W
            have hEG : ∀ (args : Array Value) (W : World), (callFunc (fnN k) args).run Try.prog W = .ok (.enter (fnN k) args) W := by
              rcases fnN_cases k with h | h | h
              · rw [h]; exact Go.Proofs.enters_of Try.func141 (by kernel_rfl) rfl
              · rw [h]; exact Go.Proofs.enters_of Try.func120 (by kernel_rfl) rfl
              · rw [h]; exact Go.Proofs.enters_of Try.func118 (by kernel_rfl) rfl
            rw [hfn]
            generalize askN k = b1 at *
            generalize askT k = b2 at *
            generalize fnN k = fk at hEG CF ⊢
            obtain ⟨W7, hW7⟩ : ∃ W, W = w6.alloc (.cells #[.bool b1, .bool b2, .func (.func fk) #[] #[], .func pf qf rf] 116) := ⟨_, rfl⟩
            have hA7 : Below wr.heap.size wr W7 := by rw [hW7]; exact hA6.alloc (by omega) _
            have hA67 : Below w6.heap.size w6 W7 := by rw [hW7]; exact (Below.refl _ w6).alloc (Nat.le_refl _) _
            have hl7 : w6.heap.size < W7.heap.size := by rw [hW7]; simp
            have z1 : W7.cell? ⟨wr.heap.size, 1, none⟩ = some (.int .i64 n) := (hA67.cell (p := ⟨wr.heap.size, 1, none⟩) hl6).trans z1
            have y2 : W7.cell? ⟨w6.heap.size, 2, none⟩ = some (.func (.func fk) #[] #[]) := by rw [hW7]; go_simp
            have hB47 : Below w4.heap.size w4 W7 := hBw.out.trans (hA7.mono hsz)
            have HPK7 : Hid (PartsIn 40 W7 (fun g => w3.heap.size ≤ g ∧ g < w4.heap.size) (.slice ac l.length capc) l) := HPK.out.kept (fun g hg => hB47.block g hg.2) (fun _ h => h)
            have PB : Hid (Calls Try.prog 79 #[.slice ac l.length capc, .int .i64 n] W7 fun e w' => PtR 40 w' (fun g => w3.heap.size ≤ g ∧ g < w4.heap.size) l n e ∧ Below W7.heap.size W7 w') := partByNo_any 40 _ _ n _ W7 HPK7.out (fun g hg => by have := hB47.size; omega)
            have hw47 : w4.heap.size ≤ W7.heap.size := hB47.size
            go_wp2_with fail
            rw [← hW7]
            clear hW7 HPK7 hA67 hv6 hSt hk hfn hA6 hl6
            refine PB.out.mono ?_
            rintro e w8 ⟨hpt, hb8⟩
            have hB48 : Hid (Below w4.heap.size w4 w8) := hB47.trans (hb8.mono hw47)
            have hl8 : w6.heap.size < w8.heap.size := by have := hb8.size; omega
            have y2 := (hb8.cell (p := ⟨w6.heap.size, 2, none⟩) hl7).trans y2
            have hw48 : w4.heap.size ≤ w8.heap.size := hB48.out.size
            clear hb8 PB z1 hB47 hl7 hA7
            rcases hpt with ⟨y, ya, yv, hby, rfl, hsh⟩ | ⟨hby, rfl⟩
            · have hFY : Hid (RR = (fitK k y.kind && (T.drop (i + 1)).all (ffW l))) := by show _ = _; rw [hFW.out, hby]
              have CFY : Hid (∀ (W : World), Calls Try.prog fk #[.int .i64 y.kind] W fun e w' => e = .returned (.bool (fitK k y.kind)) ∧ w' = W) := fun W => CF.out y.kind W
              have hsh' : ShIn (39 + 1) w8 (fun g => w3.heap.size ≤ g ∧ g < w4.heap.size) (.iface ya yv) y := hsh
              rw [ShIn] at hsh'
              clear hsh hFW CF hby
              generalize fitK k y.kind = fit at hFY CFY
              obtain ⟨W9, hW9⟩ : ∃ W, W = w8.alloc (.cells #[.string y.name, .int .i64 y.no, .bool y.must, .iface ya yv] 122) := ⟨_, rfl⟩
              have hA89 : Below w8.heap.size w8 W9 := by rw [hW9]; exact (Below.refl _ w8).alloc (Nat.le_refl _) _
              have hB49 : Hid (Below w4.heap.size w4 W9) := hB48.out.trans (hA89.mono hw48)
              have y2 := (hA89.cell (p := ⟨w6.heap.size, 2, none⟩) hl8).trans y2
              have x3 : W9.cell? ⟨w8.heap.size, 3, none⟩ = some (.iface ya yv) := by rw [hW9]; go_simp
              have hl9 : w8.heap.size < W9.heap.size := by rw [hW9]; simp
              have hl69 : w6.heap.size < W9.heap.size := by omega
              go_upto_region 10 with fail
              rw [← hW9]
              clear hW9 hA89 hB48 hBw hB0
              have hBd : Hid (Below w4.heap.size w4 W9.drew) := hB49.out.drew
              have hw49 : w4.heap.size ≤ W9.heap.size := hB49.out.size
              rcases hsh' with ⟨_, ⟨hk, hv⟩ | ⟨hk, hv⟩ | ⟨hk, hv⟩⟩ | ⟨hk, x9, l9, u9, _, hv, _⟩ | ⟨hk, ap, cp, hv, _⟩
              · simp only [Value.iface.injEq] at hv
                obtain ⟨rfl, rfl⟩ := hv
                rw [hk] at CFY
                have CK : Hid (∀ W : World, Calls Try.prog 182 #[.agg #[]] W fun e w' => e = .returned (.int .i64 1) ∧ Below W.heap.size W w') := fun W => kindNumW W
                clear hk
                go_cut [56] from 46 to 56 (fun s56 wx => s56 = .bool (!fit) ∧ Below w4.heap.size w4 wx)
                case first =>
                  go_region_with (first | (go_at_fn fk; refine (CFY.out _).mono ?_; rintro e w11 ⟨rfl, rfl⟩) | (go_at_call 182; refine (CK.out _).mono ?_; rintro e w10 ⟨rfl, hb10⟩; have hB10 : Below w4.heap.size w4 w10 := hBd.out.trans (hb10.mono hw49); have y2 := (hb10.cell (p := ⟨w6.heap.size, 2, none⟩) hl69).trans y2; have x3 := (hb10.cell (p := ⟨w8.heap.size, 3, none⟩) hl9).trans x3))
                  all_goals
                    go_wp2_with fail
                    go_meet
                    exact ⟨rfl, hB10⟩
                case rest =>
                  obtain ⟨rfl, hBc⟩ := hcut
                  have HBc : Hid (Below w4.heap.size w4 wc) := hBc
                  clear hBc CFY CK hEG y2 x3
                  cases fit with
                  | true =>
                    have hRn : Hid (RR = (T.drop (i + 1)).all (ffW l)) := by show _ = _; rw [hFY.out]; rfl
                    clear hFY
                    go_wp2
                    go_roundw
                    case rel => first | exact ⟨i + 1, by omega, by go_num, hRn, HBc⟩ | ((repeat apply Exists.intro); exact ⟨⟨i + 1, by omega, by go_num, hRn, HBc⟩, rfl⟩)
                    case measure => simp [intOf]; omega
                  | false =>
                    have hRn : Hid (RR = false) := by show _ = _; rw [hFY.out]; rfl
                    clear hFY
                    go_wp2
                    go_ret2
                    exact ⟨by rw [hn.out, hRn.out]; rfl, hB4.trans (HBc.out.mono (by omega))⟩
              · simp only [Value.iface.injEq] at hv
                obtain ⟨rfl, rfl⟩ := hv
                rw [hk] at CFY
                have CK : Hid (∀ W : World, Calls Try.prog 183 #[.agg #[]] W fun e w' => e = .returned (.int .i64 2) ∧ Below W.heap.size W w') := fun W => kindTxtW W
                clear hk
                go_cut [56] from 46 to 56 (fun s56 wx => s56 = .bool (!fit) ∧ Below w4.heap.size w4 wx)
                case first =>
                  go_region_with (first | (go_at_fn fk; refine (CFY.out _).mono ?_; rintro e w11 ⟨rfl, rfl⟩) | (go_at_call 183; refine (CK.out _).mono ?_; rintro e w10 ⟨rfl, hb10⟩; have hB10 : Below w4.heap.size w4 w10 := hBd.out.trans (hb10.mono hw49); have y2 := (hb10.cell (p := ⟨w6.heap.size, 2, none⟩) hl69).trans y2; have x3 := (hb10.cell (p := ⟨w8.heap.size, 3, none⟩) hl9).trans x3))
                  all_goals
                    go_wp2_with fail
                    go_meet
                    exact ⟨rfl, hB10⟩
                case rest =>
                  obtain ⟨rfl, hBc⟩ := hcut
                  have HBc : Hid (Below w4.heap.size w4 wc) := hBc
                  clear hBc CFY CK hEG y2 x3
                  cases fit with
                  | true =>
                    have hRn : Hid (RR = (T.drop (i + 1)).all (ffW l)) := by show _ = _; rw [hFY.out]; rfl
                    clear hFY
                    go_wp2
                    go_roundw
                    case rel => first | exact ⟨i + 1, by omega, by go_num, hRn, HBc⟩ | ((repeat apply Exists.intro); exact ⟨⟨i + 1, by omega, by go_num, hRn, HBc⟩, rfl⟩)
                    case measure => simp [intOf]; omega
                  | false =>
                    have hRn : Hid (RR = false) := by show _ = _; rw [hFY.out]; rfl
                    clear hFY
                    go_wp2
                    go_ret2
                    exact ⟨by rw [hn.out, hRn.out]; rfl, hB4.trans (HBc.out.mono (by omega))⟩
              · simp only [Value.iface.injEq] at hv
                obtain ⟨rfl, rfl⟩ := hv
                rw [hk] at CFY
                have CK : Hid (∀ W : World, Calls Try.prog 184 #[.agg #[.int .i64 y.most]] W fun e w' => e = .returned (.int .i64 3) ∧ Below W.heap.size W w') := fun W => kindEnuW y.most W
                clear hk
                go_cut [56] from 46 to 56 (fun s56 wx => s56 = .bool (!fit) ∧ Below w4.heap.size w4 wx)
                case first =>
                  go_region_with (first | (go_at_fn fk; refine (CFY.out _).mono ?_; rintro e w11 ⟨rfl, rfl⟩) | (go_at_call 184; refine (CK.out _).mono ?_; rintro e w10 ⟨rfl, hb10⟩; have hB10 : Below w4.heap.size w4 w10 := hBd.out.trans (hb10.mono hw49); have y2 := (hb10.cell (p := ⟨w6.heap.size, 2, none⟩) hl69).trans y2; have x3 := (hb10.cell (p := ⟨w8.heap.size, 3, none⟩) hl9).trans x3))
                  all_goals
                    go_wp2_with fail
                    go_meet
                    exact ⟨rfl, hB10⟩
                case rest =>
                  obtain ⟨rfl, hBc⟩ := hcut
                  have HBc : Hid (Below w4.heap.size w4 wc) := hBc
                  clear hBc CFY CK hEG y2 x3
                  cases fit with
                  | true =>
                    have hRn : Hid (RR = (T.drop (i + 1)).all (ffW l)) := by show _ = _; rw [hFY.out]; rfl
                    clear hFY
                    go_wp2
                    go_roundw
                    case rel => first | exact ⟨i + 1, by omega, by go_num, hRn, HBc⟩ | ((repeat apply Exists.intro); exact ⟨⟨i + 1, by omega, by go_num, hRn, HBc⟩, rfl⟩)
                    case measure => simp [intOf]; omega
                  | false =>
                    have hRn : Hid (RR = false) := by show _ = _; rw [hFY.out]; rfl
                    clear hFY
                    go_wp2
                    go_ret2
                    exact ⟨by rw [hn.out, hRn.out]; rfl, hB4.trans (HBc.out.mono (by omega))⟩
              · simp only [Value.iface.injEq] at hv
                obtain ⟨rfl, rfl⟩ := hv
                rw [hk] at CFY
                have CK : Hid (∀ W : World, Calls Try.prog 185 #[.agg #[.iface u9.1 u9.2]] W fun e w' => e = .returned (.int .i64 4) ∧ Below W.heap.size W w') := fun W => kindLstW u9.1 u9.2 W
                clear hk
                go_cut [56] from 46 to 56 (fun s56 wx => s56 = .bool (!fit) ∧ Below w4.heap.size w4 wx)
                case first =>
                  go_region_with (first | (go_at_fn fk; refine (CFY.out _).mono ?_; rintro e w11 ⟨rfl, rfl⟩) | (go_at_call 185; refine (CK.out _).mono ?_; rintro e w10 ⟨rfl, hb10⟩; have hB10 : Below w4.heap.size w4 w10 := hBd.out.trans (hb10.mono hw49); have y2 := (hb10.cell (p := ⟨w6.heap.size, 2, none⟩) hl69).trans y2; have x3 := (hb10.cell (p := ⟨w8.heap.size, 3, none⟩) hl9).trans x3))
                  all_goals
                    go_wp2_with fail
                    go_meet
                    exact ⟨rfl, hB10⟩
                case rest =>
                  obtain ⟨rfl, hBc⟩ := hcut
                  have HBc : Hid (Below w4.heap.size w4 wc) := hBc
                  clear hBc CFY CK hEG y2 x3
                  cases fit with
                  | true =>
                    have hRn : Hid (RR = (T.drop (i + 1)).all (ffW l)) := by show _ = _; rw [hFY.out]; rfl
                    clear hFY
                    go_wp2
                    go_roundw
                    case rel => first | exact ⟨i + 1, by omega, by go_num, hRn, HBc⟩ | ((repeat apply Exists.intro); exact ⟨⟨i + 1, by omega, by go_num, hRn, HBc⟩, rfl⟩)
                    case measure => simp [intOf]; omega
                  | false =>
                    have hRn : Hid (RR = false) := by show _ = _; rw [hFY.out]; rfl
                    clear hFY
                    go_wp2
                    go_ret2
                    exact ⟨by rw [hn.out, hRn.out]; rfl, hB4.trans (HBc.out.mono (by omega))⟩
              · simp only [Value.iface.injEq] at hv
                obtain ⟨rfl, rfl⟩ := hv
                rw [hk] at CFY
                have CK : Hid (∀ W : World, Calls Try.prog 186 #[.agg #[.slice ap y.kids.length cp]] W fun e w' => e = .returned (.int .i64 5) ∧ Below W.heap.size W w') := fun W => kindMsgW ap y.kids.length cp W
                clear hk
                go_cut [56] from 46 to 56 (fun s56 wx => s56 = .bool (!fit) ∧ Below w4.heap.size w4 wx)
                case first =>
                  go_region_with (first | (go_at_fn fk; refine (CFY.out _).mono ?_; rintro e w11 ⟨rfl, rfl⟩) | (go_at_call 186; refine (CK.out _).mono ?_; rintro e w10 ⟨rfl, hb10⟩; have hB10 : Below w4.heap.size w4 w10 := hBd.out.trans (hb10.mono hw49); have y2 := (hb10.cell (p := ⟨w6.heap.size, 2, none⟩) hl69).trans y2; have x3 := (hb10.cell (p := ⟨w8.heap.size, 3, none⟩) hl9).trans x3))
                  all_goals
                    go_wp2_with fail
                    go_meet
                    exact ⟨rfl, hB10⟩
                case rest =>
                  obtain ⟨rfl, hBc⟩ := hcut
                  have HBc : Hid (Below w4.heap.size w4 wc) := hBc
                  clear hBc CFY CK hEG y2 x3
                  cases fit with
                  | true =>
                    have hRn : Hid (RR = (T.drop (i + 1)).all (ffW l)) := by show _ = _; rw [hFY.out]; rfl
                    clear hFY
                    go_wp2
                    go_roundw
                    case rel => first | exact ⟨i + 1, by omega, by go_num, hRn, HBc⟩ | ((repeat apply Exists.intro); exact ⟨⟨i + 1, by omega, by go_num, hRn, HBc⟩, rfl⟩)
                    case measure => simp [intOf]; omega
                  | false =>
                    have hRn : Hid (RR = false) := by show _ = _; rw [hFY.out]; rfl
                    clear hFY
                    go_wp2
                    go_ret2
                    exact ⟨by rw [hn.out, hRn.out]; rfl, hB4.trans (HBc.out.mono (by omega))⟩
            · have hRn : Hid (RR = false) := by show _ = _; rw [hFW.out, hby]; rfl
              clear hFW CF hEG hby y2
              have hB9 : Below w.heap.size w (w8.alloc (.cells #[.string ⟨#[]⟩, .int .i64 0, .bool false, .nilIface] 122)) := hB4.trans ((hB48.out.alloc hw48 _).mono (by omega))
              go_upto_region 10 with fail
              go_quiet (fail)
              go_wp2
              go_ret2
              exact ⟨by rw [hn.out, hRn.out]; rfl, by first | exact hB9 | exact hB9.drew | exact below_drewN hB9⟩
        · have hke : i = T.length := by omega
          subst hke
          have hge : ¬ ((T.length : Int) < (T.length : Int)) := by omega
          have hRn : Hid (RR = true) := by show _ = _; rw [hRi.out, List.drop_length]; rfl
          clear hRi
          go_wp2
          go_ret2
          exact ⟨by rw [hn.out, hRn.out]; rfl, hB0⟩

end Go.Proofs.Ytpopjapcgcnnfaa
