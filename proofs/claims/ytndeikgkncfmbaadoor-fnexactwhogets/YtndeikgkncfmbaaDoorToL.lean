/- The program's levelsMeet. -/
import Derived.Test.YtndeikgkncfmbaaDoorToK
namespace Go.Proofs.YtndeikgkncfmbaaDoor
open Go.RowKit Plain Tpc

set_option maxRecDepth 100000 in
theorem slice_from (ao : Option Addr) (n cap k : Nat) (hk : k ≤ n) (W : World) : (Instr.slice 48 (.slice ao n cap) (some (.int .i64 (k : Int))) none none).run Tryd.prog W = .ok (.slice (if cap = k then ao else ao.map (·.add (k * 1))) (n - k) (cap - k)) W := by
  rw [run_slice_l (P := Tryd.prog) (w := W) 48 ao n cap Tryd.underlying48 .i64 (k : Int) (by omega) (by omega)]
  have e : (sizeOf (Tryd.prog.elem 48)).run Tryd.prog W = .ok 1 W := by kernel_rfl
  rw [e]
  show Result.ok (sliced ao (k : Int).toNat n cap 1) W = _
  unfold sliced
  rw [Int.toNat_natCast]

theorem addr_add (g o k : Nat) : (⟨g, o, none⟩ : Addr).add k = ⟨g, o + k, none⟩ := by
  unfold Addr.add
  split
  · subst_vars; rfl
  · rfl

set_option maxRecDepth 100000 in
set_option maxHeartbeats 8000000 in
theorem levelsMeet_any (P T : List ByteArray) (v u : Value) (w : World) (hP : StAt w w.heap.size v P) (hT : StAt w w.heap.size u T) :
    Calls Tryd.prog 46 #[v, u] w fun e w' => e = .returned (.bool (mts P T)) ∧ Below w.heap.size w w' := by
  have SA : Hid (StAt w w.heap.size v P) := hP
  have SB : Hid (StAt w w.heap.size u T) := hT
  obtain ⟨ao, cap, rfl, hlc, hcm, hro⟩ := hP
  obtain ⟨bo, dap, rfl, hld, hdm, hrb⟩ := hT
  have hcm' : cap ≤ 9223372036854775807 := by unfold maxLen at hcm; omega
  have hdm' : dap ≤ 9223372036854775807 := by unfold maxLen at hdm; omega
  have HROW : Hid (∀ i, i < P.length → ∃ g o, ao = some ⟨g, o, none⟩ ∧ g < w.heap.size ∧ w.cell? ⟨g, o + i, none⟩ = some (.string (lq P i))) := hro
  have HROB : Hid (∀ i, i < T.length → ∃ g o, bo = some ⟨g, o, none⟩ ∧ g < w.heap.size ∧ w.cell? ⟨g, o + i, none⟩ = some (.string (lq T i))) := hrb
  clear hro hrb
  obtain ⟨R, hR⟩ : ∃ R, R = mts P T := ⟨_, rfl⟩
  rw [← hR]
  have HR : Hid (R = mts P T) := hR
  clear hR
  obtain ⟨C, hC⟩ : ∃ C, C = min P.length T.length := ⟨_, rfl⟩
  have hCm : min (P.length : Int) (T.length : Int) = (C : Int) := by omega
  have hCP : C ≤ P.length := by omega
  have hCT : C ≤ T.length := by omega
  have HCE : Hid (C = P.length ∨ C = T.length) := by show _ ∨ _; omega
  clear hC
  obtain ⟨a2, ha2⟩ : ∃ a2, a2 = if cap = C then ao else ao.map (·.add (C * 1)) := ⟨_, rfl⟩
  have HA2 : Hid (C < P.length → ∀ g o, ao = some ⟨g, o, none⟩ → a2 = some ⟨g, o + C, none⟩) := fun h2 g o h1 => by
    rw [ha2, if_neg (by omega), h1, Nat.mul_one]
    show some ((⟨g, o, none⟩ : Addr).add C) = _
    rw [addr_add]
  have hsl1 : ∀ W : World, (Instr.slice 48 (.slice ao P.length cap) (some (.int .i64 (C : Int))) none none).run Tryd.prog W = .ok (.slice a2 (P.length - C) (cap - C)) W := fun W => by rw [ha2]; exact slice_from ao P.length cap C hCP W
  obtain ⟨b2, hb2⟩ : ∃ a2, a2 = if dap = C then bo else bo.map (·.add (C * 1)) := ⟨_, rfl⟩
  have HB2 : Hid (C < T.length → ∀ g o, bo = some ⟨g, o, none⟩ → b2 = some ⟨g, o + C, none⟩) := fun h2 g o h1 => by
    rw [hb2, if_neg (by omega), h1, Nat.mul_one]
    show some ((⟨g, o, none⟩ : Addr).add C) = _
    rw [addr_add]
  have hsl2 : ∀ W : World, (Instr.slice 48 (.slice bo T.length dap) (some (.int .i64 (C : Int))) none none).run Tryd.prog W = .ok (.slice b2 (T.length - C) (dap - C)) W := fun W => by rw [hb2]; exact slice_from bo T.length dap C hCT W
  clear ha2 hb2
  go_enter Tryd.func46, Tryd.ntmps46
  go_upto_region 2 with fail
  clear hCm
  go_wp2
  go_loopw [13] (fun vi wr => ∃ (k : Nat), k ≤ C ∧ True ∧ vi = .int .i64 (k : Int) ∧ Hid (R = mts (P.drop k) (T.drop k)) ∧ Hid (Below w.heap.size w wr))
    (fun vi _ => C - (intOf vi).toNat)
  case atStart => exact ⟨0, by omega, trivial, rfl, HR.out, Below.refl _ _⟩
  case round =>
    obtain ⟨k, hk, hkc, rfl, hst, hbw⟩ := hrel
    by_cases hlt : k < C
    · have hltI : (k : Int) < (C : Int) := by omega
      have hkP : k < P.length := by omega
      have hkT : k < T.length := by omega
      have hkPI : (k : Int) < (P.length : Int) := by omega
      have hkTI : (k : Int) < (T.length : Int) := by omega
      obtain ⟨g, o, ha, hg, c0⟩ := HROW.out k hkP
      obtain ⟨g2, o2, hb, hg2, c20⟩ := HROB.out k hkT
      subst ha
      subst hb
      have c := (hbw.out.cell (p := ⟨g, o + k, none⟩) hg).trans c0
      have c2 := (hbw.out.cell (p := ⟨g2, o2 + k, none⟩) hg2).trans c20
      have HH := mts_H1 P T k hkP
      have HH2 := mts_H2 P T k hkT
      have HS := mts_step P T k hkP hkT
      obtain ⟨x, hx⟩ : ∃ x, lq P k = x := ⟨_, rfl⟩
      obtain ⟨y, hy⟩ : ∃ y, lq T k = y := ⟨_, rfl⟩
      rw [hx] at c HH HS
      rw [hy] at c2 HH2 HS
      have HH : Hid (isH x = true → mts (P.drop k) (T.drop k) = true) := HH
      have HH2 : Hid (isH y = true → mts (P.drop k) (T.drop k) = true) := HH2
      have HS : Hid (isH x = false → isH y = false → mts (P.drop k) (T.drop k) = ((isP x || isP y || eqT x y) && mts (P.drop (k + 1)) (T.drop (k + 1)))) := HS
      clear hx hy c0 c20
      rcases hh : isH x with _ | _
      · have eh : (x.toList == [35]) = false := hh
        rcases hhy : isH y with _ | _
        · have ehy : (y.toList == [35]) = false := hhy
          have hS : Hid (mts (P.drop k) (T.drop k) = ((isP x || isP y || eqT x y) && mts (P.drop (k + 1)) (T.drop (k + 1)))) := HS.out hh hhy
          clear HH HH2 HS hh hhy
          rcases hq : eqT x y with _ | _
          · have eq : (x.toList == y.toList) = false := hq
            rcases hp : isP x with _ | _
            · have ep : (x.toList == [43]) = false := hp
              rcases hpy : isP y with _ | _
              · have epy : (y.toList == [43]) = false := hpy
                have hF : Hid (R = false) := hst.out.trans (by rw [hS.out, hp, hpy, hq]; rfl)
                clear hst hS hp hq hpy
                go_wp2_with fail
                go_quiet (fail)
                go_wp2
                go_ret
                exact ⟨by rw [hF.out]; rfl, below_drewT hbw.out⟩
              · have epy : (y.toList == [43]) = true := hpy
                have hF : Hid (R = mts (P.drop (k + 1)) (T.drop (k + 1))) := hst.out.trans (by rw [hS.out, hp, hpy]; rfl)
                clear hst hS hp hpy hq
                go_wp2_with fail
                go_quiet (fail)
                go_wp2
                go_roundw
                case rel => exact ⟨k + 1, by omega, trivial, by go_num, hF, below_drewT hbw.out⟩
                case measure => simp [intOf]; omega
            · have ep : (x.toList == [43]) = true := hp
              have hF : Hid (R = mts (P.drop (k + 1)) (T.drop (k + 1))) := hst.out.trans (by rw [hS.out, hp]; rfl)
              clear hst hS hp hq
              go_wp2_with fail
              go_quiet (fail)
              go_wp2
              go_roundw
              case rel => exact ⟨k + 1, by omega, trivial, by go_num, hF, below_drewT hbw.out⟩
              case measure => simp [intOf]; omega
          · have eq : (x.toList == y.toList) = true := hq
            have hF : Hid (R = mts (P.drop (k + 1)) (T.drop (k + 1))) := hst.out.trans (by rw [hS.out, hq, Bool.or_true]; rfl)
            clear hst hS hq
            go_wp2_with fail
            go_quiet (fail)
            go_wp2
            go_roundw
            case rel => exact ⟨k + 1, by omega, trivial, by go_num, hF, below_drewT hbw.out⟩
            case measure => simp [intOf]; omega
        · have ehy : (y.toList == [35]) = true := hhy
          have hF : Hid (R = true) := hst.out.trans (HH2.out hhy)
          clear hst HS hhy HH2 HH hh
          go_wp2
          go_ret
          exact ⟨by rw [hF.out]; rfl, hbw.out⟩
      · have eh : (x.toList == [35]) = true := hh
        have hF : Hid (R = true) := hst.out.trans (HH.out hh)
        clear hst HS HH2 HH hh
        go_wp2
        go_ret
        exact ⟨by rw [hF.out]; rfl, hbw.out⟩
    · have hke : k = C := by omega
      have hge : ¬ ((k : Int) < (C : Int)) := by omega
      have hT9 := mts_tail P T C HCE.out
      rw [hke] at hst
      have hF : Hid (R = (((P.drop C).isEmpty || isH (lq (P.drop C) 0)) && ((T.drop C).isEmpty || isH (lq (T.drop C) 0)))) := hst.out.trans hT9
      clear hT9 hst hke hlt
      have D1 : Hid (StAt wr wr.heap.size (.slice a2 (P.length - C) (cap - C)) (P.drop C)) := (SA.out.drop hCP a2 (HA2.out)).below hbw.out
      have D2 : Hid (StAt wr wr.heap.size (.slice b2 (T.length - C) (dap - C)) (T.drop C)) := (SB.out.drop hCT b2 (HB2.out)).below hbw.out
      have E1 : Hid (Calls Tryd.prog 67 #[.slice a2 (P.length - C) (cap - C)] wr fun e w' => e = .returned (.bool ((P.drop C).isEmpty || isH (lq (P.drop C) 0))) ∧ w' = wr) := canEnd_any _ _ _ D1.out
      have E2 : Hid (Calls Tryd.prog 67 #[.slice b2 (T.length - C) (dap - C)] wr fun e w' => e = .returned (.bool ((T.drop C).isEmpty || isH (lq (T.drop C) 0))) ∧ w' = wr) := canEnd_any _ _ _ D2.out
      generalize ((P.drop C).isEmpty || isH (lq (P.drop C) 0)) = b1 at E1 hF
      generalize ((T.drop C).isEmpty || isH (lq (T.drop C) 0)) = b9 at E2 hF
      clear D1 D2
      go_wp2_with fail
      refine E1.out.mono ?_
      rintro e w4 ⟨rfl, rfl⟩
      cases b1 with
      | false =>
        have hF' : Hid (R = false) := hF.out
        clear hF E2
        go_wp2
        go_ret
        exact ⟨by rw [hF'.out]; rfl, hbw.out⟩
      | true =>
        have hF' : Hid (R = b9) := hF.out
        clear hF
        go_wp2_with fail
        refine E2.out.mono ?_
        rintro e w5 ⟨rfl, rfl⟩
        go_wp2
        go_ret
        exact ⟨by rw [hF'.out]; rfl, hbw.out⟩

end Go.Proofs.YtndeikgkncfmbaaDoor
