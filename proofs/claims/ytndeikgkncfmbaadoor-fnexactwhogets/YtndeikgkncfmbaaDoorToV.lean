/- The model's l10Meet. -/
import Derived.Test.YtndeikgkncfmbaaDoorToU
namespace Go.Proofs.YtndeikgkncfmbaaDoor
open Go.RowKit Plain Tpc

set_option maxRecDepth 100000 in
set_option maxHeartbeats 8000000 in
theorem l10Meet_any (P T : List ByteArray) (v u : Value) (w : World) (hP : StAt w w.heap.size v P) (hT : StAt w w.heap.size u T) (hlp : P.length ≤ 1048577) (hlt : T.length ≤ 1048577) :
    Calls Tryd.prog 45 #[v, u] w fun e w' => e = .returned (.bool (mts P T)) ∧ Below w.heap.size w w' := by
  obtain ⟨ao, cap, rfl, hlc, hcm, hro⟩ := hP
  obtain ⟨bo, dap, rfl, hld, hdm, hrb⟩ := hT
  have hcm' : cap ≤ 9223372036854775807 := by unfold maxLen at hcm; omega
  have hdm' : dap ≤ 9223372036854775807 := by unfold maxLen at hdm; omega
  have HROW : Hid (∀ i, i < P.length → ∃ g o, ao = some ⟨g, o, none⟩ ∧ g < w.heap.size ∧ w.cell? ⟨g, o + i, none⟩ = some (.string (lq P i))) := hro
  have HROB : Hid (∀ i, i < T.length → ∃ g o, bo = some ⟨g, o, none⟩ ∧ g < w.heap.size ∧ w.cell? ⟨g, o + i, none⟩ = some (.string (lq T i))) := hrb
  clear hro hrb
  obtain ⟨R, hR⟩ : ∃ R, R = mts P T := ⟨_, rfl⟩
  rw [← hR]
  have HR : Hid (R = mts P T) := hR
  clear hR
  go_enter Tryd.func45, Tryd.ntmps45
  go_wp2
  go_loopw [5] (fun vi wr => ∃ (k : Nat), k ≤ P.length ∧ k ≤ T.length ∧ vi = .int .i64 (k : Int) ∧ Hid (R = mts (P.drop k) (T.drop k)) ∧ Hid (Below w.heap.size w wr))
    (fun vi _ => P.length - (intOf vi).toNat)
  case atStart => exact ⟨0, by omega, by omega, rfl, HR.out, Below.refl _ _⟩
  case round =>
    obtain ⟨k, hk, hkT, rfl, hst, hbw⟩ := hrel
    by_cases hlt : k < P.length
    · have hltI : (k : Int) < (P.length : Int) := by omega
      have dk1 : ((k : Int) == (P.length : Int)) = false := by simp; omega
      obtain ⟨g, o, rfl, hg, c0⟩ := HROW.out k hlt
      have c := (hbw.out.cell (p := ⟨g, o + k, none⟩) hg).trans c0
      have HH := mts_H1 P T k hlt
      have HE := mts_end P T k hk hkT
      have HS := mts_step P T k hlt
      obtain ⟨x, hx⟩ : ∃ x, lq P k = x := ⟨_, rfl⟩
      rw [hx] at c HH HE HS
      have HH : Hid (isH x = true → mts (P.drop k) (T.drop k) = true) := HH
      have HE : Hid (k = P.length ∨ k = T.length → (k < P.length → isH x = false) → (k < T.length → isH (lq T k) = false) → mts (P.drop k) (T.drop k) = decide (P.length = T.length)) := HE
      have HS : Hid (∀ hT : k < T.length, isH x = false → isH (lq T k) = false → mts (P.drop k) (T.drop k) = ((isP x || isP (lq T k) || eqT x (lq T k)) && mts (P.drop (k + 1)) (T.drop (k + 1)))) := HS
      clear hx c0
      rcases hh : isH x with _ | _
      · have eh : (x.toList == [35]) = false := hh
        by_cases hkl : k < T.length
        · have hklI : (k : Int) < (T.length : Int) := by omega
          have dk2 : ((k : Int) == (T.length : Int)) = false := by simp; omega
          obtain ⟨g2, o2, rfl, hg2, c20⟩ := HROB.out k hkl
          have c2 := (hbw.out.cell (p := ⟨g2, o2 + k, none⟩) hg2).trans c20
          have HH2 := mts_H2 P T k hkl
          have hS := HS.out hkl hh
          obtain ⟨y, hy⟩ : ∃ y, lq T k = y := ⟨_, rfl⟩
          rw [hy] at c2 hS HH2
          have HH2 : Hid (isH y = true → mts (P.drop k) (T.drop k) = true) := HH2
          have hS : Hid (isH y = false → mts (P.drop k) (T.drop k) = ((isP x || isP y || eqT x y) && mts (P.drop (k + 1)) (T.drop (k + 1)))) := hS
          clear hy HH HE HS hh c20
          rcases hhy : isH y with _ | _
          · have ehy : (y.toList == [35]) = false := hhy
            have hS : Hid (mts (P.drop k) (T.drop k) = ((isP x || isP y || eqT x y) && mts (P.drop (k + 1)) (T.drop (k + 1)))) := hS.out hhy
            rcases hp : isP x with _ | _
            · have ep : (x.toList == [43]) = false := hp
              rcases hpy : isP y with _ | _
              · have epy : (y.toList == [43]) = false := hpy
                rcases hq : eqT x y with _ | _
                · have eq : (x.toList == y.toList) = false := hq
                  have hF : Hid (R = false) := hst.out.trans (by rw [hS.out, hp, hpy, hq]; rfl)
                  clear hst hS hp hq hhy hpy HH2
                  go_wp2_with fail
                  go_quiet (fail)
                  go_wp2
                  go_ret
                  exact ⟨by rw [hF.out]; rfl, below_drewT hbw.out⟩
                · have eq : (x.toList == y.toList) = true := hq
                  have hF : Hid (R = mts (P.drop (k + 1)) (T.drop (k + 1))) := hst.out.trans (by rw [hS.out, hp, hpy, hq]; rfl)
                  clear hst hS hp hq hhy hpy HH2
                  go_wp2_with fail
                  go_quiet (fail)
                  go_wp2
                  go_roundw
                  case rel => exact ⟨k + 1, by omega, by omega, by go_num, hF, below_drewT hbw.out⟩
                  case measure => simp [intOf]; omega
              · have epy : (y.toList == [43]) = true := hpy
                have hF : Hid (R = mts (P.drop (k + 1)) (T.drop (k + 1))) := hst.out.trans (by rw [hS.out, hp, hpy]; rfl)
                clear hst hS hp hhy hpy HH2
                go_wp2_with fail
                go_quiet (fail)
                go_wp2
                go_roundw
                case rel => exact ⟨k + 1, by omega, by omega, by go_num, hF, below_drewT hbw.out⟩
                case measure => simp [intOf]; omega
            · have ep : (x.toList == [43]) = true := hp
              have hF : Hid (R = mts (P.drop (k + 1)) (T.drop (k + 1))) := hst.out.trans (by rw [hS.out, hp]; rfl)
              clear hst hS hp hhy HH2
              go_wp2_with fail
              go_quiet (fail)
              go_wp2
              go_roundw
              case rel => exact ⟨k + 1, by omega, by omega, by go_num, hF, below_drewT hbw.out⟩
              case measure => simp [intOf]; omega
          · have ehy : (y.toList == [35]) = true := hhy
            have hF : Hid (R = true) := hst.out.trans (HH2.out hhy)
            clear hst hS hhy HH2
            go_wp2
            go_ret
            exact ⟨by rw [hF.out]; rfl, hbw.out⟩
        · have hge : ¬ ((k : Int) < (T.length : Int)) := by omega
          have hgd : decide (k < T.length) = false := by simpa using hkl
          have dk2 : ((k : Int) == (T.length : Int)) = true := by simp; omega
          have d : ((P.length : Int) == (T.length : Int)) = false := by simp; omega
          have hF : Hid (R = false) := hst.out.trans ((HE.out (.inr (by omega)) (fun _ => hh) (fun h => absurd h hkl)).trans (by simp; omega))
          clear hst HH HE HS hh hkl
          go_wp2
          go_ret
          exact ⟨by rw [hF.out]; rfl, hbw.out⟩
      · have eh : (x.toList == [35]) = true := hh
        have hF : Hid (R = true) := hst.out.trans (HH.out hh)
        clear hst HH HE HS hh
        go_wp2
        go_ret
        exact ⟨by rw [hF.out]; rfl, hbw.out⟩
    · have hge : ¬ ((k : Int) < (P.length : Int)) := by omega
      have hgd : decide (k < P.length) = false := by simpa using hlt
      have dk1 : ((k : Int) == (P.length : Int)) = true := by simp; omega
      have HE := mts_end P T k hk hkT (.inl (by omega)) (fun h => absurd h hlt)
      by_cases hkl : k < T.length
      · have hklI : (k : Int) < (T.length : Int) := by omega
        obtain ⟨g2, o2, rfl, hg2, c20⟩ := HROB.out k hkl
        have c2 := (hbw.out.cell (p := ⟨g2, o2 + k, none⟩) hg2).trans c20
        have HH2 := mts_H2 P T k hkl
        obtain ⟨y, hy⟩ : ∃ y, lq T k = y := ⟨_, rfl⟩
        rw [hy] at c2 HH2 HE
        have HH2 : Hid (isH y = true → mts (P.drop k) (T.drop k) = true) := HH2
        have HE : Hid ((k < T.length → isH y = false) → mts (P.drop k) (T.drop k) = decide (P.length = T.length)) := HE
        clear hy c20
        rcases hhy : isH y with _ | _
        · have ehy : (y.toList == [35]) = false := hhy
          have d : ((P.length : Int) == (T.length : Int)) = false := by simp; omega
          have hF : Hid (R = false) := hst.out.trans ((HE.out (fun _ => hhy)).trans (by simp; omega))
          clear hst HE HH2 hhy hlt
          go_wp2
          go_ret
          exact ⟨by rw [hF.out]; rfl, hbw.out⟩
        · have ehy : (y.toList == [35]) = true := hhy
          have hF : Hid (R = true) := hst.out.trans (HH2.out hhy)
          clear hst HE HH2 hhy hlt
          go_wp2
          go_ret
          exact ⟨by rw [hF.out]; rfl, hbw.out⟩
      · have hge2 : ¬ ((k : Int) < (T.length : Int)) := by omega
        have hgd2 : decide (k < T.length) = false := by simpa using hkl
        have d : ((P.length : Int) == (T.length : Int)) = true := by simp; omega
        have hF : Hid (R = true) := hst.out.trans ((HE (fun h => absurd h hkl)).trans (by simp; omega))
        clear hst HE hlt hkl hk hkT hlc hld
        go_wp2
        go_ret
        exact ⟨by rw [hF.out]; rfl, hbw.out⟩

end Go.Proofs.YtndeikgkncfmbaaDoor
