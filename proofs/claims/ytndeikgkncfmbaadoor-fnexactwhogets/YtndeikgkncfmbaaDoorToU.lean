/- The model's l10Fits, l10Covers, l10Meet. -/
import Derived.Test.YtndeikgkncfmbaaDoorToT
namespace Go.Proofs.YtndeikgkncfmbaaDoor
open Go.RowKit Plain Tpc

theorem Tpc.fts_H (P T : List ByteArray) (i : Nat) (h : i < P.length) (hh : isH (lq P i) = true) : fts (P.drop i) (T.drop i) = true := by
  rw [lq_drop P i h]
  unfold fts
  rw [hh]
  rfl

theorem Tpc.fts_end (P T : List ByteArray) (i : Nat) (h : i < P.length) (hh : isH (lq P i) = false) (hT : i = T.length) : fts (P.drop i) (T.drop i) = false := by
  rw [lq_drop P i h, List.drop_eq_nil_of_le (by omega : T.length ≤ i)]
  unfold fts
  rw [hh]
  rfl

theorem Tpc.fts_step (P T : List ByteArray) (i : Nat) (h : i < P.length) (hh : isH (lq P i) = false) (hT : i < T.length) : fts (P.drop i) (T.drop i) = ((isP (lq P i) || eqT (lq P i) (lq T i)) && fts (P.drop (i + 1)) (T.drop (i + 1))) := by
  rw [lq_drop P i h, lq_drop T i hT, fts]
  simp only [hh]
  rfl

theorem Tpc.cvs_H (P T : List ByteArray) (i : Nat) (h : i < P.length) (hh : isH (lq P i) = true) : cvs (P.drop i) (T.drop i) = true := by
  rw [lq_drop P i h]
  unfold cvs
  rw [hh]
  rfl

theorem Tpc.cvs_end (P T : List ByteArray) (i : Nat) (h : i < P.length) (hh : isH (lq P i) = false) (hT : i = T.length) : cvs (P.drop i) (T.drop i) = false := by
  rw [lq_drop P i h, List.drop_eq_nil_of_le (by omega : T.length ≤ i)]
  unfold cvs
  rw [hh]
  rfl

theorem Tpc.cvs_step (P T : List ByteArray) (i : Nat) (h : i < P.length) (hh : isH (lq P i) = false) (hT : i < T.length) : cvs (P.drop i) (T.drop i) = ((!isH (lq T i) && (isP (lq P i) || eqT (lq P i) (lq T i))) && cvs (P.drop (i + 1)) (T.drop (i + 1))) := by
  rw [lq_drop P i h, lq_drop T i hT, cvs]
  simp only [hh]
  rfl

theorem Tpc.mts_H1 (P T : List ByteArray) (i : Nat) (h : i < P.length) (hh : isH (lq P i) = true) : mts (P.drop i) (T.drop i) = true := by
  rw [lq_drop P i h]
  cases T.drop i with
  | nil => exact hh
  | cons x xs => rw [mts, hh]; rfl

theorem Tpc.mts_H2 (P T : List ByteArray) (i : Nat) (h : i < T.length) (hh : isH (lq T i) = true) : mts (P.drop i) (T.drop i) = true := by
  rw [lq_drop T i h]
  cases P.drop i with
  | nil => exact hh
  | cons x xs => rw [mts, hh, Bool.or_true]; rfl

theorem Tpc.mts_step (P T : List ByteArray) (i : Nat) (h : i < P.length) (hT : i < T.length) (h1 : isH (lq P i) = false) (h2 : isH (lq T i) = false) : mts (P.drop i) (T.drop i) = ((isP (lq P i) || isP (lq T i) || eqT (lq P i) (lq T i)) && mts (P.drop (i + 1)) (T.drop (i + 1))) := by
  rw [lq_drop P i h, lq_drop T i hT, mts, h1, h2]
  rfl

theorem Tpc.mts_end (P T : List ByteArray) (i : Nat) (hP : i ≤ P.length) (hT : i ≤ T.length) (he : i = P.length ∨ i = T.length) (h1 : i < P.length → isH (lq P i) = false) (h2 : i < T.length → isH (lq T i) = false) : mts (P.drop i) (T.drop i) = decide (P.length = T.length) := by
  rcases Nat.lt_or_ge i P.length with h | h
  · have e : i = T.length := by omega
    rw [lq_drop P i h, List.drop_eq_nil_of_le (by omega : T.length ≤ i), mts, h1 h]
    rw [eq_comm, decide_eq_false_iff_not]
    omega
  · rcases Nat.lt_or_ge i T.length with h' | h'
    · rw [lq_drop T i h', List.drop_eq_nil_of_le h, mts, h2 h', eq_comm, decide_eq_false_iff_not]
      omega
    · rw [List.drop_eq_nil_of_le h, List.drop_eq_nil_of_le h', mts, eq_comm, decide_eq_true_eq]
      omega

set_option maxRecDepth 100000 in
set_option maxHeartbeats 4000000 in
theorem l10Fits_any (P T : List ByteArray) (v u : Value) (w : World) (hP : StAt w w.heap.size v P) (hT : StAt w w.heap.size u T) (hlp : P.length ≤ 1048577) (hlt : T.length ≤ 1048577) :
    Calls Tryd.prog 41 #[v, u] w fun e w' => e = .returned (.bool (fts P T)) ∧ w' = w := by
  obtain ⟨ao, cap, rfl, hlc, hcm, hro⟩ := hP
  obtain ⟨bo, dap, rfl, hld, hdm, hrb⟩ := hT
  have hcm' : cap ≤ 9223372036854775807 := by unfold maxLen at hcm; omega
  have hdm' : dap ≤ 9223372036854775807 := by unfold maxLen at hdm; omega
  have HROW : Hid (∀ i, i < P.length → ∃ g o, ao = some ⟨g, o, none⟩ ∧ g < w.heap.size ∧ w.cell? ⟨g, o + i, none⟩ = some (.string (lq P i))) := hro
  have HROB : Hid (∀ i, i < T.length → ∃ g o, bo = some ⟨g, o, none⟩ ∧ g < w.heap.size ∧ w.cell? ⟨g, o + i, none⟩ = some (.string (lq T i))) := hrb
  clear hro hrb
  obtain ⟨R, hR⟩ : ∃ R, R = fts P T := ⟨_, rfl⟩
  rw [← hR]
  have HR : Hid (R = fts P T) := hR
  clear hR
  go_enter Tryd.func41, Tryd.ntmps41
  go_wp2
  go_loopw [9] (fun vi wr => ∃ (k : Nat), k ≤ P.length ∧ k ≤ T.length ∧ vi = .int .i64 (k : Int) ∧ Hid (R = fts (P.drop k) (T.drop k)) ∧ wr = w)
    (fun vi _ => P.length - (intOf vi).toNat)
  case atStart => exact ⟨0, by omega, by omega, rfl, HR.out, rfl⟩
  case round =>
    obtain ⟨k, hk, hkT, rfl, hst, rfl⟩ := hrel
    by_cases hlt : k < P.length
    · have hltI : (k : Int) < (P.length : Int) := by omega
      obtain ⟨g, o, rfl, hg, c⟩ := HROW.out k hlt
      have HH := fts_H P T k hlt
      have HE := fts_end P T k hlt
      have HS := fts_step P T k hlt
      obtain ⟨x, hx⟩ : ∃ x, lq P k = x := ⟨_, rfl⟩
      rw [hx] at c HH HE HS
      have HH : Hid (isH x = true → fts (P.drop k) (T.drop k) = true) := HH
      have HE : Hid (isH x = false → k = T.length → fts (P.drop k) (T.drop k) = false) := HE
      have HS : Hid (isH x = false → k < T.length → fts (P.drop k) (T.drop k) = ((isP x || eqT x (lq T k)) && fts (P.drop (k + 1)) (T.drop (k + 1)))) := HS
      clear hx
      rcases hh : isH x with _ | _
      · have eh : (x.toList == [35]) = false := hh
        by_cases hkt : k = T.length
        · have hF : Hid (R = false) := hst.out.trans (HE.out hh hkt)
          have dk : ((k : Int) == (T.length : Int)) = true := by simp; omega
          clear hst HH HE HS hh hkt
          go_wp2
          go_ret
          exact ⟨by rw [hF.out]; rfl, rfl⟩
        · have hkl : k < T.length := by omega
          have hklI : (k : Int) < (T.length : Int) := by omega
          have dk : ((k : Int) == (T.length : Int)) = false := by simp; omega
          obtain ⟨g2, o2, rfl, hg2, c2⟩ := HROB.out k hkl
          have hS := HS.out hh hkl
          obtain ⟨y, hy⟩ : ∃ y, lq T k = y := ⟨_, rfl⟩
          rw [hy] at c2 hS
          have hS : Hid (fts (P.drop k) (T.drop k) = ((isP x || eqT x y) && fts (P.drop (k + 1)) (T.drop (k + 1)))) := hS
          clear hy HH HE HS hh hkt
          rcases hp : isP x with _ | _
          · have ep : (x.toList == [43]) = false := hp
            rcases hq : eqT x y with _ | _
            · have eq : (x.toList == y.toList) = false := hq
              have hF : Hid (R = false) := hst.out.trans (by rw [hS.out, hp, hq]; rfl)
              clear hst hS hp hq
              go_wp2
              go_ret
              exact ⟨by rw [hF.out]; rfl, rfl⟩
            · have eq : (x.toList == y.toList) = true := hq
              have hF : Hid (R = fts (P.drop (k + 1)) (T.drop (k + 1))) := hst.out.trans (by rw [hS.out, hp, hq]; rfl)
              clear hst hS hp hq
              go_wp2
              go_roundw
              case rel => exact ⟨k + 1, by omega, by omega, by go_num, hF, trivial⟩
              case measure => simp [intOf]; omega
          · have ep : (x.toList == [43]) = true := hp
            have hF : Hid (R = fts (P.drop (k + 1)) (T.drop (k + 1))) := hst.out.trans (by rw [hS.out, hp]; rfl)
            clear hst hS hp
            go_wp2
            go_roundw
            case rel => exact ⟨k + 1, by omega, by omega, by go_num, hF, trivial⟩
            case measure => simp [intOf]; omega
      · have eh : (x.toList == [35]) = true := hh
        have hF : Hid (R = true) := hst.out.trans (HH.out hh)
        clear hst HH HE HS hh
        go_wp2
        go_ret
        exact ⟨by rw [hF.out]; rfl, rfl⟩
    · have hge : ¬ ((k : Int) < (P.length : Int)) := by omega
      have hF : Hid (R = decide (P.length = T.length)) := hst.out.trans (len_drop P T k hlt hkT hk).1
      clear hst
      by_cases h6 : P.length = T.length
      · have d : ((P.length : Int) == (T.length : Int)) = true := by simp; omega
        have hT : Hid (R = true) := by show _ = _; rw [hF.out]; simpa using h6
        clear h6 hlt hk hkT hlc hld
        go_wp2
        go_ret
        exact ⟨by rw [hT.out]; rfl, rfl⟩
      · have d : ((P.length : Int) == (T.length : Int)) = false := by simp; omega
        have hT : Hid (R = false) := by show _ = _; rw [hF.out]; simpa using h6
        clear h6
        go_wp2
        go_ret
        exact ⟨by rw [hT.out]; rfl, rfl⟩

set_option maxRecDepth 100000 in
set_option maxHeartbeats 4000000 in
theorem l10Covers_any (P T : List ByteArray) (v u : Value) (w : World) (hP : StAt w w.heap.size v P) (hT : StAt w w.heap.size u T) (hlp : P.length ≤ 1048577) (hlt : T.length ≤ 1048577) :
    Calls Tryd.prog 43 #[v, u] w fun e w' => e = .returned (.bool (cvs P T)) ∧ w' = w := by
  obtain ⟨ao, cap, rfl, hlc, hcm, hro⟩ := hP
  obtain ⟨bo, dap, rfl, hld, hdm, hrb⟩ := hT
  have hcm' : cap ≤ 9223372036854775807 := by unfold maxLen at hcm; omega
  have hdm' : dap ≤ 9223372036854775807 := by unfold maxLen at hdm; omega
  have HROW : Hid (∀ i, i < P.length → ∃ g o, ao = some ⟨g, o, none⟩ ∧ g < w.heap.size ∧ w.cell? ⟨g, o + i, none⟩ = some (.string (lq P i))) := hro
  have HROB : Hid (∀ i, i < T.length → ∃ g o, bo = some ⟨g, o, none⟩ ∧ g < w.heap.size ∧ w.cell? ⟨g, o + i, none⟩ = some (.string (lq T i))) := hrb
  clear hro hrb
  obtain ⟨R, hR⟩ : ∃ R, R = cvs P T := ⟨_, rfl⟩
  rw [← hR]
  have HR : Hid (R = cvs P T) := hR
  clear hR
  go_enter Tryd.func43, Tryd.ntmps43
  go_wp2
  go_loopw [9] (fun vi wr => ∃ (k : Nat), k ≤ P.length ∧ k ≤ T.length ∧ vi = .int .i64 (k : Int) ∧ Hid (R = cvs (P.drop k) (T.drop k)) ∧ wr = w)
    (fun vi _ => P.length - (intOf vi).toNat)
  case atStart => exact ⟨0, by omega, by omega, rfl, HR.out, rfl⟩
  case round =>
    obtain ⟨k, hk, hkT, rfl, hst, rfl⟩ := hrel
    by_cases hlt : k < P.length
    · have hltI : (k : Int) < (P.length : Int) := by omega
      obtain ⟨g, o, rfl, hg, c⟩ := HROW.out k hlt
      have HH := cvs_H P T k hlt
      have HE := cvs_end P T k hlt
      have HS := cvs_step P T k hlt
      obtain ⟨x, hx⟩ : ∃ x, lq P k = x := ⟨_, rfl⟩
      rw [hx] at c HH HE HS
      have HH : Hid (isH x = true → cvs (P.drop k) (T.drop k) = true) := HH
      have HE : Hid (isH x = false → k = T.length → cvs (P.drop k) (T.drop k) = false) := HE
      have HS : Hid (isH x = false → k < T.length → cvs (P.drop k) (T.drop k) = ((!isH (lq T k) && (isP x || eqT x (lq T k))) && cvs (P.drop (k + 1)) (T.drop (k + 1)))) := HS
      clear hx
      rcases hh : isH x with _ | _
      · have eh : (x.toList == [35]) = false := hh
        by_cases hkt : k = T.length
        · have hF : Hid (R = false) := hst.out.trans (HE.out hh hkt)
          have dk : ((k : Int) == (T.length : Int)) = true := by simp; omega
          clear hst HH HE HS hh hkt
          go_wp2
          go_ret
          exact ⟨by rw [hF.out]; rfl, rfl⟩
        · have hkl : k < T.length := by omega
          have hklI : (k : Int) < (T.length : Int) := by omega
          have dk : ((k : Int) == (T.length : Int)) = false := by simp; omega
          obtain ⟨g2, o2, rfl, hg2, c2⟩ := HROB.out k hkl
          have hS := HS.out hh hkl
          obtain ⟨y, hy⟩ : ∃ y, lq T k = y := ⟨_, rfl⟩
          rw [hy] at c2 hS
          have hS : Hid (cvs (P.drop k) (T.drop k) = ((!isH y && (isP x || eqT x y)) && cvs (P.drop (k + 1)) (T.drop (k + 1)))) := hS
          clear hy HH HE HS hh hkt
          rcases hhy : isH y with _ | _
          · have ehy : (y.toList == [35]) = false := hhy
            rcases hp : isP x with _ | _
            · have ep : (x.toList == [43]) = false := hp
              rcases hq : eqT x y with _ | _
              · have eq : (x.toList == y.toList) = false := hq
                have hF : Hid (R = false) := hst.out.trans (by rw [hS.out, hp, hq, hhy]; rfl)
                clear hst hS hp hq hhy
                go_wp2
                go_ret
                exact ⟨by rw [hF.out]; rfl, rfl⟩
              · have eq : (x.toList == y.toList) = true := hq
                have hF : Hid (R = cvs (P.drop (k + 1)) (T.drop (k + 1))) := hst.out.trans (by rw [hS.out, hp, hq, hhy]; rfl)
                clear hst hS hp hq hhy
                go_wp2
                go_roundw
                case rel => exact ⟨k + 1, by omega, by omega, by go_num, hF, trivial⟩
                case measure => simp [intOf]; omega
            · have ep : (x.toList == [43]) = true := hp
              have hF : Hid (R = cvs (P.drop (k + 1)) (T.drop (k + 1))) := hst.out.trans (by rw [hS.out, hp, hhy]; rfl)
              clear hst hS hp hhy
              go_wp2
              go_roundw
              case rel => exact ⟨k + 1, by omega, by omega, by go_num, hF, trivial⟩
              case measure => simp [intOf]; omega
          · have ehy : (y.toList == [35]) = true := hhy
            have hF : Hid (R = false) := hst.out.trans (by rw [hS.out, hhy]; rfl)
            clear hst hS hhy
            go_wp2
            go_ret
            exact ⟨by rw [hF.out]; rfl, rfl⟩
      · have eh : (x.toList == [35]) = true := hh
        have hF : Hid (R = true) := hst.out.trans (HH.out hh)
        clear hst HH HE HS hh
        go_wp2
        go_ret
        exact ⟨by rw [hF.out]; rfl, rfl⟩
    · have hge : ¬ ((k : Int) < (P.length : Int)) := by omega
      have hF : Hid (R = decide (P.length = T.length)) := hst.out.trans (len_drop P T k hlt hkT hk).2
      clear hst
      by_cases h6 : P.length = T.length
      · have d : ((P.length : Int) == (T.length : Int)) = true := by simp; omega
        have hT : Hid (R = true) := by show _ = _; rw [hF.out]; simpa using h6
        clear h6 hlt hk hkT hlc hld
        go_wp2
        go_ret
        exact ⟨by rw [hT.out]; rfl, rfl⟩
      · have d : ((P.length : Int) == (T.length : Int)) = false := by simp; omega
        have hT : Hid (R = false) := by show _ = _; rw [hF.out]; simpa using h6
        clear h6
        go_wp2
        go_ret
        exact ⟨by rw [hT.out]; rfl, rfl⟩

end Go.Proofs.YtndeikgkncfmbaaDoor
