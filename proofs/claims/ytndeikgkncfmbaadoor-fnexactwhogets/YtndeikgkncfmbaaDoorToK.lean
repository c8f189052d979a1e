/- The program's levelsCover, levelsMeet, bothPatternLevels. -/
import Derived.Test.YtndeikgkncfmbaaDoorToJ
import Derived.Test.YtndeikgkncfmbaaDoorToV
import Derived.Laws.Slices
namespace Go.Proofs.YtndeikgkncfmbaaDoor
open Go.RowKit Plain Tpc

/-- one level takes in another one: the model's words and the program's -/
theorem Tpc.cov_same (x y : ByteArray) (h : isH x = false) : (!isH y && (isP x || eqT x y)) = (eqT x y || (isP x && !isH y)) := by
  rcases hq : eqT x y with _ | _
  · cases isP x <;> cases isH y <;> rfl
  · rw [eqT_iff] at hq
    subst hq
    rw [h]
    cases isP x <;> rfl

set_option maxRecDepth 100000 in
set_option maxHeartbeats 4000000 in
theorem levelsCover_any (P T : List ByteArray) (v u : Value) (w : World) (hP : StAt w w.heap.size v P) (hT : StAt w w.heap.size u T) (hlp : P.length ≤ 1048577) (hlt : T.length ≤ 1048577) :
    Calls Tryd.prog 42 #[v, u] w fun e w' => e = .returned (.bool (cvs P T)) ∧ w' = w := by
  obtain ⟨ao, cap, rfl, hlc, hcm, hro⟩ := hP
  obtain ⟨bo, dap, rfl, hld, hdm, hrb⟩ := hT
  have hcm' : cap ≤ 9223372036854775807 := by unfold maxLen at hcm; omega
  have hdm' : dap ≤ 9223372036854775807 := by unfold maxLen at hdm; omega
  have HROW : Hid (∀ i, i < P.length → ∃ g o, ao = some ⟨g, o, none⟩ ∧ g < w.heap.size ∧ w.cell? ⟨g, o + i, none⟩ = some (.string (lq P i))) := hro
  have HROB : Hid (∀ i, i < T.length → ∃ g o, bo = some ⟨g, o, none⟩ ∧ g < w.heap.size ∧ w.cell? ⟨g, o + i, none⟩ = some (.string (lq T i))) := hrb
  clear hro hrb
  obtain ⟨R, hR⟩ : ∃ R, R = cvs P T := ⟨_, rfl⟩
  rw [← hR]
  have HR : Hid (R = cvs P T) := hR
  clear hR
  go_enter Tryd.func42, Tryd.ntmps42
  go_wp2
  go_loopw [9] (fun vi wr => ∃ (k : Nat), k ≤ P.length ∧ k ≤ T.length ∧ vi = .int .i64 (k : Int) ∧ Hid (R = cvs (P.drop k) (T.drop k)) ∧ wr = w)
    (fun vi _ => P.length - (intOf vi).toNat)
  case atStart => exact ⟨0, by omega, by omega, rfl, HR.out, rfl⟩
  case round =>
    obtain ⟨k, hk, hkT, rfl, hst, rfl⟩ := hrel
    by_cases hlt : k < P.length
    · have hltI : (k : Int) < (P.length : Int) := by omega
      obtain ⟨g, o, rfl, hg, c⟩ := HROW.out k hlt
      have HH := cvs_H P T k hlt
      have HE := cvs_end P T k hlt
      have HS := cvs_step P T k hlt
      obtain ⟨x, hx⟩ : ∃ x, lq P k = x := ⟨_, rfl⟩
      rw [hx] at c HH HE HS
      have HH : Hid (isH x = true → cvs (P.drop k) (T.drop k) = true) := HH
      have HE : Hid (isH x = false → k = T.length → cvs (P.drop k) (T.drop k) = false) := HE
      have HS : Hid (isH x = false → k < T.length → cvs (P.drop k) (T.drop k) = ((!isH (lq T k) && (isP x || eqT x (lq T k))) && cvs (P.drop (k + 1)) (T.drop (k + 1)))) := HS
      clear hx
      rcases hh : isH x with _ | _
      · have eh : (x.toList == [35]) = false := hh
        by_cases hkt : k = T.length
        · have hF : Hid (R = false) := hst.out.trans (HE.out hh hkt)
          have dk : ((k : Int) == (T.length : Int)) = true := by simp; omega
          clear hst HH HE HS hh hkt
          go_wp2
          go_ret
          exact ⟨by rw [hF.out]; rfl, rfl⟩
        · have hkl : k < T.length := by omega
          have hklI : (k : Int) < (T.length : Int) := by omega
          have dk : ((k : Int) == (T.length : Int)) = false := by simp; omega
          obtain ⟨g2, o2, rfl, hg2, c2⟩ := HROB.out k hkl
          have hS := HS.out hh hkl
          obtain ⟨y, hy⟩ : ∃ y, lq T k = y := ⟨_, rfl⟩
          rw [hy, cov_same x y hh] at hS
          rw [hy] at c2
          have hS : Hid (cvs (P.drop k) (T.drop k) = ((eqT x y || (isP x && !isH y)) && cvs (P.drop (k + 1)) (T.drop (k + 1)))) := hS
          have CL : Hid (∀ W, Calls Tryd.prog 66 #[.string x, .string y] W fun e w' => e = .returned (.bool (eqT x y || (isP x && !isH y))) ∧ w' = W) := fun W => levelCovers_any x y W
          generalize (eqT x y || (isP x && !isH y)) = a at CL hS
          clear hy HH HE HS hh hkt
          go_wp2_with fail
          refine (CL.out _).mono ?_
          rintro e w1 ⟨rfl, rfl⟩
          cases a with
          | false =>
            have hF : Hid (R = false) := hst.out.trans (by rw [hS.out]; rfl)
            clear hst hS
            go_wp2
            go_ret
            exact ⟨by rw [hF.out]; rfl, rfl⟩
          | true =>
            have hF : Hid (R = cvs (P.drop (k + 1)) (T.drop (k + 1))) := hst.out.trans (by rw [hS.out]; rfl)
            clear hst hS
            go_wp2
            go_roundw
            case rel => exact ⟨k + 1, by omega, by omega, by go_num, hF, trivial⟩
            case measure => simp [intOf]; omega
      · have eh : (x.toList == [35]) = true := hh
        have hF : Hid (R = true) := hst.out.trans (HH.out hh)
        clear hst HH HE HS hh
        go_wp2
        go_ret
        exact ⟨by rw [hF.out]; rfl, rfl⟩
    · have hge : ¬ ((k : Int) < (P.length : Int)) := by omega
      have hF : Hid (R = decide (P.length = T.length)) := hst.out.trans (len_drop P T k hlt hkT hk).2
      clear hst
      by_cases h6 : P.length = T.length
      · have d : ((P.length : Int) == (T.length : Int)) = true := by simp; omega
        have hT : Hid (R = true) := by show _ = _; rw [hF.out]; simpa using h6
        clear h6 hlt hk hkT hlc hld
        go_wp2
        go_ret
        exact ⟨by rw [hT.out]; rfl, rfl⟩
      · have d : ((P.length : Int) == (T.length : Int)) = false := by simp; omega
        have hT : Hid (R = false) := by show _ = _; rw [hF.out]; simpa using h6
        clear h6
        go_wp2
        go_ret
        exact ⟨by rw [hT.out]; rfl, rfl⟩

theorem Tpc.mts_tail (P T : List ByteArray) (k : Nat) (he : k = P.length ∨ k = T.length) : mts (P.drop k) (T.drop k) = (((P.drop k).isEmpty || isH (lq (P.drop k) 0)) && ((T.drop k).isEmpty || isH (lq (T.drop k) 0))) := by
  rcases Nat.lt_or_ge k P.length with h | h
  · rw [lq_drop P k h, List.drop_eq_nil_of_le (by omega : T.length ≤ k), mts]
    show _ = ((false || isH (lq P k)) && (true || _))
    simp
  · rcases Nat.lt_or_ge k T.length with h' | h'
    · rw [lq_drop T k h', List.drop_eq_nil_of_le h, mts]
      show _ = ((true || _) && (false || isH (lq T k)))
      simp
    · rw [List.drop_eq_nil_of_le h, List.drop_eq_nil_of_le h', mts]
      rfl

set_option maxRecDepth 100000 in
set_option maxHeartbeats 2000000 in
theorem bothLevels_any (p q : ByteArray) (w : World) (hp : p.size ≤ 1048576) (hq : q.size ≤ 1048576) :
    Calls Tryd.prog 44 #[.string p, .string q] w fun e w' => (∃ r s, e = .returned (.tuple #[r, s, .bool (gp p && gp q)]) ∧ StAt w' w'.heap.size r (pls p) ∧ StAt w' w'.heap.size s (pls q)) ∧ Below w.heap.size w w' := by
  have C1 : Hid (∀ W, Calls Tryd.prog 40 #[.string p] W fun e w' => (∃ r, e = .returned (.tuple #[r, .bool (gp p)]) ∧ StAt w' w'.heap.size r (pls p)) ∧ Below W.heap.size W w') := fun W => patternLevels_any p W hp
  have C2 : Hid (∀ W, Calls Tryd.prog 40 #[.string q] W fun e w' => (∃ r, e = .returned (.tuple #[r, .bool (gp q)]) ∧ StAt w' w'.heap.size r (pls q)) ∧ Below W.heap.size W w') := fun W => patternLevels_any q W hq
  generalize pls p = L1 at C1 ⊢
  generalize pls q = L2 at C2 ⊢
  generalize gp p = g1 at C1 ⊢
  generalize gp q = g2 at C2 ⊢
  go_enter Tryd.func44, Tryd.ntmps44
  go_wp2_with fail
  refine (C1.out _).mono ?_
  rintro e w2 ⟨⟨r, rfl, hr⟩, hB2⟩
  have H1 : Hid (StAt w2 w2.heap.size r L1) := hr
  obtain ⟨ao, cap, rfl, _⟩ := hr
  go_wp2_with fail
  refine (C2.out _).mono ?_
  rintro e w3 ⟨⟨r2, rfl, hr2⟩, hB3⟩
  have H2 : Hid (StAt w3 w3.heap.size r2 L2) := hr2
  obtain ⟨ao2, cap2, rfl, _⟩ := hr2
  have H1' : Hid (StAt w3 w3.heap.size (.slice ao L1.length cap) L1) := H1.out.below hB3
  have hB : Below w.heap.size w w3 := hB2.trans (hB3.mono hB2.size)
  clear hB2 hB3 H1 C1 C2
  cases g1 with
  | false =>
    go_wp2
    go_ret3
    exact ⟨⟨_, _, rfl, H1'.out, H2.out⟩, hB⟩
  | true =>
    go_wp2
    go_ret3
    exact ⟨⟨_, _, rfl, H1'.out, H2.out⟩, hB⟩

end Go.Proofs.YtndeikgkncfmbaaDoor
