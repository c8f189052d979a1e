/- The program's queue under way: made; lists marked; a queue taken up. -/
import Derived.Test.YtfkhbbmnjndmcaaQuP
import Derived.Deep.RegionWith
namespace Go.Proofs.Ytfkhbbmnjndmcaa
open Go.RowKit Plain Qus

theorem lu_fresh (w : World) (c r : Int) : Lu (w.alloc (.cells #[.int .i64 c, .int .i64 r, fnD r w.heap.size, .slice none 0 0] 73)) w.heap.size w.heap.size c r [] (.slice none 0 0) :=
  ⟨Nat.le_refl _, by simp, by simp, by simp, by simp, by simp, by simp, ZRow.nilQ _ _, by simp [Value.ownBlock]⟩

theorem neqFn (f b : Nat) (W : World) : (binOp .neq 71 (.func (.func f) #[.pointer (some ⟨b, 0, none⟩)] #[]) .nilFunc).run Try.prog W = .ok (.bool true) W := by kernel_rfl
theorem neqNo (W : World) : (binOp .neq 71 .nilFunc .nilFunc).run Try.prog W = .ok (.bool false) W := by kernel_rfl

theorem okR_ok {c r : Int} (h1 : 1 ≤ c) (h2 : c ≤ 10) (h3 : 1 ≤ r) (h4 : r ≤ 3) : okR c r = true := by
  unfold okR
  rw [decide_eq_true ⟨h1, h2⟩, decide_eq_true ⟨h3, h4⟩]; rfl
theorem okR_c {c r : Int} (h : ¬ (1 ≤ c ∧ c ≤ 10)) : okR c r = false := by
  unfold okR
  rw [decide_eq_false h]; rfl
theorem okR_r {c r : Int} (h : ¬ (1 ≤ r ∧ r ≤ 3)) : okR c r = false := by
  unfold okR
  rw [decide_eq_false h, Bool.and_false]

attribute [local go_sem ↓] neqFn neqNo in
set_option maxRecDepth 100000 in
set_option maxHeartbeats 4000000 in
theorem newLineup_any (c r : Int) (w : World) :
    Calls Try.prog 45 #[.int .i64 c, .int .i64 r] w fun e w' => e = .returned (.tuple #[.pointer (some ⟨w.heap.size, 0, none⟩), .bool (okR c r)]) ∧ Below w.heap.size w w' ∧ (okR c r = true → Lu w' w.heap.size w.heap.size c r [] (.slice none 0 0)) := by
  by_cases r1 : r = 1
  · subst r1
    have HL := lu_fresh w c 1
    rw [show fnD 1 w.heap.size = .func (.func 65) #[.pointer (some ⟨w.heap.size, 0, none⟩)] #[] from rfl] at HL
    have HLH : Hid (type_of% HL) := HL
    have HB : Hid (Below w.heap.size w (w.alloc (.cells #[.int .i64 c, .int .i64 1, .func (.func 65) #[.pointer (some ⟨w.heap.size, 0, none⟩)] #[], .slice none 0 0] 73))) := (Below.refl _ w).alloc (Nat.le_refl _) _
    clear HL
    by_cases h1 : 1 ≤ c
    · by_cases h2 : c ≤ 10
      · rw [okR_ok h1 h2 (by decide) (by decide)]
        go_enter Try.func45, Try.ntmps45
        go_wp2
        go_ret2
        first | exact ⟨rfl, HB.out, HLH.out⟩ | exact ⟨rfl, HB.out, fun _ => HLH.out⟩
      · rw [okR_c (fun h => h2 h.2)]
        clear HLH
        have h2' : decide (c ≤ 10) = false := by simpa using h2
        go_enter Try.func45, Try.ntmps45
        go_wp2
        go_ret2
        first | exact ⟨rfl, HB.out⟩ | exact ⟨rfl, HB.out, fun h => by cases h⟩
    · rw [okR_c (fun h => h1 h.1)]
      clear HLH
      have h1' : decide (1 ≤ c) = false := by simpa using h1
      go_enter Try.func45, Try.ntmps45
      go_wp2
      go_ret2
      first | exact ⟨rfl, HB.out⟩ | exact ⟨rfl, HB.out, fun h => by cases h⟩
  have e1 : (r == 1) = false := by simpa using r1
  by_cases r2 : r = 2
  · subst r2
    have HL := lu_fresh w c 2
    rw [show fnD 2 w.heap.size = .func (.func 66) #[.pointer (some ⟨w.heap.size, 0, none⟩)] #[] from rfl] at HL
    have HLH : Hid (type_of% HL) := HL
    have HB : Hid (Below w.heap.size w (w.alloc (.cells #[.int .i64 c, .int .i64 2, .func (.func 66) #[.pointer (some ⟨w.heap.size, 0, none⟩)] #[], .slice none 0 0] 73))) := (Below.refl _ w).alloc (Nat.le_refl _) _
    clear HL
    by_cases h1 : 1 ≤ c
    · by_cases h2 : c ≤ 10
      · rw [okR_ok h1 h2 (by decide) (by decide)]
        go_enter Try.func45, Try.ntmps45
        go_wp2
        go_ret2
        first | exact ⟨rfl, HB.out, HLH.out⟩ | exact ⟨rfl, HB.out, fun _ => HLH.out⟩
      · rw [okR_c (fun h => h2 h.2)]
        clear HLH
        have h2' : decide (c ≤ 10) = false := by simpa using h2
        go_enter Try.func45, Try.ntmps45
        go_wp2
        go_ret2
        first | exact ⟨rfl, HB.out⟩ | exact ⟨rfl, HB.out, fun h => by cases h⟩
    · rw [okR_c (fun h => h1 h.1)]
      clear HLH
      have h1' : decide (1 ≤ c) = false := by simpa using h1
      go_enter Try.func45, Try.ntmps45
      go_wp2
      go_ret2
      first | exact ⟨rfl, HB.out⟩ | exact ⟨rfl, HB.out, fun h => by cases h⟩
  have e2 : (r == 2) = false := by simpa using r2
  by_cases r3 : r = 3
  · subst r3
    have HL := lu_fresh w c 3
    rw [show fnD 3 w.heap.size = .func (.func 57) #[.pointer (some ⟨w.heap.size, 0, none⟩)] #[] from rfl] at HL
    have HLH : Hid (type_of% HL) := HL
    have HB : Hid (Below w.heap.size w (w.alloc (.cells #[.int .i64 c, .int .i64 3, .func (.func 57) #[.pointer (some ⟨w.heap.size, 0, none⟩)] #[], .slice none 0 0] 73))) := (Below.refl _ w).alloc (Nat.le_refl _) _
    clear HL
    by_cases h1 : 1 ≤ c
    · by_cases h2 : c ≤ 10
      · rw [okR_ok h1 h2 (by decide) (by decide)]
        go_enter Try.func45, Try.ntmps45
        go_wp2
        go_ret2
        first | exact ⟨rfl, HB.out, HLH.out⟩ | exact ⟨rfl, HB.out, fun _ => HLH.out⟩
      · rw [okR_c (fun h => h2 h.2)]
        clear HLH
        have h2' : decide (c ≤ 10) = false := by simpa using h2
        go_enter Try.func45, Try.ntmps45
        go_wp2
        go_ret2
        first | exact ⟨rfl, HB.out⟩ | exact ⟨rfl, HB.out, fun h => by cases h⟩
    · rw [okR_c (fun h => h1 h.1)]
      clear HLH
      have h1' : decide (1 ≤ c) = false := by simpa using h1
      go_enter Try.func45, Try.ntmps45
      go_wp2
      go_ret2
      first | exact ⟨rfl, HB.out⟩ | exact ⟨rfl, HB.out, fun h => by cases h⟩
  have e3 : (r == 3) = false := by simpa using r3
  rw [okR_r (fun h => by omega)]
  have HB : Hid (Below w.heap.size w (w.alloc (.cells #[.int .i64 c, .int .i64 r, .nilFunc, .slice none 0 0] 73))) := (Below.refl _ w).alloc (Nat.le_refl _) _
  clear r1 r2 r3
  go_enter Try.func45, Try.ntmps45
  go_wp2
  go_ret2
  first | exact ⟨rfl, HB.out⟩ | exact ⟨rfl, HB.out, fun h => by cases h⟩

theorem zints_set (M : List Int) (i : Nat) (a : Int) : zints (M.set i a) = (zints M).set i (.int .i64 a) := by
  unfold zints
  rw [List.map_set]

/-- a mark is put -/
theorem Lu.put {w : World} {B b g cap : Nat} {c r : Int} {M : List Int} (h : Lu w B b c r M (.slice (some ⟨g, 0, none⟩) M.length cap)) (i : Nat) (a : Int) : Lu (w.setCell ⟨g, i, none⟩ (.int .i64 a)) B b c r (M.set i a) (.slice (some ⟨g, 0, none⟩) M.length cap) ∧ Below B w (w.setCell ⟨g, i, none⟩ (.int .i64 a)) := by
  have hgb : b ≠ g := fun e => h.ap (by rw [e]; rfl)
  have hgB := (World.ownsRow.lt h.row g rfl).1
  refine ⟨h.kept (Below.heap_setCell _ _ _ _ hgb) (by simp) ?_, (Below.refl B w).setCell (p := ⟨g, i, none⟩) hgB _⟩
  have := (World.ownsRow.stored h.row i (.int .i64 a)).1
  rw [← zints_set] at this
  show World.ownsRow _ _ _ _ _ _ _
  rw [List.length_set]
  exact this

theorem mkl_isNone {a : Int} {least : Nat} {n : Int} {l M : List Int} (h : n < (least : Int) ∨ (M.length : Int) ≤ n ∨ M.getD n.toNat 0 ≠ 0) : (mkl a least (n :: l) M).isSome = false ∧ ∀ M', mkl a least (n :: l) M ≠ some M' := by
  simp only [mkl]
  rw [if_pos h]
  exact ⟨rfl, fun M' h => by cases h⟩

theorem drop_at {l : List Int} {k : Nat} {x : Int} (h : l[k]? = some x) : l.drop k = x :: l.drop (k + 1) := by
  obtain ⟨hk, e⟩ := List.getElem?_eq_some_iff.1 h
  rw [List.drop_eq_getElem_cons hk, e]

set_option maxRecDepth 100000 in
set_option maxHeartbeats 4000000 in
theorem markU (B b : Nat) (c r a : Int) (M l : List Int) (vm v : Value) (w : World) (h : Lu w B b c r M vm) (hB : B ≤ w.heap.size) (hv : ZAt w B v l) (hl : M.length ≤ 1000) :
    Calls Try.prog 67 #[.pointer (some ⟨b, 0, none⟩), v, .int .i64 a] w fun e w' => e = .returned (.bool (mkl a 0 l M).isSome) ∧ (∀ M', mkl a 0 l M = some M' → Lu w' B b c r M' vm) ∧ Below B w w' := by
  obtain ⟨ao, cap, rfl, hlc, hcm, hrow⟩ := hv
  have hcm' : cap ≤ 9223372036854775807 := by unfold maxLen at hcm; omega
  have HROW : Hid (∀ i (x : Int), l[i]? = some x → ∃ g o, ao = some ⟨g, o, none⟩ ∧ g < B ∧ w.cell? ⟨g, o + i, none⟩ = some (.int .i64 x)) := hrow
  have H : Hid (Lu w B b c r M vm) := h
  have HBB : Hid (B ≤ w.heap.size) := hB
  obtain ⟨O, hO⟩ : ∃ O, O = mkl a 0 l M := ⟨_, rfl⟩
  rw [← hO]
  have HO : Hid (O = mkl a 0 l M) := hO
  clear hO hrow h hB
  go_enter Try.func67, Try.ntmps67
  go_wp2
  go_loopw [7, 12] (fun vl vi wr => ∃ (k least : Nat) (M1 : List Int), k ≤ l.length ∧ vi = .int .i64 (k : Int) ∧ vl = .int .i64 (least : Int) ∧ least ≤ 1000 ∧ M1.length = M.length ∧ Hid (O = mkl a least (l.drop k) M1) ∧ Hid (Lu wr B b c r M1 vm) ∧ Hid (Below B w wr))
    (fun _ vi _ => l.length - (intOf vi).toNat)
  case atStart => exact ⟨0, 0, M, by omega, rfl, rfl, by omega, rfl, HO, H, Below.refl _ _⟩
  case round =>
    obtain ⟨k, least, M1, hk, rfl, rfl, hls, hM1, hO1, hLu, hBw⟩ := hrel
    by_cases hlt : k < l.length
    · have hltI : (k : Int) < (l.length : Int) := by omega
      obtain ⟨x, hx⟩ : ∃ x, l[k]? = some x := ⟨_, List.getElem?_eq_getElem hlt⟩
      obtain ⟨g, o, rfl, hg, c0⟩ := HROW.out k x hx
      have e1 := (hBw.out.cell (p := ⟨g, o + k, none⟩) hg).trans c0
      have HO2 : Hid (O = mkl a least (x :: l.drop (k + 1)) M1) := by show _ = _; rw [← drop_at hx]; exact hO1.out
      have CN := nextU B b c r M1 vm wr hLu.out
      clear c0 hx hO1
      by_cases x1 : x < (least : Int)
      · have hn := mkl_isNone (a := a) (l := l.drop (k + 1)) (M := M1) (.inl x1)
        have HN : Hid (O.isSome = false ∧ ∀ M', O ≠ some M') := by rw [HO2.out]; exact hn
        have d1 : decide (x < (least : Int)) = true := by simpa using x1
        clear hn CN x1
        go_wp2
        go_ret
        exact ⟨by rw [HN.out.1]; rfl, fun M' h => absurd h (HN.out.2 M'), hBw.out⟩
      · have d1 : decide (x < (least : Int)) = false := by simpa using x1
        by_cases x2 : (M1.length : Int) ≤ x
        · have hn := mkl_isNone (a := a) (l := l.drop (k + 1)) (M := M1) (least := least) (.inr (.inl x2))
          have HN : Hid (O.isSome = false ∧ ∀ M', O ≠ some M') := by rw [HO2.out]; exact hn
          clear hn x1
          go_wp2_with fail
          go_at_call 57
          refine CN.mono ?_
          rintro e w2 ⟨rfl, hw⟩
          have hw := hw.symm
          subst hw
          go_wp2
          go_ret
          exact ⟨by rw [HN.out.1]; rfl, fun M' h => absurd h (HN.out.2 M'), hBw.out⟩
        · have d2 : decide ((M1.length : Int) ≤ x) = false := by simpa using x2
          obtain ⟨n, rfl⟩ : ∃ n : Nat, x = (n : Int) := ⟨x.toNat, by omega⟩
          have hnl : n < M1.length := by omega
          have d1n : decide (n < least) = false := by simp; omega
          have d2n : decide (M1.length ≤ n) = false := by simp; omega
          have hnl' : (n : Int) < (M1.length : Int) := by omega
          obtain ⟨g1, cap1, hvm, hg1B, hg1, cc, ff, hlc1, hcm1⟩ := hLu.out.cell hnl
          unfold maxLen at hcm1
          have c3 := hLu.out.c3
          by_cases x3 : M1.getD n 0 = 0
          · rw [x3] at cc
            have HO3 : Hid (O = mkl a (n + 1) (l.drop (k + 1)) (M1.set n a)) := by
              show _ = _
              rw [HO2.out]
              simp only [mkl]
              rw [if_neg (by rw [Int.toNat_natCast]; omega), Int.toNat_natCast]
            subst hvm
            obtain ⟨HP, HPB⟩ := hLu.out.put n a
            have HPH : Hid (type_of% HP) := HP
            have HBP : Hid (type_of% (hBw.out.trans HPB)) := hBw.out.trans HPB
            have hML : (M1.set n a).length = M.length := by simpa using hM1
            clear HP HPB x1 x2 x3 HO2 hBw
            generalize M1.set n a = M2 at HPH HO3 hML
            go_wp2_with fail
            go_at_call 57
            refine CN.mono ?_
            rintro e w2 ⟨rfl, hw⟩
            have hw := hw.symm
            subst hw
            go_wp2
            go_roundw
            case rel => exact ⟨k + 1, n + 1, M2, by omega, by go_num, by go_num, by omega, hML, HO3, HPH, HBP⟩
            case measure => simp [intOf]; omega
          · have hn := mkl_isNone (a := a) (l := l.drop (k + 1)) (M := M1) (least := least) (n := (n : Int)) (.inr (.inr (by rw [Int.toNat_natCast]; exact x3)))
            have HN : Hid (O.isSome = false ∧ ∀ M', O ≠ some M') := by rw [HO2.out]; exact hn
            generalize M1.getD n 0 = y at x3 cc
            have d3 : (y != 0) = true := by simpa using x3
            subst hvm
            clear hn x1 x2 x3
            go_wp2_with fail
            go_at_call 57
            refine CN.mono ?_
            rintro e w2 ⟨rfl, hw⟩
            have hw := hw.symm
            subst hw
            go_wp2
            go_ret
            exact ⟨by rw [HN.out.1]; rfl, fun M' h => absurd h (HN.out.2 M'), hBw.out⟩
    · have hke : k = l.length := by omega
      subst hke
      have hge : ¬ ((l.length : Int) < (l.length : Int)) := by omega
      have HO3 : Hid (O = some M1) := by show _ = _; rw [hO1.out, List.drop_length]; rfl
      clear hO1
      go_wp2
      go_ret
      exact ⟨by rw [HO3.out]; rfl, fun M' h => by rw [HO3.out] at h; cases h; exact hLu.out, hBw.out⟩

end Go.Proofs.Ytfkhbbmnjndmcaa
