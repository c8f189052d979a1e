/- The program's look at a type's sisters. The program's GoodSchema. The program's GoodSchema at every schema. -/
import Derived.Test.YtpopjapcgcnnfaaGb
namespace Go.Proofs.Ytpopjapcgcnnfaa
open Go.RowKit Plain Sch

set_option maxRecDepth 100000 in
set_option maxHeartbeats 4000000 in
theorem fitsSisters_any (T : List Ty) (v : Value) (k : Nat) (w : World) (hT : TysAt w w.heap.size v T) (hk : k < T.length) (hl : T.length ≤ 30) :
    Calls Try.prog 140 #[v, .int .i64 k] w fun e w' => e = .returned (.bool (sis T k)) ∧ Below w.heap.size w w' := by
  obtain ⟨g, o, cap, rfl, hlc, hcm, hg, hrow, _⟩ := hT.open (by omega)
  clear hT
  unfold maxLen at hcm
  obtain ⟨R, hR⟩ : ∃ R, R = sis T k := ⟨_, rfl⟩
  rw [← hR]
  have HR : Hid (R = decide (∀ i, i < k → sisBad T k i = false)) := hR
  clear hR
  have hk' : (k : Int) < (T.length : Int) := by omega
  have hk0' : (0 : Int) ≤ (k : Int) := by omega
  have hkc : (k : Int) ≤ (cap : Int) := by omega
  go_enter Try.func140, Try.ntmps140
  go_wp2
  go_loopw [11] (fun vi wr => ∃ (i : Nat), i ≤ k ∧ vi = .int .i64 (i : Int) ∧ Hid (∀ j, j < i → sisBad T k j = false) ∧ Below w.heap.size w wr)
    (fun vi _ => k - (intOf vi).toNat)
  case atStart => exact ⟨0, by omega, rfl, fun j hj => by omega, Below.refl _ _⟩
  case round =>
    obtain ⟨i, hi, rfl, hall, hbw⟩ := hrel
    by_cases hlt : i < k
    · have hlt' : (i : Int) < (k : Int) := by omega
      have hci := (hrow i (by omega)).below hbw hg
      have hck := (hrow k hk).below hbw hg
      have hsz : g < wr.heap.size := by have := hbw.size; omega
      obtain ⟨ti, hti⟩ : ∃ t, ty T i = t := ⟨_, rfl⟩
      obtain ⟨tk, htk⟩ : ∃ t, ty T k = t := ⟨_, rfl⟩
      have HS : Hid (sisBad T k i = (decide (ti.up = tk.up) && (decide (tk.no ≤ ti.no) || decide (ti.name = tk.name)))) := by show _ = _; unfold sisBad; rw [hti, htk]
      rw [hti] at hci
      rw [htk] at hck
      clear hti htk hrow
      obtain ⟨kind, name, no, must, up, most⟩ := ti
      obtain ⟨kindk, namek, nok, mustk, upk, mostk⟩ := tk
      obtain ⟨c0, c1, c2, c3, c4, c5⟩ := hci
      obtain ⟨k0, k1, k2, k3, k4, k5⟩ := hck
      dsimp only at c0 c1 c2 c3 c4 c5 k0 k1 k2 k3 k4 k5 HS
      by_cases hu : up = upk
      · have hu' : (up == upk) = true := by simpa using hu
        by_cases hno : nok ≤ no
        · have hn : Hid (R = false) := by
            show R = _
            rw [HR.out]
            simp only [decide_eq_false_iff_not]
            intro h
            have := h i hlt
            rw [HS.out] at this
            simp [hu, hno] at this
          clear hu hall HS HR
          go_wp2_with fail
          go_quiet (fail)
          go_wp2
          go_ret
          exact ⟨by rw [hn.out]; rfl, below_drewN (hbw.alloc hbw.size _)⟩
        · have hno' : decide (nok ≤ no) = false := by simpa using hno
          by_cases hnm : name = namek
          · have hn : Hid (R = false) := by
              show R = _
              rw [HR.out]
              simp only [decide_eq_false_iff_not]
              intro h
              have := h i hlt
              rw [HS.out] at this
              simp [hu, hnm] at this
            subst hnm
            clear hu hall HS HR hno
            go_wp2_with fail
            go_quiet (fail)
            go_wp2
            go_ret
            exact ⟨by rw [hn.out]; rfl, below_drewN (hbw.alloc hbw.size _)⟩
          · have hall2 : Hid (∀ j, j < i + 1 → sisBad T k j = false) := fun j hj => by
              by_cases hji : j = i
              · rw [hji, HS.out]; simp [hno', hnm]
              · exact hall.out j (by omega)
            have hnm' := str_neB hnm
            clear hu hall HS hno hnm
            go_wp2_with fail
            go_quiet (fail)
            go_wp2
            go_roundw
            case rel => exact ⟨i + 1, by omega, by go_num, hall2, below_drewN (hbw.alloc hbw.size _)⟩
            case measure => simp [intOf]; omega
      · have hu' : (up == upk) = false := by simpa using hu
        have hall2 : Hid (∀ j, j < i + 1 → sisBad T k j = false) := fun j hj => by
          by_cases hji : j = i
          · rw [hji, HS.out]; simp [hu]
          · exact hall.out j (by omega)
        clear hu
        go_wp2_with fail
        go_quiet (fail)
        go_wp2
        go_roundw
        case rel => exact ⟨i + 1, by omega, by go_num, hall2, below_drewN (hbw.alloc hbw.size _)⟩
        case measure => simp [intOf]; omega
    · have hke : i = k := by omega
      subst hke
      have hge : ¬ ((i : Int) < (i : Int)) := by omega
      have hn : Hid (R = true) := by
        show R = _
        rw [HR.out]
        simp only [decide_eq_true_eq]
        exact hall.out
      go_wp2
      go_ret
      exact ⟨by rw [hn.out]; rfl, hbw⟩

set_option maxRecDepth 100000 in
set_option maxHeartbeats 4000000 in
theorem eachListHasPart_any (T : List Ty) (v : Value) (w : World) (hT : TysAt w w.heap.size v T) (h0 : 0 < T.length) (hl : T.length ≤ 30) :
    Calls Try.prog 111 #[v] w fun e w' => e = .returned (.bool ((List.range T.length).all fun i => if (ty T i).kind = 4 then decide (i + 1 < T.length) && decide ((ty T (i + 1)).up = i) else true)) ∧ Below w.heap.size w w' := by
  obtain ⟨g, o, cap, rfl, hlc, hcm, hg, hrow, _⟩ := hT.open h0
  clear hT
  unfold maxLen at hcm
  obtain ⟨P, hP⟩ : ∃ P : Nat → Bool, P = fun i => if (ty T i).kind = 4 then decide (i + 1 < T.length) && decide ((ty T (i + 1)).up = i) else true := ⟨_, rfl⟩
  have HP : Hid (∀ i, P i = if (ty T i).kind = 4 then decide (i + 1 < T.length) && decide ((ty T (i + 1)).up = i) else true) := fun i => by rw [hP]
  rw [← hP]
  clear hP
  obtain ⟨R, hR⟩ : ∃ R, R = (List.range T.length).all P := ⟨_, rfl⟩
  rw [← hR]
  have HR : Hid (R = (List.range T.length).all P) := hR
  clear hR
  have HF : Hid (∀ i, i < T.length → P i = false → R = false) := fun i hi h => by
    rw [HR.out, List.all_eq_false]
    exact ⟨i, List.mem_range.2 hi, by rw [h]; simp⟩
  have hl' : (T.length : Int) ≤ 30 := by omega
  go_enter Try.func111, Try.ntmps111
  go_wp2
  go_loopw [7] (fun vi wr => ∃ (i : Nat), i ≤ T.length ∧ vi = .int .i64 (i : Int) ∧ Hid (∀ j, j < i → P j = true) ∧ Below w.heap.size w wr)
    (fun vi _ => T.length - (intOf vi).toNat)
  case atStart => exact ⟨0, by omega, rfl, fun j hj => by omega, Below.refl _ _⟩
  case round =>
    obtain ⟨i, hi, rfl, hall, hbw⟩ := hrel
    by_cases hlt : i < T.length
    · have hlt' : (i : Int) < (T.length : Int) := by omega
      have hci := (hrow i hlt).below hbw hg
      have hsz : g < wr.heap.size := by have := hbw.size; omega
      have HPi := HP.out i
      obtain ⟨ti, hti⟩ : ∃ t, ty T i = t := ⟨_, rfl⟩
      rw [hti] at hci HPi
      obtain ⟨kind, name, no, must, up, most⟩ := ti
      obtain ⟨c0, c1, c2, c3, c4, c5⟩ := hci
      dsimp only at c0 c1 c2 c3 c4 c5 HPi
      clear hti
      have HPi' : Hid (P i = if kind = 4 then decide (i + 1 < T.length) && decide ((ty T (i + 1)).up = i) else true) := HPi
      clear HPi
      by_cases h4 : kind = 4
      · subst h4
        by_cases hlast : i + 1 < T.length
        · have hne : ((i : Int) + 1 == (T.length : Int)) = false := by simp; omega
          have hlt2 : (i : Int) + 1 < (T.length : Int) := by omega
          have hcn := ((hrow (i + 1) hlast).below hbw hg).2.2.2.2.1
          rw [show o + (i + 1) * 6 + 4 = o + (i + 1) * 6 + 4 by rfl] at hcn
          by_cases hup : (ty T (i + 1)).up = (i : Int)
          · have hall2 : Hid (∀ j, j < i + 1 → P j = true) := fun j hj => by
              by_cases hji : j = i
              · rw [hji, HPi'.out]; simp [hlast, hup]
              · exact hall.out j (by omega)
            rw [hup] at hcn
            clear hup hall HPi'
            go_wp2
            go_roundw
            case rel => exact ⟨i + 1, by omega, by go_num, hall2, hbw.alloc hbw.size _⟩
            case measure => simp [intOf]; omega
          · have hn : Hid (R = false) := HF.out i hlt (by rw [HPi'.out]; simp [hup])
            generalize (ty T (i + 1)).up = u at hcn hup
            have hup' : (u != (i : Int)) = true := by simpa using hup
            clear hup hall HPi'
            go_wp2
            go_ret
            exact ⟨by rw [hn.out]; rfl, hbw.alloc hbw.size _⟩
        · have hn : Hid (R = false) := HF.out i hlt (by rw [HPi'.out]; simp [hlast])
          have he : ((i : Int) + 1 == (T.length : Int)) = true := by simp; omega
          clear hall HPi' hlast
          go_wp2
          go_ret
          exact ⟨by rw [hn.out]; rfl, hbw.alloc hbw.size _⟩
      · have h4' : (kind == 4) = false := by simpa using h4
        have hall2 : Hid (∀ j, j < i + 1 → P j = true) := fun j hj => by
          by_cases hji : j = i
          · rw [hji, HPi'.out, if_neg h4]
          · exact hall.out j (by omega)
        clear h4 hall HPi'
        go_wp2
        go_roundw
        case rel => exact ⟨i + 1, by omega, by go_num, hall2, hbw.alloc hbw.size _⟩
        case measure => simp [intOf]; omega
    · have hke : i = T.length := by omega
      subst hke
      have hge : ¬ ((T.length : Int) < (T.length : Int)) := by omega
      have hn : Hid (R = true) := by
        show R = _
        rw [HR.out, List.all_eq_true]
        intro x hx
        exact hall.out x (List.mem_range.1 hx)
      clear HP HF
      go_wp2
      go_ret
      exact ⟨by rw [hn.out]; rfl, hbw⟩

end Go.Proofs.Ytpopjapcgcnnfaa

namespace Go.Proofs.Ytpopjapcgcnnfaa
open Go.RowKit Plain Sch

def restOk (T : List Ty) (k : Nat) : Bool :=
  if (ty T (ty T k).up.toNat).kind = 4 then decide ((k : Int) = (ty T k).up + 1) && bare (ty T k) else isName (ty T k).name && decide (1 ≤ (ty T k).no) && decide ((ty T k).no ≤ 30) && sis T k

theorem typeOkI_eq (T : List Ty) (k : Nat) (hk : 1 ≤ k) : typeOkI T k = (okKind (ty T k) && rb T k && decide (deepAt T k ≤ 5) && restOk T k) := by
  unfold typeOkI typeOk partOk rb restOk
  rw [if_neg (by omega)]
  by_cases h0 : 0 ≤ (ty T k).up
  · by_cases hc : (ty T k).up.toNat ∈ chain T (k - 1)
    · have hle := chain_le T _ _ hc
      have hlt : (ty T k).up < k := by omega
      by_cases h4 : (ty T (ty T k).up.toNat).kind = 4
      · simp only [h4, if_pos]
        simp [h0, hc, hlt]
        cases okKind (ty T k) <;> cases holds 4 <;> cases decide (deepAt T k ≤ 5) <;> cases bare (ty T k) <;> simp
      · simp only [h4, if_neg, not_false_eq_true]
        simp [h0, hc, hlt]
        cases okKind (ty T k) <;> cases holds (ty T (ty T k).up.toNat).kind <;> cases decide (deepAt T k ≤ 5) <;> simp
    · simp [hc]
  · simp [h0]

theorem ups_rb {T : List Ty} {k : Nat} (hk : 1 ≤ k) (hu : UpsTo T k) (h : rb T k = true) : UpsTo T (k + 1) ∧ 0 ≤ (ty T k).up ∧ (ty T k).up < k := by
  unfold rb at h
  simp only [Bool.and_eq_true, decide_eq_true_eq] at h
  have hle := chain_le T _ _ h.1.2
  refine ⟨⟨hu.1, fun i h0 hi => ?_⟩, h.1.1, by omega⟩
  by_cases hik : i = k
  · subst hik; exact ⟨h.1.1, by omega⟩
  · exact hu.2 i h0 (by omega)

theorem deepAt_le (T : List Ty) (k : Nat) : deepAt T k ≤ k + 1 := by
  unfold deepAt
  refine Nat.le_trans (List.length_filter_le _ _) ?_
  induction k using Nat.strongRecOn with
  | ind k ih =>
    rw [chain]
    split
    · have := ih (ty T k).up.toNat (by omega)
      simp only [List.length_cons]
      omega
    · simp

set_option maxRecDepth 100000 in
set_option maxHeartbeats 4000000 in
theorem goodType_any (T : List Ty) (v : Value) (k : Nat) (w : World) (hT : TysAt w w.heap.size v T) (hk : k < T.length) (hk1 : 1 ≤ k) (hl : T.length ≤ 30) (hu : UpsTo T k) :
    Calls Try.prog 110 #[v, .int .i64 k] w fun e w' => e = .returned (.bool (typeOkI T k)) ∧ Below w.heap.size w w' := by
  have HT : Hid (TysAt w w.heap.size v T) := hT
  obtain ⟨g, o, cap, rfl, hlc, hcm, hg, hrow, hnm⟩ := hT.open (by omega)
  clear hT
  obtain ⟨R, hR⟩ : ∃ R, R = typeOkI T k := ⟨_, rfl⟩
  rw [← hR]
  have HR : Hid (R = (okKind (ty T k) && rb T k && decide (deepAt T k ≤ 5) && restOk T k)) := by show _ = _; rw [hR]; exact typeOkI_eq T k hk1
  clear hR
  have HU : Hid (UpsTo T k) := hu
  clear hu
  have HRW : Hid (∀ i, i < T.length → TyIn w g (o + i * 6) (ty T i)) := hrow
  have hk' : (k : Int) < (T.length : Int) := by omega
  have hk0' : (0 : Int) ≤ (k : Int) := by omega
  have hcm' : cap ≤ 9223372036854775807 := by unfold maxLen at hcm; omega
  have hci := hrow k hk
  have hnk := hnm k hk
  obtain ⟨ti, hti⟩ : ∃ t, ty T k = t := ⟨_, rfl⟩
  have HTI : Hid (ty T k = ti) := hti
  rw [hti] at hci hnk
  clear hti hrow hnm
  obtain ⟨kind, name, no, must, up, most⟩ := ti
  obtain ⟨c0, c1, c2, c3, c4, c5⟩ := hci
  dsimp only at c0 c1 c2 c3 c4 c5 hnk
  have hB1 : Below w.heap.size w (w.alloc (.cells #[.int .i64 kind, .string name, .int .i64 no, .bool must, .int .i64 up, .int .i64 most] 157)) := (Below.refl _ w).alloc (Nat.le_refl _) _
  go_enter Try.func110, Try.ntmps110
  go_wp2_with fail
  refine (goodKind_any kind name no must up most _).mono ?_
  rintro e w1 ⟨rfl, hb1⟩
  have hB : Below w.heap.size w w1 := hB1.trans (hb1.mono (by simp))
  have hX : TyIn w1 w.heap.size 0 ⟨kind, name, no, must, up, most⟩ := (show TyIn _ w.heap.size 0 ⟨kind, name, no, must, up, most⟩ from ⟨by simp, by simp, by simp, by simp, by simp, by simp⟩ : TyIn (w.alloc (.cells #[.int .i64 kind, .string name, .int .i64 no, .bool must, .int .i64 up, .int .i64 most] 157)) w.heap.size 0 ⟨kind, name, no, must, up, most⟩).below hb1 (by simp)
  have hs1 : w.heap.size < w1.heap.size := by have := hb1.size; simp at this; omega
  clear hb1 hB1 c0 c1 c2 c3 c4 c5
  by_cases hok : okKind ⟨kind, name, no, must, up, most⟩ = true
  · have HR2 : Hid (R = (rb T k && decide (deepAt T k ≤ 5) && restOk T k)) := by show _ = _; rw [HR.out, HTI.out, hok]; simp
    rw [hok]
    clear hok HR
    have hT1 : Hid (TysAt w1 w1.heap.size (.slice (some ⟨g, o, none⟩) T.length cap) T) := HT.out.below hB
    go_wp2_with fail
    refine (isRightBehind_any T _ k _ hT1.out hk hk1 hl HU.out).mono ?_
    rintro e w2 ⟨rfl, hb2⟩
    have hB2 : Below w.heap.size w w2 := hB.trans (hb2.mono hB.size)
    have hX2 := hX.below hb2 hs1
    have hs2 : w.heap.size < w2.heap.size := by have := hb2.size; omega
    have hT2 : Hid (TysAt w2 w2.heap.size (.slice (some ⟨g, o, none⟩) T.length cap) T) := hT1.out.below hb2
    clear hb2 hT1 hX hB
    by_cases hrb : rb T k = true
    · have HR3 : Hid (R = (decide (deepAt T k ≤ 5) && restOk T k)) := by show _ = _; rw [HR2.out, hrb]; simp
      have hups := ups_rb hk1 HU.out hrb
      rw [hrb]
      have HU2 : Hid (UpsTo T (k + 1)) := hups.1
      have hup0 := hups.2
      rw [HTI.out] at hup0
      dsimp only at hup0
      obtain ⟨hup0, hup1⟩ := hup0
      clear hups hrb HR2
      go_wp2_with fail
      refine (deepAt_any T _ k _ hT2.out hk hl HU2.out).mono ?_
      rintro e w3 ⟨rfl, hb3⟩
      have hB3 : Below w.heap.size w w3 := hB2.trans (hb3.mono hB2.size)
      have hX3 := hX2.below hb3 hs2
      have hs3 : w.heap.size < w3.heap.size := by have := hb3.size; omega
      have hT3 : Hid (TysAt w3 w3.heap.size (.slice (some ⟨g, o, none⟩) T.length cap) T) := hT2.out.below hb3
      have hd31 : deepAt T k ≤ 31 := by have := deepAt_le T k; omega
      clear hb3 hT2 hX2 hB2
      obtain ⟨x0, x1, x2, x3, x4, x5⟩ := hX3
      dsimp only at x0 x1 x2 x3 x4 x5
      simp only [Nat.zero_add] at x1 x2 x3 x4 x5
      by_cases hd : deepAt T k ≤ 5
      · have HR4 : Hid (R = restOk T k) := by show _ = _; rw [HR3.out]; simp [hd]
        clear HR3
        generalize deepAt T k = dd at hd hd31
        have hd' : (dd : Int) ≤ 5 := by omega
        obtain ⟨u, rfl⟩ := Int.eq_ofNat_of_zero_le hup0
        have hcu := (HRW.out u (by omega)).below hB3 hg
        have hu1 : (u : Int) < (T.length : Int) := by omega
        have hcu0 := hcu.1
        obtain ⟨ku, hku⟩ : ∃ x, (ty T u).kind = x := ⟨_, rfl⟩
        rw [hku] at hcu0
        have HR5 : Hid (R = if ku = 4 then decide ((k : Int) = (u : Int) + 1) && bare ⟨kind, name, no, must, (u : Int), most⟩ else isName name && decide (1 ≤ no) && decide (no ≤ 30) && sis T k) := by
          show _ = _
          rw [HR4.out]
          unfold restOk
          rw [HTI.out]
          dsimp only
          rw [Int.toNat_natCast, hku]
        clear HR4 hku hcu hd
        by_cases h4 : ku = 4
        · subst h4
          have HR6 := HR5
          rw [if_pos rfl] at HR6
          clear HR5
          by_cases hku : (k : Int) = (u : Int) + 1
          · have hku' : ((k : Int) == (u : Int) + 1) = true := by simpa using hku
            by_cases hne : name.toList = []
            · have hnd : name = ⟨#[]⟩ := by
                apply ByteArray.ext
                have : name.data.toList = [] := by rw [← ByteArray.toList_eq]; exact hne
                exact Array.toList_eq_nil_iff.1 this
              subst hnd
              by_cases hno : no = 0
              · subst hno
                have hn : Hid (R = !must) := by show _ = _; rw [HR6.out]; unfold bare; simp [hku]
                clear HR6 hku hne
                go_wp2
                go_ret
                exact ⟨by rw [hn.out]; rfl, hB3⟩
              · have hno' : (no == 0) = false := by simpa using hno
                have hn : Hid (R = false) := by show _ = _; rw [HR6.out]; unfold bare; simp [hno]
                clear HR6 hku hne hno
                go_wp2
                go_ret
                exact ⟨by rw [hn.out]; rfl, hB3⟩
            · have hne' : name.toList.isEmpty = false := by simpa using hne
              have hnd : ¬ name = ⟨#[]⟩ := fun e => hne (by rw [e]; simp)
              have hn : Hid (R = false) := by show _ = _; rw [HR6.out]; unfold bare; simp [hnd]
              clear HR6 hku hne hnd
              go_wp2
              go_ret
              exact ⟨by rw [hn.out]; rfl, hB3⟩
          · have hku' : ((k : Int) == (u : Int) + 1) = false := by simpa using hku
            have hn : Hid (R = false) := by show _ = _; rw [HR6.out]; simp [hku]
            clear HR6 hku
            go_wp2
            go_ret
            exact ⟨by rw [hn.out]; rfl, hB3⟩
        · have h4' : (ku == 4) = false := by simpa using h4
          rw [if_neg h4] at HR5
          clear h4
          go_wp2_with fail
          refine (isName_any name _ hnk).mono ?_
          rintro e w4 ⟨rfl, rfl⟩
          by_cases hin : isName name = true
          · rw [hin] at HR5 ⊢
            clear hin
            by_cases h1 : 1 ≤ no
            · by_cases h30 : no ≤ 30
              · have hn : Hid (R = sis T k) := by show _ = _; rw [HR5.out]; simp [h1, h30]
                clear HR5
                go_wp2_with fail
                refine (fitsSisters_any T _ k _ hT3.out hk hl).mono ?_
                rintro e w5 ⟨rfl, hb5⟩
                go_wp2
                go_ret
                exact ⟨by rw [hn.out]; rfl, hB3.trans (hb5.mono hB3.size)⟩
              · have hn : Hid (R = false) := by show _ = _; rw [HR5.out]; simp [h30]
                have h30' : decide (no ≤ 30) = false := by simpa using h30
                clear HR5 h30
                go_wp2
                go_ret
                exact ⟨by rw [hn.out]; rfl, hB3⟩
            · have hn : Hid (R = false) := by show _ = _; rw [HR5.out]; simp [h1]
              have h1' : decide (1 ≤ no) = false := by simpa using h1
              clear HR5 h1
              go_wp2
              go_ret
              exact ⟨by rw [hn.out]; rfl, hB3⟩
          · have hin' : isName name = false := by simpa using hin
            have hn : Hid (R = false) := by show _ = _; rw [HR5.out, hin']; simp
            rw [hin']
            clear hin hin' HR5
            go_wp2
            go_ret
            exact ⟨by rw [hn.out]; rfl, hB3⟩
      · have hn : Hid (R = false) := by show _ = _; rw [HR3.out]; simp [hd]
        clear HR3
        generalize deepAt T k = dd at hd hd31
        have hd' : 5 < (dd : Int) := by omega
        clear hd
        go_wp2
        go_ret
        exact ⟨by rw [hn.out]; rfl, hB3⟩
    · have hrb' : rb T k = false := by simpa using hrb
      have hn : Hid (R = false) := by show _ = _; rw [HR2.out, hrb']; simp
      rw [hrb']
      clear hrb hrb' HR2
      go_wp2
      go_ret
      exact ⟨by rw [hn.out]; rfl, hB2⟩
  · have hok' : okKind ⟨kind, name, no, must, up, most⟩ = false := by simpa using hok
    have hn : Hid (R = false) := by show _ = _; rw [HR.out, HTI.out, hok']; simp
    rw [hok']
    clear hok hok' HR
    go_wp2
    go_ret
    exact ⟨by rw [hn.out]; rfl, hB⟩

theorem ups_step {T : List Ty} {k : Nat} (hk : 1 ≤ k) (hu : UpsTo T k) (h : typeOkI T k = true) : UpsTo T (k + 1) := by
  rw [typeOkI_eq T k hk] at h
  simp only [Bool.and_eq_true] at h
  exact (ups_rb hk hu h.1.1.2).1

theorem first_eq (t : Ty) : (okKind t && firstOk t) = decide (t.kind = 5 ∧ t.name = ⟨#[]⟩ ∧ t.no = 0 ∧ t.must = false ∧ t.up = -1 ∧ t.most = 0) := by
  obtain ⟨kind, name, no, must, up, most⟩ := t
  unfold okKind firstOk
  dsimp only
  by_cases h5 : kind = 5
  · subst h5
    by_cases hn : name = ⟨#[]⟩ <;> by_cases h0 : no = 0 <;> by_cases hu : up = -1 <;> by_cases hm : most = 0 <;> cases must <;> simp [hn, h0, hu, hm]
  · simp [h5]

end Go.Proofs.Ytpopjapcgcnnfaa

namespace Go.Proofs.Ytpopjapcgcnnfaa
open Go.RowKit Plain Sch

set_option maxRecDepth 100000 in
set_option maxHeartbeats 4000000 in
theorem implGood_any (T : List Ty) (v : Value) (w : World) (hT : TysAt w w.heap.size v T) :
    Calls Try.prog 76 #[.agg #[v]] w fun e w' => e = .returned (.bool (gsI T)) ∧ Below w.heap.size w w' := by
  have hB1 : ∀ o, Below w.heap.size w (w.alloc o) := fun o => (Below.refl _ w).alloc (Nat.le_refl _) o
  by_cases h1 : 1 ≤ T.length
  · by_cases h30 : T.length ≤ 30
    · have HT : Hid (TysAt w w.heap.size v T) := hT
      obtain ⟨g, o, cap, rfl, hlc, hcm, hg, hrow, hnm⟩ := hT.open (by omega)
      clear hT
      obtain ⟨R, hR⟩ : ∃ R, R = gsI T := ⟨_, rfl⟩
      rw [← hR]
      have HR : Hid (R = (typeOk T 0 && ((List.range T.length).all fun i => if i = 0 then true else typeOkI T i) &&
    ((List.range T.length).all fun i => if (ty T i).kind = 4 then decide (i + 1 < T.length) && decide ((ty T (i + 1)).up = i) else true))) := by
        show _ = _
        rw [hR]
        unfold gsI
        simp [h1, h30]
      clear hR
      have h1' : (1 : Int) ≤ (T.length : Int) := by omega
      have h30' : (T.length : Int) ≤ 30 := by omega
      have hc0 := hrow 0 (by omega)
      simp only [Nat.zero_mul, Nat.add_zero] at hc0
      obtain ⟨t0, ht0⟩ : ∃ t, ty T 0 = t := ⟨_, rfl⟩
      have HT0 : Hid (ty T 0 = t0) := ht0
      have HR0 : Hid (typeOk T 0 = decide (t0.kind = 5 ∧ t0.name = ⟨#[]⟩ ∧ t0.no = 0 ∧ t0.must = false ∧ t0.up = -1 ∧ t0.most = 0)) := by
        show _ = _
        unfold typeOk
        rw [if_pos rfl, ht0]
        exact first_eq t0
      rw [ht0] at hc0
      clear ht0 hrow hnm
      by_cases hgood : t0.kind = 5 ∧ t0.name = ⟨#[]⟩ ∧ t0.no = 0 ∧ t0.must = false ∧ t0.up = -1 ∧ t0.most = 0
      · obtain ⟨kind, name, no, must, up, most⟩ := t0
        dsimp only at hgood
        obtain ⟨rfl, rfl, rfl, rfl, rfl, rfl⟩ := hgood
        obtain ⟨c0, c1, c2, c3, c4, c5⟩ := hc0
        dsimp only at c0 c1 c2 c3 c4 c5
        have HR1 : Hid (R = (((List.range T.length).all fun i => if i = 0 then true else typeOkI T i) &&
            ((List.range T.length).all fun i => if (ty T i).kind = 4 then decide (i + 1 < T.length) && decide ((ty T (i + 1)).up = i) else true))) := by
          show _ = _
          rw [HR.out, HR0.out]
          simp
        have HU0 : Hid (UpsTo T 1) := ⟨by rw [HT0.out], fun i h0 hi => by omega⟩
        clear HR HR0 HT0
        go_enter Try.func76, Try.ntmps76
        go_wp2
        go_loopw [3] (fun vi wr => ∃ (i : Nat), 1 ≤ i ∧ i ≤ T.length ∧ vi = .int .i64 (i : Int) ∧ Hid (UpsTo T i) ∧ Hid (∀ j, 0 < j → j < i → typeOkI T j = true) ∧ Below (w.heap.size + 1) (w.alloc (.cells #[.slice (some ⟨g, o, none⟩) T.length cap] 59)) wr)
          (fun vi _ => T.length - (intOf vi).toNat)
        case atStart => exact ⟨1, by omega, by omega, rfl, HU0, fun j h0 hj => by omega, Below.refl _ _⟩
        case round =>
          obtain ⟨i, hi1, hi, rfl, hui, hall, hbw⟩ := hrel
          have hB0 : Below w.heap.size w wr := (hB1 _).trans (hbw.mono (by omega))
          have hsz : w.heap.size < wr.heap.size := by have := hbw.size; simp at this; omega
          have q0 : wr.cell? ⟨w.heap.size, 0, none⟩ = some (.slice (some ⟨g, o, none⟩) T.length cap) := (hbw.cell (p := ⟨w.heap.size, 0, none⟩) (by simp)).trans (by simp)
          have hTr : Hid (TysAt wr wr.heap.size (.slice (some ⟨g, o, none⟩) T.length cap) T) := HT.out.below hB0
          clear hB1 c0 c1 c2 c3 c4 c5
          by_cases hlt : i < T.length
          · have hlt' : (i : Int) < (T.length : Int) := by omega
            go_wp2_with fail
            refine (goodType_any T _ i _ hTr.out hlt hi1 h30 hui.out).mono ?_
            rintro e w1 ⟨rfl, hb1⟩
            have hbw1 := hbw.trans (hb1.mono (show w.heap.size + 1 ≤ wr.heap.size by omega))
            have hB2 : Below w.heap.size w w1 := hB0.trans (hb1.mono hB0.size)
            clear hb1 hbw hB0
            by_cases hok : typeOkI T i = true
            · have hui2 : Hid (UpsTo T (i + 1)) := ups_step hi1 hui.out hok
              have hall2 : Hid (∀ j, 0 < j → j < i + 1 → typeOkI T j = true) := fun j h0 hj => by
                by_cases hji : j = i
                · rw [hji]; exact hok
                · exact hall.out j h0 (by omega)
              rw [hok]
              clear hok
              go_wp2
              go_roundw
              case rel => exact ⟨i + 1, by omega, by omega, by go_num, hui2, hall2, hbw1⟩
              case measure => simp [intOf]; omega
            · have hok' : typeOkI T i = false := by simpa using hok
              have hn : Hid (R = false) := by
                show R = _
                rw [HR1.out, Bool.and_eq_false_iff]
                left
                rw [List.all_eq_false]
                refine ⟨i, List.mem_range.2 hlt, ?_⟩
                rw [if_neg (by omega), hok']
                simp
              rw [hok']
              clear hok hok'
              go_wp2
              go_ret
              exact ⟨by rw [hn.out]; rfl, hB2⟩
          · have hge : ¬ ((i : Int) < (T.length : Int)) := by omega
            have hn : Hid (R = ((List.range T.length).all fun i => if (ty T i).kind = 4 then decide (i + 1 < T.length) && decide ((ty T (i + 1)).up = i) else true)) := by
              show R = _
              rw [HR1.out]
              have : ((List.range T.length).all fun i => if i = 0 then true else typeOkI T i) = true := by
                rw [List.all_eq_true]
                intro x hx
                by_cases hx0 : x = 0
                · rw [if_pos hx0]
                · rw [if_neg hx0]
                  exact hall.out x (by omega) (by have := List.mem_range.1 hx; omega)
              rw [this]
              simp
            go_wp2_with fail
            refine (eachListHasPart_any T _ _ hTr.out (by omega) h30).mono ?_
            rintro e w1 ⟨rfl, hb1⟩
            rw [← hn.out]
            go_wp2
            go_ret
            exact ⟨rfl, hB0.trans (hb1.mono hB0.size)⟩
      · obtain ⟨kind, name, no, must, up, most⟩ := t0
        obtain ⟨c0, c1, c2, c3, c4, c5⟩ := hc0
        dsimp only at c0 c1 c2 c3 c4 c5 hgood
        have hn : Hid (R = false) := by
          show R = _
          rw [HR.out, HR0.out]
          have : decide (kind = 5 ∧ name = ⟨#[]⟩ ∧ no = 0 ∧ must = false ∧ up = -1 ∧ most = 0) = false := by simpa using hgood
          rw [this]
          simp
        clear HR HR0 HT0
        by_cases h : kind = 5
        · subst h
          by_cases h : name.toList = []
          · have hnd : name = ⟨#[]⟩ := by
              apply ByteArray.ext
              have : name.data.toList = [] := by rw [← ByteArray.toList_eq]; exact h
              exact Array.toList_eq_nil_iff.1 this
            subst hnd
            clear h
            by_cases h : no = 0
            · subst h
              by_cases h : must = false
              · subst h
                by_cases h : up = -1
                · subst h
                  by_cases h : most = 0
                  · exact absurd ⟨rfl, rfl, rfl, rfl, rfl, h⟩ hgood
                  · have h' : (most == 0) = false := by simpa using h
                    clear h hgood
                    go_enter Try.func76, Try.ntmps76
                    go_wp2
                    go_ret
                    exact ⟨by rw [hn.out]; rfl, hB1 _⟩
                · have h' : (up == -1) = false := by simpa using h
                  clear h hgood
                  go_enter Try.func76, Try.ntmps76
                  go_wp2
                  go_ret
                  exact ⟨by rw [hn.out]; rfl, hB1 _⟩
              · have h' : must = true := by simpa using h
                subst h'
                clear h hgood
                go_enter Try.func76, Try.ntmps76
                go_wp2
                go_ret
                exact ⟨by rw [hn.out]; rfl, hB1 _⟩
            · have h' : (no == 0) = false := by simpa using h
              clear h hgood
              go_enter Try.func76, Try.ntmps76
              go_wp2
              go_ret
              exact ⟨by rw [hn.out]; rfl, hB1 _⟩
          · have h' : name.toList.isEmpty = false := by simpa using h
            clear h hgood
            go_enter Try.func76, Try.ntmps76
            go_wp2
            go_ret
            exact ⟨by rw [hn.out]; rfl, hB1 _⟩
        · have h' : (kind == 5) = false := by simpa using h
          clear h hgood
          go_enter Try.func76, Try.ntmps76
          go_wp2
          go_ret
          exact ⟨by rw [hn.out]; rfl, hB1 _⟩
    · have hn : gsI T = false := by unfold gsI; simp [h30]
      rw [hn]
      obtain ⟨ao, cap, rfl, hlc, hcm, _⟩ := hT
      have h1' : ¬ ((T.length : Int) < 1) := by omega
      have h30' : (30 : Int) < (T.length : Int) := by omega
      clear hn h1 h30
      go_enter Try.func76, Try.ntmps76
      go_wp2
      go_ret
      exact ⟨rfl, hB1 _⟩
  · have hn : gsI T = false := by unfold gsI; simp [h1]
    rw [hn]
    obtain ⟨ao, cap, rfl, hlc, hcm, _⟩ := hT
    have h1' : (T.length : Int) < 1 := by omega
    clear hn h1
    go_enter Try.func76, Try.ntmps76
    go_wp2
    go_ret
    exact ⟨rfl, hB1 _⟩

end Go.Proofs.Ytpopjapcgcnnfaa
