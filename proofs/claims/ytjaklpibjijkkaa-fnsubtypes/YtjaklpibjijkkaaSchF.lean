/- The program's GoodSchema. -/
import Derived.Test.YtjaklpibjijkkaaSchE
namespace Go.Proofs.Ytjaklpibjijkkaa
open Go.RowKit Plain Sch

def restOk (T : List Ty) (k : Nat) : Bool :=
  if (ty T (ty T k).up.toNat).kind = 4 then decide ((k : Int) = (ty T k).up + 1) && bare (ty T k) else isName (ty T k).name && decide (1 ≤ (ty T k).no) && decide ((ty T k).no ≤ 30) && sis T k

theorem typeOkI_eq (T : List Ty) (k : Nat) (hk : 1 ≤ k) : typeOkI T k = (okKind (ty T k) && rb T k && decide (deepAt T k ≤ 5) && restOk T k) := by
  unfold typeOkI typeOk partOk rb restOk
  rw [if_neg (by omega)]
  by_cases h0 : 0 ≤ (ty T k).up
  · by_cases hc : (ty T k).up.toNat ∈ chain T (k - 1)
    · have hle := chain_le T _ _ hc
      have hlt : (ty T k).up < k := by omega
      by_cases h4 : (ty T (ty T k).up.toNat).kind = 4
      · simp only [h4, if_pos]
        simp [h0, hc, hlt]
        cases okKind (ty T k) <;> cases holds 4 <;> cases decide (deepAt T k ≤ 5) <;> cases bare (ty T k) <;> simp
      · simp only [h4, if_neg, not_false_eq_true]
        simp [h0, hc, hlt]
        cases okKind (ty T k) <;> cases holds (ty T (ty T k).up.toNat).kind <;> cases decide (deepAt T k ≤ 5) <;> simp
    · simp [hc]
  · simp [h0]

theorem ups_rb {T : List Ty} {k : Nat} (hk : 1 ≤ k) (hu : UpsTo T k) (h : rb T k = true) : UpsTo T (k + 1) ∧ 0 ≤ (ty T k).up ∧ (ty T k).up < k := by
  unfold rb at h
  simp only [Bool.and_eq_true, decide_eq_true_eq] at h
  have hle := chain_le T _ _ h.1.2
  refine ⟨⟨hu.1, fun i h0 hi => ?_⟩, h.1.1, by omega⟩
  by_cases hik : i = k
  · subst hik; exact ⟨h.1.1, by omega⟩
  · exact hu.2 i h0 (by omega)

theorem deepAt_le (T : List Ty) (k : Nat) : deepAt T k ≤ k + 1 := by
  unfold deepAt
  refine Nat.le_trans (List.length_filter_le _ _) ?_
  induction k using Nat.strongRecOn with
  | ind k ih =>
    rw [chain]
    split
    · have := ih (ty T k).up.toNat (by omega)
      simp only [List.length_cons]
      omega
    · simp

set_option maxRecDepth 100000 in
set_option maxHeartbeats 4000000 in
theorem goodType_any (T : List Ty) (v : Value) (k : Nat) (w : World) (hT : TysAt w w.heap.size v T) (hk : k < T.length) (hk1 : 1 ≤ k) (hl : T.length ≤ 30) (hu : UpsTo T k) :
    Calls Try.prog 52 #[v, .int .i64 k] w fun e w' => e = .returned (.bool (typeOkI T k)) ∧ Below w.heap.size w w' := by
  have HT : Hid (TysAt w w.heap.size v T) := hT
  obtain ⟨g, o, cap, rfl, hlc, hcm, hg, hrow, hnm⟩ := hT.open (by omega)
  clear hT
  obtain ⟨R, hR⟩ : ∃ R, R = typeOkI T k := ⟨_, rfl⟩
  rw [← hR]
  have HR : Hid (R = (okKind (ty T k) && rb T k && decide (deepAt T k ≤ 5) && restOk T k)) := by show _ = _; rw [hR]; exact typeOkI_eq T k hk1
  clear hR
  have HU : Hid (UpsTo T k) := hu
  clear hu
  have HRW : Hid (∀ i, i < T.length → TyIn w g (o + i * 6) (ty T i)) := hrow
  have hk' : (k : Int) < (T.length : Int) := by omega
  have hk0' : (0 : Int) ≤ (k : Int) := by omega
  have hcm' : cap ≤ 9223372036854775807 := by unfold maxLen at hcm; omega
  have hci := hrow k hk
  have hnk := hnm k hk
  obtain ⟨ti, hti⟩ : ∃ t, ty T k = t := ⟨_, rfl⟩
  have HTI : Hid (ty T k = ti) := hti
  rw [hti] at hci hnk
  clear hti hrow hnm
  obtain ⟨kind, name, no, must, up, most⟩ := ti
  obtain ⟨c0, c1, c2, c3, c4, c5⟩ := hci
  dsimp only at c0 c1 c2 c3 c4 c5 hnk
  have hB1 : Below w.heap.size w (w.alloc (.cells #[.int .i64 kind, .string name, .int .i64 no, .bool must, .int .i64 up, .int .i64 most] 65)) := (Below.refl _ w).alloc (Nat.le_refl _) _
  go_enter Try.func52, Try.ntmps52
  go_wp2_with fail
  refine (goodKind_any kind name no must up most _).mono ?_
  rintro e w1 ⟨rfl, hb1⟩
  have hB : Below w.heap.size w w1 := hB1.trans (hb1.mono (by simp))
  have hX : TyIn w1 w.heap.size 0 ⟨kind, name, no, must, up, most⟩ := (show TyIn _ w.heap.size 0 ⟨kind, name, no, must, up, most⟩ from ⟨by simp, by simp, by simp, by simp, by simp, by simp⟩ : TyIn (w.alloc (.cells #[.int .i64 kind, .string name, .int .i64 no, .bool must, .int .i64 up, .int .i64 most] 65)) w.heap.size 0 ⟨kind, name, no, must, up, most⟩).below hb1 (by simp)
  have hs1 : w.heap.size < w1.heap.size := by have := hb1.size; simp at this; omega
  clear hb1 hB1 c0 c1 c2 c3 c4 c5
  by_cases hok : okKind ⟨kind, name, no, must, up, most⟩ = true
  · have HR2 : Hid (R = (rb T k && decide (deepAt T k ≤ 5) && restOk T k)) := by show _ = _; rw [HR.out, HTI.out, hok]; simp
    rw [hok]
    clear hok HR
    have hT1 : Hid (TysAt w1 w1.heap.size (.slice (some ⟨g, o, none⟩) T.length cap) T) := HT.out.below hB
    go_wp2_with fail
    refine (isRightBehind_any T _ k _ hT1.out hk hk1 hl HU.out).mono ?_
    rintro e w2 ⟨rfl, hb2⟩
    have hB2 : Below w.heap.size w w2 := hB.trans (hb2.mono hB.size)
    have hX2 := hX.below hb2 hs1
    have hs2 : w.heap.size < w2.heap.size := by have := hb2.size; omega
    have hT2 : Hid (TysAt w2 w2.heap.size (.slice (some ⟨g, o, none⟩) T.length cap) T) := hT1.out.below hb2
    clear hb2 hT1 hX hB
    by_cases hrb : rb T k = true
    · have HR3 : Hid (R = (decide (deepAt T k ≤ 5) && restOk T k)) := by show _ = _; rw [HR2.out, hrb]; simp
      have hups := ups_rb hk1 HU.out hrb
      rw [hrb]
      have HU2 : Hid (UpsTo T (k + 1)) := hups.1
      have hup0 := hups.2
      rw [HTI.out] at hup0
      dsimp only at hup0
      obtain ⟨hup0, hup1⟩ := hup0
      clear hups hrb HR2
      go_wp2_with fail
      refine (deepAt_any T _ k _ hT2.out hk hl HU2.out).mono ?_
      rintro e w3 ⟨rfl, hb3⟩
      have hB3 : Below w.heap.size w w3 := hB2.trans (hb3.mono hB2.size)
      have hX3 := hX2.below hb3 hs2
      have hs3 : w.heap.size < w3.heap.size := by have := hb3.size; omega
      have hT3 : Hid (TysAt w3 w3.heap.size (.slice (some ⟨g, o, none⟩) T.length cap) T) := hT2.out.below hb3
      have hd31 : deepAt T k ≤ 31 := by have := deepAt_le T k; omega
      clear hb3 hT2 hX2 hB2
      obtain ⟨x0, x1, x2, x3, x4, x5⟩ := hX3
      dsimp only at x0 x1 x2 x3 x4 x5
      simp only [Nat.zero_add] at x1 x2 x3 x4 x5
      by_cases hd : deepAt T k ≤ 5
      · have HR4 : Hid (R = restOk T k) := by show _ = _; rw [HR3.out]; simp [hd]
        clear HR3
        generalize deepAt T k = dd at hd hd31
        have hd' : (dd : Int) ≤ 5 := by omega
        obtain ⟨u, rfl⟩ := Int.eq_ofNat_of_zero_le hup0
        have hcu := (HRW.out u (by omega)).below hB3 hg
        have hu1 : (u : Int) < (T.length : Int) := by omega
        have hcu0 := hcu.1
        obtain ⟨ku, hku⟩ : ∃ x, (ty T u).kind = x := ⟨_, rfl⟩
        rw [hku] at hcu0
        have HR5 : Hid (R = if ku = 4 then decide ((k : Int) = (u : Int) + 1) && bare ⟨kind, name, no, must, (u : Int), most⟩ else isName name && decide (1 ≤ no) && decide (no ≤ 30) && sis T k) := by
          show _ = _
          rw [HR4.out]
          unfold restOk
          rw [HTI.out]
          dsimp only
          rw [Int.toNat_natCast, hku]
        clear HR4 hku hcu hd
        by_cases h4 : ku = 4
        · subst h4
          have HR6 := HR5
          rw [if_pos rfl] at HR6
          clear HR5
          by_cases hku : (k : Int) = (u : Int) + 1
          · have hku' : ((k : Int) == (u : Int) + 1) = true := by simpa using hku
            by_cases hne : name.toList = []
            · have hnd : name = ⟨#[]⟩ := by
                apply ByteArray.ext
                have : name.data.toList = [] := by rw [← ByteArray.toList_eq]; exact hne
                exact Array.toList_eq_nil_iff.1 this
              subst hnd
              by_cases hno : no = 0
              · subst hno
                have hn : Hid (R = !must) := by show _ = _; rw [HR6.out]; unfold bare; simp [hku]
                clear HR6 hku hne
                go_wp2
                go_ret
                exact ⟨by rw [hn.out]; rfl, hB3⟩
              · have hno' : (no == 0) = false := by simpa using hno
                have hn : Hid (R = false) := by show _ = _; rw [HR6.out]; unfold bare; simp [hno]
                clear HR6 hku hne hno
                go_wp2
                go_ret
                exact ⟨by rw [hn.out]; rfl, hB3⟩
            · have hne' : name.toList.isEmpty = false := by simpa using hne
              have hnd : ¬ name = ⟨#[]⟩ := fun e => hne (by rw [e]; simp)
              have hn : Hid (R = false) := by show _ = _; rw [HR6.out]; unfold bare; simp [hnd]
              clear HR6 hku hne hnd
              go_wp2
              go_ret
              exact ⟨by rw [hn.out]; rfl, hB3⟩
          · have hku' : ((k : Int) == (u : Int) + 1) = false := by simpa using hku
            have hn : Hid (R = false) := by show _ = _; rw [HR6.out]; simp [hku]
            clear HR6 hku
            go_wp2
            go_ret
            exact ⟨by rw [hn.out]; rfl, hB3⟩
        · have h4' : (ku == 4) = false := by simpa using h4
          rw [if_neg h4] at HR5
          clear h4
          go_wp2_with fail
          refine (isName_any name _ hnk).mono ?_
          rintro e w4 ⟨rfl, rfl⟩
          by_cases hin : isName name = true
          · rw [hin] at HR5 ⊢
            clear hin
            by_cases h1 : 1 ≤ no
            · by_cases h30 : no ≤ 30
              · have hn : Hid (R = sis T k) := by show _ = _; rw [HR5.out]; simp [h1, h30]
                clear HR5
                go_wp2_with fail
                refine (fitsSisters_any T _ k _ hT3.out hk hl).mono ?_
                rintro e w5 ⟨rfl, hb5⟩
                go_wp2
                go_ret
                exact ⟨by rw [hn.out]; rfl, hB3.trans (hb5.mono hB3.size)⟩
              · have hn : Hid (R = false) := by show _ = _; rw [HR5.out]; simp [h30]
                have h30' : decide (no ≤ 30) = false := by simpa using h30
                clear HR5 h30
                go_wp2
                go_ret
                exact ⟨by rw [hn.out]; rfl, hB3⟩
            · have hn : Hid (R = false) := by show _ = _; rw [HR5.out]; simp [h1]
              have h1' : decide (1 ≤ no) = false := by simpa using h1
              clear HR5 h1
              go_wp2
              go_ret
              exact ⟨by rw [hn.out]; rfl, hB3⟩
          · have hin' : isName name = false := by simpa using hin
            have hn : Hid (R = false) := by show _ = _; rw [HR5.out, hin']; simp
            rw [hin']
            clear hin hin' HR5
            go_wp2
            go_ret
            exact ⟨by rw [hn.out]; rfl, hB3⟩
      · have hn : Hid (R = false) := by show _ = _; rw [HR3.out]; simp [hd]
        clear HR3
        generalize deepAt T k = dd at hd hd31
        have hd' : 5 < (dd : Int) := by omega
        clear hd
        go_wp2
        go_ret
        exact ⟨by rw [hn.out]; rfl, hB3⟩
    · have hrb' : rb T k = false := by simpa using hrb
      have hn : Hid (R = false) := by show _ = _; rw [HR2.out, hrb']; simp
      rw [hrb']
      clear hrb hrb' HR2
      go_wp2
      go_ret
      exact ⟨by rw [hn.out]; rfl, hB2⟩
  · have hok' : okKind ⟨kind, name, no, must, up, most⟩ = false := by simpa using hok
    have hn : Hid (R = false) := by show _ = _; rw [HR.out, HTI.out, hok']; simp
    rw [hok']
    clear hok hok' HR
    go_wp2
    go_ret
    exact ⟨by rw [hn.out]; rfl, hB⟩

theorem ups_step {T : List Ty} {k : Nat} (hk : 1 ≤ k) (hu : UpsTo T k) (h : typeOkI T k = true) : UpsTo T (k + 1) := by
  rw [typeOkI_eq T k hk] at h
  simp only [Bool.and_eq_true] at h
  exact (ups_rb hk hu h.1.1.2).1

theorem first_eq (t : Ty) : (okKind t && firstOk t) = decide (t.kind = 5 ∧ t.name = ⟨#[]⟩ ∧ t.no = 0 ∧ t.must = false ∧ t.up = -1 ∧ t.most = 0) := by
  obtain ⟨kind, name, no, must, up, most⟩ := t
  unfold okKind firstOk
  dsimp only
  by_cases h5 : kind = 5
  · subst h5
    by_cases hn : name = ⟨#[]⟩ <;> by_cases h0 : no = 0 <;> by_cases hu : up = -1 <;> by_cases hm : most = 0 <;> cases must <;> simp [hn, h0, hu, hm]
  · simp [h5]

end Go.Proofs.Ytjaklpibjijkkaa
