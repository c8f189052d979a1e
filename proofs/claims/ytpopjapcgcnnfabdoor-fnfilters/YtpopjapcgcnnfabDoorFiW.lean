/- The law FnFilters, walked: for what is drawn from the bytes it answers true. -/
import Derived.Test.YtpopjapcgcnnfabDoorGx
import Derived.Test.YtpopjapcgcnnfabDoorGy
import Derived.Test.YtpopjapcgcnnfabDoorMtF
import Derived.Test.YtpopjapcgcnnfabDoorMtG
import Derived.Test.YtpopjapcgcnnfabDoorGz
import Derived.Deep.DeepCutAuto
namespace Go.Proofs.YtpopjapcgcnnfabDoor
open Go.RowKit Plain Sch Wan

theorem not_texts {L : List Wa} (h : ∀ x ∈ L, x.text.size ≤ 4) : (∀ x ∈ (notF L).1, x.text.size ≤ 4) ∧ (notF L).1.length ≤ L.length + 1 := by
  unfold notF
  by_cases hc : (gf L && decide (L.length < 20)) = true
  · rw [if_pos hc]
    refine ⟨fun x hx => ?_, by simp⟩
    rcases List.mem_append.1 hx with q | q
    · exact h x q
    · simp at q; rw [q]; simp [ByteArray.size]
  · rw [if_neg hc]; simp

theorem sh_text (n : Nat) (x : Wa) : (sh n x).text = x.text := by
  unfold sh
  by_cases h1 : isBin x.kind = true
  · rw [if_pos h1]
  · rw [if_neg h1]
    by_cases h2 : isNot x.kind = true
    · rw [if_pos h2]
    · rw [if_neg h2]

theorem both_texts {L M : List Wa} (h : ∀ x ∈ L, x.text.size ≤ 4) (k : ∀ x ∈ M, x.text.size ≤ 4) : (∀ x ∈ (bothF L M).1, x.text.size ≤ 4) ∧ (bothF L M).1.length ≤ L.length + M.length + 1 := by
  unfold bothF
  by_cases hc : (gf L && gf M && decide (L.length + M.length < 20)) = true
  · rw [if_pos hc]
    refine ⟨fun x hx => ?_, by simp; omega⟩
    rcases List.mem_append.1 hx with q | q
    · rcases List.mem_append.1 q with q | q
      · exact h x q
      · rw [List.mem_map] at q
        obtain ⟨y, hy, rfl⟩ := q
        rw [sh_text]
        exact k y hy
    · simp at q; rw [q]; simp [ByteArray.size]
  · rw [if_neg hc]; simp

theorem was_all {w1 W : World} {B : Nat} {v : Value} {L : List Wa} (h : WRow w1 B v L) (ht : ∀ x ∈ L, x.text.size ≤ 4) (hB : Below w1.heap.size w1 W) : ∀ W', Below W.heap.size W W' → WasAt W' W'.heap.size v L := fun W' hW => by
  have h1 : WasAt w1 w1.heap.size v L := WasAt.own h (fun i hi => by have := wa_text ht hi; unfold maxLen; omega)
  exact h1.below (hB.trans (hW.mono hB.size))

set_option maxRecDepth 100000 in
set_option maxHeartbeats 16000000 in
theorem walkFnFilters (a0 a1 : Option Addr) (len0 cap0 len1 cap1 : Nat) (w : World) (hk : KR w) (h0 : len0 ≤ 1048576 → CodeAt w a0 len0) (h1 : len1 ≤ 1048576 → CodeAt w a1 len1) (y0 : len0 ≤ 140737488351232) (y1 : len1 ≤ 140737488351232) :
    Calls Tryd.prog 5 #[.slice a0 len0 cap0, .slice a1 len1 cap1] w fun e w' => e = .returned (.bool true) ∧ Below w.heap.size w w' := by
  by_cases hbig : 1048576 < len0 + len1
  · have hbig' : (1048576 : Int) < (len0 : Int) + (len1 : Int) := by omega
    clear h0 h1 hk
    go_enter Tryd.func5, Tryd.ntmps5
    go_wp2
    go_ret
    exact ⟨rfl, Below.refl _ _⟩
  have hbig' : (len0 : Int) + (len1 : Int) ≤ 1048576 := by omega
  have hk1 : Hid (CodeAt w a1 len1) := h1 (by omega)
  have hk0 := h0 (by omega)
  have HK : Hid (∀ W, Below w.heap.size w W → KR W) := fun W hW => hk.below hW hk.1
  clear h0 h1 hbig hk
  go_enter Tryd.func5, Tryd.ntmps5
  go_wp2_with fail
  refine (drawMatches_any a0 len0 cap0 w hk0).mono ?_
  rintro e w2 ⟨ao, cap, L, t, rfl, hL, ht⟩
  obtain ⟨hrL, hL15, htL, hb2⟩ := hL
  have htm : t.size ≤ maxLen := by unfold maxLen; omega
  obtain ⟨W3, hW3⟩ : ∃ W, W = w2.alloc (.cells #[.slice ao L.length cap] 25) := ⟨_, rfl⟩
  have hB3 : Below w2.heap.size w2 W3 := by rw [hW3]; exact (Below.refl _ w2).alloc (Nat.le_refl _) _
  have HS3 : Hid (W3.heap.size = w2.heap.size + 1) := by show _ = _; rw [hW3]; simp
  have HC3 : Hid (∀ W : World, Below W3.heap.size W3 W → W.cell? ⟨w2.heap.size, 0, none⟩ = some (.slice ao L.length cap) ∧ w2.heap.size < W.heap.size) := fun W hW => by
    have hs := HS3.out
    have h2 := hW.size
    refine ⟨(hW.cell (p := ⟨w2.heap.size, 0, none⟩) (by show w2.heap.size < _; omega)).trans ?_, by omega⟩
    rw [hW3]; go_simp
  have HTL : Hid (∀ W, Below W3.heap.size W3 W → WasAt W W.heap.size (.slice ao L.length cap) L) := was_all hrL htL hB3
  have HB3 : Hid (Below w.heap.size w W3) := hb2.trans (hB3.mono hb2.size)
  have HKW : Hid (∀ W, Below w.heap.size w W → KR W) := HK
  have HK3 : Hid (∀ W, Below W3.heap.size W3 W → KR W) := fun W hW => HK.out W (HB3.out.trans (hW.mono HB3.out.size))
  have HTX : Hid (∀ x ∈ L, x.text.size ≤ 4) := htL
  clear hrL hb2 hB3 hk0 HK htL
  go_wp2_with fail
  rw [← hW3]
  clear hW3
  refine (implMatches L t _ W3 (HTL.out _ (Below.refl _ _)) htm (HK3.out _ (Below.refl _ _))).mono ?_
  rintro e w4 ⟨rfl, hb4⟩
  obtain ⟨q4, z4⟩ := HC3.out _ hb4
  go_wp2_with fail
  refine (specMatches L t _ w4 (HTL.out _ hb4) htm).mono ?_
  rintro e w5 ⟨rfl, hb5⟩
  have hB5 : Below W3.heap.size W3 w5 := hb4.trans (hb5.mono hb4.size)
  obtain ⟨q5, z5⟩ := HC3.out _ hB5
  clear hb4 hb5 q4 z4
  have HNT : Hid ((mto L t).2 = true → (notF L).2 = true → mto (notF L).1 t = (!(mto L t).1, true)) := fun p q => not_tells p q
  generalize mto L t = R at HNT ⊢
  obtain ⟨m, ok⟩ := R
  dsimp only at HNT ⊢
  have hn1 : (ok != ok) = false := by simp
  have hn2 : (m != m) = false := by simp
  have hB5d : Below W3.heap.size W3 w5.drew := hB5.drew
  have GI : Hid (∀ W : World, Below W3.heap.size W3 W → Calls Tryd.prog 21 #[.agg #[.slice ao L.length cap]] W fun e w' => e = .returned (.bool (gf L)) ∧ Below W.heap.size W w') := fun W hW => implGoodF L _ W (HTL.out W hW)
  have GS : Hid (∀ W : World, Below W3.heap.size W3 W → Calls Tryd.prog 22 #[.agg #[.slice ao L.length cap]] W fun e w' => e = .returned (.bool (gf L)) ∧ Below W.heap.size W w') := fun W hW => specGoodF L _ W (HTL.out W hW)
  generalize gf L = ga at GI GS
  have hn3 : (ga != ga) = false := by simp
  go_upto_region 6 with fail
  go_cut [66] (fun s66 wx => s66 = .bool false ∧ Below W3.heap.size W3 wx)
  case first =>
    go_region_with (first
      | (go_at_call 22; refine (GS.out _ hB6).mono ?_; rintro e w7 ⟨rfl, hb7⟩; have hB7 : Below W3.heap.size W3 w7 := hB6.trans (hb7.mono hB6.size))
      | (go_at_call 21; refine (GI.out _ hB5d).mono ?_; rintro e w6 ⟨rfl, hb6⟩; have hB6 : Below W3.heap.size W3 w6 := hB5d.trans (hb6.mono hB5d.size); obtain ⟨q6, z6⟩ := HC3.out _ hB6))
    all_goals
      go_wp2_with fail
      go_meet
      exact ⟨rfl, hB7⟩
  case rest =>
    obtain ⟨rfl, hbc⟩ := hcut
    obtain ⟨qc, zc⟩ := HC3.out _ hbc
    clear GS GI hn1 hn2 hn3 q5 z5 hB5 hB5d
    have hTN := not_texts HTX.out
    have HN1 : Hid (∀ W : World, Below W3.heap.size W3 W → Calls Tryd.prog 23 #[.agg #[.slice ao L.length cap]] W fun e w' => OFil W w' e (notF L)) := fun W hW => implNot L _ W (HTL.out W hW)
    have HN2 : Hid (∀ W : World, Below W3.heap.size W3 W → Calls Tryd.prog 24 #[.agg #[.slice ao L.length cap]] W fun e w' => OFil W w' e (notF L)) := fun W hW => specNot L _ W (HTL.out W hW)
    generalize notF L = RN at HNT hTN HN1 HN2
    obtain ⟨N, is⟩ := RN
    dsimp only at HNT hTN HN1 HN2
    obtain ⟨hTN, hlN⟩ := hTN
    have HTN : Hid (∀ x ∈ N, x.text.size ≤ 4) := hTN
    clear hTN
    go_wp2_with fail
    refine (HN1.out _ hbc).mono ?_
    rintro e w7 ⟨rvn, rfl, hrn, hb7⟩
    dsimp only at hrn ⊢
    have hB7 : Below W3.heap.size W3 w7 := hbc.trans (hb7.mono hbc.size)
    obtain ⟨an, capn, hrvn⟩ := hrn.slice
    subst hrvn
    obtain ⟨W8, hW8⟩ : ∃ W, W = w7.alloc (.cells #[.slice an N.length capn] 25) := ⟨_, rfl⟩
    have hB78 : Below w7.heap.size w7 W8 := by rw [hW8]; exact (Below.refl _ w7).alloc (Nat.le_refl _) _
    have HS8 : Hid (W8.heap.size = w7.heap.size + 1) := by show _ = _; rw [hW8]; simp
    have HC8 : Hid (∀ W : World, Below W8.heap.size W8 W → W.cell? ⟨w7.heap.size, 0, none⟩ = some (.slice an N.length capn) ∧ w7.heap.size < W.heap.size) := fun W hW => by
      have hs := HS8.out
      have h2 := hW.size
      refine ⟨(hW.cell (p := ⟨w7.heap.size, 0, none⟩) (by show w7.heap.size < _; omega)).trans ?_, by omega⟩
      rw [hW8]; go_simp
    have HTNa : Hid (∀ W, Below W8.heap.size W8 W → WasAt W W.heap.size (.slice an N.length capn) N) := was_all hrn HTN.out hB78
    have hB8 : Below W3.heap.size W3 W8 := hB7.trans (hB78.mono hB7.size)
    obtain ⟨q7, z7⟩ := HC3.out _ hB7
    clear hrn hb7 hB7 hB78 hbc qc zc HN1
    go_wp2_with fail
    rw [← hW8]
    clear hW8
    refine (HN2.out _ hB8).mono ?_
    rintro e w9 ⟨rvm, rfl, hrm, hb9⟩
    dsimp only at hrm ⊢
    obtain ⟨am, capm, hrvm⟩ := hrm.slice
    subst hrvm
    obtain ⟨W10, hW10⟩ : ∃ W, W = w9.alloc (.cells #[.slice am N.length capm] 25) := ⟨_, rfl⟩
    have hB910 : Below w9.heap.size w9 W10 := by rw [hW10]; exact (Below.refl _ w9).alloc (Nat.le_refl _) _
    have hc10 : W10.cell? ⟨w9.heap.size, 0, none⟩ = some (.slice am N.length capm) := by rw [hW10]; go_simp
    have hTM10 := was_all hrm HTN.out hB910 W10 (Below.refl _ _)
    have hB10 : Below W8.heap.size W8 W10 := hb9.trans (hB910.mono hb9.size)
    obtain ⟨q9, z9⟩ := HC8.out _ hb9
    have hTN10 := HTNa.out _ hB10
    have HSF : Hid (Calls Tryd.prog 25 #[.agg #[.slice an N.length capn], .agg #[.slice am N.length capm]] W10 fun e w' => e = .returned (.bool true) ∧ Below W10.heap.size W10 w') := sameFilters_same N _ _ W10 hTN10 hTM10 (by omega)
    have hne : (is != is) = false := by simp
    clear hrm hb9 hB910 HN2 hTM10 hTN10 q7 z7
    go_wp2_with fail
    rw [← hW10]
    clear hW10
    refine HSF.out.mono ?_
    rintro e w11 ⟨rfl, hb11⟩
    have hB11 : Below W8.heap.size W8 w11 := hB10.trans (hb11.mono hB10.size)
    obtain ⟨q11, z11⟩ := HC8.out _ hB11
    clear HSF hb11 hB10 q9 z9 hc10 hne
    have HB8 : Hid (Below w.heap.size w W8) := HB3.out.trans (hB8.mono HB3.out.size)
    go_upto_region 12 with fail
    go_cut [89] (fun s89 wx => s89 = .bool (ok && is) ∧ Below W8.heap.size W8 wx)
    case first =>
      cases ok
      · go_wp2_with fail
        go_meet
        exact ⟨rfl, hB11⟩
      · go_wp2_with fail
        go_meet
        exact ⟨by simp, hB11⟩
    case rest =>
      obtain ⟨rfl, hbe⟩ := hcut
      clear q11 z11 hB11
      obtain ⟨q11, z11⟩ := HC8.out _ hbe
      have HV : Hid ((ok && is) = true → mto N t = (!m, true)) := fun h => by
        simp only [Bool.and_eq_true] at h
        exact HNT.out h.1 h.2
      generalize (ok && is) = v at HV ⊢
      clear HNT
      go_upto_if 89 with fail
      go_cut [89] (fun s89 wx => s89 = .bool v ∧ Below W8.heap.size W8 wx)
      case first =>
        cases v
        · go_wp2_with fail
          go_meet
          exact ⟨rfl, hbe⟩
        · have MM : Hid (Calls Tryd.prog 10 #[.agg #[.slice an N.length capn], .string t] wc fun e w' => e = .returned (.tuple #[.bool (!m), .bool true]) ∧ Below wc.heap.size wc w') := by
            have h := implMatches N t _ wc (HTNa.out _ hbe) htm (HK3.out _ (hB8.trans (hbe.mono hB8.size)))
            rw [HV.out rfl] at h
            exact h
          clear HV
          go_wp2_with fail
          refine MM.out.mono ?_
          rintro e w12 ⟨rfl, hb12⟩
          have hB12 : Below W8.heap.size W8 w12 := hbe.trans (hb12.mono hbe.size)
          clear MM hb12
          cases m
          · go_wp2_with fail
            go_meet
            exact ⟨rfl, hB12⟩
          · go_wp2_with fail
            go_meet
            exact ⟨rfl, hB12⟩
      case rest =>
        obtain ⟨rfl, hbd⟩ := hcut
        have hBwd := HB8.out.trans (hbd.mono HB8.out.size)
        have HBW : Hid (Below W8.heap.size W8 wc) := hbd
        clear HV q11 z11 hbe HC8 HTNa HTN hlN HC3 HTL HTX HS8 HS3 hbd
        go_wp2_with fail
        refine (drawBoth_any a1 len1 cap1 _ (hk1.out.below hBwd)).mono ?_
        rintro e w12 ⟨ag, cg, G, ah, ch, H, rfl, hG, hH⟩
        obtain ⟨hrG, hG15, htG, hb12⟩ := hG
        obtain ⟨hrH, hH15, htH, _⟩ := hH
        obtain ⟨W13, hW13⟩ : ∃ W, W = (w12.alloc (.cells #[.slice ag G.length cg] 25)).alloc (.cells #[.slice ah H.length ch] 25) := ⟨_, rfl⟩
        have hB13 : Below w12.heap.size w12 W13 := by rw [hW13]; exact ((Below.refl _ w12).alloc (Nat.le_refl _) _).alloc (by simp) _
        have HS13 : Hid (W13.heap.size = w12.heap.size + 2) := by show _ = _; rw [hW13]; simp
        have HC13 : Hid (∀ W : World, Below W13.heap.size W13 W → W.cell? ⟨w12.heap.size, 0, none⟩ = some (.slice ag G.length cg) ∧ W.cell? ⟨w12.heap.size + 1, 0, none⟩ = some (.slice ah H.length ch) ∧ w12.heap.size < W.heap.size ∧ w12.heap.size + 1 < W.heap.size) := fun W hW => by
          have hs := HS13.out
          have h2 := hW.size
          refine ⟨(hW.cell (p := ⟨w12.heap.size, 0, none⟩) (by show w12.heap.size < _; omega)).trans ?_, (hW.cell (p := ⟨w12.heap.size + 1, 0, none⟩) (by show w12.heap.size + 1 < _; omega)).trans ?_, by omega, by omega⟩
          · rw [hW13]; go_simp
          · rw [hW13]; go_simp
        have HTG : Hid (∀ W, Below W13.heap.size W13 W → WasAt W W.heap.size (.slice ag G.length cg) G) := was_all hrG htG hB13
        have HTH : Hid (∀ W, Below W13.heap.size W13 W → WasAt W W.heap.size (.slice ah H.length ch) H) := was_all hrH htH hB13
        have HB12 : Hid (Below w.heap.size w w12) := hBwd.trans (hb12.mono hBwd.size)
        have HB13 : Hid (Below w.heap.size w W13) := HB12.out.trans (hB13.mono HB12.out.size)
        have HK13 : Hid (∀ W, Below W13.heap.size W13 W → KR W) := fun W hW => HKW.out W (HB13.out.trans (hW.mono HB13.out.size))
        have hTD := both_texts htG htH
        have HB1 : Hid (∀ W : World, Below W13.heap.size W13 W → Calls Tryd.prog 27 #[.agg #[.slice ag G.length cg], .agg #[.slice ah H.length ch]] W fun e w' => OFil W w' e (bothF G H)) := fun W hW => implBoth G H _ _ W (HTG.out W hW) (HTH.out W hW)
        have HB2 : Hid (∀ W : World, Below W13.heap.size W13 W → Calls Tryd.prog 28 #[.agg #[.slice ag G.length cg], .agg #[.slice ah H.length ch]] W fun e w' => OFil W w' e (bothF G H)) := fun W hW => specBoth G H _ _ W (HTG.out W hW) (HTH.out W hW)
        have HBT : Hid ((bothF G H).2 = true → (mto G t).2 = (rr t).2 ∧ (mto H t).2 = (rr t).2 ∧ (mto (bothF G H).1 t).2 = (rr t).2 ∧ ((rr t).2 = true → (mto (bothF G H).1 t).1 = ((mto G t).1 && (mto H t).1))) := fun h => both_tells h
        generalize bothF G H = RD at HBT hTD HB1 HB2
        obtain ⟨D, one⟩ := RD
        dsimp only at HBT hTD HB1 HB2
        obtain ⟨hTD, hlD⟩ := hTD
        have HTD : Hid (∀ x ∈ D, x.text.size ≤ 4) := hTD
        have hlD' : D.length ≤ 31 := by omega
        clear hrG hrH hb12 htG htH hTD hlD hBwd hB13 HBW HB8
        go_wp2_with fail
        rw [← hW13]
        clear hW13
        refine (HB1.out _ (Below.refl _ _)).mono ?_
        rintro e w14 ⟨rvd, rfl, hrd, hb14⟩
        dsimp only at hrd ⊢
        obtain ⟨ad, capd, hrvd⟩ := hrd.slice
        subst hrvd
        obtain ⟨W15, hW15⟩ : ∃ W, W = w14.alloc (.cells #[.slice ad D.length capd] 25) := ⟨_, rfl⟩
        have hB1415 : Below w14.heap.size w14 W15 := by rw [hW15]; exact (Below.refl _ w14).alloc (Nat.le_refl _) _
        have HS15 : Hid (W15.heap.size = w14.heap.size + 1) := by show _ = _; rw [hW15]; simp
        have HC15 : Hid (∀ W : World, Below W15.heap.size W15 W → W.cell? ⟨w14.heap.size, 0, none⟩ = some (.slice ad D.length capd) ∧ w14.heap.size < W.heap.size) := fun W hW => by
          have hs := HS15.out
          have h2 := hW.size
          refine ⟨(hW.cell (p := ⟨w14.heap.size, 0, none⟩) (by show w14.heap.size < _; omega)).trans ?_, by omega⟩
          rw [hW15]; go_simp
        have HTDa : Hid (∀ W, Below W15.heap.size W15 W → WasAt W W.heap.size (.slice ad D.length capd) D) := was_all hrd HTD.out hB1415
        have hB15 : Below W13.heap.size W13 W15 := hb14.trans (hB1415.mono hb14.size)
        obtain ⟨p14, q14, z14, y14⟩ := HC13.out _ hb14
        clear hrd hb14 hB1415 HB1
        go_wp2_with fail
        rw [← hW15]
        clear hW15
        refine (HB2.out _ hB15).mono ?_
        rintro e w16 ⟨rvm, rfl, hrm, hb16⟩
        dsimp only at hrm ⊢
        obtain ⟨am, capm, hrvm⟩ := hrm.slice
        subst hrvm
        obtain ⟨W17, hW17⟩ : ∃ W, W = w16.alloc (.cells #[.slice am D.length capm] 25) := ⟨_, rfl⟩
        have hB1617 : Below w16.heap.size w16 W17 := by rw [hW17]; exact (Below.refl _ w16).alloc (Nat.le_refl _) _
        have hTM17 := was_all hrm HTD.out hB1617 W17 (Below.refl _ _)
        have hB17 : Below W15.heap.size W15 W17 := hb16.trans (hB1617.mono hb16.size)
        obtain ⟨q16, z16⟩ := HC15.out _ hb16
        have HSF : Hid (Calls Tryd.prog 25 #[.agg #[.slice ad D.length capd], .agg #[.slice am D.length capm]] W17 fun e w' => e = .returned (.bool true) ∧ Below W17.heap.size W17 w') := sameFilters_same D _ _ W17 (HTDa.out _ hB17) hTM17 (by omega)
        have hne : (one != one) = false := by simp
        clear hrm hb16 hB1617 HB2 hTM17 p14 q14 z14 y14
        go_wp2_with fail
        rw [← hW17]
        clear hW17
        refine HSF.out.mono ?_
        rintro e w18 ⟨rfl, hb18⟩
        have hB18 : Below W15.heap.size W15 w18 := hB17.trans (hb18.mono hB17.size)
        have hC18 : Below W13.heap.size W13 w18 := hB15.trans (hB18.mono hB15.size)
        obtain ⟨q18, z18⟩ := HC15.out _ hB18
        obtain ⟨p18, r18, x18, y18⟩ := HC13.out _ hC18
        clear HSF hb18 hB17 q16 z16 hne
        cases one
        · go_wp2
          go_ret
          exact ⟨rfl, HB13.out.trans (hC18.mono HB13.out.size)⟩
        · have hT := HBT.out rfl
          have MG : Hid (∀ W, Below W13.heap.size W13 W → Calls Tryd.prog 10 #[.agg #[.slice ag G.length cg], .string t] W fun e w' => e = .returned (.tuple #[.bool (mto G t).1, .bool (mto G t).2]) ∧ Below W.heap.size W w') := fun W hW => implMatches G t _ W (HTG.out W hW) htm (HK13.out W hW)
          have MH : Hid (∀ W, Below W13.heap.size W13 W → Calls Tryd.prog 10 #[.agg #[.slice ah H.length ch], .string t] W fun e w' => e = .returned (.tuple #[.bool (mto H t).1, .bool (mto H t).2]) ∧ Below W.heap.size W w') := fun W hW => implMatches H t _ W (HTH.out W hW) htm (HK13.out W hW)
          have MD : Hid (∀ W, Below W15.heap.size W15 W → Calls Tryd.prog 10 #[.agg #[.slice ad D.length capd], .string t] W fun e w' => e = .returned (.tuple #[.bool (mto D t).1, .bool (mto D t).2]) ∧ Below W.heap.size W w') := fun W hW => implMatches D t _ W (HTDa.out W hW) htm (HK13.out W (hB15.trans (hW.mono hB15.size)))
          rw [hT.1] at MG
          rw [hT.2.1] at MH
          rw [hT.2.2.1] at MD
          have hz := hT.2.2.2
          clear hT HBT
          generalize (mto G t).1 = x at MG hz
          generalize (mto H t).1 = y at MH hz
          generalize (mto D t).1 = zz at MD hz
          generalize (rr t).2 = r at MG MH MD hz
          have HZ : Hid (r = true → zz = (x && y)) := hz
          clear hz
          go_wp2_with fail
          refine (MG.out _ hC18).mono ?_
          rintro e w19 ⟨rfl, hb19⟩
          have hB19 : Below W15.heap.size W15 w19 := hB18.trans (hb19.mono hB18.size)
          have hC19 : Below W13.heap.size W13 w19 := hB15.trans (hB19.mono hB15.size)
          obtain ⟨q19, z19⟩ := HC15.out _ hB19
          obtain ⟨p19, r19, x19, y19⟩ := HC13.out _ hC19
          clear hb19 q18 z18 p18 r18 x18 y18 hB18 hC18 MG
          go_wp2_with fail
          refine (MH.out _ hC19).mono ?_
          rintro e w20 ⟨rfl, hb20⟩
          have hB20 : Below W15.heap.size W15 w20 := hB19.trans (hb20.mono hB19.size)
          obtain ⟨q20, z20⟩ := HC15.out _ hB20
          clear hb20 q19 z19 p19 r19 x19 y19 hB19 hC19 MH
          go_wp2_with fail
          refine (MD.out _ hB20).mono ?_
          rintro e w21 ⟨rfl, hb21⟩
          have hB21 : Below W15.heap.size W15 w21 := hB20.trans (hb21.mono hB20.size)
          have HBE : Hid (Below w.heap.size w w21) := HB13.out.trans ((hB15.trans (hB21.mono hB15.size)).mono HB13.out.size)
          clear hb21 q20 z20 hB20 hB21 MD
          cases r
          · go_wp2
            go_ret
            exact ⟨rfl, HBE.out⟩
          · obtain rfl := HZ.out rfl
            clear HZ
            cases x <;> cases y
            all_goals
              go_wp2
              go_ret
              exact ⟨rfl, HBE.out⟩

end Go.Proofs.YtpopjapcgcnnfabDoor
