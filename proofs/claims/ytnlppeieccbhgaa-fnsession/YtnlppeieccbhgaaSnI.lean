/- Good sessions: the model's. -/
import Derived.Test.YtnlppeieccbhgaaSnH
namespace Go.Proofs.Ytnlppeieccbhgaa
open Go.RowKit Plain Tpc Ssn

set_option maxRecDepth 100000 in
set_option maxHeartbeats 1000000 in
theorem l15Text_any (t : ByteArray) (w : World) (ht : t.size ≤ 9223372036854775807) : Calls Try.prog 47 #[.string t] w fun r w' => r = .returned (.bool (decide (t.size ≤ 20))) ∧ w' = w := by
  by_cases h : t.size ≤ 20
  · have h' : (t.size : Int) ≤ 20 := by omega
    rw [decide_eq_true h]
    go_enter Try.func47, Try.ntmps47
    go_wp2
    go_ret
    exact ⟨rfl, rfl⟩
  · have h' : ¬ (t.size : Int) ≤ 20 := by omega
    rw [decide_eq_false h]
    go_enter Try.func47, Try.ntmps47
    go_wp2
    go_ret
    exact ⟨rfl, rfl⟩

theorem bgn_no {L R : List ByteArray} {i : Nat} (h : i < L.length) (hx : R.length ≤ i ∨ ¬ lq L i = lq R i) : bgn L R = false := by
  rw [Bool.eq_false_iff]
  intro hT
  unfold bgn at hT
  rw [Bool.and_eq_true, decide_eq_true_eq, decide_eq_true_eq] at hT
  obtain ⟨h1, h2⟩ := hT
  rcases hx with hx | hx
  · omega
  · apply hx
    have e : lq L i = lq (R.take L.length) i := congrArg (fun l => lq l i) h2
    rw [e]
    unfold lq
    rw [List.getD_eq_getElem?_getD, List.getD_eq_getElem?_getD, List.getElem?_take, if_pos h]

theorem bgn_yes {L R : List ByteArray} (h : ∀ i, i < L.length → i < R.length ∧ lq L i = lq R i) : bgn L R = true := by
  have hl : L.length ≤ R.length := by
    rcases Nat.lt_or_ge R.length L.length with h1 | h1
    · have := (h R.length h1).1; omega
    · exact h1
  unfold bgn
  rw [decide_eq_true hl, Bool.true_and, decide_eq_true_eq]
  refine texts_eq (by rw [List.length_take]; omega) fun j hj => ?_
  rw [(h j hj).2]
  unfold lq
  rw [List.getD_eq_getElem?_getD, List.getD_eq_getElem?_getD, List.getElem?_take, if_pos hj]

set_option maxRecDepth 100000 in
set_option maxHeartbeats 4000000 in
theorem l15Begins_any (L R : List ByteArray) (v1 v2 : Value) (w : World) (h1 : StAt w w.heap.size v1 L) (h2 : StAt w w.heap.size v2 R) :
    Calls Try.prog 60 #[v1, v2] w fun e w' => e = .returned (.bool (bgn L R)) ∧ ∃ m, w' = w.drewN m := by
  obtain ⟨a1, c1, rfl, hlc1, hcm1, hr1⟩ := h1
  obtain ⟨a2, c2, rfl, hlc2, hcm2, hr2⟩ := h2
  unfold maxLen at hcm1 hcm2
  have H1 : Hid (type_of% hr1) := hr1
  have H2 : Hid (type_of% hr2) := hr2
  obtain ⟨D, hD⟩ : ∃ D, D = bgn L R := ⟨_, rfl⟩
  rw [← hD]
  have HD : Hid (D = bgn L R) := hD
  clear hD hr1 hr2
  go_enter Try.func60, Try.ntmps60
  go_wp2
  go_loopw [8] (fun vi wr => ∃ (k m : Nat), k ≤ L.length ∧ vi = .int .i64 (k : Int) ∧ Hid (∀ j, j < k → j < R.length ∧ lq L j = lq R j) ∧ wr = w.drewN m)
    (fun vi _ => L.length - (intOf vi).toNat)
  case atStart => exact ⟨0, 0, by omega, rfl, fun j hj => by omega, rfl⟩
  case round =>
    obtain ⟨k, m, hk, rfl, hall, rfl⟩ := hrel
    by_cases hlt : k < L.length
    · have hltI : (k : Int) < (L.length : Int) := by omega
      obtain ⟨g, o, rfl, hg, d1⟩ := H1.out k hlt
      have e1 : ∀ n, (w.drewN n).cell? ⟨g, o + k, none⟩ = some (.string (lq L k)) := fun n => d1
      have HX : Hid (R.length ≤ k ∨ ¬ lq L k = lq R k → D = false) := fun hx => HD.out.trans (bgn_no hlt hx)
      by_cases hR : k < R.length
      · have hRI : ¬ (R.length : Int) ≤ (k : Int) := by omega
        have hRI' : (k : Int) < (R.length : Int) := by omega
        obtain ⟨g2, o2, rfl, hg2, d2⟩ := H2.out k hR
        have e2 : ∀ n, (w.drewN n).cell? ⟨g2, o2 + k, none⟩ = some (.string (lq R k)) := fun n => d2
        have HY : Hid (lq L k = lq R k → ∀ j, j < k + 1 → j < R.length ∧ lq L j = lq R j) := fun hx => range_step hall.out ⟨hR, hx⟩
        have hs := str_eqB (lq L k) (lq R k)
        generalize lq L k = x at *
        generalize lq R k = y at *
        clear hall
        by_cases hxy : x = y
        · have h3 := HY.out hxy
          have H3 : Hid (type_of% h3) := h3
          rw [decide_eq_true hxy] at hs
          clear h3 HX HY hxy
          go_wp2_with fail
          go_quiet (fail)
          go_wp2_with fail
          go_roundw
          case rel => exact ⟨k + 1, _, by omega, by go_num, H3, rfl⟩
          case measure => simp [intOf]; omega
        · have h3 := HX.out (.inr hxy)
          have H3 : Hid (type_of% h3) := h3
          rw [decide_eq_false hxy] at hs
          clear h3 HX HY hxy
          go_wp2_with fail
          go_quiet (fail)
          go_wp2_with fail
          go_ret
          exact ⟨by rw [H3.out]; rfl, _, World.drewN_drewN _ _ _⟩
      · have hRI : (R.length : Int) ≤ (k : Int) := by omega
        have h3 := HX.out (.inl (by omega))
        have H3 : Hid (type_of% h3) := h3
        clear h3 HX hR
        go_wp2_with fail
        go_quiet (fail)
        go_wp2_with fail
        go_ret
        exact ⟨by rw [H3.out]; rfl, _, World.drewN_drewN _ _ _⟩
    · have hke : k = L.length := by omega
      have hge : ¬ ((k : Int) < (L.length : Int)) := by omega
      have HT : Hid (D = true) := by
        show _ = _
        rw [HD.out, bgn_yes (fun j hj => hall.out j (by omega))]
      clear hke hall
      go_wp2
      go_ret
      exact ⟨by rw [HT.out]; rfl, _, rfl⟩

/-- as the model asks it -/
theorem gs_spec (s : Ses) : gs s = ((s.items.all fun t => decide (t.size ≤ 20)) && (gE s && (decide (s.items.length ≤ 30) && (bgn s.handed s.items && (decide (0 ≤ s.base ∧ s.base ≤ (s.handed.length : Int)) && (decide (s.way.length ≤ 12) && (decide (s.acks.length ≤ 12) && (s.way.all (okPk s) && s.acks.all (okAk s))))))))) := by
  unfold gs gI gH gW gA
  cases gE s <;> cases (s.items.all fun t => decide (t.size ≤ 20)) <;> cases decide (s.items.length ≤ 30) <;> cases bgn s.handed s.items <;> cases decide (0 ≤ s.base ∧ s.base ≤ (s.handed.length : Int)) <;> cases decide (s.way.length ≤ 12) <;> cases decide (s.acks.length ≤ 12) <;> cases s.way.all (okPk s) <;> cases s.acks.all (okAk s) <;> rfl

theorem items_no {L : List ByteArray} {i : Nat} (h : i < L.length) (hx : ¬ (lq L i).size ≤ 20) : (L.all fun t => decide (t.size ≤ 20)) = false := by
  rw [Bool.eq_false_iff]
  intro hT
  rw [List.all_eq_true] at hT
  have := hT (lq L i) (lq_mem h)
  simp at this
  exact hx this
theorem items_yes {L : List ByteArray} (h : ∀ i, i < L.length → (lq L i).size ≤ 20) : (L.all fun t => decide (t.size ≤ 20)) = true := by
  rw [List.all_eq_true]
  intro x hx
  obtain ⟨i, hi, rfl⟩ := List.mem_iff_getElem.1 hx
  have := h i hi
  rw [show lq L i = L[i] by unfold lq; simp [List.getD, List.getElem?_eq_getElem hi]] at this
  simpa using this

set_option maxRecDepth 100000 in
set_option maxHeartbeats 8000000 in
theorem specGoodS (s : Ses) (vi vh vw va : Value) (w : World) (h : SesAt w w.heap.size s vi vh vw va) (hS : Shr s 9223372036854775807) :
    Calls Try.prog 17 #[s.val vi vh vw va] w fun e w' => e = .returned (.bool (gs s)) ∧ Below w.heap.size w w' := by
  obtain ⟨W0, hW0⟩ : ∃ W, W = w.alloc (.cells #[.int .i64 s.ep, vi, .int .i64 s.base, vh, vw, va] 26) := ⟨_, rfl⟩
  have hB0 : Below w.heap.size w W0 := by rw [hW0]; exact (Below.refl _ w).alloc (Nat.le_refl _) _
  have V1 : Sv W0 w.heap.size (.int .i64 s.ep) vi (.int .i64 s.base) vh vw va := by rw [hW0]; exact Sv.fresh w _ _ _ _ _ _ _
  have HHI : Hid (type_of% (h.i.below hB0)) := h.i.below hB0
  have HHH : Hid (type_of% (h.h.below hB0)) := h.h.below hB0
  obtain ⟨ai, ci, rfl, hli, hci, hri⟩ := h.i.below hB0
  obtain ⟨ah, ch, rfl, hlh, hch, _⟩ := h.h.below hB0
  obtain ⟨ay, cy, rfl, hly, hcy, hry⟩ := h.y.below hB0
  obtain ⟨aa, ca, rfl, hla, hca, hra⟩ := h.a.below hB0
  unfold maxLen at hci hch hcy hca
  unfold Ses.val
  have HV : Hid (type_of% V1) := V1
  have HRY : Hid (type_of% hry) := hry
  have HRI : Hid (type_of% hri) := hri
  have HRA : Hid (type_of% hra) := hra
  have HSI : Hid (type_of% hS.i) := hS.i
  have HB : Hid (type_of% hB0) := hB0
  obtain ⟨R, hR⟩ : ∃ R, R = gs s := ⟨_, rfl⟩
  have HR : Hid (R = _) := hR.trans (gs_spec s)
  rw [← hR]
  have x1 := V1.c1
  clear hR h hB0 hry hri hra V1 hS
  go_enter Try.func17, Try.ntmps17
  go_upto_region 1 with fail
  rw [← hW0]
  clear hW0
  go_wp2_with fail
  clear x1
  go_loopw [13] (fun vi wr => ∃ (k : Nat), k ≤ s.items.length ∧ vi = .int .i64 (k : Int) ∧ Hid (∀ j, j < k → (lq s.items j).size ≤ 20) ∧ wr = W0)
    (fun vi _ => s.items.length - (intOf vi).toNat)
  case atStart => exact ⟨0, by omega, rfl, fun j hj => by omega, rfl⟩
  case round =>
    obtain ⟨k, hk, rfl, hall, rfl⟩ := hrel
    by_cases hlt : k < s.items.length
    · have hltI : (k : Int) < (s.items.length : Int) := by omega
      obtain ⟨g, o, rfl, hg, c⟩ := HRI.out k hlt
      have hn := HSI.out k hlt
      have HNO : Hid (¬ (lq s.items k).size ≤ 20 → R = false) := fun hx => HR.out.trans (by rw [items_no hlt hx, Bool.false_and])
      have HYES : Hid ((lq s.items k).size ≤ 20 → ∀ j, j < k + 1 → (lq s.items j).size ≤ 20) := fun hx => range_step hall.out hx
      generalize lq s.items k = t at c hn HNO HYES
      have CT := l15Text_any t wr hn
      clear hall
      by_cases h20 : t.size ≤ 20
      · have hT := HYES.out h20
        have HT : Hid (type_of% hT) := hT
        rw [decide_eq_true h20] at CT
        clear hT HNO HYES h20
        go_wp2_with fail
        go_at_call 47
        refine CT.mono ?_
        rintro e w2 ⟨rfl, hw2⟩
        have hw2 := hw2.symm
        subst hw2
        go_wp2_with fail
        go_roundw
        case rel => exact ⟨k + 1, by omega, by go_num, HT, by first | rfl | trivial⟩
        case measure => simp [intOf]; omega
      · have hF := HNO.out h20
        have HF : Hid (type_of% hF) := hF
        rw [decide_eq_false h20] at CT
        clear hF HNO HYES h20
        go_wp2_with fail
        go_at_call 47
        refine CT.mono ?_
        rintro e w2 ⟨rfl, hw2⟩
        have hw2 := hw2.symm
        subst hw2
        go_wp2_with fail
        go_ret
        exact ⟨by rw [HF.out]; rfl, HB.out⟩
    · have hke : k = s.items.length := by omega
      have hge : ¬ ((k : Int) < (s.items.length : Int)) := by omega
      have HR2 : Hid (R = _) := HR.out.trans (by rw [items_yes (fun j hj => hall.out j (by omega)), Bool.true_and])
      have x0 := HV.out.c0
      have x1 := HV.out.c1
      have x2 := HV.out.c2
      have x3 := HV.out.c3
      have x4 := HV.out.c4
      have x5 := HV.out.c5
      have CIn := l1InT s.ep 1 1000 wr
      have CIb := l1InT s.base 0 (s.handed.length : Int) wr
      have CB := l15Begins_any s.handed s.items _ _ wr HHH.out HHI.out
      have CIbD : Hid (∀ m, Calls Try.prog 59 #[.int .i64 s.base, .int .i64 0, .int .i64 (s.handed.length : Int)] (wr.drewN m) fun e w' => e = .returned (.bool (decide (0 ≤ s.base ∧ s.base ≤ (s.handed.length : Int)))) ∧ w' = wr.drewN m) := fun m => l1InT _ _ _ _
      have hE : decide (1 ≤ s.ep ∧ s.ep ≤ 1000) = gE s := rfl
      rw [hE] at CIn
      clear hE hke hall HR CIb
      generalize gE s = bE at CIn HR2
      have HPG : Hid (bgn s.handed s.items = true → s.handed.length ≤ s.items.length) := fun h => by
        unfold bgn at h
        rw [Bool.and_eq_true, decide_eq_true_eq] at h
        exact h.1
      generalize bgn s.handed s.items = bB at CB HR2 HPG
      have HPB : Hid (decide (0 ≤ s.base ∧ s.base ≤ (s.handed.length : Int)) = true → 0 ≤ s.base ∧ s.base ≤ (s.handed.length : Int)) := fun h => of_decide_eq_true h
      generalize decide (0 ≤ s.base ∧ s.base ≤ (s.handed.length : Int)) = bP at CIbD HR2 HPB
      cases bE with
      | false =>
        have HF : Hid (R = false) := HR2.out.trans (by rfl)
        clear HR2
        go_wp2_with fail
        go_at_call 59
        refine CIn.mono ?_
        rintro e w2 ⟨rfl, rfl⟩
        go_wp2_with fail
        go_ret
        exact ⟨by rw [HF.out]; rfl, HB.out⟩
      | true =>
      by_cases h30 : s.items.length ≤ 30
      case neg =>
        have h30' : (30 : Int) < (s.items.length : Int) := by omega
        have HF : Hid (R = false) := HR2.out.trans (by rw [decide_eq_false h30]; rfl)
        clear HR2 h30
        go_wp2_with fail
        go_at_call 59
        refine CIn.mono ?_
        rintro e w2 ⟨rfl, rfl⟩
        go_wp2_with fail
        go_ret
        exact ⟨by rw [HF.out]; rfl, HB.out⟩
      case pos =>
      have h30' : ¬ (30 : Int) < (s.items.length : Int) := by omega
      have HR3 : Hid (R = _) := HR2.out.trans (by rw [decide_eq_true h30, Bool.true_and, Bool.true_and])
      clear HR2
      cases bB with
      | false =>
        have HF : Hid (R = false) := HR3.out.trans (by rfl)
        clear HR3
        go_wp2_with fail
        go_at_call 59
        refine CIn.mono ?_
        rintro e w2 ⟨rfl, hw2⟩
        have hw2 := hw2.symm
        subst hw2
        go_wp2_with fail
        go_at_call 60
        refine CB.mono ?_
        rintro e w2 ⟨rfl, m, rfl⟩
        go_wp2_with fail
        go_ret
        exact ⟨by rw [HF.out]; rfl, below_drewT HB.out⟩
      | true =>
      go_wp2_with fail
      go_at_call 59
      refine CIn.mono ?_
      rintro e w2 ⟨rfl, hw2⟩
      have hw2 := hw2.symm
      subst hw2
      go_wp2_with fail
      go_at_call 60
      refine CB.mono ?_
      rintro e w2 ⟨rfl, m, rfl⟩
      go_wp2_with fail
      go_at_call 59
      refine (CIbD.out m).mono ?_
      rintro e w2 ⟨rfl, hw2⟩
      have hw2 := hw2.symm
      subst hw2
      cases bP with
      | false =>
        have HF : Hid (R = false) := HR3.out.trans (by rfl)
        clear HR3
        go_wp2_with fail
        go_ret
        exact ⟨by rw [HF.out]; rfl, below_drewT HB.out⟩
      | true =>
      obtain ⟨hb0, hb1⟩ := HPB.out (by trivial)
      have hpg := HPG.out (by trivial)
      have hw4 : IntKind.i64.wrap (s.base + 4) = s.base + 4 := by rw [IntKind.wrap_i64]; omega
      clear hpg
      by_cases hy12 : s.way.length ≤ 12
      case neg =>
        have hy12' : (12 : Int) < (s.way.length : Int) := by omega
        have HF : Hid (R = false) := HR3.out.trans (by rw [decide_eq_false hy12]; rfl)
        clear HR3 hy12
        go_wp2_with fail
        go_ret
        exact ⟨by rw [HF.out]; rfl, below_drewT HB.out⟩
      case pos =>
      have hy12' : ¬ (12 : Int) < (s.way.length : Int) := by omega
      by_cases ha12 : s.acks.length ≤ 12
      case neg =>
        have ha12' : (12 : Int) < (s.acks.length : Int) := by omega
        have HF : Hid (R = false) := HR3.out.trans (by rw [decide_eq_true hy12, decide_eq_false ha12]; rfl)
        clear HR3 ha12
        go_wp2_with fail
        go_ret
        exact ⟨by rw [HF.out]; rfl, below_drewT HB.out⟩
      case pos =>
      have ha12' : ¬ (12 : Int) < (s.acks.length : Int) := by omega
      have HR4 : Hid (R = (s.way.all (okPk s) && s.acks.all (okAk s))) := HR3.out.trans (by rw [decide_eq_true hy12, decide_eq_true ha12]; rfl)
      obtain ⟨W1, hW1⟩ : ∃ W, W = wr.drewN m := ⟨_, rfl⟩
      have HB1 : Hid (Below w.heap.size w W1) := by rw [hW1]; exact below_drewT HB.out
      have hlow1 : wr.heap.size ≤ W1.heap.size := by rw [hW1]; exact Nat.le_refl _
      have HV1 : Hid (Sv W1 w.heap.size (.int .i64 s.ep) (.slice ai s.items.length ci) (.int .i64 s.base) (.slice ah s.handed.length ch) (.slice ay s.way.length cy) (.slice aa s.acks.length ca)) := by rw [hW1]; exact HV.out.kept rfl (Nat.le_refl _)
      have HRI1 : Hid (∀ i, i < s.items.length → ∃ g o, ai = some ⟨g, o, none⟩ ∧ g < W1.heap.size ∧ W1.cell? ⟨g, o + i, none⟩ = some (.string (lq s.items i))) := by rw [hW1]; exact HRI.out
      have HRY1 : Hid (∀ i, i < s.way.length → ∃ g o, ay = some ⟨g, o, none⟩ ∧ g < W1.heap.size ∧ PkIn W1 g (o + i * 3) (pk s.way i)) := by rw [hW1]; exact HRY.out
      have HRA1 : Hid (∀ i, i < s.acks.length → ∃ g o, aa = some ⟨g, o, none⟩ ∧ g < W1.heap.size ∧ AkIn W1 g (o + i * 2) (ak s.acks i)) := by rw [hW1]; exact HRA.out
      clear HR3 hy12 ha12 x0 x1 x2 x3 CIn CB CIbD HPB HV HRI HRY HRA HHI HHH HSI HB hlow1
      go_upto_region 10 with fail
      rw [← hW1]
      clear hW1 x4 x5
      have x4 := HV1.out.c4
      go_wp2_with fail
      clear x4
      rename Hid (Below w.heap.size w W1) => HB
      go_loopw [64] (fun vi wr => ∃ (k : Nat), k ≤ s.way.length ∧ vi = .int .i64 (k : Int) ∧ Hid (∀ j, j < k → okPk s (pk s.way j) = true) ∧ Below W1.heap.size W1 wr)
        (fun vi _ => s.way.length - (intOf vi).toNat)
      case atStart => exact ⟨0, by omega, rfl, fun j hj => by omega, Below.refl _ _⟩
      case round =>
        obtain ⟨k, hk, rfl, hall, hbw⟩ := hrel
        have V := HV1.out.below hbw
        have HBW : Hid (Below w.heap.size w wr) := HB.out.trans (hbw.mono HB.out.size)
        have hlow := V.low
        by_cases hlt : k < s.way.length
        · have hltI : (k : Int) < (s.way.length : Int) := by omega
          obtain ⟨g, o, rfl, hg, hc⟩ := HRY1.out k hlt
          have hc2 := hc.below hbw hg
          have HNO : Hid (okPk s (pk s.way k) = false → R = false) := fun hx => HR4.out.trans (by rw [pk_no hlt hx, Bool.false_and])
          have HYES : Hid (okPk s (pk s.way k) = true → ∀ j, j < k + 1 → okPk s (pk s.way j) = true) := fun hx => range_step hall.out hx
          have hK : Hid (okPk s (pk s.way k) = (decide (1 ≤ (pk s.way k).ep ∧ (pk s.way k).ep ≤ s.ep) && (decide (0 ≤ (pk s.way k).no) && (decide ((pk s.way k).no < (s.items.length : Int)) && (decide ((pk s.way k).no < s.base + 4) && decide ((pk s.way k).tx = lq s.items (pk s.way k).no.toNat)))))) := rfl
          generalize okPk s (pk s.way k) = ok at HNO HYES hK
          generalize pk s.way k = t at hc2 hK
          obtain ⟨ep, no, tx⟩ := t
          obtain ⟨d0, d1, d2⟩ := hc2
          dsimp only at d0 d1 d2 hK
          have CE : Hid (∀ w, Calls Try.prog 59 #[.int .i64 ep, .int .i64 1, .int .i64 s.ep] w fun r w' => r = .returned (.bool (decide (1 ≤ ep ∧ ep ≤ s.ep))) ∧ w' = w) := fun w => l1InT ep 1 s.ep w
          generalize decide (1 ≤ ep ∧ ep ≤ s.ep) = b1 at CE hK
          have HB3 : Hid (∀ W, Below wr.heap.size wr W → Below W1.heap.size W1 W ∧ Below w.heap.size w W) := fun W hW => ⟨hbw.trans (hW.mono hbw.size), HBW.out.trans (hW.mono (by have := hbw.size; omega))⟩
          obtain ⟨W2, hW2⟩ : ∃ W, W = wr.alloc (.cells #[.int .i64 ep, .int .i64 no, .string tx] 84) := ⟨_, rfl⟩
          have hB1 : Below wr.heap.size wr W2 := by rw [hW2]; exact (Below.refl _ wr).alloc (Nat.le_refl _) _
          have p0 : W2.cell? ⟨wr.heap.size, 0, none⟩ = some (.int .i64 ep) := by rw [hW2]; go_simp
          have p1 : W2.cell? ⟨wr.heap.size, 1, none⟩ = some (.int .i64 no) := by rw [hW2]; go_simp
          have p2 : W2.cell? ⟨wr.heap.size, 2, none⟩ = some (.string tx) := by rw [hW2]; go_simp
          have V2 := V.below hB1
          have y0 := V2.c0
          have y1 := V2.c1
          have y2 := V2.c2
          have HIT : Hid (0 ≤ no → no < (s.items.length : Int) → ∃ g2 o2, ai = some ⟨g2, o2, none⟩ ∧ W2.cell? ⟨g2, o2 + no.toNat, none⟩ = some (.string (lq s.items no.toNat))) := fun h1 h2 => by
            obtain ⟨g2, o2, ha, hg2, cc⟩ := HRI1.out no.toNat (by omega)
            exact ⟨g2, o2, ha, (hB1.cell (p := ⟨g2, o2 + no.toNat, none⟩) (by have := hbw.size; simp; omega)).trans ((hbw.cell (p := ⟨g2, o2 + no.toNat, none⟩) hg2).trans cc)⟩
          have HF1 := HB3.out _ hB1
          have HFW : Hid (type_of% HF1) := HF1
          have HD : Hid (∀ n, Below W1.heap.size W1 (W2.drewN n) ∧ Below w.heap.size w (W2.drewN n)) := fun n => ⟨below_drewT HFW.out.1, below_drewT HFW.out.2⟩
          clear hc hall V V2 HB3 HF1 HFW hB1
          have hbs : Hid (Below W1.heap.size W1 wr) := hbw
          clear hbw
          go_upto_region 13 with fail
          rw [← hW2]
          clear hW2 d0 d1 d2
          cases b1 with
          | false =>
            have hF := HNO.out (by rw [hK.out]; rfl)
            have HF : Hid (type_of% hF) := hF
            clear hF HNO HYES hK
            go_quiet ((go_at_call 59; exact Calls.quiet_of_same (CE.out _)))
            go_wp2_with fail
            go_ret
            exact ⟨by rw [HF.out]; rfl, (HD.out _).2⟩
          | true =>
            rw [Bool.true_and] at hK
            by_cases n0 : 0 ≤ no
            · have n0' : ¬ no < 0 := by omega
              rw [decide_eq_true n0, Bool.true_and] at hK
              by_cases nI : no < (s.items.length : Int)
              · have nI' : ¬ (s.items.length : Int) ≤ no := by omega
                rw [decide_eq_true nI, Bool.true_and] at hK
                by_cases nB : no < s.base + 4
                · have nB' : ¬ s.base + 4 ≤ no := by omega
                  rw [decide_eq_true nB, Bool.true_and] at hK
                  obtain ⟨g2, o2, rfl, z2⟩ := HIT.out n0 nI
                  have hs := str_eqB tx (lq s.items no.toNat)
                  obtain ⟨nn, rfl⟩ : ∃ n : Nat, no = (n : Int) := ⟨no.toNat, by omega⟩
                  rw [Int.toNat_natCast] at z2 hs hK
                  generalize lq s.items nn = q at z2 hs hK
                  clear HIT
                  by_cases hq : tx = q
                  · have hT := HYES.out (by rw [hK.out, decide_eq_true hq])
                    have HT : Hid (type_of% hT) := hT
                    rw [decide_eq_true hq] at hs
                    clear hT HNO HYES hK hq
                    go_quiet ((go_at_call 59; exact Calls.quiet_of_same (CE.out _)))
                    go_wp2_with fail
                    go_roundw
                    case rel => exact ⟨k + 1, by omega, by go_num, HT, (HD.out _).1⟩
                    case measure => simp [intOf]; omega
                  · have hF := HNO.out (by rw [hK.out, decide_eq_false hq])
                    have HF : Hid (type_of% hF) := hF
                    rw [decide_eq_false hq] at hs
                    clear hF HNO HYES hK hq
                    go_quiet ((go_at_call 59; exact Calls.quiet_of_same (CE.out _)))
                    go_wp2_with fail
                    go_ret
                    exact ⟨by rw [HF.out]; rfl, (HD.out _).2⟩
                · have nB' : s.base + 4 ≤ no := by omega
                  have hF := HNO.out (by rw [hK.out, decide_eq_false nB]; rfl)
                  have HF : Hid (type_of% hF) := hF
                  clear hF HNO HYES hK HIT nB
                  go_quiet ((go_at_call 59; exact Calls.quiet_of_same (CE.out _)))
                  go_wp2_with fail
                  go_ret
                  exact ⟨by rw [HF.out]; rfl, (HD.out _).2⟩
              · have nI' : (s.items.length : Int) ≤ no := by omega
                have hF := HNO.out (by rw [hK.out, decide_eq_false nI]; rfl)
                have HF : Hid (type_of% hF) := hF
                clear hF HNO HYES hK HIT nI
                go_quiet ((go_at_call 59; exact Calls.quiet_of_same (CE.out _)))
                go_wp2_with fail
                go_ret
                exact ⟨by rw [HF.out]; rfl, (HD.out _).2⟩
            · have n0' : no < 0 := by omega
              have hF := HNO.out (by rw [hK.out, decide_eq_false n0]; rfl)
              have HF : Hid (type_of% hF) := hF
              clear hF HNO HYES hK n0 HIT
              go_quiet ((go_at_call 59; exact Calls.quiet_of_same (CE.out _)))
              go_wp2_with fail
              go_ret
              exact ⟨by rw [HF.out]; rfl, (HD.out _).2⟩
        · have hke : k = s.way.length := by omega
          have hge : ¬ ((k : Int) < (s.way.length : Int)) := by omega
          have HR5 : Hid (R = s.acks.all (okAk s)) := HR4.out.trans (by rw [pk_yes (fun j hj => hall.out j (by omega)), Bool.true_and])
          obtain ⟨W2, hW2⟩ : ∃ W, W = wr := ⟨_, rfl⟩
          have HV2 : Hid (type_of% V) := V
          have HRA2 : Hid (∀ i, i < s.acks.length → ∃ g o, aa = some ⟨g, o, none⟩ ∧ g < wr.heap.size ∧ AkIn wr g (o + i * 2) (ak s.acks i)) := fun i hi => by
            obtain ⟨g, o, ha, hg, hc⟩ := HRA1.out i hi
            exact ⟨g, o, ha, by have := hbw.size; omega, hc.below hbw hg⟩
          have y5 := V.c5
          clear hke hall hbw HV1 HRI1 HRY1 HRA1 HR4 V hlow hW2
          go_wp2_with fail
          clear y5
          obtain ⟨wo, hwo⟩ : ∃ W, W = wr := ⟨_, rfl⟩
          rw [← hwo] at HBW HV2 HRA2 ⊢
          clear hwo
          go_loopw [110] (fun vi wr => ∃ (k : Nat), k ≤ s.acks.length ∧ vi = .int .i64 (k : Int) ∧ Hid (∀ j, j < k → okAk s (ak s.acks j) = true) ∧ Below wo.heap.size wo wr)
            (fun vi _ => s.acks.length - (intOf vi).toNat)
          case atStart => exact ⟨0, by omega, rfl, fun j hj => by omega, Below.refl _ _⟩
          case round =>
            obtain ⟨k, hk, rfl, hall, hbw⟩ := hrel
            have V := HV2.out.below hbw
            have y0 := V.c0
            have HBX : Hid (Below w.heap.size w wr) := HBW.out.trans (hbw.mono HBW.out.size)
            have hlow := V.low
            by_cases hlt : k < s.acks.length
            · have hltI : (k : Int) < (s.acks.length : Int) := by omega
              obtain ⟨g, o, rfl, hg, hc⟩ := HRA2.out k hlt
              have hc2 := hc.below hbw hg
              have HNO : Hid (okAk s (ak s.acks k) = false → R = false) := fun hx => HR5.out.trans (ak_no hlt hx)
              have HYES : Hid (okAk s (ak s.acks k) = true → ∀ j, j < k + 1 → okAk s (ak s.acks j) = true) := fun hx => range_step hall.out hx
              have hK : Hid (okAk s (ak s.acks k) = (decide (1 ≤ (ak s.acks k).ep ∧ (ak s.acks k).ep ≤ s.ep) && decide (0 ≤ (ak s.acks k).up ∧ (ak s.acks k).up ≤ (s.handed.length : Int)))) := rfl
              generalize okAk s (ak s.acks k) = ok at HNO HYES hK
              generalize ak s.acks k = t at hc2 hK
              obtain ⟨ep, up⟩ := t
              obtain ⟨d0, d1⟩ := hc2
              dsimp only at d0 d1 hK
              have CE : Hid (∀ w, Calls Try.prog 59 #[.int .i64 ep, .int .i64 1, .int .i64 s.ep] w fun r w' => r = .returned (.bool (decide (1 ≤ ep ∧ ep ≤ s.ep))) ∧ w' = w) := fun w => l1InT ep 1 s.ep w
              have CU : Hid (∀ w, Calls Try.prog 59 #[.int .i64 up, .int .i64 0, .int .i64 (s.handed.length : Int)] w fun r w' => r = .returned (.bool (decide (0 ≤ up ∧ up ≤ (s.handed.length : Int)))) ∧ w' = w) := fun w => l1InT up 0 _ w
              generalize decide (1 ≤ ep ∧ ep ≤ s.ep) = b1 at CE hK
              generalize decide (0 ≤ up ∧ up ≤ (s.handed.length : Int)) = b2 at CU hK
              clear hc hall V
              have HB3 : Hid (∀ W, Below wr.heap.size wr W → Below wo.heap.size wo W ∧ Below w.heap.size w W) := fun W hW => ⟨hbw.trans (hW.mono hbw.size), HBX.out.trans (hW.mono (by have := hbw.size; omega))⟩
              cases b1 with
              | false =>
                have hF := HNO.out (by rw [hK.out]; rfl)
                have HF : Hid (type_of% hF) := hF
                clear hF HNO HYES hK hbw
                go_wp2_with fail
                go_at_call 59
                refine (CE.out _).mono ?_
                rintro e w2 ⟨rfl, rfl⟩
                go_wp2_with fail
                go_ret
                refine ⟨by rw [HF.out]; rfl, (HB3.out _ ?_).2⟩
                repeat' (first | exact Below.refl _ _ | refine Below.alloc ?_ (by simp) _ | refine Below.setCell ?_ (by simp) _)
              | true =>
                cases b2 with
                | false =>
                  have hF := HNO.out (by rw [hK.out]; rfl)
                  have HF : Hid (type_of% hF) := hF
                  clear hF HNO HYES hK hbw
                  go_wp2_with fail
                  go_at_call 59
                  refine (CE.out _).mono ?_
                  rintro e w2 ⟨rfl, rfl⟩
                  go_wp2_with fail
                  go_at_call 59
                  refine (CU.out _).mono ?_
                  rintro e w2 ⟨rfl, rfl⟩
                  go_wp2_with fail
                  go_ret
                  refine ⟨by rw [HF.out]; rfl, (HB3.out _ ?_).2⟩
                  repeat' (first | exact Below.refl _ _ | refine Below.alloc ?_ (by simp) _ | refine Below.setCell ?_ (by simp) _)
                | true =>
                  have hT := HYES.out (by rw [hK.out]; rfl)
                  have HT : Hid (type_of% hT) := hT
                  clear hT HNO HYES hK hbw
                  go_wp2_with fail
                  go_at_call 59
                  refine (CE.out _).mono ?_
                  rintro e w2 ⟨rfl, rfl⟩
                  go_wp2_with fail
                  go_at_call 59
                  refine (CU.out _).mono ?_
                  rintro e w2 ⟨rfl, rfl⟩
                  go_wp2_with fail
                  go_roundw
                  case rel =>
                    refine ⟨k + 1, by omega, by go_num, HT, (HB3.out _ ?_).1⟩
                    repeat' (first | exact Below.refl _ _ | refine Below.alloc ?_ (by simp) _ | refine Below.setCell ?_ (by simp) _)
                  case measure => simp [intOf]; omega
            · have hke : k = s.acks.length := by omega
              have hge : ¬ ((k : Int) < (s.acks.length : Int)) := by omega
              have HT : Hid (R = true) := HR5.out.trans (ak_yes (fun j hj => hall.out j (by omega)))
              clear hke hall hbw V
              go_wp2_with fail
              go_ret
              exact ⟨by rw [HT.out]; rfl, HBX.out⟩

end Go.Proofs.Ytnlppeieccbhgaa
