/- Good sessions: packets and acks; the program's GoodSession. -/
import Derived.Test.YtnlppeieccbhgaaSnG
namespace Go.Proofs.Ytnlppeieccbhgaa
open Go.RowKit Plain Tpc Ssn

theorem pk_no {p : Pk → Bool} {T : List Pk} {i : Nat} (h : i < T.length) (hx : p (pk T i) = false) : T.all p = false := by
  rw [Bool.eq_false_iff]
  intro hT
  rw [List.all_eq_true] at hT
  rw [hT _ (pk_mem h)] at hx
  cases hx
theorem pk_yes {p : Pk → Bool} {T : List Pk} (h : ∀ i, i < T.length → p (pk T i) = true) : T.all p = true := by
  rw [List.all_eq_true]
  intro x hx
  obtain ⟨i, hi, rfl⟩ := List.mem_iff_getElem.1 hx
  have := h i hi
  rwa [show pk T i = T[i] by unfold pk; simp [List.getD, List.getElem?_eq_getElem hi]] at this
theorem ak_no {p : Ak → Bool} {T : List Ak} {i : Nat} (h : i < T.length) (hx : p (ak T i) = false) : T.all p = false := by
  rw [Bool.eq_false_iff]
  intro hT
  rw [List.all_eq_true] at hT
  rw [hT _ (ak_mem h)] at hx
  cases hx
theorem ak_yes {p : Ak → Bool} {T : List Ak} (h : ∀ i, i < T.length → p (ak T i) = true) : T.all p = true := by
  rw [List.all_eq_true]
  intro x hx
  obtain ⟨i, hi, rfl⟩ := List.mem_iff_getElem.1 hx
  have := h i hi
  rwa [show ak T i = T[i] by unfold ak; simp [List.getD, List.getElem?_eq_getElem hi]] at this

theorem range_step {P : Nat → Prop} {k : Nat} (h : ∀ j, j < k → P j) (hk : P k) : ∀ j, j < k + 1 → P j := fun j hj => by
  by_cases e : j = k
  · rw [e]; exact hk
  · exact h j (by omega)

set_option maxRecDepth 100000 in
set_option maxHeartbeats 4000000 in
theorem goodAcks_any (s : Ses) (vi vh vw va : Value) (w : World) (h : SesAt w w.heap.size s vi vh vw va) :
    Calls Try.prog 68 #[s.val vi vh vw va] w fun e w' => e = .returned (.bool (gA s)) ∧ Below w.heap.size w w' := by
  unfold Ses.val gA
  obtain ⟨W0, hW0⟩ : ∃ W, W = w.alloc (.cells #[.int .i64 s.ep, vi, .int .i64 s.base, vh, vw, va] 26) := ⟨_, rfl⟩
  have hB0 : Below w.heap.size w W0 := by rw [hW0]; exact (Below.refl _ w).alloc (Nat.le_refl _) _
  have V1 : Sv W0 w.heap.size (.int .i64 s.ep) vi (.int .i64 s.base) vh vw va := by rw [hW0]; exact Sv.fresh w _ _ _ _ _ _ _
  have hA := h.a.below hB0
  obtain ⟨ah, ch, rfl, hlh, hch, _⟩ := h.h
  obtain ⟨aa, ca, rfl, hla, hca, hra⟩ := hA
  unfold maxLen at hca hch
  have HV : Hid (type_of% V1) := V1
  have HRA : Hid (type_of% hra) := hra
  have HB : Hid (type_of% hB0) := hB0
  obtain ⟨R, hR⟩ : ∃ R, R = (decide (s.acks.length ≤ 12) && s.acks.all (okAk s)) := ⟨_, rfl⟩
  have HR : Hid (type_of% hR) := hR
  rw [← hR]
  clear hR h hB0 hra
  by_cases h12 : s.acks.length ≤ 12
  · have h12' : ¬ (12 : Int) < (s.acks.length : Int) := by omega
    have HR2 : Hid (R = s.acks.all (okAk s)) := by show _ = _; rw [HR.out, decide_eq_true h12, Bool.true_and]
    have x5 := V1.c5
    clear HR V1
    go_enter Try.func68, Try.ntmps68
    go_upto_region 1 with fail
    rw [← hW0]
    clear hW0
    go_wp2_with fail
    clear x5
    go_loopw [12] (fun vi wr => ∃ (k : Nat), k ≤ s.acks.length ∧ vi = .int .i64 (k : Int) ∧ Hid (∀ j, j < k → okAk s (ak s.acks j) = true) ∧ Below W0.heap.size W0 wr)
      (fun vi _ => s.acks.length - (intOf vi).toNat)
    case atStart => exact ⟨0, by omega, rfl, fun j hj => by omega, Below.refl _ _⟩
    case round =>
      obtain ⟨k, hk, rfl, hall, hbw⟩ := hrel
      have V := HV.out.below hbw
      have y0 := V.c0
      have y3 := V.c3
      have hlow := V.low
      have HBW : Hid (Below w.heap.size w wr) := HB.out.trans (hbw.mono HB.out.size)
      clear V
      by_cases hlt : k < s.acks.length
      · have hltI : (k : Int) < (s.acks.length : Int) := by omega
        obtain ⟨g, o, rfl, hg, hc⟩ := HRA.out k hlt
        have hc2 := hc.below hbw hg
        have HNO : Hid (okAk s (ak s.acks k) = false → R = false) := fun hx => HR2.out.trans (ak_no hlt hx)
        have HYES : Hid (okAk s (ak s.acks k) = true → ∀ j, j < k + 1 → okAk s (ak s.acks j) = true) := fun hx => range_step hall.out hx
        have hK : Hid (okAk s (ak s.acks k) = (decide (1 ≤ (ak s.acks k).ep ∧ (ak s.acks k).ep ≤ s.ep) && decide (0 ≤ (ak s.acks k).up ∧ (ak s.acks k).up ≤ (s.handed.length : Int)))) := rfl
        generalize okAk s (ak s.acks k) = ok at HNO HYES hK
        generalize ak s.acks k = t at hc2 hK
        obtain ⟨ep, up⟩ := t
        obtain ⟨d0, d1⟩ := hc2
        dsimp only at d0 d1 hK
        have CE : Hid (∀ w, Calls Try.prog 64 #[.int .i64 ep, .int .i64 s.ep] w fun r w' => r = .returned (.bool (decide (1 ≤ ep ∧ ep ≤ s.ep))) ∧ w' = w) := fun w => isEpoch_any ep s.ep w
        generalize decide (1 ≤ ep ∧ ep ≤ s.ep) = b1 at CE hK
        clear hc hall
        have HB3 : Hid (∀ W, Below wr.heap.size wr W → Below W0.heap.size W0 W ∧ Below w.heap.size w W) := fun W hW => ⟨hbw.trans (hW.mono hbw.size), HBW.out.trans (hW.mono (by have := hbw.size; omega))⟩
        cases b1 with
        | false =>
          have hF := HNO.out (by rw [hK.out]; rfl)
          have HF : Hid (type_of% hF) := hF
          clear hF HNO HYES hK hbw
          go_wp2_with fail
          go_at_call 64
          refine (CE.out _).mono ?_
          rintro e w2 ⟨rfl, rfl⟩
          go_wp2_with fail
          go_ret
          refine ⟨by rw [HF.out]; rfl, (HB3.out _ ?_).2⟩
          repeat' (first | exact Below.refl _ _ | refine Below.alloc ?_ (by simp) _ | refine Below.setCell ?_ (by simp) _)
        | true =>
          by_cases hu : 0 ≤ up ∧ up ≤ (s.handed.length : Int)
          · have hT := HYES.out (by rw [hK.out, decide_eq_true hu]; rfl)
            have HT : Hid (type_of% hT) := hT
            obtain ⟨hu1, hu2⟩ := hu
            have hu1' : ¬ up < 0 := by omega
            have hu2' : ¬ (s.handed.length : Int) < up := by omega
            clear hT HNO HYES hK hbw
            go_wp2_with fail
            go_at_call 64
            refine (CE.out _).mono ?_
            rintro e w2 ⟨rfl, rfl⟩
            go_wp2_with fail
            go_roundw
            case rel =>
              refine ⟨k + 1, by omega, by go_num, HT, (HB3.out _ ?_).1⟩
              repeat' (first | exact Below.refl _ _ | refine Below.alloc ?_ (by simp) _ | refine Below.setCell ?_ (by simp) _)
            case measure => simp [intOf]; omega
          · have hF := HNO.out (by rw [hK.out, decide_eq_false hu]; rfl)
            have HF : Hid (type_of% hF) := hF
            clear hF HNO HYES hK hbw
            by_cases hu1 : up < 0
            · clear hu
              go_wp2_with fail
              go_at_call 64
              refine (CE.out _).mono ?_
              rintro e w2 ⟨rfl, rfl⟩
              go_wp2_with fail
              go_ret
              refine ⟨by rw [HF.out]; rfl, (HB3.out _ ?_).2⟩
              repeat' (first | exact Below.refl _ _ | refine Below.alloc ?_ (by simp) _ | refine Below.setCell ?_ (by simp) _)
            · have hu2 : (s.handed.length : Int) < up := by omega
              clear hu
              go_wp2_with fail
              go_at_call 64
              refine (CE.out _).mono ?_
              rintro e w2 ⟨rfl, rfl⟩
              go_wp2_with fail
              go_ret
              refine ⟨by rw [HF.out]; rfl, (HB3.out _ ?_).2⟩
              repeat' (first | exact Below.refl _ _ | refine Below.alloc ?_ (by simp) _ | refine Below.setCell ?_ (by simp) _)
      · have hke : k = s.acks.length := by omega
        have hge : ¬ ((k : Int) < (s.acks.length : Int)) := by omega
        have HT : Hid (R = true) := HR2.out.trans (ak_yes (fun j hj => hall.out j (by omega)))
        clear hke hall hbw
        go_wp2_with fail
        go_ret
        exact ⟨by rw [HT.out]; rfl, HBW.out⟩
  · have h12' : (12 : Int) < (s.acks.length : Int) := by omega
    have HF : Hid (R = false) := by show _ = _; rw [HR.out, decide_eq_false h12, Bool.false_and]
    have x5 := V1.c5
    clear HR V1
    go_enter Try.func68, Try.ntmps68
    go_upto_region 1 with fail
    rw [← hW0]
    clear hW0
    go_wp2_with fail
    go_ret
    exact ⟨by rw [HF.out]; rfl, HB.out⟩

set_option maxRecDepth 100000 in
set_option maxHeartbeats 4000000 in
theorem goodWay_any (s : Ses) (vi vh vw va : Value) (w : World) (h : SesAt w w.heap.size s vi vh vw va) (hb0 : 0 ≤ s.base) (hb1 : s.base ≤ 100) :
    Calls Try.prog 67 #[s.val vi vh vw va] w fun e w' => e = .returned (.bool (gW s)) ∧ Below w.heap.size w w' := by
  unfold Ses.val gW
  obtain ⟨W0, hW0⟩ : ∃ W, W = w.alloc (.cells #[.int .i64 s.ep, vi, .int .i64 s.base, vh, vw, va] 26) := ⟨_, rfl⟩
  have hB0 : Below w.heap.size w W0 := by rw [hW0]; exact (Below.refl _ w).alloc (Nat.le_refl _) _
  have V1 : Sv W0 w.heap.size (.int .i64 s.ep) vi (.int .i64 s.base) vh vw va := by rw [hW0]; exact Sv.fresh w _ _ _ _ _ _ _
  have hY := h.y.below hB0
  have hI := h.i.below hB0
  obtain ⟨ai, ci, rfl, hli, hci, hri⟩ := hI
  obtain ⟨ay, cy, rfl, hly, hcy, hry⟩ := hY
  unfold maxLen at hcy hci
  have HV : Hid (type_of% V1) := V1
  have HRY : Hid (type_of% hry) := hry
  have HRI : Hid (type_of% hri) := hri
  have HB : Hid (type_of% hB0) := hB0
  obtain ⟨R, hR⟩ : ∃ R, R = (decide (s.way.length ≤ 12) && s.way.all (okPk s)) := ⟨_, rfl⟩
  have HR : Hid (type_of% hR) := hR
  rw [← hR]
  clear hR h hB0 hry hri
  by_cases h12 : s.way.length ≤ 12
  · have h12' : ¬ (12 : Int) < (s.way.length : Int) := by omega
    have HR2 : Hid (R = s.way.all (okPk s)) := by show _ = _; rw [HR.out, decide_eq_true h12, Bool.true_and]
    have x1 := V1.c1
    have x2 := V1.c2
    have x4 := V1.c4
    have CW := windowEnd_any s.base s.items.length W0 (by omega) (by omega)
    obtain ⟨E, hE⟩ : ∃ E, E = min (s.base + 4) (s.items.length : Int) := ⟨_, rfl⟩
    rw [← hE] at CW
    have HE : Hid (type_of% hE) := hE
    clear HR V1 hE
    go_enter Try.func67, Try.ntmps67
    go_upto_region 1 with fail
    rw [← hW0]
    clear hW0
    go_wp2_with fail
    go_at_call 93
    refine CW.mono ?_
    rintro e w2 ⟨rfl, rfl⟩
    go_wp2_with fail
    clear x1 x2 x4 CW
    rename World => W0
    go_loopw [19] (fun vi wr => ∃ (k : Nat), k ≤ s.way.length ∧ vi = .int .i64 (k : Int) ∧ Hid (∀ j, j < k → okPk s (pk s.way j) = true) ∧ Below W0.heap.size W0 wr)
      (fun vi _ => s.way.length - (intOf vi).toNat)
    case atStart => exact ⟨0, by omega, rfl, fun j hj => by omega, Below.refl _ _⟩
    case round =>
      obtain ⟨k, hk, rfl, hall, hbw⟩ := hrel
      have V := HV.out.below hbw
      have HBW : Hid (Below w.heap.size w wr) := HB.out.trans (hbw.mono HB.out.size)
      have hlow := V.low
      by_cases hlt : k < s.way.length
      · have hltI : (k : Int) < (s.way.length : Int) := by omega
        obtain ⟨g, o, rfl, hg, hc⟩ := HRY.out k hlt
        have hc2 := hc.below hbw hg
        have HNO : Hid (okPk s (pk s.way k) = false → R = false) := fun hx => HR2.out.trans (pk_no hlt hx)
        have HYES : Hid (okPk s (pk s.way k) = true → ∀ j, j < k + 1 → okPk s (pk s.way j) = true) := fun hx => range_step hall.out hx
        have hK : Hid (okPk s (pk s.way k) = (decide (1 ≤ (pk s.way k).ep ∧ (pk s.way k).ep ≤ s.ep) && (decide (0 ≤ (pk s.way k).no) && (decide ((pk s.way k).no < (s.items.length : Int)) && (decide ((pk s.way k).no < s.base + 4) && decide ((pk s.way k).tx = lq s.items (pk s.way k).no.toNat)))))) := rfl
        generalize okPk s (pk s.way k) = ok at HNO HYES hK
        generalize pk s.way k = t at hc2 hK
        obtain ⟨ep, no, tx⟩ := t
        obtain ⟨d0, d1, d2⟩ := hc2
        dsimp only at d0 d1 d2 hK
        have CE : Hid (∀ w, Calls Try.prog 64 #[.int .i64 ep, .int .i64 s.ep] w fun r w' => r = .returned (.bool (decide (1 ≤ ep ∧ ep ≤ s.ep))) ∧ w' = w) := fun w => isEpoch_any ep s.ep w
        generalize decide (1 ≤ ep ∧ ep ≤ s.ep) = b1 at CE hK
        have HB3 : Hid (∀ W, Below wr.heap.size wr W → Below W0.heap.size W0 W ∧ Below w.heap.size w W) := fun W hW => ⟨hbw.trans (hW.mono hbw.size), HBW.out.trans (hW.mono (by have := hbw.size; omega))⟩
        obtain ⟨W1, hW1⟩ : ∃ W, W = wr.alloc (.cells #[.int .i64 ep, .int .i64 no, .string tx] 84) := ⟨_, rfl⟩
        have hB1 : Below wr.heap.size wr W1 := by rw [hW1]; exact (Below.refl _ wr).alloc (Nat.le_refl _) _
        have p0 : W1.cell? ⟨wr.heap.size, 0, none⟩ = some (.int .i64 ep) := by rw [hW1]; go_simp
        have p1 : W1.cell? ⟨wr.heap.size, 1, none⟩ = some (.int .i64 no) := by rw [hW1]; go_simp
        have p2 : W1.cell? ⟨wr.heap.size, 2, none⟩ = some (.string tx) := by rw [hW1]; go_simp
        have V2 := V.below hB1
        have y0 := V2.c0
        have y1 := V2.c1
        have HIT : Hid (0 ≤ no → no < (s.items.length : Int) → ∃ g2 o2, ai = some ⟨g2, o2, none⟩ ∧ W1.cell? ⟨g2, o2 + no.toNat, none⟩ = some (.string (lq s.items no.toNat))) := fun h1 h2 => by
          obtain ⟨g2, o2, ha, hg2, cc⟩ := HRI.out no.toNat (by omega)
          exact ⟨g2, o2, ha, (hB1.cell (p := ⟨g2, o2 + no.toNat, none⟩) (by have := hbw.size; simp; omega)).trans ((hbw.cell (p := ⟨g2, o2 + no.toNat, none⟩) hg2).trans cc)⟩
        have HF1 := HB3.out _ hB1
        have HFW : Hid (type_of% HF1) := HF1
        have HD : Hid (∀ n, Below W0.heap.size W0 (W1.drewN n) ∧ Below w.heap.size w (W1.drewN n)) := fun n => ⟨below_drewT HFW.out.1, below_drewT HFW.out.2⟩
        clear hc hall V V2 HB3 HF1 HFW hB1
        have hbs : Hid (Below W0.heap.size W0 wr) := hbw
        clear hbw
        go_upto_region 7 with fail
        rw [← hW1]
        clear hW1 d0 d1 d2
        cases b1 with
        | false =>
          have hF := HNO.out (by rw [hK.out]; rfl)
          have HF : Hid (type_of% hF) := hF
          clear hF HNO HYES hK
          go_quiet ((go_at_call 64; exact Calls.quiet_of_same (CE.out _)))
          go_wp2_with fail
          go_ret
          exact ⟨by rw [HF.out]; rfl, (HD.out _).2⟩
        | true =>
          rw [Bool.true_and] at hK
          by_cases n0 : 0 ≤ no
          · have n0' : ¬ no < 0 := by omega
            rw [decide_eq_true n0, Bool.true_and] at hK
            by_cases nE : no < E
            · have nE' : ¬ E ≤ no := by omega
              have hE2 := HE.out
              have nI : no < (s.items.length : Int) := by omega
              have nB : no < s.base + 4 := by omega
              rw [decide_eq_true nI, Bool.true_and, decide_eq_true nB, Bool.true_and] at hK
              obtain ⟨g2, o2, rfl, z2⟩ := HIT.out n0 nI
              have hs := str_eqB tx (lq s.items no.toNat)
              obtain ⟨nn, rfl⟩ : ∃ n : Nat, no = (n : Int) := ⟨no.toNat, by omega⟩
              rw [Int.toNat_natCast] at z2 hs hK
              generalize lq s.items nn = q at z2 hs hK
              clear hE2 HIT
              by_cases hq : tx = q
              · have hT := HYES.out (by rw [hK.out, decide_eq_true hq])
                have HT : Hid (type_of% hT) := hT
                rw [decide_eq_true hq] at hs
                clear hT HNO HYES hK hq
                go_quiet ((go_at_call 64; exact Calls.quiet_of_same (CE.out _)))
                go_wp2_with fail
                go_roundw
                case rel => exact ⟨k + 1, by omega, by go_num, HT, (HD.out _).1⟩
                case measure => simp [intOf]; omega
              · have hF := HNO.out (by rw [hK.out, decide_eq_false hq])
                have HF : Hid (type_of% hF) := hF
                rw [decide_eq_false hq] at hs
                clear hF HNO HYES hK hq
                go_quiet ((go_at_call 64; exact Calls.quiet_of_same (CE.out _)))
                go_wp2_with fail
                go_ret
                exact ⟨by rw [HF.out]; rfl, (HD.out _).2⟩
            · have nE' : E ≤ no := by omega
              have hF := HNO.out (by
                rw [hK.out]
                have hE2 := HE.out
                by_cases h1 : no < (s.items.length : Int)
                · rw [decide_eq_false (show ¬ no < s.base + 4 by omega)]; simp
                · rw [decide_eq_false h1]; rfl)
              have HF : Hid (type_of% hF) := hF
              clear hF HNO HYES hK nE HIT
              go_quiet ((go_at_call 64; exact Calls.quiet_of_same (CE.out _)))
              go_wp2_with fail
              go_ret
              exact ⟨by rw [HF.out]; rfl, (HD.out _).2⟩
          · have n0' : no < 0 := by omega
            have hF := HNO.out (by rw [hK.out, decide_eq_false n0]; rfl)
            have HF : Hid (type_of% hF) := hF
            clear hF HNO HYES hK n0 HIT
            go_quiet ((go_at_call 64; exact Calls.quiet_of_same (CE.out _)))
            go_wp2_with fail
            go_ret
            exact ⟨by rw [HF.out]; rfl, (HD.out _).2⟩
      · have hke : k = s.way.length := by omega
        have hge : ¬ ((k : Int) < (s.way.length : Int)) := by omega
        have HT : Hid (R = true) := HR2.out.trans (pk_yes (fun j hj => hall.out j (by omega)))
        clear hke hall hbw V
        go_wp2_with fail
        go_ret
        exact ⟨by rw [HT.out]; rfl, HBW.out⟩
  · have h12' : (12 : Int) < (s.way.length : Int) := by omega
    have HF : Hid (R = false) := by show _ = _; rw [HR.out, decide_eq_false h12, Bool.false_and]
    have x4 := V1.c4
    clear HR V1
    go_enter Try.func67, Try.ntmps67
    go_upto_region 1 with fail
    rw [← hW0]
    clear hW0
    go_wp2_with fail
    go_ret
    exact ⟨by rw [HF.out]; rfl, HB.out⟩

theorem gI_parts {s : Ses} (h : gI s = true) : s.items.length ≤ 30 ∧ ∀ j, j < s.items.length → (lq s.items j).size ≤ 20 := by
  unfold gI at h
  rw [Bool.and_eq_true, decide_eq_true_eq, List.all_eq_true] at h
  exact ⟨h.1, fun j hj => by simpa using h.2 _ (lq_mem hj)⟩
theorem gH_parts {s : Ses} (h : gH s = true) : 0 ≤ s.base ∧ s.base ≤ (s.handed.length : Int) ∧ s.handed.length ≤ s.items.length ∧ s.handed = s.items.take s.handed.length := by
  unfold gH bgn at h
  rw [Bool.and_eq_true, Bool.and_eq_true, decide_eq_true_eq, decide_eq_true_eq, decide_eq_true_eq] at h
  exact ⟨h.1.1, h.1.2, h.2.1, h.2.2⟩

set_option maxRecDepth 100000 in
set_option maxHeartbeats 4000000 in
theorem implGoodS (s : Ses) (vi vh vw va : Value) (w : World) (h : SesAt w w.heap.size s vi vh vw va) (hS : Shr s 9223372036854775807) :
    Calls Try.prog 19 #[s.val vi vh vw va] w fun e w' => e = .returned (.bool (gs s)) ∧ Below w.heap.size w w' := by
  have CE := fun w => isEpoch_any s.ep 1000 w
  have CI : Hid (∀ W, Below w.heap.size w W → Calls Try.prog 65 #[s.val vi vh vw va] W fun e w' => e = .returned (.bool (gI s)) ∧ Below W.heap.size W w') := fun W hW => goodItems_any s _ _ _ _ W (h.below hW) hS
  have CH : Hid (∀ W, Below w.heap.size w W → Calls Try.prog 66 #[s.val vi vh vw va] W fun e w' => e = .returned (.bool (gH s)) ∧ Below W.heap.size W w') := fun W hW => goodHanded_any s _ _ _ _ W (h.below hW)
  have CY : Hid (gI s = true → gH s = true → ∀ W, Below w.heap.size w W → Calls Try.prog 67 #[s.val vi vh vw va] W fun e w' => e = .returned (.bool (gW s)) ∧ Below W.heap.size W w') := fun h1 h2 W hW => by
    obtain ⟨p1, _⟩ := gI_parts h1
    obtain ⟨q1, q2, q3, _⟩ := gH_parts h2
    exact goodWay_any s _ _ _ _ W (h.below hW) q1 (by omega)
  have CA : Hid (∀ W, Below w.heap.size w W → Calls Try.prog 68 #[s.val vi vh vw va] W fun e w' => e = .returned (.bool (gA s)) ∧ Below W.heap.size W w') := fun W hW => goodAcks_any s _ _ _ _ W (h.below hW)
  unfold gs
  have hE : decide (1 ≤ s.ep ∧ s.ep ≤ 1000) = gE s := rfl
  rw [hE] at CE
  clear hE
  generalize gE s = bE at CE ⊢
  generalize gI s = bI at CI CY ⊢
  generalize gH s = bH at CH CY ⊢
  generalize gW s = bW at CY ⊢
  generalize gA s = bA at CA ⊢
  obtain ⟨R, hR⟩ : ∃ R, R = (bE && (bI && (bH && (bW && bA)))) := ⟨_, rfl⟩
  rw [← hR]
  have HR : Hid (type_of% hR) := hR
  clear hR
  unfold Ses.val at *
  obtain ⟨W0, hW0⟩ : ∃ W, W = w.alloc (.cells #[.int .i64 s.ep, vi, .int .i64 s.base, vh, vw, va] 26) := ⟨_, rfl⟩
  have hB0 : Below w.heap.size w W0 := by rw [hW0]; exact (Below.refl _ w).alloc (Nat.le_refl _) _
  have V1 : Sv W0 w.heap.size (.int .i64 s.ep) vi (.int .i64 s.base) vh vw va := by rw [hW0]; exact Sv.fresh w _ _ _ _ _ _ _
  have HV : Hid (type_of% V1) := V1
  have HB : Hid (type_of% hB0) := hB0
  have x0 := V1.c0
  have x1 := V1.c1
  have x2 := V1.c2
  have x3 := V1.c3
  have x4 := V1.c4
  have x5 := V1.c5
  have HCE : Hid (type_of% CE) := CE
  clear V1 hB0 h hS CE
  cases bE with
  | false =>
    have HF : Hid (R = false) := HR.out.trans (by rfl)
    clear HR
    go_enter Try.func19, Try.ntmps19
    go_upto_region 1 with fail
    rw [← hW0]
    clear hW0
    go_wp2_with fail
    go_at_call 64
    refine (HCE.out _).mono ?_
    rintro e w2 ⟨rfl, rfl⟩
    go_wp2_with fail
    go_ret
    exact ⟨by rw [HF.out]; rfl, HB.out⟩
  | true =>
  go_enter Try.func19, Try.ntmps19
  go_upto_region 1 with fail
  rw [← hW0]
  clear hW0
  go_wp2_with fail
  go_at_call 64
  refine (HCE.out _).mono ?_
  rintro e w2 ⟨rfl, hw2⟩
  have hw2 := hw2.symm
  subst hw2
  go_wp2_with fail
  go_at_call 65
  refine (CI.out _ HB.out).mono ?_
  rintro e w1 ⟨rfl, hb⟩
  have HV : Hid (type_of% (HV.out.below hb)) := HV.out.below hb
  have HB1 : Hid (Below w.heap.size w w1) := HB.out.trans (hb.mono HB.out.size)
  clear x0 x1 x2 x3 x4 x5 hb HB
  have x0 := HV.out.c0
  have x1 := HV.out.c1
  have x2 := HV.out.c2
  have x3 := HV.out.c3
  have x4 := HV.out.c4
  have x5 := HV.out.c5
  cases bI with
  | false =>
    have HF : Hid (R = false) := HR.out.trans (by rfl)
    clear HR
    go_wp2_with fail
    go_ret
    exact ⟨by rw [HF.out]; rfl, HB1.out⟩
  | true =>
  go_wp2_with fail
  go_at_call 66
  refine (CH.out _ HB1.out).mono ?_
  rintro e w3 ⟨rfl, hb⟩
  have HV : Hid (type_of% (HV.out.below hb)) := HV.out.below hb
  have HB3 : Hid (Below w.heap.size w w3) := HB1.out.trans (hb.mono HB1.out.size)
  clear x0 x1 x2 x3 x4 x5 hb HB1
  have x0 := HV.out.c0
  have x1 := HV.out.c1
  have x2 := HV.out.c2
  have x3 := HV.out.c3
  have x4 := HV.out.c4
  have x5 := HV.out.c5
  cases bH with
  | false =>
    have HF : Hid (R = false) := HR.out.trans (by rfl)
    clear HR
    go_wp2_with fail
    go_ret
    exact ⟨by rw [HF.out]; rfl, HB3.out⟩
  | true =>
  go_wp2_with fail
  go_at_call 67
  refine (CY.out (by trivial) (by trivial) _ HB3.out).mono ?_
  rintro e w4 ⟨rfl, hb⟩
  have HV : Hid (type_of% (HV.out.below hb)) := HV.out.below hb
  have HB4 : Hid (Below w.heap.size w w4) := HB3.out.trans (hb.mono HB3.out.size)
  clear x0 x1 x2 x3 x4 x5 hb HB3
  have x0 := HV.out.c0
  have x1 := HV.out.c1
  have x2 := HV.out.c2
  have x3 := HV.out.c3
  have x4 := HV.out.c4
  have x5 := HV.out.c5
  cases bW with
  | false =>
    have HF : Hid (R = false) := HR.out.trans (by rfl)
    clear HR
    go_wp2_with fail
    go_ret
    exact ⟨by rw [HF.out]; rfl, HB4.out⟩
  | true =>
  go_wp2_with fail
  go_at_call 68
  refine (CA.out _ HB4.out).mono ?_
  rintro e w5 ⟨rfl, hb⟩
  have HB5 : Hid (Below w.heap.size w w5) := HB4.out.trans (hb.mono HB4.out.size)
  clear x0 x1 x2 x3 x4 x5 hb HB4
  go_wp2_with fail
  go_ret
  exact ⟨by rw [HR.out]; rfl, HB5.out⟩

end Go.Proofs.Ytnlppeieccbhgaa
