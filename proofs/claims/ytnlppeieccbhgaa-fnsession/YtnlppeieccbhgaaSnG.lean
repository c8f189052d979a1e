/- Good sessions: the program's. -/
import Derived.Test.YtnlppeieccbhgaaSnL
namespace Go.Proofs.Ytnlppeieccbhgaa
open Go.RowKit Plain Tpc Ssn

theorem str_neS (a b : ByteArray) : (a.toList != b.toList) = decide (¬ a = b) := by
  rw [bne, str_eqB]
  by_cases h : a = b <;> simp [h]

theorem StAt.drewS {w : World} {B : Nat} {v : Value} {L : List ByteArray} (h : StAt w B v L) (n : Nat) : StAt (w.drewN n) B v L := by
  obtain ⟨ao, cap, hv, hm, hc, hr⟩ := h
  refine ⟨ao, cap, hv, hm, hc, fun i hi => ?_⟩
  obtain ⟨g, o, ha, hg, c⟩ := hr i hi
  exact ⟨g, o, ha, hg, by rw [← c]; rfl⟩

theorem texts_eq {L R : List ByteArray} (hl : L.length = R.length) (h : ∀ j, j < L.length → lq L j = lq R j) : L = R := by
  apply List.ext_getElem? 
  intro i
  by_cases hi : i < L.length
  · rw [lq_at hi, lq_at (by omega), h i hi]
  · rw [List.getElem?_eq_none (by omega), List.getElem?_eq_none (by omega)]

set_option maxRecDepth 100000 in
set_option maxHeartbeats 4000000 in
theorem slicesEq_any (L R : List ByteArray) (v1 v2 : Value) (w : World) (h1 : StAt w w.heap.size v1 L) (h2 : StAt w w.heap.size v2 R) :
    Calls Try.prog 92 #[v1, v2] w fun e w' => e = .returned (.bool (decide (L = R))) ∧ ∃ m, w' = w.drewN m := by
  obtain ⟨a1, c1, rfl, hlc1, hcm1, hr1⟩ := h1
  obtain ⟨a2, c2, rfl, hlc2, hcm2, hr2⟩ := h2
  unfold maxLen at hcm1 hcm2
  by_cases hl : L.length = R.length
  · have hn : ((L.length : Int) != (R.length : Int)) = false := by simp [hl]
    have H1 : Hid (type_of% hr1) := hr1
    have H2 : Hid (type_of% hr2) := hr2
    have HL : Hid (L.length = R.length) := hl
    obtain ⟨D, hD⟩ : ∃ D, D = decide (L = R) := ⟨_, rfl⟩
    rw [← hD]
    have HD : Hid (D = decide (L = R)) := hD
    clear hD hr1 hr2
    rw [← hl] at hlc2 hn ⊢
    clear hl
    go_enter Try.func92, Try.ntmps92
    go_wp2
    go_loopw [13] (fun vi wr => ∃ (k m : Nat), k ≤ L.length ∧ vi = .int .i64 (k : Int) ∧ Hid (∀ j, j < k → lq L j = lq R j) ∧ wr = w.drewN m)
      (fun vi _ => L.length - (intOf vi).toNat)
    case atStart => exact ⟨0, 0, by omega, rfl, fun j hj => by omega, rfl⟩
    case round =>
      obtain ⟨k, m, hk, rfl, hall, rfl⟩ := hrel
      by_cases hlt : k < L.length
      · have hltI : (k : Int) < (L.length : Int) := by omega
        obtain ⟨g, o, rfl, hg, d1⟩ := H1.out k hlt
        obtain ⟨g2, o2, rfl, hg2, d2⟩ := H2.out k (by have := HL.out; omega)
        have e1 : ∀ n, (w.drewN n).cell? ⟨g, o + k, none⟩ = some (.string (lq L k)) := fun n => d1
        have e2 : ∀ n, (w.drewN n).cell? ⟨g2, o2 + k, none⟩ = some (.string (lq R k)) := fun n => d2
        have HX : Hid (¬ lq L k = lq R k → D = false) := fun hx => by
          rw [HD.out, decide_eq_false]
          intro e
          exact hx (by rw [e])
        have HY : Hid (lq L k = lq R k → ∀ j, j < k + 1 → lq L j = lq R j) := fun hx j hj => by
          by_cases hjk : j = k
          · rw [hjk]; exact hx
          · exact hall.out j (by omega)
        have hs := str_eqB (lq L k) (lq R k)
        generalize lq L k = x at *
        generalize lq R k = y at *
        clear hall
        by_cases hxy : x = y
        · have h3 := HY.out hxy
          have H3 : Hid (type_of% h3) := h3
          rw [decide_eq_true hxy] at hs
          clear h3 HX HY hxy
          go_wp2_with fail
          go_quiet (fail)
          go_wp2_with fail
          go_roundw
          case rel => exact ⟨k + 1, _, by omega, by go_num, H3, rfl⟩
          case measure => simp [intOf]; omega
        · have h3 := HX.out hxy
          have H3 : Hid (type_of% h3) := h3
          rw [decide_eq_false hxy] at hs
          clear h3 HX HY hxy
          go_wp2_with fail
          go_quiet (fail)
          go_wp2_with fail
          go_ret
          exact ⟨by rw [H3.out]; rfl, _, World.drewN_drewN _ _ _⟩
      · have hke : k = L.length := by omega
        have hge : ¬ ((k : Int) < (L.length : Int)) := by omega
        have HT : Hid (D = true) := by
          show _ = _
          rw [HD.out, decide_eq_true (texts_eq HL.out (fun j hj => hall.out j (by omega)))]
        clear hke hall
        go_wp2
        go_ret
        exact ⟨by rw [HT.out]; rfl, _, rfl⟩
  · have hn : ((L.length : Int) != (R.length : Int)) = true := by simp; omega
    rw [decide_eq_false (fun e => hl (by rw [e]))]
    clear hr1 hr2 hl
    go_enter Try.func92, Try.ntmps92
    go_wp2
    go_ret
    exact ⟨rfl, 0, rfl⟩

set_option maxRecDepth 100000 in
set_option maxHeartbeats 4000000 in
theorem isEpoch_any (e l : Int) (w : World) : Calls Try.prog 64 #[.int .i64 e, .int .i64 l] w fun r w' => r = .returned (.bool (decide (1 ≤ e ∧ e ≤ l))) ∧ w' = w := by
  by_cases h1 : 1 ≤ e
  · by_cases h2 : e ≤ l
    · rw [decide_eq_true ⟨h1, h2⟩]
      go_enter Try.func64, Try.ntmps64
      go_wp2
      go_ret
      exact ⟨rfl, rfl⟩
    · rw [decide_eq_false (fun h => h2 h.2)]
      have d2 : decide (e ≤ l) = false := decide_eq_false h2
      clear h2
      go_enter Try.func64, Try.ntmps64
      go_wp2
      go_ret
      exact ⟨rfl, rfl⟩
  · rw [decide_eq_false (fun h => h1 h.1)]
    have d1 : decide (1 ≤ e) = false := decide_eq_false h1
    clear h1
    go_enter Try.func64, Try.ntmps64
    go_wp2
    go_ret
    exact ⟨rfl, rfl⟩

set_option maxRecDepth 100000 in
set_option maxHeartbeats 4000000 in
theorem windowEnd_any (b n : Int) (w : World) (h1 : -1000 ≤ b) (h2 : b ≤ 1000) : Calls Try.prog 93 #[.int .i64 b, .int .i64 n] w fun r w' => r = .returned (.int .i64 (min (b + 4) n)) ∧ w' = w := by
  by_cases h : n < b + 4
  · rw [show min (b + 4) n = n by omega]
    go_enter Try.func93, Try.ntmps93
    go_wp2
    go_ret
    exact ⟨rfl, rfl⟩
  · rw [show min (b + 4) n = b + 4 by omega]
    go_enter Try.func93, Try.ntmps93
    go_wp2
    go_ret
    exact ⟨rfl, rfl⟩

theorem hv20 (L : List ByteArray) : hv 0 20 L = L.all fun t => decide (t.size ≤ 20) := by
  unfold hv
  congr 1
  funext t
  rw [Bool.eq_iff_iff]
  simp
  omega

set_option maxRecDepth 100000 in
set_option maxHeartbeats 4000000 in
theorem goodItems_any (s : Ses) (vi vh vw va : Value) (w : World) (h : SesAt w w.heap.size s vi vh vw va) (hS : Shr s 9223372036854775807) :
    Calls Try.prog 65 #[s.val vi vh vw va] w fun e w' => e = .returned (.bool (gI s)) ∧ Below w.heap.size w w' := by
  unfold Ses.val gI
  obtain ⟨W0, hW0⟩ : ∃ W, W = w.alloc (.cells #[.int .i64 s.ep, vi, .int .i64 s.base, vh, vw, va] 26) := ⟨_, rfl⟩
  have hB0 : Below w.heap.size w W0 := by rw [hW0]; exact (Below.refl _ w).alloc (Nat.le_refl _) _
  have V1 : Sv W0 w.heap.size (.int .i64 s.ep) vi (.int .i64 s.base) vh vw va := by rw [hW0]; exact Sv.fresh w _ _ _ _ _ _ _
  have x1 := V1.c1
  have hI := h.i.below hB0
  obtain ⟨ai, ci, rfl, hlc, hcm, _⟩ := h.i
  unfold maxLen at hcm
  have CH := haveBytes_any 0 20 s.items _ W0 hI hS.i (by omega)
  rw [hv20] at CH
  clear h hI hS V1
  generalize (s.items.all fun t => decide (t.size ≤ 20)) = q at CH ⊢
  by_cases h30 : s.items.length ≤ 30
  · have h30' : (s.items.length : Int) ≤ 30 := by omega
    rw [decide_eq_true h30, Bool.true_and]
    go_enter Try.func65, Try.ntmps65
    go_upto_region 1 with fail
    rw [← hW0]
    clear hW0
    go_wp2_with fail
    go_at_call 48
    refine CH.mono ?_
    rintro e w1 ⟨rfl, rfl⟩
    go_wp2_with fail
    go_ret
    exact ⟨rfl, hB0⟩
  · have h30' : ¬ (s.items.length : Int) ≤ 30 := by omega
    rw [decide_eq_false h30, Bool.false_and]
    go_enter Try.func65, Try.ntmps65
    go_upto_region 1 with fail
    rw [← hW0]
    clear hW0
    go_wp2_with fail
    go_ret
    exact ⟨rfl, hB0⟩

set_option maxRecDepth 100000 in
set_option maxHeartbeats 4000000 in
theorem goodHanded_any (s : Ses) (vi vh vw va : Value) (w : World) (h : SesAt w w.heap.size s vi vh vw va) :
    Calls Try.prog 66 #[s.val vi vh vw va] w fun e w' => e = .returned (.bool (gH s)) ∧ Below w.heap.size w w' := by
  unfold Ses.val gH bgn
  obtain ⟨W0, hW0⟩ : ∃ W, W = w.alloc (.cells #[.int .i64 s.ep, vi, .int .i64 s.base, vh, vw, va] 26) := ⟨_, rfl⟩
  have hB0 : Below w.heap.size w W0 := by rw [hW0]; exact (Below.refl _ w).alloc (Nat.le_refl _) _
  have V1 : Sv W0 w.heap.size (.int .i64 s.ep) vi (.int .i64 s.base) vh vw va := by rw [hW0]; exact Sv.fresh w _ _ _ _ _ _ _
  have x1 := V1.c1
  have x2 := V1.c2
  have x3 := V1.c3
  have hI := h.i.below hB0
  have hH := h.h.below hB0
  obtain ⟨ai, ci, rfl, hlc, hcm, _⟩ := h.i
  obtain ⟨ah, ch, rfl, hlh, hch, _⟩ := h.h
  unfold maxLen at hcm hch
  clear h V1
  have CE : Hid (s.handed.length ≤ s.items.length → ∀ n, Calls Try.prog 92 #[.slice ah s.handed.length ch, .slice ai s.handed.length ci] (W0.drewN n) fun e w' => e = .returned (.bool (decide (s.handed = s.items.take s.handed.length))) ∧ ∃ m, w' = (W0.drewN n).drewN m) := fun hle n => slicesEq_any _ _ _ _ _ (hH.drewS n) ((hI.take hle).drewS n)
  generalize decide (s.handed = s.items.take s.handed.length) = q at CE ⊢
  clear hI hH
  generalize s.handed.length = nh at *
  generalize s.items.length = ni at *
  by_cases h1 : 0 ≤ s.base
  · by_cases h2 : s.base ≤ (nh : Int)
    · rw [decide_eq_true (⟨h1, h2⟩ : 0 ≤ s.base ∧ s.base ≤ (nh : Int)), Bool.true_and]
      by_cases h3 : nh ≤ ni
      · have h3' : (nh : Int) ≤ (ni : Int) := by omega
        have h4 : (nh : Int) ≤ (ci : Int) := by omega
        have h5 : nh ≤ ci := by omega
        have CE2 : Hid (type_of% (CE.out h3)) := CE.out h3
        rw [decide_eq_true h3, Bool.true_and]
        clear CE
        go_enter Try.func66, Try.ntmps66
        go_upto_region 1 with fail
        rw [← hW0]
        clear hW0
        go_wp2_with fail
        go_quiet ((go_at_call 92; exact Calls.quiet_of (CE2.out _)))
        go_wp2_with fail
        go_ret
        exact ⟨rfl, below_drewT hB0⟩
      · have h3' : ¬ (nh : Int) ≤ (ni : Int) := by omega
        rw [decide_eq_false h3, Bool.false_and]
        clear CE
        go_enter Try.func66, Try.ntmps66
        go_upto_region 1 with fail
        rw [← hW0]
        clear hW0
        go_wp2_with fail
        go_quiet (fail)
        go_wp2_with fail
        go_ret
        exact ⟨rfl, below_drewT hB0⟩
    · rw [decide_eq_false (fun h => h2 h.2), Bool.false_and]
      have d2 : decide (s.base ≤ (nh : Int)) = false := decide_eq_false h2
      clear h2 CE
      go_enter Try.func66, Try.ntmps66
      go_upto_region 1 with fail
      rw [← hW0]
      clear hW0
      go_wp2_with fail
      go_quiet (fail)
      go_wp2_with fail
      go_ret
      exact ⟨rfl, below_drewT hB0⟩
  · rw [decide_eq_false (fun h => h1 h.1), Bool.false_and]
    have d1 : decide (0 ≤ s.base) = false := decide_eq_false h1
    clear h1 CE
    go_enter Try.func66, Try.ntmps66
    go_upto_region 1 with fail
    rw [← hW0]
    clear hW0
    go_wp2_with fail
    go_quiet (fail)
    go_wp2_with fail
    go_ret
    exact ⟨rfl, below_drewT hB0⟩

end Go.Proofs.Ytnlppeieccbhgaa
