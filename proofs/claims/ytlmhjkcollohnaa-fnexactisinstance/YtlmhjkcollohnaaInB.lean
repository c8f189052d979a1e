/- The program's IsInstance: terms cut off, compared. -/
import Derived.Test.YtlmhjkcollohnaaInA
import Derived.Test.YtlmhjkcollohnaaTmC
namespace Go.Proofs.Ytlmhjkcollohnaa
open Go.RowKit Plain Sch Trm

attribute [local go_sem ↓] eqlC neqC

/-- a piece of the cells of a slice -/
theorem CesAt.piece {w : World} {B g o cap : Nat} {T : List Ce} (a n : Nat) (hlc : T.length ≤ cap) (hcm : cap ≤ maxLen) (hg : g < B) (hrow : ∀ i, i < T.length → CeIn w g (o + i * 3) (ce T i)) (hnm : ∀ i, i < T.length → (ce T i).name.size ≤ maxLen) (hn : 0 < n) (han : a + n ≤ T.length) :
    CesAt w B (.slice (some ⟨g, o + a * 3, none⟩) n (cap - a)) ((T.drop a).take n) := by
  have hl : ((T.drop a).take n).length = n := by rw [List.length_take, List.length_drop]; omega
  have hce : ∀ i, i < n → ce ((T.drop a).take n) i = ce T (a + i) := fun i hi => by
    simp [ce, List.getD, hi, List.getElem?_drop]
  refine ⟨some ⟨g, o + a * 3, none⟩, cap - a, by rw [hl], by omega, by omega, fun i hi => ?_, fun i hi => ?_⟩
  · rw [hl] at hi
    rw [hce i hi]
    have := hrow (a + i) (by omega)
    refine ⟨g, o + a * 3, rfl, hg, ?_⟩
    have e : o + a * 3 + i * 3 = o + (a + i) * 3 := by omega
    rw [e]
    exact this
  · rw [hl] at hi
    rw [hce i hi]
    exact hnm (a + i) (by omega)

theorem slice_two (g o n cap a b : Nat) (W : World) (h1 : a < b) (h2 : b ≤ cap) : (Instr.slice 27 (.slice (some ⟨g, o, none⟩) n cap) (some (.int .i64 (a : Int))) (some (.int .i64 (b : Int))) none).run Try.prog W = .ok (.slice (some ⟨g, o + a * 3, none⟩) (b - a) (cap - a)) W := by
  rw [run_slice_lh (P := Try.prog) (w := W) 27 (some ⟨g, o, none⟩) n cap Try.underlying27 .i64 .i64 (a : Int) (b : Int) (by omega) (by omega) (by omega)]
  have e : (sizeOf (Try.prog.elem 27)).run Try.prog W = .ok 3 W := by kernel_rfl
  rw [e]
  show Result.ok (sliced (some ⟨g, o, none⟩) (a : Int).toNat (b : Int).toNat cap 3) W = _
  unfold sliced
  rw [Int.toNat_natCast, Int.toNat_natCast, if_neg (by omega)]
  have e2 : (⟨g, o, none⟩ : Addr).add (a * 3) = ⟨g, o + a * 3, none⟩ := by
    unfold Addr.add
    by_cases h : a * 3 = 0
    · rw [if_pos h, h]; rfl
    · rw [if_neg h]
  simp [e2]

set_option maxRecDepth 100000 in
set_option maxHeartbeats 4000000 in
theorem termAt_any (T : List Ce) (g o cap a : Nat) (x : TT) (r : List Ce) (w : World) (hlc : T.length ≤ cap) (hcm : cap ≤ maxLen) (hl : T.length ≤ 1000) (hrow : ∀ i, i < T.length → CeIn w g (o + i * 3) (ce T i)) (hg : g < w.heap.size) (hx : T.drop a = fl x ++ r) :
    Calls Try.prog 47 #[.slice (some ⟨g, o, none⟩) T.length cap, .int .i64 (a : Int)] w fun e w' => e = .returned (.slice (some ⟨g, o + a * 3, none⟩) (fl x).length (cap - a)) ∧ w' = w := by
  have hcm' : cap ≤ 9223372036854775807 := by unfold maxLen at hcm; omega
  have HROW : Hid (∀ i, i < T.length → CeIn w g (o + i * 3) (ce T i)) := hrow
  have hlen : a + (fl x).length + r.length = T.length := by
    have h1 := congrArg List.length hx
    rw [List.length_drop, List.length_append] at h1
    have h2 : 0 < (fl x).length := by obtain ⟨v, n, ks⟩ := x; simp [fl]
    omega
  have hpos : 0 < (fl x).length := by obtain ⟨v, n, ks⟩ := x; simp [fl]
  have HX : Hid (T.drop a = flL [x] ++ r) := by show _ = _; rw [hx]; simp [flL]
  obtain ⟨n, hn⟩ : ∃ n, n = (fl x).length := ⟨_, rfl⟩
  rw [← hn] at hlen hpos ⊢
  have HN : Hid (n = (fl x).length) := hn
  clear hrow hx hn
  have hsl : ∀ W : World, (Instr.slice 27 (.slice (some ⟨g, o, none⟩) T.length cap) (some (.int .i64 (a : Int))) (some (.int .i64 ((a + n : Nat) : Int))) none).run Try.prog W = .ok (.slice (some ⟨g, o + a * 3, none⟩) n (cap - a)) W := fun W => by
    have h := slice_two g o T.length cap a (a + n) W (by omega) (by omega)
    rw [Nat.add_sub_cancel_left] at h
    exact h
  have HSL : Hid (∀ W : World, (Instr.slice 27 (.slice (some ⟨g, o, none⟩) T.length cap) (some (.int .i64 (a : Int))) (some (.int .i64 ((a + n : Nat) : Int))) none).run Try.prog W = .ok (.slice (some ⟨g, o + a * 3, none⟩) n (cap - a)) W) := hsl
  clear hsl
  go_enter Try.func47, Try.ntmps47
  go_wp2
  go_loopw [5, 6] (fun ve vt wr => ∃ (b : Nat) (k : Nat) (ts : List TT), a ≤ b ∧ b + r.length ≤ T.length ∧ ve = .int .i64 (b : Int) ∧ vt = .int .i64 (k : Int) ∧ k ≤ 2000 ∧ Hid (T.drop b = flL ts ++ r) ∧ Hid (ts.length = k) ∧ wr = w)
    (fun ve _ _ => T.length - (intOf ve).toNat)
  case atStart => exact ⟨a, 1, [x], by omega, by omega, rfl, rfl, by omega, HX, rfl, rfl⟩
  case round =>
    obtain ⟨b, k, ts, hab, hbr, rfl, rfl, hk, hd, hts, rfl⟩ := hrel
    by_cases hk0 : 0 < k
    · have hk0' : (0 : Int) < (k : Int) := by omega
      have hts' := hts.out
      have hdd := hd.out
      obtain ⟨y, ts', rfl⟩ : ∃ y ts', ts = y :: ts' := by
        cases ts with
        | nil => simp at hts'; omega
        | cons y ts' => exact ⟨y, ts', rfl⟩
      obtain ⟨yv, yn, yks⟩ := y
      have hb : b < T.length := by
        have h1 := congrArg List.length hdd
        rw [List.length_drop, flL, fl] at h1
        simp at h1
        omega
      have hce : ce T b = ⟨yv, yn, (yks.length : Int)⟩ := by
        have h1 := drop_ce T b hb
        rw [hdd, flL, fl] at h1
        simp only [List.cons_append, List.cons.injEq] at h1
        exact h1.1.symm
      have hci := (HROW.out b hb).2.2
      rw [hce] at hci
      dsimp only at hci
      have hnext : Hid (T.drop (b + 1) = flL (yks ++ ts') ++ r) := by
        show _ = _
        have h1 := drop_ce T b hb
        rw [hdd, flL, fl] at h1
        simp only [List.cons_append, List.cons.injEq] at h1
        rw [← h1.2, flL_append]
      have hlen9 : yks.length + ts'.length ≤ 1000 := by
        have h1 := congrArg List.length hnext.out
        rw [List.length_drop, flL_append, List.length_append, List.length_append] at h1
        have h2 := flL_len yks
        have h3 := flL_len ts'
        omega
      have hkk : Hid (k = ts'.length + 1) := by show _ = _; rw [← hts']; simp
      have hts2 : Hid ((yks ++ ts').length = k - 1 + yks.length) := by show _ = _; rw [hkk.out, List.length_append]; omega
      have hbr2 : b + 1 + r.length ≤ T.length := by
        have h1 := congrArg List.length hnext.out
        rw [List.length_drop, List.length_append] at h1
        omega
      have hk2 : k - 1 + yks.length ≤ 2000 := by rw [hkk.out]; omega
      have hb' : (b : Int) < (T.length : Int) := by omega
      generalize yks.length = m at hci hts2 hk2
      clear hts hd hdd hts' hce hlen9 hkk
      go_wp2
      go_roundw
      case rel => exact ⟨b + 1, k - 1 + m, yks ++ ts', by omega, hbr2, by go_num, by congr 1; omega, hk2, hnext, hts2, trivial⟩
      case measure => simp [intOf]; omega
    · have hk00 : k = 0 := by omega
      subst hk00
      have hb9 : Hid (b = a + n) := by
        have h1 := hts.out
        have h2 : ts = [] := List.length_eq_zero_iff.1 h1
        have h3 := congrArg List.length hd.out
        rw [h2] at h3
        simp [flL] at h3
        show _ = _
        omega
      have hb10 := hb9.out
      subst hb10
      have hsl := HSL.out
      rw [show ((a + n : Nat) : Int) = (a : Int) + (n : Int) by omega] at hsl
      clear hd hts
      go_wp2
      go_ret
      exact ⟨rfl, rfl⟩

set_option maxRecDepth 100000 in
set_option maxHeartbeats 4000000 in
theorem equalC_any (X Y : List Ce) (vx vy : Value) (w : World) (hX : CesAt w w.heap.size vx X) (hY : CesAt w w.heap.size vy Y) :
    Calls Try.prog 48 #[vx, vy] w fun e w' => e = .returned (.bool (decide (X = Y))) ∧ Below w.heap.size w w' := by
  obtain ⟨ao, cap, rfl, hlc, hcm, hrow, _⟩ := hX
  obtain ⟨ao2, cap2, rfl, hlc2, hcm2, hrow2, _⟩ := hY
  have hcm' : cap ≤ 9223372036854775807 := by unfold maxLen at hcm; omega
  have hcm2' : cap2 ≤ 9223372036854775807 := by unfold maxLen at hcm2; omega
  have HROW : Hid (∀ i, i < X.length → ∃ g o, ao = some ⟨g, o, none⟩ ∧ g < w.heap.size ∧ CeIn w g (o + i * 3) (ce X i)) := hrow
  have HROW2 : Hid (∀ i, i < Y.length → ∃ g o, ao2 = some ⟨g, o, none⟩ ∧ g < w.heap.size ∧ CeIn w g (o + i * 3) (ce Y i)) := hrow2
  clear hrow hrow2
  obtain ⟨R, hR⟩ : ∃ R, R = decide (X = Y) := ⟨_, rfl⟩
  rw [← hR]
  have HR : Hid (R = decide (X = Y)) := hR
  clear hR
  by_cases hl : X.length = Y.length
  · have HL : Hid (X.length = Y.length) := hl
    rw [← hl]
    clear hl
    go_enter Try.func48, Try.ntmps48
    go_wp2
    go_loopw [13] (fun vi wr => ∃ k : Nat, k ≤ X.length ∧ vi = .int .i64 (k : Int) ∧ Hid (∀ j, j < k → ce X j = ce Y j) ∧ Below w.heap.size w wr)
      (fun vi _ => X.length - (intOf vi).toNat)
    case atStart => exact ⟨0, by omega, rfl, fun j hj => by omega, Below.refl _ _⟩
    case round =>
      obtain ⟨k, hk, rfl, hall, hbw⟩ := hrel
      by_cases hlt : k < X.length
      · have hltI : (k : Int) < (X.length : Int) := by omega
        obtain ⟨g, o, rfl, hg, hci⟩ := HROW.out k hlt
        obtain ⟨g2, o2, rfl, hg2, hci2⟩ := HROW2.out k (by rw [← HL.out]; exact hlt)
        have hci := hci.below hbw hg
        have hci2 := hci2.below hbw hg2
        obtain ⟨c, hc⟩ : ∃ c, Hid (c = ce X k) := ⟨_, rfl⟩
        obtain ⟨d, hd⟩ : ∃ d, Hid (d = ce Y k) := ⟨_, rfl⟩
        rw [← hc.out] at hci
        rw [← hd.out] at hci2
        obtain ⟨c0, c1, c2⟩ := hci
        obtain ⟨d0, d1, d2⟩ := hci2
        have hq := ceq_eq c d
        by_cases hcd : c = d
        · have hq' : ceq c.var c.name c.many d.var d.name d.many = true := by rw [hq]; simpa using hcd
          have hall2 : Hid (∀ j, j < k + 1 → ce X j = ce Y j) := fun j hj => by
            by_cases hjk : j = k
            · rw [hjk, ← hc.out, ← hd.out]; exact hcd
            · exact hall.out j (by omega)
          clear hall hcd hq
          go_wp2_with fail
          go_quiet (fail)
          go_wp2
          go_roundw
          case rel => exact ⟨k + 1, by omega, by go_num, hall2, below_drewN hbw⟩
          case measure => simp [intOf]; omega
        · have hq' : ceq c.var c.name c.many d.var d.name d.many = false := by rw [hq]; simpa using hcd
          have hn : Hid (R = false) := HR.out.trans (by
            rw [decide_eq_false_iff_not]
            intro e
            apply hcd
            rw [hc.out, hd.out, e])
          clear hall hcd hq
          go_wp2_with fail
          go_quiet (fail)
          go_wp2
          go_ret
          exact ⟨by rw [hn.out]; rfl, below_drewN hbw⟩
      · have hke : k = X.length := by omega
        have hge : ¬ ((k : Int) < (X.length : Int)) := by omega
        have hn : Hid (R = true) := HR.out.trans (by
          rw [decide_eq_true_eq]
          apply List.ext_getElem?
          intro j
          by_cases hj : j < X.length
          · have h1 := hall.out j (by omega)
            have hj2 : j < Y.length := by rw [← HL.out]; exact hj
            simp only [ce, List.getD, List.getElem?_eq_getElem hj, List.getElem?_eq_getElem hj2, Option.getD_some] at h1
            rw [List.getElem?_eq_getElem hj, List.getElem?_eq_getElem hj2, h1]
          · rw [List.getElem?_eq_none (by omega), List.getElem?_eq_none (by rw [← HL.out]; omega)])
        clear hall hke
        go_wp2
        go_ret
        exact ⟨by rw [hn.out]; rfl, hbw⟩
  · have hn : Hid (R = false) := HR.out.trans (by
      rw [decide_eq_false_iff_not]
      intro e
      exact hl (by rw [e]))
    have hl' : ((X.length : Int) == (Y.length : Int)) = false := by simp; omega
    have hln : (X.length == Y.length) = false := by simpa using hl
    clear hl
    go_enter Try.func48, Try.ntmps48
    go_wp2
    go_ret
    exact ⟨by rw [hn.out]; rfl, Below.refl _ _⟩

end Go.Proofs.Ytlmhjkcollohnaa
