/- The model's GoodBox. -/
import Derived.Test.YtnbaeplbnonhkaaBxL
namespace Go.Proofs.Ytnbaeplbnonhkaa
open Go.RowKit Plain Sch Bxs

set_option maxRecDepth 100000 in
set_option maxHeartbeats 4000000 in
theorem specGoodB (T : List Sd) (v : Value) (w : World) (hT : SdsAt w w.heap.size v T) :
    Calls Try.prog 14 #[.agg #[v]] w fun e w' => e = .returned (.bool (gb T)) ∧ Below w.heap.size w w' := by
  obtain ⟨ao, cap, rfl, hlc, hcm, hrow⟩ := hT
  unfold maxLen at hcm
  have HROW : Hid (∀ i, i < T.length → ∃ g o, ao = some ⟨g, o, none⟩ ∧ g < w.heap.size ∧ SdIn w g (o + i * 2) (sd T i)) := hrow
  clear hrow
  obtain ⟨R, hR⟩ : ∃ R, R = gb T := ⟨_, rfl⟩
  rw [← hR]
  have HR : Hid (R = gb T) := hR
  clear hR
  obtain ⟨W1, hW1⟩ : ∃ W, W = w.alloc (.cells #[.slice ao T.length cap] 25) := ⟨_, rfl⟩
  have hB1 : Below w.heap.size w W1 := by rw [hW1]; exact (Below.refl _ w).alloc (Nat.le_refl _) _
  have hs1 : Hid (W1.heap.size = w.heap.size + 1) := by show _ = _; rw [hW1]; simp
  have hl1 : w.heap.size < W1.heap.size := by rw [hs1.out]; omega
  have q1 : W1.cell? ⟨w.heap.size, 0, none⟩ = some (.slice ao T.length cap) := by rw [hW1]; go_simp
  go_enter Try.func14, Try.ntmps14
  go_upto_region 1 with fail
  rw [← hW1]
  clear hW1
  go_wp2
  go_loopw [8] (fun vi wr => ∃ i : Nat, i ≤ T.length ∧ vi = .int .i64 (i : Int) ∧ Hid (∀ j, j < i → okS (sd T j) = true) ∧ Hid (Below W1.heap.size W1 wr))
    (fun vi _ => T.length - (intOf vi).toNat)
  case atStart => exact ⟨0, by omega, rfl, fun j hj => by omega, Below.refl _ _⟩
  case round =>
    obtain ⟨i, hi, rfl, hall, hBw⟩ := hrel
    have hB0 : Below w.heap.size w wr := hB1.trans (hBw.out.mono (by omega))
    have qr : wr.cell? ⟨w.heap.size, 0, none⟩ = some (.slice ao T.length cap) := (hBw.out.cell (p := ⟨w.heap.size, 0, none⟩) hl1).trans q1
    have hsz : W1.heap.size ≤ wr.heap.size := hBw.out.size
    by_cases hlt : i < T.length
    · have hlt' : (i : Int) < (T.length : Int) := by omega
      obtain ⟨g, o, rfl, hg, hty⟩ := HROW.out i hlt
      have hci := hty.below hB0 hg
      obtain ⟨s, hs⟩ : ∃ s, sd T i = s := ⟨_, rfl⟩
      have HS : Hid (sd T i = s) := hs
      rw [hs] at hci
      clear hs hty
      obtain ⟨lo, hi2⟩ := s
      obtain ⟨c0, c1⟩ := hci
      dsimp only at c0 c1
      obtain ⟨W3, hW3⟩ : ∃ W, W = wr.alloc (.cells #[.int .i64 lo, .int .i64 hi2] 58) := ⟨_, rfl⟩
      have hA3 : Below wr.heap.size wr W3 := by rw [hW3]; exact (Below.refl _ wr).alloc (Nat.le_refl _) _
      have z0 : W3.cell? ⟨wr.heap.size, 0, none⟩ = some (.int .i64 lo) := by rw [hW3]; go_simp
      have z1 : W3.cell? ⟨wr.heap.size, 1, none⟩ = some (.int .i64 hi2) := by rw [hW3]; go_simp
      have hl3 : wr.heap.size < W3.heap.size := by rw [hW3]; simp
      have hB3 : Hid (Below W1.heap.size W1 W3) := hBw.out.trans (hA3.mono hsz)
      obtain ⟨b, hb⟩ : ∃ b, b = decide ((-1000 : Int) ≤ lo ∧ lo ≤ 1000) := ⟨_, rfl⟩
      have HBD : Hid (b = decide ((-1000 : Int) ≤ lo ∧ lo ≤ 1000)) := hb
      clear hb
      obtain ⟨d, hd⟩ : ∃ d, d = decide (lo ≤ hi2 ∧ hi2 ≤ 1000) := ⟨_, rfl⟩
      have HDD : Hid (d = decide (lo ≤ hi2 ∧ hi2 ≤ 1000)) := hd
      clear hd
      have HBad : Hid (b = false ∨ d = false → R = false) := fun h => HR.out.trans (gb_bad hlt (by
        rw [HS.out, Bool.eq_false_iff]
        intro hh
        rw [okS_iff] at hh
        dsimp only at hh
        rcases h with h | h
        · have h2 := HBD.out
          rw [h, eq_comm, decide_eq_false_iff_not] at h2
          exact h2 ⟨hh.1, by omega⟩
        · have h2 := HDD.out
          rw [h, eq_comm, decide_eq_false_iff_not] at h2
          exact h2 ⟨hh.2.1, hh.2.2⟩))
      have HGood : Hid (b = true → d = true → ∀ j, j < i + 1 → okS (sd T j) = true) := fun h1 h2 j hj => by
        by_cases e : j = i
        · rw [e, HS.out, okS_iff]
          have q1 := HBD.out
          have q2 := HDD.out
          rw [h1, eq_comm, decide_eq_true_eq] at q1
          rw [h2, eq_comm, decide_eq_true_eq] at q2
          exact ⟨q1.1, q2.1, q2.2⟩
        · exact hall.out j (by omega)
      clear hBw hall
      go_upto_region 4 with fail
      rw [← hW3]
      clear hW3 c0 c1
      go_wp2_with fail
      refine (l1In_bx lo (-1000) 1000 _).mono ?_
      rintro e w4 ⟨rfl, rfl⟩
      rw [← HBD.out]
      cases b with
      | false =>
        have hF : Hid (R = false) := HBad.out (.inl rfl)
        clear HBad HGood
        go_wp2
        go_ret
        exact ⟨by rw [hF.out]; rfl, hB1.trans (hB3.out.mono (by omega))⟩
      | true =>
        go_wp2_with fail
        refine (l1In_bx hi2 lo 1000 _).mono ?_
        rintro e w5 ⟨rfl, rfl⟩
        rw [← HDD.out]
        cases d with
        | false =>
          have hF : Hid (R = false) := HBad.out (.inr rfl)
          clear HBad HGood
          go_wp2
          go_ret
          exact ⟨by rw [hF.out]; rfl, hB1.trans (hB3.out.mono (by omega))⟩
        | true =>
          have hN : Hid (∀ j, j < i + 1 → okS (sd T j) = true) := HGood.out (by trivial) (by trivial)
          clear HBad HGood
          go_wp2
          go_roundw
          case rel => exact ⟨i + 1, by omega, by go_num, hN, hB3⟩
          case measure => simp [intOf]; omega
    · have hke : i = T.length := by omega
      subst hke
      have hge : ¬ ((T.length : Int) < (T.length : Int)) := by omega
      by_cases h3 : T.length = 3
      · have hG : Hid (R = true) := HR.out.trans (gb_all h3 hall.out)
        have d3 : ((T.length : Int) == 3) = true := by simp [h3]
        clear hall
        have HH3 : Hid (T.length = 3) := h3
        clear h3
        go_wp2
        go_ret
        exact ⟨by rw [hG.out]; rfl, hB0⟩
      · have hG : Hid (R = false) := HR.out.trans (gb_len h3)
        have d3 : ((T.length : Int) == 3) = false := by simp; omega
        clear hall
        go_wp2
        go_ret
        exact ⟨by rw [hG.out]; rfl, hB0⟩

end Go.Proofs.Ytnbaeplbnonhkaa
