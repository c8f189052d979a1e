/- The model's l9Covers, BoxCovers. -/
import Derived.Test.YtnbaeplbnonhkaaBxS
import Derived.Test.YtnbaeplbnonhkaaBxD
namespace Go.Proofs.Ytnbaeplbnonhkaa
open Go.RowKit Plain Sch Bxs

theorem cov_bad {x y : Bx} {i : Nat} (hi : i < 3) (h : cov1 (sd x.list i) (sd y.list i) = false) : cov x y = false := by
  unfold cov
  match i, hi with
  | 0, _ => have h' : cov1 x.a y.a = false := h
            rw [h']; rfl
  | 1, _ => have h' : cov1 x.b y.b = false := h
            rw [h']; simp
  | 2, _ => have h' : cov1 x.c y.c = false := h
            rw [h']; simp

theorem cov_all {x y : Bx} (h : ∀ i, i < 3 → cov1 (sd x.list i) (sd y.list i) = true) : cov x y = true := by
  have h0 : cov1 x.a y.a = true := h 0 (by omega)
  have h1 : cov1 x.b y.b = true := h 1 (by omega)
  have h2 : cov1 x.c y.c = true := h 2 (by omega)
  unfold cov
  rw [h0, h1, h2]
  rfl

theorem len_list (x : Bx) : x.list.length = 3 := rfl

set_option maxRecDepth 100000 in
set_option maxHeartbeats 4000000 in
theorem l9Covers_any (x y : Bx) (v u : Value) (w : World) (hT : SdsAt w w.heap.size v x.list) (hU : SdsAt w w.heap.size u y.list) :
    Calls Try.prog 35 #[.agg #[v], .agg #[u]] w fun e w' => e = .returned (.bool (cov x y)) ∧ Below w.heap.size w w' := by
  obtain ⟨ao, cap, rfl, hlc, hcm, hrow⟩ := hT
  obtain ⟨bo, dap, rfl, hld, hdm, hrow2⟩ := hU
  simp only [len_list] at *
  unfold maxLen at hcm hdm
  have HROW : Hid (∀ i, i < 3 → ∃ g o, ao = some ⟨g, o, none⟩ ∧ g < w.heap.size ∧ SdIn w g (o + i * 2) (sd x.list i)) := hrow
  have HROW2 : Hid (∀ i, i < 3 → ∃ g o, bo = some ⟨g, o, none⟩ ∧ g < w.heap.size ∧ SdIn w g (o + i * 2) (sd y.list i)) := hrow2
  clear hrow hrow2
  obtain ⟨R, hR⟩ : ∃ R, R = cov x y := ⟨_, rfl⟩
  rw [← hR]
  have HR : Hid (R = cov x y) := hR
  clear hR
  obtain ⟨W1, hW1⟩ : ∃ W, W = (w.alloc (.cells #[.slice ao 3 cap] 25)).alloc (.cells #[.slice bo 3 dap] 25) := ⟨_, rfl⟩
  have hB1 : Below w.heap.size w W1 := by rw [hW1]; exact ((Below.refl _ w).alloc (Nat.le_refl _) _).alloc (by simp) _
  have hs1 : Hid (W1.heap.size = w.heap.size + 2) := by show _ = _; rw [hW1]; simp
  have q0 : Hid (W1.cell? ⟨w.heap.size, 0, none⟩ = some (.slice ao 3 cap)) := by show _ = _; rw [hW1]; go_simp
  have q1 : W1.cell? ⟨w.heap.size + 1, 0, none⟩ = some (.slice bo 3 dap) := by rw [hW1]; go_simp
  go_enter Try.func35, Try.ntmps35
  go_upto_region 1 with fail
  rw [← hW1]
  clear hW1
  go_wp2
  go_loopw [10] (fun vi wr => ∃ i : Nat, i ≤ 3 ∧ vi = .int .i64 (i : Int) ∧ Hid (∀ j, j < i → cov1 (sd x.list j) (sd y.list j) = true) ∧ Hid (Below W1.heap.size W1 wr))
    (fun vi _ => 3 - (intOf vi).toNat)
  case atStart => exact ⟨0, by omega, rfl, fun j hj => by omega, Below.refl _ _⟩
  case round =>
    obtain ⟨i, hi, rfl, hall, hBw⟩ := hrel
    have hB0 : Below w.heap.size w wr := hB1.trans (hBw.out.mono (by have := hs1.out; omega))
    have hsz : W1.heap.size ≤ wr.heap.size := hBw.out.size
    have hz1 := hs1.out
    by_cases hlt : i < 3
    · have hlt' : (i : Int) < 3 := by omega
      obtain ⟨g, o, rfl, hg, hty⟩ := HROW.out i hlt
      obtain ⟨g2, o2, rfl, hg2, hty2⟩ := HROW2.out i hlt
      have hci := hty2.below hB0 hg2
      have hcx : Hid (SdIn wr g (o + i * 2) (sd x.list i)) := hty.below hB0 hg
      obtain ⟨s, hs⟩ : ∃ s, sd y.list i = s := ⟨_, rfl⟩
      have HS : Hid (sd y.list i = s) := hs
      rw [hs] at hci
      obtain ⟨t, ht⟩ : ∃ t, sd x.list i = t := ⟨_, rfl⟩
      have HTT : Hid (sd x.list i = t) := ht
      rw [ht] at hcx
      clear hs hty ht hty2
      obtain ⟨lo, hi2⟩ := s
      obtain ⟨tl, th⟩ := t
      obtain ⟨c0, c1⟩ := hci
      dsimp only at c0 c1
      obtain ⟨W3, hW3⟩ : ∃ W, W = wr.alloc (.cells #[.int .i64 lo, .int .i64 hi2] 58) := ⟨_, rfl⟩
      have hA3 : Below wr.heap.size wr W3 := by rw [hW3]; exact (Below.refl _ wr).alloc (Nat.le_refl _) _
      have z0 : W3.cell? ⟨wr.heap.size, 0, none⟩ = some (.int .i64 lo) := by rw [hW3]; go_simp
      have z1 : W3.cell? ⟨wr.heap.size, 1, none⟩ = some (.int .i64 hi2) := by rw [hW3]; go_simp
      have hl3 : wr.heap.size < W3.heap.size := by rw [hW3]; simp
      have hB3 : Hid (Below W1.heap.size W1 W3) := hBw.out.trans (hA3.mono hsz)
      have q3 : W3.cell? ⟨w.heap.size, 0, none⟩ = some (.slice (some ⟨g, o, none⟩) 3 cap) := (hB3.out.cell (p := ⟨w.heap.size, 0, none⟩) (by show w.heap.size < _; omega)).trans q0.out
      obtain ⟨e0, e1⟩ := hcx.out.below hA3 (by omega)
      dsimp only at e0 e1
      have hg3 : g < W3.heap.size := by omega
      have hw3 : w.heap.size < W3.heap.size := by omega
      go_upto_region 4 with fail
      rw [← hW3]
      clear hW3 c0 c1 hBw hcx
      by_cases k1 : lo < tl
      · have hF : Hid (R = false) := HR.out.trans (cov_bad hlt (by rw [HS.out, HTT.out]; unfold cov1; simp; omega))
        clear hall
        go_quiet (fail)
        go_wp2
        go_ret
        exact ⟨by rw [hF.out]; rfl, hB1.trans ((below_drewN hB3.out).mono (by omega))⟩
      · by_cases k2 : th < hi2
        · have hF : Hid (R = false) := HR.out.trans (cov_bad hlt (by rw [HS.out, HTT.out]; unfold cov1; simp; omega))
          clear hall
          go_quiet (fail)
          go_wp2
          go_ret
          exact ⟨by rw [hF.out]; rfl, hB1.trans ((below_drewN hB3.out).mono (by omega))⟩
        · have hN : Hid (∀ j, j < i + 1 → cov1 (sd x.list j) (sd y.list j) = true) := fun j hj => by
            by_cases e : j = i
            · rw [e, HS.out, HTT.out]; unfold cov1; simp; omega
            · exact hall.out j (by omega)
          have hBN : Hid (∀ n, Below W1.heap.size W1 (W3.drewN n)) := fun n => below_drewN hB3.out
          clear hall hB3
          go_quiet (fail)
          go_wp2
          go_roundw
          case rel => exact ⟨i + 1, by omega, by go_num, hN, hBN.out _⟩
          case measure => simp [intOf]; omega
    · have hke : i = 3 := by omega
      subst hke
      have hG : Hid (R = true) := HR.out.trans (cov_all hall.out)
      clear hall
      go_wp2
      go_ret
      exact ⟨by rw [hG.out]; rfl, hB0⟩

set_option maxRecDepth 100000 in
set_option maxHeartbeats 4000000 in
theorem specCov (T U : List Sd) (v u : Value) (w : World) (hT : SdsAt w w.heap.size v T) (hU : SdsAt w w.heap.size u U) :
    Calls Try.prog 7 #[.agg #[v], .agg #[u]] w fun e w' => e = .returned (.tuple #[.bool (cvo T U), .bool (gb T && gb U)]) ∧ Below w.heap.size w w' := by
  have HT : Hid (SdsAt w w.heap.size v T) := hT
  have HU : Hid (SdsAt w w.heap.size u U) := hU
  obtain ⟨ao, cap, rfl, _⟩ := hT
  obtain ⟨bo, dap, rfl, _⟩ := hU
  obtain ⟨W1, hW1⟩ : ∃ W, W = (w.alloc (.cells #[.slice ao T.length cap] 25)).alloc (.cells #[.slice bo U.length dap] 25) := ⟨_, rfl⟩
  have hB1 : Below w.heap.size w W1 := by rw [hW1]; exact ((Below.refl _ w).alloc (Nat.le_refl _) _).alloc (by simp) _
  have hs1 : Hid (W1.heap.size = w.heap.size + 2) := by show _ = _; rw [hW1]; simp
  have q0 : W1.cell? ⟨w.heap.size, 0, none⟩ = some (.slice ao T.length cap) := by rw [hW1]; go_simp
  have q1 : W1.cell? ⟨w.heap.size + 1, 0, none⟩ = some (.slice bo U.length dap) := by rw [hW1]; go_simp
  have hz1 := hs1.out
  obtain ⟨R, hR⟩ : ∃ R, R = cvo T U := ⟨_, rfl⟩
  obtain ⟨G, hG⟩ : ∃ G, G = (gb T && gb U) := ⟨_, rfl⟩
  rw [← hR, ← hG]
  have HR : Hid (R = cvo T U) := hR
  have HG : Hid (G = (gb T && gb U)) := hG
  clear hR hG hs1
  go_enter Try.func7, Try.ntmps7
  go_upto_region 1 with fail
  rw [← hW1]
  clear hW1
  go_wp2_with fail
  refine (specGoodB T _ _ (HT.out.below hB1)).mono ?_
  rintro e w2 ⟨rfl, hb2⟩
  have hB2 : Below w.heap.size w w2 := hB1.trans (hb2.mono hB1.size)
  have hz2 := hb2.size
  have q0 := (hb2.cell (p := ⟨w.heap.size, 0, none⟩) (by show w.heap.size < _; omega)).trans q0
  have q1 := (hb2.cell (p := ⟨w.heap.size + 1, 0, none⟩) (by show w.heap.size + 1 < _; omega)).trans q1
  clear hb2
  by_cases h1 : gb T = true
  · rw [h1]
    go_wp2_with fail
    refine (specGoodB U _ _ (HU.out.below hB2)).mono ?_
    rintro e w3 ⟨rfl, hb3⟩
    have hB3 : Below w.heap.size w w3 := hB2.trans (hb3.mono hB2.size)
    have q0 := (hb3.cell (p := ⟨w.heap.size, 0, none⟩) (by show w.heap.size < _; omega)).trans q0
    have q1 := (hb3.cell (p := ⟨w.heap.size + 1, 0, none⟩) (by show w.heap.size + 1 < _; omega)).trans q1
    clear hb3
    by_cases h2 : gb U = true
    · have HC : Hid (R = cov (bx T) (bx U) ∧ G = true) := ⟨by rw [HR.out]; unfold cvo; rw [h1, h2]; rfl, by rw [HG.out, h1, h2]; rfl⟩
      have eT := (gb_good h1).1
      have eU := (gb_good h2).1
      have HT3 : Hid (SdsAt w3 w3.heap.size (.slice ao T.length cap) (bx T).list) := by rw [← eT]; exact HT.out.below hB3
      have HU3 : Hid (SdsAt w3 w3.heap.size (.slice bo U.length dap) (bx U).list) := by rw [← eU]; exact HU.out.below hB3
      rw [h2]
      clear h1 h2 eT eU
      go_wp2_with fail
      refine (l9Covers_any (bx T) (bx U) _ _ _ HT3.out HU3.out).mono ?_
      rintro e w4 ⟨rfl, hb4⟩
      have hB4 : Below w.heap.size w w4 := hB3.trans (hb4.mono hB3.size)
      generalize cov (bx T) (bx U) = c at HC
      go_wp2
      go_ret2
      exact ⟨by rw [HC.out.1, HC.out.2]; rfl, hB4⟩
    · have h2' : gb U = false := by simpa using h2
      have HC : Hid (R = false ∧ G = false) := ⟨by rw [HR.out]; unfold cvo; rw [h1, h2']; rfl, by rw [HG.out, h1, h2']; rfl⟩
      rw [h2']
      clear h1 h2 h2'
      go_wp2
      go_ret2
      exact ⟨by rw [HC.out.1, HC.out.2]; rfl, hB3⟩
  · have h1' : gb T = false := by simpa using h1
    have HC : Hid (R = false ∧ G = false) := ⟨by rw [HR.out]; unfold cvo; rw [h1']; rfl, by rw [HG.out, h1']; rfl⟩
    rw [h1']
    clear h1 h1'
    go_wp2
    go_ret2
    exact ⟨by rw [HC.out.1, HC.out.2]; rfl, hB2⟩

end Go.Proofs.Ytnbaeplbnonhkaa
