/- The model's l9Point, l9Has, BoxHas. -/
import Derived.Test.YtnbaeplbnonhkaaBxV
import Derived.Test.YtnbaeplbnonhkaaBxJ
namespace Go.Proofs.Ytnbaeplbnonhkaa
open Go.RowKit Plain Sch Bxs

theorem dup_sd (p : List Int) (i : Nat) (x : Int) (h : p[i]? = some x) : sd (dup p) i = ⟨x, x⟩ := by
  unfold sd dup
  rw [List.getD, List.getElem?_map, h]
  rfl

set_option maxRecDepth 100000 in
set_option maxHeartbeats 4000000 in
theorem l9Point_any (p : List Int) (v : Value) (w : World) (hp : ZAt w w.heap.size v p) :
    Calls Try.prog 53 #[v] w fun e w' => e = .returned (.bool (gb (dup p))) ∧ w' = w := by
  obtain ⟨ao, cap, rfl, hlc, hcm, hrow⟩ := hp
  have hcm' : cap ≤ 9223372036854775807 := by unfold maxLen at hcm; omega
  have HROW : Hid (∀ i (x : Int), p[i]? = some x → ∃ g o, ao = some ⟨g, o, none⟩ ∧ g < w.heap.size ∧ w.cell? ⟨g, o + i, none⟩ = some (.int .i64 x)) := hrow
  obtain ⟨R, hR⟩ : ∃ R, R = gb (dup p) := ⟨_, rfl⟩
  rw [← hR]
  have HR : Hid (R = gb (dup p)) := hR
  clear hR hrow
  go_enter Try.func53, Try.ntmps53
  go_wp2
  go_loopw [7] (fun vi wr => ∃ (k : Nat), k ≤ p.length ∧ vi = .int .i64 (k : Int) ∧ Hid (∀ j, j < k → okS (sd (dup p) j) = true) ∧ wr = w)
    (fun vi _ => p.length - (intOf vi).toNat)
  case atStart => exact ⟨0, by omega, rfl, fun j hj => by omega, rfl⟩
  case round =>
    obtain ⟨k, hk, rfl, hall, rfl⟩ := hrel
    by_cases hlt : k < p.length
    · have hltI : (k : Int) < (p.length : Int) := by omega
      obtain ⟨x, hx⟩ : ∃ x, p[k]? = some x := ⟨_, List.getElem?_eq_getElem hlt⟩
      obtain ⟨g, o, hao, hg, c⟩ := HROW.out k x hx
      subst hao
      have hxz : Hid (sd (dup p) k = ⟨x, x⟩) := dup_sd p k x hx
      obtain ⟨b, hb⟩ : ∃ b, b = decide ((-1000 : Int) ≤ x ∧ x ≤ 1000) := ⟨_, rfl⟩
      have HBD : Hid (b = decide ((-1000 : Int) ≤ x ∧ x ≤ 1000)) := hb
      clear hb hx
      go_wp2_with fail
      refine (l1In_bx x (-1000) 1000 _).mono ?_
      rintro e w1 ⟨rfl, rfl⟩
      rw [← HBD.out]
      cases b
      · have hn : Hid (R = false) := HR.out.trans (gb_bad (i := k) (by rw [dup_len]; exact hlt) (by
          rw [hxz.out, Bool.eq_false_iff]; intro hh
          rw [okS_iff] at hh
          have h2 := HBD.out
          rw [eq_comm, decide_eq_false_iff_not] at h2
          exact h2 ⟨hh.1, hh.2.2⟩))
        clear hall
        go_wp2
        go_ret
        exact ⟨by rw [hn.out]; rfl, rfl⟩
      · have hN : Hid (∀ j, j < k + 1 → okS (sd (dup p) j) = true) := fun j hj => by
          by_cases e : j = k
          · rw [e, hxz.out, okS_iff]
            have h2 := HBD.out
            rw [eq_comm, decide_eq_true_eq] at h2
            exact ⟨h2.1, Int.le_refl _, h2.2⟩
          · exact hall.out j (by omega)
        clear hall
        go_wp2
        go_roundw
        case rel => exact ⟨k + 1, by omega, by go_num, hN, trivial⟩
        case measure => simp [intOf]; omega
    · have hke : k = p.length := by omega
      subst hke
      have hge : ¬ ((p.length : Int) < (p.length : Int)) := by omega
      by_cases h3 : p.length = 3
      · have hG : Hid (R = true) := HR.out.trans (gb_all (by rw [dup_len]; exact h3) (by rw [dup_len]; exact hall.out))
        have d3 : ((p.length : Int) == 3) = true := by simp [h3]
        clear hall h3
        go_wp2
        go_ret
        exact ⟨by rw [hG.out]; rfl, rfl⟩
      · have hG : Hid (R = false) := HR.out.trans (gb_len (by rw [dup_len]; exact h3))
        have d3 : ((p.length : Int) == 3) = false := by simp; omega
        clear hall
        go_wp2
        go_ret
        exact ⟨by rw [hG.out]; rfl, rfl⟩

set_option maxRecDepth 100000 in
set_option maxHeartbeats 4000000 in
theorem l9Has_any (x : Bx) (p : List Int) (v u : Value) (w : World) (hT : SdsAt w w.heap.size v x.list) (hp : ZAt w w.heap.size u p) (h3 : p.length = 3) :
    Calls Try.prog 54 #[.agg #[v], u] w fun e w' => e = .returned (.bool (cov x (bx (dup p)))) ∧ Below w.heap.size w w' := by
  have hyl : dup p = (bx (dup p)).list := list3 (by rw [dup_len]; exact h3)
  obtain ⟨ao, cap, rfl, hlc, hcm, hrow⟩ := hT
  obtain ⟨bo, dap, rfl, hld, hdm, hrow2⟩ := hp
  simp only [len_list] at *
  unfold maxLen at hcm hdm
  have HROW : Hid (∀ i, i < 3 → ∃ g o, ao = some ⟨g, o, none⟩ ∧ g < w.heap.size ∧ SdIn w g (o + i * 2) (sd x.list i)) := hrow
  have HROW2 : Hid (∀ i, i < 3 → ∃ z g o, sd (bx (dup p)).list i = ⟨z, z⟩ ∧ bo = some ⟨g, o, none⟩ ∧ g < w.heap.size ∧ w.cell? ⟨g, o + i, none⟩ = some (.int .i64 z)) := fun i hi => by
    obtain ⟨z, hz⟩ : ∃ z, p[i]? = some z := ⟨_, List.getElem?_eq_getElem (by omega)⟩
    obtain ⟨g, o, h1, h2, h4⟩ := hrow2 i z hz
    exact ⟨z, g, o, by rw [← hyl]; exact dup_sd p i z hz, h1, h2, h4⟩
  clear hrow hrow2 hyl
  generalize bx (dup p) = y at HROW2
  have hpl : Hid (p.length = 3) := h3
  have hpl3 : 3 ≤ p.length := by omega
  have hpm : p.length ≤ 3 := by omega
  clear h3
  obtain ⟨R, hR⟩ : ∃ R, R = cov x y := ⟨_, rfl⟩
  rw [← hR]
  have HR : Hid (R = cov x y) := hR
  clear hR
  obtain ⟨W1, hW1⟩ : ∃ W, W = w.alloc (.cells #[.slice ao 3 cap] 25) := ⟨_, rfl⟩
  have hB1 : Below w.heap.size w W1 := by rw [hW1]; exact (Below.refl _ w).alloc (Nat.le_refl _) _
  have hs1 : Hid (W1.heap.size = w.heap.size + 1) := by show _ = _; rw [hW1]; simp
  have q0 : W1.cell? ⟨w.heap.size, 0, none⟩ = some (.slice ao 3 cap) := by rw [hW1]; go_simp
  go_enter Try.func54, Try.ntmps54
  go_upto_region 1 with fail
  rw [← hW1]
  clear hW1
  go_wp2
  go_loopw [10] (fun vi wr => ∃ i : Nat, i ≤ 3 ∧ vi = .int .i64 (i : Int) ∧ Hid (∀ j, j < i → cov1 (sd x.list j) (sd y.list j) = true) ∧ Hid (Below W1.heap.size W1 wr))
    (fun vi _ => 3 - (intOf vi).toNat)
  case atStart => exact ⟨0, by omega, rfl, fun j hj => by omega, Below.refl _ _⟩
  case round =>
    obtain ⟨i, hi, rfl, hall, hBw⟩ := hrel
    have hB0 : Below w.heap.size w wr := hB1.trans (hBw.out.mono (by have := hs1.out; omega))
    have hsz : W1.heap.size ≤ wr.heap.size := hBw.out.size
    have hz1 := hs1.out
    by_cases hlt : i < 3
    · have hlt' : (i : Int) < 3 := by omega
      have hltp : (i : Int) < (p.length : Int) := by omega
      obtain ⟨g, o, rfl, hg, hty⟩ := HROW.out i hlt
      obtain ⟨z, g2, o2, hz, rfl, hg2, hty2⟩ := HROW2.out i hlt
      have hci := hty.below hB0 hg
      have hcz : Hid (wr.cell? ⟨g2, o2 + i, none⟩ = some (.int .i64 z)) := (hB0.cell (p := ⟨g2, o2 + i, none⟩) hg2).trans hty2
      have HZ : Hid (sd y.list i = ⟨z, z⟩) := hz
      obtain ⟨s, hs⟩ : ∃ s, sd x.list i = s := ⟨_, rfl⟩
      have HS : Hid (sd x.list i = s) := hs
      rw [hs] at hci
      clear hs hty hty2 hz
      obtain ⟨lo, hi2⟩ := s
      obtain ⟨c0, c1⟩ := hci
      dsimp only at c0 c1
      obtain ⟨W3, hW3⟩ : ∃ W, W = wr.alloc (.cells #[.int .i64 lo, .int .i64 hi2] 58) := ⟨_, rfl⟩
      have hA3 : Below wr.heap.size wr W3 := by rw [hW3]; exact (Below.refl _ wr).alloc (Nat.le_refl _) _
      have z0 : W3.cell? ⟨wr.heap.size, 0, none⟩ = some (.int .i64 lo) := by rw [hW3]; go_simp
      have z1 : W3.cell? ⟨wr.heap.size, 1, none⟩ = some (.int .i64 hi2) := by rw [hW3]; go_simp
      have hl3 : wr.heap.size < W3.heap.size := by rw [hW3]; simp
      have hB3 : Hid (Below W1.heap.size W1 W3) := hBw.out.trans (hA3.mono hsz)
      have e0 := (hA3.cell (p := ⟨g2, o2 + i, none⟩) (by show g2 < _; omega)).trans hcz.out
      have hg3 : g2 < W3.heap.size := by omega
      obtain ⟨b, hb⟩ : ∃ b, b = decide (lo ≤ z ∧ z ≤ hi2) := ⟨_, rfl⟩
      have HBD : Hid (b = decide (lo ≤ z ∧ z ≤ hi2)) := hb
      have CI : Hid (∀ W : World, Calls Try.prog 41 #[.int .i64 z, .int .i64 lo, .int .i64 hi2] W fun e w' => e = .returned (.bool b) ∧ w' = W) := fun W => by rw [hb]; exact l1In_bx z lo hi2 W
      clear hb
      go_upto_region 4 with fail
      rw [← hW3]
      clear hW3 c0 c1 hBw hcz
      have hBN : Hid (∀ n, Below W1.heap.size W1 (W3.drewN n)) := fun n => below_drewN hB3.out
      cases b with
      | false =>
        have hF : Hid (R = false) := HR.out.trans (cov_bad hlt (by
          rw [HS.out, HZ.out]
          have h2 := HBD.out
          rw [eq_comm, decide_eq_false_iff_not] at h2
          rw [Bool.eq_false_iff]
          intro hh
          unfold cov1 at hh
          simp at hh
          exact h2 hh))
        clear hall hB3
        go_quiet ((go_at_call 41; exact Calls.quiet_of_same (CI.out _)))
        go_wp2
        go_ret
        exact ⟨by rw [hF.out]; rfl, hB1.trans ((hBN.out _).mono (by omega))⟩
      | true =>
        have hN : Hid (∀ j, j < i + 1 → cov1 (sd x.list j) (sd y.list j) = true) := fun j hj => by
          by_cases e : j = i
          · rw [e, HS.out, HZ.out]
            have h2 := HBD.out
            rw [eq_comm, decide_eq_true_eq] at h2
            unfold cov1
            simpa using h2
          · exact hall.out j (by omega)
        clear hall hB3
        go_quiet ((go_at_call 41; exact Calls.quiet_of_same (CI.out _)))
        go_wp2
        go_roundw
        case rel => exact ⟨i + 1, by omega, by go_num, hN, hBN.out _⟩
        case measure => simp [intOf]; omega
    · have hke : i = 3 := by omega
      subst hke
      have hG : Hid (R = true) := HR.out.trans (cov_all hall.out)
      clear hall
      go_wp2
      go_ret
      exact ⟨by rw [hG.out]; rfl, hB0⟩

end Go.Proofs.Ytnbaeplbnonhkaa
