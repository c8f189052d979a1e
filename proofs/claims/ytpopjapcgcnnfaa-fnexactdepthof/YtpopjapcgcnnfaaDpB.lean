/- The model's DepthOf. -/
import Derived.Test.YtpopjapcgcnnfaaWsB
namespace Go.Proofs.Ytpopjapcgcnnfaa
open Go.RowKit Plain Sch Wan

set_option maxRecDepth 100000 in
set_option maxHeartbeats 8000000 in
theorem l7Depth_any (T : List Wa) (hg : gf T = true) : ∀ (k : Nat), k < T.length → ∀ (v : Value) (w : World), WasAt w w.heap.size v T →
    Calls Try.prog 86 #[.agg #[v], .int .i64 k] w fun e w' => e = .returned (.int .i64 (dp T k)) ∧ Below w.heap.size w w' := by
  intro k
  induction k using Nat.strongRecOn with
  | _ k ih =>
    intro hk v w hT
    have IH : Hid (∀ j, j < k → ∀ (v : Value) (w : World), WasAt w w.heap.size v T → Calls Try.prog 86 #[.agg #[v], .int .i64 j] w fun e w' => e = .returned (.int .i64 (dp T j)) ∧ Below w.heap.size w w') := fun j hj v w hT => ih j hj (by omega) v w hT
    clear ih
    obtain ⟨_, h20⟩ := gf_len hg
    have HT : Hid (WasAt w w.heap.size v T) := hT
    obtain ⟨ao, cap, rfl, hlc, hcm, hrow, hnm⟩ := hT
    obtain ⟨g, o, rfl, hgb, hci⟩ := hrow k hk
    clear hrow hnm
    unfold maxLen at hcm
    have hk' : (k : Int) < (T.length : Int) := by omega
    have hKC := kind_cases (gf_ok hg k hk)
    have hDA : Hid (isAsk (wa T k).kind = true → dp T k = 1) := fun h => dp_ask hk h
    have hDB : Hid (isBin (wa T k).kind = true → dp T k = max (dp T (wa T k).a.toNat) (dp T (wa T k).b.toNat) + 1) := fun h => dp_bin hg hk h
    have hDN : Hid (isNot (wa T k).kind = true → dp T k = dp T (wa T k).a.toNat + 1) := fun h => dp_not hg hk h
    have hOB : Hid (isBin (wa T k).kind = true → 0 ≤ (wa T k).a ∧ (wa T k).a < (wa T k).b ∧ (wa T k).b < k) := okW_bin (gf_ok hg k hk)
    have hON : Hid (isNot (wa T k).kind = true → 0 ≤ (wa T k).a ∧ (wa T k).a < k) := okW_not (gf_ok hg k hk)
    have hDL : Hid (∀ j, j < T.length → 1 ≤ dp T j ∧ dp T j ≤ 21) := fun j hj => ⟨dp_pos T j hj, by have := dp_le hg j hj; omega⟩
    clear hg
    obtain ⟨R, hR⟩ : ∃ R, R = dp T k := ⟨_, rfl⟩
    rw [← hR] at hDA hDB hDN ⊢
    clear hR
    generalize wa T k = x at hci hKC hDA hDB hDN hOB hON
    obtain ⟨kd, n, m, t, a, b⟩ := x
    dsimp only at hci hKC hDA hDB hDN hOB hON
    obtain ⟨c0, c1, c2, c3, c4, c5⟩ := hci
    dsimp only at c0 c1 c2 c3 c4 c5
    obtain ⟨W2, hW2⟩ : ∃ W, W = (w.alloc (.cells #[.slice (some ⟨g, o, none⟩) T.length cap] 43)).alloc (.cells #[.int .i64 kd, .int .i64 n, .int .i64 m, .string t, .int .i64 a, .int .i64 b] 97) := ⟨_, rfl⟩
    have hB2 : Below w.heap.size w W2 := by rw [hW2]; exact ((Below.refl _ w).alloc (Nat.le_refl _) _).alloc (by simp) _
    have hs2 : Hid (W2.heap.size = w.heap.size + 2) := by show _ = _; rw [hW2]; simp
    have hl2 : w.heap.size + 1 < W2.heap.size := by rw [hs2.out]; omega
    have q2 : W2.cell? ⟨w.heap.size, 0, none⟩ = some (.slice (some ⟨g, o, none⟩) T.length cap) := by rw [hW2]; go_simp
    have z0 : W2.cell? ⟨w.heap.size + 1, 0, none⟩ = some (.int .i64 kd) := by rw [hW2]; go_simp
    have z4 : W2.cell? ⟨w.heap.size + 1, 4, none⟩ = some (.int .i64 a) := by rw [hW2]; go_simp
    have z5 : W2.cell? ⟨w.heap.size + 1, 5, none⟩ = some (.int .i64 b) := by rw [hW2]; go_simp
    rcases hKC with h | h | h
    · have hb := ask_bounds h
      have hF : Hid (R = 1) := hDA.out h
      have hk6 : kd < 6 := by omega
      clear hDA hDB hDN hOB hON
      go_enter Try.func86, Try.ntmps86
      go_wp2
      go_ret
      exact ⟨by rw [hF.out]; rfl, ((Below.refl _ w).alloc (Nat.le_refl _) _).alloc (by simp) _⟩
    · have hb := bin_bounds h
      obtain ⟨ha0, hab, hbk⟩ := hOB.out h
      have hF : Hid (R = max (dp T a.toNat) (dp T b.toNat) + 1) := hDB.out h
      have hk6 : ¬ kd < 6 := by omega
      have hk8 : (kd != 8) = true := by simp; omega
      obtain ⟨x, rfl⟩ := Int.eq_ofNat_of_zero_le ha0
      obtain ⟨y, rfl⟩ := Int.eq_ofNat_of_zero_le (show 0 ≤ b by omega)
      have hdx := hDL.out x (by omega)
      have hdy := hDL.out y (by omega)
      rw [show ((x : Nat) : Int).toNat = x by omega, show ((y : Nat) : Int).toNat = y by omega] at hF
      have CX : Hid (∀ (v : Value) (w : World), WasAt w w.heap.size v T → Calls Try.prog 86 #[.agg #[v], .int .i64 x] w fun e w' => e = .returned (.int .i64 (dp T x)) ∧ Below w.heap.size w w') := IH.out x (by omega)
      have CY : Hid (∀ (v : Value) (w : World), WasAt w w.heap.size v T → Calls Try.prog 86 #[.agg #[v], .int .i64 y] w fun e w' => e = .returned (.int .i64 (dp T y)) ∧ Below w.heap.size w w') := IH.out y (by omega)
      generalize dp T x = dx at hF hdx CX
      generalize dp T y = dy at hF hdy CY
      clear hDA hDB hDN hOB hON hDL IH h hb
      go_enter Try.func86, Try.ntmps86
      go_wp2_with fail
      rw [← hW2]
      clear hW2 c0 c1 c2 c3 c4 c5
      refine (CX.out _ _ (HT.out.below hB2)).mono ?_
      rintro e w3 ⟨rfl, hb3⟩
      have hB3 : Below w.heap.size w w3 := hB2.trans (hb3.mono (by omega))
      have hl3 : w.heap.size + 1 < w3.heap.size := by have := hb3.size; omega
      have q3 := (hb3.cell (p := ⟨w.heap.size, 0, none⟩) (by show w.heap.size < _; omega)).trans q2
      have z0 := (hb3.cell (p := ⟨w.heap.size + 1, 0, none⟩) hl2).trans z0
      have z5 := (hb3.cell (p := ⟨w.heap.size + 1, 5, none⟩) hl2).trans z5
      clear hb3 q2 z4
      go_wp2_with fail
      refine (CY.out _ _ (HT.out.below hB3)).mono ?_
      rintro e w4 ⟨rfl, hb4⟩
      have hB4 : Below w.heap.size w w4 := hB3.trans (hb4.mono (by omega))
      clear hb4
      by_cases hlt : dx < dy
      · have e9 : Hid (R = dy + 1) := by show _ = _; rw [hF.out]; omega
        clear hF
        go_wp2
        go_ret
        exact ⟨by rw [e9.out]; rfl, hB4⟩
      · have e9 : Hid (R = dx + 1) := by show _ = _; rw [hF.out]; omega
        clear hF
        go_wp2
        go_ret
        exact ⟨by rw [e9.out]; rfl, hB4⟩
    · have hb := not_bounds h
      subst hb
      obtain ⟨ha0, hak⟩ := hON.out h
      have hF : Hid (R = dp T a.toNat + 1) := hDN.out h
      obtain ⟨x, rfl⟩ := Int.eq_ofNat_of_zero_le ha0
      have hdx := hDL.out x (by omega)
      rw [show ((x : Nat) : Int).toNat = x by omega] at hF
      have CX : Hid (∀ (v : Value) (w : World), WasAt w w.heap.size v T → Calls Try.prog 86 #[.agg #[v], .int .i64 x] w fun e w' => e = .returned (.int .i64 (dp T x)) ∧ Below w.heap.size w w') := IH.out x (by omega)
      generalize dp T x = dx at hF hdx CX
      clear hDA hDB hDN hOB hON hDL IH h
      go_enter Try.func86, Try.ntmps86
      go_wp2_with fail
      rw [← hW2]
      clear hW2 c0 c1 c2 c3 c4 c5
      refine (CX.out _ _ (HT.out.below hB2)).mono ?_
      rintro e w3 ⟨rfl, hb3⟩
      have hB3 : Below w.heap.size w w3 := hB2.trans (hb3.mono (by omega))
      have z0 := (hb3.cell (p := ⟨w.heap.size + 1, 0, none⟩) hl2).trans z0
      clear hb3 q2 z4 z5
      go_wp2
      go_ret
      exact ⟨by rw [hF.out]; rfl, hB3⟩

set_option maxRecDepth 100000 in
set_option maxHeartbeats 2000000 in
theorem specDepth (T : List Wa) (v : Value) (w : World) (hT : WasAt w w.heap.size v T) :
    Calls Try.prog 47 #[.agg #[v]] w fun e w' => e = .returned (.tuple #[.int .i64 (dpo T).1, .bool (dpo T).2]) ∧ Below w.heap.size w w' := by
  have HT : Hid (WasAt w w.heap.size v T) := hT
  obtain ⟨ao, cap, rfl, hlc, hcm, _⟩ := hT
  unfold maxLen at hcm
  obtain ⟨W1, hW1⟩ : ∃ W, W = w.alloc (.cells #[.slice ao T.length cap] 43) := ⟨_, rfl⟩
  have hB1 : Below w.heap.size w W1 := by rw [hW1]; exact (Below.refl _ w).alloc (Nat.le_refl _) _
  have hs1 : Hid (W1.heap.size = w.heap.size + 1) := by show _ = _; rw [hW1]; simp
  have hl1 : w.heap.size < W1.heap.size := by rw [hs1.out]; omega
  have q1 : W1.cell? ⟨w.heap.size, 0, none⟩ = some (.slice ao T.length cap) := by rw [hW1]; go_simp
  go_enter Try.func47, Try.ntmps47
  go_wp2_with fail
  rw [← hW1]
  clear hW1
  refine (specGoodF T _ _ (HT.out.below hB1)).mono ?_
  rintro e w2 ⟨rfl, hb2⟩
  have hB2 : Below w.heap.size w w2 := hB1.trans (hb2.mono (by omega))
  have q2 := (hb2.cell (p := ⟨w.heap.size, 0, none⟩) hl1).trans q1
  have hl2 : w.heap.size < w2.heap.size := by have := hb2.size; omega
  clear hb2 q1 hs1
  cases hg : gf T with
  | false =>
    have hR : Hid (dpo T = (0, false)) := by show _ = _; unfold dpo; rw [hg]; rfl
    clear hg
    go_wp2
    go_ret2
    exact ⟨by rw [hR.out]; rfl, hB2⟩
  | true =>
    have hR : Hid (dpo T = (dp T (T.length - 1), true)) := by show _ = _; unfold dpo; rw [hg]; rfl
    obtain ⟨h0, h20⟩ := gf_len hg
    have CD : Hid (∀ (v : Value) (w : World), WasAt w w.heap.size v T → Calls Try.prog 86 #[.agg #[v], .int .i64 ((T.length : Int) - 1)] w fun e w' => e = .returned (.int .i64 (dp T (T.length - 1))) ∧ Below w.heap.size w w') := fun v w h => by
      have := l7Depth_any T hg (T.length - 1) (by omega) v w h
      rw [show (((T.length - 1 : Nat)) : Int) = (T.length : Int) - 1 by omega] at this
      exact this
    clear hg
    go_wp2_with fail
    refine (CD.out _ _ (HT.out.below hB2)).mono ?_
    rintro e w3 ⟨rfl, hb3⟩
    have hB3 : Below w.heap.size w w3 := hB2.trans (hb3.mono (by omega))
    clear hb3
    go_wp2
    go_ret2
    exact ⟨by rw [hR.out]; rfl, hB3⟩

end Go.Proofs.Ytpopjapcgcnnfaa
