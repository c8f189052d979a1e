/- The program's GoodFilter. -/
import Derived.Test.YtmjpmmkjfimopaaDoorWfE
import Derived.Deep.DeepCutAuto
namespace Go.Proofs.YtmjpmmkjfimopaaDoor
open Go.RowKit Plain Sch Wan

/-- twenty counters in a block -/
def TmAt (w : World) (g : Nat) (f : Nat → Nat) : Prop := g < w.heap.size ∧ ∀ j, j < 20 → w.cell? ⟨g, j, none⟩ = some (.int .i64 (f j : Int)) ∧ w.frozen? ⟨g, j, none⟩ = false

theorem TmAt.below {w w' : World} {g B : Nat} {f : Nat → Nat} (h : TmAt w g f) (hb : Below B w w') (hg : g < B) : TmAt w' g f :=
  ⟨Nat.lt_of_lt_of_le h.1 hb.size, fun j hj => ⟨(hb.cell (p := ⟨g, j, none⟩) hg).trans (h.2 j hj).1, (hb.frozen (p := ⟨g, j, none⟩) hg).trans (h.2 j hj).2⟩⟩

theorem TmAt.inc {w : World} {g : Nat} {f : Nat → Nat} (h : TmAt w g f) {y : Nat} (hy : y < 20) {f' : Nat → Nat} (hf : ∀ j, f' j = if j = y then f y + 1 else f j) : TmAt (w.setCell ⟨g, y, none⟩ (.int .i64 ((f y : Int) + 1))) g f' := by
  refine ⟨by simpa [World.setCell] using h.1, fun j hj => ⟨?_, ?_⟩⟩
  · rw [hf j]
    by_cases e : j = y
    · subst e
      rw [if_pos rfl, World.cell?_setCell_same _ _ _ (h.2 j hj).1]
      simp
    · rw [if_neg e, World.cell?_setCell_other _ _ _ _ (by intro h; injection h; omega)]
      exact (h.2 j hj).1
  · rw [World.frozen?_setCell]
    exact (h.2 j hj).2

theorem ZAt.setOther {w : World} {v : Value} {l : List Int} {p : Addr} {x : Value} (h : ZAt w w.heap.size v l) (hne : ∀ g o c, v = .slice (some ⟨g, o, none⟩) l.length c → g ≠ p.block) : ZAt (w.setCell p x) (w.setCell p x).heap.size v l := by
  obtain ⟨ao, cap, hv, hm, hc, hr⟩ := h
  refine ⟨ao, cap, hv, hm, hc, fun i y hi => ?_⟩
  obtain ⟨g, o, ha, hg, c⟩ := hr i y hi
  refine ⟨g, o, ha, by simpa [World.setCell] using hg, ?_⟩
  rw [World.cell?_setCell_other]
  · exact c
  · intro e
    have := hne g o cap (by rw [hv, ha])
    rw [e] at this
    exact this rfl

theorem take_count {L : List Int} {q : Nat} {y : Nat} (h : L[q]? = some (y : Int)) (j : Nat) : (L.take (q + 1)).count (j : Int) = if j = y then (L.take q).count (y : Int) + 1 else (L.take q).count (j : Int) := by
  obtain ⟨hq, hx⟩ := List.getElem?_eq_some_iff.1 h
  have e : L.take (q + 1) = L.take q ++ [(y : Int)] := by rw [List.take_add_one, h]; rfl
  rw [e, List.count_append]
  by_cases hj : j = y
  · rw [if_pos hj, hj]; simp
  · rw [if_neg hj]
    have : List.count (j : Int) [(y : Int)] = 0 := List.count_eq_zero.2 (by intro hm; simp at hm; omega)
    omega

set_option maxRecDepth 100000 in
set_option maxHeartbeats 8000000 in
theorem implGoodF (T : List Wa) (v : Value) (w : World) (hT : WasAt w w.heap.size v T) :
    Calls Tryd.prog 21 #[.agg #[v]] w fun e w' => e = .returned (.bool (gf T)) ∧ Below w.heap.size w w' := by
  obtain ⟨ao, cap, rfl, hlc, hcm, hrow, hnm⟩ := hT
  have HROW : Hid (∀ i, i < T.length → ∃ g o, ao = some ⟨g, o, none⟩ ∧ g < w.heap.size ∧ WaIn w g (o + i * 6) (wa T i)) := hrow
  have HNM : Hid (∀ i, i < T.length → (wa T i).text.size ≤ maxLen) := hnm
  clear hrow hnm
  unfold maxLen at hcm
  by_cases h0 : 1 ≤ T.length
  · by_cases h20 : T.length ≤ 20
    · have h0' : ¬ (T.length : Int) < 1 := by omega
      have h0n : ¬ T.length < 1 := by omega
      have h20' : ¬ (20 : Int) < (T.length : Int) := by omega
      obtain ⟨W1, hW1⟩ : ∃ W, W = w.alloc (.cells #[.slice ao T.length cap] 25) := ⟨_, rfl⟩
      have hB1 : Below w.heap.size w W1 := by rw [hW1]; exact (Below.refl _ w).alloc (Nat.le_refl _) _
      have hs1 : Hid (W1.heap.size = w.heap.size + 1) := by show _ = _; rw [hW1]; simp
      have hl1 : w.heap.size < W1.heap.size := by rw [hs1.out]; omega
      have q1 : W1.cell? ⟨w.heap.size, 0, none⟩ = some (.slice ao T.length cap) := by rw [hW1]; go_simp
      obtain ⟨W2, hW2⟩ : ∃ W, W = W1.alloc (.cells #[.int .i64 0, .int .i64 0, .int .i64 0, .int .i64 0, .int .i64 0, .int .i64 0, .int .i64 0, .int .i64 0, .int .i64 0, .int .i64 0, .int .i64 0, .int .i64 0, .int .i64 0, .int .i64 0, .int .i64 0, .int .i64 0, .int .i64 0, .int .i64 0, .int .i64 0, .int .i64 0] 94) := ⟨_, rfl⟩
      have hB2 : Hid (Below (W1.heap.size) W1 W2) := by show Below _ _ _; rw [hW2]; exact (Below.refl _ W1).alloc (Nat.le_refl _) _
      have hT2 : Hid (TmAt W2 (W1.heap.size) (fun j => use (T.take 0) j)) := by
        show TmAt _ _ _
        refine ⟨by rw [hW2]; simp, fun j hj => ?_⟩
        dsimp only
        rw [use_zero, hW2]
        match j, hj with
        | 0, _ | 1, _ | 2, _ | 3, _ | 4, _ | 5, _ | 6, _ | 7, _ | 8, _ | 9, _ | 10, _ | 11, _ | 12, _ | 13, _ | 14, _ | 15, _ | 16, _ | 17, _ | 18, _ | 19, _ => exact ⟨by go_simp, by go_simp⟩
        | n + 20, h => exact absurd h (by omega)
      go_enter Tryd.func21, Tryd.ntmps21
      go_upto_region 3 with fail
      rw [← hW1]
      clear hW1
      go_upto_region 4 with fail
      rw [← hW2]
      clear hW2
      have q2 := (hB2.out.cell (p := ⟨w.heap.size, 0, none⟩) (by show w.heap.size < _; omega)).trans q1
      go_wp2
      go_loopw [22] (fun vi wr => ∃ i : Nat, i ≤ T.length ∧ vi = .int .i64 (i : Int) ∧ Hid (∀ j, j < i → okW (wa T j) j = true) ∧ Hid (TmAt wr (W1.heap.size) (fun j => use (T.take i) j)) ∧ Hid (Below (W1.heap.size) W1 wr))
        (fun vi _ => T.length - (intOf vi).toNat)
      case atStart => exact ⟨0, by omega, rfl, fun j hj => by omega, hT2, hB2⟩
      case round =>
        clear hT2 hB2 q2
        obtain ⟨i, hi, rfl, hall, hTm, hBw⟩ := hrel
        have hB0 : Below w.heap.size w wr := hB1.trans (hBw.out.mono (by omega))
        have hsz : W1.heap.size < wr.heap.size := hTm.out.1
        have hsz' : w.heap.size < wr.heap.size := by omega
        have qr : wr.cell? ⟨w.heap.size, 0, none⟩ = some (.slice ao T.length cap) := (hBw.out.cell (p := ⟨w.heap.size, 0, none⟩) (by show w.heap.size < _; omega)).trans q1
        by_cases hlt : i < T.length
        · have hlt' : (i : Int) < (T.length : Int) := by omega
          obtain ⟨g, o, rfl, hg, hty⟩ := HROW.out i hlt
          have hci := hty.below hB0 hg
          have hni := HNM.out i hlt
          have hOW : Hid (okW (wa T i) i = true → ∀ x ∈ own (wa T i), 0 ≤ x ∧ x < i) := fun h => okW_own h
          have hST : Hid (∀ j, use (T.take (i + 1)) j = use (T.take i) j + (own (wa T i)).count (j : Int)) := fun j => use_step T i j hlt
          have hUL : Hid (∀ j, use (T.take i) j ≤ 2 * i) := fun j => use_le T j i hi
          have hBad : Hid (okW (wa T i) i = false → gf T = false) := fun h => gf_bad hlt h
          have hNx : Hid (okW (wa T i) i = true → ∀ j, j < i + 1 → okW (wa T j) j = true) := fun h j hj => by
            by_cases e : j = i
            · rw [e]; exact h
            · exact hall.out j (by omega)
          have CG : Hid (∀ W : World, Calls Tryd.prog 45 #[.agg #[.int .i64 (wa T i).kind, .int .i64 (wa T i).no, .int .i64 (wa T i).num, .string (wa T i).text, .int .i64 (wa T i).a, .int .i64 (wa T i).b], .int .i64 i] W fun e w' => e = .returned (.bool (okW (wa T i) i)) ∧ Below W.heap.size W w') := fun W => goodWant_any (wa T i) i W hni
          have CO : Hid (∀ W : World, Calls Tryd.prog 46 #[.agg #[.int .i64 (wa T i).kind, .int .i64 (wa T i).no, .int .i64 (wa T i).num, .string (wa T i).text, .int .i64 (wa T i).a, .int .i64 (wa T i).b]] W fun e w' => ∃ v, e = .returned v ∧ ZAt w' w'.heap.size v (own (wa T i)) ∧ (∀ g o c, v = .slice (some ⟨g, o, none⟩) (own (wa T i)).length c → W.heap.size ≤ g) ∧ Below W.heap.size W w') := fun W => ownWants_any (wa T i) W
          have hol : (own (wa T i)).length ≤ 2 := by
            unfold own
            by_cases h1 : isBin (wa T i).kind = true
            · rw [if_pos h1]; simp
            · rw [if_neg h1]
              by_cases h2 : isNot (wa T i).kind = true
              · rw [if_pos h2]; simp
              · rw [if_neg h2]; simp
          generalize own (wa T i) = L at hOW hST CO hol
          generalize okW (wa T i) i = ok at hOW hBad hNx CG
          generalize wa T i = x at hci hni CG CO
          obtain ⟨k, n, m, t, a, b⟩ := x
          dsimp only at hci hni CG CO
          obtain ⟨c0, c1, c2, c3, c4, c5⟩ := hci
          dsimp only at c0 c1 c2 c3 c4 c5
          clear hty hni hall
          obtain ⟨W3, hW3⟩ : ∃ W, W = wr.alloc (.cells #[.int .i64 k, .int .i64 n, .int .i64 m, .string t, .int .i64 a, .int .i64 b] 66) := ⟨_, rfl⟩
          have hA3 : Below wr.heap.size wr W3 := by rw [hW3]; exact (Below.refl _ wr).alloc (Nat.le_refl _) _
          have hs3 : Hid (W3.heap.size = wr.heap.size + 1) := by show _ = _; rw [hW3]; simp
          have z0 : W3.cell? ⟨wr.heap.size, 0, none⟩ = some (.int .i64 k) := by rw [hW3]; go_simp
          have z1 : W3.cell? ⟨wr.heap.size, 1, none⟩ = some (.int .i64 n) := by rw [hW3]; go_simp
          have z2 : W3.cell? ⟨wr.heap.size, 2, none⟩ = some (.int .i64 m) := by rw [hW3]; go_simp
          have z3 : W3.cell? ⟨wr.heap.size, 3, none⟩ = some (.string t) := by rw [hW3]; go_simp
          have z4 : W3.cell? ⟨wr.heap.size, 4, none⟩ = some (.int .i64 a) := by rw [hW3]; go_simp
          have z5 : W3.cell? ⟨wr.heap.size, 5, none⟩ = some (.int .i64 b) := by rw [hW3]; go_simp
          go_wp2_with fail
          rw [← hW3]
          clear hW3 c0 c1 c2 c3 c4 c5
          refine (CG.out _).mono ?_
          rintro e w4 ⟨rfl, hb4⟩
          have hl3 : wr.heap.size < W3.heap.size := by rw [hs3.out]; omega
          have hA4 : Hid (Below wr.heap.size wr w4) := hA3.trans (hb4.mono (by omega))
          have hl4 : wr.heap.size < w4.heap.size := by have := hb4.size; omega
          have z0 := (hb4.cell (p := ⟨wr.heap.size, 0, none⟩) hl3).trans z0
          have z1 := (hb4.cell (p := ⟨wr.heap.size, 1, none⟩) hl3).trans z1
          have z2 := (hb4.cell (p := ⟨wr.heap.size, 2, none⟩) hl3).trans z2
          have z3 := (hb4.cell (p := ⟨wr.heap.size, 3, none⟩) hl3).trans z3
          have z4 := (hb4.cell (p := ⟨wr.heap.size, 4, none⟩) hl3).trans z4
          have z5 := (hb4.cell (p := ⟨wr.heap.size, 5, none⟩) hl3).trans z5
          clear hb4 hs3 hA3 CG
          cases ok with
          | false =>
            have hF : Hid (gf T = false) := hBad.out rfl
            clear hBad hOW hST hNx CO hUL
            go_wp2
            go_ret
            exact ⟨by rw [hF.out]; rfl, hB0.trans (hA4.out.mono (by omega))⟩
          | true =>
            have hOW2 : Hid (∀ x ∈ L, 0 ≤ x ∧ x < i) := hOW.out rfl
            have hNx2 : Hid (∀ j, j < i + 1 → okW (wa T j) j = true) := hNx.out rfl
            clear hOW hBad hNx
            go_wp2_with fail
            refine (CO.out _).mono ?_
            rintro e w5 ⟨v5, rfl, hz5, hfr5, hb5⟩
            have hA5 : Hid (Below wr.heap.size wr w5) := hA4.out.trans (hb5.mono (by omega))
            have hT5 : Hid (TmAt w5 (W1.heap.size) (fun j => use (T.take i) j)) := hTm.out.below hA5.out hsz
            have hB5 : Hid (Below (W1.heap.size) W1 w5) := hBw.out.trans (hA5.out.mono (by omega))
            have HF5 : Hid (∀ g o c, v5 = .slice (some ⟨g, o, none⟩) L.length c → g ≠ W1.heap.size) := fun g o c h e => by have := hfr5 g o c h; omega
            have HZ5 : Hid (ZAt w5 w5.heap.size v5 L) := hz5
            obtain ⟨az, capz, rfl, hlz, hcz, _⟩ := hz5
            unfold maxLen at hcz
            clear hb5 hfr5 z0 z1 z2 z3 z4 z5 CO hA4 hl4 hTm hBw hB0 hA5 qr
            go_wp2
            obtain ⟨wo, rfl⟩ : ∃ W, W = wr := ⟨_, rfl⟩
            go_loopw [34] (fun vi wr => ∃ (q : Nat) (f : Nat → Nat), q ≤ L.length ∧ vi = .int .i64 (q : Int) ∧ Hid (∀ j, f j = use (T.take i) j + (L.take q).count (j : Int)) ∧ Hid (TmAt wr (W1.heap.size) f) ∧ Hid (ZAt wr wr.heap.size (.slice az L.length capz) L) ∧ Hid (Below (W1.heap.size) W1 wr))
              (fun vi _ => L.length - (intOf vi).toNat)
            case atStart => exact ⟨0, fun j => use (T.take i) j, by omega, rfl, fun j => by simp, hT5, HZ5, hB5⟩
            case round =>
              obtain ⟨q, f, hq, rfl, hf, hTq, hZq, hBq⟩ := hrel
              by_cases hlq : q < L.length
              · have hlq' : (q : Int) < (L.length : Int) := by omega
                obtain ⟨x, hx⟩ : ∃ x, L[q]? = some x := ⟨_, List.getElem?_eq_getElem hlq⟩
                obtain ⟨hx0, hxi⟩ := hOW2.out x (List.mem_of_getElem? hx)
                obtain ⟨y, rfl⟩ := Int.eq_ofNat_of_zero_le hx0
                obtain ⟨_, _, hve, _, _, hzr⟩ := hZq.out
                simp only [Value.slice.injEq, true_and] at hve
                obtain ⟨rfl, rfl⟩ := hve
                obtain ⟨gz, oz, rfl, hgz, hcz2⟩ := hzr q _ hx
                have hy20 : y < 20 := by omega
                have hcy := (hTq.out.2 y hy20).1
                have hfy := (hTq.out.2 y hy20).2
                have hfb : (f y : Int) ≤ 100 := by
                  have h1 := hf.out y
                  have h2 := hUL.out y
                  have h3 : (L.take q).count (y : Int) ≤ (L.take q).length := List.count_le_length
                  simp at h3
                  omega
                have hy0 : (0 : Int) ≤ (y : Int) := by omega
                have hy20' : (y : Int) < 20 := by omega
                have hf2 : Hid (∀ j, (fun j => if j = y then f y + 1 else f j) j = use (T.take i) j + (L.take (q + 1)).count (j : Int)) := fun j => by
                  rw [take_count hx j]
                  dsimp only
                  by_cases e : j = y
                  · rw [if_pos e, if_pos e, e, hf.out y]; omega
                  · rw [if_neg e, if_neg e, hf.out j]
                have hTn : Hid (TmAt _ (W1.heap.size) (fun j => if j = y then f y + 1 else f j)) := hTq.out.inc hy20 (f' := fun j => if j = y then f y + 1 else f j) (fun j => rfl)
                have hZn : Hid (ZAt _ _ _ L) := hZq.out.setOther (p := ⟨W1.heap.size, y, none⟩) (x := .int .i64 ((f y : Int) + 1)) HF5.out
                have hBn : Hid (Below (W1.heap.size) W1 (wr.setCell ⟨W1.heap.size, y, none⟩ (.int .i64 ((f y : Int) + 1)))) := hBq.out.setCell (Nat.le_refl _) _
                clear hzr hx hTq hZq hBq hf
                go_wp2
                go_roundw
                case rel => exact ⟨q + 1, fun j => if j = y then f y + 1 else f j, by omega, by go_num, hf2, hTn, hZn, hBn⟩
                case measure => simp [intOf]; omega
              · have hke : q = L.length := by omega
                subst hke
                have hge : ¬ ((L.length : Int) < (L.length : Int)) := by omega
                have hT6 : Hid (TmAt wr (W1.heap.size) (fun j => use (T.take (i + 1)) j)) := by
                  show TmAt _ _ _
                  have e : (fun j => use (T.take (i + 1)) j) = f := funext fun j => by rw [hST.out j, hf.out j, List.take_length]
                  rw [e]
                  exact hTq.out
                clear hf hTq hZq
                go_wp2
                go_roundw
                case rel => exact ⟨i + 1, by omega, by go_num, hNx2, hT6, hBq⟩
                case measure => simp [intOf]; omega
        · have hke : i = T.length := by omega
          subst hke
          have hge : ¬ ((T.length : Int) < (T.length : Int)) := by omega
          have hTe : Hid (∀ j, j < 20 → wr.cell? ⟨W1.heap.size, j, none⟩ = some (.int .i64 (use T j : Int))) := fun j hj => by
            have := (hTm.out.2 j hj).1
            rw [List.take_length] at this
            exact this
          clear hTm
          go_wp2
          go_loop [49] (fun vi => ∃ q : Nat, q ≤ T.length - 1 ∧ vi = .int .i64 (q : Int) ∧ Hid (∀ j, j < q → use T j = 1))
            (fun vi => T.length - (intOf vi).toNat)
          case atStart => exact ⟨0, by omega, rfl, fun j hj => by omega⟩
          case round =>
            obtain ⟨q, hq, rfl, hu⟩ := hrel
            by_cases hlq : q < T.length - 1
            · have hlq' : (q : Int) < (T.length : Int) - 1 := by omega
              have hcq := hTe.out q (by omega)
              have hq20 : (q : Int) < 20 := by omega
              by_cases h1 : use T q = 1
              · have hu2 : Hid (∀ j, j < q + 1 → use T j = 1) := fun j hj => by
                  by_cases e : j = q
                  · rw [e]; exact h1
                  · exact hu.out j (by omega)
                rw [h1] at hcq
                clear h1 hu
                go_wp2
                go_round
                case rel => exact ⟨q + 1, by omega, by go_num, hu2⟩
                case measure => simp [intOf]; omega
              · have hF : Hid (gf T = false) := gf_uses hlq h1
                have h1' : (((use T q : Nat) : Int) != 1) = true := by simp; omega
                generalize use T q = u at hcq h1 h1'
                clear h1
                go_wp2
                go_ret
                exact ⟨by rw [hF.out]; rfl, hB0⟩
            · have hke : (q : Int) = (T.length : Int) - 1 := by omega
              have hge2 : ¬ ((q : Int) < (T.length : Int) - 1) := by omega
              have hF : Hid (gf T = true) := by
                show gf T = true
                simp only [gf, Bool.and_eq_true, decide_eq_true_eq]
                exact ⟨⟨⟨h0, h20⟩, hall.out⟩, fun j hj => hu.out j (by omega)⟩
              clear hke hu
              go_wp2
              go_ret
              exact ⟨by rw [hF.out]; rfl, hB0⟩
    · have hR : gf T = false := by unfold gf; simp [h20]
      rw [hR]
      have h0' : ¬ (T.length : Int) < 1 := by omega
      have h0n : ¬ T.length < 1 := by omega
      have h20' : (20 : Int) < (T.length : Int) := by omega
      have h20n : 20 < T.length := by omega
      clear hR h20 h0
      go_enter Tryd.func21, Tryd.ntmps21
      go_wp2
      go_ret
      exact ⟨rfl, (Below.refl _ w).alloc (Nat.le_refl _) _⟩
  · have hR : gf T = false := by unfold gf; simp [h0]
    rw [hR]
    have h0' : (T.length : Int) < 1 := by omega
    have h0n : T.length < 1 := by omega
    clear hR h0
    go_enter Tryd.func21, Tryd.ntmps21
    go_wp2
    go_ret
    exact ⟨rfl, (Below.refl _ w).alloc (Nat.le_refl _) _⟩

end Go.Proofs.YtmjpmmkjfimopaaDoor
