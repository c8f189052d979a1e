/- The model's GoodFilter. -/
import Derived.Test.YtmjpmmkjfimopaaDoorWsA
import Derived.Test.YtmjpmmkjfimopaaDoorHd
import Derived.Laws.OwnMore
import Derived.Deep.DeepCutAuto
namespace Go.Proofs.YtmjpmmkjfimopaaDoor
open Go.RowKit Plain Sch Wan

/-- n counters in a block -/
def UsAt (w : World) (g N : Nat) (f : Nat → Nat) : Prop := g < w.heap.size ∧ ∀ j, j < N → w.cell? ⟨g, j, none⟩ = some (.int .i64 (f j : Int)) ∧ w.frozen? ⟨g, j, none⟩ = false

theorem UsAt.below {w w' : World} {g N B : Nat} {f : Nat → Nat} (h : UsAt w g N f) (hb : Below B w w') (hg : g < B) : UsAt w' g N f :=
  ⟨Nat.lt_of_lt_of_le h.1 hb.size, fun j hj => ⟨(hb.cell (p := ⟨g, j, none⟩) hg).trans (h.2 j hj).1, (hb.frozen (p := ⟨g, j, none⟩) hg).trans (h.2 j hj).2⟩⟩

theorem UsAt.inc {w : World} {g N : Nat} {f : Nat → Nat} (h : UsAt w g N f) {y : Nat} (hy : y < N) {f' : Nat → Nat} (hf : ∀ j, f' j = if j = y then f y + 1 else f j) : UsAt (w.setCell ⟨g, y, none⟩ (.int .i64 ((f y : Int) + 1))) g N f' := by
  refine ⟨by simpa [World.setCell] using h.1, fun j hj => ⟨?_, ?_⟩⟩
  · rw [hf j]
    by_cases e : j = y
    · subst e
      rw [if_pos rfl, World.cell?_setCell_same _ _ _ (h.2 j hj).1]
      simp
    · rw [if_neg e, World.cell?_setCell_other _ _ _ _ (by intro h; injection h; omega)]
      exact (h.2 j hj).1
  · rw [World.frozen?_setCell]
    exact (h.2 j hj).2

theorem use_bin {T : List Wa} {i : Nat} (h : i < T.length) (hb : isBin (wa T i).kind = true) {x y : Nat} (ha : (wa T i).a = x) (hbb : (wa T i).b = y) (hxy : x < y) (j : Nat) :
    use (T.take (i + 1)) j = if j = y then (if y = x then use (T.take i) x + 1 else use (T.take i) y) + 1 else (if j = x then use (T.take i) x + 1 else use (T.take i) j) := by
  rw [use_step T i j h, own_bin hb, ha, hbb]
  have e : List.count (j : Int) [(x : Int), (y : Int)] = (if j = x then 1 else 0) + (if j = y then 1 else 0) := by
    by_cases h1 : j = x
    · have h2 : ¬ j = y := by omega
      rw [if_pos h1, if_neg h2, h1]
      have : ¬ (x : Int) = (y : Int) := by omega
      simp [List.count_cons]; omega
    · rw [if_neg h1]
      by_cases h2 : j = y
      · rw [if_pos h2, h2]; simp [List.count_cons]; omega
      · rw [if_neg h2]; simp [List.count_cons]; omega
  rw [e]
  by_cases h1 : j = x
  · have h2 : ¬ j = y := by omega
    rw [if_pos h1, if_neg h2, if_neg h2, if_pos h1, h1]
  · rw [if_neg h1]
    by_cases h2 : j = y
    · rw [if_pos h2, if_pos h2, if_neg (by omega), h2]
    · rw [if_neg h2, if_neg h2, if_neg h1]; omega

theorem use_not {T : List Wa} {i : Nat} (h : i < T.length) (hb : isNot (wa T i).kind = true) {x : Nat} (ha : (wa T i).a = x) (j : Nat) :
    use (T.take (i + 1)) j = if j = x then use (T.take i) x + 1 else use (T.take i) j := by
  rw [use_step T i j h, own_not hb, ha]
  by_cases h1 : j = x
  · rw [if_pos h1, h1]; simp
  · rw [if_neg h1]; simp [List.count_cons]; omega

theorem use_ask {T : List Wa} {i : Nat} (h : i < T.length) (hb : isAsk (wa T i).kind = true) (j : Nat) : use (T.take (i + 1)) j = use (T.take i) j := by
  rw [use_step T i j h, own_ask hb]; simp

theorem okW_bin {x : Wa} {i : Nat} (h : okW x i = true) (hb : isBin x.kind = true) : 0 ≤ x.a ∧ x.a < x.b ∧ x.b < i := by
  unfold okW at h
  rw [if_neg (by intro e; have := ask_bounds e; have := bin_bounds hb; omega), if_pos hb] at h
  simp only [okBin, Bool.and_eq_true, decide_eq_true_eq] at h
  omega

theorem okW_not {x : Wa} {i : Nat} (h : okW x i = true) (hb : isNot x.kind = true) : 0 ≤ x.a ∧ x.a < i := by
  unfold okW at h
  rw [if_neg (by intro e; have := ask_bounds e; have := not_bounds hb; omega), if_neg (by intro e; have := bin_bounds e; have := not_bounds hb; omega), if_pos hb] at h
  simp only [okNot, Bool.and_eq_true, decide_eq_true_eq] at h
  omega

set_option maxRecDepth 100000 in
set_option maxHeartbeats 8000000 in
theorem specGoodF (T : List Wa) (v : Value) (w : World) (hT : WasAt w w.heap.size v T) :
    Calls Tryd.prog 24 #[.agg #[v]] w fun e w' => e = .returned (.bool (gf T)) ∧ Below w.heap.size w w' := by
  obtain ⟨ao, cap, rfl, hlc, hcm, hrow, hnm⟩ := hT
  have HROW : Hid (∀ i, i < T.length → ∃ g o, ao = some ⟨g, o, none⟩ ∧ g < w.heap.size ∧ WaIn w g (o + i * 6) (wa T i)) := hrow
  have HNM : Hid (∀ i, i < T.length → (wa T i).text.size ≤ maxLen) := hnm
  clear hrow hnm
  unfold maxLen at hcm
  obtain ⟨W1, hW1⟩ : ∃ W, W = w.alloc (.cells #[.slice ao T.length cap] 25) := ⟨_, rfl⟩
  have hB1 : Below w.heap.size w W1 := by rw [hW1]; exact (Below.refl _ w).alloc (Nat.le_refl _) _
  have hs1 : Hid (W1.heap.size = w.heap.size + 1) := by show _ = _; rw [hW1]; simp
  have hl1 : w.heap.size < W1.heap.size := by rw [hs1.out]; omega
  have q1 : W1.cell? ⟨w.heap.size, 0, none⟩ = some (.slice ao T.length cap) := by rw [hW1]; go_simp
  go_enter Tryd.func24, Tryd.ntmps24
  go_wp2_with fail
  rw [← hW1]
  clear hW1
  refine (l1In_any (T.length : Int) 1 20 _).mono ?_
  rintro e w1 ⟨rfl, rfl⟩
  by_cases h20 : 1 ≤ T.length ∧ T.length ≤ 20
  · have h20' : decide ((1 : Int) ≤ (T.length : Int) ∧ (T.length : Int) ≤ 20) = true := by simp; omega
    rw [h20']
    clear h20'
    obtain ⟨h0, h20⟩ := h20
    obtain ⟨i0, hi, hz0, hz1, hz2⟩ := info_parts Tryd.infoInt
    obtain ⟨M, hM⟩ : ∃ M, M = madeCells (Value.int .i64 0).cells (((T.length : Nat) : Int).toNat * i0.size) := ⟨_, rfl⟩
    have hMc : M = madeCells #[Value.int .i64 0] T.length := by rw [hM, hz1]; simp [Value.cells]
    have hmk : ∀ W : World, (Instr.makeSlice 96 (.int .i64 (T.length : Int)) (.int .i64 (T.length : Int))).run Tryd.prog W = .ok (.slice (some ⟨W.heap.size, 0, none⟩) T.length T.length) (W.alloc (.cells M 3)) := fun W => by
      have h := run_make (P := Tryd.prog) W 96 3 i0 (.int .i64 0) Tryd.underlying96 hi hz0 .i64 .i64 (T.length : Int) (T.length : Int) (by omega) (by omega) (by rw [hz2]; omega) (by omega)
      rw [← hM] at h
      simpa using h
    clear hM
    obtain ⟨W2, hW2⟩ : ∃ W, W = w1.alloc (.cells M 3) := ⟨_, rfl⟩
    have hB2 : Hid (Below w1.heap.size w1 W2) := by show Below _ _ _; rw [hW2]; exact (Below.refl _ w1).alloc (Nat.le_refl _) _
    have hT2 : Hid (UsAt W2 w1.heap.size T.length (fun j => use (T.take 0) j)) := by
      show UsAt _ _ _ _
      refine ⟨by rw [hW2]; simp, fun j hj => ?_⟩
      dsimp only
      rw [use_zero, hW2]
      have e : M[j]? = some (.int .i64 0) := by
        rw [← Array.getElem?_toList, hMc, toList_madeCells_one]
        simp [hj]
      exact ⟨by rw [World.cell?_alloc_new]; exact e, by go_simp⟩
    clear hMc hz0 hz1 hz2 hi
    go_upto_region 5 with fail
    rw [← hW2]
    clear hW2 hmk
    have q2 := (hB2.out.cell (p := ⟨w.heap.size, 0, none⟩) hl1).trans q1
    go_wp2
    go_loopw [20] (fun vi wr => ∃ i : Nat, i ≤ T.length ∧ vi = .int .i64 (i : Int) ∧ Hid (∀ j, j < i → okW (wa T j) j = true) ∧ Hid (UsAt wr w1.heap.size T.length (fun j => use (T.take i) j)) ∧ Hid (Below w1.heap.size w1 wr))
      (fun vi _ => T.length - (intOf vi).toNat)
    case atStart => exact ⟨0, by omega, rfl, fun j hj => by omega, hT2, hB2⟩
    case round =>
      clear hT2 hB2 q2
      obtain ⟨i, hi, rfl, hall, hTm, hBw⟩ := hrel
      have hB0 : Below w.heap.size w wr := hB1.trans (hBw.out.mono (by omega))
      have hsz : w1.heap.size < wr.heap.size := hTm.out.1
      have hsz' : w.heap.size < wr.heap.size := by omega
      by_cases hlt : i < T.length
      · have hlt' : (i : Int) < (T.length : Int) := by omega
        obtain ⟨g, o, rfl, hg, hty⟩ := HROW.out i hlt
        have hci := hty.below hB0 hg
        have hni := HNM.out i hlt
        have hUL : Hid (∀ j, use (T.take i) j ≤ 2 * i) := fun j => use_le T j i hi
        have hBad : Hid (okW (wa T i) i = false → gf T = false) := fun h => gf_bad hlt h
        have hNx : Hid (okW (wa T i) i = true → ∀ j, j < i + 1 → okW (wa T j) j = true) := fun h j hj => by
          by_cases e : j = i
          · rw [e]; exact h
          · exact hall.out j (by omega)
        have hKC : Hid (okW (wa T i) i = true → isAsk (wa T i).kind = true ∨ isBin (wa T i).kind = true ∨ isNot (wa T i).kind = true) := kind_cases
        have hOB : Hid (okW (wa T i) i = true → isBin (wa T i).kind = true → 0 ≤ (wa T i).a ∧ (wa T i).a < (wa T i).b ∧ (wa T i).b < i) := okW_bin
        have hON : Hid (okW (wa T i) i = true → isNot (wa T i).kind = true → 0 ≤ (wa T i).a ∧ (wa T i).a < i) := okW_not
        have hUB : Hid (isBin (wa T i).kind = true → ∀ x y : Nat, (wa T i).a = x → (wa T i).b = y → x < y → ∀ j, use (T.take (i + 1)) j = if j = y then (if y = x then use (T.take i) x + 1 else use (T.take i) y) + 1 else (if j = x then use (T.take i) x + 1 else use (T.take i) j)) := fun h x y => use_bin hlt h
        have hUN : Hid (isNot (wa T i).kind = true → ∀ x : Nat, (wa T i).a = x → ∀ j, use (T.take (i + 1)) j = if j = x then use (T.take i) x + 1 else use (T.take i) j) := fun h x => use_not hlt h
        have hUA : Hid (isAsk (wa T i).kind = true → ∀ j, use (T.take (i + 1)) j = use (T.take i) j) := fun h => use_ask hlt h
        have CG : Hid (∀ W : World, Calls Tryd.prog 48 #[.agg #[.int .i64 (wa T i).kind, .int .i64 (wa T i).no, .int .i64 (wa T i).num, .string (wa T i).text, .int .i64 (wa T i).a, .int .i64 (wa T i).b], .int .i64 i] W fun e w' => e = .returned (.bool (okW (wa T i) i)) ∧ Below W.heap.size W w') := fun W => l7Want_any (wa T i) i W hni
        generalize okW (wa T i) i = ok at hBad hNx CG hKC hOB hON
        generalize wa T i = x at hci hni CG hKC hOB hON hUB hUN hUA
        obtain ⟨k, n, m, t, a, b⟩ := x
        dsimp only at hci hni CG hKC hOB hON hUB hUN hUA
        obtain ⟨c0, c1, c2, c3, c4, c5⟩ := hci
        dsimp only at c0 c1 c2 c3 c4 c5
        clear hty hni hall
        obtain ⟨W3, hW3⟩ : ∃ W, W = wr.alloc (.cells #[.int .i64 k, .int .i64 n, .int .i64 m, .string t, .int .i64 a, .int .i64 b] 66) := ⟨_, rfl⟩
        have hA3 : Below wr.heap.size wr W3 := by rw [hW3]; exact (Below.refl _ wr).alloc (Nat.le_refl _) _
        have hs3 : Hid (W3.heap.size = wr.heap.size + 1) := by show _ = _; rw [hW3]; simp
        have z0 : W3.cell? ⟨wr.heap.size, 0, none⟩ = some (.int .i64 k) := by rw [hW3]; go_simp
        have z4 : W3.cell? ⟨wr.heap.size, 4, none⟩ = some (.int .i64 a) := by rw [hW3]; go_simp
        have z5 : W3.cell? ⟨wr.heap.size, 5, none⟩ = some (.int .i64 b) := by rw [hW3]; go_simp
        go_wp2_with fail
        rw [← hW3]
        clear hW3 c0 c1 c2 c3 c4 c5
        refine (CG.out _).mono ?_
        rintro e w4 ⟨rfl, hb4⟩
        have hl3 : wr.heap.size < W3.heap.size := by rw [hs3.out]; omega
        have hA4 : Hid (Below wr.heap.size wr w4) := hA3.trans (hb4.mono (by omega))
        have hl4 : wr.heap.size < w4.heap.size := by have := hb4.size; omega
        have hne4 : w1.heap.size ≠ wr.heap.size := by omega
        have z0 := (hb4.cell (p := ⟨wr.heap.size, 0, none⟩) hl3).trans z0
        have z4 := (hb4.cell (p := ⟨wr.heap.size, 4, none⟩) hl3).trans z4
        have z5 := (hb4.cell (p := ⟨wr.heap.size, 5, none⟩) hl3).trans z5
        clear hb4 hs3 hA3 CG
        have hB4 : Hid (Below w1.heap.size w1 w4) := hBw.out.trans (hA4.out.mono (by omega))
        have hT4 : Hid (UsAt w4 w1.heap.size T.length (fun j => use (T.take i) j)) := hTm.out.below hA4.out hsz
        cases ok with
        | false =>
          have hF : Hid (gf T = false) := hBad.out rfl
          clear hBad hNx hUL hKC hOB hON hUB hUN hUA
          go_wp2
          go_ret
          exact ⟨by rw [hF.out]; rfl, hB0.trans (hA4.out.mono (by omega))⟩
        | true =>
          have hNx2 : Hid (∀ j, j < i + 1 → okW (wa T j) j = true) := hNx.out rfl
          clear hBad hNx
          rcases hKC.out rfl with hk | hk | hk
          · have hkb := ask_bounds hk
            have hk6 : ¬ (6 : Int) ≤ k := by omega
            have hT5 : Hid (UsAt w4 w1.heap.size T.length (fun j => use (T.take (i + 1)) j)) := by
              show UsAt _ _ _ _
              have e : (fun j => use (T.take (i + 1)) j) = (fun j => use (T.take i) j) := funext fun j => hUA.out hk j
              rw [e]; exact hT4.out
            clear hKC hOB hON hUB hUN hUA hUL
            go_wp2_with fail
            refine (l1In_any k 6 7 _).mono ?_
            rintro e w5 ⟨rfl, rfl⟩
            rw [show decide (6 ≤ k ∧ k ≤ 7) = false by simp only [decide_eq_false_iff_not]; omega]
            go_wp2
            go_roundw
            case rel => exact ⟨i + 1, by omega, by go_num, hNx2, hT5, hB4⟩
            case measure => simp [intOf]; omega
          · have hkb := bin_bounds hk
            have hk6 : (6 : Int) ≤ k := by omega
            obtain ⟨ha0, hab, hbi⟩ := hOB.out rfl hk
            obtain ⟨x, rfl⟩ := Int.eq_ofNat_of_zero_le ha0
            obtain ⟨y, rfl⟩ := Int.eq_ofNat_of_zero_le (show 0 ≤ b by omega)
            have hxl : x < T.length := by omega
            have hyl : y < T.length := by omega
            have hxl' : (x : Int) < (T.length : Int) := by omega
            have hyl' : (y : Int) < (T.length : Int) := by omega
            have hcx := (hT4.out.2 x hxl).1
            have hfx := (hT4.out.2 x hxl).2
            have hux : ((use (T.take i) x : Nat) : Int) ≤ 40 := by have := hUL.out x; omega
            have huy : ((use (T.take i) y : Nat) : Int) ≤ 40 := by have := hUL.out y; omega
            try dsimp only at hcx
            obtain ⟨W5, hW5⟩ : ∃ W, W = w4.setCell ⟨w1.heap.size, x, none⟩ (.int .i64 ((use (T.take i) x : Int) + 1)) := ⟨_, rfl⟩
            have hT5 : Hid (UsAt W5 w1.heap.size T.length (fun j => if j = x then use (T.take i) x + 1 else use (T.take i) j)) := by show UsAt _ _ _ _; rw [hW5]; exact hT4.out.inc hxl (fun j => rfl)
            have hB5 : Hid (Below w1.heap.size w1 W5) := by show Below _ _ _; rw [hW5]; exact hB4.out.setCell (Nat.le_refl _) _
            have z05 : W5.cell? ⟨wr.heap.size, 0, none⟩ = some (.int .i64 k) := by rw [hW5, World.cell?_setCell_other _ _ _ _ (by intro h; injection h; omega)]; exact z0
            have z55 : W5.cell? ⟨wr.heap.size, 5, none⟩ = some (.int .i64 (y : Int)) := by rw [hW5, World.cell?_setCell_other _ _ _ _ (by intro h; injection h; omega)]; exact z5
            have hcy := (hT5.out.2 y hyl).1
            have hfy := (hT5.out.2 y hyl).2
            try dsimp only at hcy
            rw [if_neg (by omega)] at hcy
            have hT6 : Hid (UsAt (W5.setCell ⟨w1.heap.size, y, none⟩ (.int .i64 ((use (T.take i) y : Int) + 1))) w1.heap.size T.length (fun j => use (T.take (i + 1)) j)) := by
              show UsAt _ _ _ _
              have h := hT5.out.inc hyl (f' := fun j => use (T.take (i + 1)) j) (fun j => hUB.out hk x y rfl rfl (by omega) j)
              try dsimp only at h
              rw [if_neg (by omega)] at h
              exact h
            have hB6 : Hid (Below w1.heap.size w1 (W5.setCell ⟨w1.heap.size, y, none⟩ (.int .i64 ((use (T.take i) y : Int) + 1)))) := hB5.out.setCell (Nat.le_refl _) _
            generalize use (T.take i) x = ux at *
            generalize use (T.take i) y = uy at *
            clear hKC hOB hON hUB hUN hUA hUL
            go_wp2_with fail
            rw [← hW5]
            clear hW5
            refine (l1In_any k 6 7 _).mono ?_
            rintro e w5 ⟨rfl, rfl⟩
            rw [show decide (6 ≤ k ∧ k ≤ 7) = true by simp; omega]
            clear hcx hfx z0 z4 z5
            go_wp2
            go_roundw
            case rel => exact ⟨i + 1, by omega, by go_num, hNx2, hT6, hB6⟩
            case measure => simp [intOf]; omega
          · have hkb := not_bounds hk
            have hk6 : (6 : Int) ≤ k := by omega
            have h678 : decide (6 ≤ k ∧ k ≤ 7) = false := by simp only [decide_eq_false_iff_not]; omega
            clear hkb
            obtain ⟨ha0, hai⟩ := hON.out rfl hk
            obtain ⟨x, rfl⟩ := Int.eq_ofNat_of_zero_le ha0
            have hxl : x < T.length := by omega
            have hxl' : (x : Int) < (T.length : Int) := by omega
            have hcx := (hT4.out.2 x hxl).1
            have hfx := (hT4.out.2 x hxl).2
            have hux : ((use (T.take i) x : Nat) : Int) ≤ 40 := by have := hUL.out x; omega
            try dsimp only at hcx
            obtain ⟨W5, hW5⟩ : ∃ W, W = w4.setCell ⟨w1.heap.size, x, none⟩ (.int .i64 ((use (T.take i) x : Int) + 1)) := ⟨_, rfl⟩
            have hT5 : Hid (UsAt W5 w1.heap.size T.length (fun j => use (T.take (i + 1)) j)) := by show UsAt _ _ _ _; rw [hW5]; exact hT4.out.inc hxl (fun j => hUN.out hk x rfl j)
            have hB5 : Hid (Below w1.heap.size w1 W5) := by show Below _ _ _; rw [hW5]; exact hB4.out.setCell (Nat.le_refl _) _
            have z05 : W5.cell? ⟨wr.heap.size, 0, none⟩ = some (.int .i64 k) := by rw [hW5, World.cell?_setCell_other _ _ _ _ (by intro h; injection h; omega)]; exact z0
            generalize use (T.take i) x = ux at *
            clear hKC hOB hON hUB hUN hUA hUL
            go_wp2_with fail
            rw [← hW5]
            clear hW5
            refine (l1In_any k 6 7 _).mono ?_
            rintro e w5 ⟨rfl, rfl⟩
            rw [h678]
            clear hcx hfx z0 z4 z5
            go_wp2
            go_roundw
            case rel => exact ⟨i + 1, by omega, by go_num, hNx2, hT5, hB5⟩
            case measure => simp [intOf]; omega
      · have hke : i = T.length := by omega
        subst hke
        have hge : ¬ ((T.length : Int) < (T.length : Int)) := by omega
        have hTe : Hid (∀ j, j < T.length → wr.cell? ⟨w1.heap.size, j, none⟩ = some (.int .i64 (use T j : Int))) := fun j hj => by
          have := (hTm.out.2 j hj).1
          rw [List.take_length] at this
          exact this
        have hr1 : (0 : Int) ≤ (T.length : Int) - 1 := by omega
        have hr2 : (T.length : Int) - 1 ≤ (T.length : Int) := by omega
        clear hTm
        go_wp2
        go_loop [55] (fun vi => ∃ q : Nat, q ≤ T.length - 1 ∧ vi = .int .i64 (q : Int) ∧ Hid (∀ j, j < q → use T j = 1))
          (fun vi => T.length - (intOf vi).toNat)
        case atStart => exact ⟨0, by omega, rfl, fun j hj => by omega⟩
        case round =>
          obtain ⟨q, hq, rfl, hu⟩ := hrel
          by_cases hlq : q < T.length - 1
          · have hlq' : (q : Int) < (T.length : Int) - 1 := by omega
            have hcq := hTe.out q (by omega)
            by_cases h1 : use T q = 1
            · have hu2 : Hid (∀ j, j < q + 1 → use T j = 1) := fun j hj => by
                by_cases e : j = q
                · rw [e]; exact h1
                · exact hu.out j (by omega)
              rw [h1] at hcq
              clear h1 hu
              go_wp2
              go_round
              case rel => exact ⟨q + 1, by omega, by go_num, hu2⟩
              case measure => simp [intOf]; omega
            · have hF : Hid (gf T = false) := gf_uses hlq h1
              have h1' : (((use T q : Nat) : Int) != 1) = true := by simp; omega
              generalize use T q = u at hcq h1 h1'
              clear h1
              go_wp2
              go_ret
              exact ⟨by rw [hF.out]; rfl, hB0⟩
          · have hke : (q : Int) = (T.length : Int) - 1 := by omega
            have hge2 : ¬ ((q : Int) < (T.length : Int) - 1) := by omega
            have hF : Hid (gf T = true) := by
              show gf T = true
              simp only [gf, Bool.and_eq_true, decide_eq_true_eq]
              exact ⟨⟨⟨h0, h20⟩, hall.out⟩, fun j hj => hu.out j (by omega)⟩
            clear hke hu
            go_wp2
            go_ret
            exact ⟨by rw [hF.out]; rfl, hB0⟩
  · have hR : gf T = false := by
      unfold gf
      by_cases q : 1 ≤ T.length
      · have : ¬ T.length ≤ 20 := by omega
        simp [this]
      · simp [q]
    have h20' : decide ((1 : Int) ≤ (T.length : Int) ∧ (T.length : Int) ≤ 20) = false := by simp only [decide_eq_false_iff_not]; omega
    rw [h20']
    have HR : Hid (gf T = false) := hR
    clear hR h20 h20'
    go_wp2
    go_ret
    exact ⟨by rw [HR.out]; rfl, hB1⟩

end Go.Proofs.YtmjpmmkjfimopaaDoor
