/- The program's wantTells. -/
import Derived.Test.YtmjpmmkjfimopaaDoorMtD
import Derived.Deep.DeepCutAuto
import Derived.BigQuiet
namespace Go.Proofs.YtmjpmmkjfimopaaDoor
open Go.RowKit Plain Sch Wan

attribute [local go_sem] storeJ storeF

theorem getD_some {l : List Bool} {i : Nat} (h : i < l.length) : l[i]? = some (l.getD i false) := by
  rw [List.getD, List.getElem?_eq_getElem h]; rfl

set_option maxRecDepth 100000 in
set_option maxHeartbeats 8000000 in
theorem wantTells_any (x : Wa) (i : Nat) (l : List Fld) (acc : List Bool) (vl vt : Value) (w : World) (hok : okW x i = true) (hF : FldsAt w w.heap.size vl l) (hl : l.length ≤ 40) (hA : BAt w w.heap.size vt acc) (hai : acc.length = i) (hi20 : i ≤ 20) (hfd : ∀ f ∈ l, okF f) :
    Calls Tryd.prog 27 #[.agg #[.int .i64 x.kind, .int .i64 x.no, .int .i64 x.num, .string x.text, .int .i64 x.a, .int .i64 x.b], vl, vt] w fun e w' => e = .returned (.bool (tlS l acc x)) ∧ Below w.heap.size w w' := by
  have hKC := Wan.kind_cases hok
  have hOW := okW_own hok
  have HB8 : x.kind = 8 → x.b = 0 := fun hk => by
    unfold okW at hok
    rw [hk] at hok
    rw [if_neg (by decide), if_neg (by decide), if_pos (by decide)] at hok
    simp only [okNot, Bool.and_eq_true, decide_eq_true_eq] at hok
    exact congrArg (fun x : Wa => x.b) hok.1.1
  have hTX : x.text.size ≤ 30 := by
    unfold okW at hok
    by_cases h1 : isAsk x.kind = true
    · rw [if_pos h1] at hok
      simp only [okAsk, Bool.and_eq_true, decide_eq_true_eq] at hok
      exact hok.2
    · rw [if_neg h1] at hok
      by_cases h2 : isBin x.kind = true
      · rw [if_pos h2] at hok
        simp only [okBin, Bool.and_eq_true, decide_eq_true_eq] at hok
        have := congrArg (fun x : Wa => x.text.size) hok.1.1.1
        dsimp only at this
        rw [this]; decide
      · rw [if_neg h2] at hok
        by_cases h3 : isNot x.kind = true
        · rw [if_pos h3] at hok
          simp only [okNot, Bool.and_eq_true, decide_eq_true_eq] at hok
          have := congrArg (fun x : Wa => x.text.size) hok.1.1
          dsimp only at this
          rw [this]; decide
        · rw [if_neg h3] at hok; cases hok
  have HF : Hid (FldsAt w w.heap.size vl l) := hF
  obtain ⟨al, capl, rfl, _⟩ := hF
  obtain ⟨at', capt, rfl, hlc, hcm, hrow⟩ := hA
  unfold maxLen at hcm
  have HROW : Hid (∀ (i : Nat) (x : Bool), acc[i]? = some x → ∃ g o, at' = some ⟨g, o, none⟩ ∧ g < w.heap.size ∧ w.cell? ⟨g, o + i, none⟩ = some (.bool x)) := hrow
  clear hrow
  obtain ⟨R, hR⟩ : ∃ R, R = tlS l acc x := ⟨_, rfl⟩
  rw [← hR]
  have HR : Hid (R = tlS l acc x) := hR
  clear hR hok
  have hal : acc.length ≤ 20 := by omega
  have hB1 : ∀ o, Below w.heap.size w (w.alloc o) := fun o => (Below.refl _ w).alloc (Nat.le_refl _) o
  obtain ⟨k, n, m, t, a, b⟩ := x
  dsimp only at hKC hTX
  have hB8 : k = 8 → b = 0 := fun hk => HB8 hk
  rcases hKC with h | h | h
  · have hkb := ask_bounds h
    have eJ : isJoin k = false := by unfold isJoin isBin isNot; simp; omega
    have eB : isBin k = false := by unfold isBin; simp; omega
    have hF2 : Hid (R = askF l ⟨k, n, m, t, a, b⟩) := by
      show R = _
      rw [HR.out]
      unfold tlS
      dsimp only
      rw [if_neg (by omega), if_neg (by omega), if_neg (by omega)]
    have CB : Hid (∀ W : World, Below w.heap.size w W → Calls Tryd.prog 52 #[.slice al l.length capl, .int .i64 n] W fun e w' => ((∃ x, fby l n = some x ∧ e = .returned (.tuple #[.agg #[.int .i64 x.no, .int .i64 x.kind, .int .i64 x.num, .string x.data], .bool true])) ∨ (fby l n = none ∧ e = .returned (.tuple #[.agg #[.int .i64 0, .int .i64 0, .int .i64 0, .string ⟨#[]⟩], .bool false]))) ∧ Below W.heap.size W w') := fun W hW => fieldByNo_any l _ n W (HF.out.below hW) hl
    clear HR HROW hOW HF hB8 HB8
    go_enter Tryd.func27, Tryd.ntmps27
    go_wp2_with fail
    refine (wantJoinOf_any k _).mono ?_
    rintro e w1 ⟨rfl, hb1⟩
    rw [eJ, eB]
    have hB2 : Below w.heap.size w w1 := (hB1 _).trans (hb1.mono (by simp))
    have hs1 : w.heap.size < w1.heap.size := by have := hb1.size; simp at this; omega
    have z0 := (hb1.cell (p := ⟨w.heap.size, 0, none⟩) (by simp)).trans (show _ = some (.int .i64 k) by simp)
    have z1 := (hb1.cell (p := ⟨w.heap.size, 1, none⟩) (by simp)).trans (show _ = some (.int .i64 n) by simp)
    have z2 := (hb1.cell (p := ⟨w.heap.size, 2, none⟩) (by simp)).trans (show _ = some (.int .i64 m) by simp)
    have z3 := (hb1.cell (p := ⟨w.heap.size, 3, none⟩) (by simp)).trans (show _ = some (.string t) by simp)
    have z4 := (hb1.cell (p := ⟨w.heap.size, 4, none⟩) (by simp)).trans (show _ = some (.int .i64 a) by simp)
    have z5 := (hb1.cell (p := ⟨w.heap.size, 5, none⟩) (by simp)).trans (show _ = some (.int .i64 b) by simp)
    clear hb1
    obtain ⟨W2, hW2⟩ : ∃ W, W = w1.alloc (.cells #[.bool false, fnJ k] 102) := ⟨_, rfl⟩
    have hA2 : Below w1.heap.size w1 W2 := by rw [hW2]; exact (Below.refl _ w1).alloc (Nat.le_refl _) _
    have hB3 : Below w.heap.size w W2 := hB2.trans (hA2.mono (by omega))
    have hs2 : w.heap.size < W2.heap.size := by have := hA2.size; omega
    have z0 := (hA2.cell (p := ⟨w.heap.size, 0, none⟩) hs1).trans z0
    have z1 := (hA2.cell (p := ⟨w.heap.size, 1, none⟩) hs1).trans z1
    have z2 := (hA2.cell (p := ⟨w.heap.size, 2, none⟩) hs1).trans z2
    have z3 := (hA2.cell (p := ⟨w.heap.size, 3, none⟩) hs1).trans z3
    have z4 := (hA2.cell (p := ⟨w.heap.size, 4, none⟩) hs1).trans z4
    have z5 := (hA2.cell (p := ⟨w.heap.size, 5, none⟩) hs1).trans z5
    go_wp2_with fail
    rw [← hW2]
    clear hW2 hA2
    refine (fieldAskOf_any k _).mono ?_
    rintro e w4 ⟨fv, rfl, hv4, hb4⟩
    have hB4 : Below w.heap.size w w4 := hB3.trans (hb4.mono (by omega))
    have hs4 : w.heap.size < w4.heap.size := by have := hb4.size; omega
    have z0 := (hb4.cell (p := ⟨w.heap.size, 0, none⟩) hs2).trans z0
    have z1 := (hb4.cell (p := ⟨w.heap.size, 1, none⟩) hs2).trans z1
    have z2 := (hb4.cell (p := ⟨w.heap.size, 2, none⟩) hs2).trans z2
    have z3 := (hb4.cell (p := ⟨w.heap.size, 3, none⟩) hs2).trans z3
    have z4 := (hb4.cell (p := ⟨w.heap.size, 4, none⟩) hs2).trans z4
    have z5 := (hb4.cell (p := ⟨w.heap.size, 5, none⟩) hs2).trans z5
    clear hb4
    have HV4 : Hid (IsoF k w4 fv) := hv4
    obtain ⟨pf, qf, rf9, hfv⟩ := hv4.func h
    obtain ⟨p1, q1, r1, hfn⟩ := fnF_func h
    rw [hfn]
    generalize askN k = b1 at *
    generalize askT k = b2 at *
    obtain ⟨W5, hW5⟩ : ∃ W, W = w4.alloc (.cells #[.bool b1, .bool b2, .func p1 q1 r1, fv] 107) := ⟨_, rfl⟩
    have hA5 : Below w4.heap.size w4 W5 := by rw [hW5]; exact (Below.refl _ w4).alloc (Nat.le_refl _) _
    have hB5 : Below w.heap.size w W5 := hB4.trans (hA5.mono (by omega))
    have hs5 : w.heap.size < W5.heap.size := by have := hA5.size; omega
    have hl5 : w4.heap.size < W5.heap.size := by rw [hW5]; simp
    have y3 : W5.cell? ⟨w4.heap.size, 3, none⟩ = some fv := by rw [hW5]; go_simp
    have z0 := (hA5.cell (p := ⟨w.heap.size, 0, none⟩) hs4).trans z0
    have z1 := (hA5.cell (p := ⟨w.heap.size, 1, none⟩) hs4).trans z1
    have z2 := (hA5.cell (p := ⟨w.heap.size, 2, none⟩) hs4).trans z2
    have z3 := (hA5.cell (p := ⟨w.heap.size, 3, none⟩) hs4).trans z3
    have z4 := (hA5.cell (p := ⟨w.heap.size, 4, none⟩) hs4).trans z4
    have z5 := (hA5.cell (p := ⟨w.heap.size, 5, none⟩) hs4).trans z5
    rw [hfv] at hW5 y3 ⊢
    go_wp2_with fail
    rw [← hW5]
    clear hW5
    refine (CB.out _ hB5).mono ?_
    rintro e w6 ⟨hpt, hb6⟩
    have hB6 : Below w.heap.size w w6 := hB5.trans (hb6.mono (by omega))
    have hs6 : w.heap.size < w6.heap.size := by have := hb6.size; omega
    have hA46 : Below w4.heap.size w4 w6 := hA5.trans (hb6.mono (by omega))
    have hl6 : w4.heap.size < w6.heap.size := by have := hb6.size; omega
    have y3 := (hb6.cell (p := ⟨w4.heap.size, 3, none⟩) hl5).trans y3
    have z0 := (hb6.cell (p := ⟨w.heap.size, 0, none⟩) hs5).trans z0
    have z1 := (hb6.cell (p := ⟨w.heap.size, 1, none⟩) hs5).trans z1
    have z2 := (hb6.cell (p := ⟨w.heap.size, 2, none⟩) hs5).trans z2
    have z3 := (hb6.cell (p := ⟨w.heap.size, 3, none⟩) hs5).trans z3
    have z4 := (hb6.cell (p := ⟨w.heap.size, 4, none⟩) hs5).trans z4
    have z5 := (hb6.cell (p := ⟨w.heap.size, 5, none⟩) hs5).trans z5
    clear hb6 hA5
    rcases hpt with ⟨f, hfb, rfl⟩ | ⟨hfb, rfl⟩
    · have hF3 : Hid (R = isSo ⟨k, n, m, t, a, b⟩ f) := by show R = _; rw [hF2.out]; unfold askF; dsimp only; rw [hfb]
      obtain ⟨hfk, hfs⟩ := hfd f (fby_mem l n f hfb)
      obtain ⟨fn, fk, fm, fd⟩ := f
      dsimp only at hfk hfs ⊢
      clear hF2 hfb CB hfd
      rcases HV4.out with ⟨hN, g9, hv9, hg9, hc9⟩ | ⟨hk4, hv9⟩ | ⟨hk5, hv9⟩ | ⟨hn9, _⟩
      · have hc6 := (hA46.cell (p := ⟨g9, 0, none⟩) hg9).trans hc9
        have hg6 : g9 < w6.heap.size := by omega
        rw [hfv] at hv9
        simp only [Value.func.injEq] at hv9
        obtain ⟨rfl, rfl, rfl⟩ := hv9
        have hb13 : 1 ≤ k ∧ k ≤ 3 := by unfold askN at hN; simpa using hN
        have hc7 : ∀ o, (w6.alloc o).cell? ⟨g9, 0, none⟩ = some (.func (.func (if k = 1 then 81 else if k = 2 then 82 else 83)) #[] #[]) := fun o => (((Below.refl _ w6).alloc (Nat.le_refl _) o).cell (p := ⟨g9, 0, none⟩) hg6).trans hc6
        have HC7 : Hid (∀ o, (w6.alloc o).cell? ⟨g9, 0, none⟩ = some (.func (.func (if k = 1 then 81 else if k = 2 then 82 else 83)) #[] #[])) := hc7
        clear hc6 hc7 hc9 HV4
        by_cases h1 : k = 1
        · subst h1
          have hF4 : Hid (R = (decide (fk = 0) && (fm == m))) := hF3.out
          clear hF3
          go_wp2_with fail
          refine (askNum1 1 n m t a b fn fk fm fd g9 _ (by simp; omega) (HC7.out _)).mono ?_
          rintro e w7 ⟨rfl, hb7⟩
          go_wp2
          go_ret
          exact ⟨by rw [hF4.out]; rfl, (hB6.alloc (by omega) _).trans (hb7.mono (by simp; omega))⟩
        · by_cases h2 : k = 2
          · subst h2
            have hF4 : Hid (R = (decide (fk = 0) && decide (fm < m))) := hF3.out
            clear hF3
            go_wp2_with fail
            refine (askNum2 2 n m t a b fn fk fm fd g9 _ (by simp; omega) (HC7.out _)).mono ?_
            rintro e w7 ⟨rfl, hb7⟩
            go_wp2
            go_ret
            exact ⟨by rw [hF4.out]; rfl, (hB6.alloc (by omega) _).trans (hb7.mono (by simp; omega))⟩
          · have h3 : k = 3 := by omega
            subst h3
            have hF4 : Hid (R = (decide (fk = 0) && decide (m < fm))) := hF3.out
            clear hF3
            go_wp2_with fail
            refine (askNum3 3 n m t a b fn fk fm fd g9 _ (by simp; omega) (HC7.out _)).mono ?_
            rintro e w7 ⟨rfl, hb7⟩
            go_wp2
            go_ret
            exact ⟨by rw [hF4.out]; rfl, (hB6.alloc (by omega) _).trans (hb7.mono (by simp; omega))⟩
      · subst hk4
        rw [hfv] at hv9
        simp only [Value.func.injEq] at hv9
        obtain ⟨rfl, rfl, rfl⟩ := hv9
        have hF4 : Hid (R = true) := hF3.out
        clear hF3 HV4
        go_wp2_with fail
        refine (askHas 4 n m t a b fn fk fm fd _).mono ?_
        rintro e w7 ⟨rfl, hb7⟩
        go_wp2
        go_ret
        exact ⟨by rw [hF4.out]; rfl, (hB6.alloc (by omega) _).trans (hb7.mono (by simp; omega))⟩
      · subst hk5
        rw [hfv] at hv9
        simp only [Value.func.injEq] at hv9
        obtain ⟨rfl, rfl, rfl⟩ := hv9
        have hF4 : Hid (R = (decide (fk = 2) && preB fd t)) := hF3.out
        clear hF3 HV4
        go_wp2_with fail
        refine (askStarts 5 n m t a b fn fk fm fd _ hfs hTX).mono ?_
        rintro e w7 ⟨rfl, hb7⟩
        go_wp2
        go_ret
        exact ⟨by rw [hF4.out]; rfl, (hB6.alloc (by omega) _).trans (hb7.mono (by simp; omega))⟩
      · rw [h] at hn9; cases hn9
    · have hF3 : Hid (R = false) := by show R = _; rw [hF2.out]; unfold askF; dsimp only; rw [hfb]
      clear hF2 hfb CB
      go_wp2
      go_ret
      exact ⟨by rw [hF3.out]; rfl, hB6.alloc (by omega) _⟩
  · rcases bin_bounds h with hk | hk
    · subst hk
      have hab : (0 ≤ a ∧ a < i) ∧ (0 ≤ b ∧ b < i) := ⟨hOW a (by simp [own, isBin]), hOW b (by simp [own, isBin])⟩
      obtain ⟨⟨ha0, hai2⟩, hb0, hbi⟩ := hab
      obtain ⟨y, rfl⟩ := Int.eq_ofNat_of_zero_le hb0
      obtain ⟨x, rfl⟩ := Int.eq_ofNat_of_zero_le ha0
      have hF2 : Hid (R = (acc.getD x false && acc.getD y false)) := HR.out
      obtain ⟨g, o, rfl, hg, cx⟩ := HROW.out x _ (getD_some (by omega))
      obtain ⟨g', o', hao, _, cy⟩ := HROW.out y _ (getD_some (by omega))
      simp only [Option.some.injEq, Addr.mk.injEq, and_true] at hao
      obtain ⟨rfl, rfl⟩ := hao
      have hxl : (x : Int) < (acc.length : Int) := by omega
      have hyl : (y : Int) < (acc.length : Int) := by omega
      have hx0 : (0 : Int) ≤ (x : Int) := by omega
      have hy0 : (0 : Int) ≤ (y : Int) := by omega
      generalize acc.getD x false = tx at *
      generalize acc.getD y false = ty at *
      generalize acc.length = N at *
      clear HR HROW hOW HF hB8 HB8
      go_enter Tryd.func27, Tryd.ntmps27
      go_wp2_with fail
      refine (wantJoinOf_any 6 _).mono ?_
      rintro e w1 ⟨rfl, hb1⟩
      rw [show isBin 6 = true from rfl, show isJoin 6 = true from rfl, show fnJ 6 = .func (.func 77) #[] #[] from rfl]
      have hB2 : Below w.heap.size w w1 := (hB1 _).trans (hb1.mono (by simp))
      have hs1 : w.heap.size < w1.heap.size := by have := hb1.size; simp at this; omega
      have z4 := (hb1.cell (p := ⟨w.heap.size, 4, none⟩) (by simp)).trans (show _ = some (.int .i64 (x : Int)) by simp)
      have z5 := (hb1.cell (p := ⟨w.heap.size, 5, none⟩) (by simp)).trans (show _ = some (.int .i64 (y : Int)) by simp)
      have cx := (hB2.cell (p := ⟨g, o + x, none⟩) hg).trans cx
      have cy := (hB2.cell (p := ⟨g, o + y, none⟩) hg).trans cy
      have hg1 : g < w1.heap.size := by omega
      clear hb1
      obtain ⟨W2, hW2⟩ : ∃ W, W = w1.alloc (.cells #[.bool true, .func (.func 77) #[] #[]] 102) := ⟨_, rfl⟩
      have hA2 : Below w1.heap.size w1 W2 := by rw [hW2]; exact (Below.refl _ w1).alloc (Nat.le_refl _) _
      have hB3 : Below w.heap.size w W2 := hB2.trans (hA2.mono (by omega))
      have y1 : W2.cell? ⟨w1.heap.size, 1, none⟩ = some (.func (.func 77) #[] #[]) := by rw [hW2]; go_simp
      have z4 := (hA2.cell (p := ⟨w.heap.size, 4, none⟩) hs1).trans z4
      have z5 := (hA2.cell (p := ⟨w.heap.size, 5, none⟩) hs1).trans z5
      have cx := (hA2.cell (p := ⟨g, o + x, none⟩) hg1).trans cx
      have cy := (hA2.cell (p := ⟨g, o + y, none⟩) hg1).trans cy
      go_upto_region 3 with fail
      rw [← hW2]
      clear hW2 hA2
      have CT : Hid (∀ W : World, Calls Tryd.prog 77 #[.bool tx, .bool ty] W fun e w' => e = .returned (.bool (tx && ty)) ∧ w' = W) := fun W => tells6 tx ty W
      go_quiet ((go_at_call 77; exact Calls.quiet_of_same (CT.out _)))
      go_wp2
      go_ret
      exact ⟨by rw [hF2.out]; rfl, by first | exact hB3 | exact hB3.drew | exact below_drewN hB3⟩
    · subst hk
      have hab : (0 ≤ a ∧ a < i) ∧ (0 ≤ b ∧ b < i) := ⟨hOW a (by simp [own, isBin]), hOW b (by simp [own, isBin])⟩
      obtain ⟨⟨ha0, hai2⟩, hb0, hbi⟩ := hab
      obtain ⟨y, rfl⟩ := Int.eq_ofNat_of_zero_le hb0
      obtain ⟨x, rfl⟩ := Int.eq_ofNat_of_zero_le ha0
      have hF2 : Hid (R = (acc.getD x false || acc.getD y false)) := HR.out
      obtain ⟨g, o, rfl, hg, cx⟩ := HROW.out x _ (getD_some (by omega))
      obtain ⟨g', o', hao, _, cy⟩ := HROW.out y _ (getD_some (by omega))
      simp only [Option.some.injEq, Addr.mk.injEq, and_true] at hao
      obtain ⟨rfl, rfl⟩ := hao
      have hxl : (x : Int) < (acc.length : Int) := by omega
      have hyl : (y : Int) < (acc.length : Int) := by omega
      have hx0 : (0 : Int) ≤ (x : Int) := by omega
      have hy0 : (0 : Int) ≤ (y : Int) := by omega
      generalize acc.getD x false = tx at *
      generalize acc.getD y false = ty at *
      generalize acc.length = N at *
      clear HR HROW hOW HF hB8 HB8
      go_enter Tryd.func27, Tryd.ntmps27
      go_wp2_with fail
      refine (wantJoinOf_any 7 _).mono ?_
      rintro e w1 ⟨rfl, hb1⟩
      rw [show isBin 7 = true from rfl, show isJoin 7 = true from rfl, show fnJ 7 = .func (.func 78) #[] #[] from rfl]
      have hB2 : Below w.heap.size w w1 := (hB1 _).trans (hb1.mono (by simp))
      have hs1 : w.heap.size < w1.heap.size := by have := hb1.size; simp at this; omega
      have z4 := (hb1.cell (p := ⟨w.heap.size, 4, none⟩) (by simp)).trans (show _ = some (.int .i64 (x : Int)) by simp)
      have z5 := (hb1.cell (p := ⟨w.heap.size, 5, none⟩) (by simp)).trans (show _ = some (.int .i64 (y : Int)) by simp)
      have cx := (hB2.cell (p := ⟨g, o + x, none⟩) hg).trans cx
      have cy := (hB2.cell (p := ⟨g, o + y, none⟩) hg).trans cy
      have hg1 : g < w1.heap.size := by omega
      clear hb1
      obtain ⟨W2, hW2⟩ : ∃ W, W = w1.alloc (.cells #[.bool true, .func (.func 78) #[] #[]] 102) := ⟨_, rfl⟩
      have hA2 : Below w1.heap.size w1 W2 := by rw [hW2]; exact (Below.refl _ w1).alloc (Nat.le_refl _) _
      have hB3 : Below w.heap.size w W2 := hB2.trans (hA2.mono (by omega))
      have y1 : W2.cell? ⟨w1.heap.size, 1, none⟩ = some (.func (.func 78) #[] #[]) := by rw [hW2]; go_simp
      have z4 := (hA2.cell (p := ⟨w.heap.size, 4, none⟩) hs1).trans z4
      have z5 := (hA2.cell (p := ⟨w.heap.size, 5, none⟩) hs1).trans z5
      have cx := (hA2.cell (p := ⟨g, o + x, none⟩) hg1).trans cx
      have cy := (hA2.cell (p := ⟨g, o + y, none⟩) hg1).trans cy
      go_upto_region 3 with fail
      rw [← hW2]
      clear hW2 hA2
      have CT : Hid (∀ W : World, Calls Tryd.prog 78 #[.bool tx, .bool ty] W fun e w' => e = .returned (.bool (tx || ty)) ∧ w' = W) := fun W => tells7 tx ty W
      go_quiet ((go_at_call 78; exact Calls.quiet_of_same (CT.out _)))
      go_wp2
      go_ret
      exact ⟨by rw [hF2.out]; rfl, by first | exact hB3 | exact hB3.drew | exact below_drewN hB3⟩
  · have hk := not_bounds h
    subst hk
    have hab : 0 ≤ a ∧ a < i := hOW a (by simp [own, isBin, isNot])
    obtain ⟨ha0, hai2⟩ := hab
    obtain ⟨y, hy⟩ : ∃ y : Nat, y = 0 := ⟨0, rfl⟩
    have hbz : b = (y : Int) := by rw [hy]; exact hB8 rfl
    subst hbz
    obtain ⟨x, rfl⟩ := Int.eq_ofNat_of_zero_le ha0
    have hyl0 : y < acc.length := by omega
    clear hy
    have hF2 : Hid (R = !acc.getD x false) := HR.out
    obtain ⟨g, o, rfl, hg, cx⟩ := HROW.out x _ (getD_some (by omega))
    obtain ⟨g', o', hao, _, cy⟩ := HROW.out y _ (getD_some (by omega))
    simp only [Option.some.injEq, Addr.mk.injEq, and_true] at hao
    obtain ⟨rfl, rfl⟩ := hao
    have hxl : (x : Int) < (acc.length : Int) := by omega
    have hyl : (y : Int) < (acc.length : Int) := by omega
    have hx0 : (0 : Int) ≤ (x : Int) := by omega
    have hy0 : (0 : Int) ≤ (y : Int) := by omega
    generalize acc.getD x false = tx at *
    generalize acc.getD y false = ty at *
    generalize acc.length = N at *
    clear HR HROW hOW HF hB8 HB8
    go_enter Tryd.func27, Tryd.ntmps27
    go_wp2_with fail
    refine (wantJoinOf_any 8 _).mono ?_
    rintro e w1 ⟨rfl, hb1⟩
    rw [show isBin 8 = false from rfl, show isJoin 8 = true from rfl, show fnJ 8 = .func (.func 79) #[] #[] from rfl]
    have hB2 : Below w.heap.size w w1 := (hB1 _).trans (hb1.mono (by simp))
    have hs1 : w.heap.size < w1.heap.size := by have := hb1.size; simp at this; omega
    have z4 := (hb1.cell (p := ⟨w.heap.size, 4, none⟩) (by simp)).trans (show _ = some (.int .i64 (x : Int)) by simp)
    have z5 := (hb1.cell (p := ⟨w.heap.size, 5, none⟩) (by simp)).trans (show _ = some (.int .i64 (y : Int)) by simp)
    have cx := (hB2.cell (p := ⟨g, o + x, none⟩) hg).trans cx
    have cy := (hB2.cell (p := ⟨g, o + y, none⟩) hg).trans cy
    have hg1 : g < w1.heap.size := by omega
    clear hb1
    obtain ⟨W2, hW2⟩ : ∃ W, W = w1.alloc (.cells #[.bool false, .func (.func 79) #[] #[]] 102) := ⟨_, rfl⟩
    have hA2 : Below w1.heap.size w1 W2 := by rw [hW2]; exact (Below.refl _ w1).alloc (Nat.le_refl _) _
    have hB3 : Below w.heap.size w W2 := hB2.trans (hA2.mono (by omega))
    have y1 : W2.cell? ⟨w1.heap.size, 1, none⟩ = some (.func (.func 79) #[] #[]) := by rw [hW2]; go_simp
    have z4 := (hA2.cell (p := ⟨w.heap.size, 4, none⟩) hs1).trans z4
    have z5 := (hA2.cell (p := ⟨w.heap.size, 5, none⟩) hs1).trans z5
    have cx := (hA2.cell (p := ⟨g, o + x, none⟩) hg1).trans cx
    have cy := (hA2.cell (p := ⟨g, o + y, none⟩) hg1).trans cy
    go_upto_region 3 with fail
    rw [← hW2]
    clear hW2 hA2
    have CT : Hid (∀ W : World, Calls Tryd.prog 79 #[.bool tx, .bool ty] W fun e w' => e = .returned (.bool !tx) ∧ w' = W) := fun W => tells8 tx ty W
    go_quiet ((go_at_call 79; exact Calls.quiet_of_same (CT.out _)))
    go_wp2
    go_ret
    exact ⟨by rw [hF2.out]; rfl, by first | exact hB3 | exact hB3.drew | exact below_drewN hB3⟩

end Go.Proofs.YtmjpmmkjfimopaaDoor
