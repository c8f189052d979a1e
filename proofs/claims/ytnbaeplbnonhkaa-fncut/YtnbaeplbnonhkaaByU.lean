/- The program's UnionHas. -/
import Derived.Test.YtnbaeplbnonhkaaByA
import Derived.Test.YtnbaeplbnonhkaaBxJ
namespace Go.Proofs.Ytnbaeplbnonhkaa
open Go.RowKit Plain Sch Bxs

set_option maxRecDepth 100000 in
set_option maxHeartbeats 4000000 in
theorem hasFn_any (x y : Bx) (b : Nat) (w : World) (hy : ArrAt w b y) :
    Calls Try.prog 48 #[x.val, .pointer (some ⟨b, 0, none⟩)] w fun e w' => e = .returned (.bool (cov x y)) ∧ Below w.heap.size w w' := by
  obtain ⟨R, hR⟩ : ∃ R, R = cov x y := ⟨_, rfl⟩
  rw [← hR]
  have HR : Hid (cov x y = R) := hR.symm
  clear hR
  obtain ⟨W1, hW1⟩ : ∃ W, W = w.alloc x.obj := ⟨_, rfl⟩
  have hB1 : Below w.heap.size w W1 := by rw [hW1]; exact (Below.refl _ w).alloc (Nat.le_refl _) _
  have hA0 : Hid (ArrAt W1 w.heap.size x) := by rw [hW1]; exact ArrAt.made w x
  have hA1 : Hid (ArrAt W1 b y) := hy.below hB1 hy.1
  obtain ⟨hbz, ⟨d0, d1, d2, d3, d4, d5⟩, _⟩ := hA1.out
  obtain ⟨_, ⟨c0, c1, c2, c3, c4, c5⟩, _⟩ := hA0.out
  obtain ⟨⟨x0, x1⟩, ⟨x2, x3⟩, ⟨x4, x5⟩⟩ := x
  obtain ⟨⟨y0, y1⟩, ⟨y2, y3⟩, ⟨y4, y5⟩⟩ := y
  unfold Bx.val
  dsimp only [Bx.obj] at hW1
  dsimp only [Nat.zero_add] at c0 c1 c2 c3 c4 c5 d0 d1 d2 d3 d4 d5
  go_enter Try.func48, Try.ntmps48
  go_upto_region 1 with fail
  rw [← hW1]
  clear hW1 hy
  go_wp2_with fail
  refine (covers_any ⟨⟨x0, x1⟩, ⟨x2, x3⟩, ⟨x4, x5⟩⟩ ⟨⟨y0, y1⟩, ⟨y2, y3⟩, ⟨y4, y5⟩⟩ _).mono ?_
  rintro e w4 ⟨rfl, hb4⟩
  have hB4 : Below w.heap.size w w4 := hB1.trans (hb4.mono hB1.size)
  rw [HR.out]
  go_wp2
  go_ret
  exact ⟨rfl, hB4⟩

theorem any_xb (X : List Bx) (f : Bx → Bool) (h : ∀ i, i < X.length → f (xb X i) = false) : X.any f = false := by
  rw [List.any_eq_false]
  intro x hx
  obtain ⟨i, hi, he⟩ := List.getElem_of_mem hx
  have := h i hi
  unfold xb at this
  rw [List.getD, List.getElem?_eq_getElem hi] at this
  rw [← he]
  simpa using this

theorem any_at (X : List Bx) (f : Bx → Bool) {i : Nat} (hi : i < X.length) (h : f (xb X i) = true) : X.any f = true := by
  rw [List.any_eq_true]
  refine ⟨X[i], List.getElem_mem hi, ?_⟩
  unfold xb at h
  rw [List.getD, List.getElem?_eq_getElem hi] at h
  exact h

set_option maxRecDepth 100000 in
set_option maxHeartbeats 4000000 in
theorem indexFunc_any (X : List Bx) (y : Bx) (b : Nat) (v : Value) (w : World) (hX : AsAt w w.heap.size v X) (hy : ArrAt w b y) :
    Calls Try.prog 58 #[v, .func (.func 48) #[] #[.pointer (some ⟨b, 0, none⟩)]] w fun e w' => (∃ r : Int, e = .returned (.int .i64 r) ∧ decide (0 ≤ r) = X.any (fun x => cov x y)) ∧ Below w.heap.size w w' := by
  obtain ⟨ao, cap, rfl, hlc, hcm, hrow⟩ := hX
  unfold maxLen at hcm
  have HROW : Hid (∀ i, i < X.length → ∃ g o, ao = some ⟨g, o, none⟩ ∧ g < w.heap.size ∧ ArrIn w g (o + i * 6) (xb X i)) := hrow
  have HY : Hid (ArrAt w b y) := hy
  clear hrow hy
  obtain ⟨R, hR⟩ : ∃ R, R = X.any (fun x => cov x y) := ⟨_, rfl⟩
  rw [← hR]
  have HR : Hid (R = X.any (fun x => cov x y)) := hR
  clear hR
  go_enter Try.func58, Try.ntmps58
  go_wp2
  go_loopw [8] (fun vi wr => ∃ i : Nat, i ≤ X.length ∧ vi = .int .i64 (i : Int) ∧ Hid (∀ j, j < i → cov (xb X j) y = false) ∧ Hid (Below w.heap.size w wr))
    (fun vi _ => X.length - (intOf vi).toNat)
  case atStart => exact ⟨0, by omega, rfl, fun j hj => by omega, Below.refl _ _⟩
  case round =>
    obtain ⟨i, hi, rfl, hall, hBw⟩ := hrel
    by_cases hlt : i < X.length
    · have hlt' : (i : Int) < (X.length : Int) := by omega
      obtain ⟨g, o, rfl, hg, hc⟩ := HROW.out i hlt
      have hci := hc.below hBw.out hg
      obtain ⟨x, hx⟩ : ∃ x, xb X i = x := ⟨_, rfl⟩
      have HXI : Hid (xb X i = x) := hx
      rw [hx] at hci
      clear hx hc
      have HC : Hid (Calls Try.prog 48 #[x.val, .pointer (some ⟨b, 0, none⟩)] wr fun e w' => e = .returned (.bool (cov x y)) ∧ Below wr.heap.size wr w') := hasFn_any x y b wr (HY.out.below hBw.out HY.out.1)
      obtain ⟨c, hcv⟩ : ∃ c, cov x y = c := ⟨_, rfl⟩
      have HCV : Hid (cov x y = c) := hcv
      rw [hcv] at HC
      clear hcv
      obtain ⟨⟨x0, x1⟩, ⟨x2, x3⟩, ⟨x4, x5⟩⟩ := x
      obtain ⟨c0, c1, c2, c3, c4, c5⟩ := hci
      unfold Bx.val at HC
      dsimp only at c0 c1 c2 c3 c4 c5 HC
      go_wp2_with fail
      refine HC.out.mono ?_
      rintro e w2 ⟨rfl, hb2⟩
      have HB2 : Hid (Below w.heap.size w w2) := hBw.out.trans (hb2.mono hBw.out.size)
      clear hb2 hBw c0 c1 c2 c3 c4 c5 HC
      cases c with
      | true =>
        have hF : Hid (R = true) := HR.out.trans (any_at X _ hlt (by rw [HXI.out]; exact HCV.out))
        clear hall
        go_wp2
        go_ret
        exact ⟨⟨_, rfl, by rw [hF.out]; simp⟩, HB2.out⟩
      | false =>
        have hN : Hid (∀ j, j < i + 1 → cov (xb X j) y = false) := fun j hj => by
          by_cases e : j = i
          · rw [e, HXI.out]; exact HCV.out
          · exact hall.out j (by omega)
        clear hall
        go_wp2
        go_roundw
        case rel => exact ⟨i + 1, by omega, by go_num, hN, HB2⟩
        case measure => simp [intOf]; omega
    · have hke : i = X.length := by omega
      subst hke
      have hge : ¬ ((X.length : Int) < (X.length : Int)) := by omega
      have hF : Hid (R = false) := HR.out.trans (any_xb X _ hall.out)
      clear hall
      go_wp2
      go_ret
      exact ⟨⟨_, rfl, by rw [hF.out]; decide⟩, hBw.out⟩

set_option maxRecDepth 100000 in
set_option maxHeartbeats 4000000 in
theorem containsFunc_any (X : List Bx) (y : Bx) (b : Nat) (v : Value) (w : World) (hX : AsAt w w.heap.size v X) (hy : ArrAt w b y) :
    Calls Try.prog 47 #[v, .func (.func 48) #[] #[.pointer (some ⟨b, 0, none⟩)]] w fun e w' => e = .returned (.bool (X.any (fun x => cov x y))) ∧ Below w.heap.size w w' := by
  have HX : Hid (AsAt w w.heap.size v X) := hX
  have HY : Hid (ArrAt w b y) := hy
  obtain ⟨ao, cap, rfl, _⟩ := hX
  clear hy
  obtain ⟨R, hR⟩ : ∃ R, R = X.any (fun x => cov x y) := ⟨_, rfl⟩
  rw [← hR]
  have HR : Hid (X.any (fun x => cov x y) = R) := hR.symm
  clear hR
  go_enter Try.func47, Try.ntmps47
  go_wp2_with fail
  refine (indexFunc_any X y b _ _ HX.out HY.out).mono ?_
  rw [HR.out]
  rintro e w2 ⟨⟨r, rfl, hr⟩, hb2⟩
  have HRR : Hid (decide (0 ≤ r) = R) := hr
  clear hr
  by_cases h : 0 ≤ r
  · have h' : Hid (R = true) := by show _ = _; rw [← HRR.out]; simpa using h
    go_wp2
    go_ret
    exact ⟨by rw [h'.out]; rfl, hb2⟩
  · have h' : Hid (R = false) := by show _ = _; rw [← HRR.out]; simpa using h
    have hd : decide (0 ≤ r) = false := by simpa using h
    clear h
    go_wp2
    go_ret
    exact ⟨by rw [h'.out]; rfl, hb2⟩

/-- what UnionHas tells -/
def uno (M : List (List Sd)) (p : List Int) : Bool := gl M && gb (dup p) && (M.map bx).any (fun x => cov x (bx (dup p)))

set_option maxRecDepth 100000 in
set_option maxHeartbeats 4000000 in
theorem implUnion (M : List (List Sd)) (p : List Int) (v u : Value) (w : World) (hT : BxsAt w w.heap.size v M) (hp : ZAt w w.heap.size u p) :
    Calls Try.prog 21 #[v, u] w fun e w' => e = .returned (.tuple #[.bool (uno M p), .bool (gl M && gb (dup p))]) ∧ Below w.heap.size w w' := by
  have HT : Hid (BxsAt w w.heap.size v M) := hT
  have HP : Hid (ZAt w w.heap.size u p) := hp
  obtain ⟨ao, cap, rfl, _⟩ := hT
  obtain ⟨bo, dap, rfl, _⟩ := hp
  obtain ⟨X, hX⟩ : ∃ X, X = sal M := ⟨_, rfl⟩
  obtain ⟨Y, hY⟩ : ∃ Y, Y = sof (dup p) := ⟨_, rfl⟩
  obtain ⟨g1, hg1⟩ : ∃ g, g = gl M := ⟨_, rfl⟩
  obtain ⟨g2, hg2⟩ : ∃ g, g = gb (dup p) := ⟨_, rfl⟩
  obtain ⟨R, hR⟩ : ∃ R, R = uno M p := ⟨_, rfl⟩
  rw [← hR, ← hg1, ← hg2]
  have HNo : Hid ((g1 && g2) = false → R = false) := fun h => by rw [hR]; unfold uno; rw [← hg1, ← hg2, h]; rfl
  have HYes : Hid (g1 = true → g2 = true → R = X.any (fun x => cov x Y)) := fun h1 h2 => by
    rw [hR, hX, hY]
    unfold uno sal sof
    rw [← hg1, ← hg2, h1, h2]
    rfl
  have S1 : Hid (∀ W v, BxsAt W W.heap.size v M → Calls Try.prog 44 #[v] W fun e w' => (∃ r, e = .returned (.tuple #[r, .bool g1]) ∧ ARow w' W.heap.size r X) ∧ Below W.heap.size W w') := fun W v h => by rw [hX, hg1]; exact sidesOfAll_any M v W h
  have S2 : Hid (∀ W v, ZAt W W.heap.size v p → Calls Try.prog 42 #[v] W fun e w' => e = .returned (.tuple #[Y.val, .bool g2]) ∧ Below W.heap.size W w') := fun W v h => by rw [hY, hg2]; exact sidesOfPoint_any p v W h
  clear hR hX hY hg1 hg2
  go_enter Try.func21, Try.ntmps21
  go_wp2_with fail
  refine (S1.out _ _ HT.out).mono ?_
  rintro e w2 ⟨⟨r2, rfl, hr2⟩, hb2⟩
  have HR2 : Hid (ARow w2 w.heap.size r2 X) := hr2
  obtain ⟨ar, cr, rfl⟩ := hr2.slice
  clear hr2
  go_wp2_with fail
  refine (S2.out _ _ (HP.out.below hb2)).mono ?_
  rintro e w4 ⟨rfl, hb4⟩
  have hB4 : Below w.heap.size w w4 := hb2.trans (hb4.mono hb2.size)
  have HR4 : Hid (ARow w4 w.heap.size (.slice ar X.length cr) X) := HR2.out.below hb4
  obtain ⟨W5, hW5⟩ : ∃ W, W = w4.alloc Y.obj := ⟨_, rfl⟩
  have hA8 : Hid (ArrAt W5 w4.heap.size Y) := by rw [hW5]; exact ArrAt.made w4 Y
  have hB45 : Below w4.heap.size w4 W5 := by rw [hW5]; exact (Below.refl _ w4).alloc (Nat.le_refl _) _
  have hB5 : Below w.heap.size w W5 := hB4.trans (hB45.mono hB4.size)
  have HX5 : Hid (AsAt W5 W5.heap.size (.slice ar X.length cr) X) := HR4.out.at.below hB45
  have CF : Hid (Calls Try.prog 47 #[.slice ar X.length cr, .func (.func 48) #[] #[.pointer (some ⟨w4.heap.size, 0, none⟩)]] W5 fun e w' => e = .returned (.bool (X.any (fun x => cov x Y))) ∧ Below W5.heap.size W5 w') := containsFunc_any X Y w4.heap.size _ W5 HX5.out hA8.out
  obtain ⟨⟨y0, y1⟩, ⟨y2, y3⟩, ⟨y4, y5⟩⟩ := Y
  unfold Bx.val
  dsimp only [Bx.obj] at hW5
  dsimp only
  clear hb4 hA8 hB45 S1 S2 hb2 HR2 HR4 HX5
  go_upto_region 3 with fail
  rw [← hW5]
  clear hW5
  cases g1 with
  | false =>
    have hF : Hid (R = false) := HNo.out rfl
    clear HNo HYes CF
    go_wp2
    go_ret2
    exact ⟨by rw [hF.out]; rfl, hB5⟩
  | true =>
    cases g2 with
    | false =>
      have hF : Hid (R = false) := HNo.out rfl
      clear HNo HYes CF
      go_wp2
      go_ret2
      exact ⟨by rw [hF.out]; rfl, hB5⟩
    | true =>
      have hF := HYes.out rfl rfl
      rw [← hF] at CF
      clear HNo HYes hF
      go_wp2_with fail
      refine CF.out.mono ?_
      rintro e w6 ⟨rfl, hb6⟩
      have hB6 : Below w.heap.size w w6 := hB5.trans (hb6.mono hB5.size)
      go_wp2
      go_ret2
      exact ⟨rfl, hB6⟩

end Go.Proofs.Ytnbaeplbnonhkaa
