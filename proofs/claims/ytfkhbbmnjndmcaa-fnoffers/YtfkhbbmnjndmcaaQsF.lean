/- The model's NewQueue and GoodQueue. -/
import Derived.Test.YtfkhbbmnjndmcaaQsE
import Derived.Test.YtfkhbbmnjndmcaaGd
namespace Go.Proofs.Ytfkhbbmnjndmcaa
open Go.RowKit Plain Qus

set_option maxRecDepth 100000 in
set_option maxHeartbeats 4000000 in
theorem specNewQ (c r : Int) (w : World) : Calls Try.prog 12 #[.int .i64 c, .int .i64 r] w fun e w' => QuOut w w' (nqQ c r) (fun v => e = .returned (.tuple #[v, .bool (okR c r)])) := by
  have rc := fun (tmps : Array Value) (P : Program) (w : World) => results_cell_tmpQ (fn := Try.f12) (p := 4) (u := 5) (ty := 24) rfl tmps P w
  obtain ⟨W0, hW0⟩ : ∃ W, W = w.alloc (.cells #[.int .i64 0, .int .i64 0, .int .i64 0, .slice none 0 0, .slice none 0 0, .slice none 0 0] 24) := ⟨_, rfl⟩
  have hB0 : Below w.heap.size w W0 := by rw [hW0]; exact (Below.refl _ w).alloc (Nat.le_refl _) _
  have V1 : Sv W0 w.heap.size (.int .i64 0) (.int .i64 0) (.int .i64 0) (.slice none 0 0) (.slice none 0 0) (.slice none 0 0) := by rw [hW0]; exact Sv.fresh w _ _ _ _ _ _ _
  have C1 := l1In_any c 1 10 W0
  have C2 := l1In_any r 1 3 W0
  have HB : Hid (type_of% hB0) := hB0
  have y0 := V1.c0
  have y1 := V1.c1
  have y2 := V1.c2
  have y3 := V1.c3
  have y4 := V1.c4
  have y5 := V1.c5
  have z0 := V1.f0
  have z1 := V1.f1
  have z2 := V1.f2
  have z3 := V1.f3
  have z4 := V1.f4
  have z5 := V1.f5
  clear hB0 V1
  by_cases h1 : 1 ≤ c ∧ c ≤ 10
  · rw [decide_eq_true h1] at C1
    by_cases h2 : 1 ≤ r ∧ r ≤ 3
    · rw [decide_eq_true h2] at C2
      have hok : okR c r = true := okR_ok h1.1 h1.2 h2.1 h2.2
      have HQ : Hid (nqQ c r = ⟨c, r, 0, [], [], []⟩ ∧ okR c r = true) := ⟨by unfold nqQ; rw [if_pos hok], hok⟩
      clear hok h1 h2
      go_enter Try.func12, Try.ntmps12
      go_upto_region 1 with fail
      rw [← hW0]
      clear hW0
      go_wp2_with fail
      go_at_call 44
      refine C1.mono ?_
      rintro e w1 ⟨rfl, hw⟩
      have hw := hw.symm
      subst hw
      go_wp2_with fail
      go_at_call 44
      refine C2.mono ?_
      rintro e w1 ⟨rfl, hw⟩
      have hw := hw.symm
      subst hw
      go_wp2_with fail
      (try simp only [Exit.inBlock, Exit.then])
      refine bodyPost_ret (v := .tuple #[.agg #[.int .i64 c, .int .i64 r, .int .i64 0, .slice none 0 0, .slice none 0 0, .slice none 0 0], .bool true]) ?_ rfl ?_
      · rw [rc]
        go_simp
      · rw [HQ.out.1, HQ.out.2]
        exact ⟨none, 0, none, 0, none, 0, rfl, QuRow.nil _ _ c r 0, Below.set6Q HB.out (Nat.le_refl _)⟩
    · rw [decide_eq_false h2] at C2
      have hok : okR c r = false := okR_r h2
      have HQ : Hid (nqQ c r = qz ∧ okR c r = false) := ⟨by unfold nqQ; rw [hok]; rfl, hok⟩
      clear hok h1 h2
      go_enter Try.func12, Try.ntmps12
      go_upto_region 1 with fail
      rw [← hW0]
      clear hW0
      go_wp2_with fail
      go_at_call 44
      refine C1.mono ?_
      rintro e w1 ⟨rfl, hw⟩
      have hw := hw.symm
      subst hw
      go_wp2_with fail
      go_at_call 44
      refine C2.mono ?_
      rintro e w1 ⟨rfl, hw⟩
      have hw := hw.symm
      subst hw
      go_wp2_with fail
      (try simp only [Exit.inBlock, Exit.then])
      refine bodyPost_ret (v := .tuple #[.agg #[.int .i64 0, .int .i64 0, .int .i64 0, .slice none 0 0, .slice none 0 0, .slice none 0 0], .bool false]) ?_ rfl ?_
      · rw [rc]
        go_simp
      · rw [HQ.out.1, HQ.out.2]
        exact QuOut.zero rfl (Below.set6Q HB.out (Nat.le_refl _))
  · rw [decide_eq_false h1] at C1
    have hok : okR c r = false := okR_c h1
    have HQ : Hid (nqQ c r = qz ∧ okR c r = false) := ⟨by unfold nqQ; rw [hok]; rfl, hok⟩
    clear hok h1 C2
    go_enter Try.func12, Try.ntmps12
    go_upto_region 1 with fail
    rw [← hW0]
    clear hW0
    go_wp2_with fail
    go_at_call 44
    refine C1.mono ?_
    rintro e w1 ⟨rfl, hw⟩
    have hw := hw.symm
    subst hw
    go_wp2_with fail
    (try simp only [Exit.inBlock, Exit.then])
    refine bodyPost_ret (v := .tuple #[.agg #[.int .i64 0, .int .i64 0, .int .i64 0, .slice none 0 0, .slice none 0 0, .slice none 0 0], .bool false]) ?_ rfl ?_
    · rw [rc]
      go_simp
    · rw [HQ.out.1, HQ.out.2]
      exact QuOut.zero rfl (Below.set6Q HB.out (Nat.le_refl _))

/-- what is left of marking a queue's lists, from the k-th on -/
def Lk (q : Qu) (k : Nat) : List Int := if k = 0 then q.wt else if k = 1 then q.hd else q.dr
def rest (q : Qu) (k : Nat) (M : List Int) : Option (List Int) :=
  if k = 0 then (match mkl 1 0 q.wt M with | none => none | some M1 => match mkl 2 0 q.hd M1 with | none => none | some M2 => mkl 3 0 q.dr M2)
  else if k = 1 then (match mkl 2 0 q.hd M with | none => none | some M2 => mkl 3 0 q.dr M2)
  else if k = 2 then mkl 3 0 q.dr M
  else some M
theorem rest_step (q : Qu) (k : Nat) (M : List Int) (hk : k < 3) : rest q k M = match mkl ((k : Int) + 1) 0 (Lk q k) M with | none => none | some M1 => rest q (k + 1) M1 := by
  rcases (show k = 0 ∨ k = 1 ∨ k = 2 by omega) with rfl | rfl | rfl
  · rfl
  · rfl
  · show mkl 3 0 q.dr M = match mkl 3 0 q.dr M with | none => none | some M1 => some M1
    cases mkl 3 0 q.dr M <;> rfl
theorem mk3_rest (q : Qu) : mk3 q = rest q 0 (mk0 q) := rfl

theorem gq_sum_no {q : Qu} (h : ((q.wt.length + q.hd.length + q.dr.length : Nat) : Int) ≠ q.next) (h0 : 0 ≤ q.next) : gq q = false := by
  cases hm : mk3 q with
  | none => exact mk3_no hm
  | some M =>
    have := gq_sum q M hm h0
    unfold gq
    rw [hm]
    cases hc : M.contains 0 with
    | false => exact absurd (this.1 hc) h
    | true =>
      show (g1 q && !M.contains 0) = false
      rw [hc]
      simp
theorem gq_yes {q : Qu} {M : List Int} (h1 : g1 q = true) (hm : mk3 q = some M) (h : ((q.wt.length + q.hd.length + q.dr.length : Nat) : Int) = q.next) (h0 : 0 ≤ q.next) : gq q = true := by
  have := (gq_sum q M hm h0).2 h
  unfold gq
  rw [h1, hm]
  show (true && !M.contains 0) = true
  rw [this]
  rfl

/-- marks as told by Booleans -/
def bl (M : List Int) : List Value := M.map fun m => .bool (m != 0)
theorem bl_set (M : List Int) (i : Nat) (a : Int) (ha : a ≠ 0) : bl (M.set i a) = (bl M).set i (.bool true) := by
  unfold bl
  rw [List.map_set]
  congr 1
  simp [ha]
theorem bl_get {M : List Int} {i : Nat} (hi : i < M.length) : (bl M)[i]? = some (.bool (M.getD i 0 != 0)) := by
  unfold bl
  rw [List.getElem?_map, some_getD hi]
  rfl

theorem infoBoolQ : (Try.prog.info? 4).map (fun i => (i.zero, i.size, i.bytes)) = some (some (.bool false), 1, 1) := by kernel_rfl

end Go.Proofs.Ytfkhbbmnjndmcaa
