/- A session that begins: the model's and the program's. A session that begins: the program's. -/
import Derived.Test.YtnlppeieccbhgaaSnD
namespace Go.Proofs.Ytnlppeieccbhgaa
open Go.RowKit Plain Tpc Ssn

theorem one_rowS (w : World) (B : Nat) (s : ByteArray) (hB : B ≤ w.heap.size) : StRow (w.alloc (.cells #[.string s] 9)) B (.slice (some ⟨w.heap.size, 0, none⟩) 1 1) [s] :=
  ⟨by simp [strs], .inr ⟨w.heap.size, 1, _, rfl, hB, heap_alloc_new w _, by simp, by unfold maxLen; omega, rfl, by simp [strs]⟩⟩

theorem StRow.set6 {w' : World} {B b : Nat} {v x0 x1 x2 x3 x4 x5 : Value} {L : List ByteArray} (h : StRow w' B v L) (hN : ∀ g, v.ownBlock = some g → g ≠ b) : StRow ((((((w'.setCell ⟨b, 0, none⟩ x0).setCell ⟨b, 1, none⟩ x1).setCell ⟨b, 2, none⟩ x2).setCell ⟨b, 3, none⟩ x3).setCell ⟨b, 4, none⟩ x4).setCell ⟨b, 5, none⟩ x5) B v L := by
  have h1 := own_setCellS h b 0 x0 hN
  have h2 := own_setCellS h1 b 1 x1 hN
  have h3 := own_setCellS h2 b 2 x2 hN
  have h4 := own_setCellS h3 b 3 x3 hN
  have h5 := own_setCellS h4 b 4 x4 hN
  exact own_setCellS h5 b 5 x5 hN

theorem Below.set6 {w w' : World} {B b : Nat} {x0 x1 x2 x3 x4 x5 : Value} (h : Below B w w') (hb : B ≤ b) : Below B w ((((((w'.setCell ⟨b, 0, none⟩ x0).setCell ⟨b, 1, none⟩ x1).setCell ⟨b, 2, none⟩ x2).setCell ⟨b, 3, none⟩ x3).setCell ⟨b, 4, none⟩ x4).setCell ⟨b, 5, none⟩ x5) := by
  have h1 := h.setCell (p := ⟨b, 0, none⟩) hb x0
  have h2 := h1.setCell (p := ⟨b, 1, none⟩) hb x1
  have h3 := h2.setCell (p := ⟨b, 2, none⟩) hb x2
  have h4 := h3.setCell (p := ⟨b, 3, none⟩) hb x3
  have h5 := h4.setCell (p := ⟨b, 4, none⟩) hb x4
  exact h5.setCell (p := ⟨b, 5, none⟩) hb x5

set_option maxRecDepth 100000 in
set_option maxHeartbeats 4000000 in
theorem specNewS (t : ByteArray) (w : World) (ht : t.size ≤ 9223372036854775807) : Calls Try.prog 11 #[.string t] w fun e w' => NwO w w' e t := by
  have rc := fun (tmps : Array Value) (P : Program) (w : World) => results_cell1S (fn := Try.f11) (p := 2) (q := 3) (ty := 26) rfl tmps P w
  obtain ⟨W0, hW0⟩ : ∃ W, W = w.alloc (.cells #[.int .i64 0, .slice none 0 0, .int .i64 0, .slice none 0 0, .slice none 0 0, .slice none 0 0] 26) := ⟨_, rfl⟩
  have hB0 : Below w.heap.size w W0 := by rw [hW0]; exact (Below.refl _ w).alloc (Nat.le_refl _) _
  have V1 : Sv W0 w.heap.size (.int .i64 0) (.slice none 0 0) (.int .i64 0) (.slice none 0 0) (.slice none 0 0) (.slice none 0 0) := by rw [hW0]; exact Sv.fresh w _ _ _ _ _ _ _
  have HB : Hid (type_of% hB0) := hB0
  have CT := l15Text_any t W0 ht
  have HNO : Hid (nwK t = false → ∀ w', Below w.heap.size w w' → NwO w w' (.returned (.tuple #[.agg #[.int .i64 0, .slice none 0 0, .int .i64 0, .slice none 0 0, .slice none 0 0, .slice none 0 0], .bool false])) t) := fun h w' hb => NwO.no h hb
  have HYES : Hid (nwK t = true → ∀ w' v, StRow w' w.heap.size v [t] → Below w.heap.size w w' → NwO w w' (.returned (.tuple #[.agg #[.int .i64 1, v, .int .i64 0, .slice none 0 0, .slice none 0 0, .slice none 0 0], .bool true])) t) := fun h w' v hr hb => NwO.yes h hr hb
  rw [show decide (t.size ≤ 20) = nwK t from rfl] at CT
  have hs1 : w.heap.size < W0.heap.size := by rw [hW0]; simp
  have HV : Hid (type_of% V1) := V1
  clear hB0
  generalize nwK t = K at CT HNO HYES
  cases K with
  | false =>
    have y0 := V1.c0
    have y1 := V1.c1
    have y2 := V1.c2
    have y3 := V1.c3
    have y4 := V1.c4
    have y5 := V1.c5
    have z0 := V1.f0
    have z1 := V1.f1
    have z2 := V1.f2
    have z3 := V1.f3
    have z4 := V1.f4
    have z5 := V1.f5
    have hF := HNO.out rfl
    have HF : Hid (type_of% hF) := hF
    clear hF HNO HYES V1
    go_enter Try.func11, Try.ntmps11
    go_upto_region 1 with fail
    rw [← hW0]
    clear hW0
    go_wp2_with fail
    go_at_call 47
    refine CT.mono ?_
    rintro e w1 ⟨rfl, hw1⟩
    have hw1 := hw1.symm
    subst hw1
    go_wp2_with fail
    (try simp only [Exit.inBlock, Exit.then])
    refine bodyPost_ret (v := .tuple #[.agg #[.int .i64 0, .slice none 0 0, .int .i64 0, .slice none 0 0, .slice none 0 0, .slice none 0 0], .bool false]) ?_ rfl (HF.out _ ?_)
    · rw [rc]
      go_simp
    · exact Below.set6 HB.out (Nat.le_refl _)
  | true =>
    obtain ⟨W1, hW1⟩ : ∃ W, W = W0.alloc (.cells #[.string t] 9) := ⟨_, rfl⟩
    have hbA : Below W0.heap.size W0 W1 := by rw [hW1]; exact (Below.refl _ _).alloc (Nat.le_refl _) _
    have hr := one_rowS W0 (w.heap.size + 1) t (by omega)
    rw [← hW1] at hr
    have HR : Hid (type_of% hr) := hr
    have HB1 : Hid (Below w.heap.size w W1) := HB.out.trans (hbA.mono HB.out.size)
    have y0 := V1.c0
    have y1 := V1.c1
    have y2 := V1.c2
    have y3 := V1.c3
    have y4 := V1.c4
    have y5 := V1.c5
    have z0 := V1.f0
    have z1 := V1.f1
    have z2 := V1.f2
    have z3 := V1.f3
    have z4 := V1.f4
    have z5 := V1.f5
    have hF := HYES.out rfl
    have HF : Hid (type_of% hF) := hF
    clear hF HNO HYES V1 hr hbA
    go_enter Try.func11, Try.ntmps11
    go_upto_region 1 with fail
    rw [← hW0]
    clear hW0
    go_wp2_with fail
    go_at_call 47
    refine CT.mono ?_
    rintro e w1 ⟨rfl, hw1⟩
    have hw1 := hw1.symm
    subst hw1
    go_wp2_with fail
    (try simp only [Exit.inBlock, Exit.then])
    refine bodyPost_ret (v := .tuple #[.agg #[.int .i64 1, .slice (some ⟨W0.heap.size, 0, none⟩) 1 1, .int .i64 0, .slice none 0 0, .slice none 0 0, .slice none 0 0], .bool true]) ?_ rfl (HF.out _ _ ?_ ?_)
    · rw [rc]
      go_simp
    · exact (show ∀ (X : World), X.heap.size = W0.heap.size → StRow (X.alloc (.cells #[.string t] 9)) w.heap.size (.slice (some ⟨W0.heap.size, 0, none⟩) 1 1) [t] from fun X hX => by rw [← hX]; exact one_rowS X _ t (by omega)) _ (by simp)
    · exact Below.alloc (Below.set6 HB.out (Nat.le_refl _)) (by simp; omega) _

end Go.Proofs.Ytnlppeieccbhgaa

namespace Go.Proofs.Ytnlppeieccbhgaa
open Go.RowKit Plain Tpc Ssn

set_option maxRecDepth 100000 in
set_option maxHeartbeats 4000000 in
theorem implNewS (t : ByteArray) (w : World) (ht : t.size ≤ 9223372036854775807) : Calls Try.prog 12 #[.string t] w fun e w' => NwO w w' e t := by
  have rc := fun (tmps : Array Value) (P : Program) (w : World) => results_cell1S (fn := Try.f12) (p := 2) (q := 3) (ty := 26) rfl tmps P w
  obtain ⟨W0, hW0⟩ : ∃ W, W = w.alloc (.cells #[.int .i64 0, .slice none 0 0, .int .i64 0, .slice none 0 0, .slice none 0 0, .slice none 0 0] 26) := ⟨_, rfl⟩
  have hB0 : Below w.heap.size w W0 := by rw [hW0]; exact (Below.refl _ w).alloc (Nat.le_refl _) _
  have V1 : Sv W0 w.heap.size (.int .i64 0) (.slice none 0 0) (.int .i64 0) (.slice none 0 0) (.slice none 0 0) (.slice none 0 0) := by rw [hW0]; exact Sv.fresh w _ _ _ _ _ _ _
  have HB : Hid (type_of% hB0) := hB0
  obtain ⟨WL, hWL⟩ : ∃ W, W = W0.alloc (.cells #[.string t] 9) := ⟨_, rfl⟩
  have hbL : Below W0.heap.size W0 WL := by rw [hWL]; exact (Below.refl _ _).alloc (Nat.le_refl _) _
  have CT : Calls Try.prog 48 #[.int .i64 0, .int .i64 20, .slice (some ⟨W0.heap.size, 0, none⟩) 1 1] WL fun e w' => e = .returned (.bool (decide (t.size ≤ 20))) ∧ w' = WL := by
    have h := haveBytes_any 0 20 [t] _ WL (by rw [hWL]; exact one_text t W0) (fun i hi => by
      obtain rfl : i = 0 := by simpa using hi
      simpa [lq] using ht) (by simp)
    rw [hv20] at h
    simpa using h
  have HNO : Hid (nwK t = false → ∀ w', Below w.heap.size w w' → NwO w w' (.returned (.tuple #[.agg #[.int .i64 0, .slice none 0 0, .int .i64 0, .slice none 0 0, .slice none 0 0, .slice none 0 0], .bool false])) t) := fun h w' hb => NwO.no h hb
  have HYES : Hid (nwK t = true → ∀ w' v, StRow w' w.heap.size v [t] → Below w.heap.size w w' → NwO w w' (.returned (.tuple #[.agg #[.int .i64 1, v, .int .i64 0, .slice none 0 0, .slice none 0 0, .slice none 0 0], .bool true])) t) := fun h w' v hr hb => NwO.yes h hr hb
  rw [show decide (t.size ≤ 20) = nwK t from rfl] at CT
  have hs1 : w.heap.size < W0.heap.size := by rw [hW0]; simp
  have V1 := V1.below hbL
  have hs2 : W0.heap.size < WL.heap.size := by rw [hWL]; simp
  have HB : Hid (Below w.heap.size w WL) := HB.out.trans (hbL.mono HB.out.size)
  have HV : Hid (type_of% V1) := V1
  clear hB0 hbL
  have hK20 : nwK t = true → t.size ≤ 20 := fun h => of_decide_eq_true h
  generalize nwK t = K at CT HNO HYES hK20
  cases K with
  | false =>
    have y0 := V1.c0
    have y1 := V1.c1
    have y2 := V1.c2
    have y3 := V1.c3
    have y4 := V1.c4
    have y5 := V1.c5
    have z0 := V1.f0
    have z1 := V1.f1
    have z2 := V1.f2
    have z3 := V1.f3
    have z4 := V1.f4
    have z5 := V1.f5
    have hF := HNO.out rfl
    have HF : Hid (type_of% hF) := hF
    clear hF HNO HYES V1
    go_enter Try.func12, Try.ntmps12
    go_upto_region 1 with fail
    rw [← hW0]
    clear hW0
    go_wp2_with fail
    rw [← hWL]
    clear hWL
    go_at_call 48
    refine CT.mono ?_
    rintro e w1 ⟨rfl, hw1⟩
    have hw1 := hw1.symm
    subst hw1
    go_wp2_with fail
    (try simp only [Exit.inBlock, Exit.then])
    refine bodyPost_ret (v := .tuple #[.agg #[.int .i64 0, .slice none 0 0, .int .i64 0, .slice none 0 0, .slice none 0 0, .slice none 0 0], .bool false]) ?_ rfl (HF.out _ ?_)
    · rw [rc]
      go_simp
    · exact Below.set6 HB.out (Nat.le_refl _)
  | true =>
    have HT20 : Hid (t.size ≤ 20) := hK20 rfl
    have CC := clone_any t WL (by have := HT20.out; omega)
    have y0 := V1.c0
    have hF := HYES.out rfl
    have HF : Hid (type_of% hF) := hF
    clear hF HNO HYES y0 V1
    go_enter Try.func12, Try.ntmps12
    go_upto_region 1 with fail
    rw [← hW0]
    clear hW0
    go_wp2_with fail
    rw [← hWL]
    clear hWL
    go_at_call 48
    refine CT.mono ?_
    rintro e w1 ⟨rfl, hw1⟩
    have hw1 := hw1.symm
    subst hw1
    go_wp2_with fail
    go_at_call 49
    refine CC.mono ?_
    rintro e w2 ⟨rfl, hb2⟩
    have HB2 : Hid (Below w.heap.size w w2) := HB.out.trans (hb2.mono HB.out.size)
    have V2 := HV.out.below hb2
    obtain ⟨W1, hW1⟩ : ∃ W, W = w2.alloc (.cells #[.string t] 9) := ⟨_, rfl⟩
    have hbA : Below w2.heap.size w2 W1 := by rw [hW1]; exact (Below.refl _ _).alloc (Nat.le_refl _) _
    have hr := one_rowS w2 (w.heap.size + 1) t (by have := hb2.size; omega)
    rw [← hW1] at hr
    have HR : Hid (type_of% hr) := hr
    have HB3 : Hid (Below w.heap.size w W1) := HB2.out.trans (hbA.mono HB2.out.size)
    have y0 := V2.c0
    have y1 := V2.c1
    have y2 := V2.c2
    have y3 := V2.c3
    have y4 := V2.c4
    have y5 := V2.c5
    have z0 := V2.f0
    have z1 := V2.f1
    have z2 := V2.f2
    have z3 := V2.f3
    have z4 := V2.f4
    have z5 := V2.f5
    have hlow2 : w.heap.size < w2.heap.size := V2.low
    clear V2 hr hbA hb2 CC
    go_wp2_with fail
    (try simp only [Exit.inBlock, Exit.then])
    refine bodyPost_ret (v := .tuple #[.agg #[.int .i64 1, .slice (some ⟨w2.heap.size, 0, none⟩) 1 1, .int .i64 0, .slice none 0 0, .slice none 0 0, .slice none 0 0], .bool true]) ?_ rfl (HF.out _ _ ?_ ?_)
    · rw [rc]
      go_simp
    · exact (show ∀ (X : World), X.heap.size = w2.heap.size → StRow (X.alloc (.cells #[.string t] 9)) w.heap.size (.slice (some ⟨w2.heap.size, 0, none⟩) 1 1) [t] from fun X hX => by rw [← hX]; exact one_rowS X _ t (by omega)) _ (by simp)
    · exact Below.alloc (Below.set6 HB2.out (Nat.le_refl _)) (by simp; omega) _

end Go.Proofs.Ytnlppeieccbhgaa
