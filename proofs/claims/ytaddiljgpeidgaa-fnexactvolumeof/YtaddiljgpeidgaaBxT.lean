/- The law's own copies of boxes. -/
import Derived.Test.YtaddiljgpeidgaaBxM
import Derived.Laws.MakeOwn
import Derived.Laws.ResultCell
namespace Go.Proofs.Ytaddiljgpeidgaa
open Go.RowKit Plain Sch Bxs

theorem Try.infoSd : (Try.prog.info? 70).map (fun i => (i.zero, i.size, i.bytes)) = some (some (.agg #[.int .i64 0, .int .i64 0]), 2, 16) := by kernel_rfl

set_option maxRecDepth 100000 in
set_option maxHeartbeats 1000000 in
theorem toSide_any (lo hi : Int) (w : World) :
    Calls Try.prog 84 #[.agg #[.int .i64 lo, .int .i64 hi]] w fun e w' => e = .returned (.agg #[.int .i64 lo, .int .i64 hi]) ∧ Below w.heap.size w w' := by
  go_enter Try.func84, Try.ntmps84
  go_wp2
  (try simp only [Exit.inBlock, Exit.then])
  refine bodyPost_ret (v := .agg #[.int .i64 lo, .int .i64 hi]) ?_ rfl ⟨rfl, ?_⟩
  · have rc : ∀ (tmps : Array Value) (P : Program) (w : World), (results Try.f84 tmps).run P w = ((asAddr (tmps.getD 2 undef)).run P w).andThen fun a w₁ => (loadVar 70 a).run P w₁ := fun tmps P w => by
      have h : Try.f84.results = #[.cell 2 70] := rfl
      simp only [results, h]
      simp [Sem.run_bind, Result.andThen]
    rw [rc]
    go_simp
  · repeat' (first | exact Below.refl _ _ | refine Below.alloc ?_ (by simp <;> omega) _ | refine Below.setCell ?_ (by simp <;> omega) _)

theorem set2_eq (ys : List Value) (T : List Sd) (i : Nat) (t : Sd) (hl : ys.length = T.length * 2) (hi : i < T.length) (ht : sd T i = t) (hm : ∀ m, m < i → ∀ j, j < 2 → ys[m * 2 + j]? = (sd T m).cells[j]?) : ∀ m, m < i + 1 → ∀ j, j < 2 →
    ((ys.set (i * 2) (.int .i64 t.lo)).set (i * 2 + 1) (.int .i64 t.hi))[m * 2 + j]? = (sd T m).cells[j]? := by
  intro m hmi j hj
  simp only [List.getElem?_set, List.length_set]
  by_cases hme : m = i
  · subst hme
    rw [ht]
    match j, hj with
    | 0, _ => simp [Sd.cells]; omega
    | 1, _ => simp [Sd.cells]; omega
  · rw [if_neg (by omega), if_neg (by omega)]
    exact hm m (by omega) j hj

set_option maxRecDepth 100000 in
set_option maxHeartbeats 4000000 in
theorem toSideS_any (T : List Sd) (v : Value) (w : World) (hT : SdsAt w w.heap.size v T) (hl : T.length ≤ 1048576) :
    Calls Try.prog 57 #[v] w fun e w' => ∃ r, e = .returned r ∧ w'.ownsRow w.heap.size 70 2 r T.length (T.flatMap Sd.cells) ∧ Below w.heap.size w w' := by
  obtain ⟨i0, hi, hz0, hz1, hz2⟩ := info_parts Try.infoSd
  obtain ⟨ao, cap, rfl, _, hmax, hrow⟩ := hT
  have HROW : Hid (∀ i, i < T.length → ∃ g o, ao = some ⟨g, o, none⟩ ∧ g < w.heap.size ∧ SdIn w g (o + i * 2) (sd T i)) := hrow
  clear hrow
  obtain ⟨M, hM⟩ : ∃ M, M = madeCells (Value.agg #[.int .i64 0, .int .i64 0]).cells (((T.length : Nat) : Int).toNat * i0.size) := ⟨_, rfl⟩
  have hMs : M.size = T.length * 2 := by rw [hM, size_madeCells, hz1]; simp
  have hmk : ∀ W : World, (Instr.makeSlice 27 (.int .i64 (T.length : Int)) (.int .i64 (T.length : Int))).run Try.prog W = .ok (.slice (some ⟨W.heap.size, 0, none⟩) T.length T.length) (W.alloc (.cells M 70)) := fun W => by
    have h := run_make (P := Try.prog) W 27 70 i0 (.agg #[.int .i64 0, .int .i64 0]) Try.underlying27 hi hz0 .i64 .i64 (T.length : Int) (T.length : Int) (by omega) (by omega) (by rw [hz2]; omega) (by omega)
    rw [← hM] at h
    simpa using h
  have hown0 : (w.alloc (.cells M 70)).ownsRow w.heap.size 70 2 (.slice (some ⟨w.heap.size, 0, none⟩) T.length T.length) T.length M.toList :=
    ⟨by simp [hMs], .inr ⟨w.heap.size, T.length, M, rfl, Nat.le_refl _, heap_alloc_new w _, Nat.le_refl _, by unfold maxLen; omega, hMs, by rw [List.take_of_length_le (by simp [hMs])]⟩⟩
  clear hM
  go_enter Try.func57, Try.ntmps57
  go_wp2
  go_loopw [4] (fun vi wr => ∃ (i : Nat) (ys : List Value), i ≤ T.length ∧ vi = .int .i64 (i : Int) ∧ wr.ownsRow w.heap.size 70 2 (.slice (some ⟨w.heap.size, 0, none⟩) T.length T.length) T.length ys ∧ Hid (∀ m, m < i → ∀ j, j < 2 → ys[m * 2 + j]? = (sd T m).cells[j]?) ∧ Below w.heap.size w wr)
    (fun vi _ => T.length - (intOf vi).toNat)
  case atStart => exact ⟨0, M.toList, by omega, rfl, hown0, fun m hm => by omega, (Below.refl _ w).alloc (Nat.le_refl _) _⟩
  case round =>
    obtain ⟨i, ys, hil, rfl, hown, hys, hbw⟩ := hrel
    clear hown0 hmk
    have hyl : ys.length = T.length * 2 := hown.1
    by_cases hlt : i < T.length
    · have hlt' : (i : Int) < (T.length : Int) := by omega
      obtain ⟨g, o, rfl, hg, hty⟩ := HROW.out i hlt
      have hci := hty.below hbw hg
      have hsz : w.heap.size < wr.heap.size := (hown.lt w.heap.size rfl).2
      obtain ⟨ti, hti⟩ : ∃ t, sd T i = t := ⟨_, rfl⟩
      have HTI : Hid (sd T i = ti) := hti
      rw [hti] at hci
      clear hti hty
      obtain ⟨lo, hi⟩ := ti
      obtain ⟨c0, c1⟩ := hci
      dsimp only at c0 c1
      go_wp2_with fail
      refine (toSide_any lo hi _).mono ?_
      rintro e w2 ⟨rfl, hb2⟩
      have how2 := own_below2 hown hb2
      have hbw2 : Below w.heap.size w w2 := hbw.trans (hb2.mono hbw.size)
      have how8 := ((how2.stored (i * 2) (.int .i64 lo)).1.stored (i * 2 + 1) (.int .i64 hi)).1
      have HS : Hid (∀ m, m < i + 1 → ∀ j, j < 2 → ((ys.set (i * 2) (.int .i64 lo)).set (i * 2 + 1) (.int .i64 hi))[m * 2 + j]? = (sd T m).cells[j]?) := set2_eq ys T i ⟨lo, hi⟩ hyl hlt HTI.out hys.out
      have q : ∀ j, j < 2 → ∃ u, w2.cell? ⟨w.heap.size, i * 2 + j, none⟩ = some u := fun j hj => by
        have := how2.cellAt (i * 2 + j) (by omega)
        rw [List.getElem?_eq_getElem (by omega)] at this
        exact ⟨_, this⟩
      obtain ⟨u0, q0⟩ := q 0 (by omega)
      obtain ⟨u1, q1⟩ := q 1 (by omega)
      rw [Nat.add_zero] at q0
      have z0 := how2.frozenAt (i * 2)
      have z1 := how2.frozenAt (i * 2 + 1)
      generalize (ys.set (i * 2) (Value.int .i64 lo)).set (i * 2 + 1) (.int .i64 hi) = zs at how8 HS
      clear how2 hown hb2 hbw q hys c0 c1
      go_wp2
      go_roundw
      case rel => exact ⟨i + 1, zs, by omega, by go_num, how8, HS, (hbw2.setCell (Nat.le_refl _) _).setCell (Nat.le_refl _) _⟩
      case measure => simp [intOf]; omega
    · have hke : i = T.length := by omega
      subst hke
      have hge : ¬ ((T.length : Int) < (T.length : Int)) := by omega
      have hE : Hid (ys = T.flatMap Sd.cells) := ys2_eq T ys hyl hys.out
      clear hys
      go_wp2
      go_ret
      exact ⟨_, rfl, by rw [← hE.out]; exact hown, hbw⟩

set_option maxRecDepth 100000 in
set_option maxHeartbeats 1000000 in
theorem toBox_any (T : List Sd) (v : Value) (w : World) (hT : SdsAt w w.heap.size v T) (hl : T.length ≤ 1048576) :
    Calls Try.prog 16 #[.agg #[v]] w fun e w' => ∃ r, e = .returned (.agg #[r]) ∧ w'.ownsRow w.heap.size 70 2 r T.length (T.flatMap Sd.cells) ∧ Below w.heap.size w w' := by
  have HT : Hid (SdsAt w w.heap.size v T) := hT
  obtain ⟨ao, cap, rfl, _⟩ := hT
  obtain ⟨W3, hW3⟩ : ∃ W, W = ((w.alloc (.cells #[.slice ao T.length cap] 24)).alloc (.cells #[.slice none 0 0] 29)).alloc (.cells #[.slice none 0 0] 29) := ⟨_, rfl⟩
  have hB3 : Below w.heap.size w W3 := by rw [hW3]; exact (((Below.refl _ w).alloc (Nat.le_refl _) _).alloc (by simp) _).alloc (by simp; omega) _
  have hs3 : W3.heap.size = w.heap.size + 3 := by rw [hW3]; simp
  have x1 : W3.cell? ⟨w.heap.size + 1, 0, none⟩ = some (.slice none 0 0) := by rw [hW3]; go_simp
  have x2 : W3.cell? ⟨w.heap.size + 1 + 1, 0, none⟩ = some (.slice none 0 0) := by rw [hW3]; go_simp
  have f1 : W3.frozen? ⟨w.heap.size + 1, 0, none⟩ = false := by rw [hW3]; go_simp
  have f2 : W3.frozen? ⟨w.heap.size + 1 + 1, 0, none⟩ = false := by rw [hW3]; go_simp
  go_enter Try.func16, Try.ntmps16
  go_wp2_with fail
  rw [← hW3]
  clear hW3
  refine (toSideS_any T _ W3 (HT.out.below hB3) hl).mono ?_
  rintro e w4 ⟨r, rfl, hr, hb4⟩
  have hs4 := hb4.size
  have hB4 : Below w.heap.size w w4 := hB3.trans (hb4.mono hB3.size)
  have x1 := (hb4.cell (p := ⟨w.heap.size + 1, 0, none⟩) (by show w.heap.size + 1 < _; omega)).trans x1
  have x2 := (hb4.cell (p := ⟨w.heap.size + 1 + 1, 0, none⟩) (by show w.heap.size + 1 + 1 < _; omega)).trans x2
  have f1 := (hb4.frozen (p := ⟨w.heap.size + 1, 0, none⟩) (by show w.heap.size + 1 < _; omega)).trans f1
  have f2 := (hb4.frozen (p := ⟨w.heap.size + 1 + 1, 0, none⟩) (by show w.heap.size + 1 + 1 < _; omega)).trans f2
  have HO : Hid (w4.ownsRow W3.heap.size 70 2 r T.length (T.flatMap Sd.cells)) := hr
  obtain ⟨ar, capr, hrv⟩ : ∃ ao cap, r = Value.slice ao T.length cap := by
    rcases hr.2 with ⟨rfl, h0⟩ | ⟨g, cap, _, rfl, _⟩
    · exact ⟨none, 0, by rw [h0]⟩
    · exact ⟨_, _, rfl⟩
  subst hrv
  clear hr hb4
  go_wp2
  (try simp only [Exit.inBlock, Exit.then])
  refine bodyPost_ret (v := .agg #[.slice ar T.length capr]) ?_ rfl ⟨_, rfl, ?_, ?_⟩
  · have rc : ∀ (tmps : Array Value) (P : Program) (w : World), (results Try.f16 tmps).run P w = ((asAddr (tmps.getD 2 undef)).run P w).andThen fun a w₁ => (loadVar 29 a).run P w₁ := fun tmps P w => by
      have h : Try.f16.results = #[.cell 2 29] := rfl
      simp only [results, h]
      simp [Sem.run_bind, Result.andThen]
    rw [rc]
    go_simp
  · have h1 := ownsRow_setCell_below (ownsRow_setCell_below HO.out (a := ⟨w.heap.size + 1 + 1, 0, none⟩) (by show w.heap.size + 1 + 1 < _; omega) (.slice ar T.length capr)) (a := ⟨w.heap.size + 1, 0, none⟩) (by show w.heap.size + 1 < _; omega) (.slice ar T.length capr)
    refine ⟨h1.1, ?_⟩
    rcases h1.2 with h | ⟨g', cap', cur, h1, h2, h3⟩
    · exact .inl h
    · exact .inr ⟨g', cap', cur, h1, by omega, h3⟩
  · repeat' (first | exact hB4 | refine Below.setCell ?_ (by simp <;> omega) _)

end Go.Proofs.Ytaddiljgpeidgaa
