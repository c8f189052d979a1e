/- The law's own copies of values. -/
import Derived.Test.YtpajdmhakdbkjaaNdE
import Derived.Test.YtpajdmhakdbkjaaGq
namespace Go.Proofs.Ytpajdmhakdbkjaa
open Go.RowKit Plain Sch

theorem ys_eqN (l : List Ty) (ys : List Value) (hl : ys.length = l.length * 5) (h : ∀ i, i < l.length → ∀ j, j < 5 → ys[i * 5 + j]? = (ty l i).ncells[j]?) : ys = l.flatMap Ty.ncells := by
  apply List.ext_getElem?
  intro k
  by_cases hk : k < l.length * 5
  · have e : k = k / 5 * 5 + k % 5 := by omega
    rw [e, h (k / 5) (by omega) (k % 5) (by omega), flat5N l (k / 5) (k % 5) (by omega) (by omega)]
  · rw [List.getElem?_eq_none (by omega), List.getElem?_eq_none (by rw [flat5_len]; omega)]

set_option maxRecDepth 100000 in
set_option maxHeartbeats 1000000 in
theorem toNode_any (name : ByteArray) (no : Int) (must : Bool) (up most : Int) (w : World) :
    Calls Try.prog 99 #[.agg #[.int .i64 most, .string name, .int .i64 no, .int .i64 up, .bool must]] w fun e w' => e = .returned (.agg #[.int .i64 most, .string name, .int .i64 no, .int .i64 up, .bool must]) ∧ Below w.heap.size w w' := by
  go_enter Try.func99, Try.ntmps99
  go_wp2
  (try simp only [Exit.inBlock, Exit.then])
  refine bodyPost_ret (v := .agg #[.int .i64 most, .string name, .int .i64 no, .int .i64 up, .bool must]) ?_ rfl ⟨rfl, ?_⟩
  · have rc : ∀ (tmps : Array Value) (P : Program) (w : World), (results Try.f99 tmps).run P w = ((asAddr (tmps.getD 2 undef)).run P w).andThen fun a w₁ => (loadVar 85 a).run P w₁ := fun tmps P w => by
      have h : Try.f99.results = #[.cell 2 85] := rfl
      simp only [results, h]
      simp [Sem.run_bind, Result.andThen]
    rw [rc]
    go_simp
  · repeat' (first | exact Below.refl _ _ | refine Below.alloc ?_ (by simp <;> omega) _ | refine Below.setCell ?_ (by simp <;> omega) _)

theorem set5_eqN (ys : List Value) (T : List Ty) (i : Nat) (t : Ty) (hl : ys.length = T.length * 5) (hi : i < T.length) (ht : ty T i = t) (hm : ∀ m, m < i → ∀ j, j < 5 → ys[m * 5 + j]? = (ty T m).ncells[j]?) : ∀ m, m < i + 1 → ∀ j, j < 5 →
    (((((ys.set (i * 5) (.int .i64 t.most)).set (i * 5 + 1) (.string t.name)).set (i * 5 + 2) (.int .i64 t.no)).set (i * 5 + 3) (.int .i64 t.up)).set (i * 5 + 4) (.bool t.must))[m * 5 + j]? = (ty T m).ncells[j]? := by
  intro m hmi j hj
  simp only [List.getElem?_set, List.length_set]
  by_cases hme : m = i
  · subst hme
    rw [ht]
    match j, hj with
    | 0, _ => simp [Ty.ncells]; omega
    | 1, _ => simp [Ty.ncells]; omega
    | 2, _ => simp [Ty.ncells]; omega
    | 3, _ => simp [Ty.ncells]; omega
    | 4, _ => simp [Ty.ncells]; omega
  · rw [if_neg (by omega), if_neg (by omega), if_neg (by omega), if_neg (by omega), if_neg (by omega)]
    exact hm m (by omega) j hj

set_option maxRecDepth 100000 in
set_option maxHeartbeats 4000000 in
theorem toNodeS_any (T : List Ty) (v : Value) (w : World) (hT : NdsAt w w.heap.size v T) (hl : T.length ≤ 1048576) :
    Calls Try.prog 61 #[v] w fun e w' => ∃ r, e = .returned r ∧ w'.ownsRow w.heap.size 85 5 r T.length (T.flatMap Ty.ncells) ∧ Below w.heap.size w w' := by
  obtain ⟨i0, hi, hz0, hz1, hz2⟩ := info_parts Try.infoNd
  obtain ⟨ao, cap, rfl, _, hmax, hrow, _⟩ := hT
  have HROW : Hid (∀ i, i < T.length → ∃ g o, ao = some ⟨g, o, none⟩ ∧ g < w.heap.size ∧ NoIn w g (o + i * 5) (ty T i)) := hrow
  clear hrow
  obtain ⟨M, hM⟩ : ∃ M, M = madeCells (Value.agg #[.int .i64 0, .string ⟨#[]⟩, .int .i64 0, .int .i64 0, .bool false]).cells (((T.length : Nat) : Int).toNat * i0.size) := ⟨_, rfl⟩
  have hMs : M.size = T.length * 5 := by rw [hM, size_madeCells, hz1]; simp
  have hmk : ∀ W : World, (Instr.makeSlice 27 (.int .i64 (T.length : Int)) (.int .i64 (T.length : Int))).run Try.prog W = .ok (.slice (some ⟨W.heap.size, 0, none⟩) T.length T.length) (W.alloc (.cells M 85)) := fun W => by
    have h := run_make (P := Try.prog) W 27 85 i0 (.agg #[.int .i64 0, .string ⟨#[]⟩, .int .i64 0, .int .i64 0, .bool false]) Try.underlying27 hi hz0 .i64 .i64 (T.length : Int) (T.length : Int) (by omega) (by omega) (by rw [hz2]; omega) (by omega)
    rw [← hM] at h
    simpa using h
  have hown0 : (w.alloc (.cells M 85)).ownsRow w.heap.size 85 5 (.slice (some ⟨w.heap.size, 0, none⟩) T.length T.length) T.length M.toList :=
    ⟨by simp [hMs], .inr ⟨w.heap.size, T.length, M, rfl, Nat.le_refl _, heap_alloc_new w _, Nat.le_refl _, by unfold maxLen; omega, hMs, by rw [List.take_of_length_le (by simp [hMs])]⟩⟩
  clear hM
  go_enter Try.func61, Try.ntmps61
  go_wp2
  go_loopw [4] (fun vi wr => ∃ (i : Nat) (ys : List Value), i ≤ T.length ∧ vi = .int .i64 (i : Int) ∧ wr.ownsRow w.heap.size 85 5 (.slice (some ⟨w.heap.size, 0, none⟩) T.length T.length) T.length ys ∧ Hid (∀ m, m < i → ∀ j, j < 5 → ys[m * 5 + j]? = (ty T m).ncells[j]?) ∧ Below w.heap.size w wr)
    (fun vi _ => T.length - (intOf vi).toNat)
  case atStart => exact ⟨0, M.toList, by omega, rfl, hown0, fun m hm => by omega, (Below.refl _ w).alloc (Nat.le_refl _) _⟩
  case round =>
    obtain ⟨i, ys, hil, rfl, hown, hys, hbw⟩ := hrel
    clear hown0 hmk
    have hyl : ys.length = T.length * 5 := hown.1
    by_cases hlt : i < T.length
    · have hlt' : (i : Int) < (T.length : Int) := by omega
      obtain ⟨g, o, rfl, hg, hty⟩ := HROW.out i hlt
      have hci := hty.below hbw hg
      have hsz : w.heap.size < wr.heap.size := (hown.lt w.heap.size rfl).2
      obtain ⟨ti, hti⟩ : ∃ t, ty T i = t := ⟨_, rfl⟩
      have HTI : Hid (ty T i = ti) := hti
      rw [hti] at hci
      clear hti hty
      obtain ⟨kind, name, no, must, up, most⟩ := ti
      obtain ⟨c0, c1, c2, c3, c4⟩ := hci
      dsimp only at c0 c1 c2 c3 c4
      go_wp2_with fail
      refine (toNode_any name no must up most _).mono ?_
      rintro e w2 ⟨rfl, hb2⟩
      have how2 := own_belowT hown hb2
      have hbw2 : Below w.heap.size w w2 := hbw.trans (hb2.mono hbw.size)
      have how8 := (((((how2.stored (i * 5) (.int .i64 most)).1.stored (i * 5 + 1) (.string name)).1.stored (i * 5 + 2) (.int .i64 no)).1.stored (i * 5 + 3) (.int .i64 up)).1.stored (i * 5 + 4) (.bool must)).1
      have HS : Hid (∀ m, m < i + 1 → ∀ j, j < 5 → (((((ys.set (i * 5) (.int .i64 most)).set (i * 5 + 1) (.string name)).set (i * 5 + 2) (.int .i64 no)).set (i * 5 + 3) (.int .i64 up)).set (i * 5 + 4) (.bool must))[m * 5 + j]? = (ty T m).ncells[j]?) := set5_eqN ys T i ⟨kind, name, no, must, up, most⟩ hyl hlt HTI.out hys.out
      have q : ∀ j, j < 5 → ∃ u, w2.cell? ⟨w.heap.size, i * 5 + j, none⟩ = some u := fun j hj => by
        have := how2.cellAt (i * 5 + j) (by omega)
        rw [List.getElem?_eq_getElem (by omega)] at this
        exact ⟨_, this⟩
      obtain ⟨u0, q0⟩ := q 0 (by omega)
      obtain ⟨u1, q1⟩ := q 1 (by omega)
      obtain ⟨u2, q2⟩ := q 2 (by omega)
      obtain ⟨u3, q3⟩ := q 3 (by omega)
      obtain ⟨u4, q4⟩ := q 4 (by omega)
      rw [Nat.add_zero] at q0
      have z0 := how2.frozenAt (i * 5)
      have z1 := how2.frozenAt (i * 5 + 1)
      have z2 := how2.frozenAt (i * 5 + 2)
      have z3 := how2.frozenAt (i * 5 + 3)
      have z4 := how2.frozenAt (i * 5 + 4)
      generalize ((((ys.set (i * 5) (Value.int .i64 most)).set (i * 5 + 1) (.string name)).set (i * 5 + 2) (.int .i64 no)).set (i * 5 + 3) (.int .i64 up)).set (i * 5 + 4) (.bool must) = zs at how8 HS
      clear how2 hown hb2 hbw q hys c0 c1 c2 c3 c4
      go_wp2
      go_roundw
      case rel => exact ⟨i + 1, zs, by omega, by go_num, how8, HS, ((((hbw2.setCell (Nat.le_refl _) _).setCell (Nat.le_refl _) _).setCell (Nat.le_refl _) _).setCell (Nat.le_refl _) _).setCell (Nat.le_refl _) _⟩
      case measure => simp [intOf]; omega
    · have hke : i = T.length := by omega
      subst hke
      have hge : ¬ ((T.length : Int) < (T.length : Int)) := by omega
      have hE : Hid (ys = T.flatMap Ty.ncells) := ys_eqN T ys hyl hys.out
      clear hys
      go_wp2
      go_ret
      exact ⟨_, rfl, by rw [← hE.out]; exact hown, hbw⟩

set_option maxRecDepth 100000 in
set_option maxHeartbeats 1000000 in
theorem toValue_any (T : List Ty) (v : Value) (w : World) (hT : NdsAt w w.heap.size v T) (hl : T.length ≤ 1048576) :
    Calls Try.prog 21 #[.agg #[v]] w fun e w' => ∃ r, e = .returned (.agg #[r]) ∧ w'.ownsRow w.heap.size 85 5 r T.length (T.flatMap Ty.ncells) ∧ Below w.heap.size w w' := by
  have HT : Hid (NdsAt w w.heap.size v T) := hT
  obtain ⟨ao, cap, rfl, _⟩ := hT
  obtain ⟨W3, hW3⟩ : ∃ W, W = ((w.alloc (.cells #[.slice ao T.length cap] 44)).alloc (.cells #[.slice none 0 0] 29)).alloc (.cells #[.slice none 0 0] 29) := ⟨_, rfl⟩
  have hB3 : Below w.heap.size w W3 := by rw [hW3]; exact (((Below.refl _ w).alloc (Nat.le_refl _) _).alloc (by simp) _).alloc (by simp; omega) _
  have hs3 : W3.heap.size = w.heap.size + 3 := by rw [hW3]; simp
  have x1 : W3.cell? ⟨w.heap.size + 1, 0, none⟩ = some (.slice none 0 0) := by rw [hW3]; go_simp
  have x2 : W3.cell? ⟨w.heap.size + 1 + 1, 0, none⟩ = some (.slice none 0 0) := by rw [hW3]; go_simp
  have f1 : W3.frozen? ⟨w.heap.size + 1, 0, none⟩ = false := by rw [hW3]; go_simp
  have f2 : W3.frozen? ⟨w.heap.size + 1 + 1, 0, none⟩ = false := by rw [hW3]; go_simp
  go_enter Try.func21, Try.ntmps21
  go_wp2_with fail
  rw [← hW3]
  clear hW3
  refine (toNodeS_any T _ W3 (HT.out.below hB3) hl).mono ?_
  rintro e w4 ⟨r, rfl, hr, hb4⟩
  have hs4 := hb4.size
  have hB4 : Below w.heap.size w w4 := hB3.trans (hb4.mono hB3.size)
  have x1 := (hb4.cell (p := ⟨w.heap.size + 1, 0, none⟩) (by show w.heap.size + 1 < _; omega)).trans x1
  have x2 := (hb4.cell (p := ⟨w.heap.size + 1 + 1, 0, none⟩) (by show w.heap.size + 1 + 1 < _; omega)).trans x2
  have f1 := (hb4.frozen (p := ⟨w.heap.size + 1, 0, none⟩) (by show w.heap.size + 1 < _; omega)).trans f1
  have f2 := (hb4.frozen (p := ⟨w.heap.size + 1 + 1, 0, none⟩) (by show w.heap.size + 1 + 1 < _; omega)).trans f2
  have HO : Hid (w4.ownsRow W3.heap.size 85 5 r T.length (T.flatMap Ty.ncells)) := hr
  obtain ⟨ar, capr, hrv⟩ : ∃ ao cap, r = Value.slice ao T.length cap := by
    rcases hr.2 with ⟨rfl, h0⟩ | ⟨g, cap, _, rfl, _⟩
    · exact ⟨none, 0, by rw [h0]⟩
    · exact ⟨_, _, rfl⟩
  subst hrv
  clear hr hb4
  go_wp2
  (try simp only [Exit.inBlock, Exit.then])
  refine bodyPost_ret (v := .agg #[.slice ar T.length capr]) ?_ rfl ⟨_, rfl, ?_, ?_⟩
  · have rc : ∀ (tmps : Array Value) (P : Program) (w : World), (results Try.f21 tmps).run P w = ((asAddr (tmps.getD 2 undef)).run P w).andThen fun a w₁ => (loadVar 29 a).run P w₁ := fun tmps P w => by
      have h : Try.f21.results = #[.cell 2 29] := rfl
      simp only [results, h]
      simp [Sem.run_bind, Result.andThen]
    rw [rc]
    go_simp
  · have h1 := ownsRow_setCell_below (ownsRow_setCell_below HO.out (a := ⟨w.heap.size + 1 + 1, 0, none⟩) (by show w.heap.size + 1 + 1 < _; omega) (.slice ar T.length capr)) (a := ⟨w.heap.size + 1, 0, none⟩) (by show w.heap.size + 1 < _; omega) (.slice ar T.length capr)
    refine ⟨h1.1, ?_⟩
    rcases h1.2 with h | ⟨g', cap', cur, h1, h2, h3⟩
    · exact .inl h
    · exact .inr ⟨g', cap', cur, h1, by omega, h3⟩
  · repeat' (first | exact hB4 | refine Below.setCell ?_ (by simp <;> omega) _)

end Go.Proofs.Ytpajdmhakdbkjaa
