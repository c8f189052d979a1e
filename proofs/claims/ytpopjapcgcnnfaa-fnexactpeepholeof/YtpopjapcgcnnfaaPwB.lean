/- The law's own copies of a Program. -/
import Derived.Test.YtpopjapcgcnnfaaPwM
import Derived.Laws.MakeOwn
import Derived.Laws.ResultCell
namespace Go.Proofs.Ytpopjapcgcnnfaa
open Go.RowKit Plain Sch Prg

theorem Try.infoIns : (Try.prog.info? 76).map (fun i => (i.zero, i.size, i.bytes)) = some (some (.agg #[.int .i64 0, .int .i64 0, .int .i64 0, .int .i64 0, .string ⟨#[]⟩, .int .i64 0]), 6, 56) := by kernel_rfl

theorem flat6Ins (l : List Ins) (i j : Nat) (h : i < l.length) (hj : j < 6) : (l.flatMap Ins.cells)[i * 6 + j]? = (ins l i).cells[j]? := by
  induction l generalizing i with
  | nil => simp at h
  | cons a l ih =>
    rw [List.flatMap_cons]
    have ha : a.cells.length = 6 := rfl
    cases i with
    | zero =>
      rw [Nat.zero_mul, Nat.zero_add, List.getElem?_append_left (by omega)]
      rfl
    | succ i =>
      rw [List.getElem?_append_right (by omega)]
      have := ih i (by simpa using h)
      have e : ins (a :: l) (i + 1) = ins l i := by simp [ins]
      rw [e, ← this]
      congr 1
      omega

theorem flat6Ins_len (l : List Ins) : (l.flatMap Ins.cells).length = l.length * 6 := by
  induction l with
  | nil => rfl
  | cons a l ih => rw [List.flatMap_cons, List.length_append, ih, List.length_cons]; have : a.cells.length = 6 := rfl; omega

theorem ys_eqIns (l : List Ins) (ys : List Value) (hl : ys.length = l.length * 6) (h : ∀ i, i < l.length → ∀ j, j < 6 → ys[i * 6 + j]? = (ins l i).cells[j]?) : ys = l.flatMap Ins.cells := by
  apply List.ext_getElem?
  intro k
  by_cases hk : k < l.length * 6
  · have e : k = k / 6 * 6 + k % 6 := by omega
    rw [e, h (k / 6) (by omega) (k % 6) (by omega), flat6Ins l (k / 6) (k % 6) (by omega) (by omega)]
  · rw [List.getElem?_eq_none (by omega), List.getElem?_eq_none (by rw [flat6Ins_len]; omega)]

theorem InsAt.own {w : World} {B : Nat} {v : Value} {T : List Ins} (h : w.ownsRow B 76 6 v T.length (T.flatMap Ins.cells)) (hn : ∀ i, i < T.length → (ins T i).text.size ≤ maxLen) : InsAt w w.heap.size v T := by
  have h0 := h
  obtain ⟨_, ⟨rfl, hn0⟩ | ⟨g, cap, cur, rfl, hB, hb, hnc, hcm, _⟩⟩ := h
  · exact ⟨none, 0, by rw [hn0], by omega, by unfold maxLen; omega, fun i hi => by omega, hn⟩
  · refine ⟨some ⟨g, 0, none⟩, cap, rfl, hnc, hcm, fun i hi => ⟨g, 0, rfl, (h0.lt g rfl).2, ?_⟩, hn⟩
    have c : ∀ j, j < 6 → w.cell? ⟨g, 0 + i * 6 + j, none⟩ = (ins T i).cells[j]? := fun j hj => by
      rw [Nat.zero_add, h0.cellAt (i * 6 + j) (by omega)]
      exact flat6Ins T i j hi hj
    exact ⟨c 0 (by omega), c 1 (by omega), c 2 (by omega), c 3 (by omega), c 4 (by omega), c 5 (by omega)⟩

theorem own_belowPw {w w' : World} {B e size n : Nat} {v : Value} {xs : List Value} (h : w.ownsRow B e size v n xs) (hb : Below w.heap.size w w') : w'.ownsRow B e size v n xs := by
  refine ⟨h.1, ?_⟩
  rcases h.2 with hn | ⟨g, cap, cur, hv, hg, hgg, rest⟩
  · exact .inl hn
  · exact .inr ⟨g, cap, cur, hv, hg, (hb.block g (Array.getElem?_eq_some_iff.1 hgg).1).trans hgg, rest⟩

set_option maxRecDepth 100000 in
set_option maxHeartbeats 1000000 in
theorem toInstr_any (code : Int) (kind : Int) (no : Int) (num : Int) (text : ByteArray) (dst : Int) (w : World) :
    Calls Try.prog 89 #[.agg #[.int .i64 code, .int .i64 kind, .int .i64 no, .int .i64 num, .string text, .int .i64 dst]] w fun e w' => e = .returned (.agg #[.int .i64 code, .int .i64 kind, .int .i64 no, .int .i64 num, .string text, .int .i64 dst]) ∧ Below w.heap.size w w' := by
  go_enter Try.func89, Try.ntmps89
  go_wp2
  (try simp only [Exit.inBlock, Exit.then])
  refine bodyPost_ret (v := .agg #[.int .i64 code, .int .i64 kind, .int .i64 no, .int .i64 num, .string text, .int .i64 dst]) ?_ rfl ⟨rfl, ?_⟩
  · have rc : ∀ (tmps : Array Value) (P : Program) (w : World), (results Try.f89 tmps).run P w = ((asAddr (tmps.getD 2 undef)).run P w).andThen fun a w₁ => (loadVar 76 a).run P w₁ := fun tmps P w => by
      have h : Try.f89.results = #[.cell 2 76] := rfl
      simp only [results, h]
      simp [Sem.run_bind, Result.andThen]
    rw [rc]
    go_simp
  · repeat' (first | exact Below.refl _ _ | refine Below.alloc ?_ (by simp <;> omega) _ | refine Below.setCell ?_ (by simp <;> omega) _)

theorem set6_eqIns (ys : List Value) (T : List Ins) (i : Nat) (t : Ins) (hl : ys.length = T.length * 6) (hi : i < T.length) (ht : ins T i = t) (hm : ∀ m, m < i → ∀ j, j < 6 → ys[m * 6 + j]? = (ins T m).cells[j]?) : ∀ m, m < i + 1 → ∀ j, j < 6 →
    ((((((ys.set (i * 6) (.int .i64 t.code)).set (i * 6 + 1) (.int .i64 t.kind)).set (i * 6 + 2) (.int .i64 t.no)).set (i * 6 + 3) (.int .i64 t.num)).set (i * 6 + 4) (.string t.text)).set (i * 6 + 5) (.int .i64 t.dst))[m * 6 + j]? = (ins T m).cells[j]? := by
  intro m hmi j hj
  simp only [List.getElem?_set, List.length_set]
  by_cases hme : m = i
  · subst hme
    rw [ht]
    match j, hj with
    | 0, _ => simp [Ins.cells]; omega
    | 1, _ => simp [Ins.cells]; omega
    | 2, _ => simp [Ins.cells]; omega
    | 3, _ => simp [Ins.cells]; omega
    | 4, _ => simp [Ins.cells]; omega
    | 5, _ => simp [Ins.cells]; omega
  · rw [if_neg (by omega), if_neg (by omega), if_neg (by omega), if_neg (by omega), if_neg (by omega), if_neg (by omega)]
    exact hm m (by omega) j hj

set_option maxRecDepth 100000 in
set_option maxHeartbeats 4000000 in
theorem toInstrS_any (T : List Ins) (v : Value) (w : World) (hT : InsAt w w.heap.size v T) (hl : T.length ≤ 1048576) :
    Calls Try.prog 52 #[v] w fun e w' => ∃ r, e = .returned r ∧ w'.ownsRow w.heap.size 76 6 r T.length (T.flatMap Ins.cells) ∧ Below w.heap.size w w' := by
  obtain ⟨i0, hi, hz0, hz1, hz2⟩ := info_parts Try.infoIns
  obtain ⟨ao, cap, rfl, _, hmax, hrow, _⟩ := hT
  have HROW : Hid (∀ i, i < T.length → ∃ g o, ao = some ⟨g, o, none⟩ ∧ g < w.heap.size ∧ InsIn w g (o + i * 6) (ins T i)) := hrow
  clear hrow
  obtain ⟨M, hM⟩ : ∃ M, M = madeCells (Value.agg #[.int .i64 0, .int .i64 0, .int .i64 0, .int .i64 0, .string ⟨#[]⟩, .int .i64 0]).cells (((T.length : Nat) : Int).toNat * i0.size) := ⟨_, rfl⟩
  have hMs : M.size = T.length * 6 := by rw [hM, size_madeCells, hz1]; simp
  have hmk : ∀ W : World, (Instr.makeSlice 27 (.int .i64 (T.length : Int)) (.int .i64 (T.length : Int))).run Try.prog W = .ok (.slice (some ⟨W.heap.size, 0, none⟩) T.length T.length) (W.alloc (.cells M 76)) := fun W => by
    have h := run_make (P := Try.prog) W 27 76 i0 (.agg #[.int .i64 0, .int .i64 0, .int .i64 0, .int .i64 0, .string ⟨#[]⟩, .int .i64 0]) Try.underlying27 hi hz0 .i64 .i64 (T.length : Int) (T.length : Int) (by omega) (by omega) (by rw [hz2]; omega) (by omega)
    rw [← hM] at h
    simpa using h
  have hown0 : (w.alloc (.cells M 76)).ownsRow w.heap.size 76 6 (.slice (some ⟨w.heap.size, 0, none⟩) T.length T.length) T.length M.toList :=
    ⟨by simp [hMs], .inr ⟨w.heap.size, T.length, M, rfl, Nat.le_refl _, heap_alloc_new w _, Nat.le_refl _, by unfold maxLen; omega, hMs, by rw [List.take_of_length_le (by simp [hMs])]⟩⟩
  clear hM
  go_enter Try.func52, Try.ntmps52
  go_wp2
  go_loopw [4] (fun vi wr => ∃ (i : Nat) (ys : List Value), i ≤ T.length ∧ vi = .int .i64 (i : Int) ∧ wr.ownsRow w.heap.size 76 6 (.slice (some ⟨w.heap.size, 0, none⟩) T.length T.length) T.length ys ∧ Hid (∀ m, m < i → ∀ j, j < 6 → ys[m * 6 + j]? = (ins T m).cells[j]?) ∧ Below w.heap.size w wr)
    (fun vi _ => T.length - (intOf vi).toNat)
  case atStart => exact ⟨0, M.toList, by omega, rfl, hown0, fun m hm => by omega, (Below.refl _ w).alloc (Nat.le_refl _) _⟩
  case round =>
    obtain ⟨i, ys, hil, rfl, hown, hys, hbw⟩ := hrel
    clear hown0 hmk
    have hyl : ys.length = T.length * 6 := hown.1
    by_cases hlt : i < T.length
    · have hlt' : (i : Int) < (T.length : Int) := by omega
      obtain ⟨g, o, rfl, hg, hty⟩ := HROW.out i hlt
      have hci := hty.below hbw hg
      have hsz : w.heap.size < wr.heap.size := (hown.lt w.heap.size rfl).2
      obtain ⟨ti, hti⟩ : ∃ t, ins T i = t := ⟨_, rfl⟩
      have HTI : Hid (ins T i = ti) := hti
      rw [hti] at hci
      clear hti hty
      obtain ⟨code, kind, no, num, text, dst⟩ := ti
      obtain ⟨c0, c1, c2, c3, c4, c5⟩ := hci
      dsimp only at c0 c1 c2 c3 c4 c5
      go_wp2_with fail
      refine (toInstr_any code kind no num text dst _).mono ?_
      rintro e w2 ⟨rfl, hb2⟩
      have how2 := own_belowPw hown hb2
      have hbw2 : Below w.heap.size w w2 := hbw.trans (hb2.mono hbw.size)
      have how8 := ((((((how2.stored (i * 6) (.int .i64 code)).1.stored (i * 6 + 1) (.int .i64 kind)).1.stored (i * 6 + 2) (.int .i64 no)).1.stored (i * 6 + 3) (.int .i64 num)).1.stored (i * 6 + 4) (.string text)).1.stored (i * 6 + 5) (.int .i64 dst)).1
      have HS : Hid (∀ m, m < i + 1 → ∀ j, j < 6 → ((((((ys.set (i * 6) (.int .i64 code)).set (i * 6 + 1) (.int .i64 kind)).set (i * 6 + 2) (.int .i64 no)).set (i * 6 + 3) (.int .i64 num)).set (i * 6 + 4) (.string text)).set (i * 6 + 5) (.int .i64 dst))[m * 6 + j]? = (ins T m).cells[j]?) := set6_eqIns ys T i ⟨code, kind, no, num, text, dst⟩ hyl hlt HTI.out hys.out
      have q : ∀ j, j < 6 → ∃ u, w2.cell? ⟨w.heap.size, i * 6 + j, none⟩ = some u := fun j hj => by
        have := how2.cellAt (i * 6 + j) (by omega)
        rw [List.getElem?_eq_getElem (by omega)] at this
        exact ⟨_, this⟩
      obtain ⟨u0, q0⟩ := q 0 (by omega)
      obtain ⟨u1, q1⟩ := q 1 (by omega)
      obtain ⟨u2, q2⟩ := q 2 (by omega)
      obtain ⟨u3, q3⟩ := q 3 (by omega)
      obtain ⟨u4, q4⟩ := q 4 (by omega)
      obtain ⟨u5, q5⟩ := q 5 (by omega)
      rw [Nat.add_zero] at q0
      have z0 := how2.frozenAt (i * 6)
      have z1 := how2.frozenAt (i * 6 + 1)
      have z2 := how2.frozenAt (i * 6 + 2)
      have z3 := how2.frozenAt (i * 6 + 3)
      have z4 := how2.frozenAt (i * 6 + 4)
      have z5 := how2.frozenAt (i * 6 + 5)
      generalize (((((ys.set (i * 6) (Value.int .i64 code)).set (i * 6 + 1) (.int .i64 kind)).set (i * 6 + 2) (.int .i64 no)).set (i * 6 + 3) (.int .i64 num)).set (i * 6 + 4) (.string text)).set (i * 6 + 5) (.int .i64 dst) = zs at how8 HS
      clear how2 hown hb2 hbw q hys c0 c1 c2 c3 c4 c5
      go_wp2
      go_roundw
      case rel => exact ⟨i + 1, zs, by omega, by go_num, how8, HS, (((((hbw2.setCell (Nat.le_refl _) _).setCell (Nat.le_refl _) _).setCell (Nat.le_refl _) _).setCell (Nat.le_refl _) _).setCell (Nat.le_refl _) _).setCell (Nat.le_refl _) _⟩
      case measure => simp [intOf]; omega
    · have hke : i = T.length := by omega
      subst hke
      have hge : ¬ ((T.length : Int) < (T.length : Int)) := by omega
      have hE : Hid (ys = T.flatMap Ins.cells) := ys_eqIns T ys hyl hys.out
      clear hys
      go_wp2
      go_ret
      exact ⟨_, rfl, by rw [← hE.out]; exact hown, hbw⟩

set_option maxRecDepth 100000 in
set_option maxHeartbeats 1000000 in
theorem toProgram_any (T : List Ins) (v : Value) (w : World) (hT : InsAt w w.heap.size v T) (hl : T.length ≤ 1048576) :
    Calls Try.prog 15 #[.agg #[v]] w fun e w' => ∃ r, e = .returned (.agg #[r]) ∧ w'.ownsRow w.heap.size 76 6 r T.length (T.flatMap Ins.cells) ∧ Below w.heap.size w w' := by
  have HT : Hid (InsAt w w.heap.size v T) := hT
  obtain ⟨ao, cap, rfl, _⟩ := hT
  obtain ⟨W3, hW3⟩ : ∃ W, W = ((w.alloc (.cells #[.slice ao T.length cap] 24)).alloc (.cells #[.slice none 0 0] 29)).alloc (.cells #[.slice none 0 0] 29) := ⟨_, rfl⟩
  have hB3 : Below w.heap.size w W3 := by rw [hW3]; exact (((Below.refl _ w).alloc (Nat.le_refl _) _).alloc (by simp) _).alloc (by simp; omega) _
  have hs3 : W3.heap.size = w.heap.size + 3 := by rw [hW3]; simp
  have x1 : W3.cell? ⟨w.heap.size + 1, 0, none⟩ = some (.slice none 0 0) := by rw [hW3]; go_simp
  have x2 : W3.cell? ⟨w.heap.size + 1 + 1, 0, none⟩ = some (.slice none 0 0) := by rw [hW3]; go_simp
  have f1 : W3.frozen? ⟨w.heap.size + 1, 0, none⟩ = false := by rw [hW3]; go_simp
  have f2 : W3.frozen? ⟨w.heap.size + 1 + 1, 0, none⟩ = false := by rw [hW3]; go_simp
  go_enter Try.func15, Try.ntmps15
  go_wp2_with fail
  rw [← hW3]
  clear hW3
  refine (toInstrS_any T _ W3 (HT.out.below hB3) hl).mono ?_
  rintro e w4 ⟨r, rfl, hr, hb4⟩
  have hs4 := hb4.size
  have hB4 : Below w.heap.size w w4 := hB3.trans (hb4.mono hB3.size)
  have x1 := (hb4.cell (p := ⟨w.heap.size + 1, 0, none⟩) (by show w.heap.size + 1 < _; omega)).trans x1
  have x2 := (hb4.cell (p := ⟨w.heap.size + 1 + 1, 0, none⟩) (by show w.heap.size + 1 + 1 < _; omega)).trans x2
  have f1 := (hb4.frozen (p := ⟨w.heap.size + 1, 0, none⟩) (by show w.heap.size + 1 < _; omega)).trans f1
  have f2 := (hb4.frozen (p := ⟨w.heap.size + 1 + 1, 0, none⟩) (by show w.heap.size + 1 + 1 < _; omega)).trans f2
  have HO : Hid (w4.ownsRow W3.heap.size 76 6 r T.length (T.flatMap Ins.cells)) := hr
  obtain ⟨ar, capr, hrv⟩ : ∃ ao cap, r = Value.slice ao T.length cap := by
    rcases hr.2 with ⟨rfl, h0⟩ | ⟨g, cap, _, rfl, _⟩
    · exact ⟨none, 0, by rw [h0]⟩
    · exact ⟨_, _, rfl⟩
  subst hrv
  clear hr hb4
  go_wp2
  (try simp only [Exit.inBlock, Exit.then])
  refine bodyPost_ret (v := .agg #[.slice ar T.length capr]) ?_ rfl ⟨_, rfl, ?_, ?_⟩
  · have rc : ∀ (tmps : Array Value) (P : Program) (w : World), (results Try.f15 tmps).run P w = ((asAddr (tmps.getD 2 undef)).run P w).andThen fun a w₁ => (loadVar 29 a).run P w₁ := fun tmps P w => by
      have h : Try.f15.results = #[.cell 2 29] := rfl
      simp only [results, h]
      simp [Sem.run_bind, Result.andThen]
    rw [rc]
    go_simp
  · have h1 := ownsRow_setCell_below (ownsRow_setCell_below HO.out (a := ⟨w.heap.size + 1 + 1, 0, none⟩) (by show w.heap.size + 1 + 1 < _; omega) (.slice ar T.length capr)) (a := ⟨w.heap.size + 1, 0, none⟩) (by show w.heap.size + 1 < _; omega) (.slice ar T.length capr)
    refine ⟨h1.1, ?_⟩
    rcases h1.2 with h | ⟨g', cap', cur, h1, h2, h3⟩
    · exact .inl h
    · exact .inr ⟨g', cap', cur, h1, by omega, h3⟩
  · repeat' (first | exact hB4 | refine Below.setCell ?_ (by simp <;> omega) _)

end Go.Proofs.Ytpopjapcgcnnfaa
