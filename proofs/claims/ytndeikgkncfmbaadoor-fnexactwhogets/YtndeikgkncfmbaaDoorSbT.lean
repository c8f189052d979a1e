/- The law's own copies of subs. -/
import Derived.Test.YtndeikgkncfmbaaDoorSbM
import Derived.Laws.MakeOwn
import Derived.Laws.ResultCell
namespace Go.Proofs.YtndeikgkncfmbaaDoor
open Go.RowKit Plain Tpc

theorem Tryd.infoSb : (Tryd.prog.info? 66).map (fun i => (i.zero, i.size, i.bytes)) = some (some (.agg #[.string ⟨#[]⟩, .int .i64 0]), 2, 24) := by kernel_rfl

theorem flat2S (l : List Sb) (i j : Nat) (h : i < l.length) (hj : j < 2) : (l.flatMap Sb.cells)[i * 2 + j]? = (sb l i).cells[j]? := by
  induction l generalizing i with
  | nil => simp at h
  | cons a l ih =>
    rw [List.flatMap_cons]
    have ha : a.cells.length = 2 := rfl
    cases i with
    | zero =>
      rw [Nat.zero_mul, Nat.zero_add, List.getElem?_append_left (by omega)]
      rfl
    | succ i =>
      rw [List.getElem?_append_right (by omega)]
      have := ih i (by simpa using h)
      have e : sb (a :: l) (i + 1) = sb l i := by simp [sb]
      rw [e, ← this]
      congr 1
      omega

theorem flat2S_len (l : List Sb) : (l.flatMap Sb.cells).length = l.length * 2 := by
  induction l with
  | nil => rfl
  | cons a l ih => rw [List.flatMap_cons, List.length_append, ih, List.length_cons]; have : a.cells.length = 2 := rfl; omega

theorem ys_eqS (l : List Sb) (ys : List Value) (hl : ys.length = l.length * 2) (h : ∀ i, i < l.length → ∀ j, j < 2 → ys[i * 2 + j]? = (sb l i).cells[j]?) : ys = l.flatMap Sb.cells := by
  apply List.ext_getElem?
  intro k
  by_cases hk : k < l.length * 2
  · have e : k = k / 2 * 2 + k % 2 := by omega
    rw [e, h (k / 2) (by omega) (k % 2) (by omega), flat2S l (k / 2) (k % 2) (by omega) (by omega)]
  · rw [List.getElem?_eq_none (by omega), List.getElem?_eq_none (by rw [flat2S_len]; omega)]

theorem SbsAt.own {w : World} {B : Nat} {v : Value} {T : List Sb} (h : w.ownsRow B 66 2 v T.length (T.flatMap Sb.cells)) (hn : ∀ i, i < T.length → (sb T i).pat.size ≤ maxLen) : SbsAt w w.heap.size v T := by
  have h0 := h
  obtain ⟨_, ⟨rfl, hn0⟩ | ⟨g, cap, cur, rfl, hB, hb, hnc, hcm, _⟩⟩ := h
  · exact ⟨none, 0, by rw [hn0], by omega, by unfold maxLen; omega, fun i hi => by omega, hn⟩
  · refine ⟨some ⟨g, 0, none⟩, cap, rfl, hnc, hcm, fun i hi => ⟨g, 0, rfl, (h0.lt g rfl).2, ?_⟩, hn⟩
    have c : ∀ j, j < 2 → w.cell? ⟨g, 0 + i * 2 + j, none⟩ = (sb T i).cells[j]? := fun j hj => by
      rw [Nat.zero_add, h0.cellAt (i * 2 + j) (by omega)]
      exact flat2S T i j hi hj
    exact ⟨c 0 (by omega), c 1 (by omega)⟩

theorem own_belowS {w w' : World} {B e size n : Nat} {v : Value} {xs : List Value} (h : w.ownsRow B e size v n xs) (hb : Below w.heap.size w w') : w'.ownsRow B e size v n xs := by
  refine ⟨h.1, ?_⟩
  rcases h.2 with hn | ⟨g, cap, cur, hv, hg, hgg, rest⟩
  · exact .inl hn
  · exact .inr ⟨g, cap, cur, hv, hg, (hb.block g (Array.getElem?_eq_some_iff.1 hgg).1).trans hgg, rest⟩

set_option maxRecDepth 100000 in
set_option maxHeartbeats 1000000 in
theorem toSub_any (name : ByteArray) (var : Int) (w : World) :
    Calls Tryd.prog 53 #[.agg #[.string name, .int .i64 var]] w fun e w' => e = .returned (.agg #[.string name, .int .i64 var]) ∧ Below w.heap.size w w' := by
  go_enter Tryd.func53, Tryd.ntmps53
  go_wp2
  (try simp only [Exit.inBlock, Exit.then])
  refine bodyPost_ret (v := .agg #[.string name, .int .i64 var]) ?_ rfl ⟨rfl, ?_⟩
  · have rc : ∀ (tmps : Array Value) (P : Program) (w : World), (results Tryd.f53 tmps).run P w = ((asAddr (tmps.getD 2 undef)).run P w).andThen fun a w₁ => (loadVar 66 a).run P w₁ := fun tmps P w => by
      have h : Tryd.f53.results = #[.cell 2 66] := rfl
      simp only [results, h]
      simp [Sem.run_bind, Result.andThen]
    rw [rc]
    go_simp
  · repeat' (first | exact Below.refl _ _ | refine Below.alloc ?_ (by simp <;> omega) _ | refine Below.setCell ?_ (by simp <;> omega) _)

theorem set2_eqS (ys : List Value) (T : List Sb) (i : Nat) (t : Sb) (hl : ys.length = T.length * 2) (hi : i < T.length) (ht : sb T i = t) (hm : ∀ m, m < i → ∀ j, j < 2 → ys[m * 2 + j]? = (sb T m).cells[j]?) : ∀ m, m < i + 1 → ∀ j, j < 2 →
    ((ys.set (i * 2) (.string t.pat)).set (i * 2 + 1) (.int .i64 t.who))[m * 2 + j]? = (sb T m).cells[j]? := by
  intro m hmi j hj
  simp only [List.getElem?_set, List.length_set]
  by_cases hme : m = i
  · subst hme
    rw [ht]
    match j, hj with
    | 0, _ => simp [Sb.cells]; omega
    | 1, _ => simp [Sb.cells]; omega
  · rw [if_neg (by omega), if_neg (by omega)]
    exact hm m (by omega) j hj

set_option maxRecDepth 100000 in
set_option maxHeartbeats 4000000 in
theorem toSubS_any (T : List Sb) (v : Value) (w : World) (hT : SbsAt w w.heap.size v T) (hl : T.length ≤ 1048576) :
    Calls Tryd.prog 25 #[v] w fun e w' => ∃ r, e = .returned r ∧ w'.ownsRow w.heap.size 66 2 r T.length (T.flatMap Sb.cells) ∧ Below w.heap.size w w' := by
  obtain ⟨i0, hi, hz0, hz1, hz2⟩ := info_parts Tryd.infoSb
  obtain ⟨ao, cap, rfl, _, hmax, hrow, _⟩ := hT
  have HROW : Hid (∀ i, i < T.length → ∃ g o, ao = some ⟨g, o, none⟩ ∧ g < w.heap.size ∧ SbIn w g (o + i * 2) (sb T i)) := hrow
  clear hrow
  obtain ⟨M, hM⟩ : ∃ M, M = madeCells (Value.agg #[.string ⟨#[]⟩, .int .i64 0]).cells (((T.length : Nat) : Int).toNat * i0.size) := ⟨_, rfl⟩
  have hMs : M.size = T.length * 2 := by rw [hM, size_madeCells, hz1]; simp
  have hmk : ∀ W : World, (Instr.makeSlice 35 (.int .i64 (T.length : Int)) (.int .i64 (T.length : Int))).run Tryd.prog W = .ok (.slice (some ⟨W.heap.size, 0, none⟩) T.length T.length) (W.alloc (.cells M 66)) := fun W => by
    have h := run_make (P := Tryd.prog) W 35 66 i0 (.agg #[.string ⟨#[]⟩, .int .i64 0]) Tryd.underlying35 hi hz0 .i64 .i64 (T.length : Int) (T.length : Int) (by omega) (by omega) (by rw [hz2]; omega) (by omega)
    rw [← hM] at h
    simpa using h
  have hown0 : (w.alloc (.cells M 66)).ownsRow w.heap.size 66 2 (.slice (some ⟨w.heap.size, 0, none⟩) T.length T.length) T.length M.toList :=
    ⟨by simp [hMs], .inr ⟨w.heap.size, T.length, M, rfl, Nat.le_refl _, heap_alloc_new w _, Nat.le_refl _, by unfold maxLen; omega, hMs, by rw [List.take_of_length_le (by simp [hMs])]⟩⟩
  clear hM
  go_enter Tryd.func25, Tryd.ntmps25
  go_wp2
  go_loopw [4] (fun vi wr => ∃ (i : Nat) (ys : List Value), i ≤ T.length ∧ vi = .int .i64 (i : Int) ∧ wr.ownsRow w.heap.size 66 2 (.slice (some ⟨w.heap.size, 0, none⟩) T.length T.length) T.length ys ∧ Hid (∀ m, m < i → ∀ j, j < 2 → ys[m * 2 + j]? = (sb T m).cells[j]?) ∧ Below w.heap.size w wr)
    (fun vi _ => T.length - (intOf vi).toNat)
  case atStart => exact ⟨0, M.toList, by omega, rfl, hown0, fun m hm => by omega, (Below.refl _ w).alloc (Nat.le_refl _) _⟩
  case round =>
    obtain ⟨i, ys, hil, rfl, hown, hys, hbw⟩ := hrel
    clear hown0 hmk
    have hyl : ys.length = T.length * 2 := hown.1
    by_cases hlt : i < T.length
    · have hlt' : (i : Int) < (T.length : Int) := by omega
      obtain ⟨g, o, rfl, hg, hty⟩ := HROW.out i hlt
      have hci := hty.below hbw hg
      have hsz : w.heap.size < wr.heap.size := (hown.lt w.heap.size rfl).2
      obtain ⟨ti, hti⟩ : ∃ t, sb T i = t := ⟨_, rfl⟩
      have HTI : Hid (sb T i = ti) := hti
      rw [hti] at hci
      clear hti hty
      obtain ⟨name, var⟩ := ti
      obtain ⟨c0, c1⟩ := hci
      dsimp only at c0 c1
      go_wp2_with fail
      refine (toSub_any name var _).mono ?_
      rintro e w2 ⟨rfl, hb2⟩
      have how2 := own_belowS hown hb2
      have hbw2 : Below w.heap.size w w2 := hbw.trans (hb2.mono hbw.size)
      have how8 := ((how2.stored (i * 2) (.string name)).1.stored (i * 2 + 1) (.int .i64 var)).1
      have HS : Hid (∀ m, m < i + 1 → ∀ j, j < 2 → ((ys.set (i * 2) (.string name)).set (i * 2 + 1) (.int .i64 var))[m * 2 + j]? = (sb T m).cells[j]?) := set2_eqS ys T i ⟨name, var⟩ hyl hlt HTI.out hys.out
      have q : ∀ j, j < 2 → ∃ u, w2.cell? ⟨w.heap.size, i * 2 + j, none⟩ = some u := fun j hj => by
        have := how2.cellAt (i * 2 + j) (by omega)
        rw [List.getElem?_eq_getElem (by omega)] at this
        exact ⟨_, this⟩
      obtain ⟨u0, q0⟩ := q 0 (by omega)
      obtain ⟨u1, q1⟩ := q 1 (by omega)
      rw [Nat.add_zero] at q0
      have z0 := how2.frozenAt (i * 2)
      have z1 := how2.frozenAt (i * 2 + 1)
      generalize (ys.set (i * 2) (Value.string name)).set (i * 2 + 1) (.int .i64 var) = zs at how8 HS
      clear how2 hown hb2 hbw q hys c0 c1
      go_wp2
      go_roundw
      case rel => exact ⟨i + 1, zs, by omega, by go_num, how8, HS, (hbw2.setCell (Nat.le_refl _) _).setCell (Nat.le_refl _) _⟩
      case measure => simp [intOf]; omega
    · have hke : i = T.length := by omega
      subst hke
      have hge : ¬ ((T.length : Int) < (T.length : Int)) := by omega
      have hE : Hid (ys = T.flatMap Sb.cells) := ys_eqS T ys hyl hys.out
      clear hys
      go_wp2
      go_ret
      exact ⟨_, rfl, by rw [← hE.out]; exact hown, hbw⟩

end Go.Proofs.YtndeikgkncfmbaaDoor
