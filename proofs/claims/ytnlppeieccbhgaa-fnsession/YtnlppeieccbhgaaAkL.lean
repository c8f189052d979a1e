/- The law's own looks at Ack: how great, alike, copies, opened. -/
import Derived.Test.YtnlppeieccbhgaaAkM
import Derived.Test.YtnlppeieccbhgaaFxA
import Derived.Deep.RegionWith
import Derived.OpenShut
import Derived.Carry
namespace Go.Proofs.Ytnlppeieccbhgaa
open Go.RowKit Plain Tpc Ssn

set_option maxRecDepth 100000 in
set_option maxHeartbeats 4000000 in
theorem szAckS_left (T : List Ak) (v : Value) (L : Int) (w : World) (hT : AksAt w w.heap.size v T) (hL0 : 0 ≤ L) (hL1 : L ≤ 1048576) :
    Calls Try.prog 58 #[v, .int .i64 L] w fun e w' => (∃ r : Int, e = .returned (.int .i64 r) ∧ -1 ≤ r ∧ r ≤ 1048576 ∧ (0 ≤ r → T.length ≤ 1048576)) ∧ Below w.heap.size w w' := by
  obtain ⟨ao, cap, rfl, hlc, hcm, _⟩ := hT
  unfold maxLen at hcm
  have hge : (-9223372036854775808 : Int) ≤ L - (T.length : Int) := by omega
  by_cases hlt : L - (T.length : Int) < 0
  · go_enter Try.func58, Try.ntmps58
    go_wp2
    go_ret
    exact ⟨⟨-1, rfl, by omega, by omega, fun h => by omega⟩, Below.refl _ _⟩
  · go_enter Try.func58, Try.ntmps58
    go_wp2
    go_ret
    exact ⟨⟨L - (T.length : Int), rfl, by omega, by omega, fun h => by omega⟩, Below.refl _ _⟩

set_option maxRecDepth 100000 in
set_option maxHeartbeats 1000000 in
theorem eqAck_same (ep : Int) (up : Int) (w : World) :
    Calls Try.prog 88 #[.agg #[.int .i64 ep, .int .i64 up], .agg #[.int .i64 ep, .int .i64 up]] w fun e w' => e = .returned (.bool true) ∧ Below w.heap.size w w' := by
  go_enter Try.func88, Try.ntmps88
  go_wp2
  go_ret
  exact ⟨rfl, by repeat' (first | exact Below.refl _ _ | refine Below.alloc ?_ (by simp) _)⟩

set_option maxRecDepth 100000 in
set_option maxHeartbeats 4000000 in
theorem eqAckS_same (T : List Ak) (v1 v2 : Value) (w : World) (h1 : AksAt w w.heap.size v1 T) (h2 : AksAt w w.heap.size v2 T) (hl : T.length ≤ 2097152) :
    Calls Try.prog 51 #[v1, v2] w fun e w' => e = .returned (.bool true) ∧ Below w.heap.size w w' := by
  obtain ⟨ao, cap, rfl, _, hmax, hrow⟩ := h1
  obtain ⟨ao2, cap2, rfl, _, _, hrow2⟩ := h2
  have HROW : Hid (∀ i, i < T.length → ∃ g o, ao = some ⟨g, o, none⟩ ∧ g < w.heap.size ∧ AkIn w g (o + i * 2) (ak T i)) := hrow
  have HROW2 : Hid (∀ i, i < T.length → ∃ g o, ao2 = some ⟨g, o, none⟩ ∧ g < w.heap.size ∧ AkIn w g (o + i * 2) (ak T i)) := hrow2
  clear hrow hrow2
  go_enter Try.func51, Try.ntmps51
  go_wp2
  go_loopw [5] (fun vi wr => ∃ k : Nat, k ≤ T.length ∧ vi = .int .i64 (k : Int) ∧ Below w.heap.size w wr)
    (fun vi _ => T.length - (intOf vi).toNat)
  case atStart => exact ⟨0, by omega, rfl, Below.refl _ _⟩
  case round =>
    obtain ⟨k, hk, rfl, hbw⟩ := hrel
    by_cases hlt : k < T.length
    · obtain ⟨g, o, rfl, hgB, hy1⟩ := HROW.out k hlt
      obtain ⟨g2, o2, rfl, hgB2, hy2⟩ := HROW2.out k hlt
      have e1 := hy1.below hbw hgB
      have e2 := hy2.below hbw hgB2
      clear hy1 hy2
      obtain ⟨ti, hti⟩ : ∃ t, ak T k = t := ⟨_, rfl⟩
      rw [hti] at e1 e2
      clear hti
      obtain ⟨ep, up⟩ := ti
      obtain ⟨c0, c1⟩ := e1
      obtain ⟨x0, x1⟩ := e2
      dsimp only at c0 c1 x0 x1
      have hlt' : (k : Int) < (T.length : Int) := by omega
      have C2 : Hid (∀ w : World, Calls Try.prog 88 #[.agg #[.int .i64 ep, .int .i64 up], .agg #[.int .i64 ep, .int .i64 up]] w fun e w' => e = .returned (.bool true) ∧ Below w.heap.size w w') := fun w => eqAck_same ep up w
      go_wp2_with fail
      go_region_with (go_at_call 88; refine (C2.out _).mono ?_; rintro e w2 ⟨rfl, hb2⟩; have hbw2 : Below w.heap.size w w2 := hbw.drew.trans (hb2.mono hbw.size))
      all_goals
        go_wp2
        go_roundw
        case rel => exact ⟨k + 1, by omega, by go_num, hbw2⟩
        case measure => simp [intOf]; omega
    · have hke : k = T.length := by omega
      subst hke
      have hge : ¬ ((T.length : Int) < (T.length : Int)) := by omega
      go_wp2
      go_ret
      exact ⟨rfl, hbw⟩

set_option maxRecDepth 100000 in
set_option maxHeartbeats 1000000 in
theorem toAck_any (ep : Int) (up : Int) (w : World) :
    Calls Try.prog 91 #[.agg #[.int .i64 ep, .int .i64 up]] w fun e w' => e = .returned (.agg #[.int .i64 ep, .int .i64 up]) ∧ Below w.heap.size w w' := by
  go_enter Try.func91, Try.ntmps91
  go_wp2
  (try simp only [Exit.inBlock, Exit.then])
  refine bodyPost_ret (v := .agg #[.int .i64 ep, .int .i64 up]) ?_ rfl ⟨rfl, ?_⟩
  · have rc : ∀ (tmps : Array Value) (P : Program) (w : World), (results Try.f91 tmps).run P w = ((asAddr (tmps.getD 2 undef)).run P w).andThen fun a w₁ => (loadVar 86 a).run P w₁ := fun tmps P w => by
      have h : Try.f91.results = #[.cell 2 86] := rfl
      simp only [results, h]
      simp [Sem.run_bind, Result.andThen]
    rw [rc]
    go_simp
  · repeat' (first | exact Below.refl _ _ | refine Below.alloc ?_ (by simp <;> omega) _ | refine Below.setCell ?_ (by simp <;> omega) _)

theorem setAk_eq (ys : List Value) (T : List Ak) (i : Nat) (t : Ak) (hl : ys.length = T.length * 2) (hi : i < T.length) (ht : ak T i = t) (hm : ∀ m, m < i → ∀ j, j < 2 → ys[m * 2 + j]? = (ak T m).cells[j]?) : ∀ m, m < i + 1 → ∀ j, j < 2 →
    ((ys.set (i * 2) (.int .i64 t.ep)).set (i * 2 + 1) (.int .i64 t.up))[m * 2 + j]? = (ak T m).cells[j]? := by
  intro m hmi j hj
  simp only [List.getElem?_set, List.length_set]
  by_cases hme : m = i
  · subst hme
    rw [ht]
    match j, hj with
    | 0, _ => simp [Ak.cells]; omega
    | 1, _ => simp [Ak.cells]; omega
  · rw [if_neg (by omega), if_neg (by omega)]
    exact hm m (by omega) j hj

set_option maxRecDepth 100000 in
set_option maxHeartbeats 4000000 in
theorem toAckS_any (T : List Ak) (v : Value) (w : World) (hT : AksAt w w.heap.size v T) (hl : T.length ≤ 1048576) :
    Calls Try.prog 63 #[v] w fun e w' => ∃ r, e = .returned r ∧ AkRow w' w.heap.size r T ∧ Below w.heap.size w w' := by
  obtain ⟨i0, hi, hz0, hz1, hz2⟩ := info_parts Try.infoAk
  obtain ⟨ao, cap, rfl, _, hmax, hrow⟩ := hT
  have HROW : Hid (∀ i, i < T.length → ∃ g o, ao = some ⟨g, o, none⟩ ∧ g < w.heap.size ∧ AkIn w g (o + i * 2) (ak T i)) := hrow
  clear hrow
  obtain ⟨M, hM⟩ : ∃ M, M = madeCells (Value.agg #[.int .i64 0, .int .i64 0]).cells (((T.length : Nat) : Int).toNat * i0.size) := ⟨_, rfl⟩
  have hMs : M.size = T.length * 2 := by rw [hM, size_madeCells, hz1]; simp
  have hmk : ∀ W : World, (Instr.makeSlice 24 (.int .i64 (T.length : Int)) (.int .i64 (T.length : Int))).run Try.prog W = .ok (.slice (some ⟨W.heap.size, 0, none⟩) T.length T.length) (W.alloc (.cells M 86)) := fun W => by
    have h := run_make (P := Try.prog) W 24 86 i0 (.agg #[.int .i64 0, .int .i64 0]) Try.underlying24 hi hz0 .i64 .i64 (T.length : Int) (T.length : Int) (by omega) (by omega) (by rw [hz2]; omega) (by omega)
    rw [← hM] at h
    simpa using h
  have hown0 : (w.alloc (.cells M 86)).ownsRow w.heap.size 86 2 (.slice (some ⟨w.heap.size, 0, none⟩) T.length T.length) T.length M.toList :=
    ⟨by simp [hMs], .inr ⟨w.heap.size, T.length, M, rfl, Nat.le_refl _, heap_alloc_new w _, Nat.le_refl _, by unfold maxLen; omega, hMs, by rw [List.take_of_length_le (by simp [hMs])]⟩⟩
  clear hM
  go_enter Try.func63, Try.ntmps63
  go_wp2
  go_loopw [4] (fun vi wr => ∃ (i : Nat) (ys : List Value), i ≤ T.length ∧ vi = .int .i64 (i : Int) ∧ wr.ownsRow w.heap.size 86 2 (.slice (some ⟨w.heap.size, 0, none⟩) T.length T.length) T.length ys ∧ Hid (∀ m, m < i → ∀ j, j < 2 → ys[m * 2 + j]? = (ak T m).cells[j]?) ∧ Below w.heap.size w wr)
    (fun vi _ => T.length - (intOf vi).toNat)
  case atStart => exact ⟨0, M.toList, by omega, rfl, hown0, fun m hm => by omega, (Below.refl _ w).alloc (Nat.le_refl _) _⟩
  case round =>
    obtain ⟨i, ys, hil, rfl, hown, hys, hbw⟩ := hrel
    clear hown0 hmk
    have hyl : ys.length = T.length * 2 := hown.1
    by_cases hlt : i < T.length
    · have hlt' : (i : Int) < (T.length : Int) := by omega
      obtain ⟨g, o, rfl, hg, hty⟩ := HROW.out i hlt
      have hci := hty.below hbw hg
      have hsz : w.heap.size < wr.heap.size := (hown.lt w.heap.size rfl).2
      obtain ⟨ti, hti⟩ : ∃ t, ak T i = t := ⟨_, rfl⟩
      have HTI : Hid (ak T i = ti) := hti
      rw [hti] at hci
      clear hti hty
      obtain ⟨ep, up⟩ := ti
      obtain ⟨c0, c1⟩ := hci
      dsimp only at c0 c1
      go_wp2_with fail
      refine (toAck_any ep up _).mono ?_
      rintro e w2 ⟨rfl, hb2⟩
      have how2 := own_belowY hown hb2
      have hbw2 : Below w.heap.size w w2 := hbw.trans (hb2.mono hbw.size)
      have how8 := ((how2.stored (i * 2) (.int .i64 ep)).1.stored (i * 2 + 1) (.int .i64 up)).1
      have HS : Hid (∀ m, m < i + 1 → ∀ j, j < 2 → ((ys.set (i * 2) (.int .i64 ep)).set (i * 2 + 1) (.int .i64 up))[m * 2 + j]? = (ak T m).cells[j]?) := setAk_eq ys T i ⟨ep, up⟩ hyl hlt HTI.out hys.out
      have q : ∀ j, j < 2 → ∃ u, w2.cell? ⟨w.heap.size, i * 2 + j, none⟩ = some u := fun j hj => by
        have := how2.cellAt (i * 2 + j) (by omega)
        rw [List.getElem?_eq_getElem (by omega)] at this
        exact ⟨_, this⟩
      obtain ⟨u0, q0⟩ := q 0 (by omega)
      obtain ⟨u1, q1⟩ := q 1 (by omega)
      rw [Nat.add_zero] at q0
      have z0 := how2.frozenAt (i * 2)
      have z1 := how2.frozenAt (i * 2 + 1)
      generalize ((ys.set (i * 2) (Value.int .i64 ep)).set (i * 2 + 1) (.int .i64 up)) = zs at how8 HS
      clear how2 hown hb2 hbw q hys c0 c1
      go_wp2
      go_roundw
      case rel => exact ⟨i + 1, zs, by omega, by go_num, how8, HS, ((hbw2.setCell (Nat.le_refl _) _).setCell (Nat.le_refl _) _)⟩
      case measure => simp [intOf]; omega
    · have hke : i = T.length := by omega
      subst hke
      have hge : ¬ ((T.length : Int) < (T.length : Int)) := by omega
      have hE : Hid (ys = T.flatMap Ak.cells) := ys_eqAk T ys hyl hys.out
      clear hys
      go_wp2
      go_ret
      exact ⟨_, rfl, by unfold AkRow; rw [← hE.out]; exact hown, hbw⟩

set_option maxRecDepth 100000 in
theorem open_Ak {H : Type} {enc : TypeId × Value → H} {W : World} {base : Nat} {sp : Nat → Bool} {hd : Bool} {m : Nat} {cs : List Value} {x : DataW H × List MemPlace}
    (h : DataW.trod enc Try.prog W base sp hd m 126 cs = some x) : ∃ t : Ak, cs = t.cells := by
  obtain ⟨xs, m1, rfl, rfl, hlen, hn, hf⟩ := DataW.trod_struct Try.underlying126 h
  have c3 : Try.prog.cellsOf 3 = 1 := by kernel_rfl
  have c9 : Try.prog.cellsOf 9 = 1 := by kernel_rfl
  have c75 : Try.prog.cellsOf 126 = 2 := by kernel_rfl
  rw [c75] at hlen
  have f0 : DataW.trod enc Try.prog W base sp hd m1 3 ((cs.drop 0).take (Try.prog.cellsOf 3)) = xs[0]? := hf 0 _ rfl
  rw [c3] at f0
  have f1 : DataW.trod enc Try.prog W base sp hd m1 3 ((cs.drop 1).take (Try.prog.cellsOf 3)) = xs[1]? := hf 1 _ rfl
  rw [c3] at f1
  match xs, hn with
  | [x0, x1], _ =>
    match cs, hlen with
    | [k0, k1], _ =>
      obtain ⟨n0, e0, _⟩ := DataW.trod_int Try.underlying3 (show DataW.trod _ _ _ _ _ _ _ _ _ = some x0 from f0)
      obtain ⟨n1, e1, _⟩ := DataW.trod_int Try.underlying3 (show DataW.trod _ _ _ _ _ _ _ _ _ = some x1 from f1)
      simp at e0 e1
      exact ⟨⟨n0, n1⟩, by rw [e0, e1]; rfl⟩

set_option maxRecDepth 100000 in
theorem open_AksIn {H : Type} {enc : TypeId × Value → H} {W : World} {m : Nat} {v0 : Value} {x : DataW H × List MemPlace}
    (hf : DataW.trod enc Try.prog W 0 (fun _ => true) true m 33 [v0] = some x) : ∃ T, AksAt W W.heap.size v0 T := by
  have c75 : Try.prog.cellsOf 126 = 2 := by kernel_rfl
  rcases DataW.trod_slice Try.underlying33 hf with ⟨hcs, _⟩ | ⟨a, len, cap, elems, rest, m2, _, hcs, _, _, hlc, hcm, hel, hcell, _⟩
  · simp at hcs
    subst hcs
    exact ⟨[], ⟨none, 0, rfl, by simp, by unfold maxLen; omega, fun i hi => by simp at hi⟩⟩
  · simp at hcs
    subst hcs
    rw [c75] at hcell
    have each : ∀ i, i < len → ∃ t : Ak, (a = ⟨a.block, a.off, none⟩ ∧ a.block < W.heap.size) ∧ AkIn W a.block (a.off + i * 2) t := by
      intro i hi
      have h1 := hcell i hi
      rw [List.getElem?_eq_getElem (by omega), Option.bind_eq_some_iff] at h1
      obtain ⟨ci, hci, htr⟩ := h1
      obtain ⟨t, rfl⟩ := open_Ak htr
      obtain ⟨_, _, hc⟩ := World.cells?_some hci
      have h00 := hcell 0 (by omega)
      rw [List.getElem?_eq_getElem (by omega), Option.bind_eq_some_iff] at h00
      obtain ⟨c0, hc0, htr0⟩ := h00
      obtain ⟨t0, rfl⟩ := open_Ak htr0
      obtain ⟨_, _, hcc0⟩ := World.cells?_some hc0
      have hz := hcc0 0 (by omega)
      have hz' : W.cell? a = some (.int .i64 t0.ep) := by simpa [Addr.add, Ak.cells] using hz
      have hsp := spot_none hz'
      refine ⟨t, ⟨hsp, World.block_lt_of_cell? W a hz'⟩, ?_⟩
      have key : ∀ j, j < 2 → W.cell? ⟨a.block, a.off + i * 2 + j, none⟩ = t.cells[j]? := by
        intro j hj
        have h2 := hc j hj
        rw [← h2]
        congr 1
        rw [hsp]
        unfold Addr.add
        by_cases h0 : i * 2 = 0
        · rw [if_pos h0]
          by_cases hj0 : j = 0
          · rw [if_pos hj0]; simp; omega
          · rw [if_neg hj0]; simp
        · rw [if_neg h0]
          by_cases hj0 : j = 0
          · rw [if_pos hj0]; simp
          · rw [if_neg hj0]
      exact ⟨key 0 (by omega), key 1 (by omega)⟩
    obtain ⟨T, hT, hP⟩ := pick_list each
    have el : ∀ i, i < T.length → ak T i = T.getD i default := fun i hi => rfl
    refine ⟨T, ⟨some a, cap, by rw [hT], by omega, hcm, fun i hi => ?_⟩⟩
    · have h1 := hP i (by omega)
      refine ⟨a.block, a.off, by rw [← h1.1.1], h1.1.2, ?_⟩
      rw [el i hi]
      exact h1.2

end Go.Proofs.Ytnlppeieccbhgaa
