/- The law's own looks at Packet: how great, alike, copies, opened. -/
import Derived.Test.YtnlppeieccbhgaaPkM
import Derived.Test.YtnlppeieccbhgaaFxA
import Derived.Deep.RegionWith
import Derived.OpenShut
import Derived.Carry
namespace Go.Proofs.Ytnlppeieccbhgaa
open Go.RowKit Plain Tpc Ssn

set_option maxRecDepth 100000 in
set_option maxHeartbeats 1000000 in
theorem szPacket_any (ep : Int) (no : Int) (tx : ByteArray) (left : Int) (w : World) (hn : tx.size ≤ 9223372036854775807) (h0 : 0 ≤ left) (h1 : left ≤ 1048576) :
    Calls Try.prog 89 #[.agg #[.int .i64 ep, .int .i64 no, .string tx], .int .i64 left] w fun e w' => (∃ r : Int, e = .returned (.int .i64 r) ∧ -1 ≤ r ∧ r ≤ left ∧ (0 ≤ r → (tx.size : Int) ≤ left)) ∧ Below w.heap.size w w' := by
  by_cases hlt : left - (tx.size : Int) < 0
  · go_enter Try.func89, Try.ntmps89
    go_wp2
    go_ret
    exact ⟨⟨-1, rfl, by omega, by omega, fun h => by omega⟩, (Below.refl _ w).alloc (Nat.le_refl _) _⟩
  · go_enter Try.func89, Try.ntmps89
    go_wp2
    go_ret
    exact ⟨⟨left - (tx.size : Int), rfl, by omega, by omega, fun h => by omega⟩, (Below.refl _ w).alloc (Nat.le_refl _) _⟩

set_option maxRecDepth 100000 in
set_option maxHeartbeats 4000000 in
theorem szPacketS_left (T : List Pk) (v : Value) (L : Int) (w : World) (hT : PksAt w w.heap.size v T) (hN : ∀ i, i < T.length → (pk T i).tx.size ≤ 9223372036854775807) (hL0 : 0 ≤ L) (hL1 : L ≤ 1048576) :
    Calls Try.prog 57 #[v, .int .i64 L] w fun e w' => (∃ r : Int, e = .returned (.int .i64 r) ∧ -1 ≤ r ∧ r ≤ 1048576 ∧ (0 ≤ r → T.length ≤ 1048576 ∧ ∀ i, i < T.length → (pk T i).tx.size ≤ 1048576)) ∧ Below w.heap.size w w' := by
  by_cases hbig : L < (T.length : Int)
  · obtain ⟨ao, cap, rfl, hlc, hcm, _⟩ := hT
    unfold maxLen at hcm
    have hlt : L - (T.length : Int) < 0 := by omega
    have hge : (-9223372036854775808 : Int) ≤ L - (T.length : Int) := by omega
    go_enter Try.func57, Try.ntmps57
    go_wp2
    go_ret
    exact ⟨⟨-1, rfl, by omega, by omega, fun h => by omega⟩, Below.refl _ _⟩
  · have hlen : T.length ≤ 1048576 := by omega
    have hlen' : (T.length : Int) ≤ 1048576 := by omega
    have hge : ¬ (L - (T.length : Int) < 0) := by omega
    obtain ⟨ao, cap, rfl, hlc, hcm, hrow⟩ := hT
    have HNM : Hid (∀ i, i < T.length → (pk T i).tx.size ≤ 9223372036854775807) := hN
    have HROW : Hid (∀ i, i < T.length → ∃ g o, ao = some ⟨g, o, none⟩ ∧ g < w.heap.size ∧ PkIn w g (o + i * 3) (pk T i)) := hrow
    clear hrow hN hbig
    go_enter Try.func57, Try.ntmps57
    go_wp2
    go_loopw [1, 5] (fun vl vi wr => ∃ (i : Nat) (left : Int), i ≤ T.length ∧ vi = .int .i64 (i : Int) ∧ vl = .int .i64 left ∧ 0 ≤ left ∧ left ≤ 1048576 ∧ Hid (∀ j, j < i → (pk T j).tx.size ≤ 1048576) ∧ Below w.heap.size w wr)
      (fun _ vi _ => T.length - (intOf vi).toNat)
    case atStart => exact ⟨0, L - (T.length : Int), by omega, rfl, rfl, by omega, by omega, fun j hj => by omega, Below.refl _ _⟩
    case round =>
      obtain ⟨i, left, hi, rfl, rfl, hl0, hl1, hall, hbw⟩ := hrel
      by_cases hlt : i < T.length
      · have hlt' : (i : Int) < (T.length : Int) := by omega
        obtain ⟨g, o, rfl, hg, hty⟩ := HROW.out i hlt
        have hci := hty.below hbw hg
        have hni := HNM.out i hlt
        obtain ⟨ti, hti⟩ : ∃ t, pk T i = t := ⟨_, rfl⟩
        have HTI : Hid (pk T i = ti) := hti
        rw [hti] at hci hni
        clear hti hty
        obtain ⟨ep, no, tx⟩ := ti
        obtain ⟨c0, c1, c2⟩ := hci
        dsimp only at c0 c1 c2 hni
        go_wp2_with fail
        refine (szPacket_any ep no tx left _ hni hl0 hl1).mono ?_
        rintro e w2 ⟨⟨r, rfl, hr0, hr1, hr2⟩, hb2⟩
        have hbw2 : Below w.heap.size w w2 := hbw.trans (hb2.mono hbw.size)
        by_cases hneg : r < 0
        · clear hr2
          go_wp2
          go_ret
          exact ⟨⟨-1, rfl, by omega, by omega, fun h => by omega⟩, hbw2⟩
        · have hnn : (tx.size : Int) ≤ left := hr2 (by omega)
          have hall2 : Hid (∀ j, j < i + 1 → (pk T j).tx.size ≤ 1048576) := fun j hj => by
            by_cases hji : j = i
            · rw [hji, HTI.out]; show tx.size ≤ _; omega
            · exact hall.out j (by omega)
          clear hr2
          go_wp2
          go_roundw
          case rel => exact ⟨i + 1, r, by omega, by go_num, rfl, by omega, by omega, hall2, hbw2⟩
          case measure => simp [intOf]; omega
      · have hke : i = T.length := by omega
        subst hke
        have hge2 : ¬ ((T.length : Int) < (T.length : Int)) := by omega
        go_wp2
        go_ret
        exact ⟨⟨left, rfl, by omega, by omega, fun _ => by first | exact ⟨hlen, hall.out⟩ | exact hall.out⟩, hbw⟩

set_option maxRecDepth 100000 in
set_option maxHeartbeats 1000000 in
theorem eqPacket_same (ep : Int) (no : Int) (tx : ByteArray) (w : World) :
    Calls Try.prog 87 #[.agg #[.int .i64 ep, .int .i64 no, .string tx], .agg #[.int .i64 ep, .int .i64 no, .string tx]] w fun e w' => e = .returned (.bool true) ∧ Below w.heap.size w w' := by
  go_enter Try.func87, Try.ntmps87
  go_wp2
  go_ret
  exact ⟨rfl, by repeat' (first | exact Below.refl _ _ | refine Below.alloc ?_ (by simp) _)⟩

set_option maxRecDepth 100000 in
set_option maxHeartbeats 4000000 in
theorem eqPacketS_same (T : List Pk) (v1 v2 : Value) (w : World) (h1 : PksAt w w.heap.size v1 T) (h2 : PksAt w w.heap.size v2 T) (hl : T.length ≤ 2097152) :
    Calls Try.prog 50 #[v1, v2] w fun e w' => e = .returned (.bool true) ∧ Below w.heap.size w w' := by
  obtain ⟨ao, cap, rfl, _, hmax, hrow⟩ := h1
  obtain ⟨ao2, cap2, rfl, _, _, hrow2⟩ := h2
  have HROW : Hid (∀ i, i < T.length → ∃ g o, ao = some ⟨g, o, none⟩ ∧ g < w.heap.size ∧ PkIn w g (o + i * 3) (pk T i)) := hrow
  have HROW2 : Hid (∀ i, i < T.length → ∃ g o, ao2 = some ⟨g, o, none⟩ ∧ g < w.heap.size ∧ PkIn w g (o + i * 3) (pk T i)) := hrow2
  clear hrow hrow2
  go_enter Try.func50, Try.ntmps50
  go_wp2
  go_loopw [5] (fun vi wr => ∃ k : Nat, k ≤ T.length ∧ vi = .int .i64 (k : Int) ∧ Below w.heap.size w wr)
    (fun vi _ => T.length - (intOf vi).toNat)
  case atStart => exact ⟨0, by omega, rfl, Below.refl _ _⟩
  case round =>
    obtain ⟨k, hk, rfl, hbw⟩ := hrel
    by_cases hlt : k < T.length
    · obtain ⟨g, o, rfl, hgB, hy1⟩ := HROW.out k hlt
      obtain ⟨g2, o2, rfl, hgB2, hy2⟩ := HROW2.out k hlt
      have e1 := hy1.below hbw hgB
      have e2 := hy2.below hbw hgB2
      clear hy1 hy2
      obtain ⟨ti, hti⟩ : ∃ t, pk T k = t := ⟨_, rfl⟩
      rw [hti] at e1 e2
      clear hti
      obtain ⟨ep, no, tx⟩ := ti
      obtain ⟨c0, c1, c2⟩ := e1
      obtain ⟨x0, x1, x2⟩ := e2
      dsimp only at c0 c1 c2 x0 x1 x2
      have hlt' : (k : Int) < (T.length : Int) := by omega
      have C2 : Hid (∀ w : World, Calls Try.prog 87 #[.agg #[.int .i64 ep, .int .i64 no, .string tx], .agg #[.int .i64 ep, .int .i64 no, .string tx]] w fun e w' => e = .returned (.bool true) ∧ Below w.heap.size w w') := fun w => eqPacket_same ep no tx w
      go_wp2_with fail
      go_region_with (go_at_call 87; refine (C2.out _).mono ?_; rintro e w2 ⟨rfl, hb2⟩; have hbw2 : Below w.heap.size w w2 := hbw.drew.trans (hb2.mono hbw.size))
      all_goals
        go_wp2
        go_roundw
        case rel => exact ⟨k + 1, by omega, by go_num, hbw2⟩
        case measure => simp [intOf]; omega
    · have hke : k = T.length := by omega
      subst hke
      have hge : ¬ ((T.length : Int) < (T.length : Int)) := by omega
      go_wp2
      go_ret
      exact ⟨rfl, hbw⟩

set_option maxRecDepth 100000 in
set_option maxHeartbeats 1000000 in
theorem toPacket_any (ep : Int) (no : Int) (tx : ByteArray) (w : World) :
    Calls Try.prog 90 #[.agg #[.int .i64 ep, .int .i64 no, .string tx]] w fun e w' => e = .returned (.agg #[.int .i64 ep, .int .i64 no, .string tx]) ∧ Below w.heap.size w w' := by
  go_enter Try.func90, Try.ntmps90
  go_wp2
  (try simp only [Exit.inBlock, Exit.then])
  refine bodyPost_ret (v := .agg #[.int .i64 ep, .int .i64 no, .string tx]) ?_ rfl ⟨rfl, ?_⟩
  · have rc : ∀ (tmps : Array Value) (P : Program) (w : World), (results Try.f90 tmps).run P w = ((asAddr (tmps.getD 2 undef)).run P w).andThen fun a w₁ => (loadVar 84 a).run P w₁ := fun tmps P w => by
      have h : Try.f90.results = #[.cell 2 84] := rfl
      simp only [results, h]
      simp [Sem.run_bind, Result.andThen]
    rw [rc]
    go_simp
  · repeat' (first | exact Below.refl _ _ | refine Below.alloc ?_ (by simp <;> omega) _ | refine Below.setCell ?_ (by simp <;> omega) _)

theorem setPk_eq (ys : List Value) (T : List Pk) (i : Nat) (t : Pk) (hl : ys.length = T.length * 3) (hi : i < T.length) (ht : pk T i = t) (hm : ∀ m, m < i → ∀ j, j < 3 → ys[m * 3 + j]? = (pk T m).cells[j]?) : ∀ m, m < i + 1 → ∀ j, j < 3 →
    (((ys.set (i * 3) (.int .i64 t.ep)).set (i * 3 + 1) (.int .i64 t.no)).set (i * 3 + 2) (.string t.tx))[m * 3 + j]? = (pk T m).cells[j]? := by
  intro m hmi j hj
  simp only [List.getElem?_set, List.length_set]
  by_cases hme : m = i
  · subst hme
    rw [ht]
    match j, hj with
    | 0, _ => simp [Pk.cells]; omega
    | 1, _ => simp [Pk.cells]; omega
    | 2, _ => simp [Pk.cells]; omega
  · rw [if_neg (by omega), if_neg (by omega), if_neg (by omega)]
    exact hm m (by omega) j hj

set_option maxRecDepth 100000 in
set_option maxHeartbeats 4000000 in
theorem toPacketS_any (T : List Pk) (v : Value) (w : World) (hT : PksAt w w.heap.size v T) (hl : T.length ≤ 1048576) :
    Calls Try.prog 62 #[v] w fun e w' => ∃ r, e = .returned r ∧ PkRow w' w.heap.size r T ∧ Below w.heap.size w w' := by
  obtain ⟨i0, hi, hz0, hz1, hz2⟩ := info_parts Try.infoPk
  obtain ⟨ao, cap, rfl, _, hmax, hrow⟩ := hT
  have HROW : Hid (∀ i, i < T.length → ∃ g o, ao = some ⟨g, o, none⟩ ∧ g < w.heap.size ∧ PkIn w g (o + i * 3) (pk T i)) := hrow
  clear hrow
  obtain ⟨M, hM⟩ : ∃ M, M = madeCells (Value.agg #[.int .i64 0, .int .i64 0, .string ⟨#[]⟩]).cells (((T.length : Nat) : Int).toNat * i0.size) := ⟨_, rfl⟩
  have hMs : M.size = T.length * 3 := by rw [hM, size_madeCells, hz1]; simp
  have hmk : ∀ W : World, (Instr.makeSlice 23 (.int .i64 (T.length : Int)) (.int .i64 (T.length : Int))).run Try.prog W = .ok (.slice (some ⟨W.heap.size, 0, none⟩) T.length T.length) (W.alloc (.cells M 84)) := fun W => by
    have h := run_make (P := Try.prog) W 23 84 i0 (.agg #[.int .i64 0, .int .i64 0, .string ⟨#[]⟩]) Try.underlying23 hi hz0 .i64 .i64 (T.length : Int) (T.length : Int) (by omega) (by omega) (by rw [hz2]; omega) (by omega)
    rw [← hM] at h
    simpa using h
  have hown0 : (w.alloc (.cells M 84)).ownsRow w.heap.size 84 3 (.slice (some ⟨w.heap.size, 0, none⟩) T.length T.length) T.length M.toList :=
    ⟨by simp [hMs], .inr ⟨w.heap.size, T.length, M, rfl, Nat.le_refl _, heap_alloc_new w _, Nat.le_refl _, by unfold maxLen; omega, hMs, by rw [List.take_of_length_le (by simp [hMs])]⟩⟩
  clear hM
  go_enter Try.func62, Try.ntmps62
  go_wp2
  go_loopw [4] (fun vi wr => ∃ (i : Nat) (ys : List Value), i ≤ T.length ∧ vi = .int .i64 (i : Int) ∧ wr.ownsRow w.heap.size 84 3 (.slice (some ⟨w.heap.size, 0, none⟩) T.length T.length) T.length ys ∧ Hid (∀ m, m < i → ∀ j, j < 3 → ys[m * 3 + j]? = (pk T m).cells[j]?) ∧ Below w.heap.size w wr)
    (fun vi _ => T.length - (intOf vi).toNat)
  case atStart => exact ⟨0, M.toList, by omega, rfl, hown0, fun m hm => by omega, (Below.refl _ w).alloc (Nat.le_refl _) _⟩
  case round =>
    obtain ⟨i, ys, hil, rfl, hown, hys, hbw⟩ := hrel
    clear hown0 hmk
    have hyl : ys.length = T.length * 3 := hown.1
    by_cases hlt : i < T.length
    · have hlt' : (i : Int) < (T.length : Int) := by omega
      obtain ⟨g, o, rfl, hg, hty⟩ := HROW.out i hlt
      have hci := hty.below hbw hg
      have hsz : w.heap.size < wr.heap.size := (hown.lt w.heap.size rfl).2
      obtain ⟨ti, hti⟩ : ∃ t, pk T i = t := ⟨_, rfl⟩
      have HTI : Hid (pk T i = ti) := hti
      rw [hti] at hci
      clear hti hty
      obtain ⟨ep, no, tx⟩ := ti
      obtain ⟨c0, c1, c2⟩ := hci
      dsimp only at c0 c1 c2
      go_wp2_with fail
      refine (toPacket_any ep no tx _).mono ?_
      rintro e w2 ⟨rfl, hb2⟩
      have how2 := own_belowY hown hb2
      have hbw2 : Below w.heap.size w w2 := hbw.trans (hb2.mono hbw.size)
      have how8 := (((how2.stored (i * 3) (.int .i64 ep)).1.stored (i * 3 + 1) (.int .i64 no)).1.stored (i * 3 + 2) (.string tx)).1
      have HS : Hid (∀ m, m < i + 1 → ∀ j, j < 3 → (((ys.set (i * 3) (.int .i64 ep)).set (i * 3 + 1) (.int .i64 no)).set (i * 3 + 2) (.string tx))[m * 3 + j]? = (pk T m).cells[j]?) := setPk_eq ys T i ⟨ep, no, tx⟩ hyl hlt HTI.out hys.out
      have q : ∀ j, j < 3 → ∃ u, w2.cell? ⟨w.heap.size, i * 3 + j, none⟩ = some u := fun j hj => by
        have := how2.cellAt (i * 3 + j) (by omega)
        rw [List.getElem?_eq_getElem (by omega)] at this
        exact ⟨_, this⟩
      obtain ⟨u0, q0⟩ := q 0 (by omega)
      obtain ⟨u1, q1⟩ := q 1 (by omega)
      obtain ⟨u2, q2⟩ := q 2 (by omega)
      rw [Nat.add_zero] at q0
      have z0 := how2.frozenAt (i * 3)
      have z1 := how2.frozenAt (i * 3 + 1)
      have z2 := how2.frozenAt (i * 3 + 2)
      generalize (((ys.set (i * 3) (Value.int .i64 ep)).set (i * 3 + 1) (.int .i64 no)).set (i * 3 + 2) (.string tx)) = zs at how8 HS
      clear how2 hown hb2 hbw q hys c0 c1 c2
      go_wp2
      go_roundw
      case rel => exact ⟨i + 1, zs, by omega, by go_num, how8, HS, (((hbw2.setCell (Nat.le_refl _) _).setCell (Nat.le_refl _) _).setCell (Nat.le_refl _) _)⟩
      case measure => simp [intOf]; omega
    · have hke : i = T.length := by omega
      subst hke
      have hge : ¬ ((T.length : Int) < (T.length : Int)) := by omega
      have hE : Hid (ys = T.flatMap Pk.cells) := ys_eqPk T ys hyl hys.out
      clear hys
      go_wp2
      go_ret
      exact ⟨_, rfl, by unfold PkRow; rw [← hE.out]; exact hown, hbw⟩

set_option maxRecDepth 100000 in
theorem open_Pk {H : Type} {enc : TypeId × Value → H} {W : World} {base : Nat} {sp : Nat → Bool} {hd : Bool} {m : Nat} {cs : List Value} {x : DataW H × List MemPlace}
    (h : DataW.trod enc Try.prog W base sp hd m 123 cs = some x) : ∃ t : Pk, cs = t.cells ∧ t.tx.size ≤ maxLen := by
  obtain ⟨xs, m1, rfl, rfl, hlen, hn, hf⟩ := DataW.trod_struct Try.underlying123 h
  have c3 : Try.prog.cellsOf 3 = 1 := by kernel_rfl
  have c9 : Try.prog.cellsOf 9 = 1 := by kernel_rfl
  have c75 : Try.prog.cellsOf 123 = 3 := by kernel_rfl
  rw [c75] at hlen
  have f0 : DataW.trod enc Try.prog W base sp hd m1 3 ((cs.drop 0).take (Try.prog.cellsOf 3)) = xs[0]? := hf 0 _ rfl
  rw [c3] at f0
  have f1 : DataW.trod enc Try.prog W base sp hd m1 3 ((cs.drop 1).take (Try.prog.cellsOf 3)) = xs[1]? := hf 1 _ rfl
  rw [c3] at f1
  have f2 : DataW.trod enc Try.prog W base sp hd m1 9 ((cs.drop 2).take (Try.prog.cellsOf 9)) = xs[2]? := hf 2 _ rfl
  rw [c9] at f2
  match xs, hn with
  | [x0, x1, x2], _ =>
    match cs, hlen with
    | [k0, k1, k2], _ =>
      obtain ⟨n0, e0, _⟩ := DataW.trod_int Try.underlying3 (show DataW.trod _ _ _ _ _ _ _ _ _ = some x0 from f0)
      obtain ⟨n1, e1, _⟩ := DataW.trod_int Try.underlying3 (show DataW.trod _ _ _ _ _ _ _ _ _ = some x1 from f1)
      obtain ⟨n2, e2, _, hs⟩ := DataW.trod_string Try.underlying9 (show DataW.trod _ _ _ _ _ _ _ _ _ = some x2 from f2)
      simp at e0 e1 e2
      exact ⟨⟨n0, n1, n2⟩, by rw [e0, e1, e2]; rfl, hs⟩

set_option maxRecDepth 100000 in
theorem open_PksIn {H : Type} {enc : TypeId × Value → H} {W : World} {m : Nat} {v0 : Value} {x : DataW H × List MemPlace}
    (hf : DataW.trod enc Try.prog W 0 (fun _ => true) true m 32 [v0] = some x) : ∃ T, PksAt W W.heap.size v0 T ∧ ∀ i, i < T.length → (pk T i).tx.size ≤ 9223372036854775807 := by
  have c75 : Try.prog.cellsOf 123 = 3 := by kernel_rfl
  rcases DataW.trod_slice Try.underlying32 hf with ⟨hcs, _⟩ | ⟨a, len, cap, elems, rest, m2, _, hcs, _, _, hlc, hcm, hel, hcell, _⟩
  · simp at hcs
    subst hcs
    exact ⟨[], ⟨none, 0, rfl, by simp, by unfold maxLen; omega, fun i hi => by simp at hi⟩, fun i hi => by simp at hi⟩
  · simp at hcs
    subst hcs
    rw [c75] at hcell
    have each : ∀ i, i < len → ∃ t : Pk, (a = ⟨a.block, a.off, none⟩ ∧ a.block < W.heap.size) ∧ PkIn W a.block (a.off + i * 3) t ∧ t.tx.size ≤ maxLen := by
      intro i hi
      have h1 := hcell i hi
      rw [List.getElem?_eq_getElem (by omega), Option.bind_eq_some_iff] at h1
      obtain ⟨ci, hci, htr⟩ := h1
      obtain ⟨t, rfl, hnm⟩ := open_Pk htr
      obtain ⟨_, _, hc⟩ := World.cells?_some hci
      have h00 := hcell 0 (by omega)
      rw [List.getElem?_eq_getElem (by omega), Option.bind_eq_some_iff] at h00
      obtain ⟨c0, hc0, htr0⟩ := h00
      obtain ⟨t0, rfl, _⟩ := open_Pk htr0
      obtain ⟨_, _, hcc0⟩ := World.cells?_some hc0
      have hz := hcc0 0 (by omega)
      have hz' : W.cell? a = some (.int .i64 t0.ep) := by simpa [Addr.add, Pk.cells] using hz
      have hsp := spot_none hz'
      refine ⟨t, ⟨hsp, World.block_lt_of_cell? W a hz'⟩, ?_, hnm⟩
      have key : ∀ j, j < 3 → W.cell? ⟨a.block, a.off + i * 3 + j, none⟩ = t.cells[j]? := by
        intro j hj
        have h2 := hc j hj
        rw [← h2]
        congr 1
        rw [hsp]
        unfold Addr.add
        by_cases h0 : i * 3 = 0
        · rw [if_pos h0]
          by_cases hj0 : j = 0
          · rw [if_pos hj0]; simp; omega
          · rw [if_neg hj0]; simp
        · rw [if_neg h0]
          by_cases hj0 : j = 0
          · rw [if_pos hj0]; simp
          · rw [if_neg hj0]
      exact ⟨key 0 (by omega), key 1 (by omega), key 2 (by omega)⟩
    obtain ⟨T, hT, hP⟩ := pick_list each
    have el : ∀ i, i < T.length → pk T i = T.getD i default := fun i hi => rfl
    refine ⟨T, ⟨some a, cap, by rw [hT], by omega, hcm, fun i hi => ?_⟩, fun i hi => ?_⟩
    · have h1 := hP i (by omega)
      refine ⟨a.block, a.off, by rw [← h1.1.1], h1.1.2, ?_⟩
      rw [el i hi]
      exact h1.2.1
    · have h1 := (hP i (by omega)).2.2
      unfold maxLen at h1
      rw [el i hi]
      exact h1

end Go.Proofs.Ytnlppeieccbhgaa
