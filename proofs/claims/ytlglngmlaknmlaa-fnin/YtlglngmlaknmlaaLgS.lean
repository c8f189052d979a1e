/- Lists of texts that came in: opened, measured, copied, compared. -/
import Derived.Test.YtlglngmlaknmlaaLgL
import Derived.Test.YtlglngmlaknmlaaLwO
import Derived.Laws.MakeOwn
import Derived.OpenShut
import Derived.Carry
namespace Go.Proofs.Ytlglngmlaknmlaa
open Go.RowKit Plain Lgs Tpc

set_option maxRecDepth 100000 in
set_option maxHeartbeats 4000000 in
theorem szTexts_left (T : List ByteArray) (v : Value) (L : Int) (w : World) (hT : StAt w w.heap.size v T) (hN : ∀ i, i < T.length → (lq T i).size ≤ 9223372036854775807) (hL0 : 0 ≤ L) (hL1 : L ≤ 1048576) :
    Calls Try.prog 19 #[v, .int .i64 L] w fun e w' => (∃ r : Int, e = .returned (.int .i64 r) ∧ -1 ≤ r ∧ r ≤ 1048576 ∧ (0 ≤ r → T.length ≤ 1048576 ∧ ∀ i, i < T.length → (lq T i).size ≤ 1048576)) ∧ w' = w := by
  by_cases hbig : L < (T.length : Int)
  · obtain ⟨ao, cap, rfl, hlc, hcm, _⟩ := hT
    unfold maxLen at hcm
    have hlt : L - (T.length : Int) < 0 := by omega
    have hge : (-9223372036854775808 : Int) ≤ L - (T.length : Int) := by omega
    go_enter Try.func19, Try.ntmps19
    go_wp2
    go_ret
    exact ⟨⟨-1, rfl, by omega, by omega, fun h => by omega⟩, rfl⟩
  · have hlen : T.length ≤ 1048576 := by omega
    have hlen' : (T.length : Int) ≤ 1048576 := by omega
    have hge : ¬ (L - (T.length : Int) < 0) := by omega
    obtain ⟨ao, cap, rfl, hlc, hcm, hrow⟩ := hT
    have HNM : Hid (∀ i, i < T.length → (lq T i).size ≤ 9223372036854775807) := hN
    have HROW : Hid (∀ i, i < T.length → ∃ g o, ao = some ⟨g, o, none⟩ ∧ g < w.heap.size ∧ w.cell? ⟨g, o + i, none⟩ = some (.string (lq T i))) := hrow
    clear hrow hN hbig
    go_enter Try.func19, Try.ntmps19
    go_wp2
    go_loopw [1, 5] (fun vl vi wr => ∃ (i : Nat) (left : Int), i ≤ T.length ∧ vi = .int .i64 (i : Int) ∧ vl = .int .i64 left ∧ 0 ≤ left ∧ left ≤ 1048576 ∧ Hid (∀ j, j < i → (lq T j).size ≤ 1048576) ∧ wr = w)
      (fun _ vi _ => T.length - (intOf vi).toNat)
    case atStart => exact ⟨0, L - (T.length : Int), by omega, rfl, rfl, by omega, by omega, fun j hj => by omega, rfl⟩
    case round =>
      obtain ⟨i, left, hi, rfl, rfl, hl0, hl1, hall, rfl⟩ := hrel
      by_cases hlt : i < T.length
      · have hlt' : (i : Int) < (T.length : Int) := by omega
        obtain ⟨g, o, rfl, hg, c⟩ := HROW.out i hlt
        have hni := HNM.out i hlt
        have HA : Hid ((lq T i).size ≤ 1048576 → ∀ j, j < i + 1 → (lq T j).size ≤ 1048576) := fun h j hj => by
          by_cases hji : j = i
          · rw [hji]; exact h
          · exact hall.out j (by omega)
        generalize lq T i = s at c hni HA
        clear hall
        by_cases hneg : left - (s.size : Int) < 0
        · go_wp2
          go_ret
          exact ⟨⟨-1, rfl, by omega, by omega, fun h => by omega⟩, rfl⟩
        · have hall2 : Hid (∀ j, j < i + 1 → (lq T j).size ≤ 1048576) := HA.out (by omega)
          clear HA
          go_wp2
          go_roundw
          case rel => exact ⟨i + 1, left - (s.size : Int), by omega, by go_num, rfl, by omega, by omega, hall2, by first | rfl | trivial⟩
          case measure => simp [intOf]; omega
      · have hke : i = T.length := by omega
        subst hke
        have hge2 : ¬ ((T.length : Int) < (T.length : Int)) := by omega
        go_wp2
        go_ret
        exact ⟨⟨left, rfl, by omega, by omega, fun _ => by first | exact ⟨hlen, hall.out⟩ | exact hall.out⟩, rfl⟩

set_option maxRecDepth 100000 in
set_option maxHeartbeats 4000000 in
theorem eqTexts_same (l : List ByteArray) (v1 v2 : Value) (w : World) (h1 : StAt w w.heap.size v1 l) (h2 : StAt w w.heap.size v2 l) (hl : l.length ≤ 2097152) :
    Calls Try.prog 23 #[v1, v2] w fun e w' => e = .returned (.bool true) ∧ Below w.heap.size w w' := by
  obtain ⟨ao, cap, rfl, hmax, _, hrow⟩ := h1
  obtain ⟨ao2, cap2, rfl, _, _, hrow2⟩ := h2
  go_enter Try.func23, Try.ntmps23
  go_wp2
  go_loopw [5] (fun vi wr => ∃ k : Nat, k ≤ l.length ∧ vi = .int .i64 (k : Int) ∧ Below w.heap.size w wr)
    (fun vi _ => l.length - (intOf vi).toNat)
  case atStart => exact ⟨0, by omega, rfl, Below.refl _ _⟩
  case round =>
    obtain ⟨k, hk, rfl, hbw⟩ := hrel
    by_cases hlt : k < l.length
    · obtain ⟨g, o, rfl, hg, c⟩ := hrow k hlt
      obtain ⟨g2, o2, rfl, hg2, c2⟩ := hrow2 k hlt
      have e1 := (hbw.cell (p := ⟨g, o + k, none⟩) hg).trans c
      have e2 := (hbw.cell (p := ⟨g2, o2 + k, none⟩) hg2).trans c2
      clear hrow hrow2 c c2
      generalize lq l k = s at e1 e2
      have hlt' : (k : Int) < (l.length : Int) := by omega
      go_wp2_with fail
      go_quiet (fail)
      go_wp2
      go_roundw
      case rel => exact ⟨k + 1, by omega, by go_num, below_drewN hbw⟩
      case measure => simp [intOf]; omega
    · have hke : k = l.length := by omega
      subst hke
      have hge : ¬ ((l.length : Int) < (l.length : Int)) := by omega
      go_wp2
      go_ret
      exact ⟨rfl, hbw⟩

theorem setT_eq (ys : List Value) (l : List ByteArray) (i : Nat) (hl : ys.length = l.length) (hi : i < l.length) (hm : ∀ m, m < i → ys[m]? = (strs l)[m]?) : ∀ m, m < i + 1 → (ys.set i (.string (lq l i)))[m]? = (strs l)[m]? := by
  intro m hmi
  rw [List.getElem?_set]
  by_cases h : i = m
  · subst h
    rw [if_pos rfl, if_pos (by omega)]
    simp [strs, lq_at hi]
  · rw [if_neg h]
    exact hm m (by omega)

set_option maxRecDepth 100000 in
set_option maxHeartbeats 4000000 in
theorem toTexts_any (l : List ByteArray) (v : Value) (w : World) (hT : StAt w w.heap.size v l) (hl : l.length ≤ 1048576) :
    Calls Try.prog 21 #[v] w fun e w' => ∃ r, e = .returned r ∧ StRow w' w.heap.size r l ∧ Below w.heap.size w w' := by
  obtain ⟨i0, hi, hz0, hz1, hz2⟩ := info_parts infoStr
  obtain ⟨ao, cap, rfl, _, hmax, hrow⟩ := hT
  have HROW : Hid (∀ i, i < l.length → ∃ g o, ao = some ⟨g, o, none⟩ ∧ g < w.heap.size ∧ w.cell? ⟨g, o + i, none⟩ = some (.string (lq l i))) := hrow
  clear hrow
  obtain ⟨M, hM⟩ : ∃ M, M = madeCells (Value.string ByteArray.empty).cells (((l.length : Nat) : Int).toNat * i0.size) := ⟨_, rfl⟩
  have hMs : M.size = l.length * 1 := by rw [hM, size_madeCells, hz1]; simp
  have hmk : ∀ W : World, (Instr.makeSlice 29 (.int .i64 (l.length : Int)) (.int .i64 (l.length : Int))).run Try.prog W = .ok (.slice (some ⟨W.heap.size, 0, none⟩) l.length l.length) (W.alloc (.cells M 9)) := fun W => by
    have h := run_make (P := Try.prog) W 29 9 i0 (.string ByteArray.empty) Try.underlying29 hi hz0 .i64 .i64 (l.length : Int) (l.length : Int) (by omega) (by omega) (by rw [hz2]; omega) (by omega)
    rw [← hM] at h
    simpa using h
  have hown0 : (w.alloc (.cells M 9)).ownsRow w.heap.size 9 1 (.slice (some ⟨w.heap.size, 0, none⟩) l.length l.length) l.length M.toList :=
    ⟨by simp [hMs], .inr ⟨w.heap.size, l.length, M, rfl, Nat.le_refl _, heap_alloc_new w _, Nat.le_refl _, by unfold maxLen; omega, hMs, by rw [List.take_of_length_le (by simp [hMs])]⟩⟩
  clear hM
  go_enter Try.func21, Try.ntmps21
  go_wp2
  go_loopw [4] (fun vi wr => ∃ (i : Nat) (ys : List Value), i ≤ l.length ∧ vi = .int .i64 (i : Int) ∧ wr.ownsRow w.heap.size 9 1 (.slice (some ⟨w.heap.size, 0, none⟩) l.length l.length) l.length ys ∧ Hid (∀ m, m < i → ys[m]? = (strs l)[m]?) ∧ Below w.heap.size w wr)
    (fun vi _ => l.length - (intOf vi).toNat)
  case atStart => exact ⟨0, M.toList, by omega, rfl, hown0, fun m hm => by omega, (Below.refl _ w).alloc (Nat.le_refl _) _⟩
  case round =>
    obtain ⟨i, ys, hil, rfl, hown, hys, hbw⟩ := hrel
    clear hown0 hmk
    have hyl : ys.length = l.length := by have := hown.1; omega
    by_cases hlt : i < l.length
    · have hlt' : (i : Int) < (l.length : Int) := by omega
      obtain ⟨g, o, rfl, hg, c⟩ := HROW.out i hlt
      have e1 := (hbw.cell (p := ⟨g, o + i, none⟩) hg).trans c
      have hgs : g < wr.heap.size := by have := hbw.size; omega
      have q0 := hown.cellAt i (by omega)
      rw [List.getElem?_eq_getElem (by omega)] at q0
      have z0 := hown.frozenAt i
      have hsz : w.heap.size < wr.heap.size := (hown.lt w.heap.size rfl).2
      generalize ys[i] = a0 at q0
      have how6 := (hown.stored i (.string (lq l i))).1
      have HM : Hid (∀ m, m < i + 1 → (ys.set i (.string (lq l i)))[m]? = (strs l)[m]?) := setT_eq ys l i hyl hlt hys.out
      generalize ys.set i (Value.string (lq l i)) = zs at how6 HM
      generalize lq l i = x at *
      clear hown hys c
      go_wp2
      go_roundw
      case rel => exact ⟨i + 1, zs, by omega, by go_num, how6, HM, hbw.setCell (p := ⟨w.heap.size, i, none⟩) (Nat.le_refl _) _⟩
      case measure => simp [intOf]; omega
    · have hke : i = l.length := by omega
      subst hke
      have hge : ¬ ((l.length : Int) < (l.length : Int)) := by omega
      have hE : Hid (ys = strs l) := List.ext_getElem? fun m => by
        by_cases hm : m < l.length
        · exact hys.out m hm
        · rw [List.getElem?_eq_none (by omega), List.getElem?_eq_none (by simp [strs]; omega)]
      clear hys
      go_wp2
      go_ret
      exact ⟨_, rfl, by unfold StRow; rw [← hE.out]; exact hown, hbw⟩

set_option maxRecDepth 100000 in
theorem open_texts {H : Type} {enc : TypeId × Value → H} {W : World} {base : Nat} {v0 : Value} {d0 : DataW H} {p0 : List MemPlace} (hok : Value.okWide Try.prog W .any base 29 v0)
    (h0 : DataW.Trod enc Try.prog W 0 (fun _ => true) true 29 v0 d0 p0) : ∃ l, StAt W W.heap.size v0 l ∧ ∀ i, i < l.length → (lq l i).size ≤ 9223372036854775807 := by
  have c3 : Try.prog.cellsOf 9 = 1 := by kernel_rfl
  obtain ⟨a, len, cap, rfl⟩ := Go.WideShapes.okWide_slice Try.underlying29 hok
  obtain ⟨fuel, hf⟩ := h0
  rw [show (Value.slice a len cap).cells = #[Value.slice a len cap] from rfl] at hf
  rcases DataW.trod_slice Try.underlying29 hf with ⟨hcs, _⟩ | ⟨a, len, cap, elems, rest, m2, _, hcs, _, _, hlc, hcm, hel, hcell, _⟩
  · simp at hcs
    obtain ⟨rfl, rfl, rfl⟩ := hcs
    exact ⟨[], ⟨none, 0, rfl, by simp, by unfold maxLen; omega, fun i hi => by simp at hi⟩, fun i hi => by simp at hi⟩
  · simp at hcs
    obtain ⟨rfl, rfl, rfl⟩ := hcs
    rw [c3] at hcell
    have each : ∀ i, i < len → ∃ t : ByteArray, (a = ⟨a.block, a.off, none⟩ ∧ a.block < W.heap.size) ∧ W.cell? ⟨a.block, a.off + i, none⟩ = some (.string t) ∧ t.size ≤ maxLen := by
      intro i hi
      have h1 := hcell i hi
      rw [List.getElem?_eq_getElem (by omega), Option.bind_eq_some_iff] at h1
      obtain ⟨ci, hci, htr⟩ := h1
      obtain ⟨t, rfl, _, hts⟩ := DataW.trod_string Try.underlying9 htr
      obtain ⟨_, _, hcc⟩ := World.cells?_some hci
      have h00 := hcell 0 (by omega)
      rw [List.getElem?_eq_getElem (by omega), Option.bind_eq_some_iff] at h00
      obtain ⟨c0, hc0, htr0⟩ := h00
      obtain ⟨t0, rfl, _⟩ := DataW.trod_string Try.underlying9 htr0
      obtain ⟨_, _, hcc0⟩ := World.cells?_some hc0
      have hz := hcc0 0 (by omega)
      have hz' : W.cell? a = some (.string t0) := by simpa [Addr.add] using hz
      have hsp := spot_none hz'
      refine ⟨t, ⟨hsp, World.block_lt_of_cell? W a hz'⟩, ?_, hts⟩
      have h2 := hcc 0 (by omega)
      rw [show (some (Value.string t)) = [Value.string t][0]? from rfl, ← h2]
      congr 1
      rw [hsp]
      unfold Addr.add
      by_cases h0 : i * 1 = 0
      · rw [if_pos h0]; simp; omega
      · rw [if_neg h0]; simp
    obtain ⟨l, hl, hP⟩ := pick_list each
    refine ⟨l, ⟨some a, cap, by rw [hl], by omega, hcm, fun i hi => ?_⟩, fun i hi => ?_⟩
    · have h1 := hP i (by omega)
      refine ⟨a.block, a.off, by rw [← h1.1.1], h1.1.2, ?_⟩
      rw [h1.2.1]
      unfold lq
      rw [List.getD_eq_getElem?_getD, List.getD_eq_getElem?_getD, List.getElem?_eq_getElem hi]
      rfl
    · have h1 := (hP i (by omega)).2.2
      unfold maxLen at h1
      have e : lq l i = l.getD i default := by
        unfold lq
        rw [List.getD_eq_getElem?_getD, List.getD_eq_getElem?_getD, List.getElem?_eq_getElem hi]
        rfl
      rw [e]
      exact h1

end Go.Proofs.Ytlglngmlaknmlaa
