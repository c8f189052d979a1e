/- Texts and lists of texts: bytes, looks of the law's own, marks. -/
import Derived.Test.YtnlppeieccbhgaaToM
import Derived.Test.YtnlppeieccbhgaaGr
import Derived.Laws.MakeOwn
import Derived.Laws.ResultCell
import Derived.OpenShut
import Derived.Carry
import Derived.Lib.BufferOwn
namespace Go.Proofs.Ytnlppeieccbhgaa
open Go.RowKit Plain Tpc

theorem spot_none {w : World} {a : Addr} {u : Value} (h : w.cell? a = some u) : a = ⟨a.block, a.off, none⟩ := by
  unfold World.cell? at h
  split at h
  · split at h
    · cases h
    · rename_i hs
      cases a with
      | mk b o s =>
        cases s with
        | none => rfl
        | some x => simp at hs
  · cases h

theorem pick_list {α : Type} [Inhabited α] {n : Nat} {P : Nat → α → Prop} (h : ∀ i, i < n → ∃ t, P i t) : ∃ l : List α, l.length = n ∧ ∀ i, i < n → P i (l.getD i default) := by
  induction n with
  | zero => exact ⟨[], rfl, fun i hi => by omega⟩
  | succ n ih =>
    obtain ⟨l, hl, hp⟩ := ih (fun i hi => h i (by omega))
    obtain ⟨t, ht⟩ := h n (by omega)
    refine ⟨l ++ [t], by simp [hl], fun i hi => ?_⟩
    by_cases hin : i = n
    · subst hin
      simpa [List.getD, hl] using ht
    · have := hp i (by omega)
      simpa [List.getD, List.getElem?_append_left (show i < l.length by omega)] using this

theorem bt_ext {a b : ByteArray} (hs : a.size = b.size) (h : ∀ i, i < a.size → bt a i = bt b i) : a = b := by
  apply ByteArray.ext
  apply Array.ext hs
  intro i h1 h2
  have := h i h1
  unfold bt at this
  rw [dif_pos (show i < a.size from h1), dif_pos (show i < b.size from h2)] at this
  exact UInt8.toNat_inj.1 this

theorem size_ext (s : ByteArray) (a b : Nat) (hb : b ≤ s.size) : (s.extract a b).size = b - a := by
  rw [ByteArray.size_extract]; omega

theorem bt_cut (s : ByteArray) (a b i : Nat) (hb : b ≤ s.size) (hi : a + i < b) : bt (s.extract a b) i = bt s (a + i) := by
  unfold bt
  rw [dif_pos (by rw [size_ext s a b hb]; omega), dif_pos (by omega), ByteArray.getElem_extract]

theorem str_eqB (a b : ByteArray) : (a.toList == b.toList) = decide (a = b) := by
  by_cases h : a = b
  · simp [h]
  · rw [str_neB h]; simp [h]

theorem idxL (s : ByteArray) (i : Nat) (h : i < s.size) : ∀ w : World, (Instr.index 9 (.string s) (.int .i64 (i : Int))).run Try.prog w = .ok (.int .u8 ((bt s i : Nat) : Int)) w := fun w => by
  rw [run_index_string w 9 s .i64 (i : Int) Try.underlying9, dif_pos ⟨by omega, by omega⟩]
  congr 2
  rw [← bt_get s i h]
  rfl

theorem StAt.take {w : World} {B : Nat} {L : List ByteArray} {ao : Option Addr} {n cap k : Nat} (h : StAt w B (.slice ao n cap) L) (hk : k ≤ L.length) : StAt w B (.slice ao k cap) (L.take k) := by
  obtain ⟨a, c, hv, hm, hc, hr⟩ := h
  simp only [Value.slice.injEq] at hv
  obtain ⟨rfl, rfl, rfl⟩ := hv
  have hl : (L.take k).length = k := by rw [List.length_take]; omega
  refine ⟨ao, cap, by rw [hl], by rw [hl]; omega, hc, fun i hi => ?_⟩
  rw [hl] at hi
  obtain ⟨g, o, ha, hg, cc⟩ := hr i (by omega)
  refine ⟨g, o, ha, hg, ?_⟩
  rw [cc]
  unfold lq
  rw [List.getD_eq_getElem?_getD, List.getD_eq_getElem?_getD, List.getElem?_take, if_pos hi]

/-- each text has as many bytes as said -/
def hv (lo hi : Int) (L : List ByteArray) : Bool := L.all fun s => decide (lo ≤ (s.size : Int)) && decide ((s.size : Int) ≤ hi)

theorem hv_no {lo hi : Int} {L : List ByteArray} {i : Nat} (h : i < L.length) (hx : ¬ (lo ≤ ((lq L i).size : Int) ∧ ((lq L i).size : Int) ≤ hi)) : hv lo hi L = false := by
  rw [Bool.eq_false_iff]
  intro hT
  unfold hv at hT
  rw [List.all_eq_true] at hT
  have := hT (lq L i) (lq_mem h)
  simp at this
  exact hx this

theorem hv_yes {lo hi : Int} {L : List ByteArray} (h : ∀ i, i < L.length → lo ≤ ((lq L i).size : Int) ∧ ((lq L i).size : Int) ≤ hi) : hv lo hi L = true := by
  unfold hv
  rw [List.all_eq_true]
  intro x hx
  obtain ⟨i, hi, rfl⟩ := List.mem_iff_getElem.1 hx
  have := h i hi
  rw [show lq L i = L[i] by unfold lq; simp [List.getD, List.getElem?_eq_getElem hi]] at this
  simpa using this

set_option maxRecDepth 100000 in
set_option maxHeartbeats 4000000 in
theorem haveBytes_any (lo hi : Int) (L : List ByteArray) (v : Value) (w : World) (hA : StAt w w.heap.size v L) (hS : ∀ i, i < L.length → (lq L i).size ≤ 9223372036854775807) (hL : L.length ≤ 9223372036854775807) :
    Calls Try.prog 48 #[.int .i64 lo, .int .i64 hi, v] w fun e w' => e = .returned (.bool (hv lo hi L)) ∧ w' = w := by
  obtain ⟨ao, cap, rfl, hlc, hcm, hro⟩ := hA
  have hcm' : cap ≤ 9223372036854775807 := by unfold maxLen at hcm; omega
  have HROW : Hid (∀ i, i < L.length → ∃ g o, ao = some ⟨g, o, none⟩ ∧ g < w.heap.size ∧ w.cell? ⟨g, o + i, none⟩ = some (.string (lq L i))) := hro
  have HS : Hid (∀ i, i < L.length → (lq L i).size ≤ 9223372036854775807) := hS
  obtain ⟨R, hR⟩ : ∃ R, R = hv lo hi L := ⟨_, rfl⟩
  rw [← hR]
  have HR : Hid (R = hv lo hi L) := hR
  clear hR hro hS
  go_enter Try.func48, Try.ntmps48
  go_wp2
  go_loopw [11] (fun vi wr => ∃ (k : Nat), k ≤ L.length ∧ vi = .int .i64 (k : Int) ∧ Hid (∀ j, j < k → lo ≤ ((lq L j).size : Int) ∧ ((lq L j).size : Int) ≤ hi) ∧ wr = w)
    (fun vi _ => L.length - (intOf vi).toNat)
  case atStart => exact ⟨0, by omega, rfl, fun j hj => by omega, rfl⟩
  case round =>
    obtain ⟨k, hk, rfl, hall, rfl⟩ := hrel
    by_cases hlt : k < L.length
    · have hltI : (k : Int) < (L.length : Int) := by omega
      obtain ⟨g, o, rfl, hg, c⟩ := HROW.out k hlt
      have HS9 := HS.out k hlt
      have HNO : Hid (¬ (lo ≤ ((lq L k).size : Int) ∧ ((lq L k).size : Int) ≤ hi) → R = false) := fun hx => HR.out.trans (hv_no hlt hx)
      have HYES : Hid (lo ≤ ((lq L k).size : Int) ∧ ((lq L k).size : Int) ≤ hi → ∀ j, j < k + 1 → lo ≤ ((lq L j).size : Int) ∧ ((lq L j).size : Int) ≤ hi) := fun hx j hj => by
        by_cases hjk : j = k
        · rw [hjk]; exact hx
        · exact hall.out j (by omega)
      obtain ⟨x, hx⟩ : ∃ x, lq L k = x := ⟨_, rfl⟩
      rw [hx] at c HS9 HNO HYES
      clear hx hall
      by_cases h1 : lo ≤ (x.size : Int)
      · have d1 : decide ((x.size : Int) < lo) = false := by simp; omega
        by_cases h2 : (x.size : Int) ≤ hi
        · have d2 : decide (hi < (x.size : Int)) = false := by simp; omega
          have hall2 := HYES.out ⟨h1, h2⟩
          have HALL2 : Hid (∀ j, j < k + 1 → lo ≤ ((lq L j).size : Int) ∧ ((lq L j).size : Int) ≤ hi) := hall2
          clear hall2 HYES HNO h1 h2
          go_wp2
          go_roundw
          case rel => exact ⟨k + 1, by omega, by go_num, HALL2, trivial⟩
          case measure => simp [intOf]; omega
        · have d2 : decide (hi < (x.size : Int)) = true := by simp; omega
          have hF : Hid (R = false) := HNO.out (fun h => h2 h.2)
          clear HYES HNO h1 h2
          go_wp2
          go_ret
          exact ⟨by rw [hF.out]; rfl, rfl⟩
      · have d1 : decide ((x.size : Int) < lo) = true := by simp; omega
        have hF : Hid (R = false) := HNO.out (fun h => h1 h.1)
        clear HYES HNO h1
        go_wp2
        go_ret
        exact ⟨by rw [hF.out]; rfl, rfl⟩
    · have hke : k = L.length := by omega
      have hge : ¬ ((k : Int) < (L.length : Int)) := by omega
      have hT : Hid (R = true) := HR.out.trans (hv_yes fun i hi => hall.out i (by omega))
      clear hke hall
      go_wp2
      go_ret
      exact ⟨by rw [hT.out]; rfl, rfl⟩

/-- a list of one text, as a call makes it -/
theorem one_text (s : ByteArray) (w : World) : StAt (w.alloc (.cells #[.string s] 9)) (w.alloc (.cells #[.string s] 9)).heap.size (.slice (some ⟨w.heap.size, 0, none⟩) 1 1) [s] := by
  refine ⟨some ⟨w.heap.size, 0, none⟩, 1, rfl, by simp, by unfold maxLen; omega, fun i hi => ⟨w.heap.size, 0, rfl, by simp, ?_⟩⟩
  obtain rfl : i = 0 := by simpa using hi
  simp [lq]

theorem hv_one (lo hi : Int) (s : ByteArray) : hv lo hi [s] = (decide (lo ≤ (s.size : Int)) && decide ((s.size : Int) ≤ hi)) := by simp [hv]

set_option maxRecDepth 100000 in
set_option maxHeartbeats 4000000 in
theorem szTexts_left (T : List ByteArray) (v : Value) (L : Int) (w : World) (hT : StAt w w.heap.size v T) (hN : ∀ i, i < T.length → (lq T i).size ≤ 9223372036854775807) (hL0 : 0 ≤ L) (hL1 : L ≤ 1048576) :
    Calls Try.prog 56 #[v, .int .i64 L] w fun e w' => (∃ r : Int, e = .returned (.int .i64 r) ∧ -1 ≤ r ∧ r ≤ 1048576 ∧ (0 ≤ r → T.length ≤ 1048576 ∧ ∀ i, i < T.length → (lq T i).size ≤ 1048576)) ∧ w' = w := by
  by_cases hbig : L < (T.length : Int)
  · obtain ⟨ao, cap, rfl, hlc, hcm, _⟩ := hT
    unfold maxLen at hcm
    have hlt : L - (T.length : Int) < 0 := by omega
    have hge : (-9223372036854775808 : Int) ≤ L - (T.length : Int) := by omega
    go_enter Try.func56, Try.ntmps56
    go_wp2
    go_ret
    exact ⟨⟨-1, rfl, by omega, by omega, fun h => by omega⟩, rfl⟩
  · have hlen : T.length ≤ 1048576 := by omega
    have hlen' : (T.length : Int) ≤ 1048576 := by omega
    have hge : ¬ (L - (T.length : Int) < 0) := by omega
    obtain ⟨ao, cap, rfl, hlc, hcm, hrow⟩ := hT
    have HNM : Hid (∀ i, i < T.length → (lq T i).size ≤ 9223372036854775807) := hN
    have HROW : Hid (∀ i, i < T.length → ∃ g o, ao = some ⟨g, o, none⟩ ∧ g < w.heap.size ∧ w.cell? ⟨g, o + i, none⟩ = some (.string (lq T i))) := hrow
    clear hrow hN hbig
    go_enter Try.func56, Try.ntmps56
    go_wp2
    go_loopw [1, 5] (fun vl vi wr => ∃ (i : Nat) (left : Int), i ≤ T.length ∧ vi = .int .i64 (i : Int) ∧ vl = .int .i64 left ∧ 0 ≤ left ∧ left ≤ 1048576 ∧ Hid (∀ j, j < i → (lq T j).size ≤ 1048576) ∧ wr = w)
      (fun _ vi _ => T.length - (intOf vi).toNat)
    case atStart => exact ⟨0, L - (T.length : Int), by omega, rfl, rfl, by omega, by omega, fun j hj => by omega, rfl⟩
    case round =>
      obtain ⟨i, left, hi, rfl, rfl, hl0, hl1, hall, rfl⟩ := hrel
      by_cases hlt : i < T.length
      · have hlt' : (i : Int) < (T.length : Int) := by omega
        obtain ⟨g, o, rfl, hg, c⟩ := HROW.out i hlt
        have hni := HNM.out i hlt
        have HA : Hid ((lq T i).size ≤ 1048576 → ∀ j, j < i + 1 → (lq T j).size ≤ 1048576) := fun h j hj => by
          by_cases hji : j = i
          · rw [hji]; exact h
          · exact hall.out j (by omega)
        generalize lq T i = s at c hni HA
        clear hall
        by_cases hneg : left - (s.size : Int) < 0
        · go_wp2
          go_ret
          exact ⟨⟨-1, rfl, by omega, by omega, fun h => by omega⟩, rfl⟩
        · have hall2 : Hid (∀ j, j < i + 1 → (lq T j).size ≤ 1048576) := HA.out (by omega)
          clear HA
          go_wp2
          go_roundw
          case rel => exact ⟨i + 1, left - (s.size : Int), by omega, by go_num, rfl, by omega, by omega, hall2, by first | rfl | trivial⟩
          case measure => simp [intOf]; omega
      · have hke : i = T.length := by omega
        subst hke
        have hge2 : ¬ ((T.length : Int) < (T.length : Int)) := by omega
        go_wp2
        go_ret
        exact ⟨⟨left, rfl, by omega, by omega, fun _ => by first | exact ⟨hlen, hall.out⟩ | exact hall.out⟩, rfl⟩

set_option maxRecDepth 100000 in
set_option maxHeartbeats 4000000 in
theorem eqTexts_same (l : List ByteArray) (v1 v2 : Value) (w : World) (h1 : StAt w w.heap.size v1 l) (h2 : StAt w w.heap.size v2 l) (hl : l.length ≤ 2097152) :
    Calls Try.prog 22 #[v1, v2] w fun e w' => e = .returned (.bool true) ∧ Below w.heap.size w w' := by
  obtain ⟨ao, cap, rfl, hmax, _, hrow⟩ := h1
  obtain ⟨ao2, cap2, rfl, _, _, hrow2⟩ := h2
  go_enter Try.func22, Try.ntmps22
  go_wp2
  go_loopw [5] (fun vi wr => ∃ k : Nat, k ≤ l.length ∧ vi = .int .i64 (k : Int) ∧ Below w.heap.size w wr)
    (fun vi _ => l.length - (intOf vi).toNat)
  case atStart => exact ⟨0, by omega, rfl, Below.refl _ _⟩
  case round =>
    obtain ⟨k, hk, rfl, hbw⟩ := hrel
    by_cases hlt : k < l.length
    · obtain ⟨g, o, rfl, hg, c⟩ := hrow k hlt
      obtain ⟨g2, o2, rfl, hg2, c2⟩ := hrow2 k hlt
      have e1 := (hbw.cell (p := ⟨g, o + k, none⟩) hg).trans c
      have e2 := (hbw.cell (p := ⟨g2, o2 + k, none⟩) hg2).trans c2
      clear hrow hrow2 c c2
      generalize lq l k = s at e1 e2
      have hlt' : (k : Int) < (l.length : Int) := by omega
      go_wp2_with fail
      go_quiet (fail)
      go_wp2
      go_roundw
      case rel => exact ⟨k + 1, by omega, by go_num, below_drewN hbw⟩
      case measure => simp [intOf]; omega
    · have hke : k = l.length := by omega
      subst hke
      have hge : ¬ ((l.length : Int) < (l.length : Int)) := by omega
      go_wp2
      go_ret
      exact ⟨rfl, hbw⟩

theorem setT_eq (ys : List Value) (l : List ByteArray) (i : Nat) (hl : ys.length = l.length) (hi : i < l.length) (hm : ∀ m, m < i → ys[m]? = (strs l)[m]?) : ∀ m, m < i + 1 → (ys.set i (.string (lq l i)))[m]? = (strs l)[m]? := by
  intro m hmi
  rw [List.getElem?_set]
  by_cases h : i = m
  · subst h
    rw [if_pos rfl, if_pos (by omega)]
    simp [strs, lq_at hi]
  · rw [if_neg h]
    exact hm m (by omega)

set_option maxRecDepth 100000 in
set_option maxHeartbeats 4000000 in
theorem toTexts_any (l : List ByteArray) (v : Value) (w : World) (hT : StAt w w.heap.size v l) (hl : l.length ≤ 1048576) :
    Calls Try.prog 61 #[v] w fun e w' => ∃ r, e = .returned r ∧ StRow w' w.heap.size r l ∧ Below w.heap.size w w' := by
  obtain ⟨i0, hi, hz0, hz1, hz2⟩ := info_parts infoStr
  obtain ⟨ao, cap, rfl, _, hmax, hrow⟩ := hT
  have HROW : Hid (∀ i, i < l.length → ∃ g o, ao = some ⟨g, o, none⟩ ∧ g < w.heap.size ∧ w.cell? ⟨g, o + i, none⟩ = some (.string (lq l i))) := hrow
  clear hrow
  obtain ⟨M, hM⟩ : ∃ M, M = madeCells (Value.string ByteArray.empty).cells (((l.length : Nat) : Int).toNat * i0.size) := ⟨_, rfl⟩
  have hMs : M.size = l.length * 1 := by rw [hM, size_madeCells, hz1]; simp
  have hmk : ∀ W : World, (Instr.makeSlice 22 (.int .i64 (l.length : Int)) (.int .i64 (l.length : Int))).run Try.prog W = .ok (.slice (some ⟨W.heap.size, 0, none⟩) l.length l.length) (W.alloc (.cells M 9)) := fun W => by
    have h := run_make (P := Try.prog) W 22 9 i0 (.string ByteArray.empty) Try.underlying22 hi hz0 .i64 .i64 (l.length : Int) (l.length : Int) (by omega) (by omega) (by rw [hz2]; omega) (by omega)
    rw [← hM] at h
    simpa using h
  have hown0 : (w.alloc (.cells M 9)).ownsRow w.heap.size 9 1 (.slice (some ⟨w.heap.size, 0, none⟩) l.length l.length) l.length M.toList :=
    ⟨by simp [hMs], .inr ⟨w.heap.size, l.length, M, rfl, Nat.le_refl _, heap_alloc_new w _, Nat.le_refl _, by unfold maxLen; omega, hMs, by rw [List.take_of_length_le (by simp [hMs])]⟩⟩
  clear hM
  go_enter Try.func61, Try.ntmps61
  go_wp2
  go_loopw [4] (fun vi wr => ∃ (i : Nat) (ys : List Value), i ≤ l.length ∧ vi = .int .i64 (i : Int) ∧ wr.ownsRow w.heap.size 9 1 (.slice (some ⟨w.heap.size, 0, none⟩) l.length l.length) l.length ys ∧ Hid (∀ m, m < i → ys[m]? = (strs l)[m]?) ∧ Below w.heap.size w wr)
    (fun vi _ => l.length - (intOf vi).toNat)
  case atStart => exact ⟨0, M.toList, by omega, rfl, hown0, fun m hm => by omega, (Below.refl _ w).alloc (Nat.le_refl _) _⟩
  case round =>
    obtain ⟨i, ys, hil, rfl, hown, hys, hbw⟩ := hrel
    clear hown0 hmk
    have hyl : ys.length = l.length := by have := hown.1; omega
    by_cases hlt : i < l.length
    · have hlt' : (i : Int) < (l.length : Int) := by omega
      obtain ⟨g, o, rfl, hg, c⟩ := HROW.out i hlt
      have e1 := (hbw.cell (p := ⟨g, o + i, none⟩) hg).trans c
      have hgs : g < wr.heap.size := by have := hbw.size; omega
      have q0 := hown.cellAt i (by omega)
      rw [List.getElem?_eq_getElem (by omega)] at q0
      have z0 := hown.frozenAt i
      have hsz : w.heap.size < wr.heap.size := (hown.lt w.heap.size rfl).2
      generalize ys[i] = a0 at q0
      have how6 := (hown.stored i (.string (lq l i))).1
      have HM : Hid (∀ m, m < i + 1 → (ys.set i (.string (lq l i)))[m]? = (strs l)[m]?) := setT_eq ys l i hyl hlt hys.out
      generalize ys.set i (Value.string (lq l i)) = zs at how6 HM
      generalize lq l i = x at *
      clear hown hys c
      go_wp2
      go_roundw
      case rel => exact ⟨i + 1, zs, by omega, by go_num, how6, HM, hbw.setCell (p := ⟨w.heap.size, i, none⟩) (Nat.le_refl _) _⟩
      case measure => simp [intOf]; omega
    · have hke : i = l.length := by omega
      subst hke
      have hge : ¬ ((l.length : Int) < (l.length : Int)) := by omega
      have hE : Hid (ys = strs l) := List.ext_getElem? fun m => by
        by_cases hm : m < l.length
        · exact hys.out m hm
        · rw [List.getElem?_eq_none (by omega), List.getElem?_eq_none (by simp [strs]; omega)]
      clear hys
      go_wp2
      go_ret
      exact ⟨_, rfl, by unfold StRow; rw [← hE.out]; exact hown, hbw⟩

set_option maxRecDepth 100000 in
theorem open_texts {H : Type} {enc : TypeId × Value → H} {W : World} {base : Nat} {v0 : Value} {d0 : DataW H} {p0 : List MemPlace} (hok : Value.okWide Try.prog W .any base 22 v0)
    (h0 : DataW.Trod enc Try.prog W 0 (fun _ => true) true 22 v0 d0 p0) : ∃ l, StAt W W.heap.size v0 l ∧ ∀ i, i < l.length → (lq l i).size ≤ 9223372036854775807 := by
  have c3 : Try.prog.cellsOf 9 = 1 := by kernel_rfl
  obtain ⟨a, len, cap, rfl⟩ := Go.WideShapes.okWide_slice Try.underlying22 hok
  obtain ⟨fuel, hf⟩ := h0
  rw [show (Value.slice a len cap).cells = #[Value.slice a len cap] from rfl] at hf
  rcases DataW.trod_slice Try.underlying22 hf with ⟨hcs, _⟩ | ⟨a, len, cap, elems, rest, m2, _, hcs, _, _, hlc, hcm, hel, hcell, _⟩
  · simp at hcs
    obtain ⟨rfl, rfl, rfl⟩ := hcs
    exact ⟨[], ⟨none, 0, rfl, by simp, by unfold maxLen; omega, fun i hi => by simp at hi⟩, fun i hi => by simp at hi⟩
  · simp at hcs
    obtain ⟨rfl, rfl, rfl⟩ := hcs
    rw [c3] at hcell
    have each : ∀ i, i < len → ∃ t : ByteArray, (a = ⟨a.block, a.off, none⟩ ∧ a.block < W.heap.size) ∧ W.cell? ⟨a.block, a.off + i, none⟩ = some (.string t) ∧ t.size ≤ maxLen := by
      intro i hi
      have h1 := hcell i hi
      rw [List.getElem?_eq_getElem (by omega), Option.bind_eq_some_iff] at h1
      obtain ⟨ci, hci, htr⟩ := h1
      obtain ⟨t, rfl, _, hts⟩ := DataW.trod_string Try.underlying9 htr
      obtain ⟨_, _, hcc⟩ := World.cells?_some hci
      have h00 := hcell 0 (by omega)
      rw [List.getElem?_eq_getElem (by omega), Option.bind_eq_some_iff] at h00
      obtain ⟨c0, hc0, htr0⟩ := h00
      obtain ⟨t0, rfl, _⟩ := DataW.trod_string Try.underlying9 htr0
      obtain ⟨_, _, hcc0⟩ := World.cells?_some hc0
      have hz := hcc0 0 (by omega)
      have hz' : W.cell? a = some (.string t0) := by simpa [Addr.add] using hz
      have hsp := spot_none hz'
      refine ⟨t, ⟨hsp, World.block_lt_of_cell? W a hz'⟩, ?_, hts⟩
      have h2 := hcc 0 (by omega)
      rw [show (some (Value.string t)) = [Value.string t][0]? from rfl, ← h2]
      congr 1
      rw [hsp]
      unfold Addr.add
      by_cases h0 : i * 1 = 0
      · rw [if_pos h0]; simp; omega
      · rw [if_neg h0]; simp
    obtain ⟨l, hl, hP⟩ := pick_list each
    refine ⟨l, ⟨some a, cap, by rw [hl], by omega, hcm, fun i hi => ?_⟩, fun i hi => ?_⟩
    · have h1 := hP i (by omega)
      refine ⟨a.block, a.off, by rw [← h1.1.1], h1.1.2, ?_⟩
      rw [h1.2.1]
      unfold lq
      rw [List.getD_eq_getElem?_getD, List.getD_eq_getElem?_getD, List.getElem?_eq_getElem hi]
      rfl
    · have h1 := (hP i (by omega)).2.2
      unfold maxLen at h1
      have e : lq l i = l.getD i default := by
        unfold lq
        rw [List.getD_eq_getElem?_getD, List.getD_eq_getElem?_getD, List.getElem?_eq_getElem hi]
        rfl
      rw [e]
      exact h1

theorem grow_belowY {w w' : World} {row : Option Nat} (hb : Below w.heap.size w w') : w.grownBy w' row := ⟨hb.os, hb.tape, hb.output, hb.size, fun j hj _ => hb.block j hj⟩

theorem own_belowY {w w' : World} {B e size n : Nat} {v : Value} {xs : List Value} (h : w.ownsRow B e size v n xs) (hb : Below w.heap.size w w') : w'.ownsRow B e size v n xs := by
  refine ⟨h.1, ?_⟩
  rcases h.2 with hn | ⟨g, cap, cur, hv, hg, hgg, rest⟩
  · exact .inl hn
  · exact .inr ⟨g, cap, cur, hv, hg, (hb.block g (Array.getElem?_eq_some_iff.1 hgg).1).trans hgg, rest⟩

set_option maxRecDepth 100000 in
set_option maxHeartbeats 4000000 in
theorem markTexts_any (B n k : Nat) (v : Value) (xs : List Value) (w : World) (hown : w.ownsRow B 9 1 v n xs) (hn : n ≤ 2097152) (hk1 : 1 ≤ k) (hk2 : k ≤ 100000000) :
    Calls Try.prog 23 #[v, .int .i64 k] w fun e w' => e = .returned (.int .i64 ((k + n : Nat) : Int)) ∧ (∃ ys, w'.ownsRow B 9 1 v n ys ∧ ∀ j, j < n → ys[j]? = some (.string (mt (k + j)))) ∧ w.grownBy w' v.ownBlock := by
  by_cases hn0 : n = 0
  · subst hn0
    obtain ⟨ao, cap, hv⟩ : ∃ ao cap, v = Value.slice ao 0 cap := by
      rcases hown.2 with ⟨rfl, _⟩ | ⟨g, cap, _, rfl, _⟩
      · exact ⟨_, _, rfl⟩
      · exact ⟨_, _, rfl⟩
    subst hv
    have HOWN : Hid (w.ownsRow B 9 1 (.slice ao 0 cap) 0 xs) := hown
    clear hown
    go_enter Try.func23, Try.ntmps23
    go_wp2
    go_loopw [1, 5] (fun vk vi wr => vk = .int .i64 (k : Int) ∧ vi = .int .i64 0 ∧ wr = w) (fun _ _ _ => 0)
    case atStart => exact ⟨rfl, rfl, rfl⟩
    case round =>
      obtain ⟨rfl, rfl, rfl⟩ := hrel
      go_wp2
      go_ret
      exact ⟨by simp, ⟨xs, HOWN.out, fun j hj => by omega⟩, grow_belowY (Below.refl _ _)⟩
  · obtain ⟨g, cap, hv⟩ := Joins.ownsRow_form hown (by omega)
    subst hv
    have hxl : xs.length = n * 1 := hown.1
    go_enter Try.func23, Try.ntmps23
    go_wp2
    go_loopw [1, 5] (fun vk vi wr => ∃ (i : Nat) (ys : List Value), i ≤ n ∧ vi = .int .i64 (i : Int) ∧ vk = .int .i64 ((k + i : Nat) : Int) ∧ wr.ownsRow B 9 1 (.slice (some ⟨g, 0, none⟩) n cap) n ys ∧ Hid (∀ j, j < i → ys[j]? = some (.string (mt (k + j)))) ∧ w.grownBy wr (some g))
      (fun _ vi _ => n - (intOf vi).toNat)
    case atStart => exact ⟨0, xs, by omega, rfl, by simp, hown, fun j hj => by omega, grow_belowY (Below.refl _ _)⟩
    case round =>
      obtain ⟨i, ys, hi, rfl, rfl, how, hys, hbw⟩ := hrel
      have hyl : ys.length = n * 1 := how.1
      clear hown
      by_cases hlt : i < n
      · have hlt' : (i : Int) < (n : Int) := by omega
        go_wp2_with fail
        refine (markText_int _ (by omega) (by omega) _).mono ?_
        rintro e w50 ⟨rfl, hbw50⟩
        have howw50 := own_belowY how hbw50
        have hbww50 := Lib.grownBy_trans hbw (grow_belowY hbw50)
        have q00 := howw50.cellAt i (by omega)
        rw [List.getElem?_eq_getElem (by omega)] at q00
        have z00 := howw50.frozenAt i
        generalize (ys[i]'(by omega)) = a00 at q00
        have how6 := (howw50.stored i (.string (mt ((k : Int) + i).toNat))).1
        have HM : Hid (∀ j, j < i + 1 → (ys.set i (.string (mt ((k : Int) + i).toNat)))[j]? = some (.string (mt (k + j)))) := fun j hj => by
          rw [List.getElem?_set]
          by_cases hij : i = j
          · subst hij
            rw [if_pos rfl, if_pos (by omega), show ((k : Int) + i).toNat = k + i by omega]
          · rw [if_neg hij]
            exact hys.out j (by omega)
        generalize ys.set i (Value.string (mt ((k : Int) + i).toNat)) = zs at how6 HM
        have hbw6 := Lib.grownBy_trans hbww50 (Lib.grownBy_setCell _ g i (.string (mt ((k : Int) + i).toNat)))
        clear how howw50 hbw50 hys
        go_wp2
        go_roundw
        case rel => exact ⟨i + 1, zs, by omega, by go_num, by go_num, how6, HM, hbw6⟩
        case measure => simp [intOf]; omega
      · have hke : i = n := by omega
        subst hke
        have hge : ¬ ((i : Int) < (i : Int)) := by omega
        go_wp2
        go_ret
        exact ⟨rfl, ⟨ys, how, hys.out⟩, hbw⟩

/-- a slice of marks -/
def mks (k n : Nat) : List ByteArray := (List.range n).map fun j => mt (k + j)
theorem mks_len (k n : Nat) : (mks k n).length = n := by simp [mks]
theorem mks_at (k n i : Nat) (h : i < n) : lq (mks k n) i = mt (k + i) := by
  unfold lq mks
  rw [List.getD_eq_getElem?_getD, List.getElem?_map, List.getElem?_range h]
  rfl

/-- what was marked lies there as marks -/
theorem marked_at {w : World} {B n k : Nat} {v : Value} {ys : List Value} (h : w.ownsRow B 9 1 v n ys) (hy : ∀ j, j < n → ys[j]? = some (.string (mt (k + j)))) : StRow w B v (mks k n) := by
  have e : ys = strs (mks k n) := List.ext_getElem? fun m => by
    by_cases hm : m < n
    · rw [hy m hm]
      unfold strs mks
      rw [List.getElem?_map, List.getElem?_map, List.getElem?_range hm]
      rfl
    · have := h.1
      rw [List.getElem?_eq_none (by omega), List.getElem?_eq_none (by simp [strs, mks]; omega)]
  unfold StRow
  rw [mks_len, ← e]
  exact h

set_option maxRecDepth 100000 in
set_option maxHeartbeats 4000000 in
theorem heldTexts_any (n k : Nat) (v : Value) (w : World) (h : StAt w w.heap.size v (mks k n)) (hn : n ≤ 2097152) (hk1 : 1 ≤ k) (hk2 : k ≤ 100000000) :
    Calls Try.prog 24 #[v, .int .i64 k] w fun e w' => e = .returned (.int .i64 ((k + n : Nat) : Int)) ∧ Below w.heap.size w w' := by
  obtain ⟨ao, cap, rfl, hmax, _, hrow⟩ := h
  rw [mks_len] at hrow hmax ⊢
  go_enter Try.func24, Try.ntmps24
  go_wp2
  go_loopw [1, 5] (fun vk vi wr => ∃ (i : Nat), i ≤ n ∧ vi = .int .i64 (i : Int) ∧ vk = .int .i64 ((k + i : Nat) : Int) ∧ Below w.heap.size w wr)
    (fun _ vi _ => n - (intOf vi).toNat)
  case atStart => exact ⟨0, by omega, rfl, by simp, Below.refl _ _⟩
  case round =>
    obtain ⟨i, hi, rfl, rfl, hbw⟩ := hrel
    by_cases hlt : i < n
    · have hlt' : (i : Int) < (n : Int) := by omega
      obtain ⟨g, o, rfl, hg, c0⟩ := hrow i hlt
      rw [mks_at k n i hlt] at c0
      have e3 : wr.cell? ⟨g, o + i, none⟩ = some (.string (mt ((k : Int) + i).toNat)) := by rw [hbw.cell (p := ⟨g, o + i, none⟩) hg, c0, show ((k : Int) + i).toNat = k + i by omega]
      have C2 : Hid (∀ w : World, Calls Try.prog 70 #[.int .i64 ((k : Int) + i)] w fun e w' => e = .returned (.string (mt ((k : Int) + i).toNat)) ∧ Below w.heap.size w w') := fun w => markText_int _ (by omega) (by omega) w
      generalize mt ((k : Int) + i).toNat = tx at e3 C2
      clear c0 hrow
      go_wp2_with fail
      go_region_with (go_at_call 70; refine (C2.out _).mono ?_; rintro e w2 ⟨rfl, hb2⟩; have hbw2 : Below w.heap.size w w2 := hbw.drew.trans (hb2.mono hbw.size); have e4 := (hb2.cell (p := ⟨g, o + i, none⟩) (by have := hbw.size; simp; omega)).trans e3)
      all_goals
        go_wp2
        go_roundw
        case rel => exact ⟨i + 1, by omega, by go_num, by go_num, hbw2⟩
        case measure => simp [intOf]; omega
    · have hke : i = n := by omega
      subst hke
      have hge : ¬ ((i : Int) < (i : Int)) := by omega
      go_wp2
      go_ret
      exact ⟨rfl, hbw⟩

end Go.Proofs.Ytnlppeieccbhgaa
