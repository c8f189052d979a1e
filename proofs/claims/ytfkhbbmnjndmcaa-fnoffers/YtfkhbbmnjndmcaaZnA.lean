/- Lists of ints of any sign: in memory, copied, compared, marked, held. -/
import Derived.Test.YtfkhbbmnjndmcaaMarkI
import Derived.Test.YtfkhbbmnjndmcaaLwO
import Derived.Laws.MakeOwn
import Derived.OpenShut
import Derived.Carry
namespace Go.Proofs.Ytfkhbbmnjndmcaa
open Go.RowKit

def zints (l : List Int) : List Value := l.map (Value.int .i64)

/-- a slice of ints, in blocks below B -/
def ZAt (w : World) (B : Nat) (v : Value) (l : List Int) : Prop :=
  ∃ ao cap, v = .slice ao l.length cap ∧ l.length ≤ cap ∧ cap ≤ maxLen ∧ ∀ i (x : Int), l[i]? = some x → ∃ g o, ao = some ⟨g, o, none⟩ ∧ g < B ∧ w.cell? ⟨g, o + i, none⟩ = some (.int .i64 x)

theorem ZAt.below {w w' : World} {v : Value} {l : List Int} {B : Nat} (h : ZAt w B v l) (hb : Below B w w') (hB : B ≤ w.heap.size := by exact Nat.le_refl _) : ZAt w' w'.heap.size v l := by
  obtain ⟨ao, cap, hv, hm, hc, hr⟩ := h
  refine ⟨ao, cap, hv, hm, hc, fun i x hi => ?_⟩
  obtain ⟨g, o, ha, hg, c⟩ := hr i x hi
  have := hb.size
  exact ⟨g, o, ha, by omega, (hb.cell (p := ⟨g, o + i, none⟩) hg).trans c⟩

def ZRow (w : World) (B : Nat) (v : Value) (l : List Int) : Prop := w.ownsRow B 3 1 v l.length (zints l)

theorem ZAt.own {w : World} {B : Nat} {v : Value} {l : List Int} (h : ZRow w B v l) : ZAt w w.heap.size v l := by
  have h0 := h
  obtain ⟨_, ⟨rfl, hn⟩ | ⟨g, cap, cur, rfl, hB, hb, hnc, hcm, _⟩⟩ := h
  · have : l = [] := List.length_eq_zero_iff.1 hn
    subst this
    exact ⟨none, 0, rfl, by simp, by unfold maxLen; omega, fun i x hi => by simp at hi⟩
  · refine ⟨some ⟨g, 0, none⟩, cap, rfl, hnc, hcm, fun i x hi => ⟨g, 0, rfl, (World.ownsRow.lt h0 g rfl).2, ?_⟩⟩
    have hil : i < l.length := (List.getElem?_eq_some_iff.1 hi).1
    have := World.ownsRow.cellAt h0 i (by omega)
    rw [Nat.zero_add, this]
    simp [zints, hi]

theorem ZRow.slice {w : World} {B : Nat} {v : Value} {l : List Int} (h : ZRow w B v l) : ∃ ao cap, v = Value.slice ao l.length cap := by
  rcases h.2 with ⟨rfl, h0⟩ | ⟨g, cap, _, rfl, _⟩
  · exact ⟨none, 0, by rw [h0]⟩
  · exact ⟨_, _, rfl⟩

theorem ZRow.below {w w' : World} {B : Nat} {v : Value} {l : List Int} (h : ZRow w B v l) (hb : Below w.heap.size w w') : ZRow w' B v l := by
  refine ⟨h.1, ?_⟩
  rcases h.2 with hn | ⟨g, cap, cur, hv, hg, hgg, rest⟩
  · exact .inl hn
  · exact .inr ⟨g, cap, cur, hv, hg, (hb.block g (Array.getElem?_eq_some_iff.1 hgg).1).trans hgg, rest⟩

theorem ZRow.far {w w' : World} {B C : Nat} {v : Value} {l : List Int} (h : ZRow w B v l) (hb : Below C w w') (hne : ∀ g, v.ownBlock = some g → g < C) : ZRow w' B v l := by
  refine ⟨h.1, ?_⟩
  rcases h.2 with hn | ⟨g, cap, cur, hv, hgB, hgg, rest⟩
  · exact .inl hn
  · refine .inr ⟨g, cap, cur, hv, hgB, (hb.block g (hne g (by rw [hv]; rfl))).trans hgg, rest⟩

theorem ZRow.lower {w : World} {B B' : Nat} {v : Value} {l : List Int} (h : ZRow w B v l) (hB : B' ≤ B) : ZRow w B' v l := by
  refine ⟨h.1, ?_⟩
  rcases h.2 with hn | ⟨g, cap, cur, hv, hg, rest⟩
  · exact .inl hn
  · exact .inr ⟨g, cap, cur, hv, by omega, rest⟩

set_option maxRecDepth 100000 in
set_option maxHeartbeats 4000000 in
theorem eqZ_same (l : List Int) (v1 v2 : Value) (w : World) (h1 : ZAt w w.heap.size v1 l) (h2 : ZAt w w.heap.size v2 l) (hl : l.length ≤ 2097152) :
    Calls Try.prog 28 #[v1, v2] w fun e w' => e = .returned (.bool true) ∧ Below w.heap.size w w' := by
  obtain ⟨ao, cap, rfl, hmax, _, hrow⟩ := h1
  obtain ⟨ao2, cap2, rfl, _, _, hrow2⟩ := h2
  go_enter Try.func28, Try.ntmps28
  go_wp2
  go_loopw [5] (fun vi wr => ∃ k : Nat, k ≤ l.length ∧ vi = .int .i64 (k : Int) ∧ Below w.heap.size w wr)
    (fun vi _ => l.length - (intOf vi).toNat)
  case atStart => exact ⟨0, by omega, rfl, Below.refl _ _⟩
  case round =>
    obtain ⟨k, hk, rfl, hbw⟩ := hrel
    by_cases hlt : k < l.length
    · obtain ⟨x, hx⟩ : ∃ x, l[k]? = some x := ⟨_, List.getElem?_eq_getElem hlt⟩
      obtain ⟨g, o, rfl, hg, c⟩ := hrow k x hx
      obtain ⟨g2, o2, rfl, hg2, c2⟩ := hrow2 k x hx
      have e1 := (hbw.cell (p := ⟨g, o + k, none⟩) hg).trans c
      have e2 := (hbw.cell (p := ⟨g2, o2 + k, none⟩) hg2).trans c2
      clear hrow hrow2 c c2 hx
      have hlt' : (k : Int) < (l.length : Int) := by omega
      go_wp2_with fail
      go_quiet (fail)
      go_wp2
      go_roundw
      case rel => exact ⟨k + 1, by omega, by go_num, below_drewN hbw⟩
      case measure => simp [intOf]; omega
    · have hke : k = l.length := by omega
      subst hke
      have hge : ¬ ((l.length : Int) < (l.length : Int)) := by omega
      go_wp2
      go_ret
      exact ⟨rfl, hbw⟩

theorem setZ_eq (ys : List Value) (l : List Int) (i : Nat) (x : Int) (hl : ys.length = l.length) (hi : i < l.length) (hx : l[i]? = some x) (hm : ∀ m, m < i → ys[m]? = (zints l)[m]?) : ∀ m, m < i + 1 → (ys.set i (.int .i64 x))[m]? = (zints l)[m]? := by
  intro m hmi
  rw [List.getElem?_set]
  by_cases h : i = m
  · subst h
    rw [if_pos rfl, if_pos (by omega)]
    simp [zints, hx]
  · rw [if_neg h]
    exact hm m (by omega)

set_option maxRecDepth 100000 in
set_option maxHeartbeats 4000000 in
theorem toIntS_any (l : List Int) (v : Value) (w : World) (hT : ZAt w w.heap.size v l) (hl : l.length ≤ 1048576) :
    Calls Try.prog 48 #[v] w fun e w' => ∃ r, e = .returned r ∧ ZRow w' w.heap.size r l ∧ Below w.heap.size w w' := by
  obtain ⟨i0, hi, hz0, hz1, hz2⟩ := info_parts Try.infoInt
  obtain ⟨ao, cap, rfl, _, hmax, hrow⟩ := hT
  have HROW : Hid (∀ i (x : Int), l[i]? = some x → ∃ g o, ao = some ⟨g, o, none⟩ ∧ g < w.heap.size ∧ w.cell? ⟨g, o + i, none⟩ = some (.int .i64 x)) := hrow
  clear hrow
  obtain ⟨M, hM⟩ : ∃ M, M = madeCells (Value.int .i64 0).cells (((l.length : Nat) : Int).toNat * i0.size) := ⟨_, rfl⟩
  have hMs : M.size = l.length * 1 := by rw [hM, size_madeCells, hz1]; simp
  have hmk : ∀ W : World, (Instr.makeSlice 22 (.int .i64 (l.length : Int)) (.int .i64 (l.length : Int))).run Try.prog W = .ok (.slice (some ⟨W.heap.size, 0, none⟩) l.length l.length) (W.alloc (.cells M 3)) := fun W => by
    have h := run_make (P := Try.prog) W 22 3 i0 (.int .i64 0) Try.underlying22 hi hz0 .i64 .i64 (l.length : Int) (l.length : Int) (by omega) (by omega) (by rw [hz2]; omega) (by omega)
    rw [← hM] at h
    simpa using h
  have hown0 : (w.alloc (.cells M 3)).ownsRow w.heap.size 3 1 (.slice (some ⟨w.heap.size, 0, none⟩) l.length l.length) l.length M.toList :=
    ⟨by simp [hMs], .inr ⟨w.heap.size, l.length, M, rfl, Nat.le_refl _, heap_alloc_new w _, Nat.le_refl _, by unfold maxLen; omega, hMs, by rw [List.take_of_length_le (by simp [hMs])]⟩⟩
  clear hM
  go_enter Try.func48, Try.ntmps48
  go_wp2
  go_loopw [4] (fun vi wr => ∃ (i : Nat) (ys : List Value), i ≤ l.length ∧ vi = .int .i64 (i : Int) ∧ wr.ownsRow w.heap.size 3 1 (.slice (some ⟨w.heap.size, 0, none⟩) l.length l.length) l.length ys ∧ Hid (∀ m, m < i → ys[m]? = (zints l)[m]?) ∧ Below w.heap.size w wr)
    (fun vi _ => l.length - (intOf vi).toNat)
  case atStart => exact ⟨0, M.toList, by omega, rfl, hown0, fun m hm => by omega, (Below.refl _ w).alloc (Nat.le_refl _) _⟩
  case round =>
    obtain ⟨i, ys, hil, rfl, hown, hys, hbw⟩ := hrel
    clear hown0 hmk
    have hyl : ys.length = l.length := by have := hown.1; omega
    by_cases hlt : i < l.length
    · have hlt' : (i : Int) < (l.length : Int) := by omega
      obtain ⟨x, hx⟩ : ∃ x, l[i]? = some x := ⟨_, List.getElem?_eq_getElem hlt⟩
      obtain ⟨g, o, rfl, hg, c⟩ := HROW.out i x hx
      have e1 := (hbw.cell (p := ⟨g, o + i, none⟩) hg).trans c
      have hgs : g < wr.heap.size := by have := hbw.size; omega
      have q0 := hown.cellAt i (by omega)
      rw [List.getElem?_eq_getElem (by omega)] at q0
      have z0 := hown.frozenAt i
      have hsz : w.heap.size < wr.heap.size := (hown.lt w.heap.size rfl).2
      generalize ys[i] = a0 at q0
      have how6 := (hown.stored i (.int .i64 x)).1
      have HM : Hid (∀ m, m < i + 1 → (ys.set i (.int .i64 x))[m]? = (zints l)[m]?) := setZ_eq ys l i x hyl hlt hx hys.out
      generalize ys.set i (Value.int .i64 x) = zs at how6 HM
      clear hown hys c hx
      go_wp2
      go_roundw
      case rel => exact ⟨i + 1, zs, by omega, by go_num, how6, HM, hbw.setCell (p := ⟨w.heap.size, i, none⟩) (Nat.le_refl _) _⟩
      case measure => simp [intOf]; omega
    · have hke : i = l.length := by omega
      subst hke
      have hge : ¬ ((l.length : Int) < (l.length : Int)) := by omega
      have hE : Hid (ys = zints l) := List.ext_getElem? fun m => by
        by_cases hm : m < l.length
        · exact hys.out m hm
        · rw [List.getElem?_eq_none (by omega), List.getElem?_eq_none (by simp [zints]; omega)]
      clear hys
      go_wp2
      go_ret
      exact ⟨_, rfl, by unfold ZRow; rw [← hE.out]; exact hown, hbw⟩

set_option maxRecDepth 100000 in
theorem open_ints {H : Type} {enc : TypeId × Value → H} {W : World} {v0 : Value} {d0 : DataW H} {p0 : List MemPlace}
    (h0 : DataW.Trod enc Try.prog W 0 (fun _ => true) true 22 v0 d0 p0) (hc : v0.cells = #[v0]) : ∃ l, ZAt W W.heap.size v0 l := by
  have c3 : Try.prog.cellsOf 3 = 1 := by kernel_rfl
  obtain ⟨fuel, hf⟩ := h0
  rw [hc] at hf
  rcases DataW.trod_slice Try.underlying22 hf with ⟨hcs, _⟩ | ⟨a, len, cap, elems, rest, m2, _, hcs, _, _, hlc, hcm, hel, hcell, _⟩
  · simp at hcs
    subst hcs
    exact ⟨[], none, 0, rfl, by simp, by unfold maxLen; omega, fun i x hi => by simp at hi⟩
  · simp at hcs
    subst hcs
    rw [c3] at hcell
    have each : ∀ i, i < len → ∃ t : Int, (a = ⟨a.block, a.off, none⟩ ∧ a.block < W.heap.size) ∧ W.cell? ⟨a.block, a.off + i, none⟩ = some (.int .i64 t) := by
      intro i hi
      have h1 := hcell i hi
      rw [List.getElem?_eq_getElem (by omega), Option.bind_eq_some_iff] at h1
      obtain ⟨ci, hci, htr⟩ := h1
      obtain ⟨t, rfl, _⟩ := DataW.trod_int Try.underlying3 htr
      obtain ⟨_, _, hcc⟩ := World.cells?_some hci
      have h00 := hcell 0 (by omega)
      rw [List.getElem?_eq_getElem (by omega), Option.bind_eq_some_iff] at h00
      obtain ⟨c0, hc0, htr0⟩ := h00
      obtain ⟨t0, rfl, _⟩ := DataW.trod_int Try.underlying3 htr0
      obtain ⟨_, _, hcc0⟩ := World.cells?_some hc0
      have hz := hcc0 0 (by omega)
      have hz' : W.cell? a = some (.int .i64 t0) := by simpa [Addr.add] using hz
      have hsp := spot_none hz'
      refine ⟨t, ⟨hsp, World.block_lt_of_cell? W a hz'⟩, ?_⟩
      have h2 := hcc 0 (by omega)
      rw [show (some (Value.int .i64 t)) = [Value.int .i64 t][0]? from rfl, ← h2]
      congr 1
      rw [hsp]
      unfold Addr.add
      by_cases h0 : i * 1 = 0
      · rw [if_pos h0]; simp; omega
      · rw [if_neg h0]; simp
    obtain ⟨l, hl, hP⟩ := pick_list each
    refine ⟨l, some a, cap, by rw [hl], by omega, hcm, fun i x hi => ?_⟩
    have hil : i < l.length := (List.getElem?_eq_some_iff.1 hi).1
    have h1 := hP i (by omega)
    refine ⟨a.block, a.off, by rw [← h1.1.1], h1.1.2, ?_⟩
    rw [h1.2, List.getD_eq_getElem?_getD, hi]
    rfl

end Go.Proofs.Ytfkhbbmnjndmcaa
