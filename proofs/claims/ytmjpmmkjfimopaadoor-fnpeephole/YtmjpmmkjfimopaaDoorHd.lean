/- The law's own looks at lists of ints: whether two are alike, marks that are put, marks that are held. A schema that came in, opened: its types lie in memory. Lists of ints of any sign: in memory, copied, compared, marked, held. -/
import Derived.Test.YtmjpmmkjfimopaaDoorGd
import Derived.Lib.SmallJoins
import Derived.Deep.RegionWith
import Derived.Test.YtmjpmmkjfimopaaDoorGb
import Derived.OpenShut
import Derived.Carry
import Derived.Laws.MakeOwn
namespace Go.Proofs.YtmjpmmkjfimopaaDoor
open Go.RowKit

/-- a slice of ints, in blocks below B -/
def IntsAt (w : World) (B : Nat) (v : Value) (l : List Nat) : Prop :=
  ∃ ao cap, v = .slice ao l.length cap ∧ l.length ≤ maxLen ∧ ∀ i (x : Nat), l[i]? = some x → ∃ g o, ao = some ⟨g, o, none⟩ ∧ g < B ∧ w.cell? ⟨g, o + i, none⟩ = some (.int .i64 (x : Int))

theorem IntsAt.below {w w' : World} {v : Value} {l : List Nat} {B : Nat} (h : IntsAt w B v l) (hb : Below B w w') (hB : B ≤ w.heap.size := by exact Nat.le_refl _) : IntsAt w' w'.heap.size v l := by
  obtain ⟨ao, cap, hv, hm, hr⟩ := h
  refine ⟨ao, cap, hv, hm, fun i x hi => ?_⟩
  obtain ⟨g, o, ha, hg, c⟩ := hr i x hi
  have := hb.size
  exact ⟨g, o, ha, by omega, (hb.cell (p := ⟨g, o + i, none⟩) hg).trans c⟩

theorem IntsAt.own {w : World} {B : Nat} {v : Value} {l : List Nat} (h : w.ownsRow B 3 1 v l.length (ints l)) (hl : l.length ≤ maxLen) : IntsAt w w.heap.size v l := by
  have h0 := h
  obtain ⟨_, ⟨rfl, hn⟩ | ⟨g, cap, cur, rfl, hB, hb, _⟩⟩ := h
  · have : l = [] := List.length_eq_zero_iff.1 hn
    subst this
    exact ⟨none, 0, rfl, hl, fun i x hi => by simp at hi⟩
  · refine ⟨some ⟨g, 0, none⟩, cap, rfl, hl, fun i x hi => ⟨g, 0, rfl, (h0.lt g rfl).2, ?_⟩⟩
    have hil : i < l.length := (List.getElem?_eq_some_iff.1 hi).1
    have := h0.cellAt i (by omega)
    rw [Nat.zero_add, this]
    simp [ints, hi]

theorem set1_marks (ys : List Value) (k i n : Nat) (hl : ys.length = n) (hi : i < n) (hm : ∀ j, j < i → ys[j]? = some (.int .i64 ((k + j : Nat) : Int))) : ∀ j, j < i + 1 →
    (ys.set i (.int .i64 ((k : Int) + i)))[j]? = some (.int .i64 ((k + j : Nat) : Int)) := by
  intro j hj
  rw [List.getElem?_set]
  by_cases h : i = j
  · rw [if_pos h, if_pos (by omega), show ((k + j : Nat) : Int) = (k : Int) + i by omega]
  · rw [if_neg h]
    exact hm j (by omega)

/-- marks in a slice of ints: the ints from k on -/
theorem markedInts {w : World} {B n k : Nat} {v : Value} {ys : List Value} (h : w.ownsRow B 3 1 v n ys) (hm : ∀ j, j < n → ys[j]? = some (.int .i64 ((k + j : Nat) : Int))) (hl : n ≤ maxLen) : IntsAt w w.heap.size v ((List.range n).map (k + ·)) := by
  have e : ys = ints ((List.range n).map (k + ·)) := by
    apply List.ext_getElem?
    intro j
    by_cases hj : j < n
    · rw [hm j hj]; simp [ints, hj]
    · rw [List.getElem?_eq_none (by have := h.1; omega), List.getElem?_eq_none (by simp [ints]; omega)]
  have hlen : ((List.range n).map (k + ·)).length = n := by simp
  refine IntsAt.own (B := B) ?_ (by omega)
  rw [hlen, ← e]
  exact h

end Go.Proofs.YtmjpmmkjfimopaaDoor

namespace Go.Proofs.YtmjpmmkjfimopaaDoor
open Go.RowKit Plain Sch

theorem spot_none {w : World} {a : Addr} {u : Value} (h : w.cell? a = some u) : a = ⟨a.block, a.off, none⟩ := by
  unfold World.cell? at h
  split at h
  · split at h
    · cases h
    · rename_i hs
      cases a with
      | mk b o s =>
        cases s with
        | none => rfl
        | some x => simp at hs
  · cases h

theorem pick_list {α : Type} [Inhabited α] {n : Nat} {P : Nat → α → Prop} (h : ∀ i, i < n → ∃ t, P i t) : ∃ l : List α, l.length = n ∧ ∀ i, i < n → P i (l.getD i default) := by
  induction n with
  | zero => exact ⟨[], rfl, fun i hi => by omega⟩
  | succ n ih =>
    obtain ⟨l, hl, hp⟩ := ih (fun i hi => h i (by omega))
    obtain ⟨t, ht⟩ := h n (by omega)
    refine ⟨l ++ [t], by simp [hl], fun i hi => ?_⟩
    by_cases hin : i = n
    · subst hin
      simpa [List.getD, hl] using ht
    · have := hp i (by omega)
      simpa [List.getD, List.getElem?_append_left (show i < l.length by omega)] using this

end Go.Proofs.YtmjpmmkjfimopaaDoor

namespace Go.Proofs.YtmjpmmkjfimopaaDoor
open Go.RowKit

def zints (l : List Int) : List Value := l.map (Value.int .i64)

/-- a slice of ints, in blocks below B -/
def ZAt (w : World) (B : Nat) (v : Value) (l : List Int) : Prop :=
  ∃ ao cap, v = .slice ao l.length cap ∧ l.length ≤ cap ∧ cap ≤ maxLen ∧ ∀ i (x : Int), l[i]? = some x → ∃ g o, ao = some ⟨g, o, none⟩ ∧ g < B ∧ w.cell? ⟨g, o + i, none⟩ = some (.int .i64 x)

theorem ZAt.below {w w' : World} {v : Value} {l : List Int} {B : Nat} (h : ZAt w B v l) (hb : Below B w w') (hB : B ≤ w.heap.size := by exact Nat.le_refl _) : ZAt w' w'.heap.size v l := by
  obtain ⟨ao, cap, hv, hm, hc, hr⟩ := h
  refine ⟨ao, cap, hv, hm, hc, fun i x hi => ?_⟩
  obtain ⟨g, o, ha, hg, c⟩ := hr i x hi
  have := hb.size
  exact ⟨g, o, ha, by omega, (hb.cell (p := ⟨g, o + i, none⟩) hg).trans c⟩

def ZRow (w : World) (B : Nat) (v : Value) (l : List Int) : Prop := w.ownsRow B 3 1 v l.length (zints l)

theorem ZAt.own {w : World} {B : Nat} {v : Value} {l : List Int} (h : ZRow w B v l) : ZAt w w.heap.size v l := by
  have h0 := h
  obtain ⟨_, ⟨rfl, hn⟩ | ⟨g, cap, cur, rfl, hB, hb, hnc, hcm, _⟩⟩ := h
  · have : l = [] := List.length_eq_zero_iff.1 hn
    subst this
    exact ⟨none, 0, rfl, by simp, by unfold maxLen; omega, fun i x hi => by simp at hi⟩
  · refine ⟨some ⟨g, 0, none⟩, cap, rfl, hnc, hcm, fun i x hi => ⟨g, 0, rfl, (World.ownsRow.lt h0 g rfl).2, ?_⟩⟩
    have hil : i < l.length := (List.getElem?_eq_some_iff.1 hi).1
    have := World.ownsRow.cellAt h0 i (by omega)
    rw [Nat.zero_add, this]
    simp [zints, hi]

theorem ZRow.slice {w : World} {B : Nat} {v : Value} {l : List Int} (h : ZRow w B v l) : ∃ ao cap, v = Value.slice ao l.length cap := by
  rcases h.2 with ⟨rfl, h0⟩ | ⟨g, cap, _, rfl, _⟩
  · exact ⟨none, 0, by rw [h0]⟩
  · exact ⟨_, _, rfl⟩

theorem ZRow.below {w w' : World} {B : Nat} {v : Value} {l : List Int} (h : ZRow w B v l) (hb : Below w.heap.size w w') : ZRow w' B v l := by
  refine ⟨h.1, ?_⟩
  rcases h.2 with hn | ⟨g, cap, cur, hv, hg, hgg, rest⟩
  · exact .inl hn
  · exact .inr ⟨g, cap, cur, hv, hg, (hb.block g (Array.getElem?_eq_some_iff.1 hgg).1).trans hgg, rest⟩

theorem ZRow.far {w w' : World} {B C : Nat} {v : Value} {l : List Int} (h : ZRow w B v l) (hb : Below C w w') (hne : ∀ g, v.ownBlock = some g → g < C) : ZRow w' B v l := by
  refine ⟨h.1, ?_⟩
  rcases h.2 with hn | ⟨g, cap, cur, hv, hgB, hgg, rest⟩
  · exact .inl hn
  · refine .inr ⟨g, cap, cur, hv, hgB, (hb.block g (hne g (by rw [hv]; rfl))).trans hgg, rest⟩

theorem ZRow.lower {w : World} {B B' : Nat} {v : Value} {l : List Int} (h : ZRow w B v l) (hB : B' ≤ B) : ZRow w B' v l := by
  refine ⟨h.1, ?_⟩
  rcases h.2 with hn | ⟨g, cap, cur, hv, hg, rest⟩
  · exact .inl hn
  · exact .inr ⟨g, cap, cur, hv, by omega, rest⟩

theorem setZ_eq (ys : List Value) (l : List Int) (i : Nat) (x : Int) (hl : ys.length = l.length) (hi : i < l.length) (hx : l[i]? = some x) (hm : ∀ m, m < i → ys[m]? = (zints l)[m]?) : ∀ m, m < i + 1 → (ys.set i (.int .i64 x))[m]? = (zints l)[m]? := by
  intro m hmi
  rw [List.getElem?_set]
  by_cases h : i = m
  · subst h
    rw [if_pos rfl, if_pos (by omega)]
    simp [zints, hx]
  · rw [if_neg h]
    exact hm m (by omega)

set_option maxRecDepth 100000 in
theorem open_ints {H : Type} {enc : TypeId × Value → H} {W : World} {v0 : Value} {d0 : DataW H} {p0 : List MemPlace}
    (h0 : DataW.Trod enc Tryd.prog W 0 (fun _ => true) true 96 v0 d0 p0) (hc : v0.cells = #[v0]) : ∃ l, ZAt W W.heap.size v0 l := by
  have c3 : Tryd.prog.cellsOf 3 = 1 := by kernel_rfl
  obtain ⟨fuel, hf⟩ := h0
  rw [hc] at hf
  rcases DataW.trod_slice Tryd.underlying96 hf with ⟨hcs, _⟩ | ⟨a, len, cap, elems, rest, m2, _, hcs, _, _, hlc, hcm, hel, hcell, _⟩
  · simp at hcs
    subst hcs
    exact ⟨[], none, 0, rfl, by simp, by unfold maxLen; omega, fun i x hi => by simp at hi⟩
  · simp at hcs
    subst hcs
    rw [c3] at hcell
    have each : ∀ i, i < len → ∃ t : Int, (a = ⟨a.block, a.off, none⟩ ∧ a.block < W.heap.size) ∧ W.cell? ⟨a.block, a.off + i, none⟩ = some (.int .i64 t) := by
      intro i hi
      have h1 := hcell i hi
      rw [List.getElem?_eq_getElem (by omega), Option.bind_eq_some_iff] at h1
      obtain ⟨ci, hci, htr⟩ := h1
      obtain ⟨t, rfl, _⟩ := DataW.trod_int Tryd.underlying3 htr
      obtain ⟨_, _, hcc⟩ := World.cells?_some hci
      have h00 := hcell 0 (by omega)
      rw [List.getElem?_eq_getElem (by omega), Option.bind_eq_some_iff] at h00
      obtain ⟨c0, hc0, htr0⟩ := h00
      obtain ⟨t0, rfl, _⟩ := DataW.trod_int Tryd.underlying3 htr0
      obtain ⟨_, _, hcc0⟩ := World.cells?_some hc0
      have hz := hcc0 0 (by omega)
      have hz' : W.cell? a = some (.int .i64 t0) := by simpa [Addr.add] using hz
      have hsp := spot_none hz'
      refine ⟨t, ⟨hsp, World.block_lt_of_cell? W a hz'⟩, ?_⟩
      have h2 := hcc 0 (by omega)
      rw [show (some (Value.int .i64 t)) = [Value.int .i64 t][0]? from rfl, ← h2]
      congr 1
      rw [hsp]
      unfold Addr.add
      by_cases h0 : i * 1 = 0
      · rw [if_pos h0]; simp; omega
      · rw [if_neg h0]; simp
    obtain ⟨l, hl, hP⟩ := pick_list each
    refine ⟨l, some a, cap, by rw [hl], by omega, hcm, fun i x hi => ?_⟩
    have hil : i < l.length := (List.getElem?_eq_some_iff.1 hi).1
    have h1 := hP i (by omega)
    refine ⟨a.block, a.off, by rw [← h1.1.1], h1.1.2, ?_⟩
    rw [h1.2, List.getD_eq_getElem?_getD, hi]
    rfl

end Go.Proofs.YtmjpmmkjfimopaaDoor
