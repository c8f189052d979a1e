/- Lists of ints of any sign: in memory, copied, compared, marked, held. -/
import Derived.Test.YtnbaeplbnonhkaaMarkI
import Derived.Test.YtnbaeplbnonhkaaLwO
import Derived.Laws.MakeOwn
import Derived.OpenShut
import Derived.Carry
namespace Go.Proofs.Ytnbaeplbnonhkaa
open Go.RowKit

def zints (l : List Int) : List Value := l.map (Value.int .i64)

/-- a slice of ints, in blocks below B -/
def ZAt (w : World) (B : Nat) (v : Value) (l : List Int) : Prop :=
  ∃ ao cap, v = .slice ao l.length cap ∧ l.length ≤ cap ∧ cap ≤ maxLen ∧ ∀ i (x : Int), l[i]? = some x → ∃ g o, ao = some ⟨g, o, none⟩ ∧ g < B ∧ w.cell? ⟨g, o + i, none⟩ = some (.int .i64 x)

theorem ZAt.below {w w' : World} {v : Value} {l : List Int} {B : Nat} (h : ZAt w B v l) (hb : Below B w w') (hB : B ≤ w.heap.size := by exact Nat.le_refl _) : ZAt w' w'.heap.size v l := by
  obtain ⟨ao, cap, hv, hm, hc, hr⟩ := h
  refine ⟨ao, cap, hv, hm, hc, fun i x hi => ?_⟩
  obtain ⟨g, o, ha, hg, c⟩ := hr i x hi
  have := hb.size
  exact ⟨g, o, ha, by omega, (hb.cell (p := ⟨g, o + i, none⟩) hg).trans c⟩

def ZRow (w : World) (B : Nat) (v : Value) (l : List Int) : Prop := w.ownsRow B 3 1 v l.length (zints l)

theorem ZAt.own {w : World} {B : Nat} {v : Value} {l : List Int} (h : ZRow w B v l) : ZAt w w.heap.size v l := by
  have h0 := h
  obtain ⟨_, ⟨rfl, hn⟩ | ⟨g, cap, cur, rfl, hB, hb, hnc, hcm, _⟩⟩ := h
  · have : l = [] := List.length_eq_zero_iff.1 hn
    subst this
    exact ⟨none, 0, rfl, by simp, by unfold maxLen; omega, fun i x hi => by simp at hi⟩
  · refine ⟨some ⟨g, 0, none⟩, cap, rfl, hnc, hcm, fun i x hi => ⟨g, 0, rfl, (World.ownsRow.lt h0 g rfl).2, ?_⟩⟩
    have hil : i < l.length := (List.getElem?_eq_some_iff.1 hi).1
    have := World.ownsRow.cellAt h0 i (by omega)
    rw [Nat.zero_add, this]
    simp [zints, hi]

theorem ZRow.slice {w : World} {B : Nat} {v : Value} {l : List Int} (h : ZRow w B v l) : ∃ ao cap, v = Value.slice ao l.length cap := by
  rcases h.2 with ⟨rfl, h0⟩ | ⟨g, cap, _, rfl, _⟩
  · exact ⟨none, 0, by rw [h0]⟩
  · exact ⟨_, _, rfl⟩

theorem ZRow.below {w w' : World} {B : Nat} {v : Value} {l : List Int} (h : ZRow w B v l) (hb : Below w.heap.size w w') : ZRow w' B v l := by
  refine ⟨h.1, ?_⟩
  rcases h.2 with hn | ⟨g, cap, cur, hv, hg, hgg, rest⟩
  · exact .inl hn
  · exact .inr ⟨g, cap, cur, hv, hg, (hb.block g (Array.getElem?_eq_some_iff.1 hgg).1).trans hgg, rest⟩

theorem ZRow.far {w w' : World} {B C : Nat} {v : Value} {l : List Int} (h : ZRow w B v l) (hb : Below C w w') (hne : ∀ g, v.ownBlock = some g → g < C) : ZRow w' B v l := by
  refine ⟨h.1, ?_⟩
  rcases h.2 with hn | ⟨g, cap, cur, hv, hgB, hgg, rest⟩
  · exact .inl hn
  · refine .inr ⟨g, cap, cur, hv, hgB, (hb.block g (hne g (by rw [hv]; rfl))).trans hgg, rest⟩

theorem ZRow.lower {w : World} {B B' : Nat} {v : Value} {l : List Int} (h : ZRow w B v l) (hB : B' ≤ B) : ZRow w B' v l := by
  refine ⟨h.1, ?_⟩
  rcases h.2 with hn | ⟨g, cap, cur, hv, hg, rest⟩
  · exact .inl hn
  · exact .inr ⟨g, cap, cur, hv, by omega, rest⟩

theorem setZ_eq (ys : List Value) (l : List Int) (i : Nat) (x : Int) (hl : ys.length = l.length) (hi : i < l.length) (hx : l[i]? = some x) (hm : ∀ m, m < i → ys[m]? = (zints l)[m]?) : ∀ m, m < i + 1 → (ys.set i (.int .i64 x))[m]? = (zints l)[m]? := by
  intro m hmi
  rw [List.getElem?_set]
  by_cases h : i = m
  · subst h
    rw [if_pos rfl, if_pos (by omega)]
    simp [zints, hx]
  · rw [if_neg h]
    exact hm m (by omega)

set_option maxRecDepth 100000 in
theorem open_ints {H : Type} {enc : TypeId × Value → H} {W : World} {v0 : Value} {d0 : DataW H} {p0 : List MemPlace}
    (h0 : DataW.Trod enc Try.prog W 0 (fun _ => true) true 34 v0 d0 p0) (hc : v0.cells = #[v0]) : ∃ l, ZAt W W.heap.size v0 l := by
  have c3 : Try.prog.cellsOf 3 = 1 := by kernel_rfl
  obtain ⟨fuel, hf⟩ := h0
  rw [hc] at hf
  rcases DataW.trod_slice Try.underlying34 hf with ⟨hcs, _⟩ | ⟨a, len, cap, elems, rest, m2, _, hcs, _, _, hlc, hcm, hel, hcell, _⟩
  · simp at hcs
    subst hcs
    exact ⟨[], none, 0, rfl, by simp, by unfold maxLen; omega, fun i x hi => by simp at hi⟩
  · simp at hcs
    subst hcs
    rw [c3] at hcell
    have each : ∀ i, i < len → ∃ t : Int, (a = ⟨a.block, a.off, none⟩ ∧ a.block < W.heap.size) ∧ W.cell? ⟨a.block, a.off + i, none⟩ = some (.int .i64 t) := by
      intro i hi
      have h1 := hcell i hi
      rw [List.getElem?_eq_getElem (by omega), Option.bind_eq_some_iff] at h1
      obtain ⟨ci, hci, htr⟩ := h1
      obtain ⟨t, rfl, _⟩ := DataW.trod_int Try.underlying3 htr
      obtain ⟨_, _, hcc⟩ := World.cells?_some hci
      have h00 := hcell 0 (by omega)
      rw [List.getElem?_eq_getElem (by omega), Option.bind_eq_some_iff] at h00
      obtain ⟨c0, hc0, htr0⟩ := h00
      obtain ⟨t0, rfl, _⟩ := DataW.trod_int Try.underlying3 htr0
      obtain ⟨_, _, hcc0⟩ := World.cells?_some hc0
      have hz := hcc0 0 (by omega)
      have hz' : W.cell? a = some (.int .i64 t0) := by simpa [Addr.add] using hz
      have hsp := spot_none hz'
      refine ⟨t, ⟨hsp, World.block_lt_of_cell? W a hz'⟩, ?_⟩
      have h2 := hcc 0 (by omega)
      rw [show (some (Value.int .i64 t)) = [Value.int .i64 t][0]? from rfl, ← h2]
      congr 1
      rw [hsp]
      unfold Addr.add
      by_cases h0 : i * 1 = 0
      · rw [if_pos h0]; simp; omega
      · rw [if_neg h0]; simp
    obtain ⟨l, hl, hP⟩ := pick_list each
    refine ⟨l, some a, cap, by rw [hl], by omega, hcm, fun i x hi => ?_⟩
    have hil : i < l.length := (List.getElem?_eq_some_iff.1 hi).1
    have h1 := hP i (by omega)
    refine ⟨a.block, a.off, by rw [← h1.1.1], h1.1.2, ?_⟩
    rw [h1.2, List.getD_eq_getElem?_getD, hi]
    rfl

end Go.Proofs.Ytnbaeplbnonhkaa
