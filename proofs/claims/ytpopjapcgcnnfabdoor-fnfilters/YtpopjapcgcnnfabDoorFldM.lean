/- How fields lie in memory: a slice's cells, four a field. -/
import Derived.Test.YtpopjapcgcnnfabDoorFldA
namespace Go.Proofs.YtpopjapcgcnnfabDoor
open Go.RowKit

def Fld.cells (f : Fld) : List Value := [.int .i64 f.no, .int .i64 f.kind, .int .i64 f.num, .string f.data]

/-- a slice of fields: its cells, in blocks below B -/
def FldsAt (w : World) (B : Nat) (v : Value) (l : List Fld) : Prop :=
  ∃ ao cap, v = .slice ao l.length cap ∧ l.length ≤ maxLen ∧ ∀ i f, l[i]? = some f → ∃ g o, ao = some ⟨g, o, none⟩ ∧ g < B ∧ w.cell? ⟨g, o + i * 4, none⟩ = some (.int .i64 f.no) ∧ w.cell? ⟨g, o + i * 4 + 1, none⟩ = some (.int .i64 f.kind) ∧ w.cell? ⟨g, o + i * 4 + 2, none⟩ = some (.int .i64 f.num) ∧ w.cell? ⟨g, o + i * 4 + 3, none⟩ = some (.string f.data)

theorem FldsAt.below {w w' : World} {v : Value} {l : List Fld} {B : Nat} (h : FldsAt w B v l) (hb : Below B w w') (hB : B ≤ w.heap.size := by exact Nat.le_refl _) : FldsAt w' w'.heap.size v l := by
  obtain ⟨ao, cap, hv, hm, hr⟩ := h
  refine ⟨ao, cap, hv, hm, fun i f hi => ?_⟩
  obtain ⟨g, o, ha, hg, c0, c1, c2, c3⟩ := hr i f hi
  have := hb.size
  exact ⟨g, o, ha, by omega, (hb.cell (p := ⟨g, o + i * 4, none⟩) hg).trans c0, (hb.cell (p := ⟨g, o + i * 4 + 1, none⟩) hg).trans c1, (hb.cell (p := ⟨g, o + i * 4 + 2, none⟩) hg).trans c2, (hb.cell (p := ⟨g, o + i * 4 + 3, none⟩) hg).trans c3⟩

theorem own_below {w w' : World} {B e size n : Nat} {v : Value} {xs : List Value} (h : w.ownsRow B e size v n xs) (hb : Below w.heap.size w w') : w'.ownsRow B e size v n xs := by
  refine ⟨h.1, ?_⟩
  rcases h.2 with hn | ⟨g, cap, cur, hv, hg, hgg, rest⟩
  · exact .inl hn
  · exact .inr ⟨g, cap, cur, hv, hg, (hb.block g (Array.getElem?_eq_some_iff.1 hgg).1).trans hgg, rest⟩

theorem Tryd.infoFld : (Tryd.prog.info? 101).map (fun i => (i.zero, i.size, i.bytes)) = some (some (.agg #[.int .i64 0, .int .i64 0, .int .i64 0, .string ⟨#[]⟩]), 4, 40) := by kernel_rfl

theorem cell_new (w : World) (c : Array Value) (t : TypeId) (n j : Nat) (hn : n = w.heap.size) : (w.alloc (.cells c t)).cell? ⟨n, 0 + j, none⟩ = c[j]? := by
  subst hn; simp

theorem flat_cells (l : List Fld) (i j : Nat) (f : Fld) (h : l[i]? = some f) (hj : j < 4) : (l.flatMap Fld.cells)[i * 4 + j]? = f.cells[j]? := by
  induction l generalizing i with
  | nil => simp at h
  | cons a l ih =>
    rw [List.flatMap_cons]
    have ha : a.cells.length = 4 := rfl
    cases i with
    | zero =>
      simp at h; subst h
      rw [Nat.zero_mul, Nat.zero_add, List.getElem?_append_left (by omega)]
    | succ i =>
      simp at h
      rw [List.getElem?_append_right (by omega), ← ih i h]
      congr 1
      omega

theorem flat_cells_len (l : List Fld) : (l.flatMap Fld.cells).length = l.length * 4 := by
  induction l with
  | nil => rfl
  | cons a l ih => rw [List.flatMap_cons, List.length_append, ih, List.length_cons]; have : a.cells.length = 4 := rfl; omega

theorem FldsAt.own {w : World} {B : Nat} {v : Value} {l : List Fld} (h : w.ownsRow B 101 4 v l.length (l.flatMap Fld.cells)) (hl : l.length ≤ maxLen) : FldsAt w w.heap.size v l := by
  have h0 := h
  obtain ⟨_, ⟨rfl, hn⟩ | ⟨g, cap, cur, rfl, hB, hb, _⟩⟩ := h
  · have : l = [] := List.length_eq_zero_iff.1 hn
    subst this
    exact ⟨none, 0, rfl, hl, fun i f hi => by simp at hi⟩
  · refine ⟨some ⟨g, 0, none⟩, cap, rfl, hl, fun i f hi => ⟨g, 0, rfl, (h0.lt g rfl).2, ?_, ?_, ?_, ?_⟩⟩
    all_goals
      have hil : i < l.length := (List.getElem?_eq_some_iff.1 hi).1
    · have := h0.cellAt (i * 4 + 0) (by omega); rw [flat_cells l i 0 f hi (by omega)] at this; simpa [Fld.cells] using this
    · have := h0.cellAt (i * 4 + 1) (by omega); rw [flat_cells l i 1 f hi (by omega)] at this; simpa [Fld.cells] using this
    · have := h0.cellAt (i * 4 + 2) (by omega); rw [flat_cells l i 2 f hi (by omega)] at this; simpa [Fld.cells] using this
    · have := h0.cellAt (i * 4 + 3) (by omega); rw [flat_cells l i 3 f hi (by omega)] at this; simpa [Fld.cells] using this

end Go.Proofs.YtpopjapcgcnnfabDoor
