/- How terms lie in memory: a slice's cells, three a cell. -/
import Derived.Test.YtndeikgkncfmbaaDoorGb
import Derived.Test.YtndeikgkncfmbaaDoorTmA
namespace Go.Proofs.YtndeikgkncfmbaaDoor
open Go.RowKit Plain Sch Trm

def Trm.Ce.cells (t : Ce) : List Value := [.int .i64 t.var, .string t.name, .int .i64 t.many]
def Trm.Ce.val (t : Ce) : Value := .agg #[.int .i64 t.var, .string t.name, .int .i64 t.many]

/-- a cell's three cells -/
def CeIn (w : World) (g o : Nat) (t : Ce) : Prop :=
  w.cell? ⟨g, o, none⟩ = some (.int .i64 t.var) ∧ w.cell? ⟨g, o + 1, none⟩ = some (.string t.name) ∧ w.cell? ⟨g, o + 2, none⟩ = some (.int .i64 t.many)

theorem CeIn.below {w w' : World} {g o B : Nat} {t : Ce} (h : CeIn w g o t) (hb : Below B w w') (hg : g < B) : CeIn w' g o t := by
  obtain ⟨c0, c1, c2⟩ := h
  exact ⟨(hb.cell (p := ⟨g, o, none⟩) hg).trans c0, (hb.cell (p := ⟨g, o + 1, none⟩) hg).trans c1, (hb.cell (p := ⟨g, o + 2, none⟩) hg).trans c2⟩

/-- a slice of cells, in blocks below B -/
def CesAt (w : World) (B : Nat) (v : Value) (T : List Ce) : Prop :=
  ∃ ao cap, v = .slice ao T.length cap ∧ T.length ≤ cap ∧ cap ≤ maxLen ∧ (∀ i, i < T.length → ∃ g o, ao = some ⟨g, o, none⟩ ∧ g < B ∧ CeIn w g (o + i * 3) (ce T i)) ∧ ∀ i, i < T.length → (ce T i).name.size ≤ maxLen

theorem CesAt.below {w w' : World} {v : Value} {T : List Ce} {B : Nat} (h : CesAt w B v T) (hb : Below B w w') (hB : B ≤ w.heap.size := by exact Nat.le_refl _) : CesAt w' w'.heap.size v T := by
  obtain ⟨ao, cap, hv, hc, hm, hr, hn⟩ := h
  refine ⟨ao, cap, hv, hc, hm, fun i hi => ?_, hn⟩
  obtain ⟨g, o, ha, hg, c⟩ := hr i hi
  have := hb.size
  exact ⟨g, o, ha, by omega, c.below hb hg⟩

/-- a slice with a cell in it, opened -/
theorem CesAt.open {w : World} {v : Value} {T : List Ce} {B : Nat} (h : CesAt w B v T) (h0 : 0 < T.length) : ∃ g o cap, v = .slice (some ⟨g, o, none⟩) T.length cap ∧ T.length ≤ cap ∧ cap ≤ maxLen ∧ g < B ∧ (∀ i, i < T.length → CeIn w g (o + i * 3) (ce T i)) ∧ ∀ i, i < T.length → (ce T i).name.size ≤ maxLen := by
  obtain ⟨ao, cap, hv, hc, hm, hr, hn⟩ := h
  obtain ⟨g, o, ha, hg, _⟩ := hr 0 h0
  subst ha
  refine ⟨g, o, cap, hv, hc, hm, hg, fun i hi => ?_, hn⟩
  obtain ⟨g', o', ha, _, c⟩ := hr i hi
  simp only [Option.some.injEq, Addr.mk.injEq, and_true] at ha
  obtain ⟨rfl, rfl⟩ := ha
  exact c

end Go.Proofs.YtndeikgkncfmbaaDoor
