/- How a Filter's list lies in memory: a slice's cells, six a Want. -/
import Derived.Test.YtmjpmmkjfimopaaDoorGb
import Derived.Test.YtmjpmmkjfimopaaDoorHb
namespace Go.Proofs.YtmjpmmkjfimopaaDoor
open Go.RowKit Plain Sch Wan

def Wan.Wa.cells (t : Wa) : List Value := [.int .i64 t.kind, .int .i64 t.no, .int .i64 t.num, .string t.text, .int .i64 t.a, .int .i64 t.b]
def Wan.Wa.val (t : Wa) : Value := .agg #[.int .i64 t.kind, .int .i64 t.no, .int .i64 t.num, .string t.text, .int .i64 t.a, .int .i64 t.b]

def WaIn (w : World) (g o : Nat) (t : Wa) : Prop :=
  w.cell? ⟨g, o, none⟩ = some (.int .i64 t.kind) ∧ w.cell? ⟨g, o + 1, none⟩ = some (.int .i64 t.no) ∧ w.cell? ⟨g, o + 2, none⟩ = some (.int .i64 t.num) ∧ w.cell? ⟨g, o + 3, none⟩ = some (.string t.text) ∧ w.cell? ⟨g, o + 4, none⟩ = some (.int .i64 t.a) ∧ w.cell? ⟨g, o + 5, none⟩ = some (.int .i64 t.b)

theorem WaIn.below {w w' : World} {g o B : Nat} {t : Wa} (h : WaIn w g o t) (hb : Below B w w') (hg : g < B) : WaIn w' g o t := by
  obtain ⟨c0, c1, c2, c3, c4, c5⟩ := h
  exact ⟨(hb.cell (p := ⟨g, o, none⟩) hg).trans c0, (hb.cell (p := ⟨g, o + 1, none⟩) hg).trans c1, (hb.cell (p := ⟨g, o + 2, none⟩) hg).trans c2, (hb.cell (p := ⟨g, o + 3, none⟩) hg).trans c3, (hb.cell (p := ⟨g, o + 4, none⟩) hg).trans c4, (hb.cell (p := ⟨g, o + 5, none⟩) hg).trans c5⟩

/-- a slice of them, in blocks below B -/
def WasAt (w : World) (B : Nat) (v : Value) (T : List Wa) : Prop :=
  ∃ ao cap, v = .slice ao T.length cap ∧ T.length ≤ cap ∧ cap ≤ maxLen ∧ (∀ i, i < T.length → ∃ g o, ao = some ⟨g, o, none⟩ ∧ g < B ∧ WaIn w g (o + i * 6) (wa T i)) ∧ ∀ i, i < T.length → (wa T i).text.size ≤ maxLen

theorem WasAt.below {w w' : World} {v : Value} {T : List Wa} {B : Nat} (h : WasAt w B v T) (hb : Below B w w') (hB : B ≤ w.heap.size := by exact Nat.le_refl _) : WasAt w' w'.heap.size v T := by
  obtain ⟨ao, cap, hv, hc, hm, hr, hn⟩ := h
  refine ⟨ao, cap, hv, hc, hm, fun i hi => ?_, hn⟩
  obtain ⟨g, o, ha, hg, c⟩ := hr i hi
  have := hb.size
  exact ⟨g, o, ha, by omega, c.below hb hg⟩

/-- a slice with one in it, opened -/
theorem WasAt.open {w : World} {v : Value} {T : List Wa} {B : Nat} (h : WasAt w B v T) (h0 : 0 < T.length) : ∃ g o cap, v = .slice (some ⟨g, o, none⟩) T.length cap ∧ T.length ≤ cap ∧ cap ≤ maxLen ∧ g < B ∧ (∀ i, i < T.length → WaIn w g (o + i * 6) (wa T i)) ∧ ∀ i, i < T.length → (wa T i).text.size ≤ maxLen := by
  obtain ⟨ao, cap, hv, hc, hm, hr, hn⟩ := h
  obtain ⟨g, o, ha, hg, _⟩ := hr 0 h0
  subst ha
  refine ⟨g, o, cap, hv, hc, hm, hg, fun i hi => ?_, hn⟩
  obtain ⟨g', o', ha, _, c⟩ := hr i hi
  simp only [Option.some.injEq, Addr.mk.injEq, and_true] at ha
  obtain ⟨rfl, rfl⟩ := ha
  exact c

end Go.Proofs.YtmjpmmkjfimopaaDoor
