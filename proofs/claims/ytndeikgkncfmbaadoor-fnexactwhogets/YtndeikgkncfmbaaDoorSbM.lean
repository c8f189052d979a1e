/- How subs lie in memory: a slice's cells, two a sub. -/
import Derived.Test.YtndeikgkncfmbaaDoorToM
import Derived.Test.YtndeikgkncfmbaaDoorToE
namespace Go.Proofs.YtndeikgkncfmbaaDoor
open Go.RowKit Plain Tpc

def Tpc.Sb.cells (t : Sb) : List Value := [.string t.pat, .int .i64 t.who]
def Tpc.Sb.val (t : Sb) : Value := .agg #[.string t.pat, .int .i64 t.who]

/-- a cell's three cells -/
def SbIn (w : World) (g o : Nat) (t : Sb) : Prop :=
  w.cell? ⟨g, o, none⟩ = some (.string t.pat) ∧ w.cell? ⟨g, o + 1, none⟩ = some (.int .i64 t.who)

theorem SbIn.below {w w' : World} {g o B : Nat} {t : Sb} (h : SbIn w g o t) (hb : Below B w w') (hg : g < B) : SbIn w' g o t := by
  obtain ⟨c0, c1⟩ := h
  exact ⟨(hb.cell (p := ⟨g, o, none⟩) hg).trans c0, (hb.cell (p := ⟨g, o + 1, none⟩) hg).trans c1⟩

/-- a slice of cells, in blocks below B -/
def SbsAt (w : World) (B : Nat) (v : Value) (T : List Sb) : Prop :=
  ∃ ao cap, v = .slice ao T.length cap ∧ T.length ≤ cap ∧ cap ≤ maxLen ∧ (∀ i, i < T.length → ∃ g o, ao = some ⟨g, o, none⟩ ∧ g < B ∧ SbIn w g (o + i * 2) (sb T i)) ∧ ∀ i, i < T.length → (sb T i).pat.size ≤ maxLen

theorem SbsAt.below {w w' : World} {v : Value} {T : List Sb} {B : Nat} (h : SbsAt w B v T) (hb : Below B w w') (hB : B ≤ w.heap.size := by exact Nat.le_refl _) : SbsAt w' w'.heap.size v T := by
  obtain ⟨ao, cap, hv, hc, hm, hr, hn⟩ := h
  refine ⟨ao, cap, hv, hc, hm, fun i hi => ?_, hn⟩
  obtain ⟨g, o, ha, hg, c⟩ := hr i hi
  have := hb.size
  exact ⟨g, o, ha, by omega, c.below hb hg⟩

/-- a slice with a cell in it, opened -/
theorem SbsAt.open {w : World} {v : Value} {T : List Sb} {B : Nat} (h : SbsAt w B v T) (h0 : 0 < T.length) : ∃ g o cap, v = .slice (some ⟨g, o, none⟩) T.length cap ∧ T.length ≤ cap ∧ cap ≤ maxLen ∧ g < B ∧ (∀ i, i < T.length → SbIn w g (o + i * 2) (sb T i)) ∧ ∀ i, i < T.length → (sb T i).pat.size ≤ maxLen := by
  obtain ⟨ao, cap, hv, hc, hm, hr, hn⟩ := h
  obtain ⟨g, o, ha, hg, _⟩ := hr 0 h0
  subst ha
  refine ⟨g, o, cap, hv, hc, hm, hg, fun i hi => ?_, hn⟩
  obtain ⟨g', o', ha, _, c⟩ := hr i hi
  simp only [Option.some.injEq, Addr.mk.injEq, and_true] at ha
  obtain ⟨rfl, rfl⟩ := ha
  exact c

end Go.Proofs.YtndeikgkncfmbaaDoor
