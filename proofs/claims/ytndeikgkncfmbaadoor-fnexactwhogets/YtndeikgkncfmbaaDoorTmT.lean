/- How the model's trees of terms lie in memory. -/
import Derived.Test.YtndeikgkncfmbaaDoorTmM
import Derived.Test.YtndeikgkncfmbaaDoorGd
namespace Go.Proofs.YtndeikgkncfmbaaDoor
open Go.RowKit Plain Sch Trm

def tdCells (t : TT) (c : Value) : List Value := [.int .i64 t.v, .string t.name, c]
def tdVal (t : TT) (c : Value) : Value := .agg #[.int .i64 t.v, .string t.name, c]

/-- the three cells of a node -/
def TdIn (w : World) (g o : Nat) (v : Int) (name : ByteArray) (c : Value) : Prop :=
  w.cell? ⟨g, o, none⟩ = some (.int .i64 v) ∧ w.cell? ⟨g, o + 1, none⟩ = some (.string name) ∧ w.cell? ⟨g, o + 2, none⟩ = some c

/-- the terms of a term, d steps deep at most, as a slice: in blocks of S alone -/
def TKids : Nat → World → (Nat → Prop) → Value → List TT → Prop
  | 0, _, _, c, l => ∃ ao cap, c = .slice ao 0 cap ∧ cap ≤ maxLen ∧ l = []
  | d + 1, w, S, c, l => ∃ ao cap, c = .slice ao l.length cap ∧ l.length ≤ cap ∧ cap ≤ maxLen ∧ ∀ i t, l[i]? = some t → ∃ g o c', ao = some ⟨g, o, none⟩ ∧ S g ∧ TdIn w g (o + i * 3) t.v t.name c' ∧ TKids d w S c' t.kids

theorem TdIn.kept {w w' : World} {g o : Nat} {v : Int} {name : ByteArray} {c : Value} (h : TdIn w g o v name c) (hb : w'.heap[g]? = w.heap[g]?) : TdIn w' g o v name c := by
  obtain ⟨c0, c1, c2⟩ := h
  exact ⟨(cell_blockEq hb).trans c0, (cell_blockEq hb).trans c1, (cell_blockEq hb).trans c2⟩

theorem TKids.kept {w w' : World} {S S' : Nat → Prop} (hS : ∀ g, S g → w'.heap[g]? = w.heap[g]?) (hS' : ∀ g, S g → S' g) : ∀ {d : Nat} {c : Value} {l : List TT}, TKids d w S c l → TKids d w' S' c l
  | 0, _, _, h => h
  | d + 1, c, l, h => by
    obtain ⟨ao, cap, hc, h1, h2, h3⟩ := h
    refine ⟨ao, cap, hc, h1, h2, fun i t hi => ?_⟩
    obtain ⟨g, o, c', ha, hg, hn, hk⟩ := h3 i t hi
    exact ⟨g, o, c', ha, hS' g hg, hn.kept (hS g hg), TKids.kept hS hS' hk⟩

theorem TKids.form {d : Nat} {w : World} {S : Nat → Prop} {c : Value} {l : List TT} (h : TKids d w S c l) : ∃ ao cap, c = .slice ao l.length cap ∧ cap ≤ maxLen := by
  cases d with
  | zero => obtain ⟨ao, cap, hc, h1, rfl⟩ := h; exact ⟨ao, cap, hc, h1⟩
  | succ d => obtain ⟨ao, cap, hc, _, h1, _⟩ := h; exact ⟨ao, cap, hc, h1⟩

theorem TKids.none (d : Nat) (w : World) (S : Nat → Prop) : TKids d w S (.slice .none 0 0) [] := by
  cases d with
  | zero => exact ⟨.none, 0, rfl, by unfold maxLen; omega, rfl⟩
  | succ d => exact ⟨.none, 0, rfl, by simp, by unfold maxLen; omega, fun i t hi => by simp at hi⟩

theorem one3T {k : Int} {nm : ByteArray} {ao : Option Addr} {l cp : Nat} : ∀ u ∈ [Value.int .i64 k, .string nm, .slice ao l cp], u.oneCell' = true := by
  intro u hu
  simp at hu
  rcases hu with rfl | rfl | rfl <;> rfl

theorem flat3 {α : Type} (f : α → List Value) (hf : ∀ x, (f x).length = 3) (l : List α) (i j : Nat) (x : α) (h : l[i]? = some x) (hj : j < 3) : (l.flatMap f)[i * 3 + j]? = (f x)[j]? := by
  induction l generalizing i with
  | nil => simp at h
  | cons a l ih =>
    rw [List.flatMap_cons]
    have ha := hf a
    cases i with
    | zero =>
      simp at h
      subst h
      rw [Nat.zero_mul, Nat.zero_add, List.getElem?_append_left (by omega)]
    | succ i =>
      simp at h
      rw [List.getElem?_append_right (by omega), ← ih i h]
      congr 1
      omega

end Go.Proofs.YtndeikgkncfmbaaDoor
