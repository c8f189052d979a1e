/- Nodes in memory: rows of nodes, and the model's trees of values. -/
import Derived.Test.YtpajdmhakdbkjaaGj
import Derived.Test.YtpajdmhakdbkjaaGd
namespace Go.Proofs.Ytpajdmhakdbkjaa
open Go.RowKit Plain Sch

/-- the cells of a node: number, text, no, up, many -/
def Sch.Ty.ncells (t : Ty) : List Value := [.int .i64 t.most, .string t.name, .int .i64 t.no, .int .i64 t.up, .bool t.must]

theorem Try.infoNd : (Try.prog.info? 85).map (fun i => (i.zero, i.size, i.bytes)) = some (some (.agg #[.int .i64 0, .string ⟨#[]⟩, .int .i64 0, .int .i64 0, .bool false]), 5, 48) := by kernel_rfl

theorem Try.infoV : (Try.prog.info? 78).map (fun i => (i.zero, i.size, i.bytes)) = some (some (.agg #[.int .i64 0, .string ⟨#[]⟩, .int .i64 0, .bool false, .slice none 0 0]), 5, 64) := by kernel_rfl

theorem flat5_len (l : List Ty) : (l.flatMap Ty.ncells).length = l.length * 5 := by
  induction l with
  | nil => rfl
  | cons x l ih => rw [List.flatMap_cons, List.length_append, ih]; simp [Ty.ncells]; omega

theorem one5N {k : Int} {nm : ByteArray} {no : Int} {m : Bool} {up : Int} : ∀ u ∈ [Value.int .i64 k, .string nm, .int .i64 no, .int .i64 up, .bool m], u.oneCell' = true := by
  intro u hu
  simp at hu
  rcases hu with rfl | rfl | rfl | rfl | rfl <;> rfl

def NdRow (w : World) (B : Nat) (rv : Value) (L : List Ty) : Prop := w.ownsRow B 85 5 rv L.length (L.flatMap Ty.ncells)

/-- the five cells of a value -/
def VdIn (w : World) (g o : Nat) (t : Tr) (c : Value) : Prop :=
  w.cell? ⟨g, o, none⟩ = some (.int .i64 t.most) ∧ w.cell? ⟨g, o + 1, none⟩ = some (.string t.name) ∧ w.cell? ⟨g, o + 2, none⟩ = some (.int .i64 t.no) ∧ w.cell? ⟨g, o + 3, none⟩ = some (.bool t.must) ∧ w.cell? ⟨g, o + 4, none⟩ = some c

/-- the parts of a value, d steps deep at most, as a slice: in blocks of S alone -/
def VKids : Nat → World → (Nat → Prop) → Value → List Tr → Prop
  | 0, _, _, c, l => ∃ ao cap, c = .slice ao 0 cap ∧ cap ≤ maxLen ∧ l = []
  | d + 1, w, S, c, l => ∃ ao cap, c = .slice ao l.length cap ∧ l.length ≤ cap ∧ cap ≤ maxLen ∧ ∀ i t, l[i]? = some t → ∃ g o c', ao = some ⟨g, o, none⟩ ∧ S g ∧ VdIn w g (o + i * 5) t c' ∧ VKids d w S c' t.kids

theorem VdIn.kept {w w' : World} {g o : Nat} {t : Tr} {c : Value} (h : VdIn w g o t c) (hb : w'.heap[g]? = w.heap[g]?) : VdIn w' g o t c := by
  obtain ⟨c0, c1, c2, c3, c4⟩ := h
  exact ⟨(cell_blockEq hb).trans c0, (cell_blockEq hb).trans c1, (cell_blockEq hb).trans c2, (cell_blockEq hb).trans c3, (cell_blockEq hb).trans c4⟩

theorem VKids.kept {w w' : World} {S S' : Nat → Prop} (hS : ∀ g, S g → w'.heap[g]? = w.heap[g]?) (hS' : ∀ g, S g → S' g) : ∀ {d : Nat} {c : Value} {l : List Tr}, VKids d w S c l → VKids d w' S' c l
  | 0, _, _, h => h
  | d + 1, c, l, h => by
    obtain ⟨ao, cap, hc, h1, h2, h3⟩ := h
    refine ⟨ao, cap, hc, h1, h2, fun i t hi => ?_⟩
    obtain ⟨g, o, c', ha, hg, hn, hk⟩ := h3 i t hi
    exact ⟨g, o, c', ha, hS' g hg, hn.kept (hS g hg), VKids.kept hS hS' hk⟩

theorem VKids.form {d : Nat} {w : World} {S : Nat → Prop} {c : Value} {l : List Tr} (h : VKids d w S c l) : ∃ ao cap, c = .slice ao l.length cap ∧ cap ≤ maxLen := by
  cases d with
  | zero => obtain ⟨ao, cap, hc, h1, rfl⟩ := h; exact ⟨ao, cap, hc, h1⟩
  | succ d => obtain ⟨ao, cap, hc, _, h1, _⟩ := h; exact ⟨ao, cap, hc, h1⟩

def vv (t : Tr) (ac : Option Addr) (lc cc : Nat) : Value := .agg #[.int .i64 t.most, .string t.name, .int .i64 t.no, .bool t.must, .slice ac lc cc]

end Go.Proofs.Ytpajdmhakdbkjaa
