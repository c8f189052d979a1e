/- Rows of types that grow: how the world may have turned meanwhile. -/
import Derived.Test.YtjaklpibjijkkaaFltB
import Derived.Test.YtjaklpibjijkkaaSchK
import Derived.Test.YtjaklpibjijkkaaLwB
namespace Go.Proofs.Ytjaklpibjijkkaa
open Go.RowKit Plain Sch

def TyRow (w : World) (B : Nat) (rv : Value) (L : List Ty) : Prop := w.ownsRow B 65 6 rv L.length (L.flatMap Ty.cells)

/-- the row may have been written or moved; nothing else that was there has turned -/
def Grow (w w' : World) (rv rv' : Value) : Prop := w.grownBy w' rv.ownBlock ∧ (rv'.ownBlock = rv.ownBlock ∨ ∀ g, rv'.ownBlock = some g → w.heap.size ≤ g)

theorem Grow.refl (w : World) (rv : Value) : Grow w w rv rv := ⟨⟨rfl, rfl, rfl, Nat.le_refl _, fun _ _ _ => rfl⟩, .inl rfl⟩

theorem Grow.trans {w1 w2 w3 : World} {r1 r2 r3 : Value} (h : Grow w1 w2 r1 r2) (h' : Grow w2 w3 r2 r3) : Grow w1 w3 r1 r3 := by
  obtain ⟨a, b⟩ := h
  obtain ⟨a', b'⟩ := h'
  have s1 := a.size
  have s2 := a'.size
  refine ⟨⟨a'.os.trans a.os, a'.tape.trans a.tape, a'.output.trans a.output, by omega, fun j hj hne => ?_⟩, ?_⟩
  · rw [a'.block j (by omega) (fun e => ?_), a.block j hj hne]
    rcases b with b | b
    · rw [b] at e; exact hne e
    · have := b j e.symm; omega
  · rcases b' with b' | b'
    · rcases b with b | b
      · exact .inl (b'.trans b)
      · exact .inr (fun g hg => b g (by rw [← b']; exact hg))
    · exact .inr (fun g hg => by have := b' g hg; omega)

theorem Grow.below {w w' : World} {rv : Value} (h : Below w.heap.size w w') : Grow w w' rv rv := ⟨⟨h.os, h.tape, h.output, h.size, fun j hj _ => h.block j hj⟩, .inl rfl⟩

theorem Grow.size {w w' : World} {r r' : Value} (h : Grow w w' r r') : w.heap.size ≤ w'.heap.size := h.1.size

theorem Grow.block {w w' : World} {r r' : Value} (h : Grow w w' r r') {g : Nat} (hg : g < w.heap.size) (hne : r.ownBlock ≠ some g) : w'.heap[g]? = w.heap[g]? := h.1.block g hg (fun e => hne e.symm)

/-- a row that is new, from a row that was not there yet -/
theorem Grow.toBelow {w w' : World} {r' : Value} (h : Grow w w' (.slice none 0 0) r') : Below w.heap.size w w' := ⟨h.1.os, h.1.tape, h.1.output, h.1.size, fun j hj => h.1.block j hj (fun e => by simp [Value.ownBlock] at e)⟩

theorem Grow.apart {w w' : World} {r r' : Value} (h : Grow w w' r r') {S : Nat → Prop} (hS : ∀ g, S g → g < w.heap.size) (hr : ∀ g, r.ownBlock = some g → ¬ S g) : ∀ g, r'.ownBlock = some g → ¬ S g := by
  intro g hg hs
  rcases h.2 with e | e
  · exact hr g (by rw [← e]; exact hg) hs
  · have := e g hg; have := hS g hs; omega

theorem ownSlice {w : World} {B e size n : Nat} {v : Value} {xs : List Value} (h : w.ownsRow B e size v n xs) : ∃ ao cap, v = Value.slice ao n cap ∧ n ≤ cap ∧ cap ≤ maxLen := by
  rcases h.2 with ⟨rfl, rfl⟩ | ⟨g, cap, cur, rfl, _, _, h1, h2, _⟩
  · exact ⟨none, 0, rfl, by omega, by unfold maxLen; omega⟩
  · exact ⟨_, _, rfl, h1, h2⟩

theorem flatL_append : ∀ (a b : List Tr) (p s : Nat), flatL (a ++ b) p s = flatL a p s ++ flatL b p (s + sizeL a)
  | [], b, p, s => by simp [flatL, sizeL]
  | x :: a, b, p, s => by
    rw [List.cons_append, flatL, flatL, sizeL, flatL_append a b p (s + x.size), List.append_assoc, Nat.add_assoc]

theorem sizeL_append : ∀ (a b : List Tr), sizeL (a ++ b) = sizeL a + sizeL b
  | [], b => by simp [sizeL]
  | x :: a, b => by rw [List.cons_append, sizeL, sizeL, sizeL_append a b]; omega

theorem sizeL_take_le (l : List Tr) (i : Nat) : sizeL (l.take i) ≤ sizeL l := by
  have := sizeL_append (l.take i) (l.drop i)
  rw [List.take_append_drop] at this
  omega

theorem sizeL_step (l : List Tr) (i : Nat) (x : Tr) (h : l[i]? = some x) : sizeL (l.take i) + x.size ≤ sizeL l := by
  have h1 := sizeL_take_le l (i + 1)
  rw [List.take_add_one, h, sizeL_append] at h1
  simp [sizeL] at h1
  omega

/-- the row when i parts have been laid -/
def laid (L : List Ty) (t : Tr) (up : Int) (i : Nat) : List Ty := L ++ [⟨t.kind, t.name, t.no, t.must, up, t.most⟩] ++ flatL (t.kids.take i) L.length (L.length + 1)

theorem laid_len (L : List Ty) (t : Tr) (up : Int) (i : Nat) : (laid L t up i).length = L.length + 1 + sizeL (t.kids.take i) := by
  unfold laid; simp [flatL_len]; omega

theorem laid_step (L : List Ty) (t : Tr) (up : Int) (i : Nat) (x : Tr) (h : t.kids[i]? = some x) : laid L t up (i + 1) = laid L t up i ++ flat x L.length (laid L t up i).length := by
  rw [laid_len]
  unfold laid
  rw [List.take_add_one, h, flatL_append]
  simp [flatL]

theorem laid_end (L : List Ty) (t : Tr) (up : Int) : laid L t up t.kids.length = L ++ flat t up L.length := by
  unfold laid
  rw [List.take_length, flat_eq]
  simp

theorem laid_start (L : List Ty) (t : Tr) (up : Int) : laid L t up 0 = L ++ [⟨t.kind, t.name, t.no, t.must, up, t.most⟩] := by
  unfold laid; simp [flatL]

end Go.Proofs.Ytjaklpibjijkkaa
