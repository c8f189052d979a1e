/- The types that the model draws: that a draw answers a small tree in new memory, and writes into the cursor alone. -/
import Derived.Test.YtjaklpibjijkkaaCurE
import Derived.Test.YtjaklpibjijkkaaFlD
import Derived.Test.YtjaklpibjijkkaaFltC
namespace Go.Proofs.Ytjaklpibjijkkaa
open Go.RowKit Plain Sch

/-- six cells that may be written -/
def Six (w : World) (b : Nat) (v0 v1 v2 v3 v4 v5 : Value) : Prop :=
  (w.cell? ⟨b, 0, none⟩ = some v0 ∧ w.cell? ⟨b, 1, none⟩ = some v1 ∧ w.cell? ⟨b, 2, none⟩ = some v2 ∧ w.cell? ⟨b, 3, none⟩ = some v3 ∧ w.cell? ⟨b, 4, none⟩ = some v4 ∧ w.cell? ⟨b, 5, none⟩ = some v5) ∧
  w.frozen? ⟨b, 0, none⟩ = false ∧ w.frozen? ⟨b, 1, none⟩ = false ∧ w.frozen? ⟨b, 2, none⟩ = false ∧ w.frozen? ⟨b, 3, none⟩ = false ∧ w.frozen? ⟨b, 4, none⟩ = false ∧ w.frozen? ⟨b, 5, none⟩ = false

theorem Six.kept {w w' : World} {b : Nat} {v0 v1 v2 v3 v4 v5 : Value} (h : Six w b v0 v1 v2 v3 v4 v5) (hb : w'.heap[b]? = w.heap[b]?) : Six w' b v0 v1 v2 v3 v4 v5 := by
  obtain ⟨⟨c0, c1, c2, c3, c4, c5⟩, z0, z1, z2, z3, z4, z5⟩ := h
  have hc : ∀ j, w'.cell? ⟨b, j, none⟩ = w.cell? ⟨b, j, none⟩ := fun j => World.cell?_of_block (w := w) hb
  have hf : ∀ j, w'.frozen? ⟨b, j, none⟩ = w.frozen? ⟨b, j, none⟩ := fun j => World.frozen?_of_block (w := w) hb
  exact ⟨⟨(hc 0).trans c0, (hc 1).trans c1, (hc 2).trans c2, (hc 3).trans c3, (hc 4).trans c4, (hc 5).trans c5⟩, (hf 0).trans z0, (hf 1).trans z1, (hf 2).trans z2, (hf 3).trans z3, (hf 4).trans z4, (hf 5).trans z5⟩

theorem grown_set {w w1 : World} {row : Option Nat} (h : w.grownBy w1 row) {a : Addr} (ha : w.heap.size ≤ a.block) (v : Value) : w.grownBy (w1.setCell a v) row :=
  ⟨h.os, h.tape, h.output, by rw [World.size_setCell]; exact h.size, fun j hj hne => by rw [Below.heap_setCell _ _ _ _ (by omega)]; exact h.block j hj hne⟩

theorem grown_alloc {w w1 : World} {row : Option Nat} (h : w.grownBy w1 row) (o : Obj) : w.grownBy (w1.alloc o) row :=
  ⟨h.os, h.tape, h.output, by have := h.size; simp; omega, fun j hj hne => by rw [Below.heap_alloc _ _ _ (by have := h.size; omega)]; exact h.block j hj hne⟩

theorem KidsIn.up {w : World} {S : Nat → Prop} : ∀ {d : Nat} {c : Value} {l : List Tr}, KidsIn d w S c l → KidsIn (d + 1) w S c l
  | 0, c, l, h => by
    obtain ⟨ao, cap, rfl, h1, rfl⟩ := h
    exact ⟨ao, cap, rfl, by simp, h1, fun i t hi => by simp at hi⟩
  | d + 1, c, l, h => by
    obtain ⟨ao, cap, hc, h1, h2, h3⟩ := h
    refine ⟨ao, cap, hc, h1, h2, fun i t hi => ?_⟩
    obtain ⟨g, o, c', ha, hg, hn, hk⟩ := h3 i t hi
    exact ⟨g, o, c', ha, hg, hn, KidsIn.up hk⟩

def szT : Nat → Nat
  | 0 => 1
  | d + 1 => 1 + 5 * szT d
def stT : Nat → Nat
  | 0 => 4
  | d + 1 => 24 + 5 * stT d

theorem szT_pos (d : Nat) : 1 ≤ szT d := by cases d <;> simp [szT]

/-- what a draw of a type answers -/
def TypR (b m D : Nat) (zz ss : Nat) (w : World) (e : Ending) (w' : World) : Prop :=
  ∃ (t : Tr) (ac : Option Addr) (lc cc : Nat), e = .returned (tv t ac lc cc) ∧ KidsIn D w' (fun g => w.heap.size ≤ g ∧ g < w'.heap.size) (.slice ac lc cc) t.kids ∧ t.size ≤ zz ∧ NmT t ∧ Cur w' b (m + ss) ∧ w.grownBy w' (some b)

theorem nil_kids {D : Nat} {w : World} {S : Nat → Prop} : KidsIn D w S (.slice none 0 0) [] := by
  cases D with
  | zero => exact ⟨none, 0, rfl, by unfold maxLen; omega, rfl⟩
  | succ D => exact ⟨none, 0, rfl, by simp, by unfold maxLen; omega, fun i t hi => by simp at hi⟩

/-- six stores into a new block -/
def six6 (w : World) (b : Nat) (v0 v1 v2 v3 v4 v5 : Value) : World :=
  (((((w.setCell ⟨b, 0, none⟩ v0).setCell ⟨b, 1, none⟩ v1).setCell ⟨b, 2, none⟩ v2).setCell ⟨b, 3, none⟩ v3).setCell ⟨b, 4, none⟩ v4).setCell ⟨b, 5, none⟩ v5

theorem six6_block (w : World) (b : Nat) (v0 v1 v2 v3 v4 v5 : Value) (g : Nat) (h : g ≠ b) : (six6 w b v0 v1 v2 v3 v4 v5).heap[g]? = w.heap[g]? := by
  unfold six6
  repeat rw [Below.heap_setCell _ _ _ _ (by show g ≠ b; exact h)]

theorem six6_size (w : World) (b : Nat) (v0 v1 v2 v3 v4 v5 : Value) : (six6 w b v0 v1 v2 v3 v4 v5).heap.size = w.heap.size := by
  unfold six6; simp

theorem six6_grown {w w1 : World} {row : Option Nat} (h : w.grownBy w1 row) {b : Nat} (hb : w.heap.size ≤ b) (v0 v1 v2 v3 v4 v5 : Value) : w.grownBy (six6 w1 b v0 v1 v2 v3 v4 v5) row := by
  unfold six6
  exact grown_set (grown_set (grown_set (grown_set (grown_set (grown_set h hb _) hb _) hb _) hb _) hb _) hb _

theorem six6_cur {w : World} {c m b : Nat} (h : Cur w c m) (hb : c < b) (v0 v1 v2 v3 v4 v5 : Value) : Cur (six6 w b v0 v1 v2 v3 v4 v5) c m := by
  have hle : c + 1 ≤ b := hb
  exact h.below ((((((((Below.refl _ w).setCell (p := ⟨b, 0, none⟩) hle v0).setCell (p := ⟨b, 1, none⟩) hle v1).setCell (p := ⟨b, 2, none⟩) hle v2).setCell (p := ⟨b, 3, none⟩) hle v3).setCell (p := ⟨b, 4, none⟩) hle v4).setCell (p := ⟨b, 5, none⟩) hle v5))

end Go.Proofs.Ytjaklpibjijkkaa
