/- Rows of nodes that grow: the model's parts while they are put together. The types that the model draws: that a draw answers a small tree in new memory, and writes into the cursor alone. -/
import Derived.Test.YtnhmleelhopjmaaGd
import Derived.Test.YtnhmleelhopjmaaGn
import Derived.Test.YtnhmleelhopjmaaGj
import Derived.Test.YtnhmleelhopjmaaGa
namespace Go.Proofs.Ytnhmleelhopjmaa
open Go.RowKit Plain Sch

/-- a row of nodes: their own parts lie in blocks from lo on, apart from the row -/
def KInv (lo b d : Nat) (l : List Tr) (vp : Value) (wr : World) : Prop :=
  ∃ (rows : List (Tr × Value)) (S : Nat → Prop), rows.map Prod.fst = l ∧ wr.ownsRow b 56 6 vp l.length (rows.flatMap fun x => trCells x.1 x.2) ∧ (∀ x ∈ rows, KidsIn d wr S x.2 x.1.kids) ∧
    (∀ g, S g → lo ≤ g ∧ g < wr.heap.size) ∧ (∀ g, vp.ownBlock = some g → ¬ S g)

theorem KInv.own {lo b d : Nat} {wr : World} {l : List Tr} {vp : Value} (h : KInv lo b d l vp wr) : ∃ xs, wr.ownsRow b 56 6 vp l.length xs := by
  obtain ⟨rows, S, _, h, _⟩ := h
  exact ⟨_, h⟩

theorem KInv.start {lo b d : Nat} {w : World} : KInv lo b d [] (.slice none 0 0) w :=
  ⟨[], fun _ => False, rfl, World.ownsRow_nil _ _ _ _, fun x hx => by simp at hx, fun g hg => hg.elim, fun g _ => id⟩

theorem KInv.kept {lo b d : Nat} {wr w' : World} {l : List Tr} {vp : Value} (h : KInv lo b d l vp wr) (hlo : lo ≤ b) (hs : wr.heap.size ≤ w'.heap.size) (hb : ∀ g, lo ≤ g → g < wr.heap.size → w'.heap[g]? = wr.heap[g]?) : KInv lo b d l vp w' := by
  obtain ⟨rows, S, h1, h2, h3, h4, h5⟩ := h
  refine ⟨rows, S, h1, own_keptB h2 (fun g hg => ?_), fun x hx => (h3 x hx).kept (fun g hg => hb g (h4 g hg).1 (h4 g hg).2) (fun _ h => h), fun g hg => ?_, h5⟩
  · have := h2.lt g hg
    exact hb g (by omega) this.2
  · have := h4 g hg; omega

theorem KInv.grown {lo b d c : Nat} {wr w' : World} {l : List Tr} {vp : Value} (h : KInv lo b d l vp wr) (hlo : lo ≤ b) (hg : wr.grownBy w' (some c)) (hc : c < lo) : KInv lo b d l vp w' :=
  h.kept hlo hg.size (fun g h1 h2 => hg.block g h2 (by simp; omega))

theorem KInv.kids {lo b d : Nat} {wr : World} {l : List Tr} {vp : Value} (h : KInv lo b d l vp wr) (hlo : lo ≤ b) : KidsIn (d + 1) wr (fun g => lo ≤ g ∧ g < wr.heap.size) vp l := by
  obtain ⟨rows, S, rfl, h2, h3, h4, h5⟩ := h
  exact kids_of_rows h2 (by simp) h3 h4 (fun g hg => by have := h2.lt g hg; omega)

/-- one more node -/
theorem KInv.step {lo b d : Nat} {wr w9 : World} {l : List Tr} {vp : Value} {t : Tr} {c : Value} {g9 cap9 : Nat} {xs cs : List Value} {S2 : Nat → Prop}
    (h : KInv lo b d l vp wr) (hk : KidsIn d wr S2 c t.kids) (hS2 : ∀ g, S2 g → lo ≤ g ∧ g < wr.heap.size ∧ vp.ownBlock ≠ some g)
    (hown : wr.ownsRow b 56 6 vp l.length xs) (hcs : cs = trCells t c) (hown9 : w9.ownsRow b 56 6 (.slice (some ⟨g9, 0, none⟩) (l.length + 1) cap9) (l.length + 1) (xs ++ cs))
    (hgrow9 : wr.grownBy w9 vp.ownBlock) (hat9 : vp.ownBlock = some g9 ∨ wr.heap.size ≤ g9) : KInv lo b d (l ++ [t]) (.slice (some ⟨g9, 0, none⟩) (l.length + 1) cap9) w9 := by
  obtain ⟨rows, S, h1, h2, h3, h4, h5⟩ := h
  have hx : xs = rows.flatMap fun x => trCells x.1 x.2 := by
    have a := hown.2
    have b' := h2.2
    rcases a with ⟨hv, h0⟩ | ⟨g, cap, cur, hv, _, hg, _, _, _, ht⟩
    · have l1 := hown.1
      have l2 := h2.1
      rw [h0, Nat.zero_mul] at l1 l2
      rw [List.eq_nil_of_length_eq_zero l1, List.eq_nil_of_length_eq_zero l2]
    · rcases b' with ⟨hv', h0⟩ | ⟨g', cap', cur', hv', _, hg', _, _, _, ht'⟩
      · rw [hv] at hv'; cases hv'
      · rw [hv] at hv'
        cases hv'
        rw [hg] at hg'
        cases hg'
        rw [← ht, ← ht']
  subst hx
  subst hcs
  have hs9 := hgrow9.size
  have blk : ∀ g, g < wr.heap.size → some g ≠ vp.ownBlock → w9.heap[g]? = wr.heap[g]? := fun g h1 h2 => hgrow9.block g h1 h2
  refine ⟨rows ++ [(t, c)], fun g => S g ∨ S2 g, by rw [List.map_append, h1]; rfl, ?_, ?_, ?_, ?_⟩
  · rw [List.length_append, List.length_singleton, List.flatMap_append]
    simpa using hown9
  · intro x hx
    rcases List.mem_append.1 hx with hx | hx
    · refine (h3 x hx).kept (fun g hg => ?_) (fun g hg => .inl hg)
      have a := h4 g hg
      exact blk g a.2 (fun e => h5 g e.symm hg)
    · simp at hx
      subst hx
      refine hk.kept (fun g hg => ?_) (fun g hg => .inr hg)
      have a := hS2 g hg
      exact blk g a.2.1 (fun e => a.2.2 e.symm)
  · intro g hg
    rcases hg with hg | hg
    · have := h4 g hg; omega
    · have := hS2 g hg; omega
  · intro g hg
    simp [Value.ownBlock] at hg
    subst hg
    rintro (h | h)
    · rcases hat9 with h9 | h9
      · exact h5 _ h9 h
      · have := h4 _ h; omega
    · have a := hS2 _ h
      rcases hat9 with h9 | h9
      · exact a.2.2 h9
      · omega

end Go.Proofs.Ytnhmleelhopjmaa

namespace Go.Proofs.Ytnhmleelhopjmaa
open Go.RowKit Plain Sch

/-- six cells that may be written -/
def Six (w : World) (b : Nat) (v0 v1 v2 v3 v4 v5 : Value) : Prop :=
  (w.cell? ⟨b, 0, none⟩ = some v0 ∧ w.cell? ⟨b, 1, none⟩ = some v1 ∧ w.cell? ⟨b, 2, none⟩ = some v2 ∧ w.cell? ⟨b, 3, none⟩ = some v3 ∧ w.cell? ⟨b, 4, none⟩ = some v4 ∧ w.cell? ⟨b, 5, none⟩ = some v5) ∧
  w.frozen? ⟨b, 0, none⟩ = false ∧ w.frozen? ⟨b, 1, none⟩ = false ∧ w.frozen? ⟨b, 2, none⟩ = false ∧ w.frozen? ⟨b, 3, none⟩ = false ∧ w.frozen? ⟨b, 4, none⟩ = false ∧ w.frozen? ⟨b, 5, none⟩ = false

theorem Six.kept {w w' : World} {b : Nat} {v0 v1 v2 v3 v4 v5 : Value} (h : Six w b v0 v1 v2 v3 v4 v5) (hb : w'.heap[b]? = w.heap[b]?) : Six w' b v0 v1 v2 v3 v4 v5 := by
  obtain ⟨⟨c0, c1, c2, c3, c4, c5⟩, z0, z1, z2, z3, z4, z5⟩ := h
  have hc : ∀ j, w'.cell? ⟨b, j, none⟩ = w.cell? ⟨b, j, none⟩ := fun j => World.cell?_of_block (w := w) hb
  have hf : ∀ j, w'.frozen? ⟨b, j, none⟩ = w.frozen? ⟨b, j, none⟩ := fun j => World.frozen?_of_block (w := w) hb
  exact ⟨⟨(hc 0).trans c0, (hc 1).trans c1, (hc 2).trans c2, (hc 3).trans c3, (hc 4).trans c4, (hc 5).trans c5⟩, (hf 0).trans z0, (hf 1).trans z1, (hf 2).trans z2, (hf 3).trans z3, (hf 4).trans z4, (hf 5).trans z5⟩

theorem grown_set {w w1 : World} {row : Option Nat} (h : w.grownBy w1 row) {a : Addr} (ha : w.heap.size ≤ a.block) (v : Value) : w.grownBy (w1.setCell a v) row :=
  ⟨h.os, h.tape, h.output, by rw [World.size_setCell]; exact h.size, fun j hj hne => by rw [Below.heap_setCell _ _ _ _ (by omega)]; exact h.block j hj hne⟩

theorem grown_alloc {w w1 : World} {row : Option Nat} (h : w.grownBy w1 row) (o : Obj) : w.grownBy (w1.alloc o) row :=
  ⟨h.os, h.tape, h.output, by have := h.size; simp; omega, fun j hj hne => by rw [Below.heap_alloc _ _ _ (by have := h.size; omega)]; exact h.block j hj hne⟩

theorem KidsIn.up {w : World} {S : Nat → Prop} : ∀ {d : Nat} {c : Value} {l : List Tr}, KidsIn d w S c l → KidsIn (d + 1) w S c l
  | 0, c, l, h => by
    obtain ⟨ao, cap, rfl, h1, rfl⟩ := h
    exact ⟨ao, cap, rfl, by simp, h1, fun i t hi => by simp at hi⟩
  | d + 1, c, l, h => by
    obtain ⟨ao, cap, hc, h1, h2, h3⟩ := h
    refine ⟨ao, cap, hc, h1, h2, fun i t hi => ?_⟩
    obtain ⟨g, o, c', ha, hg, hn, hk⟩ := h3 i t hi
    exact ⟨g, o, c', ha, hg, hn, KidsIn.up hk⟩

def szT : Nat → Nat
  | 0 => 1
  | d + 1 => 1 + 5 * szT d
def stT : Nat → Nat
  | 0 => 4
  | d + 1 => 24 + 5 * stT d

theorem szT_pos (d : Nat) : 1 ≤ szT d := by cases d <;> simp [szT]

/-- what a draw of a type answers -/
def TypR (b m D : Nat) (zz ss : Nat) (w : World) (e : Ending) (w' : World) : Prop :=
  ∃ (t : Tr) (ac : Option Addr) (lc cc : Nat), e = .returned (tv t ac lc cc) ∧ KidsIn D w' (fun g => w.heap.size ≤ g ∧ g < w'.heap.size) (.slice ac lc cc) t.kids ∧ t.size ≤ zz ∧ NmT t ∧ Cur w' b (m + ss) ∧ w.grownBy w' (some b)

theorem nil_kids {D : Nat} {w : World} {S : Nat → Prop} : KidsIn D w S (.slice none 0 0) [] := by
  cases D with
  | zero => exact ⟨none, 0, rfl, by unfold maxLen; omega, rfl⟩
  | succ D => exact ⟨none, 0, rfl, by simp, by unfold maxLen; omega, fun i t hi => by simp at hi⟩

/-- six stores into a new block -/
def six6 (w : World) (b : Nat) (v0 v1 v2 v3 v4 v5 : Value) : World :=
  (((((w.setCell ⟨b, 0, none⟩ v0).setCell ⟨b, 1, none⟩ v1).setCell ⟨b, 2, none⟩ v2).setCell ⟨b, 3, none⟩ v3).setCell ⟨b, 4, none⟩ v4).setCell ⟨b, 5, none⟩ v5

theorem six6_block (w : World) (b : Nat) (v0 v1 v2 v3 v4 v5 : Value) (g : Nat) (h : g ≠ b) : (six6 w b v0 v1 v2 v3 v4 v5).heap[g]? = w.heap[g]? := by
  unfold six6
  repeat rw [Below.heap_setCell _ _ _ _ (by show g ≠ b; exact h)]

theorem six6_size (w : World) (b : Nat) (v0 v1 v2 v3 v4 v5 : Value) : (six6 w b v0 v1 v2 v3 v4 v5).heap.size = w.heap.size := by
  unfold six6; simp

theorem six6_grown {w w1 : World} {row : Option Nat} (h : w.grownBy w1 row) {b : Nat} (hb : w.heap.size ≤ b) (v0 v1 v2 v3 v4 v5 : Value) : w.grownBy (six6 w1 b v0 v1 v2 v3 v4 v5) row := by
  unfold six6
  exact grown_set (grown_set (grown_set (grown_set (grown_set (grown_set h hb _) hb _) hb _) hb _) hb _) hb _

theorem six6_cur {w : World} {c m b : Nat} (h : Cur w c m) (hb : c < b) (v0 v1 v2 v3 v4 v5 : Value) : Cur (six6 w b v0 v1 v2 v3 v4 v5) c m := by
  have hle : c + 1 ≤ b := hb
  exact h.below ((((((((Below.refl _ w).setCell (p := ⟨b, 0, none⟩) hle v0).setCell (p := ⟨b, 1, none⟩) hle v1).setCell (p := ⟨b, 2, none⟩) hle v2).setCell (p := ⟨b, 3, none⟩) hle v3).setCell (p := ⟨b, 4, none⟩) hle v4).setCell (p := ⟨b, 5, none⟩) hle v5))

end Go.Proofs.Ytnhmleelhopjmaa
