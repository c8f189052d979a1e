/- Rows of nodes that grow: the model's parts while they are put together. -/
import Derived.Test.YtjaklpibjijkkaaSchK
import Derived.Test.YtjaklpibjijkkaaTvA
namespace Go.Proofs.Ytjaklpibjijkkaa
open Go.RowKit Plain Sch

/-- a row of nodes: their own parts lie in blocks from lo on, apart from the row -/
def KInv (lo b d : Nat) (l : List Tr) (vp : Value) (wr : World) : Prop :=
  ∃ (rows : List (Tr × Value)) (S : Nat → Prop), rows.map Prod.fst = l ∧ wr.ownsRow b 57 6 vp l.length (rows.flatMap fun x => trCells x.1 x.2) ∧ (∀ x ∈ rows, KidsIn d wr S x.2 x.1.kids) ∧
    (∀ g, S g → lo ≤ g ∧ g < wr.heap.size) ∧ (∀ g, vp.ownBlock = some g → ¬ S g)

theorem KInv.own {lo b d : Nat} {wr : World} {l : List Tr} {vp : Value} (h : KInv lo b d l vp wr) : ∃ xs, wr.ownsRow b 57 6 vp l.length xs := by
  obtain ⟨rows, S, _, h, _⟩ := h
  exact ⟨_, h⟩

theorem KInv.start {lo b d : Nat} {w : World} : KInv lo b d [] (.slice none 0 0) w :=
  ⟨[], fun _ => False, rfl, World.ownsRow_nil _ _ _ _, fun x hx => by simp at hx, fun g hg => hg.elim, fun g _ => id⟩

theorem KInv.kept {lo b d : Nat} {wr w' : World} {l : List Tr} {vp : Value} (h : KInv lo b d l vp wr) (hlo : lo ≤ b) (hs : wr.heap.size ≤ w'.heap.size) (hb : ∀ g, lo ≤ g → g < wr.heap.size → w'.heap[g]? = wr.heap[g]?) : KInv lo b d l vp w' := by
  obtain ⟨rows, S, h1, h2, h3, h4, h5⟩ := h
  refine ⟨rows, S, h1, own_keptB h2 (fun g hg => ?_), fun x hx => (h3 x hx).kept (fun g hg => hb g (h4 g hg).1 (h4 g hg).2) (fun _ h => h), fun g hg => ?_, h5⟩
  · have := h2.lt g hg
    exact hb g (by omega) this.2
  · have := h4 g hg; omega

theorem KInv.grown {lo b d c : Nat} {wr w' : World} {l : List Tr} {vp : Value} (h : KInv lo b d l vp wr) (hlo : lo ≤ b) (hg : wr.grownBy w' (some c)) (hc : c < lo) : KInv lo b d l vp w' :=
  h.kept hlo hg.size (fun g h1 h2 => hg.block g h2 (by simp; omega))

theorem KInv.kids {lo b d : Nat} {wr : World} {l : List Tr} {vp : Value} (h : KInv lo b d l vp wr) (hlo : lo ≤ b) : KidsIn (d + 1) wr (fun g => lo ≤ g ∧ g < wr.heap.size) vp l := by
  obtain ⟨rows, S, rfl, h2, h3, h4, h5⟩ := h
  exact kids_of_rows h2 (by simp) h3 h4 (fun g hg => by have := h2.lt g hg; omega)

/-- one more node -/
theorem KInv.step {lo b d : Nat} {wr w9 : World} {l : List Tr} {vp : Value} {t : Tr} {c : Value} {g9 cap9 : Nat} {xs cs : List Value} {S2 : Nat → Prop}
    (h : KInv lo b d l vp wr) (hk : KidsIn d wr S2 c t.kids) (hS2 : ∀ g, S2 g → lo ≤ g ∧ g < wr.heap.size ∧ vp.ownBlock ≠ some g)
    (hown : wr.ownsRow b 57 6 vp l.length xs) (hcs : cs = trCells t c) (hown9 : w9.ownsRow b 57 6 (.slice (some ⟨g9, 0, none⟩) (l.length + 1) cap9) (l.length + 1) (xs ++ cs))
    (hgrow9 : wr.grownBy w9 vp.ownBlock) (hat9 : vp.ownBlock = some g9 ∨ wr.heap.size ≤ g9) : KInv lo b d (l ++ [t]) (.slice (some ⟨g9, 0, none⟩) (l.length + 1) cap9) w9 := by
  obtain ⟨rows, S, h1, h2, h3, h4, h5⟩ := h
  have hx : xs = rows.flatMap fun x => trCells x.1 x.2 := by
    have a := hown.2
    have b' := h2.2
    rcases a with ⟨hv, h0⟩ | ⟨g, cap, cur, hv, _, hg, _, _, _, ht⟩
    · have l1 := hown.1
      have l2 := h2.1
      rw [h0, Nat.zero_mul] at l1 l2
      rw [List.eq_nil_of_length_eq_zero l1, List.eq_nil_of_length_eq_zero l2]
    · rcases b' with ⟨hv', h0⟩ | ⟨g', cap', cur', hv', _, hg', _, _, _, ht'⟩
      · rw [hv] at hv'; cases hv'
      · rw [hv] at hv'
        cases hv'
        rw [hg] at hg'
        cases hg'
        rw [← ht, ← ht']
  subst hx
  subst hcs
  have hs9 := hgrow9.size
  have blk : ∀ g, g < wr.heap.size → some g ≠ vp.ownBlock → w9.heap[g]? = wr.heap[g]? := fun g h1 h2 => hgrow9.block g h1 h2
  refine ⟨rows ++ [(t, c)], fun g => S g ∨ S2 g, by rw [List.map_append, h1]; rfl, ?_, ?_, ?_, ?_⟩
  · rw [List.length_append, List.length_singleton, List.flatMap_append]
    simpa using hown9
  · intro x hx
    rcases List.mem_append.1 hx with hx | hx
    · refine (h3 x hx).kept (fun g hg => ?_) (fun g hg => .inl hg)
      have a := h4 g hg
      exact blk g a.2 (fun e => h5 g e.symm hg)
    · simp at hx
      subst hx
      refine hk.kept (fun g hg => ?_) (fun g hg => .inr hg)
      have a := hS2 g hg
      exact blk g a.2.1 (fun e => a.2.2 e.symm)
  · intro g hg
    rcases hg with hg | hg
    · have := h4 g hg; omega
    · have := hS2 g hg; omega
  · intro g hg
    simp [Value.ownBlock] at hg
    subst hg
    rintro (h | h)
    · rcases hat9 with h9 | h9
      · exact h5 _ h9 h
      · have := h4 _ h; omega
    · have a := hS2 _ h
      rcases hat9 with h9 | h9
      · exact a.2.2 h9
      · omega

end Go.Proofs.Ytjaklpibjijkkaa
