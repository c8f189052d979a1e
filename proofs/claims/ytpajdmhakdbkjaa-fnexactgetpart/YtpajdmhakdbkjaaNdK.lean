/- Rows of values that grow: the model's parts of a value while they are put together. -/
import Derived.Test.YtpajdmhakdbkjaaNdA
namespace Go.Proofs.Ytpajdmhakdbkjaa
open Go.RowKit Plain Sch

def vCells (t : Tr) (c : Value) : List Value := [.int .i64 t.most, .string t.name, .int .i64 t.no, .bool t.must, c]

theorem one5V {k : Int} {nm : ByteArray} {no : Int} {m : Bool} {ao : Option Addr} {l cp : Nat} : ∀ u ∈ [Value.int .i64 k, .string nm, .int .i64 no, .bool m, .slice ao l cp], u.oneCell' = true := by
  intro u hu
  simp at hu
  rcases hu with rfl | rfl | rfl | rfl | rfl <;> rfl

/-- a block of five cells that may be written -/
def Five (w : World) (b : Nat) (v0 v1 v2 v3 v4 : Value) : Prop :=
  (w.cell? ⟨b, 0, none⟩ = some v0 ∧ w.cell? ⟨b, 1, none⟩ = some v1 ∧ w.cell? ⟨b, 2, none⟩ = some v2 ∧ w.cell? ⟨b, 3, none⟩ = some v3 ∧ w.cell? ⟨b, 4, none⟩ = some v4) ∧
  w.frozen? ⟨b, 0, none⟩ = false ∧ w.frozen? ⟨b, 1, none⟩ = false ∧ w.frozen? ⟨b, 2, none⟩ = false ∧ w.frozen? ⟨b, 3, none⟩ = false ∧ w.frozen? ⟨b, 4, none⟩ = false

theorem Five.kept {w w' : World} {b : Nat} {v0 v1 v2 v3 v4 : Value} (h : Five w b v0 v1 v2 v3 v4) (hb : w'.heap[b]? = w.heap[b]?) : Five w' b v0 v1 v2 v3 v4 := by
  obtain ⟨⟨c0, c1, c2, c3, c4⟩, z0, z1, z2, z3, z4⟩ := h
  have hc : ∀ j, w'.cell? ⟨b, j, none⟩ = w.cell? ⟨b, j, none⟩ := fun j => World.cell?_of_block (w := w) hb
  have hf : ∀ j, w'.frozen? ⟨b, j, none⟩ = w.frozen? ⟨b, j, none⟩ := fun j => World.frozen?_of_block (w := w) hb
  exact ⟨⟨(hc 0).trans c0, (hc 1).trans c1, (hc 2).trans c2, (hc 3).trans c3, (hc 4).trans c4⟩, (hf 0).trans z0, (hf 1).trans z1, (hf 2).trans z2, (hf 3).trans z3, (hf 4).trans z4⟩

theorem Five.set4 {w : World} {b : Nat} {v0 v1 v2 v3 v4 : Value} (h : Five w b v0 v1 v2 v3 v4) (u : Value) : Five (w.setCell ⟨b, 4, none⟩ u) b v0 v1 v2 v3 u := by
  obtain ⟨⟨c0, c1, c2, c3, c4⟩, z0, z1, z2, z3, z4⟩ := h
  refine ⟨⟨?_, ?_, ?_, ?_, World.cell?_setCell_same _ _ _ c4⟩, ?_, ?_, ?_, ?_, ?_⟩
  · exact (World.cell?_setCell_other _ _ _ _ (by simp)).trans c0
  · exact (World.cell?_setCell_other _ _ _ _ (by simp)).trans c1
  · exact (World.cell?_setCell_other _ _ _ _ (by simp)).trans c2
  · exact (World.cell?_setCell_other _ _ _ _ (by simp)).trans c3
  all_goals simpa using by assumption

theorem Five.set2 {w : World} {b : Nat} {v0 v1 v2 v3 v4 : Value} (h : Five w b v0 v1 v2 v3 v4) (u : Value) : Five (w.setCell ⟨b, 2, none⟩ u) b v0 v1 u v3 v4 := by
  obtain ⟨⟨c0, c1, c2, c3, c4⟩, z0, z1, z2, z3, z4⟩ := h
  refine ⟨⟨?_, ?_, World.cell?_setCell_same _ _ _ c2, ?_, ?_⟩, ?_, ?_, ?_, ?_, ?_⟩
  · exact (World.cell?_setCell_other _ _ _ _ (by simp)).trans c0
  · exact (World.cell?_setCell_other _ _ _ _ (by simp)).trans c1
  · exact (World.cell?_setCell_other _ _ _ _ (by simp)).trans c3
  · exact (World.cell?_setCell_other _ _ _ _ (by simp)).trans c4
  all_goals simpa using by assumption

theorem flat5 {α : Type} (F : α → List Value) (hF : ∀ x, (F x).length = 5) (l : List α) (i j : Nat) (x : α) (h : l[i]? = some x) (hj : j < 5) : (l.flatMap F)[i * 5 + j]? = (F x)[j]? := by
  induction l generalizing i with
  | nil => simp at h
  | cons a l ih =>
    rw [List.flatMap_cons]
    have ha := hF a
    cases i with
    | zero =>
      simp at h; subst h
      rw [Nat.zero_mul, Nat.zero_add, List.getElem?_append_left (by omega)]
    | succ i =>
      simp at h
      rw [List.getElem?_append_right (by omega), ← ih i h]
      congr 1
      omega

theorem vkids_of_rows {f : Nat} {w : World} {B n : Nat} {kv : Value} {rows : List (Tr × Value)} {S S' : Nat → Prop} (hown : w.ownsRow B 78 5 kv n (rows.flatMap fun x => vCells x.1 x.2)) (hrl : rows.length = n)
    (hk : ∀ x ∈ rows, VKids f w S x.2 x.1.kids) (hS : ∀ g, S g → S' g) (hkS : ∀ g, kv.ownBlock = some g → S' g) : VKids (f + 1) w S' kv (rows.map Prod.fst) := by
  have h0 := hown
  have hlen : (rows.map Prod.fst).length = n := by simp [hrl]
  rcases hown.2 with ⟨rfl, hn0⟩ | ⟨g, cap, cur, rfl, hB, hb, hnc, hcm, _⟩
  · refine ⟨none, 0, by rw [hlen, hn0], by omega, by unfold maxLen; omega, fun i t hi => ?_⟩
    have : i < (rows.map Prod.fst).length := (List.getElem?_eq_some_iff.1 hi).1
    omega
  · refine ⟨some ⟨g, 0, none⟩, cap, by rw [hlen], by omega, hcm, fun i t hi => ?_⟩
    have hil : i < (rows.map Prod.fst).length := (List.getElem?_eq_some_iff.1 hi).1
    rw [List.getElem?_map, Option.map_eq_some_iff] at hi
    obtain ⟨x, hx, rfl⟩ := hi
    refine ⟨g, 0, x.2, rfl, hkS g rfl, ?_, (hk x (List.mem_of_getElem? hx)).kept (fun _ _ => rfl) hS⟩
    have c : ∀ j, j < 5 → w.cell? ⟨g, 0 + i * 5 + j, none⟩ = (vCells x.1 x.2)[j]? := fun j hj => by
      rw [Nat.zero_add, h0.cellAt (i * 5 + j) (by omega)]
      exact flat5 _ (fun _ => rfl) rows i j x hx hj
    exact ⟨c 0 (by omega), c 1 (by omega), c 2 (by omega), c 3 (by omega), c 4 (by omega)⟩

/-- a row of nodes: their own parts lie in blocks from lo on, apart from the row -/
def VInv (lo b d : Nat) (l : List Tr) (vp : Value) (wr : World) : Prop :=
  ∃ (rows : List (Tr × Value)) (S : Nat → Prop), rows.map Prod.fst = l ∧ wr.ownsRow b 78 5 vp l.length (rows.flatMap fun x => vCells x.1 x.2) ∧ (∀ x ∈ rows, VKids d wr S x.2 x.1.kids) ∧
    (∀ g, S g → lo ≤ g ∧ g < wr.heap.size) ∧ (∀ g, vp.ownBlock = some g → ¬ S g)

theorem VInv.own {lo b d : Nat} {wr : World} {l : List Tr} {vp : Value} (h : VInv lo b d l vp wr) : ∃ xs, wr.ownsRow b 78 5 vp l.length xs := by
  obtain ⟨rows, S, _, h, _⟩ := h
  exact ⟨_, h⟩

theorem VInv.start {lo b d : Nat} {w : World} : VInv lo b d [] (.slice none 0 0) w :=
  ⟨[], fun _ => False, rfl, World.ownsRow_nil _ _ _ _, fun x hx => by simp at hx, fun g hg => hg.elim, fun g _ => id⟩

theorem VInv.kept {lo b d : Nat} {wr w' : World} {l : List Tr} {vp : Value} (h : VInv lo b d l vp wr) (hlo : lo ≤ b) (hs : wr.heap.size ≤ w'.heap.size) (hb : ∀ g, lo ≤ g → g < wr.heap.size → w'.heap[g]? = wr.heap[g]?) : VInv lo b d l vp w' := by
  obtain ⟨rows, S, h1, h2, h3, h4, h5⟩ := h
  refine ⟨rows, S, h1, own_keptB h2 (fun g hg => ?_), fun x hx => (h3 x hx).kept (fun g hg => hb g (h4 g hg).1 (h4 g hg).2) (fun _ h => h), fun g hg => ?_, h5⟩
  · have := h2.lt g hg
    exact hb g (by omega) this.2
  · have := h4 g hg; omega

theorem VInv.grown {lo b d c : Nat} {wr w' : World} {l : List Tr} {vp : Value} (h : VInv lo b d l vp wr) (hlo : lo ≤ b) (hg : wr.grownBy w' (some c)) (hc : c < lo) : VInv lo b d l vp w' :=
  h.kept hlo hg.size (fun g h1 h2 => hg.block g h2 (by simp; omega))

theorem VInv.kids {lo b d : Nat} {wr : World} {l : List Tr} {vp : Value} (h : VInv lo b d l vp wr) (hlo : lo ≤ b) : VKids (d + 1) wr (fun g => lo ≤ g ∧ g < wr.heap.size) vp l := by
  obtain ⟨rows, S, rfl, h2, h3, h4, h5⟩ := h
  exact vkids_of_rows h2 (by simp) h3 h4 (fun g hg => by have := h2.lt g hg; omega)

/-- one more node -/
theorem VInv.step {lo b d : Nat} {wr w9 : World} {l : List Tr} {vp : Value} {t : Tr} {c : Value} {g9 cap9 : Nat} {xs cs : List Value} {S2 : Nat → Prop}
    (h : VInv lo b d l vp wr) (hk : VKids d wr S2 c t.kids) (hS2 : ∀ g, S2 g → lo ≤ g ∧ g < wr.heap.size ∧ vp.ownBlock ≠ some g)
    (hown : wr.ownsRow b 78 5 vp l.length xs) (hcs : cs = vCells t c) (hown9 : w9.ownsRow b 78 5 (.slice (some ⟨g9, 0, none⟩) (l.length + 1) cap9) (l.length + 1) (xs ++ cs))
    (hgrow9 : wr.grownBy w9 vp.ownBlock) (hat9 : vp.ownBlock = some g9 ∨ wr.heap.size ≤ g9) : VInv lo b d (l ++ [t]) (.slice (some ⟨g9, 0, none⟩) (l.length + 1) cap9) w9 := by
  obtain ⟨rows, S, h1, h2, h3, h4, h5⟩ := h
  have hx : xs = rows.flatMap fun x => vCells x.1 x.2 := by
    have a := hown.2
    have b' := h2.2
    rcases a with ⟨hv, h0⟩ | ⟨g, cap, cur, hv, _, hg, _, _, _, ht⟩
    · have l1 := hown.1
      have l2 := h2.1
      rw [h0, Nat.zero_mul] at l1 l2
      rw [List.eq_nil_of_length_eq_zero l1, List.eq_nil_of_length_eq_zero l2]
    · rcases b' with ⟨hv', h0⟩ | ⟨g', cap', cur', hv', _, hg', _, _, _, ht'⟩
      · rw [hv] at hv'; cases hv'
      · rw [hv] at hv'
        cases hv'
        rw [hg] at hg'
        cases hg'
        rw [← ht, ← ht']
  subst hx
  subst hcs
  have hs9 := hgrow9.size
  have blk : ∀ g, g < wr.heap.size → some g ≠ vp.ownBlock → w9.heap[g]? = wr.heap[g]? := fun g h1 h2 => hgrow9.block g h1 h2
  refine ⟨rows ++ [(t, c)], fun g => S g ∨ S2 g, by rw [List.map_append, h1]; rfl, ?_, ?_, ?_, ?_⟩
  · rw [List.length_append, List.length_singleton, List.flatMap_append]
    simpa using hown9
  · intro x hx
    rcases List.mem_append.1 hx with hx | hx
    · refine (h3 x hx).kept (fun g hg => ?_) (fun g hg => .inl hg)
      have a := h4 g hg
      exact blk g a.2 (fun e => h5 g e.symm hg)
    · simp at hx
      subst hx
      refine hk.kept (fun g hg => ?_) (fun g hg => .inr hg)
      have a := hS2 g hg
      exact blk g a.2.1 (fun e => a.2.2 e.symm)
  · intro g hg
    rcases hg with hg | hg
    · have := h4 g hg; omega
    · have := hS2 g hg; omega
  · intro g hg
    simp [Value.ownBlock] at hg
    subst hg
    rintro (h | h)
    · rcases hat9 with h9 | h9
      · exact h5 _ h9 h
      · have := h4 _ h; omega
    · have a := hS2 _ h
      rcases hat9 with h9 | h9
      · exact a.2.2 h9
      · omega

end Go.Proofs.Ytpajdmhakdbkjaa
