/- The model's trees of terms: one more term put to a node's own. -/
import Derived.Test.YtlmhjkcollohnaaDoorTmT
namespace Go.Proofs.YtlmhjkcollohnaaDoor
open Go.RowKit Plain Sch Trm

/-- a node at block b, with the terms that it has by now -/
def TInv6 (f b : Nat) (W0 : World) (v : Int) (name : ByteArray) (rows : List (TT × Value)) (kv : Value) (wr : World) : Prop :=
  ∃ S : Nat → Prop, TdIn wr b 0 v name kv ∧ wr.frozen? ⟨b, 2, none⟩ = false ∧ wr.ownsRow (b + 1) 66 3 kv rows.length (rows.flatMap fun x => tdCells x.1 x.2) ∧
    (∀ x ∈ rows, TKids f wr S x.2 x.1.kids) ∧ (∀ g, S g → b + 1 ≤ g ∧ g < wr.heap.size) ∧ (∀ g, kv.ownBlock = some g → ¬ S g) ∧ Below b W0 wr

theorem TInv6.start {f b : Nat} {W0 : World} {v : Int} {name : ByteArray} (h : TdIn W0 b 0 v name (.slice none 0 0)) (hz : W0.frozen? ⟨b, 2, none⟩ = false) : TInv6 f b W0 v name [] (.slice none 0 0) W0 :=
  ⟨fun _ => False, h, hz, World.ownsRow_nil _ _ _ _, fun x hx => by simp at hx, fun g hg => hg.elim, fun g hg => by simp [Value.ownBlock] at hg, Below.refl _ _⟩

theorem TInv6.step {f b : Nat} {W0 wr w2 w9 : World} {v : Int} {name : ByteArray} {rows : List (TT × Value)} {kv : Value} {tc : TT} {ac : Option Addr} {lc cc g9 cap9 : Nat}
    (h : TInv6 f b W0 v name rows kv wr) (hb3 : b + 1 ≤ wr.heap.size)
    (hkid : TKids f w2 (fun g => wr.heap.size ≤ g ∧ g < w2.heap.size) (.slice ac lc cc) tc.kids) (hb2 : Below wr.heap.size wr w2)
    (hown9 : w9.ownsRow (b + 1) 66 3 (.slice (some ⟨g9, 0, none⟩) (rows.length + 1) cap9) (rows.length + 1) ((rows.flatMap fun x => tdCells x.1 x.2) ++ [Value.int .i64 tc.v, .string tc.name, .slice ac lc cc]))
    (hgrow9 : (w2.alloc (.cells #[.int .i64 tc.v, .string tc.name, .slice ac lc cc] 66)).grownBy w9 kv.ownBlock) (hat9 : kv.ownBlock = some g9 ∨ g9 = w2.heap.size + 1) :
    TInv6 f b W0 v name (rows ++ [(tc, .slice ac lc cc)]) (.slice (some ⟨g9, 0, none⟩) (rows.length + 1) cap9) (w9.setCell ⟨b, 2, none⟩ (.slice (some ⟨g9, 0, none⟩) (rows.length + 1) cap9)) := by
  obtain ⟨S, hNr, hzr, hown, hkids, hS, hkS, hbw⟩ := h
  have hs2 : wr.heap.size ≤ w2.heap.size := hb2.size
  have hs9 : w2.heap.size + 1 ≤ w9.heap.size := by have := hgrow9.size; simpa using this
  have hkl := hown.lt
  have hne9 : some b ≠ kv.ownBlock := fun e => by have := (hkl _ e.symm).1; omega
  have blk : ∀ g, g < w2.heap.size → some g ≠ kv.ownBlock → g ≠ b → (w9.setCell ⟨b, 2, none⟩ (.slice (some ⟨g9, 0, none⟩) (rows.length + 1) cap9)).heap[g]? = w2.heap[g]? := by
    intro g h1 h2 h3
    rw [Below.heap_setCell _ _ _ _ (by simpa using h3), hgrow9.block g (by simp; omega) h2, Below.heap_alloc _ _ _ h1]
  have blkr : ∀ g, g < wr.heap.size → w2.heap[g]? = wr.heap[g]? := fun g hg => hb2.block g hg
  have hcell9 : ∀ j, w9.cell? ⟨b, j, none⟩ = wr.cell? ⟨b, j, none⟩ := by
    intro j
    rw [World.cell?_of_block (w := (w2.alloc (.cells #[.int .i64 tc.v, .string tc.name, .slice ac lc cc] 66))) (hgrow9.block _ (by simp; omega) hne9)]
    rw [World.cell?_of_block (w := w2) (Below.heap_alloc _ _ _ (by show b < _; omega)), World.cell?_of_block (w := wr) (blkr _ (by show b < _; omega))]
  have hcell : ∀ j, j ≠ 2 → (w9.setCell ⟨b, 2, none⟩ (.slice (some ⟨g9, 0, none⟩) (rows.length + 1) cap9)).cell? ⟨b, j, none⟩ = wr.cell? ⟨b, j, none⟩ := by
    intro j hj
    rw [World.cell?_setCell_other _ _ _ _ (fun e => hj (congrArg Addr.off e).symm), hcell9 j]
  refine ⟨fun g => S g ∨ (wr.heap.size ≤ g ∧ g < w2.heap.size), ?_, ?_, ?_, ?_, ?_, ?_, ?_⟩
  · obtain ⟨n0, n1, n2⟩ := hNr
    refine ⟨(hcell 0 (by omega)).trans n0, (hcell 1 (by omega)).trans n1, ?_⟩
    exact World.cell?_setCell_same _ _ _ ((hcell9 2).trans n2)
  · rw [World.frozen?_setCell]
    rw [World.frozen?_of_block (w := (w2.alloc (.cells #[.int .i64 tc.v, .string tc.name, .slice ac lc cc] 66))) (hgrow9.block _ (by simp; omega) hne9)]
    rw [World.frozen?_of_block (w := w2) (Below.heap_alloc _ _ _ (by show b < _; omega)), World.frozen?_of_block (w := wr) (blkr _ (by show b < _; omega))]
    exact hzr
  · have := ownsRow_setCell_below hown9 (a := ⟨b, 2, none⟩) (by show b < b + 1; omega) (.slice (some ⟨g9, 0, none⟩) (rows.length + 1) cap9)
    rw [List.flatMap_append, List.length_append]
    simpa [tdCells] using this
  · intro x hx
    rcases List.mem_append.1 hx with hx | hx
    · refine (hkids x hx).kept (fun g hg => ?_) (fun g hg => .inl hg)
      have h1 := hS g hg
      rw [blk g (by omega) (fun e => hkS g e.symm hg) (by omega), blkr g h1.2]
    · simp at hx
      subst hx
      refine hkid.kept (fun g hg => ?_) (fun g hg => .inr hg)
      refine blk g hg.2 (fun e => ?_) ?_
      · have h1 := (hkl g e.symm).2
        have h2 : wr.heap.size ≤ g := hg.1
        omega
      · have h2 : wr.heap.size ≤ g := hg.1
        omega
  · intro g hg
    have hsz : (w9.setCell ⟨b, 2, none⟩ (.slice (some ⟨g9, 0, none⟩) (rows.length + 1) cap9)).heap.size = w9.heap.size := by simp
    rw [hsz]
    rcases hg with hg | hg
    · have := hS g hg; omega
    · omega
  · intro g hg
    simp [Value.ownBlock] at hg
    subst hg
    rintro (h | h)
    · rcases hat9 with h9 | h9
      · exact hkS _ h9 h
      · have := hS _ h; omega
    · rcases hat9 with h9 | h9
      · have := (hkl _ h9).2; omega
      · omega
  · refine ((hbw.trans (hb2.mono (by omega))).alloc (by omega) _).grown hgrow9 (by simp; omega) (fun k hk => by have := (hkl k hk).1; omega) |>.setCell (by show b ≤ b; omega) _

/-- the node's own terms, behind all -/
theorem TInv6.done {f b : Nat} {W0 wr : World} {v : Int} {name : ByteArray} {rows : List (TT × Value)} {kv : Value} (h : TInv6 f b W0 v name rows kv wr) (w' : World) (B : Nat) (hB : B ≤ b + 1)
    (hw : ∀ g, b + 1 ≤ g → w'.heap[g]? = wr.heap[g]?) (hs : w'.heap.size = wr.heap.size) : TKids (f + 1) w' (fun g => B ≤ g ∧ g < w'.heap.size) kv (rows.map Prod.fst) := by
  obtain ⟨S, hNr, hzr, hown, hkids, hS, hkS, hbw⟩ := h
  have h1 := tkids_of_rows (S' := fun g => b + 1 ≤ g ∧ g < wr.heap.size) hown rfl hkids hS (fun g hg => hown.lt g hg)
  refine h1.kept (fun g hg => hw g hg.1) (fun g hg => ?_)
  rw [hs]
  omega

theorem TInv6.node {f b : Nat} {W0 wr : World} {v : Int} {name : ByteArray} {rows : List (TT × Value)} {kv : Value} (h : TInv6 f b W0 v name rows kv wr) : TdIn wr b 0 v name kv ∧ wr.frozen? ⟨b, 2, none⟩ = false ∧ wr.ownsRow (b + 1) 66 3 kv rows.length (rows.flatMap fun x => tdCells x.1 x.2) ∧ Below b W0 wr := by
  obtain ⟨S, hNr, hzr, hown, hkids, hS, hkS, hbw⟩ := h
  exact ⟨hNr, hzr, hown, hbw⟩

/-- what is put behind a node's block leaves it as it is -/
theorem TInv6.below {f b : Nat} {W0 wr w2 : World} {v : Int} {name : ByteArray} {rows : List (TT × Value)} {kv : Value} (h : TInv6 f b W0 v name rows kv wr) (hb : Below wr.heap.size wr w2) (hbs : b + 1 ≤ wr.heap.size) : TInv6 f b W0 v name rows kv w2 := by
  obtain ⟨S, hNr, hzr, hown, hkids, hS, hkS, hbw⟩ := h
  refine ⟨S, hNr.kept (hb.block b (by omega)), (hb.frozen (p := ⟨b, 2, none⟩) (by show b < _; omega)).trans hzr, own_below hown hb, fun x hx => (hkids x hx).kept (fun g hg => hb.block g (hS g hg).2) (fun g hg => hg), fun g hg => ?_, hkS, hbw.trans (hb.mono (by omega))⟩
  have := hS g hg
  have := hb.size
  omega

end Go.Proofs.YtlmhjkcollohnaaDoor
