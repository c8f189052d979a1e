/- A session in a variable. -/
import Derived.Test.YtnlppeieccbhgaaFxA
import Derived.Test.YtnlppeieccbhgaaPkM
import Derived.Test.YtnlppeieccbhgaaAkM
namespace Go.Proofs.Ytnlppeieccbhgaa
open Go.RowKit Plain Tpc Ssn

/-- six cells of a variable -/
structure Sv (w : World) (b : Nat) (x0 x1 x2 x3 x4 x5 : Value) : Prop where
  low : b < w.heap.size
  c0 : w.cell? ⟨b, 0, none⟩ = some x0
  c1 : w.cell? ⟨b, 1, none⟩ = some x1
  c2 : w.cell? ⟨b, 2, none⟩ = some x2
  c3 : w.cell? ⟨b, 3, none⟩ = some x3
  c4 : w.cell? ⟨b, 4, none⟩ = some x4
  c5 : w.cell? ⟨b, 5, none⟩ = some x5
  f0 : w.frozen? ⟨b, 0, none⟩ = false
  f1 : w.frozen? ⟨b, 1, none⟩ = false
  f2 : w.frozen? ⟨b, 2, none⟩ = false
  f3 : w.frozen? ⟨b, 3, none⟩ = false
  f4 : w.frozen? ⟨b, 4, none⟩ = false
  f5 : w.frozen? ⟨b, 5, none⟩ = false

theorem Sv.kept {w w' : World} {b : Nat} {x0 x1 x2 x3 x4 x5 : Value} (h : Sv w b x0 x1 x2 x3 x4 x5) (hb : w'.heap[b]? = w.heap[b]?) (hs : w.heap.size ≤ w'.heap.size) : Sv w' b x0 x1 x2 x3 x4 x5 := by
  have hc : ∀ k, w'.cell? ⟨b, k, none⟩ = w.cell? ⟨b, k, none⟩ := fun k => by simp only [World.cell?, hb]
  have hf : ∀ k, w'.frozen? ⟨b, k, none⟩ = w.frozen? ⟨b, k, none⟩ := fun k => by simp only [World.frozen?, hb]
  obtain ⟨h0, h1, h2, h3, h4, h5, h6, h7, h8, h9, h10, h11, h12⟩ := h
  exact ⟨by omega, (hc 0).trans h1, (hc 1).trans h2, (hc 2).trans h3, (hc 3).trans h4, (hc 4).trans h5, (hc 5).trans h6, (hf 0).trans h7, (hf 1).trans h8, (hf 2).trans h9, (hf 3).trans h10, (hf 4).trans h11, (hf 5).trans h12⟩

theorem Sv.below {w w' : World} {b : Nat} {x0 x1 x2 x3 x4 x5 : Value} (h : Sv w b x0 x1 x2 x3 x4 x5) (hb : Below w.heap.size w w') : Sv w' b x0 x1 x2 x3 x4 x5 := h.kept (hb.block b h.low) hb.size

theorem Sv.fresh (w : World) (x0 x1 x2 x3 x4 x5 : Value) (t : TypeId) : Sv (w.alloc (.cells #[x0, x1, x2, x3, x4, x5] t)) w.heap.size x0 x1 x2 x3 x4 x5 := ⟨by simp, by simp, by simp, by simp, by simp, by simp, by simp, by simp, by simp, by simp, by simp, by simp, by simp⟩

theorem Sv.apart {w : World} {b c k : Nat} {u x0 x1 x2 x3 x4 x5 : Value} (h : Sv w b x0 x1 x2 x3 x4 x5) (hne : b ≠ c) : Sv (w.setCell ⟨c, k, none⟩ u) b x0 x1 x2 x3 x4 x5 :=
  h.kept (Below.heap_setCell _ _ _ _ hne) (by simp)

theorem Sv.set0 {w : World} {b : Nat} {x0 x1 x2 x3 x4 x5 : Value} (h : Sv w b x0 x1 x2 x3 x4 x5) (u : Value) : Sv (w.setCell ⟨b, 0, none⟩ u) b u x1 x2 x3 x4 x5 := by
  obtain ⟨h0, h1, h2, h3, h4, h5, h6, h7, h8, h9, h10, h11, h12⟩ := h
  refine ⟨by simp; exact h0, World.cell?_setCell_same _ _ _ h1, ?_, ?_, ?_, ?_, ?_, by rw [World.frozen?_setCell]; exact h7, by rw [World.frozen?_setCell]; exact h8, by rw [World.frozen?_setCell]; exact h9, by rw [World.frozen?_setCell]; exact h10, by rw [World.frozen?_setCell]; exact h11, by rw [World.frozen?_setCell]; exact h12⟩
  all_goals
    rw [World.cell?_setCell_other _ _ _ _ (by simp)]
    assumption
theorem Sv.set1 {w : World} {b : Nat} {x0 x1 x2 x3 x4 x5 : Value} (h : Sv w b x0 x1 x2 x3 x4 x5) (u : Value) : Sv (w.setCell ⟨b, 1, none⟩ u) b x0 u x2 x3 x4 x5 := by
  obtain ⟨h0, h1, h2, h3, h4, h5, h6, h7, h8, h9, h10, h11, h12⟩ := h
  refine ⟨by simp; exact h0, ?_, World.cell?_setCell_same _ _ _ h2, ?_, ?_, ?_, ?_, by rw [World.frozen?_setCell]; exact h7, by rw [World.frozen?_setCell]; exact h8, by rw [World.frozen?_setCell]; exact h9, by rw [World.frozen?_setCell]; exact h10, by rw [World.frozen?_setCell]; exact h11, by rw [World.frozen?_setCell]; exact h12⟩
  all_goals
    rw [World.cell?_setCell_other _ _ _ _ (by simp)]
    assumption
theorem Sv.set2 {w : World} {b : Nat} {x0 x1 x2 x3 x4 x5 : Value} (h : Sv w b x0 x1 x2 x3 x4 x5) (u : Value) : Sv (w.setCell ⟨b, 2, none⟩ u) b x0 x1 u x3 x4 x5 := by
  obtain ⟨h0, h1, h2, h3, h4, h5, h6, h7, h8, h9, h10, h11, h12⟩ := h
  refine ⟨by simp; exact h0, ?_, ?_, World.cell?_setCell_same _ _ _ h3, ?_, ?_, ?_, by rw [World.frozen?_setCell]; exact h7, by rw [World.frozen?_setCell]; exact h8, by rw [World.frozen?_setCell]; exact h9, by rw [World.frozen?_setCell]; exact h10, by rw [World.frozen?_setCell]; exact h11, by rw [World.frozen?_setCell]; exact h12⟩
  all_goals
    rw [World.cell?_setCell_other _ _ _ _ (by simp)]
    assumption
theorem Sv.set3 {w : World} {b : Nat} {x0 x1 x2 x3 x4 x5 : Value} (h : Sv w b x0 x1 x2 x3 x4 x5) (u : Value) : Sv (w.setCell ⟨b, 3, none⟩ u) b x0 x1 x2 u x4 x5 := by
  obtain ⟨h0, h1, h2, h3, h4, h5, h6, h7, h8, h9, h10, h11, h12⟩ := h
  refine ⟨by simp; exact h0, ?_, ?_, ?_, World.cell?_setCell_same _ _ _ h4, ?_, ?_, by rw [World.frozen?_setCell]; exact h7, by rw [World.frozen?_setCell]; exact h8, by rw [World.frozen?_setCell]; exact h9, by rw [World.frozen?_setCell]; exact h10, by rw [World.frozen?_setCell]; exact h11, by rw [World.frozen?_setCell]; exact h12⟩
  all_goals
    rw [World.cell?_setCell_other _ _ _ _ (by simp)]
    assumption
theorem Sv.set4 {w : World} {b : Nat} {x0 x1 x2 x3 x4 x5 : Value} (h : Sv w b x0 x1 x2 x3 x4 x5) (u : Value) : Sv (w.setCell ⟨b, 4, none⟩ u) b x0 x1 x2 x3 u x5 := by
  obtain ⟨h0, h1, h2, h3, h4, h5, h6, h7, h8, h9, h10, h11, h12⟩ := h
  refine ⟨by simp; exact h0, ?_, ?_, ?_, ?_, World.cell?_setCell_same _ _ _ h5, ?_, by rw [World.frozen?_setCell]; exact h7, by rw [World.frozen?_setCell]; exact h8, by rw [World.frozen?_setCell]; exact h9, by rw [World.frozen?_setCell]; exact h10, by rw [World.frozen?_setCell]; exact h11, by rw [World.frozen?_setCell]; exact h12⟩
  all_goals
    rw [World.cell?_setCell_other _ _ _ _ (by simp)]
    assumption
theorem Sv.set5 {w : World} {b : Nat} {x0 x1 x2 x3 x4 x5 : Value} (h : Sv w b x0 x1 x2 x3 x4 x5) (u : Value) : Sv (w.setCell ⟨b, 5, none⟩ u) b x0 x1 x2 x3 x4 u := by
  obtain ⟨h0, h1, h2, h3, h4, h5, h6, h7, h8, h9, h10, h11, h12⟩ := h
  refine ⟨by simp; exact h0, ?_, ?_, ?_, ?_, ?_, World.cell?_setCell_same _ _ _ h6, by rw [World.frozen?_setCell]; exact h7, by rw [World.frozen?_setCell]; exact h8, by rw [World.frozen?_setCell]; exact h9, by rw [World.frozen?_setCell]; exact h10, by rw [World.frozen?_setCell]; exact h11, by rw [World.frozen?_setCell]; exact h12⟩
  all_goals
    rw [World.cell?_setCell_other _ _ _ _ (by simp)]
    assumption

/-- a session's lists lie in memory -/
structure SesAt (w : World) (B : Nat) (s : Ses) (vi vh vw va : Value) : Prop where
  i : StAt w B vi s.items
  h : StAt w B vh s.handed
  y : PksAt w B vw s.way
  a : AksAt w B va s.acks

/-- small enough to be counted -/
structure Sml (s : Ses) (M : Nat) : Prop where
  i : s.items.length ≤ M
  h : s.handed.length ≤ M
  y : s.way.length ≤ M
  a : s.acks.length ≤ M

/-- its texts are short -/
structure Shr (s : Ses) (M : Nat) : Prop where
  i : ∀ j, j < s.items.length → (lq s.items j).size ≤ M
  h : ∀ j, j < s.handed.length → (lq s.handed j).size ≤ M
  y : ∀ j, j < s.way.length → (pk s.way j).tx.size ≤ M

theorem StAt.keepS {w w' : World} {v : Value} {L : List ByteArray} {B : Nat} (h : StAt w B v L) (hb : Below B w w') : StAt w' B v L := by
  obtain ⟨ao, cap, hv, hm, hc, hr⟩ := h
  refine ⟨ao, cap, hv, hm, hc, fun i hi => ?_⟩
  obtain ⟨g, o, ha, hg, c⟩ := hr i hi
  exact ⟨g, o, ha, hg, (hb.cell (p := ⟨g, o + i, none⟩) hg).trans c⟩

theorem SesAt.keep {w w' : World} {B : Nat} {s : Ses} {vi vh vw va : Value} (h : SesAt w B s vi vh vw va) (hb : Below B w w') : SesAt w' B s vi vh vw va := ⟨h.i.keepS hb, h.h.keepS hb, h.y.keep hb, h.a.keep hb⟩
theorem SesAt.below {w w' : World} {B : Nat} {s : Ses} {vi vh vw va : Value} (h : SesAt w B s vi vh vw va) (hb : Below B w w') (hB : B ≤ w.heap.size := by exact Nat.le_refl _) : SesAt w' w'.heap.size s vi vh vw va := ⟨h.i.below hb hB, h.h.below hb hB, h.y.below hb hB, h.a.below hb hB⟩

/-- rows of one's own -/
structure SesRow (w : World) (B : Nat) (s : Ses) (vi vh vw va : Value) : Prop where
  i : StRow w B vi s.items
  h : StRow w B vh s.handed
  y : PkRow w B vw s.way
  a : AkRow w B va s.acks
  ih : ∀ g, vi.ownBlock = some g → vh.ownBlock ≠ some g
  iw : ∀ g, vi.ownBlock = some g → vw.ownBlock ≠ some g
  ia : ∀ g, vi.ownBlock = some g → va.ownBlock ≠ some g
  hw : ∀ g, vh.ownBlock = some g → vw.ownBlock ≠ some g
  ha : ∀ g, vh.ownBlock = some g → va.ownBlock ≠ some g
  wa : ∀ g, vw.ownBlock = some g → va.ownBlock ≠ some g

theorem SesRow.at {w : World} {B : Nat} {s : Ses} {vi vh vw va : Value} (h : SesRow w B s vi vh vw va) : SesAt w w.heap.size s vi vh vw va := ⟨StAt.own h.i, StAt.own h.h, PksAt.own h.y, AksAt.own h.a⟩
theorem SesRow.below {w w' : World} {B : Nat} {s : Ses} {vi vh vw va : Value} (h : SesRow w B s vi vh vw va) (hb : Below w.heap.size w w') : SesRow w' B s vi vh vw va :=
  ⟨own_belowY h.i hb, own_belowY h.h hb, own_belowY h.y hb, own_belowY h.a hb, h.ih, h.iw, h.ia, h.hw, h.ha, h.wa⟩

end Go.Proofs.Ytnlppeieccbhgaa
