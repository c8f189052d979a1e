/- A queue in a variable; its lists in memory. -/
import Derived.Test.YtfkhbbmnjndmcaaQuA
import Derived.Test.YtfkhbbmnjndmcaaZnA
import Derived.Deep.DeepCutAuto
namespace Go.Proofs.Ytfkhbbmnjndmcaa
open Go.RowKit Plain Qus

def Qus.Qu.val (q : Qu) (v1 v2 v3 : Value) : Value := .agg #[.int .i64 q.cap, .int .i64 q.rule, .int .i64 q.next, v1, v2, v3]

/-- six cells of a variable -/
structure Sv (w : World) (b : Nat) (x0 x1 x2 x3 x4 x5 : Value) : Prop where
  low : b < w.heap.size
  c0 : w.cell? ⟨b, 0, none⟩ = some x0
  c1 : w.cell? ⟨b, 1, none⟩ = some x1
  c2 : w.cell? ⟨b, 2, none⟩ = some x2
  c3 : w.cell? ⟨b, 3, none⟩ = some x3
  c4 : w.cell? ⟨b, 4, none⟩ = some x4
  c5 : w.cell? ⟨b, 5, none⟩ = some x5
  f0 : w.frozen? ⟨b, 0, none⟩ = false
  f1 : w.frozen? ⟨b, 1, none⟩ = false
  f2 : w.frozen? ⟨b, 2, none⟩ = false
  f3 : w.frozen? ⟨b, 3, none⟩ = false
  f4 : w.frozen? ⟨b, 4, none⟩ = false
  f5 : w.frozen? ⟨b, 5, none⟩ = false

theorem Sv.kept {w w' : World} {b : Nat} {x0 x1 x2 x3 x4 x5 : Value} (h : Sv w b x0 x1 x2 x3 x4 x5) (hb : w'.heap[b]? = w.heap[b]?) (hs : w.heap.size ≤ w'.heap.size) : Sv w' b x0 x1 x2 x3 x4 x5 := by
  have hc : ∀ k, w'.cell? ⟨b, k, none⟩ = w.cell? ⟨b, k, none⟩ := fun k => by simp only [World.cell?, hb]
  have hf : ∀ k, w'.frozen? ⟨b, k, none⟩ = w.frozen? ⟨b, k, none⟩ := fun k => by simp only [World.frozen?, hb]
  obtain ⟨h0, h1, h2, h3, h4, h5, h6, h7, h8, h9, h10, h11, h12⟩ := h
  exact ⟨by omega, (hc 0).trans h1, (hc 1).trans h2, (hc 2).trans h3, (hc 3).trans h4, (hc 4).trans h5, (hc 5).trans h6, (hf 0).trans h7, (hf 1).trans h8, (hf 2).trans h9, (hf 3).trans h10, (hf 4).trans h11, (hf 5).trans h12⟩

theorem Sv.below {w w' : World} {b : Nat} {x0 x1 x2 x3 x4 x5 : Value} (h : Sv w b x0 x1 x2 x3 x4 x5) (hb : Below w.heap.size w w') : Sv w' b x0 x1 x2 x3 x4 x5 := h.kept (hb.block b h.low) hb.size

theorem Sv.fresh (w : World) (x0 x1 x2 x3 x4 x5 : Value) (t : TypeId) : Sv (w.alloc (.cells #[x0, x1, x2, x3, x4, x5] t)) w.heap.size x0 x1 x2 x3 x4 x5 := ⟨by simp, by simp, by simp, by simp, by simp, by simp, by simp, by simp, by simp, by simp, by simp, by simp, by simp⟩

theorem Sv.apart {w : World} {b c k : Nat} {u x0 x1 x2 x3 x4 x5 : Value} (h : Sv w b x0 x1 x2 x3 x4 x5) (hne : b ≠ c) : Sv (w.setCell ⟨c, k, none⟩ u) b x0 x1 x2 x3 x4 x5 :=
  h.kept (Below.heap_setCell _ _ _ _ hne) (by simp)

theorem Sv.set0 {w : World} {b : Nat} {x0 x1 x2 x3 x4 x5 : Value} (h : Sv w b x0 x1 x2 x3 x4 x5) (u : Value) : Sv (w.setCell ⟨b, 0, none⟩ u) b u x1 x2 x3 x4 x5 := by
  obtain ⟨h0, h1, h2, h3, h4, h5, h6, h7, h8, h9, h10, h11, h12⟩ := h
  refine ⟨by simp; exact h0, World.cell?_setCell_same _ _ _ h1, ?_, ?_, ?_, ?_, ?_, by rw [World.frozen?_setCell]; exact h7, by rw [World.frozen?_setCell]; exact h8, by rw [World.frozen?_setCell]; exact h9, by rw [World.frozen?_setCell]; exact h10, by rw [World.frozen?_setCell]; exact h11, by rw [World.frozen?_setCell]; exact h12⟩
  all_goals
    rw [World.cell?_setCell_other _ _ _ _ (by simp)]
    assumption
theorem Sv.set1 {w : World} {b : Nat} {x0 x1 x2 x3 x4 x5 : Value} (h : Sv w b x0 x1 x2 x3 x4 x5) (u : Value) : Sv (w.setCell ⟨b, 1, none⟩ u) b x0 u x2 x3 x4 x5 := by
  obtain ⟨h0, h1, h2, h3, h4, h5, h6, h7, h8, h9, h10, h11, h12⟩ := h
  refine ⟨by simp; exact h0, ?_, World.cell?_setCell_same _ _ _ h2, ?_, ?_, ?_, ?_, by rw [World.frozen?_setCell]; exact h7, by rw [World.frozen?_setCell]; exact h8, by rw [World.frozen?_setCell]; exact h9, by rw [World.frozen?_setCell]; exact h10, by rw [World.frozen?_setCell]; exact h11, by rw [World.frozen?_setCell]; exact h12⟩
  all_goals
    rw [World.cell?_setCell_other _ _ _ _ (by simp)]
    assumption
theorem Sv.set2 {w : World} {b : Nat} {x0 x1 x2 x3 x4 x5 : Value} (h : Sv w b x0 x1 x2 x3 x4 x5) (u : Value) : Sv (w.setCell ⟨b, 2, none⟩ u) b x0 x1 u x3 x4 x5 := by
  obtain ⟨h0, h1, h2, h3, h4, h5, h6, h7, h8, h9, h10, h11, h12⟩ := h
  refine ⟨by simp; exact h0, ?_, ?_, World.cell?_setCell_same _ _ _ h3, ?_, ?_, ?_, by rw [World.frozen?_setCell]; exact h7, by rw [World.frozen?_setCell]; exact h8, by rw [World.frozen?_setCell]; exact h9, by rw [World.frozen?_setCell]; exact h10, by rw [World.frozen?_setCell]; exact h11, by rw [World.frozen?_setCell]; exact h12⟩
  all_goals
    rw [World.cell?_setCell_other _ _ _ _ (by simp)]
    assumption
theorem Sv.set3 {w : World} {b : Nat} {x0 x1 x2 x3 x4 x5 : Value} (h : Sv w b x0 x1 x2 x3 x4 x5) (u : Value) : Sv (w.setCell ⟨b, 3, none⟩ u) b x0 x1 x2 u x4 x5 := by
  obtain ⟨h0, h1, h2, h3, h4, h5, h6, h7, h8, h9, h10, h11, h12⟩ := h
  refine ⟨by simp; exact h0, ?_, ?_, ?_, World.cell?_setCell_same _ _ _ h4, ?_, ?_, by rw [World.frozen?_setCell]; exact h7, by rw [World.frozen?_setCell]; exact h8, by rw [World.frozen?_setCell]; exact h9, by rw [World.frozen?_setCell]; exact h10, by rw [World.frozen?_setCell]; exact h11, by rw [World.frozen?_setCell]; exact h12⟩
  all_goals
    rw [World.cell?_setCell_other _ _ _ _ (by simp)]
    assumption
theorem Sv.set4 {w : World} {b : Nat} {x0 x1 x2 x3 x4 x5 : Value} (h : Sv w b x0 x1 x2 x3 x4 x5) (u : Value) : Sv (w.setCell ⟨b, 4, none⟩ u) b x0 x1 x2 x3 u x5 := by
  obtain ⟨h0, h1, h2, h3, h4, h5, h6, h7, h8, h9, h10, h11, h12⟩ := h
  refine ⟨by simp; exact h0, ?_, ?_, ?_, ?_, World.cell?_setCell_same _ _ _ h5, ?_, by rw [World.frozen?_setCell]; exact h7, by rw [World.frozen?_setCell]; exact h8, by rw [World.frozen?_setCell]; exact h9, by rw [World.frozen?_setCell]; exact h10, by rw [World.frozen?_setCell]; exact h11, by rw [World.frozen?_setCell]; exact h12⟩
  all_goals
    rw [World.cell?_setCell_other _ _ _ _ (by simp)]
    assumption
theorem Sv.set5 {w : World} {b : Nat} {x0 x1 x2 x3 x4 x5 : Value} (h : Sv w b x0 x1 x2 x3 x4 x5) (u : Value) : Sv (w.setCell ⟨b, 5, none⟩ u) b x0 x1 x2 x3 x4 u := by
  obtain ⟨h0, h1, h2, h3, h4, h5, h6, h7, h8, h9, h10, h11, h12⟩ := h
  refine ⟨by simp; exact h0, ?_, ?_, ?_, ?_, ?_, World.cell?_setCell_same _ _ _ h6, by rw [World.frozen?_setCell]; exact h7, by rw [World.frozen?_setCell]; exact h8, by rw [World.frozen?_setCell]; exact h9, by rw [World.frozen?_setCell]; exact h10, by rw [World.frozen?_setCell]; exact h11, by rw [World.frozen?_setCell]; exact h12⟩
  all_goals
    rw [World.cell?_setCell_other _ _ _ _ (by simp)]
    assumption


/-- a queue's lists lie in memory -/
structure QuAt (w : World) (B : Nat) (q : Qu) (v1 v2 v3 : Value) : Prop where
  a : ZAt w B v1 q.wt
  b : ZAt w B v2 q.hd
  c : ZAt w B v3 q.dr

/-- small enough to be counted -/
structure SmlQ (q : Qu) (M : Nat) : Prop where
  a : q.wt.length ≤ M
  b : q.hd.length ≤ M
  c : q.dr.length ≤ M

theorem QuAt.below {w w' : World} {B : Nat} {q : Qu} {v1 v2 v3 : Value} (h : QuAt w B q v1 v2 v3) (hb : Below B w w') (hB : B ≤ w.heap.size := by exact Nat.le_refl _) : QuAt w' w'.heap.size q v1 v2 v3 := ⟨h.a.below hb hB, h.b.below hb hB, h.c.below hb hB⟩

theorem QuAt.form {w : World} {B : Nat} {q : Qu} {v1 v2 v3 : Value} (h : QuAt w B q v1 v2 v3) : ∃ a1 c1 a2 c2 a3 c3, v1 = .slice a1 q.wt.length c1 ∧ v2 = .slice a2 q.hd.length c2 ∧ v3 = .slice a3 q.dr.length c3 := by
  obtain ⟨x1, y1, h1, _⟩ := h.a
  obtain ⟨x2, y2, h2, _⟩ := h.b
  obtain ⟨x3, y3, h3, _⟩ := h.c
  exact ⟨x1, y1, x2, y2, x3, y3, h1, h2, h3⟩

theorem own_belowQ {w w' : World} {B e size n : Nat} {v : Value} {xs : List Value} (h : w.ownsRow B e size v n xs) (hb : Below w.heap.size w w') : w'.ownsRow B e size v n xs := by
  refine ⟨h.1, ?_⟩
  rcases h.2 with hn | ⟨g, cap, cur, hv, hg, hgg, rest⟩
  · exact .inl hn
  · exact .inr ⟨g, cap, cur, hv, hg, (hb.block g (Array.getElem?_eq_some_iff.1 hgg).1).trans hgg, rest⟩

theorem own_asideQ {w w' : World} {B e size n : Nat} {v : Value} {xs : List Value} {row : Option Nat} (h : w.ownsRow B e size v n xs) (hg : w.grownBy w' row) (hne : ∀ g, v.ownBlock = some g → row ≠ some g) : w'.ownsRow B e size v n xs := by
  refine ⟨h.1, ?_⟩
  rcases h.2 with hn | ⟨g, cap, cur, hv, hB, hgg, rest⟩
  · exact .inl hn
  · exact .inr ⟨g, cap, cur, hv, hB, (hg.block g (Array.getElem?_eq_some_iff.1 hgg).1 (fun e => hne g (by rw [hv]; rfl) e.symm)).trans hgg, rest⟩

theorem own_raiseQ {w : World} {B B' e size n : Nat} {v : Value} {xs : List Value} (h : w.ownsRow B e size v n xs) (hB : ∀ g, v.ownBlock = some g → B' ≤ g) : w.ownsRow B' e size v n xs := by
  refine ⟨h.1, ?_⟩
  rcases h.2 with hn | ⟨g, cap, cur, hv, hg, rest⟩
  · exact .inl hn
  · exact .inr ⟨g, cap, cur, hv, hB g (by rw [hv]; rfl), rest⟩

theorem own_lowerQ {w : World} {B B' e size n : Nat} {v : Value} {xs : List Value} (h : w.ownsRow B e size v n xs) (hB : B' ≤ B) : w.ownsRow B' e size v n xs := by
  refine ⟨h.1, ?_⟩
  rcases h.2 with hn | ⟨g, cap, cur, hv, hg, rest⟩
  · exact .inl hn
  · exact .inr ⟨g, cap, cur, hv, by omega, rest⟩

theorem own_setCellQ {w : World} {B e size n : Nat} {v : Value} {xs : List Value} (h : w.ownsRow B e size v n xs) (b k : Nat) (u : Value) (hb : ∀ g, v.ownBlock = some g → g ≠ b) : (w.setCell ⟨b, k, none⟩ u).ownsRow B e size v n xs := by
  refine ⟨h.1, ?_⟩
  rcases h.2 with hn | ⟨g, cap, cur, hv, hg, hgg, rest⟩
  · exact .inl hn
  · refine .inr ⟨g, cap, cur, hv, hg, ?_, rest⟩
    rw [Below.heap_setCell _ _ _ _ (hb g (by rw [hv]; rfl))]
    exact hgg

theorem own_keptQ {w w' : World} {B e size n : Nat} {v : Value} {xs : List Value} (h : w.ownsRow B e size v n xs) (hk : ∀ g, v.ownBlock = some g → w'.heap[g]? = w.heap[g]?) : w'.ownsRow B e size v n xs := by
  refine ⟨h.1, ?_⟩
  rcases h.2 with hn | ⟨g, cap, cur, hv, hB, hgg, rest⟩
  · exact .inl hn
  · exact .inr ⟨g, cap, cur, hv, hB, (hk g (by rw [hv]; rfl)).trans hgg, rest⟩

/-- rows of one's own -/
structure QuRow (w : World) (B : Nat) (q : Qu) (v1 v2 v3 : Value) : Prop where
  a : ZRow w B v1 q.wt
  b : ZRow w B v2 q.hd
  c : ZRow w B v3 q.dr
  ab : ∀ g, v1.ownBlock = some g → v2.ownBlock ≠ some g
  ac : ∀ g, v1.ownBlock = some g → v3.ownBlock ≠ some g
  bc : ∀ g, v2.ownBlock = some g → v3.ownBlock ≠ some g

theorem QuRow.at {w : World} {B : Nat} {q : Qu} {v1 v2 v3 : Value} (h : QuRow w B q v1 v2 v3) : QuAt w w.heap.size q v1 v2 v3 := ⟨ZAt.own h.a, ZAt.own h.b, ZAt.own h.c⟩
theorem QuRow.below {w w' : World} {B : Nat} {q : Qu} {v1 v2 v3 : Value} (h : QuRow w B q v1 v2 v3) (hb : Below w.heap.size w w') : QuRow w' B q v1 v2 v3 :=
  ⟨own_belowQ h.a hb, own_belowQ h.b hb, own_belowQ h.c hb, h.ab, h.ac, h.bc⟩
theorem QuRow.setCell {w : World} {B : Nat} {q : Qu} {v1 v2 v3 : Value} (h : QuRow w B q v1 v2 v3) (b k : Nat) (u : Value) (hb : b < B) : QuRow (w.setCell ⟨b, k, none⟩ u) B q v1 v2 v3 :=
  ⟨own_setCellQ h.a b k u (fun g hg => by have := (World.ownsRow.lt h.a g hg).1; omega), own_setCellQ h.b b k u (fun g hg => by have := (World.ownsRow.lt h.b g hg).1; omega), own_setCellQ h.c b k u (fun g hg => by have := (World.ownsRow.lt h.c g hg).1; omega), h.ab, h.ac, h.bc⟩
theorem QuRow.lower {w : World} {B B' : Nat} {q : Qu} {v1 v2 v3 : Value} (h : QuRow w B q v1 v2 v3) (hB : B' ≤ B) : QuRow w B' q v1 v2 v3 :=
  ⟨own_lowerQ h.a hB, own_lowerQ h.b hB, own_lowerQ h.c hB, h.ab, h.ac, h.bc⟩
theorem QuRow.form {w : World} {B : Nat} {q : Qu} {v1 v2 v3 : Value} (h : QuRow w B q v1 v2 v3) : ∃ a1 c1 a2 c2 a3 c3, v1 = .slice a1 q.wt.length c1 ∧ v2 = .slice a2 q.hd.length c2 ∧ v3 = .slice a3 q.dr.length c3 := h.at.form
/-- made one behind the other: rows apart -/
theorem QuRow.chain {w : World} {B0 B1 B2 : Nat} {q : Qu} {v1 v2 v3 : Value} (h1 : ZRow w B0 v1 q.wt) (h2 : ZRow w B1 v2 q.hd) (h3 : ZRow w B2 v3 q.dr) (l1 : ∀ g, v1.ownBlock = some g → g < B1) (l2 : ∀ g, v2.ownBlock = some g → g < B2) (b01 : B0 ≤ B1) (b12 : B1 ≤ B2) : QuRow w B0 q v1 v2 v3 := by
  have m2 := World.ownsRow.lt h2
  have m3 := World.ownsRow.lt h3
  exact ⟨h1, own_lowerQ h2 b01, own_lowerQ h3 (by omega), fun g hg e => by have := l1 g hg; have := (m2 g e).1; omega, fun g hg e => by have := l1 g hg; have := (m3 g e).1; omega, fun g hg e => by have := l2 g hg; have := (m3 g e).1; omega⟩
theorem QuRow.nil (w : World) (B : Nat) (c r n : Int) : QuRow w B ⟨c, r, n, [], [], []⟩ (.slice none 0 0) (.slice none 0 0) (.slice none 0 0) :=
  ⟨⟨rfl, .inl ⟨rfl, rfl⟩⟩, ⟨rfl, .inl ⟨rfl, rfl⟩⟩, ⟨rfl, .inl ⟨rfl, rfl⟩⟩, fun g hg => by simp [Value.ownBlock] at hg, fun g hg => by simp [Value.ownBlock] at hg, fun g hg => by simp [Value.ownBlock] at hg⟩

end Go.Proofs.Ytfkhbbmnjndmcaa
