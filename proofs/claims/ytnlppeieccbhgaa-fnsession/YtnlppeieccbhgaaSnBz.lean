/- Three cells of a variable; what stands of an exchange behind a call. -/
import Derived.Test.YtnlppeieccbhgaaSnTk
namespace Go.Proofs.Ytnlppeieccbhgaa
open Go.RowKit Plain Tpc Ssn

/-- three cells of a variable that may be written -/
structure Bz (w : World) (b : Nat) (x0 x1 x2 : Value) : Prop where
  low : b < w.heap.size
  c0 : w.cell? ⟨b, 0, none⟩ = some x0
  c1 : w.cell? ⟨b, 1, none⟩ = some x1
  c2 : w.cell? ⟨b, 2, none⟩ = some x2
  f0 : w.frozen? ⟨b, 0, none⟩ = false
  f1 : w.frozen? ⟨b, 1, none⟩ = false
  f2 : w.frozen? ⟨b, 2, none⟩ = false

theorem Bz.kept {w w' : World} {b : Nat} {x0 x1 x2 : Value} (h : Bz w b x0 x1 x2) (hb : w'.heap[b]? = w.heap[b]?) (hs : w.heap.size ≤ w'.heap.size) : Bz w' b x0 x1 x2 := by
  have hc : ∀ k, w'.cell? ⟨b, k, none⟩ = w.cell? ⟨b, k, none⟩ := fun k => by simp only [World.cell?, hb]
  have hf : ∀ k, w'.frozen? ⟨b, k, none⟩ = w.frozen? ⟨b, k, none⟩ := fun k => by simp only [World.frozen?, hb]
  obtain ⟨h0, h1, h2, h3, h4, h5, h6⟩ := h
  exact ⟨by omega, (hc 0).trans h1, (hc 1).trans h2, (hc 2).trans h3, (hf 0).trans h4, (hf 1).trans h5, (hf 2).trans h6⟩
theorem Bz.below {w w' : World} {b : Nat} {x0 x1 x2 : Value} (h : Bz w b x0 x1 x2) (hb : Below w.heap.size w w') : Bz w' b x0 x1 x2 := h.kept (hb.block b h.low) hb.size
theorem Bz.step {w w' : World} {P P' : Nat → Prop} {b : Nat} {x0 x1 x2 : Value} (h : Bz w b x0 x1 x2) (t : Tch w w' P P') (hn : ¬ P b) : Bz w' b x0 x1 x2 := h.kept (t.block b h.low hn) t.size
theorem Bz.fresh (w : World) (x0 x1 x2 : Value) (t : TypeId) : Bz (w.alloc (.cells #[x0, x1, x2] t)) w.heap.size x0 x1 x2 := ⟨by simp, by simp, by simp, by simp, by simp, by simp, by simp⟩
theorem Bz.sets {w : World} {b : Nat} {x0 x1 x2 y0 y1 y2 : Value} (h : Bz w b x0 x1 x2) : Bz (((w.setCell ⟨b, 0, none⟩ y0).setCell ⟨b, 1, none⟩ y1).setCell ⟨b, 2, none⟩ y2) b y0 y1 y2 := by
  obtain ⟨h0, h1, h2, h3, h4, h5, h6⟩ := h
  have a1 : (w.setCell ⟨b, 0, none⟩ y0).cell? ⟨b, 1, none⟩ = some x1 := (World.cell?_setCell_other _ _ _ _ (by simp)).trans h2
  have a2 : (w.setCell ⟨b, 0, none⟩ y0).cell? ⟨b, 2, none⟩ = some x2 := (World.cell?_setCell_other _ _ _ _ (by simp)).trans h3
  have b2 : ((w.setCell ⟨b, 0, none⟩ y0).setCell ⟨b, 1, none⟩ y1).cell? ⟨b, 2, none⟩ = some x2 := (World.cell?_setCell_other _ _ _ _ (by simp)).trans a2
  refine ⟨by simp; exact h0, ?_, ?_, World.cell?_setCell_same _ _ _ b2, ?_, ?_, ?_⟩
  · exact (World.cell?_setCell_other _ _ _ _ (by simp)).trans ((World.cell?_setCell_other _ _ _ _ (by simp)).trans (World.cell?_setCell_same _ _ _ h1))
  · exact (World.cell?_setCell_other _ _ _ _ (by simp)).trans (World.cell?_setCell_same _ _ _ a1)
  · rw [World.frozen?_setCell, World.frozen?_setCell, World.frozen?_setCell]; exact h4
  · rw [World.frozen?_setCell, World.frozen?_setCell, World.frozen?_setCell]; exact h5
  · rw [World.frozen?_setCell, World.frozen?_setCell, World.frozen?_setCell]; exact h6

/-- what stands of an exchange behind a call -/
structure DnE (w W : World) (e B : Nat) (s' : Ses) (vi vw va v9 : Value) : Prop where
  ex : Ex W e B s' vi v9 va
  tc : Tch w W (PX e vi vw va) (PX e vi v9 va)
theorem DnE.below {w W W' : World} {e B : Nat} {s' : Ses} {vi vw va v9 : Value} (h : DnE w W e B s' vi vw va v9) (hb : Below W.heap.size W W') : DnE w W' e B s' vi vw va v9 := ⟨h.ex.below hb, h.tc.belowR hb⟩
theorem DnE.new {w W : World} {e B : Nat} {s' : Ses} {vi vw va v9 : Value} (h : DnE w W e B s' vi vw va v9) : ¬ PX e vi v9 va W.heap.size := fun q => by
  rcases q with q | q
  · have := h.ex.v.low; omega
  · have := (h.ex.r.lt4 _ q).2; omega
theorem DnE.sets {w W : World} {e B g : Nat} {s' : Ses} {vi vw va v9 y0 y1 y2 : Value} (h : DnE w W e B s' vi vw va v9) (hn : ¬ PX e vi v9 va g) (hg : w.heap.size ≤ g) : DnE w (((W.setCell ⟨g, 0, none⟩ y0).setCell ⟨g, 1, none⟩ y1).setCell ⟨g, 2, none⟩ y2) e B s' vi vw va v9 :=
  ⟨h.ex.aparts3 (fun q => hn (.inl q)) (fun q => hn (.inr q)), h.tc.sets3 hg⟩

theorem Bz.put2 {w : World} {b : Nat} {x0 x1 x2 y : Value} (h : Bz w b x0 x1 x2) : Bz (w.setCell ⟨b, 2, none⟩ y) b x0 x1 y := by
  obtain ⟨h0, h1, h2, h3, h4, h5, h6⟩ := h
  exact ⟨by simp; exact h0, (World.cell?_setCell_other _ _ _ _ (by simp)).trans h1, (World.cell?_setCell_other _ _ _ _ (by simp)).trans h2, World.cell?_setCell_same _ _ _ h3, by rw [World.frozen?_setCell]; exact h4, by rw [World.frozen?_setCell]; exact h5, by rw [World.frozen?_setCell]; exact h6⟩

end Go.Proofs.Ytnlppeieccbhgaa
