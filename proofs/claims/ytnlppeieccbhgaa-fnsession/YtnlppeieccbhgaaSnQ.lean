/- What a step may turn; regions that draw their order, by one condition. -/
import Derived.Test.YtnlppeieccbhgaaSnP
import Derived.Deep.RegionHeld3
namespace Go.Proofs.Ytnlppeieccbhgaa
open Go.RowKit Plain Tpc Ssn

/-- nothing turns but blocks of P; what is P' is P or new -/
structure Tch (w w' : World) (P P' : Nat → Prop) : Prop where
  os : w'.os = w.os
  tape : w'.tape = w.tape
  output : w'.output = w.output
  size : w.heap.size ≤ w'.heap.size
  block : ∀ j, j < w.heap.size → ¬ P j → w'.heap[j]? = w.heap[j]?
  new : ∀ g, P' g → P g ∨ w.heap.size ≤ g

theorem Tch.of_below {w w' : World} {P : Nat → Prop} (h : Below w.heap.size w w') : Tch w w' P P := ⟨h.os, h.tape, h.output, h.size, fun j hj _ => h.block j hj, fun _ h => .inl h⟩
theorem Tch.refl (w : World) (P : Nat → Prop) : Tch w w P P := .of_below (Below.refl _ w)
theorem Tch.trans {w w1 w2 : World} {P P1 P2 : Nat → Prop} (h : Tch w w1 P P1) (h' : Tch w1 w2 P1 P2) : Tch w w2 P P2 := by
  refine ⟨h'.os.trans h.os, h'.tape.trans h.tape, h'.output.trans h.output, Nat.le_trans h.size h'.size, fun j hj hp => ?_, fun g hg => ?_⟩
  · rw [h'.block j (Nat.lt_of_lt_of_le hj h.size) (fun hq => ?_), h.block j hj hp]
    rcases h.new j hq with h1 | h1
    · exact hp h1
    · omega
  · rcases h'.new g hg with h1 | h1
    · exact h.new g h1
    · exact .inr (Nat.le_trans h.size h1)
theorem Tch.below {w w' : World} {P P' : Nat → Prop} {B : Nat} (h : Tch w w' P P') (hB : B ≤ w.heap.size) (hP : ∀ g, P g → B ≤ g) : Below B w w' :=
  ⟨h.os, h.tape, h.output, h.size, fun j hj => h.block j (by omega) (fun hp => by have := hP j hp; omega)⟩
theorem Tch.setCell {w w' : World} {P P' : Nat → Prop} (h : Tch w w' P P') (b k : Nat) (u : Value) (hb : w.heap.size ≤ b) : Tch w (w'.setCell ⟨b, k, none⟩ u) P P' :=
  ⟨h.os, h.tape, h.output, by simp; exact h.size, fun j hj hp => by rw [Below.heap_setCell _ _ _ _ (by show j ≠ b; omega)]; exact h.block j hj hp, h.new⟩
theorem Tch.belowR {w w1 w2 : World} {P P1 : Nat → Prop} (h : Tch w w1 P P1) (h' : Below w1.heap.size w1 w2) : Tch w w2 P P1 := h.trans (.of_below h')
theorem Tch.weak {w w' : World} {P P' Q' : Nat → Prop} (h : Tch w w' P P') (hq : ∀ g, Q' g → P' g) : Tch w w' P Q' := ⟨h.os, h.tape, h.output, h.size, h.block, fun g hg => h.new g (hq g hg)⟩

/-- the own blocks of four values -/
def P4 (vi vh vw va : Value) : Nat → Prop := fun g => vi.ownBlock = some g ∨ vh.ownBlock = some g ∨ vw.ownBlock = some g ∨ va.ownBlock = some g

theorem apart_new {w : World} {u v v9 : Value} (hu : ∀ g, u.ownBlock = some g → g < w.heap.size) (huv : ∀ g, u.ownBlock = some g → v.ownBlock ≠ some g) (h9 : ∀ g, v9.ownBlock = some g → v.ownBlock = some g ∨ w.heap.size ≤ g) : ∀ g, u.ownBlock = some g → v9.ownBlock ≠ some g := fun g hg e => by
  rcases h9 g e with h1 | h1
  · exact huv g hg h1
  · have := hu g hg; omega

section
variable {w w9 : World} {B : Nat} {s : Ses} {vi vh vw va v9 : Value}

theorem SesRow.lts (h : SesRow w B s vi vh vw va) : (∀ g, vi.ownBlock = some g → g < w.heap.size) ∧ (∀ g, vh.ownBlock = some g → g < w.heap.size) ∧ (∀ g, vw.ownBlock = some g → g < w.heap.size) ∧ (∀ g, va.ownBlock = some g → g < w.heap.size) :=
  ⟨fun g hg => (World.ownsRow.lt h.i g hg).2, fun g hg => (World.ownsRow.lt h.h g hg).2, fun g hg => (World.ownsRow.lt h.y g hg).2, fun g hg => (World.ownsRow.lt h.a g hg).2⟩

theorem own_flip {u v : Value} (h : ∀ g, u.ownBlock = some g → v.ownBlock ≠ some g) : ∀ g, v.ownBlock = some g → u.ownBlock ≠ some g := fun g hg e => h g e hg

/-- the items' row grows -/
theorem SesRow.putI (h : SesRow w B s vi vh vw va) {L : List ByteArray} (hr : StRow w9 B v9 L) (hg : w.grownBy w9 vi.ownBlock) (h9 : ∀ g, v9.ownBlock = some g → vi.ownBlock = some g ∨ w.heap.size ≤ g) : SesRow w9 B { s with items := L } v9 vh vw va ∧ Tch w w9 (P4 vi vh vw va) (P4 v9 vh vw va) := by
  obtain ⟨l1, l2, l3, l4⟩ := h.lts
  refine ⟨⟨hr, own_asideS h.h hg (own_flip h.ih), own_asideS h.y hg (own_flip h.iw), own_asideS h.a hg (own_flip h.ia), own_flip (apart_new l2 (own_flip h.ih) h9), own_flip (apart_new l3 (own_flip h.iw) h9), own_flip (apart_new l4 (own_flip h.ia) h9), h.hw, h.ha, h.wa⟩, ⟨hg.os, hg.tape, hg.output, hg.size, fun j hj hp => hg.block j hj (fun e => hp (.inl e.symm)), fun g hg => ?_⟩⟩
  rcases hg with hg | hg | hg | hg
  · rcases h9 g hg with h1 | h1
    · exact .inl (.inl h1)
    · exact .inr h1
  · exact .inl (.inr (.inl hg))
  · exact .inl (.inr (.inr (.inl hg)))
  · exact .inl (.inr (.inr (.inr hg)))

/-- the row of what was handed on grows -/
theorem SesRow.putH (h : SesRow w B s vi vh vw va) {L : List ByteArray} (hr : StRow w9 B v9 L) (hg : w.grownBy w9 vh.ownBlock) (h9 : ∀ g, v9.ownBlock = some g → vh.ownBlock = some g ∨ w.heap.size ≤ g) : SesRow w9 B { s with handed := L } vi v9 vw va ∧ Tch w w9 (P4 vi vh vw va) (P4 vi v9 vw va) := by
  obtain ⟨l1, l2, l3, l4⟩ := h.lts
  refine ⟨⟨own_asideS h.i hg h.ih, hr, own_asideS h.y hg (own_flip h.hw), own_asideS h.a hg (own_flip h.ha), apart_new l1 h.ih h9, h.iw, h.ia, own_flip (apart_new l3 (own_flip h.hw) h9), own_flip (apart_new l4 (own_flip h.ha) h9), h.wa⟩, ⟨hg.os, hg.tape, hg.output, hg.size, fun j hj hp => hg.block j hj (fun e => hp (.inr (.inl e.symm))), fun g hg => ?_⟩⟩
  rcases hg with hg | hg | hg | hg
  · exact .inl (.inl hg)
  · rcases h9 g hg with h1 | h1
    · exact .inl (.inr (.inl h1))
    · exact .inr h1
  · exact .inl (.inr (.inr (.inl hg)))
  · exact .inl (.inr (.inr (.inr hg)))

/-- the packets' row turns -/
theorem SesRow.putY (h : SesRow w B s vi vh vw va) {L : List Pk} (hr : PkRow w9 B v9 L) (hg : w.grownBy w9 vw.ownBlock) (h9 : ∀ g, v9.ownBlock = some g → vw.ownBlock = some g ∨ w.heap.size ≤ g) : SesRow w9 B { s with way := L } vi vh v9 va ∧ Tch w w9 (P4 vi vh vw va) (P4 vi vh v9 va) := by
  obtain ⟨l1, l2, l3, l4⟩ := h.lts
  refine ⟨⟨own_asideS h.i hg h.iw, own_asideS h.h hg h.hw, hr, own_asideS h.a hg (own_flip h.wa), h.ih, apart_new l1 h.iw h9, h.ia, apart_new l2 h.hw h9, h.ha, own_flip (apart_new l4 (own_flip h.wa) h9)⟩, ⟨hg.os, hg.tape, hg.output, hg.size, fun j hj hp => hg.block j hj (fun e => hp (.inr (.inr (.inl e.symm)))), fun g hg => ?_⟩⟩
  rcases hg with hg | hg | hg | hg
  · exact .inl (.inl hg)
  · exact .inl (.inr (.inl hg))
  · rcases h9 g hg with h1 | h1
    · exact .inl (.inr (.inr (.inl h1)))
    · exact .inr h1
  · exact .inl (.inr (.inr (.inr hg)))

/-- the acks' row turns -/
theorem SesRow.putA (h : SesRow w B s vi vh vw va) {L : List Ak} (hr : AkRow w9 B v9 L) (hg : w.grownBy w9 va.ownBlock) (h9 : ∀ g, v9.ownBlock = some g → va.ownBlock = some g ∨ w.heap.size ≤ g) : SesRow w9 B { s with acks := L } vi vh vw v9 ∧ Tch w w9 (P4 vi vh vw va) (P4 vi vh vw v9) := by
  obtain ⟨l1, l2, l3, l4⟩ := h.lts
  refine ⟨⟨own_asideS h.i hg h.ia, own_asideS h.h hg h.ha, own_asideS h.y hg h.wa, hr, h.ih, h.iw, apart_new l1 h.ia h9, h.hw, apart_new l2 h.ha h9, apart_new l3 h.wa h9⟩, ⟨hg.os, hg.tape, hg.output, hg.size, fun j hj hp => hg.block j hj (fun e => hp (.inr (.inr (.inr e.symm)))), fun g hg => ?_⟩⟩
  rcases hg with hg | hg | hg | hg
  · exact .inl (.inl hg)
  · exact .inl (.inr (.inl hg))
  · exact .inl (.inr (.inr (.inl hg)))
  · rcases h9 g hg with h1 | h1
    · exact .inl (.inr (.inr (.inr h1)))
    · exact .inr h1

theorem SesRow.setN (h : SesRow w B s vi vh vw va) (b k : Nat) (u : Value) (hb : ∀ g, P4 vi vh vw va g → g ≠ b) : SesRow (w.setCell ⟨b, k, Option.none⟩ u) B s vi vh vw va :=
  ⟨own_setCellS h.i b k u (fun g hg => hb g (.inl hg)), own_setCellS h.h b k u (fun g hg => hb g (.inr (.inl hg))), own_setCellS h.y b k u (fun g hg => hb g (.inr (.inr (.inl hg)))), own_setCellS h.a b k u (fun g hg => hb g (.inr (.inr (.inr hg)))), h.ih, h.iw, h.ia, h.hw, h.ha, h.wa⟩

theorem SesRow.lt4 (h : SesRow w B s vi vh vw va) : ∀ g, P4 vi vh vw va g → B ≤ g ∧ g < w.heap.size := fun g hg => by
  rcases hg with hg | hg | hg | hg
  · exact World.ownsRow.lt h.i g hg
  · exact World.ownsRow.lt h.h g hg
  · exact World.ownsRow.lt h.y g hg
  · exact World.ownsRow.lt h.a g hg
end

/-! ### a region that draws its order, by one condition on what has come up -/

theorem count_set {l : Array Bool} {i : Nat} (h : l.getD i true = false) : (l.setIfInBounds i true).toList.count false + 1 = l.toList.count false := by
  obtain ⟨l⟩ := l
  simp only [Array.getD] at h
  by_cases hi : i < l.length
  · have hv : l[i] = false := by simpa [hi] using h
    simp only [List.setIfInBounds_toArray]
    clear h
    induction l generalizing i with
    | nil => simp at hi
    | cons a l ih =>
      cases i with
      | zero =>
        simp at hv
        subst hv
        simp
      | succ i =>
        simp at hv hi
        have := ih (i := i) hi hv
        simp only [List.set_cons_succ, List.count_cons]
        omega
  · simp [hi] at h

theorem wpAnyH_inv {P : Program} {ops : Array Oper} {Q : Exit → Act → World → Prop} {md : Region.Mode} (I : Array Bool → Act → World → Prop)
    (step : ∀ l a w i, I l a w → i ∈ Region.ready md ops l → ∀ K : Act → World → Prop, (∀ a' w', I (l.setIfInBounds i true) a' w' → K a' w') → wpOp P ops Q i K a w)
    (fin : ∀ l a w, I l a w → Region.ready md ops l = [] → Q .normal a w) :
    ∀ (fuel : Nat) (l : Array Bool) (a : Act) (w : World), I l a w → l.toList.count false ≤ fuel → wpAnyH P md ops Q (fun _ => True) fuel l a w
  | 0, l, a, w, hI, hc => by
    have h0 : Region.ready md ops l = [] := by
      rw [List.eq_nil_iff_forall_not_mem]
      intro i hi
      have := count_set (mem_ready.1 hi).1
      omega
    exact ⟨h0, fin l a w hI h0⟩
  | fuel + 1, l, a, w, hI, hc => by
    refine ⟨fun h0 => fin l a w hI h0, fun i hi => ?_⟩
    have := count_set (mem_ready.1 hi).1
    exact step l a w i hI hi _ (fun a' w' h' => ⟨trivial, wpAnyH_inv I step fin fuel _ a' w' h' (by omega)⟩)

end Go.Proofs.Ytnlppeieccbhgaa
