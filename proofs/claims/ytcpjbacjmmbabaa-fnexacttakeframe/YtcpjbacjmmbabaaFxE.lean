/- The program's reading of a stream, in memory: whether a frame may begin so, whether all is there, given up. -/
import Derived.Test.YtcpjbacjmmbabaaFxK
namespace Go.Proofs.Ytcpjbacjmmbabaa
open Go.RowKit Plain Tpc Frm

/-- how far a stream has been read, in a variable: what was told, what is left, whether it is bad -/
structure Um (w : World) (b B : Nat) (vt vr : Value) (T : List ByteArray) (rest : List UInt8) (bad : Bool) : Prop where
  low : b < w.heap.size
  c0 : w.cell? ⟨b, 0, none⟩ = some vt
  c1 : w.cell? ⟨b, 1, none⟩ = some vr
  c2 : w.cell? ⟨b, 2, none⟩ = some (.bool bad)
  f0 : w.frozen? ⟨b, 0, none⟩ = false
  f1 : w.frozen? ⟨b, 1, none⟩ = false
  f2 : w.frozen? ⟨b, 2, none⟩ = false
  ownT : StRow w B vt T
  ownR : GRow w B vr rest
  aptT : ∀ g, vt.ownBlock = some g → g ≠ b
  aptR : ∀ g, vr.ownBlock = some g → g ≠ b
  apart : ∀ g, vt.ownBlock = some g → vr.ownBlock ≠ some g

/-- what a call may do that reads on: nothing but to the variable's block and to the rows' own -/
structure Pu (w w' : World) (b : Nat) (vt vr vt' vr' : Value) : Prop where
  os : w'.os = w.os
  tape : w'.tape = w.tape
  output : w'.output = w.output
  size : w.heap.size ≤ w'.heap.size
  block : ∀ j, j < w.heap.size → j ≠ b → some j ≠ vt.ownBlock → some j ≠ vr.ownBlock → w'.heap[j]? = w.heap[j]?
  newT : ∀ g, vt'.ownBlock = some g → vt.ownBlock = some g ∨ w.heap.size ≤ g
  newR : ∀ g, vr'.ownBlock = some g → vr.ownBlock = some g ∨ w.heap.size ≤ g

theorem Um.belowU {w w' : World} {b B : Nat} {vt vr : Value} {T : List ByteArray} {rest : List UInt8} {bad : Bool} (h : Um w b B vt vr T rest bad) (hb : Below w.heap.size w w') : Um w' b B vt vr T rest bad :=
  ⟨Nat.lt_of_lt_of_le h.low hb.size, (hb.cell (p := ⟨b, 0, none⟩) h.low).trans h.c0, (hb.cell (p := ⟨b, 1, none⟩) h.low).trans h.c1, (hb.cell (p := ⟨b, 2, none⟩) h.low).trans h.c2,
    (hb.frozen (p := ⟨b, 0, none⟩) h.low).trans h.f0, (hb.frozen (p := ⟨b, 1, none⟩) h.low).trans h.f1, (hb.frozen (p := ⟨b, 2, none⟩) h.low).trans h.f2, own_belowY h.ownT hb, h.ownR.below hb, h.aptT, h.aptR, h.apart⟩

theorem Pu.refl (w : World) (b : Nat) (vt vr : Value) : Pu w w b vt vr vt vr := ⟨rfl, rfl, rfl, Nat.le_refl _, fun _ _ _ _ _ => rfl, fun _ h => .inl h, fun _ h => .inl h⟩

theorem Pu.trans {w w1 w2 : World} {b : Nat} {vt vr vt1 vr1 vt2 vr2 : Value} (h : Pu w w1 b vt vr vt1 vr1) (h' : Pu w1 w2 b vt1 vr1 vt2 vr2) : Pu w w2 b vt vr vt2 vr2 := by
  refine ⟨h'.os.trans h.os, h'.tape.trans h.tape, h'.output.trans h.output, Nat.le_trans h.size h'.size, fun j hj hb ht hr => ?_, fun g hg => ?_, fun g hg => ?_⟩
  · have hs := h.size
    rw [h'.block j (by omega) hb (fun e => ?_) (fun e => ?_), h.block j hj hb ht hr]
    · rcases h.newT j e.symm with h1 | h1
      · exact ht h1.symm
      · omega
    · rcases h.newR j e.symm with h1 | h1
      · exact hr h1.symm
      · omega
  · rcases h'.newT g hg with h1 | h1
    · exact h.newT g h1
    · exact .inr (Nat.le_trans h.size h1)
  · rcases h'.newR g hg with h1 | h1
    · exact h.newR g h1
    · exact .inr (Nat.le_trans h.size h1)

theorem Pu.of_below {w w' : World} {b : Nat} {vt vr : Value} (h : Below w.heap.size w w') : Pu w w' b vt vr vt vr := ⟨h.os, h.tape, h.output, h.size, fun j hj _ _ _ => h.block j hj, fun _ h => .inl h, fun _ h => .inl h⟩

theorem Pu.below {w w' : World} {b B : Nat} {vt vr vt' vr' : Value} (h : Pu w w' b vt vr vt' vr') (h0 : B ≤ w.heap.size) (h1 : B ≤ b) (h2 : ∀ g, vt.ownBlock = some g → B ≤ g) (h3 : ∀ g, vr.ownBlock = some g → B ≤ g) : Below B w w' :=
  ⟨h.os, h.tape, h.output, h.size, fun j hj => h.block j (by omega) (fun e => by omega) (fun e => by have := h2 j e.symm; omega) (fun e => by have := h3 j e.symm; omega)⟩

theorem own_setCell {w : World} {B e size n : Nat} {v : Value} {xs : List Value} (h : w.ownsRow B e size v n xs) (b k : Nat) (u : Value) (hb : ∀ g, v.ownBlock = some g → g ≠ b) : (w.setCell ⟨b, k, none⟩ u).ownsRow B e size v n xs := by
  refine ⟨h.1, ?_⟩
  rcases h.2 with hn | ⟨g, cap, cur, hv, hg, hgg, rest⟩
  · exact .inl hn
  · refine .inr ⟨g, cap, cur, hv, hg, ?_, rest⟩
    rw [Below.heap_setCell _ _ _ _ (hb g (by rw [hv]; rfl))]
    exact hgg

/-- what is left is put to nothing, and it is bad -/
theorem Um.gaveUp {w : World} {b B : Nat} {vt vr : Value} {T : List ByteArray} {rest : List UInt8} {bad : Bool} (h : Um w b B vt vr T rest bad) :
    Um ((w.setCell ⟨b, 1, none⟩ (.slice none 0 0)).setCell ⟨b, 2, none⟩ (.bool true)) b B vt (.slice none 0 0) T [] true ∧ Pu w ((w.setCell ⟨b, 1, none⟩ (.slice none 0 0)).setCell ⟨b, 2, none⟩ (.bool true)) b vt vr vt (.slice none 0 0) := by
  obtain ⟨h1, h2, h3, h4, h5, h6, h7, h8, h9, h10, h11, h12⟩ := h
  have e2 : (w.setCell ⟨b, 1, none⟩ (.slice none 0 0)).cell? ⟨b, 2, none⟩ = some (.bool bad) := by rw [World.cell?_setCell_other _ _ _ _ (by simp)]; exact h4
  refine ⟨⟨by simp; exact h1, ?_, ?_, World.cell?_setCell_same _ _ _ e2, by simp [World.frozen?_setCell]; exact h5, by simp [World.frozen?_setCell]; exact h6, by simp [World.frozen?_setCell]; exact h7, own_setCell (own_setCell h8 b 1 _ h10) b 2 _ h10, GRow.nil _ _, h10, fun g hg => by simp [Value.ownBlock] at hg, fun g _ => by simp [Value.ownBlock]⟩, ⟨rfl, rfl, rfl, by simp, fun j hj hjb _ _ => ?_, fun g hg => .inl hg, fun g hg => by simp [Value.ownBlock] at hg⟩⟩
  · rw [World.cell?_setCell_other _ _ _ _ (by simp), World.cell?_setCell_other _ _ _ _ (by simp)]; exact h2
  · rw [World.cell?_setCell_other _ _ _ _ (by simp)]; exact World.cell?_setCell_same _ _ _ h3
  · rw [Below.heap_setCell _ _ _ _ hjb, Below.heap_setCell _ _ _ _ hjb]

/-- what is left is put to nothing -/
theorem Um.cleared {w : World} {b B : Nat} {vt vr : Value} {T : List ByteArray} {rest : List UInt8} {bad : Bool} (h : Um w b B vt vr T rest bad) :
    Um (w.setCell ⟨b, 1, none⟩ (.slice none 0 0)) b B vt (.slice none 0 0) T [] bad ∧ Pu w (w.setCell ⟨b, 1, none⟩ (.slice none 0 0)) b vt vr vt (.slice none 0 0) := by
  obtain ⟨h1, h2, h3, h4, h5, h6, h7, h8, h9, h10, h11, h12⟩ := h
  refine ⟨⟨by simp; exact h1, ?_, World.cell?_setCell_same _ _ _ h3, ?_, by simp [World.frozen?_setCell]; exact h5, by simp [World.frozen?_setCell]; exact h6, by simp [World.frozen?_setCell]; exact h7, own_setCell h8 b 1 _ h10, GRow.nil _ _, h10, fun g hg => by simp [Value.ownBlock] at hg, fun g _ => by simp [Value.ownBlock]⟩, ⟨rfl, rfl, rfl, by simp, fun j hj hjb _ _ => ?_, fun g hg => .inl hg, fun g hg => by simp [Value.ownBlock] at hg⟩⟩
  · rw [World.cell?_setCell_other _ _ _ _ (by simp)]; exact h2
  · rw [World.cell?_setCell_other _ _ _ _ (by simp)]; exact h4
  · rw [Below.heap_setCell _ _ _ _ hjb]

set_option maxRecDepth 100000 in
set_option maxHeartbeats 4000000 in
theorem giveUp_any (w : World) (b B : Nat) (vt vr : Value) (T : List ByteArray) (rest : List UInt8) (bad : Bool) (h : Um w b B vt vr T rest bad) :
    Calls Try.prog 68 #[.pointer (some ⟨b, 0, none⟩)] w fun e w' => e = .returned (.tuple #[]) ∧ ∃ vr', Um w' b B vt vr' T [] true ∧ Pu w w' b vt vr vt vr' := by
  have HE := h.gaveUp
  have HH : Hid (type_of% HE) := HE
  obtain ⟨h1, h2, h3, h4, h5, h6, h7, h8, h9, h10, h11, h12⟩ := h
  have e2 : (w.setCell ⟨b, 1, none⟩ (.slice none 0 0)).cell? ⟨b, 2, none⟩ = some (.bool bad) := by rw [World.cell?_setCell_other _ _ _ _ (by simp)]; exact h4
  have z2 : (w.setCell ⟨b, 1, none⟩ (.slice none 0 0)).frozen? ⟨b, 2, none⟩ = false := by rw [World.frozen?_setCell]; exact h7
  clear HE h8 h9 h10 h11 h12
  go_enter Try.func68, Try.ntmps68
  go_wp2_with fail
  go_end0
  exact ⟨rfl, _, HH.out⟩

theorem isHead_any (w : World) (B : Nat) (v : Value) (l : List UInt8) (h : GRow w B v l) (h0 : 0 < l.length) :
    Calls Try.prog 67 #[v] w fun e w' => e = .returned (.bool (hdOk l)) ∧ w' = w := by
  obtain ⟨ao, cap, rfl, hlc, hcm⟩ := h.form
  unfold maxLen at hcm
  obtain ⟨g, rfl, hg, c0⟩ := h.cellB h0
  have hI0 : (0 : Int) < (l.length : Int) := by omega
  have q0 := UInt8.toNat_lt (l.getD 0 0)
  unfold hdOk
  by_cases h1 : l.getD 0 0 = 126
  · rw [decide_eq_true h1, Bool.true_and]
    rw [h1] at c0
    have c0' : w.cell? ⟨g, 0, none⟩ = some (.int .u8 126) := c0
    clear c0
    by_cases h2 : l.length < 2
    · rw [decide_eq_true h2, Bool.true_or]
      have h2' : (l.length : Int) < 2 := by omega
      clear h h2
      go_enter Try.func67, Try.ntmps67
      go_wp2_with fail
      go_ret
      exact ⟨rfl, rfl⟩
    · rw [decide_eq_false h2, Bool.false_or]
      have h2' : ¬ (l.length : Int) < 2 := by omega
      have h2'' : (1 : Int) < (l.length : Int) := by omega
      obtain ⟨g', hg', _, c1⟩ := h.cellB (i := 1) (by omega)
      simp only [Option.some.injEq, Addr.mk.injEq, and_true] at hg'
      subst hg'
      have q1 := UInt8.toNat_lt (l.getD 1 0)
      generalize (l.getD 1 0).toNat = n at c1 q1 ⊢
      have e : decide (n ≤ 60) = decide ((n : Int) ≤ 60) := by rw [decide_eq_decide]; omega
      rw [e]
      clear h h2
      go_enter Try.func67, Try.ntmps67
      go_wp2_with fail
      go_ret
      exact ⟨rfl, rfl⟩
  · rw [decide_eq_false h1, Bool.false_and]
    have hne : ¬ (((l.getD 0 0).toNat : Int) = 126) := by
      intro e
      apply h1
      apply UInt8.toNat_inj.1
      show (l.getD 0 0).toNat = 126
      omega
    generalize (l.getD 0 0).toNat = n at c0 q0 hne
    clear h h1
    go_enter Try.func67, Try.ntmps67
    go_wp2_with fail
    go_ret
    exact ⟨rfl, rfl⟩

theorem hasAll_any (w : World) (B : Nat) (v : Value) (l : List UInt8) (h : GRow w B v l) :
    Calls Try.prog 69 #[v] w fun e w' => e = .returned (.bool (allOk l)) ∧ w' = w := by
  obtain ⟨ao, cap, rfl, hlc, hcm⟩ := h.form
  unfold maxLen at hcm
  unfold allOk
  by_cases h2 : 2 ≤ l.length
  · rw [decide_eq_true h2, Bool.true_and]
    have h2' : (2 : Int) ≤ (l.length : Int) := by omega
    have h2'' : (1 : Int) < (l.length : Int) := by omega
    obtain ⟨g, rfl, hg, c1⟩ := h.cellB (i := 1) (by omega)
    have q1 := UInt8.toNat_lt (l.getD 1 0)
    generalize (l.getD 1 0).toNat = n at c1 q1 ⊢
    have e : decide (l.length = n + 3) = decide ((l.length : Int) = 2 + (n : Int) + 1) := by rw [decide_eq_decide]; omega
    rw [e]
    clear h h2
    go_enter Try.func69, Try.ntmps69
    go_wp2_with fail
    go_ret
    exact ⟨rfl, rfl⟩
  · rw [decide_eq_false h2, Bool.false_and]
    have h2' : ¬ (2 : Int) ≤ (l.length : Int) := by omega
    clear h h2
    go_enter Try.func69, Try.ntmps69
    go_wp2_with fail
    go_ret
    exact ⟨rfl, rfl⟩

end Go.Proofs.Ytcpjbacjmmbabaa
