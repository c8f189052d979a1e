/- The program's reading of a stream: a byte put behind, a text told. -/
import Derived.Test.YtcpjbacjmmbabaaFxE
namespace Go.Proofs.Ytcpjbacjmmbabaa
open Go.RowKit Plain Tpc Frm

theorem own_asideF {w w' : World} {B e size n : Nat} {v : Value} {xs : List Value} {row : Option Nat} (h : w.ownsRow B e size v n xs) (hg : w.grownBy w' row) (hne : ∀ g, v.ownBlock = some g → some g ≠ row) : w'.ownsRow B e size v n xs := by
  have hlt := h.lt
  refine ⟨h.1, ?_⟩
  rcases h.2 with hn | ⟨g, cap, cur, hv, hgB, hgg, rest⟩
  · exact .inl hn
  · refine .inr ⟨g, cap, cur, hv, hgB, (hg.block g (hlt g (by rw [hv]; rfl)).2 (hne g (by rw [hv]; rfl))).trans hgg, rest⟩

theorem StRow.snocF {w9 : World} {B : Nat} {v : Value} {L : List ByteArray} {x : ByteArray} {n : Nat} {xs : List Value} (h : w9.ownsRow B 9 1 v n xs) (hn : n = L.length + 1) (hx : xs = strs L ++ [.string x]) : StRow w9 B v (L ++ [x]) := by
  unfold StRow strs at *
  rw [List.map_append, List.length_append, List.length_singleton]
  subst hn hx
  exact h

theorem pushR_end {w w9 : World} {b B g9 cap9 : Nat} {vt vr : Value} {T : List ByteArray} {rest : List UInt8} {bad : Bool} {x : UInt8} {o : Obj} (hC : Um w b B vt vr T rest bad)
    (hown9 : GRow w9 B (.slice (some ⟨g9, 0, none⟩) (rest.length + 1) cap9) (rest ++ [x])) (hgrow : (w.alloc o).grownBy w9 vr.ownBlock) (hat : vr.ownBlock = some g9 ∨ g9 = w.heap.size + 1) :
    Um (w9.setCell ⟨b, 1, none⟩ (.slice (some ⟨g9, 0, none⟩) (rest.length + 1) cap9)) b B vt (.slice (some ⟨g9, 0, none⟩) (rest.length + 1) cap9) T (rest ++ [x]) bad ∧
    Pu w (w9.setCell ⟨b, 1, none⟩ (.slice (some ⟨g9, 0, none⟩) (rest.length + 1) cap9)) b vt vr vt (.slice (some ⟨g9, 0, none⟩) (rest.length + 1) cap9) := by
  obtain ⟨h1, h2, h3, h4, h5, h6, h7, h8, h9, h10, h11, h12⟩ := hC
  have hB2 : Below w.heap.size w (w.alloc o) := (Below.refl _ w).alloc (Nat.le_refl _) o
  have hsz : w.heap.size + 1 ≤ w9.heap.size := by have := hgrow.size; simp at this; omega
  have hne : some b ≠ vr.ownBlock := fun e => h11 b e.symm rfl
  have hblk : w9.heap[b]? = w.heap[b]? := (hgrow.block b (by simp; omega) hne).trans (hB2.block b h1)
  have k0 : w9.cell? ⟨b, 0, none⟩ = some vt := (World.cell?_of_block (w := w) hblk).trans h2
  have k1 : w9.cell? ⟨b, 1, none⟩ = some vr := (World.cell?_of_block (w := w) hblk).trans h3
  have k2 : w9.cell? ⟨b, 2, none⟩ = some (.bool bad) := (World.cell?_of_block (w := w) hblk).trans h4
  have z0 : w9.frozen? ⟨b, 0, none⟩ = false := (World.frozen?_of_block (w := w) hblk).trans h5
  have z1 : w9.frozen? ⟨b, 1, none⟩ = false := (World.frozen?_of_block (w := w) hblk).trans h6
  have z2 : w9.frozen? ⟨b, 2, none⟩ = false := (World.frozen?_of_block (w := w) hblk).trans h7
  have hg9 : g9 ≠ b := by
    rcases hat with h | h
    · exact h11 g9 h
    · omega
  have hT9 : StRow w9 B vt T := own_asideF (own_belowY h8 hB2) hgrow (fun g hg e => h12 g hg e.symm)
  have hlt := World.ownsRow.lt h8
  refine ⟨⟨by simp; omega, ?_, World.cell?_setCell_same _ _ _ k1, ?_, by rw [World.frozen?_setCell]; exact z0, by rw [World.frozen?_setCell]; exact z1, by rw [World.frozen?_setCell]; exact z2, own_setCell hT9 b 1 _ h10, GRow.setCell hown9 b 1 _ (fun g hg => by simp [Value.ownBlock] at hg; omega), h10, fun g hg => by simp [Value.ownBlock] at hg; omega, fun g hg e => ?_⟩, ⟨?_, ?_, ?_, by simp; omega, fun j hj hjb ht hr => ?_, fun g hg => .inl hg, fun g hg => ?_⟩⟩
  · rw [World.cell?_setCell_other _ _ _ _ (by simp)]; exact k0
  · rw [World.cell?_setCell_other _ _ _ _ (by simp)]; exact k2
  · simp [Value.ownBlock] at e
    subst e
    rcases hat with h | h
    · exact h12 g9 hg h
    · have := (hlt g9 hg).2
      omega
  · exact hgrow.os.trans hB2.os
  · exact hgrow.tape.trans hB2.tape
  · exact hgrow.output.trans hB2.output
  · rw [Below.heap_setCell _ _ _ _ hjb, hgrow.block j (by simp; omega) hr, hB2.block j hj]
  · simp [Value.ownBlock] at hg
    subst hg
    rcases hat with h | h
    · exact .inl h
    · exact .inr (by omega)

theorem pushT_end {w w9 : World} {b B g9 cap9 : Nat} {vt vr : Value} {T : List ByteArray} {rest : List UInt8} {bad : Bool} {x : ByteArray} {o : Obj} (hC : Um w b B vt vr T rest bad)
    (hown9 : w9.ownsRow B 9 1 (.slice (some ⟨g9, 0, none⟩) (T.length + 1) cap9) (T.length + 1) (strs T ++ [.string x])) (hgrow : (w.alloc o).grownBy w9 vt.ownBlock) (hat : vt.ownBlock = some g9 ∨ g9 = w.heap.size + 1) :
    Um (w9.setCell ⟨b, 0, none⟩ (.slice (some ⟨g9, 0, none⟩) (T.length + 1) cap9)) b B (.slice (some ⟨g9, 0, none⟩) (T.length + 1) cap9) vr (T ++ [x]) rest bad ∧
    Pu w (w9.setCell ⟨b, 0, none⟩ (.slice (some ⟨g9, 0, none⟩) (T.length + 1) cap9)) b vt vr (.slice (some ⟨g9, 0, none⟩) (T.length + 1) cap9) vr := by
  obtain ⟨h1, h2, h3, h4, h5, h6, h7, h8, h9, h10, h11, h12⟩ := hC
  have hB2 : Below w.heap.size w (w.alloc o) := (Below.refl _ w).alloc (Nat.le_refl _) o
  have hsz : w.heap.size + 1 ≤ w9.heap.size := by have := hgrow.size; simp at this; omega
  have hne : some b ≠ vt.ownBlock := fun e => h10 b e.symm rfl
  have hblk : w9.heap[b]? = w.heap[b]? := (hgrow.block b (by simp; omega) hne).trans (hB2.block b h1)
  have k0 : w9.cell? ⟨b, 0, none⟩ = some vt := (World.cell?_of_block (w := w) hblk).trans h2
  have k1 : w9.cell? ⟨b, 1, none⟩ = some vr := (World.cell?_of_block (w := w) hblk).trans h3
  have k2 : w9.cell? ⟨b, 2, none⟩ = some (.bool bad) := (World.cell?_of_block (w := w) hblk).trans h4
  have z0 : w9.frozen? ⟨b, 0, none⟩ = false := (World.frozen?_of_block (w := w) hblk).trans h5
  have z1 : w9.frozen? ⟨b, 1, none⟩ = false := (World.frozen?_of_block (w := w) hblk).trans h6
  have z2 : w9.frozen? ⟨b, 2, none⟩ = false := (World.frozen?_of_block (w := w) hblk).trans h7
  have hg9 : g9 ≠ b := by
    rcases hat with h | h
    · exact h10 g9 h
    · omega
  have hR9 : GRow w9 B vr rest := (h9.below hB2).aside hgrow (fun g hg e => h12 g e.symm hg)
  have hlt := h9.lt
  refine ⟨⟨by simp; omega, World.cell?_setCell_same _ _ _ k0, ?_, ?_, by rw [World.frozen?_setCell]; exact z0, by rw [World.frozen?_setCell]; exact z1, by rw [World.frozen?_setCell]; exact z2, own_setCell (StRow.snocF hown9 rfl rfl) b 0 _ (fun g hg => by simp [Value.ownBlock] at hg; omega), hR9.setCell b 0 _ h11, fun g hg => by simp [Value.ownBlock] at hg; omega, h11, fun g hg e => ?_⟩, ⟨?_, ?_, ?_, by simp; omega, fun j hj hjb ht hr => ?_, fun g hg => ?_, fun g hg => .inl hg⟩⟩
  · rw [World.cell?_setCell_other _ _ _ _ (by simp)]; exact k1
  · rw [World.cell?_setCell_other _ _ _ _ (by simp)]; exact k2
  · simp [Value.ownBlock] at hg
    subst hg
    rcases hat with h | h
    · exact h12 g9 h e
    · have := (hlt g9 e).2
      omega
  · exact hgrow.os.trans hB2.os
  · exact hgrow.tape.trans hB2.tape
  · exact hgrow.output.trans hB2.output
  · rw [Below.heap_setCell _ _ _ _ hjb, hgrow.block j (by simp; omega) ht, hB2.block j hj]
  · simp [Value.ownBlock] at hg
    subst hg
    rcases hat with h | h
    · exact .inl h
    · exact .inr (by omega)

/-- the middle of a row of bytes, as a text -/
theorem GRow.convMid {w W : World} {B g n cap : Nat} {l : List UInt8} (h : GRow w B (.slice (some ⟨g, 0, none⟩) n cap) l) (hl : 3 ≤ l.length) (hW : ∀ i, W.cell? ⟨g, i, none⟩ = w.cell? ⟨g, i, none⟩) (c' : Nat) :
    (convert 51 9 (.slice (some ⟨g, 2, none⟩) (l.length - 3) c')).run Try.prog W = .ok (.string (tx (mid l))) W := by
  have hm : (mid l).length = l.length - 3 := by unfold mid; rw [List.length_take, List.length_drop]; omega
  rw [run_convert_bytes_arg W 51 5 Try.underlying51 Try.underlying5 g 2 (l.length - 3) c' ((mid l).map fun b => (b.toNat : Int)) (by rw [List.length_map, hm]) (fun i hi => by
    obtain ⟨g', hg', _, c⟩ := h.cellB (i := 2 + i) (by omega)
    simp only [Option.some.injEq, Addr.mk.injEq, and_true] at hg'
    subst hg'
    rw [hW, c]
    have e : (mid l)[i]? = some (l.getD (2 + i) 0) := by
      unfold mid
      rw [List.getElem?_take, if_pos (by omega), List.getElem?_drop, List.getElem?_eq_getElem (by omega), List.getD_eq_getElem?_getD, List.getElem?_eq_getElem (by omega)]
      rfl
    have e2 : ((mid l).map fun b => (b.toNat : Int)).getD i 0 = ((l.getD (2 + i) 0).toNat : Int) := by
      rw [List.getD_eq_getElem?_getD (l := (mid l).map fun b => (b.toNat : Int)), List.getElem?_map, e]
      rfl
    rw [e2]) 9 Try.underlying9]
  rw [Go.Lib.Lz.strOfNums_map]
  rfl

end Go.Proofs.Ytcpjbacjmmbabaa
