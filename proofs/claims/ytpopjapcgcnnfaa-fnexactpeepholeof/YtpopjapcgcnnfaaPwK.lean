/- The law's own marks in programs. -/
import Derived.Test.YtpopjapcgcnnfaaMarkIn
import Derived.Test.YtpopjapcgcnnfaaPwA
import Derived.Test.YtpopjapcgcnnfaaPwB
import Derived.Test.YtpopjapcgcnnfaaCpA
namespace Go.Proofs.Ytpopjapcgcnnfaa
open Go.RowKit Plain Sch Wan Prg

theorem ownSliceI {w : World} {B e size n : Nat} {v : Value} {xs : List Value} (h : w.ownsRow B e size v n xs) : ∃ ao cap, v = Value.slice ao n cap ∧ n ≤ cap ∧ cap ≤ maxLen := by
  rcases h.2 with ⟨rfl, rfl⟩ | ⟨g, cap, cur, rfl, _, _, h1, h2, _⟩
  · exact ⟨none, 0, rfl, by omega, by unfold maxLen; omega⟩
  · exact ⟨_, _, rfl, h1, h2⟩

theorem far_cellI {w w' : World} {row : Option Nat} (hg : w.grownBy w' row) {b : Nat} {x : Value} (h : w.cell? ⟨b, 0, none⟩ = some x) (hb : b < w.heap.size) (hne : some b ≠ row) : w'.cell? ⟨b, 0, none⟩ = some x := (hg.cell_far ⟨b, 0, none⟩ hb hne).trans h

set_option maxRecDepth 100000 in
set_option maxHeartbeats 1000000 in
theorem markProgram_any (B n k : Nat) (v : Value) (xs : List Value) (w : World) (hown : w.ownsRow B 76 6 v n xs) (hn : n ≤ 2097152) (hk1 : 1 ≤ k) (hk2 : k ≤ 100000000) :
    Calls Try.prog 26 #[.agg #[v], .int .i64 k] w fun e w' => e = .returned (.int .i64 ((k + n * 6 : Nat) : Int)) ∧ (∃ ys, w'.ownsRow B 76 6 v n ys ∧ ∀ j, j < n * 6 → ys[j]? = some (mcIn k j)) ∧ w.grownBy w' v.ownBlock := by
  obtain ⟨ar, capr, hrv⟩ : ∃ ao cap, v = Value.slice ao n cap := by
    rcases hown.2 with ⟨rfl, h0⟩ | ⟨g, cap, _, rfl, _⟩
    · exact ⟨none, 0, by rw [h0]⟩
    · exact ⟨_, _, rfl⟩
  subst hrv
  have HO : Hid (w.ownsRow B 76 6 (.slice ar n capr) n xs) := hown
  clear hown
  go_enter Try.func26, Try.ntmps26
  go_wp2_with fail
  refine (markIn_any B n k _ _ _ (HO.out.alloc _) hn hk1 hk2).mono ?_
  rintro e w2 ⟨rfl, ⟨ys, hy1, hy2⟩, hb2⟩
  have HY : Hid (∃ ys, w2.ownsRow B 76 6 (.slice ar n capr) n ys ∧ ∀ j, j < n * 6 → ys[j]? = some (mcIn k j)) := ⟨ys, hy1, hy2⟩
  clear hy1 hy2
  go_wp2
  go_ret
  exact ⟨rfl, HY.out, Lib.grownBy_trans (grow_belowIn ((Below.refl _ w).alloc (Nat.le_refl _) _)) hb2⟩

set_option maxRecDepth 100000 in
set_option maxHeartbeats 1000000 in
theorem heldProgram_any (n k : Nat) (v : Value) (w : World) (h : MarksAtIn w w.heap.size v n k) (hn : n ≤ 2097152) (hk1 : 1 ≤ k) (hk2 : k ≤ 100000000) :
    Calls Try.prog 27 #[.agg #[v], .int .i64 k] w fun e w' => e = .returned (.int .i64 ((k + n * 6 : Nat) : Int)) ∧ Below w.heap.size w w' := by
  have HM : Hid (MarksAtIn w w.heap.size v n k) := h
  obtain ⟨ar, capr, rfl, _⟩ := h
  have hB1 : Below w.heap.size w (w.alloc (.cells #[.slice ar n capr] 29)) := (Below.refl _ w).alloc (Nat.le_refl _) _
  have hge : (0 : Int) ≤ ((k + n * 6 : Nat) : Int) := by omega
  go_enter Try.func27, Try.ntmps27
  go_wp2_with fail
  refine (heldIn_any n k _ _ (HM.out.below hB1) hn hk1 hk2).mono ?_
  rintro e w2 ⟨rfl, hb2⟩
  have hB2 : Below w.heap.size w w2 := hB1.trans (hb2.mono (by simp))
  clear hb2
  go_wp2
  go_ret
  exact ⟨rfl, hB2⟩

theorem IRow.far {w w' : World} {B : Nat} {v : Value} {L : List Ins} {row : Option Nat} (h : IRow w B v L) (hg : w.grownBy w' row) (hne : ∀ g, v.ownBlock = some g → some g ≠ row) : IRow w' B v L := by
  have hlt := h.lt
  refine ⟨h.1, ?_⟩
  rcases h.2 with hn | ⟨g, cap, cur, hv, hgB, hgg, rest⟩
  · exact .inl hn
  · refine .inr ⟨g, cap, cur, hv, hgB, (hg.block g (hlt g (by rw [hv]; rfl)).2 (hne g (by rw [hv]; rfl))).trans hgg, rest⟩

end Go.Proofs.Ytpopjapcgcnnfaa
