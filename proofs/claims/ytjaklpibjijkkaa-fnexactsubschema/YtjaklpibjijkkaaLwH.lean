/- The law's own looks at marks in schemas; four cells that stay. -/
import Derived.Test.YtjaklpibjijkkaaLwM
import Derived.Test.YtjaklpibjijkkaaLwA
import Derived.Test.YtjaklpibjijkkaaFlE
namespace Go.Proofs.Ytjaklpibjijkkaa
open Go.RowKit Plain Sch

set_option maxRecDepth 100000 in
set_option maxHeartbeats 1000000 in
theorem heldSchema_any (n k : Nat) (v : Value) (w : World) (h : MarksAtT w w.heap.size v n k) (hn : n ≤ 2097152) (hk1 : 1 ≤ k) (hk2 : k ≤ 100000000) :
    Calls Try.prog 17 #[.agg #[v], .int .i64 k] w fun e w' => e = .returned (.int .i64 ((k + n * 6 : Nat) : Int)) ∧ Below w.heap.size w w' := by
  have HM : Hid (MarksAtT w w.heap.size v n k) := h
  obtain ⟨ar, capr, rfl, _⟩ := h
  have hB1 : Below w.heap.size w (w.alloc (.cells #[.slice ar n capr] 30)) := (Below.refl _ w).alloc (Nat.le_refl _) _
  have hge : (0 : Int) ≤ ((k + n * 6 : Nat) : Int) := by omega
  go_enter Try.func17, Try.ntmps17
  go_wp2_with fail
  refine (heldT_any n k _ _ (HM.out.below hB1) hn hk1 hk2).mono ?_
  rintro e w2 ⟨rfl, hb2⟩
  have hB2 : Below w.heap.size w w2 := hB1.trans (hb2.mono (by simp))
  clear hb2
  go_wp2
  go_ret
  exact ⟨rfl, hB2⟩

theorem far_cell {w w' : World} {row : Option Nat} (hg : w.grownBy w' row) {b : Nat} {x : Value} (h : w.cell? ⟨b, 0, none⟩ = some x) (hb : b < w.heap.size) (hne : some b ≠ row) : w'.cell? ⟨b, 0, none⟩ = some x := (hg.cell_far ⟨b, 0, none⟩ hb hne).trans h

theorem TyRow.far {w w' : World} {B : Nat} {v : Value} {L : List Ty} {row : Option Nat} (h : TyRow w B v L) (hg : w.grownBy w' row) (hne : ∀ g, v.ownBlock = some g → some g ≠ row) : TyRow w' B v L := by
  have hlt := h.lt
  refine ⟨h.1, ?_⟩
  rcases h.2 with hn | ⟨g, cap, cur, hv, hgB, hgg, rest⟩
  · exact .inl hn
  · refine .inr ⟨g, cap, cur, hv, hgB, (hg.block g (hlt g (by rw [hv]; rfl)).2 (hne g (by rw [hv]; rfl))).trans hgg, rest⟩

end Go.Proofs.Ytjaklpibjijkkaa
