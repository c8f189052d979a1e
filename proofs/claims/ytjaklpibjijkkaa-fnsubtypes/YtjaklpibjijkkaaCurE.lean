/- The cursor over bytes that came in; one of some texts. -/
import Derived.Test.YtjaklpibjijkkaaCurB
namespace Go.Proofs.Ytjaklpibjijkkaa
open Go.RowKit

/-- the bytes of a slice that came in -/
def CodeAt (w : World) (ao : Option Addr) (len : Nat) : Prop :=
  len ≤ 1048576 ∧ (0 < len → ∃ ab o, ao = some ⟨ab, o, none⟩ ∧ ab < w.heap.size ∧ ∀ i, i < len → ∃ x : Nat, x < 256 ∧ w.cell? ⟨ab, o + i, none⟩ = some (.int .u8 (x : Int)))

theorem CodeAt.below {w w' : World} {ao : Option Addr} {len : Nat} (h : CodeAt w ao len) (hb : Below w.heap.size w w') : CodeAt w' ao len := by
  refine ⟨h.1, fun hz => ?_⟩
  obtain ⟨ab, o, ha, hab, hx⟩ := h.2 hz
  refine ⟨ab, o, ha, by have := hb.size; omega, fun i hi => ?_⟩
  obtain ⟨x, hx1, hx2⟩ := hx i hi
  exact ⟨x, hx1, (hb.cell (p := ⟨ab, o + i, none⟩) hab).trans hx2⟩

theorem lit_cells (w : World) (t : TypeId) (l : List Int) (i : Nat) (h : i < l.length) :
    (w.alloc (.cells (l.map (Value.int .i64)).toArray t)).cell? ⟨w.heap.size, i, none⟩ = some (.int .i64 (l.getD i 0)) := by
  simp [List.getD, h]

theorem between (l : List Int) (lo hi : Int) (h : ∀ x ∈ l, lo ≤ x ∧ x ≤ hi) (i : Nat) (hi' : i < l.length) : lo ≤ l[i] ∧ l[i] ≤ hi := h _ (List.getElem_mem hi')

/-- a new cursor over the bytes that came in -/
theorem Cur.made {w : World} {ao : Option Addr} {len cap : Nat} (h : CodeAt w ao len) (t : TypeId) :
    Cur (w.alloc (.cells #[.slice ao len cap, .int .i64 0, .int .u64 0] t)) w.heap.size 0 := by
  refine ⟨ao, len, cap, 0, 0, by simp, by simp, by simp, by simp, by simp, by omega, h.1, fun hz => ?_⟩
  obtain ⟨ab, o, ha, hab, hx⟩ := h.2 hz
  refine ⟨ab, o, ha, hab, fun i hi => ?_⟩
  obtain ⟨x, hx1, hx2⟩ := hx i hi
  exact ⟨x, hx1, by rw [World.cell?_alloc_lt _ _ _ hab]; exact hx2⟩

set_option maxRecDepth 100000 in
set_option maxHeartbeats 4000000 in
theorem of_any (b m g len cap : Nat) (zs : Nat → ByteArray) (w : World) (hc : Cur w b m) (hm : m ≤ 1000000000) (hl : 0 < len) (hlc : len ≤ 1000) (hg : g ≠ b) (hz : ∀ i, i < len → w.cell? ⟨g, i, none⟩ = some (.string (zs i))) :
    Calls Try.prog 77 #[.pointer (some ⟨b, 0, none⟩), .slice (some ⟨g, 0, none⟩) len cap] w fun e w' => ∃ i, i < len ∧ e = .returned (.string (zs i)) ∧ Cur w' b (m + 2) ∧ w.grownBy w' (some b) := by
  go_enter Try.func77, Try.ntmps77
  go_wp2_with fail
  refine (pick_any b m _ _ hc hm).mono ?_
  rintro e w1 ⟨x, rfl, hx, hc1, hg1⟩
  have hx' : (x : Int) < (len : Int) := by omega
  have hxl : x < len := by omega
  have hcell : w1.cell? ⟨g, x, none⟩ = some (.string (zs x)) := hg1.cell (hz x hxl) (by simp; exact hg)
  clear hz hc hx
  go_wp2
  go_ret
  exact ⟨x, hxl, rfl, hc1, hg1⟩

end Go.Proofs.Ytjaklpibjijkkaa
