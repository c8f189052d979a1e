/- The numbers that the model draws: that a draw answers, within which bounds, and that it writes into its own memory alone. -/
import Derived.Test.YtegeapodhecjcaaCurB
namespace Go.Proofs.Ytegeapodhecjcaa
open Go.RowKit

/-- the bytes of a slice that came in -/
def CodeAt (w : World) (ao : Option Addr) (len : Nat) : Prop :=
  len ≤ 1048576 ∧ (0 < len → ∃ ab o, ao = some ⟨ab, o, none⟩ ∧ ab < w.heap.size ∧ ∀ i, i < len → ∃ x : Nat, x < 256 ∧ w.cell? ⟨ab, o + i, none⟩ = some (.int .u8 (x : Int)))

theorem CodeAt.below {w w' : World} {ao : Option Addr} {len : Nat} (h : CodeAt w ao len) (hb : Below w.heap.size w w') : CodeAt w' ao len := by
  refine ⟨h.1, fun hz => ?_⟩
  obtain ⟨ab, o, ha, hab, hx⟩ := h.2 hz
  refine ⟨ab, o, ha, by have := hb.size; omega, fun i hi => ?_⟩
  obtain ⟨x, hx1, hx2⟩ := hx i hi
  exact ⟨x, hx1, (hb.cell (p := ⟨ab, o + i, none⟩) hab).trans hx2⟩

theorem lit_cells (w : World) (t : TypeId) (l : List Int) (i : Nat) (h : i < l.length) :
    (w.alloc (.cells (l.map (Value.int .i64)).toArray t)).cell? ⟨w.heap.size, i, none⟩ = some (.int .i64 (l.getD i 0)) := by
  simp [List.getD, h]

theorem between (l : List Int) (lo hi : Int) (h : ∀ x ∈ l, lo ≤ x ∧ x ≤ hi) (i : Nat) (hi' : i < l.length) : lo ≤ l[i] ∧ l[i] ≤ hi := h _ (List.getElem_mem hi')

/-- a new cursor over the bytes that came in -/
theorem Cur.made {w : World} {ao : Option Addr} {len cap : Nat} (h : CodeAt w ao len) (t : TypeId) :
    Cur (w.alloc (.cells #[.slice ao len cap, .int .i64 0, .int .u64 0] t)) w.heap.size 0 := by
  refine ⟨ao, len, cap, 0, 0, by simp, by simp, by simp, by simp, by simp, by omega, h.1, fun hz => ?_⟩
  obtain ⟨ab, o, ha, hab, hx⟩ := h.2 hz
  refine ⟨ab, o, ha, hab, fun i hi => ?_⟩
  obtain ⟨x, hx1, hx2⟩ := hx i hi
  exact ⟨x, hx1, by rw [World.cell?_alloc_lt _ _ _ hab]; exact hx2⟩

set_option maxRecDepth 100000 in
set_option maxHeartbeats 4000000 in
theorem number_any (b m : Nat) (w : World) (hc : Cur w b m) (hm : m ≤ 900000000) :
    Calls Try.prog 21 #[.pointer (some ⟨b, 0, none⟩)] w fun e w' => ∃ n : Int, e = .returned (.int .i64 n) ∧ -1000000001 ≤ n ∧ n ≤ 1000000001 ∧ Cur w' b (m + 4) ∧ w.grownBy w' (some b) := by
  go_enter Try.func21, Try.ntmps21
  go_wp2_with fail
  refine (pick_any b m _ _ hc (by omega)).mono ?_
  rintro e w1 ⟨x, rfl, hx, hc1, hg1⟩
  clear hc hx
  by_cases h0 : x = 0
  · have e0 : ((x : Int) == 0) = true := by simp [h0]
    clear h0
    go_wp2_with fail
    refine (among_any b (m + 2) w1.heap.size 10 10 (fun i => [-1000000001, -1000000000, -1, 0, 63, 64, -64, -65, 1000000000, 1000000001].getD i 0) _ (hc1.alloc _) (by omega) (by omega) (by omega) (by have := hc1.lt; omega) (fun i hi => lit_cells w1 _ [-1000000001, -1000000000, -1, 0, 63, 64, -64, -65, 1000000000, 1000000001] i hi)).mono ?_
    rintro e w2 ⟨i, hi, rfl, hc2, hg2⟩
    go_wp2
    go_ret
    have hbt := between [-1000000001, -1000000000, -1, 0, 63, 64, -64, -65, 1000000000, 1000000001] (-1000000001) 1000000001 (by decide) i hi
    exact ⟨_, rfl, hbt.1, hbt.2, hc2, Lib.grownBy_trans (Lib.grownBy_allocR hg1 _) hg2⟩
  · have e0 : ((x : Int) == 0) = false := by simp [h0]
    by_cases h1 : x = 1
    · have e1 : ((x : Int) == 1) = true := by simp [h1]
      clear h0 h1
      go_wp2_with fail
      refine (pick_any b (m + 2) _ _ hc1 (by omega)).mono ?_
      rintro e w2 ⟨y, rfl, hy, hc2, hg2⟩
      have hy' : y < 100000 := by omega
      clear hy
      go_wp2
      go_ret
      exact ⟨_, rfl, by omega, by omega, hc2, Lib.grownBy_trans hg1 hg2⟩
    · have e1 : ((x : Int) == 1) = false := by simp; omega
      clear h0 h1
      go_wp2_with fail
      refine (pick_any b (m + 2) _ _ hc1 (by omega)).mono ?_
      rintro e w2 ⟨y, rfl, hy, hc2, hg2⟩
      have hy' : y < 20 := by omega
      clear hy
      go_wp2
      go_ret
      exact ⟨_, rfl, by omega, by omega, hc2, Lib.grownBy_trans hg1 hg2⟩


set_option maxRecDepth 100000 in
set_option maxHeartbeats 4000000 in
theorem drawVarintOf_any (ao : Option Addr) (len cap : Nat) (w : World) (hcode : CodeAt w ao len) :
    Calls Try.prog 4 #[.slice ao len cap] w fun e w' => ∃ n : Int, e = .returned (.int .i64 n) ∧ -1 ≤ n ∧ n ≤ 2000000100 ∧ Below w.heap.size w w' := by
  have hc0 := Cur.made (cap := cap) hcode 36
  go_enter Try.func4, Try.ntmps4
  go_wp2_with fail
  refine (among_any w.heap.size 0 (w.heap.size + 1) 8 8 (fun i => [-1, 0, 127, 128, 16383, 16384, 2000000001, 2000000002].getD i 0) _ (hc0.alloc _) (by omega) (by omega) (by omega) (by omega) (fun i hi => by have := lit_cells (w.alloc (.cells #[.slice ao len cap, .int .i64 0, .int .u64 0] 36)) 3 [-1, 0, 127, 128, 16383, 16384, 2000000001, 2000000002] i hi; simpa using this)).mono ?_
  rintro e w1 ⟨i, hi, rfl, hc1, hg1⟩
  have hb0 : Below w.heap.size w w1 := (((Below.refl _ _).alloc (Nat.le_refl _) _).alloc (by simp) _).grown hg1 (by simp; omega) (fun k hk => by simp at hk; omega)
  clear hg1 hc0
  have hbt := between [-1, 0, 127, 128, 16383, 16384, 2000000001, 2000000002] (-1) 2000000002 (by decide) i hi
  obtain ⟨v, hv⟩ : ∃ v, v = [-1, 0, 127, 128, 16383, 16384, 2000000001, 2000000002].getD i 0 := ⟨_, rfl⟩
  have hv1 : -1 ≤ v ∧ v ≤ 2000000002 := by rw [hv]; simpa [List.getD, hi] using hbt
  rw [← hv]
  clear hv hbt
  go_wp2_with fail
  refine (pick_any w.heap.size 2 _ _ hc1 (by omega)).mono ?_
  rintro e w2 ⟨x, rfl, hx, hc2, hg2⟩
  have hx2 : x ≤ 1 := by omega
  have hb1 : Below w.heap.size w w2 := hb0.grown hg2 (by have := hb0.size; omega) (fun k hk => by simp at hk; omega)
  clear hg2 hc1 hx hb0
  go_wp2_with fail
  refine (pick_any w.heap.size 4 _ _ hc2 (by omega)).mono ?_
  rintro e w3 ⟨y, rfl, hy, hc3, hg3⟩
  have hy2 : y ≤ 49 := by omega
  have hb2 : Below w.heap.size w w3 := hb1.grown hg3 (by have := hb1.size; omega) (fun k hk => by simp at hk; omega)
  clear hg3 hc2 hy hb1 hc3
  have hxy : (x : Int) * (y : Int) ≤ 49 := by
    have h01 : x = 0 ∨ x = 1 := by omega
    rcases h01 with rfl | rfl
    · simp
    · simp; omega
  have hxy0 : 0 ≤ (x : Int) * (y : Int) := Int.mul_nonneg (by omega) (by omega)
  go_wp2
  go_ret
  exact ⟨_, rfl, by omega, by omega, hb2⟩

set_option maxRecDepth 100000 in
set_option maxHeartbeats 4000000 in
theorem drawUnfoldNumber_any (ao : Option Addr) (len cap : Nat) (w : World) (hcode : CodeAt w ao len) :
    Calls Try.prog 12 #[.slice ao len cap] w fun e w' => ∃ n : Int, e = .returned (.int .i64 n) ∧ -1 ≤ n ∧ n ≤ 2000000100 ∧ Below w.heap.size w w' := by
  go_enter Try.func12, Try.ntmps12
  go_wp2_with fail
  refine (drawVarintOf_any ao len cap _ hcode).mono ?_
  rintro e w1 ⟨n, rfl, h1, h2, hb⟩
  go_wp2
  go_ret
  exact ⟨n, rfl, h1, h2, hb⟩

set_option maxRecDepth 100000 in
set_option maxHeartbeats 4000000 in
theorem drawFoldNumber_any (ao : Option Addr) (len cap : Nat) (w : World) (hcode : CodeAt w ao len) :
    Calls Try.prog 8 #[.slice ao len cap] w fun e w' => ∃ n : Int, e = .returned (.int .i64 n) ∧ -1000000001 ≤ n ∧ n ≤ 1000000001 ∧ Below w.heap.size w w' := by
  have hc0 := Cur.made (cap := cap) hcode 36
  go_enter Try.func8, Try.ntmps8
  go_wp2_with fail
  refine (number_any w.heap.size 0 _ hc0 (by omega)).mono ?_
  rintro e w1 ⟨n, rfl, h1, h2, hc1, hg1⟩
  have hb0 : Below w.heap.size w w1 := ((Below.refl _ _).alloc (Nat.le_refl _) _).grown hg1 (by simp) (fun k hk => by simp at hk; omega)
  clear hg1 hc0 hc1
  go_wp2
  go_ret
  exact ⟨n, rfl, h1, h2, hb0⟩

end Go.Proofs.Ytegeapodhecjcaa
