/- The cursor from which the model draws: what one call of next does to it. The cursor from which the model draws: pick, one, among. The cursor over bytes that came in; one of some texts. -/
import Derived.Test.YtnlppeieccbhgaaRows
import Derived.WalkKit
import Derived.ProofKit
import Derived.Deep.QuietTactic
import Derived.BigQuiet
import Derived.Lib.BufferOwn
import Derived.Laws.BitsAllLaws
namespace Go.Proofs.Ytnlppeieccbhgaa
open Go.RowKit

/-- w' is w but for the cursor's place and seed -/
def Stepped (w w' : World) (b : Nat) (p : Int) (S : Int) : Prop :=
  w'.heap = ((w.setCell ⟨b, 1, none⟩ (.int .i64 p)).setCell ⟨b, 2, none⟩ (.int .u64 S)).heap ∧ w'.os = w.os ∧ w'.tape = w.tape ∧ w'.output = w.output

theorem u64_fits (n : Int) : 0 ≤ IntKind.u64.wrap n ∧ IntKind.u64.wrap n < 18446744073709551616 := by
  rw [IntKind.wrap_u64]; omega

theorem byte_of (n : Int) (h0 : 0 ≤ n) (h1 : n < 18446744073709551616) : 0 ≤ bits .and .u64 n 255 ∧ bits .and .u64 n 255 ≤ 255 := by
  obtain ⟨k, rfl⟩ := Int.eq_ofNat_of_zero_le h0
  have := u64_and_nat k 255 (by omega) (by omega)
  have e : bits .and .u64 (k : Int) 255 = ((k &&& 255 : Nat) : Int) := this
  rw [e, nat_mask8]
  omega

theorem byte_fits (m : Int) : 0 ≤ wrap64 (bits .and .u64 (IntKind.u64.wrap m / 1099511627776) 255) ∧ wrap64 (bits .and .u64 (IntKind.u64.wrap m / 1099511627776) 255) ≤ 255 := by
  have h := u64_fits m
  have hb := byte_of (IntKind.u64.wrap m / 1099511627776) (by omega) (by omega)
  unfold wrap64
  omega

set_option maxRecDepth 100000 in
set_option maxHeartbeats 4000000 in
theorem next_in (b len cap pos seed ab o x : Nat) (w : World) (h0 : w.cell? ⟨b, 0, none⟩ = some (.slice (some ⟨ab, o, none⟩) len cap)) (h1 : w.cell? ⟨b, 1, none⟩ = some (.int .i64 (pos : Int))) (h2 : w.cell? ⟨b, 2, none⟩ = some (.int .u64 (seed : Int)))
    (f1 : w.frozen? ⟨b, 1, none⟩ = false) (f2 : w.frozen? ⟨b, 2, none⟩ = false) (hp : (pos : Int) < (len : Int)) (hl : len ≤ 1048576) (hx : w.cell? ⟨ab, o + pos, none⟩ = some (.int .u8 (x : Int))) (hx256 : x < 256) :
    Calls Try.prog 109 #[.pointer (some ⟨b, 0, none⟩)] w fun e w' => e = .returned (.int .i64 (x : Int)) ∧ ∃ S : Int, 0 ≤ S ∧ S < 18446744073709551616 ∧ Stepped w w' b ((pos : Int) + 1) S := by
  go_enter Try.func109, Try.ntmps109
  go_wp2
  go_quiet (fail)
  go_wp2
  go_quiet (fail)
  go_wp2
  go_quiet (fail)
  go_wp2
  go_ret
  exact ⟨rfl, _, (u64_fits _).1, (u64_fits _).2, rfl, rfl, rfl, rfl⟩

set_option maxRecDepth 100000 in
set_option maxHeartbeats 4000000 in
theorem next_out (b len cap pos seed : Nat) (ao : Option Addr) (w : World) (h0 : w.cell? ⟨b, 0, none⟩ = some (.slice ao len cap)) (h1 : w.cell? ⟨b, 1, none⟩ = some (.int .i64 (pos : Int))) (h2 : w.cell? ⟨b, 2, none⟩ = some (.int .u64 (seed : Int)))
    (f1 : w.frozen? ⟨b, 1, none⟩ = false) (f2 : w.frozen? ⟨b, 2, none⟩ = false) (hp : (len : Int) ≤ (pos : Int)) (hq : pos ≤ 1099511627776) :
    Calls Try.prog 109 #[.pointer (some ⟨b, 0, none⟩)] w fun e w' => ∃ x : Int, e = .returned (.int .i64 x) ∧ 0 ≤ x ∧ x ≤ 255 ∧ ∃ S : Int, 0 ≤ S ∧ S < 18446744073709551616 ∧ Stepped w w' b ((pos : Int) + 1) S := by
  have hd : decide ((pos : Int) < (len : Int)) = false := by simp; omega
  go_enter Try.func109, Try.ntmps109
  go_wp2
  go_quiet (fail)
  go_wp2
  go_quiet (fail)
  go_wp2
  go_ret
  exact ⟨_, rfl, (byte_fits _).1, (byte_fits _).2, _, (u64_fits _).1, (u64_fits _).2, rfl, rfl, rfl, rfl⟩

/-- the cursor at block b: its text, its place (at most n), its seed -/
def Cur (w : World) (b n : Nat) : Prop :=
  ∃ (ao : Option Addr) (len cap pos seed : Nat), w.cell? ⟨b, 0, none⟩ = some (.slice ao len cap) ∧ w.cell? ⟨b, 1, none⟩ = some (.int .i64 (pos : Int)) ∧ w.cell? ⟨b, 2, none⟩ = some (.int .u64 (seed : Int)) ∧
    w.frozen? ⟨b, 1, none⟩ = false ∧ w.frozen? ⟨b, 2, none⟩ = false ∧ pos ≤ n ∧ len ≤ 1048576 ∧
    (0 < len → ∃ ab o, ao = some ⟨ab, o, none⟩ ∧ ab < b ∧ ∀ i, i < len → ∃ x : Nat, x < 256 ∧ w.cell? ⟨ab, o + i, none⟩ = some (.int .u8 (x : Int)))

theorem Cur.lt {w : World} {b n : Nat} (h : Cur w b n) : b < w.heap.size := by
  obtain ⟨ao, len, cap, pos, seed, h0, _⟩ := h
  exact World.block_lt_of_cell? w _ h0

theorem Cur.le {w : World} {b n m : Nat} (h : Cur w b n) (hm : n ≤ m) : Cur w b m := by
  obtain ⟨ao, len, cap, pos, seed, h0, h1, h2, f1, f2, hp, hl, hr⟩ := h
  exact ⟨ao, len, cap, pos, seed, h0, h1, h2, f1, f2, by omega, hl, hr⟩

theorem Cur.below {w w' : World} {b n : Nat} (h : Cur w b n) (hb : Below (b + 1) w w') : Cur w' b n := by
  obtain ⟨ao, len, cap, pos, seed, h0, h1, h2, f1, f2, hp, hl, hr⟩ := h
  have hc : ∀ k i, k < b + 1 → w'.cell? ⟨k, i, none⟩ = w.cell? ⟨k, i, none⟩ := fun k i hk => hb.cell (p := ⟨k, i, none⟩) hk
  have hf : ∀ k i, k < b + 1 → w'.frozen? ⟨k, i, none⟩ = w.frozen? ⟨k, i, none⟩ := fun k i hk => hb.frozen (p := ⟨k, i, none⟩) hk
  refine ⟨ao, len, cap, pos, seed, by rw [hc _ _ (by omega)]; exact h0, by rw [hc _ _ (by omega)]; exact h1, by rw [hc _ _ (by omega)]; exact h2, by rw [hf _ _ (by omega)]; exact f1, by rw [hf _ _ (by omega)]; exact f2, hp, hl, fun hz => ?_⟩
  obtain ⟨ab, o, ha, hab, hx⟩ := hr hz
  refine ⟨ab, o, ha, hab, fun i hi => ?_⟩
  obtain ⟨x, hx1, hx2⟩ := hx i hi
  exact ⟨x, hx1, by rw [hc _ _ (by omega)]; exact hx2⟩

theorem Cur.alloc {w : World} {b n : Nat} (h : Cur w b n) (o : Obj) : Cur (w.alloc o) b n :=
  h.below ((Below.refl _ _).alloc h.lt o)

theorem Cur.drew {w : World} {b n : Nat} (h : Cur w b n) : Cur w.drew b n :=
  h.below (Below.refl _ _).drew

theorem Cur.grown {w w' : World} {b n : Nat} {row : Option Nat} (h : Cur w b n) (hg : w.grownBy w' row) (hr : ∀ k, row = some k → b < k) : Cur w' b n :=
  h.below ((Below.refl _ _).grown hg h.lt (fun k hk => hr k hk))

theorem cell_heap {w w' : World} (h : w'.heap = w.heap) (a : Addr) : w'.cell? a = w.cell? a := World.cell?_of_block (by rw [h])
theorem frozen_heap {w w' : World} (h : w'.heap = w.heap) (a : Addr) : w'.frozen? a = w.frozen? a := World.frozen?_of_block (by rw [h])

theorem Stepped.grown {w w' : World} {b : Nat} {p S : Int} (h : Stepped w w' b p S) : w.grownBy w' (some b) := by
  have g := Lib.grownBy_setB (Lib.grownBy_setCell w b 1 (.int .i64 p)) 2 (.int .u64 S)
  exact ⟨h.2.1, h.2.2.1, h.2.2.2, by rw [h.1]; exact g.size, fun k hk hne => by rw [h.1]; exact g.block k hk hne⟩

theorem Stepped.cur {w w' : World} {b n pos : Nat} {S : Int} (hc : Cur w b n) (h1 : w.cell? ⟨b, 1, none⟩ = some (.int .i64 (pos : Int))) (h : Stepped w w' b ((pos : Int) + 1) S) (hS : 0 ≤ S) : Cur w' b (n + 1) := by
  obtain ⟨ao, len, cap, pos', seed, h0, h1', h2, f1, f2, hp, hl, hr⟩ := hc
  obtain rfl : pos' = pos := by rw [h1] at h1'; simp at h1'; omega
  obtain ⟨s, rfl⟩ := Int.eq_ofNat_of_zero_le hS
  have e0 : w'.cell? ⟨b, 0, none⟩ = some (.slice ao len cap) := by
    rw [cell_heap h.1, World.cell?_setCell_other _ _ _ _ (by simp), World.cell?_setCell_other _ _ _ _ (by simp)]; exact h0
  have e1 : w'.cell? ⟨b, 1, none⟩ = some (.int .i64 ((pos' : Int) + 1)) := by
    rw [cell_heap h.1, World.cell?_setCell_other _ _ _ _ (by simp)]; exact World.cell?_setCell_same _ _ _ h1
  have e2 : w'.cell? ⟨b, 2, none⟩ = some (.int .u64 (s : Int)) := by
    rw [cell_heap h.1]
    exact World.cell?_setCell_same _ _ _ ((World.cell?_setCell_other _ _ _ _ (by simp)).trans h2)
  refine ⟨ao, len, cap, pos' + 1, s, e0, by rw [e1]; simp, e2, by rw [frozen_heap h.1]; simpa using f1, by rw [frozen_heap h.1]; simpa using f2, by omega, hl, fun hz => ?_⟩
  obtain ⟨ab, o, ha, hab, hx⟩ := hr hz
  refine ⟨ab, o, ha, hab, fun i hi => ?_⟩
  obtain ⟨x, hx1, hx2⟩ := hx i hi
  exact ⟨x, hx1, h.grown.cell hx2 (by simp; omega)⟩

theorem next_any (b n : Nat) (w : World) (hc : Cur w b n) (hn : n ≤ 1099511627776) :
    Calls Try.prog 109 #[.pointer (some ⟨b, 0, none⟩)] w fun e w' => ∃ x : Nat, e = .returned (.int .i64 (x : Int)) ∧ x ≤ 255 ∧ Cur w' b (n + 1) ∧ w.grownBy w' (some b) := by
  have hc' := hc
  obtain ⟨ao, len, cap, pos, seed, h0, h1, h2, f1, f2, hp, hl, hr⟩ := hc
  by_cases hlt : pos < len
  · obtain ⟨ab, o, rfl, hab, hx⟩ := hr (by omega)
    obtain ⟨x, hx1, hx2⟩ := hx pos hlt
    refine (next_in b len cap pos seed ab o x w h0 h1 h2 f1 f2 (by omega) hl hx2 hx1).mono ?_
    rintro e w' ⟨rfl, S, hS, _, hst⟩
    exact ⟨x, rfl, by omega, hst.cur hc' h1 hS, hst.grown⟩
  · refine (next_out b len cap pos seed ao w h0 h1 h2 f1 f2 (by omega) (by omega)).mono ?_
    rintro e w' ⟨x, rfl, hx0, hx1, S, hS, _, hst⟩
    obtain ⟨y, rfl⟩ := Int.eq_ofNat_of_zero_le hx0
    exact ⟨y, rfl, by omega, hst.cur hc' h1 hS, hst.grown⟩

end Go.Proofs.Ytnlppeieccbhgaa

namespace Go.Proofs.Ytnlppeieccbhgaa
open Go.RowKit

set_option maxRecDepth 100000 in
set_option maxHeartbeats 4000000 in
theorem pick_any (b m : Nat) (k : Int) (w : World) (hc : Cur w b m) (hm : m ≤ 1000000000) :
    Calls Try.prog 82 #[.pointer (some ⟨b, 0, none⟩), .int .i64 k] w fun e w' => ∃ x : Nat, e = .returned (.int .i64 (x : Int)) ∧ ((x : Int) < k ∨ x = 0) ∧ Cur w' b (m + 2) ∧ w.grownBy w' (some b) := by
  by_cases h1 : k ≤ 1
  · go_enter Try.func82, Try.ntmps82
    go_wp2
    go_ret
    exact ⟨0, rfl, .inr rfl, hc.le (by omega), World.grownBy.refl _ _⟩
  have h1' : 1 < k := by omega
  clear h1
  by_cases h2 : 200 < k
  · go_enter Try.func82, Try.ntmps82
    go_wp2_with fail
    refine (next_any b m _ hc (by omega)).mono ?_
    rintro e w1 ⟨x, rfl, hx, hc1, hg1⟩
    go_wp2_with fail
    refine (next_any b (m + 1) _ hc1 (by omega)).mono ?_
    rintro e w2 ⟨y, rfl, hy, hc2, hg2⟩
    clear hc1 hc
    go_wp2
    go_ret
    obtain ⟨z, hz⟩ : ∃ z : Nat, (z : Int) = ((x : Int) * 256 + (y : Int)) % k := ⟨(((x : Int) * 256 + (y : Int)) % k).toNat, Int.toNat_of_nonneg (Int.emod_nonneg _ (by omega))⟩
    refine ⟨z, ?_, .inl (by rw [hz]; exact Int.emod_lt_of_pos _ (by omega)), hc2, Lib.grownBy_trans hg1 hg2⟩
    rw [hz]; rfl
  · have h2' : k ≤ 200 := by omega
    clear h2
    go_enter Try.func82, Try.ntmps82
    go_wp2_with fail
    refine (next_any b m _ hc (by omega)).mono ?_
    rintro e w1 ⟨x, rfl, hx, hc1, hg1⟩
    clear hc
    go_wp2
    go_ret
    obtain ⟨z, hz⟩ : ∃ z : Nat, (z : Int) = (x : Int) % k := ⟨((x : Int) % k).toNat, Int.toNat_of_nonneg (Int.emod_nonneg _ (by omega))⟩
    refine ⟨z, ?_, .inl (by rw [hz]; exact Int.emod_lt_of_pos _ (by omega)), hc1.le (by omega), hg1⟩
    rw [hz]; rfl

set_option maxRecDepth 100000 in
set_option maxHeartbeats 4000000 in
theorem among_any (b m g len cap : Nat) (zs : Nat → Int) (w : World) (hc : Cur w b m) (hm : m ≤ 1000000000) (hl : 0 < len) (hlc : len ≤ 1000) (hg : g ≠ b) (hz : ∀ i, i < len → w.cell? ⟨g, i, none⟩ = some (.int .i64 (zs i))) :
    Calls Try.prog 108 #[.pointer (some ⟨b, 0, none⟩), .slice (some ⟨g, 0, none⟩) len cap] w fun e w' => ∃ i, i < len ∧ e = .returned (.int .i64 (zs i)) ∧ Cur w' b (m + 2) ∧ w.grownBy w' (some b) := by
  go_enter Try.func108, Try.ntmps108
  go_wp2_with fail
  refine (pick_any b m _ _ hc hm).mono ?_
  rintro e w1 ⟨x, rfl, hx, hc1, hg1⟩
  have hx' : (x : Int) < (len : Int) := by omega
  have hxl : x < len := by omega
  have hcell : w1.cell? ⟨g, x, none⟩ = some (.int .i64 (zs x)) := hg1.cell (hz x hxl) (by simp; exact hg)
  clear hz hc hx
  go_wp2
  go_ret
  exact ⟨x, hxl, rfl, hc1, hg1⟩

set_option maxRecDepth 100000 in
set_option maxHeartbeats 4000000 in
theorem one_any (b m : Nat) (k : Int) (w : World) (hc : Cur w b m) (hm : m ≤ 1000000000) :
    Calls Try.prog 110 #[.pointer (some ⟨b, 0, none⟩), .int .i64 k] w fun e w' => ∃ t : Bool, e = .returned (.bool t) ∧ Cur w' b (m + 2) ∧ w.grownBy w' (some b) := by
  go_enter Try.func110, Try.ntmps110
  go_wp2_with fail
  refine (pick_any b m _ _ hc hm).mono ?_
  rintro e w1 ⟨x, rfl, hx, hc1, hg1⟩
  clear hx hc
  go_wp2
  go_ret
  exact ⟨_, rfl, hc1, hg1⟩

end Go.Proofs.Ytnlppeieccbhgaa

namespace Go.Proofs.Ytnlppeieccbhgaa
open Go.RowKit

/-- the bytes of a slice that came in -/
def CodeAt (w : World) (ao : Option Addr) (len : Nat) : Prop :=
  len ≤ 1048576 ∧ (0 < len → ∃ ab o, ao = some ⟨ab, o, none⟩ ∧ ab < w.heap.size ∧ ∀ i, i < len → ∃ x : Nat, x < 256 ∧ w.cell? ⟨ab, o + i, none⟩ = some (.int .u8 (x : Int)))

theorem CodeAt.below {w w' : World} {ao : Option Addr} {len : Nat} (h : CodeAt w ao len) (hb : Below w.heap.size w w') : CodeAt w' ao len := by
  refine ⟨h.1, fun hz => ?_⟩
  obtain ⟨ab, o, ha, hab, hx⟩ := h.2 hz
  refine ⟨ab, o, ha, by have := hb.size; omega, fun i hi => ?_⟩
  obtain ⟨x, hx1, hx2⟩ := hx i hi
  exact ⟨x, hx1, (hb.cell (p := ⟨ab, o + i, none⟩) hab).trans hx2⟩

theorem lit_cells (w : World) (t : TypeId) (l : List Int) (i : Nat) (h : i < l.length) :
    (w.alloc (.cells (l.map (Value.int .i64)).toArray t)).cell? ⟨w.heap.size, i, none⟩ = some (.int .i64 (l.getD i 0)) := by
  simp [List.getD, h]

theorem between (l : List Int) (lo hi : Int) (h : ∀ x ∈ l, lo ≤ x ∧ x ≤ hi) (i : Nat) (hi' : i < l.length) : lo ≤ l[i] ∧ l[i] ≤ hi := h _ (List.getElem_mem hi')

/-- a new cursor over the bytes that came in -/
theorem Cur.made {w : World} {ao : Option Addr} {len cap : Nat} (h : CodeAt w ao len) (t : TypeId) :
    Cur (w.alloc (.cells #[.slice ao len cap, .int .i64 0, .int .u64 0] t)) w.heap.size 0 := by
  refine ⟨ao, len, cap, 0, 0, by simp, by simp, by simp, by simp, by simp, by omega, h.1, fun hz => ?_⟩
  obtain ⟨ab, o, ha, hab, hx⟩ := h.2 hz
  refine ⟨ab, o, ha, hab, fun i hi => ?_⟩
  obtain ⟨x, hx1, hx2⟩ := hx i hi
  exact ⟨x, hx1, by rw [World.cell?_alloc_lt _ _ _ hab]; exact hx2⟩

set_option maxRecDepth 100000 in
set_option maxHeartbeats 4000000 in
theorem of_any (b m g len cap : Nat) (zs : Nat → ByteArray) (w : World) (hc : Cur w b m) (hm : m ≤ 1000000000) (hl : 0 < len) (hlc : len ≤ 1000) (hg : g ≠ b) (hz : ∀ i, i < len → w.cell? ⟨g, i, none⟩ = some (.string (zs i))) :
    Calls Try.prog 83 #[.pointer (some ⟨b, 0, none⟩), .slice (some ⟨g, 0, none⟩) len cap] w fun e w' => ∃ i, i < len ∧ e = .returned (.string (zs i)) ∧ Cur w' b (m + 2) ∧ w.grownBy w' (some b) := by
  go_enter Try.func83, Try.ntmps83
  go_wp2_with fail
  refine (pick_any b m _ _ hc hm).mono ?_
  rintro e w1 ⟨x, rfl, hx, hc1, hg1⟩
  have hx' : (x : Int) < (len : Int) := by omega
  have hxl : x < len := by omega
  have hcell : w1.cell? ⟨g, x, none⟩ = some (.string (zs x)) := hg1.cell (hz x hxl) (by simp; exact hg)
  clear hz hc hx
  go_wp2
  go_ret
  exact ⟨x, hxl, rfl, hc1, hg1⟩

end Go.Proofs.Ytnlppeieccbhgaa
