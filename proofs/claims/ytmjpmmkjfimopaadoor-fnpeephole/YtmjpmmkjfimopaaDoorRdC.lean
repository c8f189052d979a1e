/- The program's rows of kinds and what it holds for a good field. -/
import Derived.Test.YtmjpmmkjfimopaaDoorHf
import Derived.Laws.ResultCell
namespace Go.Proofs.YtmjpmmkjfimopaaDoor
open Go.RowKit

/-- the table of kinds, as its initialiser lays it -/
def KR (w : World) : Prop := 0 < w.heap.size ∧ w.cell? ⟨0, 0, none⟩ = some (.int .i64 0) ∧ w.cell? ⟨0, 1, none⟩ = some (.bool true) ∧ w.cell? ⟨0, 2, none⟩ = some (.bool false) ∧ w.cell? ⟨0, 3, none⟩ = some (.int .i64 2) ∧ w.cell? ⟨0, 4, none⟩ = some (.bool false) ∧ w.cell? ⟨0, 5, none⟩ = some (.bool true)

theorem KR.below {w w' : World} {B : Nat} (h : KR w) (hb : Below B w w') (hB : 0 < B) : KR w' := by
  obtain ⟨h0, c0, c1, c2, c3, c4, c5⟩ := h
  exact ⟨by have := hb.size; omega, (hb.cell (p := ⟨0, 0, none⟩) hB).trans c0, (hb.cell (p := ⟨0, 1, none⟩) hB).trans c1, (hb.cell (p := ⟨0, 2, none⟩) hB).trans c2, (hb.cell (p := ⟨0, 3, none⟩) hB).trans c3, (hb.cell (p := ⟨0, 4, none⟩) hB).trans c4, (hb.cell (p := ⟨0, 5, none⟩) hB).trans c5⟩

def rowV (k : Int) : Value := if k = 0 then .agg #[.int .i64 0, .bool true, .bool false] else if k = 2 then .agg #[.int .i64 2, .bool false, .bool true] else .agg #[.int .i64 0, .bool false, .bool false]

def rowR (k : Int) : Value × Bool := (rowV k, decide (k = 0) || decide (k = 2))

theorem rowR_0 (k : Int) (h : k = 0) : rowR k = (.agg #[.int .i64 0, .bool true, .bool false], true) := by subst h; rfl
theorem rowR_2 (k : Int) (h : k = 2) : rowR k = (.agg #[.int .i64 2, .bool false, .bool true], true) := by subst h; rfl
theorem rowR_no (k : Int) (h : k ≠ 0) (h2 : k ≠ 2) : rowR k = (.agg #[.int .i64 0, .bool false, .bool false], false) := by
  unfold rowR rowV; rw [if_neg h, if_neg h2]; simp [h, h2]

set_option maxRecDepth 100000 in
set_option maxHeartbeats 1000000 in
theorem rowOf_any (k : Int) (w : World) (hk : KR w) :
    Calls Tryd.prog 108 #[.int .i64 k] w fun e w' => e = .returned (.tuple #[(rowR k).1, .bool (rowR k).2]) ∧ Below w.heap.size w w' := by
  obtain ⟨h0, c0, c1, c2, c3, c4, c5⟩ := hk
  obtain ⟨V, hV⟩ : ∃ V, V = rowR k := ⟨_, rfl⟩
  have HV : Hid (V = rowR k) := hV
  rw [← hV]
  clear hV
  go_enter Tryd.func108, Tryd.ntmps108
  go_wp2
  go_loopw [7] (fun vi wr => ∃ i : Nat, i ≤ 2 ∧ vi = .int .i64 (i : Int) ∧ Hid (0 < i → k ≠ 0) ∧ Hid (1 < i → k ≠ 2) ∧ Below (w.heap.size + 1) (w.alloc (.cells #[.int .i64 0, .bool false, .bool false] 141)) wr)
    (fun vi _ => 2 - (intOf vi).toNat)
  case atStart => exact ⟨0, by omega, by go_num, fun h => by omega, fun h => by omega, Below.refl _ _⟩
  case round =>
    obtain ⟨i, hi, rfl, hk0, hk2, hb⟩ := hrel
    have hsz : w.heap.size < wr.heap.size := by have := hb.size; simp at this; omega
    have z0 : wr.cell? ⟨w.heap.size, 0, none⟩ = some (.int .i64 0) := (hb.cell (p := ⟨w.heap.size, 0, none⟩) (by simp)).trans (by simp)
    have z1 : wr.cell? ⟨w.heap.size, 1, none⟩ = some (.bool false) := (hb.cell (p := ⟨w.heap.size, 1, none⟩) (by simp)).trans (by simp)
    have z2 : wr.cell? ⟨w.heap.size, 2, none⟩ = some (.bool false) := (hb.cell (p := ⟨w.heap.size, 2, none⟩) (by simp)).trans (by simp)
    have fz : ∀ j, wr.frozen? ⟨w.heap.size, j, none⟩ = false := fun j => (hb.frozen (p := ⟨w.heap.size, j, none⟩) (by simp)).trans (by simp)
    have f0 := fz 0
    have f1 := fz 1
    have f2 := fz 2
    clear fz
    have hB0 : Below w.heap.size w wr := ((Below.refl _ w).alloc (Nat.le_refl _) _).trans (hb.mono (by omega))
    have x0 : ∀ w : World, (Instr.index 146 (.agg #[.int .i64 0, .bool true, .bool false, .int .i64 2, .bool false, .bool true]) (.int .i64 0)).run Tryd.prog w = .ok (.agg #[.int .i64 0, .bool true, .bool false]) w := fun w => by kernel_rfl
    have x1 : ∀ w : World, (Instr.index 146 (.agg #[.int .i64 0, .bool true, .bool false, .int .i64 2, .bool false, .bool true]) (.int .i64 1)).run Tryd.prog w = .ok (.agg #[.int .i64 2, .bool false, .bool true]) w := fun w => by kernel_rfl
    match i, hi with
    | 0, _ =>
      by_cases k0 : k = 0
      · have e0 : ((0 : Int) == k) = true := by simp [k0]
        have hVV : Hid (V = (.agg #[.int .i64 0, .bool true, .bool false], true)) := by show _ = _; rw [HV.out]; exact rowR_0 k k0
        clear k0 x1
        go_wp2
        refine bodyPost_ret (v := .tuple #[.agg #[.int .i64 0, .bool true, .bool false], .bool true]) ?_ rfl ⟨by rw [hVV.out], ?_⟩
        · rw [results_cell_tmp rfl]
          go_simp
        · repeat' (first | exact hB0 | refine Below.alloc ?_ (by simp; omega) _ | refine Below.setCell ?_ (by simp) _)
      · have e0 : ((0 : Int) == k) = false := by simp; omega
        clear x1
        go_wp2
        go_roundw
        case rel => exact ⟨1, by omega, by go_num, fun _ => k0, fun h => by omega, hb.alloc (by omega) _⟩
        case measure => simp [intOf]
    | 1, _ =>
      by_cases k2 : k = 2
      · have e0 : ((2 : Int) == k) = true := by simp [k2]
        have hVV : Hid (V = (.agg #[.int .i64 2, .bool false, .bool true], true)) := by show _ = _; rw [HV.out]; exact rowR_2 k k2
        clear k2 x0
        go_wp2
        refine bodyPost_ret (v := .tuple #[.agg #[.int .i64 2, .bool false, .bool true], .bool true]) ?_ rfl ⟨by rw [hVV.out], ?_⟩
        · rw [results_cell_tmp rfl]
          go_simp
        · repeat' (first | exact hB0 | refine Below.alloc ?_ (by simp; omega) _ | refine Below.setCell ?_ (by simp) _)
      · have e0 : ((2 : Int) == k) = false := by simp; omega
        clear x0
        go_wp2
        go_roundw
        case rel => exact ⟨2, by omega, by go_num, fun _ => hk0.out (by omega), fun h => k2, hb.alloc (by omega) _⟩
        case measure => simp [intOf]
    | 2, _ =>
      have hVV : Hid (V = (.agg #[.int .i64 0, .bool false, .bool false], false)) := by show _ = _; rw [HV.out]; exact rowR_no k (hk0.out (by omega)) (hk2.out (by omega))
      clear x0 x1
      go_wp2
      refine bodyPost_ret (v := .tuple #[.agg #[.int .i64 0, .bool false, .bool false], .bool false]) ?_ rfl ⟨by rw [hVV.out], ?_⟩
      · rw [results_cell_tmp rfl]
        go_simp
      · repeat' (first | exact hB0 | refine Below.alloc ?_ (by simp; omega) _ | refine Below.setCell ?_ (by simp) _)
end Go.Proofs.YtmjpmmkjfimopaaDoor
