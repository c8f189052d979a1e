/- The law's own marks in lists of impl.Packet: marks that are put, marks that are held. The law's own marks in lists of impl.Ack: marks that are put, marks that are held. -/
import Derived.Test.YtnlppeieccbhgaaPkM
import Derived.Test.YtnlppeieccbhgaaGr
import Derived.Lib.SmallJoins
import Derived.Lib.BufferOwn
import Derived.Deep.RegionWith
import Derived.Test.YtnlppeieccbhgaaAkM
namespace Go.Proofs.Ytnlppeieccbhgaa
open Go.RowKit

theorem own_belowPk {w w' : World} {B e size n : Nat} {v : Value} {xs : List Value} (h : w.ownsRow B e size v n xs) (hb : Below w.heap.size w w') : w'.ownsRow B e size v n xs := by
  refine ⟨h.1, ?_⟩
  rcases h.2 with hn | ⟨g, cap, cur, hv, hg, hgg, rest⟩
  · exact .inl hn
  · exact .inr ⟨g, cap, cur, hv, hg, (hb.block g (Array.getElem?_eq_some_iff.1 hgg).1).trans hgg, rest⟩

theorem grow_belowPk {w w' : World} {row : Option Nat} (hb : Below w.heap.size w w') : w.grownBy w' row := ⟨hb.os, hb.tape, hb.output, hb.size, fun j hj _ => hb.block j hj⟩

/-- the mark of a cell -/
def mcPk (k j : Nat) : Value :=
  match j % 3 with
  | 2 => .string (mt (k + j))
  | _ => .int .i64 ((k + j : Nat) : Int)

theorem mcPk_0 (k i : Nat) : mcPk k (i * 3) = .int .i64 ((k + (i * 3) : Nat) : Int) := by
  unfold mcPk
  rw [show (i * 3) % 3 = 0 by omega]
  rfl

theorem mcPk_1 (k i : Nat) : mcPk k (i * 3 + 1) = .int .i64 ((k + (i * 3 + 1) : Nat) : Int) := by
  unfold mcPk
  rw [show (i * 3 + 1) % 3 = 1 by omega]
  rfl

theorem mcPk_2 (k i : Nat) : mcPk k (i * 3 + 2) = .string (mt (k + (i * 3 + 2))) := by
  unfold mcPk
  rw [show (i * 3 + 2) % 3 = 2 by omega]
  rfl

theorem setPk_marks (ys : List Value) (k i n : Nat) (hl : ys.length = n * 3) (hi : i < n) (hm : ∀ j, j < i * 3 → ys[j]? = some (mcPk k j)) : ∀ j, j < (i + 1) * 3 →
    (((ys.set (i * 3) (mcPk k (i * 3))).set (i * 3 + 1) (mcPk k (i * 3 + 1))).set (i * 3 + 2) (mcPk k (i * 3 + 2)))[j]? = some (mcPk k j) := by
  intro j hj
  simp only [List.getElem?_set, List.length_set]
  by_cases h2 : i * 3 + 2 = j
  · rw [if_pos h2, if_pos (by omega), h2]
  · rw [if_neg h2]
    by_cases h1 : i * 3 + 1 = j
    · rw [if_pos h1, if_pos (by omega), h1]
    · rw [if_neg h1]
      by_cases h0 : i * 3 = j
      · rw [if_pos h0, if_pos (by omega), h0]
      · rw [if_neg h0]
        exact hm j (by omega)

set_option maxRecDepth 100000 in
set_option maxHeartbeats 8000000 in
theorem markPk_any (B n k : Nat) (v : Value) (xs : List Value) (w : World) (hown : w.ownsRow B 84 3 v n xs) (hn : n ≤ 2097152) (hk1 : 1 ≤ k) (hk2 : k ≤ 100000000) :
    Calls Try.prog 52 #[v, .int .i64 k] w fun e w' => e = .returned (.int .i64 ((k + n * 3 : Nat) : Int)) ∧ (∃ ys, w'.ownsRow B 84 3 v n ys ∧ ∀ j, j < n * 3 → ys[j]? = some (mcPk k j)) ∧ w.grownBy w' v.ownBlock := by
  by_cases hn0 : n = 0
  · subst hn0
    obtain ⟨ao, cap, hv⟩ : ∃ ao cap, v = Value.slice ao 0 cap := by
      rcases hown.2 with ⟨rfl, _⟩ | ⟨g, cap, _, rfl, _⟩
      · exact ⟨_, _, rfl⟩
      · exact ⟨_, _, rfl⟩
    subst hv
    have HO : Hid (w.ownsRow B 84 3 (.slice ao 0 cap) 0 xs) := hown
    clear hown
    go_enter Try.func52, Try.ntmps52
    go_wp2
    go_loopw [1, 5] (fun vk vi wr => vk = .int .i64 (k : Int) ∧ vi = .int .i64 0 ∧ wr = w) (fun _ _ _ => 0)
    case atStart => exact ⟨rfl, rfl, rfl⟩
    case round =>
      obtain ⟨rfl, rfl, rfl⟩ := hrel
      go_wp2
      go_ret
      exact ⟨by simp, ⟨xs, HO.out, fun j hj => by omega⟩, grow_belowPk (Below.refl _ _)⟩
  · obtain ⟨g, cap, hv⟩ := Joins.ownsRow_form hown (by omega)
    subst hv
    have hxl : xs.length = n * 3 := hown.1
    go_enter Try.func52, Try.ntmps52
    go_wp2
    go_loopw [1, 5] (fun vk vi wr => ∃ (i : Nat) (ys : List Value), i ≤ n ∧ vi = .int .i64 (i : Int) ∧ vk = .int .i64 ((k + i * 3 : Nat) : Int) ∧ wr.ownsRow B 84 3 (.slice (some ⟨g, 0, none⟩) n cap) n ys ∧ Hid (∀ j, j < i * 3 → ys[j]? = some (mcPk k j)) ∧ w.grownBy wr (some g))
      (fun _ vi _ => n - (intOf vi).toNat)
    case atStart => exact ⟨0, xs, by omega, rfl, by simp, hown, fun j hj => by omega, grow_belowPk (Below.refl _ _)⟩
    case round =>
      obtain ⟨i, ys, hi, rfl, rfl, how, hm, hbw⟩ := hrel
      have hyl : ys.length = n * 3 := how.1
      clear hown
      by_cases hlt : i < n
      · have hlt' : (i : Int) < (n : Int) := by omega
        have q0 := how.cellAt (i * 3) (by omega)
        have q1 := how.cellAt (i * 3 + 1) (by omega)
        have q2 := how.cellAt (i * 3 + 2) (by omega)
        rw [List.getElem?_eq_getElem (by omega)] at q0 q1 q2
        have z0 := how.frozenAt (i * 3)
        have z1 := how.frozenAt (i * 3 + 1)
        have z2 := how.frozenAt (i * 3 + 2)
        generalize ys[i * 3] = a0 at q0
        generalize ys[i * 3 + 1] = a1 at q1
        generalize ys[i * 3 + 2] = a2 at q2
        go_wp2_with fail
        refine (markText_int _ (by omega) (by omega) _).mono ?_
        rintro e w50 ⟨rfl, hbw50⟩
        have howw50 := own_belowPk ((how.stored (i * 3) (.int .i64 ((k : Int) + i * 3))).1.stored (i * 3 + 1) (.int .i64 ((k : Int) + i * 3 + 1))).1 hbw50
        have hbww50 := Lib.grownBy_trans (Lib.grownBy_trans (Lib.grownBy_trans hbw (Lib.grownBy_setCell _ g (i * 3) (.int .i64 ((k : Int) + i * 3)))) (Lib.grownBy_setCell _ g (i * 3 + 1) (.int .i64 ((k : Int) + i * 3 + 1)))) (grow_belowPk hbw50)
        have q20 := howw50.cellAt (i * 3 + 2) (by omega)
        rw [List.getElem?_eq_getElem (by simp; omega)] at q20
        have z20 := howw50.frozenAt (i * 3 + 2)
        generalize (((ys.set (i * 3) (Value.int .i64 ((k : Int) + i * 3))).set (i * 3 + 1) (Value.int .i64 ((k : Int) + i * 3 + 1)))[i * 3 + 2]'(by simp; omega)) = a20 at q20
        have how6 := (howw50.stored (i * 3 + 2) (.string (mt ((k : Int) + i * 3 + 1 + 1).toNat))).1
        have HM : Hid (∀ j, j < (i + 1) * 3 → (((ys.set (i * 3) (Value.int .i64 ((k : Int) + i * 3))).set (i * 3 + 1) (Value.int .i64 ((k : Int) + i * 3 + 1))).set (i * 3 + 2) (Value.string (mt ((k : Int) + i * 3 + 1 + 1).toNat)))[j]? = some (mcPk k j)) := by
          have e0 : Value.int .i64 ((k : Int) + i * 3) = mcPk k (i * 3) := by rw [mcPk_0, show ((k + (i * 3) : Nat) : Int) = (k : Int) + i * 3 by omega]
          have e1 : Value.int .i64 ((k : Int) + i * 3 + 1) = mcPk k (i * 3 + 1) := by rw [mcPk_1, show ((k + (i * 3 + 1) : Nat) : Int) = (k : Int) + i * 3 + 1 by omega]
          have e2 : Value.string (mt ((k : Int) + i * 3 + 1 + 1).toNat) = mcPk k (i * 3 + 2) := by rw [mcPk_2, show ((k : Int) + i * 3 + 1 + 1).toNat = k + (i * 3 + 2) by omega]
          rw [e0, e1, e2]
          exact setPk_marks ys k i n hyl hlt hm.out
        generalize (((ys.set (i * 3) (Value.int .i64 ((k : Int) + i * 3))).set (i * 3 + 1) (Value.int .i64 ((k : Int) + i * 3 + 1))).set (i * 3 + 2) (Value.string (mt ((k : Int) + i * 3 + 1 + 1).toNat))) = zs at how6 HM
        have hbw6 := (Lib.grownBy_trans hbww50 (Lib.grownBy_setCell _ g (i * 3 + 2) (.string (mt ((k : Int) + i * 3 + 1 + 1).toNat))))
        clear how hm howw50 hbw50
        clear q0 z0 q1 z1 q2 z2
        go_wp2
        go_roundw
        case rel => exact ⟨i + 1, zs, by omega, by go_num, by go_num, how6, HM, hbw6⟩
        case measure => simp [intOf]; omega
      · have hke : i = n := by omega
        subst hke
        have hge : ¬ ((i : Int) < (i : Int)) := by omega
        go_wp2
        go_ret
        exact ⟨rfl, ⟨ys, how, hm.out⟩, hbw⟩

/-- marks that lie in a slice's cells -/
def MarksAtPk (w : World) (B : Nat) (v : Value) (n k : Nat) : Prop :=
  ∃ ao cap, v = .slice ao n cap ∧ n ≤ maxLen ∧ ∀ j, j < n * 3 → ∃ g o, ao = some ⟨g, o, none⟩ ∧ g < B ∧ w.cell? ⟨g, o + j, none⟩ = some (mcPk k j)

theorem MarksAtPk.below {w w' : World} {v : Value} {n k B : Nat} (h : MarksAtPk w B v n k) (hb : Below B w w') (hB : B ≤ w.heap.size := by exact Nat.le_refl _) : MarksAtPk w' w'.heap.size v n k := by
  obtain ⟨ao, cap, hv, hm, hr⟩ := h
  refine ⟨ao, cap, hv, hm, fun j hj => ?_⟩
  obtain ⟨g, o, ha, hg, c⟩ := hr j hj
  have := hb.size
  exact ⟨g, o, ha, by omega, (hb.cell (p := ⟨g, o + j, none⟩) hg).trans c⟩

theorem MarksAtPk.own {w : World} {B n k : Nat} {v : Value} {ys : List Value} (h : w.ownsRow B 84 3 v n ys) (hm : ∀ j, j < n * 3 → ys[j]? = some (mcPk k j)) (hl : n ≤ maxLen) : MarksAtPk w w.heap.size v n k := by
  have h0 := h
  obtain ⟨_, ⟨rfl, hn⟩ | ⟨g, cap, cur, rfl, hB, hb, _⟩⟩ := h
  · subst hn
    exact ⟨none, 0, rfl, hl, fun j hj => by omega⟩
  · refine ⟨some ⟨g, 0, none⟩, cap, rfl, hl, fun j hj => ⟨g, 0, rfl, (h0.lt g rfl).2, ?_⟩⟩
    have := h0.cellAt j hj
    rw [hm j hj] at this
    simpa using this

set_option maxRecDepth 100000 in
set_option maxHeartbeats 8000000 in
theorem heldPk_any (n k : Nat) (v : Value) (w : World) (h : MarksAtPk w w.heap.size v n k) (hn : n ≤ 2097152) (hk1 : 1 ≤ k) (hk2 : k ≤ 100000000) :
    Calls Try.prog 54 #[v, .int .i64 k] w fun e w' => e = .returned (.int .i64 ((k + n * 3 : Nat) : Int)) ∧ Below w.heap.size w w' := by
  obtain ⟨ao, cap, rfl, hmax, hrow⟩ := h
  go_enter Try.func54, Try.ntmps54
  go_wp2
  go_loopw [1, 5] (fun vk vi wr => ∃ (i : Nat), i ≤ n ∧ vi = .int .i64 (i : Int) ∧ vk = .int .i64 ((k + i * 3 : Nat) : Int) ∧ Below w.heap.size w wr)
    (fun _ vi _ => n - (intOf vi).toNat)
  case atStart => exact ⟨0, by omega, rfl, by simp, Below.refl _ _⟩
  case round =>
    obtain ⟨i, hi, rfl, rfl, hbw⟩ := hrel
    by_cases hlt : i < n
    · have hlt' : (i : Int) < (n : Int) := by omega
      obtain ⟨g, o, rfl, hg, c0⟩ := hrow (i * 3) (by omega)
      obtain ⟨g', o', ha, _, c1⟩ := hrow (i * 3 + 1) (by omega)
      simp only [Option.some.injEq, Addr.mk.injEq, and_true] at ha
      obtain ⟨rfl, rfl⟩ := ha
      obtain ⟨g', o', ha, _, c2⟩ := hrow (i * 3 + 2) (by omega)
      simp only [Option.some.injEq, Addr.mk.injEq, and_true] at ha
      obtain ⟨rfl, rfl⟩ := ha
      rw [mcPk_0] at c0
      rw [mcPk_1] at c1
      rw [mcPk_2] at c2
      have e0 : wr.cell? ⟨g, o + i * 3, none⟩ = some (.int .i64 ((k : Int) + i * 3)) := by rw [hbw.cell (p := ⟨g, o + i * 3, none⟩) hg, c0, show ((k + (i * 3) : Nat) : Int) = (k : Int) + i * 3 by omega]
      have e1 : wr.cell? ⟨g, o + i * 3 + 1, none⟩ = some (.int .i64 ((k : Int) + i * 3 + 1)) := by rw [hbw.cell (p := ⟨g, o + i * 3 + 1, none⟩) hg, Nat.add_assoc, c1, show ((k + (i * 3 + 1) : Nat) : Int) = (k : Int) + i * 3 + 1 by omega]
      have e2 : wr.cell? ⟨g, o + i * 3 + 2, none⟩ = some (.string (mt ((k : Int) + i * 3 + 1 + 1).toNat)) := by rw [hbw.cell (p := ⟨g, o + i * 3 + 2, none⟩) hg, Nat.add_assoc, c2, show ((k : Int) + i * 3 + 1 + 1).toNat = k + (i * 3 + 2) by omega]
      have C2 : Hid (∀ w : World, Calls Try.prog 70 #[.int .i64 ((k : Int) + i * 3 + 1 + 1)] w fun e w' => e = .returned (.string (mt ((k : Int) + i * 3 + 1 + 1).toNat)) ∧ Below w.heap.size w w') := fun w => markText_int _ (by omega) (by omega) w
      generalize mt ((k : Int) + i * 3 + 1 + 1).toNat = tx2 at e2 C2
      clear c0 c1 c2 hrow
      go_wp2_with fail
      go_region_with (go_at_call 70; refine (C2.out _).mono ?_; rintro e w20 ⟨rfl, hbw20⟩; have hbww20 : Below w.heap.size w w20 := hbw.drew.trans (hbw20.mono hbw.size); have e2w20 := (hbw20.cell (p := ⟨g, o + i * 3 + 2, none⟩) (by have := hbw.size; simp; omega)).trans e2)
      all_goals
        go_wp2
        go_roundw
        case rel => exact ⟨i + 1, by omega, by go_num, by go_num, hbww20⟩
        case measure => simp [intOf]; omega
    · have hke : i = n := by omega
      subst hke
      have hge : ¬ ((i : Int) < (i : Int)) := by omega
      go_wp2
      go_ret
      exact ⟨rfl, hbw⟩

end Go.Proofs.Ytnlppeieccbhgaa

namespace Go.Proofs.Ytnlppeieccbhgaa
open Go.RowKit

theorem own_belowAk {w w' : World} {B e size n : Nat} {v : Value} {xs : List Value} (h : w.ownsRow B e size v n xs) (hb : Below w.heap.size w w') : w'.ownsRow B e size v n xs := by
  refine ⟨h.1, ?_⟩
  rcases h.2 with hn | ⟨g, cap, cur, hv, hg, hgg, rest⟩
  · exact .inl hn
  · exact .inr ⟨g, cap, cur, hv, hg, (hb.block g (Array.getElem?_eq_some_iff.1 hgg).1).trans hgg, rest⟩

theorem grow_belowAk {w w' : World} {row : Option Nat} (hb : Below w.heap.size w w') : w.grownBy w' row := ⟨hb.os, hb.tape, hb.output, hb.size, fun j hj _ => hb.block j hj⟩

/-- the mark of a cell -/
def mcAk (k j : Nat) : Value :=
  match j % 2 with
  | _ => .int .i64 ((k + j : Nat) : Int)

theorem mcAk_0 (k i : Nat) : mcAk k (i * 2) = .int .i64 ((k + (i * 2) : Nat) : Int) := by
  unfold mcAk
  rw [show (i * 2) % 2 = 0 by omega]
  (try rfl)

theorem mcAk_1 (k i : Nat) : mcAk k (i * 2 + 1) = .int .i64 ((k + (i * 2 + 1) : Nat) : Int) := by
  unfold mcAk
  rw [show (i * 2 + 1) % 2 = 1 by omega]
  (try rfl)

theorem setAk_marks (ys : List Value) (k i n : Nat) (hl : ys.length = n * 2) (hi : i < n) (hm : ∀ j, j < i * 2 → ys[j]? = some (mcAk k j)) : ∀ j, j < (i + 1) * 2 →
    ((ys.set (i * 2) (mcAk k (i * 2))).set (i * 2 + 1) (mcAk k (i * 2 + 1)))[j]? = some (mcAk k j) := by
  intro j hj
  simp only [List.getElem?_set, List.length_set]
  by_cases h1 : i * 2 + 1 = j
  · rw [if_pos h1, if_pos (by omega), h1]
  · rw [if_neg h1]
    by_cases h0 : i * 2 = j
    · rw [if_pos h0, if_pos (by omega), h0]
    · rw [if_neg h0]
      exact hm j (by omega)

set_option maxRecDepth 100000 in
set_option maxHeartbeats 8000000 in
theorem markAk_any (B n k : Nat) (v : Value) (xs : List Value) (w : World) (hown : w.ownsRow B 86 2 v n xs) (hn : n ≤ 2097152) (hk1 : 1 ≤ k) (hk2 : k ≤ 100000000) :
    Calls Try.prog 53 #[v, .int .i64 k] w fun e w' => e = .returned (.int .i64 ((k + n * 2 : Nat) : Int)) ∧ (∃ ys, w'.ownsRow B 86 2 v n ys ∧ ∀ j, j < n * 2 → ys[j]? = some (mcAk k j)) ∧ w.grownBy w' v.ownBlock := by
  by_cases hn0 : n = 0
  · subst hn0
    obtain ⟨ao, cap, hv⟩ : ∃ ao cap, v = Value.slice ao 0 cap := by
      rcases hown.2 with ⟨rfl, _⟩ | ⟨g, cap, _, rfl, _⟩
      · exact ⟨_, _, rfl⟩
      · exact ⟨_, _, rfl⟩
    subst hv
    have HO : Hid (w.ownsRow B 86 2 (.slice ao 0 cap) 0 xs) := hown
    clear hown
    go_enter Try.func53, Try.ntmps53
    go_wp2
    go_loopw [1, 5] (fun vk vi wr => vk = .int .i64 (k : Int) ∧ vi = .int .i64 0 ∧ wr = w) (fun _ _ _ => 0)
    case atStart => exact ⟨rfl, rfl, rfl⟩
    case round =>
      obtain ⟨rfl, rfl, rfl⟩ := hrel
      go_wp2
      go_ret
      exact ⟨by simp, ⟨xs, HO.out, fun j hj => by omega⟩, grow_belowAk (Below.refl _ _)⟩
  · obtain ⟨g, cap, hv⟩ := Joins.ownsRow_form hown (by omega)
    subst hv
    have hxl : xs.length = n * 2 := hown.1
    go_enter Try.func53, Try.ntmps53
    go_wp2
    go_loopw [1, 5] (fun vk vi wr => ∃ (i : Nat) (ys : List Value), i ≤ n ∧ vi = .int .i64 (i : Int) ∧ vk = .int .i64 ((k + i * 2 : Nat) : Int) ∧ wr.ownsRow B 86 2 (.slice (some ⟨g, 0, none⟩) n cap) n ys ∧ Hid (∀ j, j < i * 2 → ys[j]? = some (mcAk k j)) ∧ w.grownBy wr (some g))
      (fun _ vi _ => n - (intOf vi).toNat)
    case atStart => exact ⟨0, xs, by omega, rfl, by simp, hown, fun j hj => by omega, grow_belowAk (Below.refl _ _)⟩
    case round =>
      obtain ⟨i, ys, hi, rfl, rfl, how, hm, hbw⟩ := hrel
      have hyl : ys.length = n * 2 := how.1
      clear hown
      by_cases hlt : i < n
      · have hlt' : (i : Int) < (n : Int) := by omega
        have q0 := how.cellAt (i * 2) (by omega)
        have q1 := how.cellAt (i * 2 + 1) (by omega)
        rw [List.getElem?_eq_getElem (by omega)] at q0 q1
        have z0 := how.frozenAt (i * 2)
        have z1 := how.frozenAt (i * 2 + 1)
        generalize ys[i * 2] = a0 at q0
        generalize ys[i * 2 + 1] = a1 at q1
        have how6 := ((how.stored (i * 2) (.int .i64 ((k : Int) + i * 2))).1.stored (i * 2 + 1) (.int .i64 ((k : Int) + i * 2 + 1))).1
        have HM : Hid (∀ j, j < (i + 1) * 2 → ((ys.set (i * 2) (Value.int .i64 ((k : Int) + i * 2))).set (i * 2 + 1) (Value.int .i64 ((k : Int) + i * 2 + 1)))[j]? = some (mcAk k j)) := by
          have e0 : Value.int .i64 ((k : Int) + i * 2) = mcAk k (i * 2) := by rw [mcAk_0, show ((k + (i * 2) : Nat) : Int) = (k : Int) + i * 2 by omega]
          have e1 : Value.int .i64 ((k : Int) + i * 2 + 1) = mcAk k (i * 2 + 1) := by rw [mcAk_1, show ((k + (i * 2 + 1) : Nat) : Int) = (k : Int) + i * 2 + 1 by omega]
          rw [e0, e1]
          exact setAk_marks ys k i n hyl hlt hm.out
        generalize ((ys.set (i * 2) (Value.int .i64 ((k : Int) + i * 2))).set (i * 2 + 1) (Value.int .i64 ((k : Int) + i * 2 + 1))) = zs at how6 HM
        have hbw6 := (Lib.grownBy_trans (Lib.grownBy_trans hbw (Lib.grownBy_setCell _ g (i * 2) (.int .i64 ((k : Int) + i * 2)))) (Lib.grownBy_setCell _ g (i * 2 + 1) (.int .i64 ((k : Int) + i * 2 + 1))))
        clear how hm  
        go_wp2
        go_roundw
        case rel => exact ⟨i + 1, zs, by omega, by go_num, by go_num, how6, HM, hbw6⟩
        case measure => simp [intOf]; omega
      · have hke : i = n := by omega
        subst hke
        have hge : ¬ ((i : Int) < (i : Int)) := by omega
        go_wp2
        go_ret
        exact ⟨rfl, ⟨ys, how, hm.out⟩, hbw⟩

/-- marks that lie in a slice's cells -/
def MarksAtAk (w : World) (B : Nat) (v : Value) (n k : Nat) : Prop :=
  ∃ ao cap, v = .slice ao n cap ∧ n ≤ maxLen ∧ ∀ j, j < n * 2 → ∃ g o, ao = some ⟨g, o, none⟩ ∧ g < B ∧ w.cell? ⟨g, o + j, none⟩ = some (mcAk k j)

theorem MarksAtAk.below {w w' : World} {v : Value} {n k B : Nat} (h : MarksAtAk w B v n k) (hb : Below B w w') (hB : B ≤ w.heap.size := by exact Nat.le_refl _) : MarksAtAk w' w'.heap.size v n k := by
  obtain ⟨ao, cap, hv, hm, hr⟩ := h
  refine ⟨ao, cap, hv, hm, fun j hj => ?_⟩
  obtain ⟨g, o, ha, hg, c⟩ := hr j hj
  have := hb.size
  exact ⟨g, o, ha, by omega, (hb.cell (p := ⟨g, o + j, none⟩) hg).trans c⟩

theorem MarksAtAk.own {w : World} {B n k : Nat} {v : Value} {ys : List Value} (h : w.ownsRow B 86 2 v n ys) (hm : ∀ j, j < n * 2 → ys[j]? = some (mcAk k j)) (hl : n ≤ maxLen) : MarksAtAk w w.heap.size v n k := by
  have h0 := h
  obtain ⟨_, ⟨rfl, hn⟩ | ⟨g, cap, cur, rfl, hB, hb, _⟩⟩ := h
  · subst hn
    exact ⟨none, 0, rfl, hl, fun j hj => by omega⟩
  · refine ⟨some ⟨g, 0, none⟩, cap, rfl, hl, fun j hj => ⟨g, 0, rfl, (h0.lt g rfl).2, ?_⟩⟩
    have := h0.cellAt j hj
    rw [hm j hj] at this
    simpa using this

set_option maxRecDepth 100000 in
set_option maxHeartbeats 8000000 in
theorem heldAk_any (n k : Nat) (v : Value) (w : World) (h : MarksAtAk w w.heap.size v n k) (hn : n ≤ 2097152) (hk1 : 1 ≤ k) (hk2 : k ≤ 100000000) :
    Calls Try.prog 55 #[v, .int .i64 k] w fun e w' => e = .returned (.int .i64 ((k + n * 2 : Nat) : Int)) ∧ Below w.heap.size w w' := by
  obtain ⟨ao, cap, rfl, hmax, hrow⟩ := h
  go_enter Try.func55, Try.ntmps55
  go_wp2
  go_loopw [1, 5] (fun vk vi wr => ∃ (i : Nat), i ≤ n ∧ vi = .int .i64 (i : Int) ∧ vk = .int .i64 ((k + i * 2 : Nat) : Int) ∧ Below w.heap.size w wr)
    (fun _ vi _ => n - (intOf vi).toNat)
  case atStart => exact ⟨0, by omega, rfl, by simp, Below.refl _ _⟩
  case round =>
    obtain ⟨i, hi, rfl, rfl, hbw⟩ := hrel
    by_cases hlt : i < n
    · have hlt' : (i : Int) < (n : Int) := by omega
      obtain ⟨g, o, rfl, hg, c0⟩ := hrow (i * 2) (by omega)
      obtain ⟨g', o', ha, _, c1⟩ := hrow (i * 2 + 1) (by omega)
      simp only [Option.some.injEq, Addr.mk.injEq, and_true] at ha
      obtain ⟨rfl, rfl⟩ := ha
      rw [mcAk_0] at c0
      rw [mcAk_1] at c1
      have e0 : wr.cell? ⟨g, o + i * 2, none⟩ = some (.int .i64 ((k : Int) + i * 2)) := by rw [hbw.cell (p := ⟨g, o + i * 2, none⟩) hg, c0, show ((k + (i * 2) : Nat) : Int) = (k : Int) + i * 2 by omega]
      have e1 : wr.cell? ⟨g, o + i * 2 + 1, none⟩ = some (.int .i64 ((k : Int) + i * 2 + 1)) := by rw [hbw.cell (p := ⟨g, o + i * 2 + 1, none⟩) hg, Nat.add_assoc, c1, show ((k + (i * 2 + 1) : Nat) : Int) = (k : Int) + i * 2 + 1 by omega]
      clear c0 c1 hrow
      go_wp2
      go_roundw
      case rel => exact ⟨i + 1, by omega, by go_num, by go_num, hbw⟩
      case measure => simp [intOf]; omega
    · have hke : i = n := by omega
      subst hke
      have hge : ¬ ((i : Int) < (i : Int)) := by omega
      go_wp2
      go_ret
      exact ⟨rfl, hbw⟩

end Go.Proofs.Ytnlppeieccbhgaa
