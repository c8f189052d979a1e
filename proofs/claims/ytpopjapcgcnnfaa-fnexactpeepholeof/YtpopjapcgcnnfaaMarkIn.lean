/- The law's own marks in lists of impl.Instr: marks that are put, marks that are held. -/
import Derived.Test.YtpopjapcgcnnfaaPwM
import Derived.Test.YtpopjapcgcnnfaaGr
import Derived.Lib.SmallJoins
import Derived.Lib.BufferOwn
import Derived.Deep.RegionWith
namespace Go.Proofs.Ytpopjapcgcnnfaa
open Go.RowKit

theorem own_belowIn {w w' : World} {B e size n : Nat} {v : Value} {xs : List Value} (h : w.ownsRow B e size v n xs) (hb : Below w.heap.size w w') : w'.ownsRow B e size v n xs := by
  refine ⟨h.1, ?_⟩
  rcases h.2 with hn | ⟨g, cap, cur, hv, hg, hgg, rest⟩
  · exact .inl hn
  · exact .inr ⟨g, cap, cur, hv, hg, (hb.block g (Array.getElem?_eq_some_iff.1 hgg).1).trans hgg, rest⟩

theorem grow_belowIn {w w' : World} {row : Option Nat} (hb : Below w.heap.size w w') : w.grownBy w' row := ⟨hb.os, hb.tape, hb.output, hb.size, fun j hj _ => hb.block j hj⟩

/-- the mark of a cell -/
def mcIn (k j : Nat) : Value :=
  match j % 6 with
  | 4 => .string (mt (k + j))
  | _ => .int .i64 ((k + j : Nat) : Int)

theorem mcIn_0 (k i : Nat) : mcIn k (i * 6) = .int .i64 ((k + (i * 6) : Nat) : Int) := by
  unfold mcIn
  rw [show (i * 6) % 6 = 0 by omega]
  rfl

theorem mcIn_1 (k i : Nat) : mcIn k (i * 6 + 1) = .int .i64 ((k + (i * 6 + 1) : Nat) : Int) := by
  unfold mcIn
  rw [show (i * 6 + 1) % 6 = 1 by omega]
  rfl

theorem mcIn_2 (k i : Nat) : mcIn k (i * 6 + 2) = .int .i64 ((k + (i * 6 + 2) : Nat) : Int) := by
  unfold mcIn
  rw [show (i * 6 + 2) % 6 = 2 by omega]
  rfl

theorem mcIn_3 (k i : Nat) : mcIn k (i * 6 + 3) = .int .i64 ((k + (i * 6 + 3) : Nat) : Int) := by
  unfold mcIn
  rw [show (i * 6 + 3) % 6 = 3 by omega]
  rfl

theorem mcIn_4 (k i : Nat) : mcIn k (i * 6 + 4) = .string (mt (k + (i * 6 + 4))) := by
  unfold mcIn
  rw [show (i * 6 + 4) % 6 = 4 by omega]
  rfl

theorem mcIn_5 (k i : Nat) : mcIn k (i * 6 + 5) = .int .i64 ((k + (i * 6 + 5) : Nat) : Int) := by
  unfold mcIn
  rw [show (i * 6 + 5) % 6 = 5 by omega]
  rfl

theorem setIn_marks (ys : List Value) (k i n : Nat) (hl : ys.length = n * 6) (hi : i < n) (hm : ∀ j, j < i * 6 → ys[j]? = some (mcIn k j)) : ∀ j, j < (i + 1) * 6 →
    ((((((ys.set (i * 6) (mcIn k (i * 6))).set (i * 6 + 1) (mcIn k (i * 6 + 1))).set (i * 6 + 2) (mcIn k (i * 6 + 2))).set (i * 6 + 3) (mcIn k (i * 6 + 3))).set (i * 6 + 4) (mcIn k (i * 6 + 4))).set (i * 6 + 5) (mcIn k (i * 6 + 5)))[j]? = some (mcIn k j) := by
  intro j hj
  simp only [List.getElem?_set, List.length_set]
  by_cases h5 : i * 6 + 5 = j
  · rw [if_pos h5, if_pos (by omega), h5]
  · rw [if_neg h5]
    by_cases h4 : i * 6 + 4 = j
    · rw [if_pos h4, if_pos (by omega), h4]
    · rw [if_neg h4]
      by_cases h3 : i * 6 + 3 = j
      · rw [if_pos h3, if_pos (by omega), h3]
      · rw [if_neg h3]
        by_cases h2 : i * 6 + 2 = j
        · rw [if_pos h2, if_pos (by omega), h2]
        · rw [if_neg h2]
          by_cases h1 : i * 6 + 1 = j
          · rw [if_pos h1, if_pos (by omega), h1]
          · rw [if_neg h1]
            by_cases h0 : i * 6 = j
            · rw [if_pos h0, if_pos (by omega), h0]
            · rw [if_neg h0]
              exact hm j (by omega)

set_option maxRecDepth 100000 in
set_option maxHeartbeats 8000000 in
theorem markIn_any (B n k : Nat) (v : Value) (xs : List Value) (w : World) (hown : w.ownsRow B 76 6 v n xs) (hn : n ≤ 2097152) (hk1 : 1 ≤ k) (hk2 : k ≤ 100000000) :
    Calls Try.prog 62 #[v, .int .i64 k] w fun e w' => e = .returned (.int .i64 ((k + n * 6 : Nat) : Int)) ∧ (∃ ys, w'.ownsRow B 76 6 v n ys ∧ ∀ j, j < n * 6 → ys[j]? = some (mcIn k j)) ∧ w.grownBy w' v.ownBlock := by
  by_cases hn0 : n = 0
  · subst hn0
    obtain ⟨ao, cap, hv⟩ : ∃ ao cap, v = Value.slice ao 0 cap := by
      rcases hown.2 with ⟨rfl, _⟩ | ⟨g, cap, _, rfl, _⟩
      · exact ⟨_, _, rfl⟩
      · exact ⟨_, _, rfl⟩
    subst hv
    have HO : Hid (w.ownsRow B 76 6 (.slice ao 0 cap) 0 xs) := hown
    clear hown
    go_enter Try.func62, Try.ntmps62
    go_wp2
    go_loopw [1, 5] (fun vk vi wr => vk = .int .i64 (k : Int) ∧ vi = .int .i64 0 ∧ wr = w) (fun _ _ _ => 0)
    case atStart => exact ⟨rfl, rfl, rfl⟩
    case round =>
      obtain ⟨rfl, rfl, rfl⟩ := hrel
      go_wp2
      go_ret
      exact ⟨by simp, ⟨xs, HO.out, fun j hj => by omega⟩, grow_belowIn (Below.refl _ _)⟩
  · obtain ⟨g, cap, hv⟩ := Joins.ownsRow_form hown (by omega)
    subst hv
    have hxl : xs.length = n * 6 := hown.1
    go_enter Try.func62, Try.ntmps62
    go_wp2
    go_loopw [1, 5] (fun vk vi wr => ∃ (i : Nat) (ys : List Value), i ≤ n ∧ vi = .int .i64 (i : Int) ∧ vk = .int .i64 ((k + i * 6 : Nat) : Int) ∧ wr.ownsRow B 76 6 (.slice (some ⟨g, 0, none⟩) n cap) n ys ∧ Hid (∀ j, j < i * 6 → ys[j]? = some (mcIn k j)) ∧ w.grownBy wr (some g))
      (fun _ vi _ => n - (intOf vi).toNat)
    case atStart => exact ⟨0, xs, by omega, rfl, by simp, hown, fun j hj => by omega, grow_belowIn (Below.refl _ _)⟩
    case round =>
      obtain ⟨i, ys, hi, rfl, rfl, how, hm, hbw⟩ := hrel
      have hyl : ys.length = n * 6 := how.1
      clear hown
      by_cases hlt : i < n
      · have hlt' : (i : Int) < (n : Int) := by omega
        have q0 := how.cellAt (i * 6) (by omega)
        have q1 := how.cellAt (i * 6 + 1) (by omega)
        have q2 := how.cellAt (i * 6 + 2) (by omega)
        have q3 := how.cellAt (i * 6 + 3) (by omega)
        have q4 := how.cellAt (i * 6 + 4) (by omega)
        have q5 := how.cellAt (i * 6 + 5) (by omega)
        rw [List.getElem?_eq_getElem (by omega)] at q0 q1 q2 q3 q4 q5
        have z0 := how.frozenAt (i * 6)
        have z1 := how.frozenAt (i * 6 + 1)
        have z2 := how.frozenAt (i * 6 + 2)
        have z3 := how.frozenAt (i * 6 + 3)
        have z4 := how.frozenAt (i * 6 + 4)
        have z5 := how.frozenAt (i * 6 + 5)
        generalize ys[i * 6] = a0 at q0
        generalize ys[i * 6 + 1] = a1 at q1
        generalize ys[i * 6 + 2] = a2 at q2
        generalize ys[i * 6 + 3] = a3 at q3
        generalize ys[i * 6 + 4] = a4 at q4
        generalize ys[i * 6 + 5] = a5 at q5
        go_wp2_with fail
        refine (markText_int _ (by omega) (by omega) _).mono ?_
        rintro e w50 ⟨rfl, hbw50⟩
        have howw50 := own_belowIn ((((how.stored (i * 6) (.int .i64 ((k : Int) + i * 6))).1.stored (i * 6 + 1) (.int .i64 ((k : Int) + i * 6 + 1))).1.stored (i * 6 + 2) (.int .i64 ((k : Int) + i * 6 + 1 + 1))).1.stored (i * 6 + 3) (.int .i64 ((k : Int) + i * 6 + 1 + 1 + 1))).1 hbw50
        have hbww50 := Lib.grownBy_trans (Lib.grownBy_trans (Lib.grownBy_trans (Lib.grownBy_trans (Lib.grownBy_trans hbw (Lib.grownBy_setCell _ g (i * 6) (.int .i64 ((k : Int) + i * 6)))) (Lib.grownBy_setCell _ g (i * 6 + 1) (.int .i64 ((k : Int) + i * 6 + 1)))) (Lib.grownBy_setCell _ g (i * 6 + 2) (.int .i64 ((k : Int) + i * 6 + 1 + 1)))) (Lib.grownBy_setCell _ g (i * 6 + 3) (.int .i64 ((k : Int) + i * 6 + 1 + 1 + 1)))) (grow_belowIn hbw50)
        have q40 := howw50.cellAt (i * 6 + 4) (by omega)
        rw [List.getElem?_eq_getElem (by simp; omega)] at q40
        have q50 := howw50.cellAt (i * 6 + 5) (by omega)
        rw [List.getElem?_eq_getElem (by simp; omega)] at q50
        have z40 := howw50.frozenAt (i * 6 + 4)
        have z50 := howw50.frozenAt (i * 6 + 5)
        generalize (((((ys.set (i * 6) (Value.int .i64 ((k : Int) + i * 6))).set (i * 6 + 1) (Value.int .i64 ((k : Int) + i * 6 + 1))).set (i * 6 + 2) (Value.int .i64 ((k : Int) + i * 6 + 1 + 1))).set (i * 6 + 3) (Value.int .i64 ((k : Int) + i * 6 + 1 + 1 + 1)))[i * 6 + 4]'(by simp; omega)) = a40 at q40
        generalize (((((ys.set (i * 6) (Value.int .i64 ((k : Int) + i * 6))).set (i * 6 + 1) (Value.int .i64 ((k : Int) + i * 6 + 1))).set (i * 6 + 2) (Value.int .i64 ((k : Int) + i * 6 + 1 + 1))).set (i * 6 + 3) (Value.int .i64 ((k : Int) + i * 6 + 1 + 1 + 1)))[i * 6 + 5]'(by simp; omega)) = a50 at q50
        have how6 := ((howw50.stored (i * 6 + 4) (.string (mt ((k : Int) + i * 6 + 1 + 1 + 1 + 1).toNat))).1.stored (i * 6 + 5) (.int .i64 ((k : Int) + i * 6 + 1 + 1 + 1 + 1 + 1))).1
        have HM : Hid (∀ j, j < (i + 1) * 6 → ((((((ys.set (i * 6) (Value.int .i64 ((k : Int) + i * 6))).set (i * 6 + 1) (Value.int .i64 ((k : Int) + i * 6 + 1))).set (i * 6 + 2) (Value.int .i64 ((k : Int) + i * 6 + 1 + 1))).set (i * 6 + 3) (Value.int .i64 ((k : Int) + i * 6 + 1 + 1 + 1))).set (i * 6 + 4) (Value.string (mt ((k : Int) + i * 6 + 1 + 1 + 1 + 1).toNat))).set (i * 6 + 5) (Value.int .i64 ((k : Int) + i * 6 + 1 + 1 + 1 + 1 + 1)))[j]? = some (mcIn k j)) := by
          have e0 : Value.int .i64 ((k : Int) + i * 6) = mcIn k (i * 6) := by rw [mcIn_0, show ((k + (i * 6) : Nat) : Int) = (k : Int) + i * 6 by omega]
          have e1 : Value.int .i64 ((k : Int) + i * 6 + 1) = mcIn k (i * 6 + 1) := by rw [mcIn_1, show ((k + (i * 6 + 1) : Nat) : Int) = (k : Int) + i * 6 + 1 by omega]
          have e2 : Value.int .i64 ((k : Int) + i * 6 + 1 + 1) = mcIn k (i * 6 + 2) := by rw [mcIn_2, show ((k + (i * 6 + 2) : Nat) : Int) = (k : Int) + i * 6 + 1 + 1 by omega]
          have e3 : Value.int .i64 ((k : Int) + i * 6 + 1 + 1 + 1) = mcIn k (i * 6 + 3) := by rw [mcIn_3, show ((k + (i * 6 + 3) : Nat) : Int) = (k : Int) + i * 6 + 1 + 1 + 1 by omega]
          have e4 : Value.string (mt ((k : Int) + i * 6 + 1 + 1 + 1 + 1).toNat) = mcIn k (i * 6 + 4) := by rw [mcIn_4, show ((k : Int) + i * 6 + 1 + 1 + 1 + 1).toNat = k + (i * 6 + 4) by omega]
          have e5 : Value.int .i64 ((k : Int) + i * 6 + 1 + 1 + 1 + 1 + 1) = mcIn k (i * 6 + 5) := by rw [mcIn_5, show ((k + (i * 6 + 5) : Nat) : Int) = (k : Int) + i * 6 + 1 + 1 + 1 + 1 + 1 by omega]
          rw [e0, e1, e2, e3, e4, e5]
          exact setIn_marks ys k i n hyl hlt hm.out
        generalize ((((((ys.set (i * 6) (Value.int .i64 ((k : Int) + i * 6))).set (i * 6 + 1) (Value.int .i64 ((k : Int) + i * 6 + 1))).set (i * 6 + 2) (Value.int .i64 ((k : Int) + i * 6 + 1 + 1))).set (i * 6 + 3) (Value.int .i64 ((k : Int) + i * 6 + 1 + 1 + 1))).set (i * 6 + 4) (Value.string (mt ((k : Int) + i * 6 + 1 + 1 + 1 + 1).toNat))).set (i * 6 + 5) (Value.int .i64 ((k : Int) + i * 6 + 1 + 1 + 1 + 1 + 1))) = zs at how6 HM
        have hbw6 := (Lib.grownBy_trans (Lib.grownBy_trans hbww50 (Lib.grownBy_setCell _ g (i * 6 + 4) (.string (mt ((k : Int) + i * 6 + 1 + 1 + 1 + 1).toNat)))) (Lib.grownBy_setCell _ g (i * 6 + 5) (.int .i64 ((k : Int) + i * 6 + 1 + 1 + 1 + 1 + 1))))
        clear how hm howw50 hbw50
        clear q0 z0 q1 z1 q2 z2 q3 z3 q4 z4 q5 z5
        go_wp2
        go_roundw
        case rel => exact ⟨i + 1, zs, by omega, by go_num, by go_num, how6, HM, hbw6⟩
        case measure => simp [intOf]; omega
      · have hke : i = n := by omega
        subst hke
        have hge : ¬ ((i : Int) < (i : Int)) := by omega
        go_wp2
        go_ret
        exact ⟨rfl, ⟨ys, how, hm.out⟩, hbw⟩

/-- marks that lie in a slice's cells -/
def MarksAtIn (w : World) (B : Nat) (v : Value) (n k : Nat) : Prop :=
  ∃ ao cap, v = .slice ao n cap ∧ n ≤ maxLen ∧ ∀ j, j < n * 6 → ∃ g o, ao = some ⟨g, o, none⟩ ∧ g < B ∧ w.cell? ⟨g, o + j, none⟩ = some (mcIn k j)

theorem MarksAtIn.below {w w' : World} {v : Value} {n k B : Nat} (h : MarksAtIn w B v n k) (hb : Below B w w') (hB : B ≤ w.heap.size := by exact Nat.le_refl _) : MarksAtIn w' w'.heap.size v n k := by
  obtain ⟨ao, cap, hv, hm, hr⟩ := h
  refine ⟨ao, cap, hv, hm, fun j hj => ?_⟩
  obtain ⟨g, o, ha, hg, c⟩ := hr j hj
  have := hb.size
  exact ⟨g, o, ha, by omega, (hb.cell (p := ⟨g, o + j, none⟩) hg).trans c⟩

theorem MarksAtIn.own {w : World} {B n k : Nat} {v : Value} {ys : List Value} (h : w.ownsRow B 76 6 v n ys) (hm : ∀ j, j < n * 6 → ys[j]? = some (mcIn k j)) (hl : n ≤ maxLen) : MarksAtIn w w.heap.size v n k := by
  have h0 := h
  obtain ⟨_, ⟨rfl, hn⟩ | ⟨g, cap, cur, rfl, hB, hb, _⟩⟩ := h
  · subst hn
    exact ⟨none, 0, rfl, hl, fun j hj => by omega⟩
  · refine ⟨some ⟨g, 0, none⟩, cap, rfl, hl, fun j hj => ⟨g, 0, rfl, (h0.lt g rfl).2, ?_⟩⟩
    have := h0.cellAt j hj
    rw [hm j hj] at this
    simpa using this

set_option maxRecDepth 100000 in
set_option maxHeartbeats 8000000 in
theorem heldIn_any (n k : Nat) (v : Value) (w : World) (h : MarksAtIn w w.heap.size v n k) (hn : n ≤ 2097152) (hk1 : 1 ≤ k) (hk2 : k ≤ 100000000) :
    Calls Try.prog 63 #[v, .int .i64 k] w fun e w' => e = .returned (.int .i64 ((k + n * 6 : Nat) : Int)) ∧ Below w.heap.size w w' := by
  obtain ⟨ao, cap, rfl, hmax, hrow⟩ := h
  go_enter Try.func63, Try.ntmps63
  go_wp2
  go_loopw [1, 5] (fun vk vi wr => ∃ (i : Nat), i ≤ n ∧ vi = .int .i64 (i : Int) ∧ vk = .int .i64 ((k + i * 6 : Nat) : Int) ∧ Below w.heap.size w wr)
    (fun _ vi _ => n - (intOf vi).toNat)
  case atStart => exact ⟨0, by omega, rfl, by simp, Below.refl _ _⟩
  case round =>
    obtain ⟨i, hi, rfl, rfl, hbw⟩ := hrel
    by_cases hlt : i < n
    · have hlt' : (i : Int) < (n : Int) := by omega
      obtain ⟨g, o, rfl, hg, c0⟩ := hrow (i * 6) (by omega)
      obtain ⟨g', o', ha, _, c1⟩ := hrow (i * 6 + 1) (by omega)
      simp only [Option.some.injEq, Addr.mk.injEq, and_true] at ha
      obtain ⟨rfl, rfl⟩ := ha
      obtain ⟨g', o', ha, _, c2⟩ := hrow (i * 6 + 2) (by omega)
      simp only [Option.some.injEq, Addr.mk.injEq, and_true] at ha
      obtain ⟨rfl, rfl⟩ := ha
      obtain ⟨g', o', ha, _, c3⟩ := hrow (i * 6 + 3) (by omega)
      simp only [Option.some.injEq, Addr.mk.injEq, and_true] at ha
      obtain ⟨rfl, rfl⟩ := ha
      obtain ⟨g', o', ha, _, c4⟩ := hrow (i * 6 + 4) (by omega)
      simp only [Option.some.injEq, Addr.mk.injEq, and_true] at ha
      obtain ⟨rfl, rfl⟩ := ha
      obtain ⟨g', o', ha, _, c5⟩ := hrow (i * 6 + 5) (by omega)
      simp only [Option.some.injEq, Addr.mk.injEq, and_true] at ha
      obtain ⟨rfl, rfl⟩ := ha
      rw [mcIn_0] at c0
      rw [mcIn_1] at c1
      rw [mcIn_2] at c2
      rw [mcIn_3] at c3
      rw [mcIn_4] at c4
      rw [mcIn_5] at c5
      have e0 : wr.cell? ⟨g, o + i * 6, none⟩ = some (.int .i64 ((k : Int) + i * 6)) := by rw [hbw.cell (p := ⟨g, o + i * 6, none⟩) hg, c0, show ((k + (i * 6) : Nat) : Int) = (k : Int) + i * 6 by omega]
      have e1 : wr.cell? ⟨g, o + i * 6 + 1, none⟩ = some (.int .i64 ((k : Int) + i * 6 + 1)) := by rw [hbw.cell (p := ⟨g, o + i * 6 + 1, none⟩) hg, Nat.add_assoc, c1, show ((k + (i * 6 + 1) : Nat) : Int) = (k : Int) + i * 6 + 1 by omega]
      have e2 : wr.cell? ⟨g, o + i * 6 + 2, none⟩ = some (.int .i64 ((k : Int) + i * 6 + 1 + 1)) := by rw [hbw.cell (p := ⟨g, o + i * 6 + 2, none⟩) hg, Nat.add_assoc, c2, show ((k + (i * 6 + 2) : Nat) : Int) = (k : Int) + i * 6 + 1 + 1 by omega]
      have e3 : wr.cell? ⟨g, o + i * 6 + 3, none⟩ = some (.int .i64 ((k : Int) + i * 6 + 1 + 1 + 1)) := by rw [hbw.cell (p := ⟨g, o + i * 6 + 3, none⟩) hg, Nat.add_assoc, c3, show ((k + (i * 6 + 3) : Nat) : Int) = (k : Int) + i * 6 + 1 + 1 + 1 by omega]
      have e4 : wr.cell? ⟨g, o + i * 6 + 4, none⟩ = some (.string (mt ((k : Int) + i * 6 + 1 + 1 + 1 + 1).toNat)) := by rw [hbw.cell (p := ⟨g, o + i * 6 + 4, none⟩) hg, Nat.add_assoc, c4, show ((k : Int) + i * 6 + 1 + 1 + 1 + 1).toNat = k + (i * 6 + 4) by omega]
      have e5 : wr.cell? ⟨g, o + i * 6 + 5, none⟩ = some (.int .i64 ((k : Int) + i * 6 + 1 + 1 + 1 + 1 + 1)) := by rw [hbw.cell (p := ⟨g, o + i * 6 + 5, none⟩) hg, Nat.add_assoc, c5, show ((k + (i * 6 + 5) : Nat) : Int) = (k : Int) + i * 6 + 1 + 1 + 1 + 1 + 1 by omega]
      have C4 : Hid (∀ w : World, Calls Try.prog 95 #[.int .i64 ((k : Int) + i * 6 + 1 + 1 + 1 + 1)] w fun e w' => e = .returned (.string (mt ((k : Int) + i * 6 + 1 + 1 + 1 + 1).toNat)) ∧ Below w.heap.size w w') := fun w => markText_int _ (by omega) (by omega) w
      generalize mt ((k : Int) + i * 6 + 1 + 1 + 1 + 1).toNat = tx4 at e4 C4
      clear c0 c1 c2 c3 c4 c5 hrow
      go_wp2_with fail
      go_region_with (go_at_call 95; refine (C4.out _).mono ?_; rintro e w20 ⟨rfl, hbw20⟩; have hbww20 : Below w.heap.size w w20 := hbw.drew.trans (hbw20.mono hbw.size); have e4w20 := (hbw20.cell (p := ⟨g, o + i * 6 + 4, none⟩) (by have := hbw.size; simp; omega)).trans e4; have e5w20 := (hbw20.cell (p := ⟨g, o + i * 6 + 5, none⟩) (by have := hbw.size; simp; omega)).trans e5)
      all_goals
        go_wp2
        go_roundw
        case rel => exact ⟨i + 1, by omega, by go_num, by go_num, hbww20⟩
        case measure => simp [intOf]; omega
    · have hke : i = n := by omega
      subst hke
      have hge : ¬ ((i : Int) < (i : Int)) := by omega
      go_wp2
      go_ret
      exact ⟨rfl, hbw⟩

end Go.Proofs.Ytpopjapcgcnnfaa
