/- The law's own looks at lists of fields: whether two are alike, marks that are put, marks that are held. -/
import Derived.Test.YtfcfgdcofndjdaaDoorFldM
import Derived.Test.YtfcfgdcofndjdaaDoorMarkA
import Derived.Lib.SmallJoins
namespace Go.Proofs.YtfcfgdcofndjdaaDoor
open Go.RowKit

set_option maxRecDepth 100000 in
set_option maxHeartbeats 1000000 in
theorem eqField_same (no kind num : Int) (data : ByteArray) (w : World) :
    Calls Tryd.prog 11 #[.agg #[.int .i64 no, .int .i64 kind, .int .i64 num, .string data], .agg #[.int .i64 no, .int .i64 kind, .int .i64 num, .string data]] w fun e w' => e = .returned (.bool true) ∧ Below w.heap.size w w' := by
  go_enter Tryd.func11, Tryd.ntmps11
  go_wp2
  go_ret
  exact ⟨rfl, by repeat' (first | exact Below.refl _ _ | refine Below.alloc ?_ (by simp) _)⟩

set_option maxRecDepth 100000 in
set_option maxHeartbeats 4000000 in
theorem eqFieldS_same (l : List Fld) (v1 v2 : Value) (w : World) (h1 : FldsAt w w.heap.size v1 l) (h2 : FldsAt w w.heap.size v2 l) (hl : l.length ≤ 2097152) :
    Calls Tryd.prog 6 #[v1, v2] w fun e w' => e = .returned (.bool true) ∧ Below w.heap.size w w' := by
  obtain ⟨ao, cap, rfl, hmax, hrow⟩ := h1
  obtain ⟨ao2, cap2, rfl, _, hrow2⟩ := h2
  go_enter Tryd.func6, Tryd.ntmps6
  go_wp2
  go_loopw [5] (fun vi wr => ∃ k : Nat, k ≤ l.length ∧ vi = .int .i64 (k : Int) ∧ Below w.heap.size w wr)
    (fun vi _ => l.length - (intOf vi).toNat)
  case atStart => exact ⟨0, by omega, rfl, Below.refl _ _⟩
  case round =>
    obtain ⟨k, hk, rfl, hbw⟩ := hrel
    by_cases hlt : k < l.length
    · obtain ⟨f, hfk⟩ : ∃ f, l[k]? = some f := ⟨_, List.getElem?_eq_getElem hlt⟩
      obtain ⟨g, o, rfl, hgB, c0, c1, c2, c3⟩ := hrow k f hfk
      obtain ⟨g2, o2, rfl, hgB2, x0, x1, x2, x3⟩ := hrow2 k f hfk
      obtain ⟨no, kind, num, data⟩ := f
      dsimp only at c0 c1 c2 c3 x0 x1 x2 x3
      have e0 := (hbw.cell (p := ⟨g, o + k * 4, none⟩) hgB).trans c0
      have e1 := (hbw.cell (p := ⟨g, o + k * 4 + 1, none⟩) hgB).trans c1
      have e2 := (hbw.cell (p := ⟨g, o + k * 4 + 2, none⟩) hgB).trans c2
      have e3 := (hbw.cell (p := ⟨g, o + k * 4 + 3, none⟩) hgB).trans c3
      have y0 := (hbw.cell (p := ⟨g2, o2 + k * 4, none⟩) hgB2).trans x0
      have y1 := (hbw.cell (p := ⟨g2, o2 + k * 4 + 1, none⟩) hgB2).trans x1
      have y2 := (hbw.cell (p := ⟨g2, o2 + k * 4 + 2, none⟩) hgB2).trans x2
      have y3 := (hbw.cell (p := ⟨g2, o2 + k * 4 + 3, none⟩) hgB2).trans x3
      clear c0 c1 c2 c3 x0 x1 x2 x3 hrow hrow2 hfk
      have hlt' : (k : Int) < (l.length : Int) := by omega
      have C2 : Hid (∀ w : World, Calls Tryd.prog 11 #[.agg #[.int .i64 no, .int .i64 kind, .int .i64 num, .string data], .agg #[.int .i64 no, .int .i64 kind, .int .i64 num, .string data]] w fun e w' => e = .returned (.bool true) ∧ Below w.heap.size w w') := fun w => eqField_same no kind num data w
      go_wp2_with fail
      go_region_with (go_at_call 11; refine (C2.out _).mono ?_; rintro e w2 ⟨rfl, hb2⟩; have hbw2 : Below w.heap.size w w2 := hbw.drew.trans (hb2.mono hbw.size))
      all_goals
        go_wp2
        go_roundw
        case rel => exact ⟨k + 1, by omega, by go_num, hbw2⟩
        case measure => simp [intOf]; omega
    · have hke : k = l.length := by omega
      subst hke
      have hge : ¬ ((l.length : Int) < (l.length : Int)) := by omega
      go_wp2
      go_ret
      exact ⟨rfl, hbw⟩

/-- the mark of a cell of a field -/
def mcF (k j : Nat) : Value := if j % 4 = 3 then .string (mt (k + j)) else .int .i64 ((k + j : Nat) : Int)

theorem mcF_0 (k i : Nat) : mcF k (i * 4) = .int .i64 ((k + i * 4 : Nat) : Int) := by unfold mcF; rw [if_neg (by omega)]
theorem mcF_1 (k i : Nat) : mcF k (i * 4 + 1) = .int .i64 ((k + i * 4 + 1 : Nat) : Int) := by unfold mcF; rw [if_neg (by omega)]; rfl
theorem mcF_2 (k i : Nat) : mcF k (i * 4 + 2) = .int .i64 ((k + i * 4 + 2 : Nat) : Int) := by unfold mcF; rw [if_neg (by omega)]; rfl
theorem mcF_3 (k i : Nat) : mcF k (i * 4 + 3) = .string (mt (k + i * 4 + 3)) := by unfold mcF; rw [if_pos (by omega)]; rfl

theorem set4_marks (ys : List Value) (k i n : Nat) (hl : ys.length = n * 4) (hi : i < n) (hm : ∀ j, j < i * 4 → ys[j]? = some (mcF k j)) : ∀ j, j < (i + 1) * 4 →
    ((((ys.set (i * 4) (mcF k (i * 4))).set (i * 4 + 1) (mcF k (i * 4 + 1))).set (i * 4 + 2) (mcF k (i * 4 + 2))).set (i * 4 + 3) (mcF k (i * 4 + 3)))[j]? = some (mcF k j) := by
  intro j hj
  simp only [List.getElem?_set, List.length_set]
  by_cases h3 : i * 4 + 3 = j
  · rw [if_pos h3, if_pos (by omega), h3]
  · rw [if_neg h3]
    by_cases h2 : i * 4 + 2 = j
    · rw [if_pos h2, if_pos (by omega), h2]
    · rw [if_neg h2]
      by_cases h1 : i * 4 + 1 = j
      · rw [if_pos h1, if_pos (by omega), h1]
      · rw [if_neg h1]
        by_cases h0 : i * 4 = j
        · rw [if_pos h0, if_pos (by omega), h0]
        · rw [if_neg h0]
          exact hm j (by omega)

set_option maxRecDepth 100000 in
set_option maxHeartbeats 4000000 in
theorem markFieldS_any (B n k : Nat) (v : Value) (xs : List Value) (w : World) (hown : w.ownsRow B 29 4 v n xs) (hB : B ≤ w.heap.size) (hn : n ≤ 2097152) (hk1 : 1 ≤ k) (hk2 : k ≤ 100000000) :
    Calls Tryd.prog 7 #[v, .int .i64 k] w fun e w' => e = .returned (.int .i64 ((k + n * 4 : Nat) : Int)) ∧ (∃ ys, w'.ownsRow B 29 4 v n ys ∧ ∀ j, j < n * 4 → ys[j]? = some (mcF k j)) ∧ Below B w w' := by
  by_cases hn0 : n = 0
  · subst hn0
    obtain ⟨ao, cap, hv⟩ : ∃ ao cap, v = Value.slice ao 0 cap := by
      rcases hown.2 with ⟨rfl, _⟩ | ⟨g, cap, _, rfl, _⟩
      · exact ⟨_, _, rfl⟩
      · exact ⟨_, _, rfl⟩
    subst hv
    have HO : Hid (w.ownsRow B 29 4 (.slice ao 0 cap) 0 xs) := hown
    clear hown
    go_enter Tryd.func7, Tryd.ntmps7
    go_wp2
    go_loopw [1, 5] (fun vk vi wr => vk = .int .i64 (k : Int) ∧ vi = .int .i64 0 ∧ wr = w) (fun _ _ _ => 0)
    case atStart => exact ⟨rfl, rfl, rfl⟩
    case round =>
      obtain ⟨rfl, rfl, rfl⟩ := hrel
      go_wp2
      go_ret
      exact ⟨by simp, ⟨xs, HO.out, fun j hj => by omega⟩, Below.refl _ _⟩
  · obtain ⟨g, cap, hv⟩ := Joins.ownsRow_form hown (by omega)
    subst hv
    have hgB : B ≤ g := (hown.lt g rfl).1
    have hxl : xs.length = n * 4 := hown.1
    go_enter Tryd.func7, Tryd.ntmps7
    go_wp2
    go_loopw [1, 5] (fun vk vi wr => ∃ (i : Nat) (ys : List Value), i ≤ n ∧ vi = .int .i64 (i : Int) ∧ vk = .int .i64 ((k + i * 4 : Nat) : Int) ∧ wr.ownsRow B 29 4 (.slice (some ⟨g, 0, none⟩) n cap) n ys ∧ Hid (∀ j, j < i * 4 → ys[j]? = some (mcF k j)) ∧ Below B w wr)
      (fun _ vi _ => n - (intOf vi).toNat)
    case atStart => exact ⟨0, xs, by omega, rfl, by simp, hown, fun j hj => by omega, Below.refl _ _⟩
    case round =>
      obtain ⟨i, ys, hi, rfl, rfl, how, hm, hbw⟩ := hrel
      have hyl : ys.length = n * 4 := how.1
      clear hown
      by_cases hlt : i < n
      · have hlt' : (i : Int) < (n : Int) := by omega
        have q0 := how.cellAt (i * 4) (by omega)
        have q1 := how.cellAt (i * 4 + 1) (by omega)
        have q2 := how.cellAt (i * 4 + 2) (by omega)
        have q3 := how.cellAt (i * 4 + 3) (by omega)
        rw [List.getElem?_eq_getElem (by omega)] at q0 q1 q2 q3
        have z0 := how.frozenAt (i * 4)
        have z1 := how.frozenAt (i * 4 + 1)
        have z2 := how.frozenAt (i * 4 + 2)
        have z3 := how.frozenAt (i * 4 + 3)
        generalize ys[i * 4] = a0 at q0
        generalize ys[i * 4 + 1] = a1 at q1
        generalize ys[i * 4 + 2] = a2 at q2
        generalize ys[i * 4 + 3] = a3 at q3
        go_wp2_with fail
        refine (markText_int _ (by omega) (by omega) _).mono ?_
        rintro e w5 ⟨rfl, hb5⟩
        have how3 := (((how.stored (i * 4) (.int .i64 ((k : Int) + i * 4))).1.stored (i * 4 + 1) (.int .i64 ((k : Int) + i * 4 + 1))).1.stored (i * 4 + 2) (.int .i64 ((k : Int) + i * 4 + 1 + 1))).1
        have how5 := own_below how3 hb5
        have hbw3 : Below B w (((wr.setCell ⟨g, i * 4, none⟩ (.int .i64 ((k : Int) + i * 4))).setCell ⟨g, i * 4 + 1, none⟩ (.int .i64 ((k : Int) + i * 4 + 1))).setCell ⟨g, i * 4 + 2, none⟩ (.int .i64 ((k : Int) + i * 4 + 1 + 1))) :=
          ((hbw.setCell (p := ⟨g, i * 4, none⟩) hgB _).setCell (p := ⟨g, i * 4 + 1, none⟩) hgB _).setCell (p := ⟨g, i * 4 + 2, none⟩) hgB _
        have hbw5 : Below B w w5 := hbw3.trans (hb5.mono (by have := hbw.size; simp; omega))
        have q5 := how5.cellAt (i * 4 + 3) (by omega)
        rw [List.getElem?_eq_getElem (by simp; omega)] at q5
        have z5 := how5.frozenAt (i * 4 + 3)
        have how6 := (how5.stored (i * 4 + 3) (.string (mt ((k : Int) + i * 4 + 1 + 1 + 1).toNat))).1
        have HM : Hid (∀ j, j < (i + 1) * 4 → ((((ys.set (i * 4) (.int .i64 ((k : Int) + i * 4))).set (i * 4 + 1) (.int .i64 ((k : Int) + i * 4 + 1))).set (i * 4 + 2) (.int .i64 ((k : Int) + i * 4 + 1 + 1))).set (i * 4 + 3) (.string (mt ((k : Int) + i * 4 + 1 + 1 + 1).toNat)))[j]? = some (mcF k j)) := by
          have e0 : Value.int .i64 ((k : Int) + i * 4) = mcF k (i * 4) := by rw [mcF_0]; push_cast; rfl
          have e1 : Value.int .i64 ((k : Int) + i * 4 + 1) = mcF k (i * 4 + 1) := by rw [mcF_1]; push_cast; rfl
          have e2 : Value.int .i64 ((k : Int) + i * 4 + 1 + 1) = mcF k (i * 4 + 2) := by rw [mcF_2, show ((k + i * 4 + 2 : Nat) : Int) = (k : Int) + i * 4 + 1 + 1 by omega]
          have e3 : Value.string (mt ((k : Int) + i * 4 + 1 + 1 + 1).toNat) = mcF k (i * 4 + 3) := by rw [mcF_3, show ((k : Int) + i * 4 + 1 + 1 + 1).toNat = k + i * 4 + 3 by omega]
          rw [e0, e1, e2, e3]
          exact set4_marks ys k i n hyl hlt hm.out
        generalize (((ys.set (i * 4) (Value.int .i64 ((k : Int) + i * 4))).set (i * 4 + 1) (Value.int .i64 ((k : Int) + i * 4 + 1))).set (i * 4 + 2) (Value.int .i64 ((k : Int) + i * 4 + 1 + 1))).set (i * 4 + 3) (Value.string (mt ((k : Int) + i * 4 + 1 + 1 + 1).toNat)) = zs at how6 HM
        generalize mt ((k : Int) + i * 4 + 1 + 1 + 1).toNat = tx at how6 ⊢
        generalize ((((ys.set (i * 4) (Value.int .i64 ((k : Int) + i * 4))).set (i * 4 + 1) (Value.int .i64 ((k : Int) + i * 4 + 1))).set (i * 4 + 2) (Value.int .i64 ((k : Int) + i * 4 + 1 + 1)))[i * 4 + 3]'(by simp; omega)) = a5 at q5
        clear how how3 how5 hb5 hbw3 hbw q0 q1 q2 q3 z0 z1 z2 z3
        go_wp2
        go_roundw
        case rel => exact ⟨i + 1, zs, by omega, by go_num, by go_num, how6, HM, hbw5.setCell (p := ⟨g, i * 4 + 3, none⟩) hgB _⟩
        case measure => simp [intOf]; omega
      · have hke : i = n := by omega
        subst hke
        have hge : ¬ ((i : Int) < (i : Int)) := by omega
        go_wp2
        go_ret
        exact ⟨rfl, ⟨ys, how, hm.out⟩, hbw⟩

/-- marks that lie in a slice's cells -/
def MarksAt (w : World) (B : Nat) (v : Value) (n k : Nat) : Prop :=
  ∃ ao cap, v = .slice ao n cap ∧ n ≤ maxLen ∧ ∀ j, j < n * 4 → ∃ g o, ao = some ⟨g, o, none⟩ ∧ g < B ∧ w.cell? ⟨g, o + j, none⟩ = some (mcF k j)

theorem MarksAt.below {w w' : World} {v : Value} {n k B : Nat} (h : MarksAt w B v n k) (hb : Below B w w') (hB : B ≤ w.heap.size := by exact Nat.le_refl _) : MarksAt w' w'.heap.size v n k := by
  obtain ⟨ao, cap, hv, hm, hr⟩ := h
  refine ⟨ao, cap, hv, hm, fun j hj => ?_⟩
  obtain ⟨g, o, ha, hg, c⟩ := hr j hj
  have := hb.size
  exact ⟨g, o, ha, by omega, (hb.cell (p := ⟨g, o + j, none⟩) hg).trans c⟩

theorem MarksAt.own {w : World} {B n k : Nat} {v : Value} {ys : List Value} (h : w.ownsRow B 29 4 v n ys) (hm : ∀ j, j < n * 4 → ys[j]? = some (mcF k j)) (hl : n ≤ maxLen) : MarksAt w w.heap.size v n k := by
  have h0 := h
  obtain ⟨_, ⟨rfl, hn⟩ | ⟨g, cap, cur, rfl, hB, hb, _⟩⟩ := h
  · subst hn
    exact ⟨none, 0, rfl, hl, fun j hj => by omega⟩
  · refine ⟨some ⟨g, 0, none⟩, cap, rfl, hl, fun j hj => ⟨g, 0, rfl, (h0.lt g rfl).2, ?_⟩⟩
    have := h0.cellAt j hj
    rw [hm j hj] at this
    simpa using this

set_option maxRecDepth 100000 in
set_option maxHeartbeats 4000000 in
theorem heldFieldS_any (n k : Nat) (v : Value) (w : World) (h : MarksAt w w.heap.size v n k) (hn : n ≤ 2097152) (hk1 : 1 ≤ k) (hk2 : k ≤ 100000000) :
    Calls Tryd.prog 8 #[v, .int .i64 k] w fun e w' => e = .returned (.int .i64 ((k + n * 4 : Nat) : Int)) ∧ Below w.heap.size w w' := by
  obtain ⟨ao, cap, rfl, hmax, hrow⟩ := h
  go_enter Tryd.func8, Tryd.ntmps8
  go_wp2
  go_loopw [1, 5] (fun vk vi wr => ∃ (i : Nat), i ≤ n ∧ vi = .int .i64 (i : Int) ∧ vk = .int .i64 ((k + i * 4 : Nat) : Int) ∧ Below w.heap.size w wr)
    (fun _ vi _ => n - (intOf vi).toNat)
  case atStart => exact ⟨0, by omega, rfl, by simp, Below.refl _ _⟩
  case round =>
    obtain ⟨i, hi, rfl, rfl, hbw⟩ := hrel
    by_cases hlt : i < n
    · have hlt' : (i : Int) < (n : Int) := by omega
      obtain ⟨g, o, rfl, hg, c0⟩ := hrow (i * 4) (by omega)
      obtain ⟨g', o', ha, _, c1⟩ := hrow (i * 4 + 1) (by omega)
      simp only [Option.some.injEq, Addr.mk.injEq, and_true] at ha
      obtain ⟨rfl, rfl⟩ := ha
      obtain ⟨g', o', ha, _, c2⟩ := hrow (i * 4 + 2) (by omega)
      simp only [Option.some.injEq, Addr.mk.injEq, and_true] at ha
      obtain ⟨rfl, rfl⟩ := ha
      obtain ⟨g', o', ha, _, c3⟩ := hrow (i * 4 + 3) (by omega)
      simp only [Option.some.injEq, Addr.mk.injEq, and_true] at ha
      obtain ⟨rfl, rfl⟩ := ha
      rw [mcF_0] at c0
      rw [mcF_1] at c1
      rw [mcF_2] at c2
      rw [mcF_3] at c3
      have e0 : wr.cell? ⟨g, o + i * 4, none⟩ = some (.int .i64 ((k : Int) + i * 4)) := by rw [hbw.cell (p := ⟨g, o + i * 4, none⟩) hg, c0]; push_cast; rfl
      have e1 : wr.cell? ⟨g, o + i * 4 + 1, none⟩ = some (.int .i64 ((k : Int) + i * 4 + 1)) := by rw [hbw.cell (p := ⟨g, o + i * 4 + 1, none⟩) hg, Nat.add_assoc, c1]; push_cast; rfl
      have e2 : wr.cell? ⟨g, o + i * 4 + 2, none⟩ = some (.int .i64 ((k : Int) + i * 4 + 1 + 1)) := by rw [hbw.cell (p := ⟨g, o + i * 4 + 2, none⟩) hg, Nat.add_assoc, c2, show ((k + i * 4 + 2 : Nat) : Int) = (k : Int) + i * 4 + 1 + 1 by omega]
      have e3 : wr.cell? ⟨g, o + i * 4 + 3, none⟩ = some (.string (mt ((k : Int) + i * 4 + 1 + 1 + 1).toNat)) := by rw [hbw.cell (p := ⟨g, o + i * 4 + 3, none⟩) hg, Nat.add_assoc, c3, show ((k : Int) + i * 4 + 1 + 1 + 1).toNat = k + i * 4 + 3 by omega]
      have C2 : Hid (∀ w : World, Calls Tryd.prog 12 #[.int .i64 ((k : Int) + i * 4 + 1 + 1 + 1)] w fun e w' => e = .returned (.string (mt ((k : Int) + i * 4 + 1 + 1 + 1).toNat)) ∧ Below w.heap.size w w') := fun w => markText_int _ (by omega) (by omega) w
      generalize mt ((k : Int) + i * 4 + 1 + 1 + 1).toNat = tx at e3 C2
      clear c0 c1 c2 c3 hrow
      go_wp2_with fail
      go_region_with (go_at_call 12; refine (C2.out _).mono ?_; rintro e w2 ⟨rfl, hb2⟩; have hbw2 : Below w.heap.size w w2 := hbw.drew.trans (hb2.mono hbw.size); have e4 := (hb2.cell (p := ⟨g, o + i * 4 + 3, none⟩) (by have := hbw.size; simp; omega)).trans e3)
      all_goals
        go_wp2
        go_roundw
        case rel => exact ⟨i + 1, by omega, by go_num, by go_num, hbw2⟩
        case measure => simp [intOf]; omega
    · have hke : i = n := by omega
      subst hke
      have hge : ¬ ((i : Int) < (i : Int)) := by omega
      go_wp2
      go_ret
      exact ⟨rfl, hbw⟩

end Go.Proofs.YtfcfgdcofndjdaaDoor
