/- The law's own marks in machines. -/
import Derived.Test.YtfkhbbmnjndmcaaMcN
import Derived.Lib.BufferOwn
import Derived.Lib.BufferWrite
namespace Go.Proofs.Ytfkhbbmnjndmcaa
open Go.RowKit Plain Mch

theorem grow_belowM {w w' : World} {row : Option Nat} (hb : Below w.heap.size w w') : w.grownBy w' row := ⟨hb.os, hb.tape, hb.output, hb.size, fun j hj _ => hb.block j hj⟩

set_option maxRecDepth 100000 in
set_option maxHeartbeats 4000000 in
theorem markZM_any (B n k : Nat) (v : Value) (xs : List Value) (w : World) (hown : w.ownsRow B 3 1 v n xs) (hn : n ≤ 2097152) (hk2 : k ≤ 100000000) :
    Calls Try.prog 31 #[v, .int .i64 k] w fun e w' => e = .returned (.int .i64 ((k + n : Nat) : Int)) ∧ (∃ ys, w'.ownsRow B 3 1 v n ys ∧ ∀ j, j < n → ys[j]? = some (.int .i64 ((k + j : Nat) : Int))) ∧ w.grownBy w' v.ownBlock := by
  by_cases hn0 : n = 0
  · subst hn0
    obtain ⟨ao, cap, hv⟩ : ∃ ao cap, v = Value.slice ao 0 cap := by
      rcases hown.2 with ⟨rfl, _⟩ | ⟨g, cap, _, rfl, _⟩
      · exact ⟨_, _, rfl⟩
      · exact ⟨_, _, rfl⟩
    subst hv
    have HO : Hid (w.ownsRow B 3 1 (.slice ao 0 cap) 0 xs) := hown
    clear hown
    go_enter Try.func31, Try.ntmps31
    go_wp2
    go_loopw [1, 5] (fun vk vi wr => vk = .int .i64 (k : Int) ∧ vi = .int .i64 0 ∧ wr = w) (fun _ _ _ => 0)
    case atStart => exact ⟨rfl, rfl, rfl⟩
    case round =>
      obtain ⟨rfl, rfl, rfl⟩ := hrel
      go_wp2
      go_ret
      exact ⟨by simp, ⟨xs, HO.out, fun j hj => by omega⟩, grow_belowM (Below.refl _ _)⟩
  · obtain ⟨g, cap, hv⟩ := Joins.ownsRow_form hown (by omega)
    subst hv
    go_enter Try.func31, Try.ntmps31
    go_wp2
    go_loopw [1, 5] (fun vk vi wr => ∃ (i : Nat) (ys : List Value), i ≤ n ∧ vi = .int .i64 (i : Int) ∧ vk = .int .i64 ((k + i : Nat) : Int) ∧ wr.ownsRow B 3 1 (.slice (some ⟨g, 0, none⟩) n cap) n ys ∧ Hid (∀ j, j < i → ys[j]? = some (.int .i64 ((k + j : Nat) : Int))) ∧ w.grownBy wr (some g))
      (fun _ vi _ => n - (intOf vi).toNat)
    case atStart => exact ⟨0, xs, by omega, rfl, by simp, hown, fun j hj => by omega, grow_belowM (Below.refl _ _)⟩
    case round =>
      obtain ⟨i, ys, hi, rfl, rfl, how, hm, hbw0⟩ := hrel
      have HBW : Hid (w.grownBy wr (some g)) := hbw0
      clear hbw0
      have hyl : ys.length = n := by have := how.1; omega
      clear hown
      by_cases hlt : i < n
      · have hlt' : (i : Int) < (n : Int) := by omega
        have q0 := how.cellAt i (by omega)
        rw [List.getElem?_eq_getElem (by omega)] at q0
        have z0 := how.frozenAt i
        generalize ys[i] = a0 at q0
        have how6 := (how.stored i (.int .i64 ((k : Int) + i))).1
        have HM : Hid (∀ j, j < i + 1 → (ys.set i (.int .i64 ((k : Int) + i)))[j]? = some (.int .i64 ((k + j : Nat) : Int))) := set1_marks ys k i n hyl hlt hm.out
        generalize ys.set i (Value.int .i64 ((k : Int) + i)) = zs at how6 HM
        clear how hm
        go_wp2
        go_roundw
        case rel => exact ⟨i + 1, zs, by omega, by go_num, by go_num, how6, HM, Lib.grownBy_trans HBW.out (Lib.grownBy_setCell _ g i _)⟩
        case measure => simp [intOf]; omega
      · have hke : i = n := by omega
        subst hke
        have hge : ¬ ((i : Int) < (i : Int)) := by omega
        go_wp2
        go_ret
        exact ⟨rfl, ⟨ys, how, hm.out⟩, HBW.out⟩

/-- the mark of a bool -/
def mb (k j : Nat) : Bool := ((k + j : Nat) : Int) % 3 == 0

theorem setB_marks (ys : List Value) (k i n : Nat) (hl : ys.length = n) (hi : i < n) (b : Bool) (hb : b = mb k i) (hm : ∀ j, j < i → ys[j]? = some (.bool (mb k j))) : ∀ j, j < i + 1 → (ys.set i (.bool b))[j]? = some (.bool (mb k j)) := by
  intro j hj
  rw [List.getElem?_set]
  by_cases h : i = j
  · subst h
    rw [if_pos rfl, if_pos (by omega), hb]
  · rw [if_neg h]
    exact hm j (by omega)

set_option maxRecDepth 100000 in
set_option maxHeartbeats 4000000 in
theorem markEM_any (B n k : Nat) (v : Value) (xs : List Value) (w : World) (hown : w.ownsRow B 4 1 v n xs) (hn : n ≤ 2097152) (hk2 : k ≤ 100000000) :
    Calls Try.prog 30 #[v, .int .i64 k] w fun e w' => e = .returned (.int .i64 ((k + n : Nat) : Int)) ∧ (∃ ys, w'.ownsRow B 4 1 v n ys ∧ ∀ j, j < n → ys[j]? = some (.bool (mb k j))) ∧ w.grownBy w' v.ownBlock := by
  by_cases hn0 : n = 0
  · subst hn0
    obtain ⟨ao, cap, hv⟩ : ∃ ao cap, v = Value.slice ao 0 cap := by
      rcases hown.2 with ⟨rfl, _⟩ | ⟨g, cap, _, rfl, _⟩
      · exact ⟨_, _, rfl⟩
      · exact ⟨_, _, rfl⟩
    subst hv
    have HO : Hid (w.ownsRow B 4 1 (.slice ao 0 cap) 0 xs) := hown
    clear hown
    go_enter Try.func30, Try.ntmps30
    go_wp2
    go_loopw [1, 5] (fun vk vi wr => vk = .int .i64 (k : Int) ∧ vi = .int .i64 0 ∧ wr = w) (fun _ _ _ => 0)
    case atStart => exact ⟨rfl, rfl, rfl⟩
    case round =>
      obtain ⟨rfl, rfl, rfl⟩ := hrel
      go_wp2
      go_ret
      exact ⟨by simp, ⟨xs, HO.out, fun j hj => by omega⟩, grow_belowM (Below.refl _ _)⟩
  · obtain ⟨g, cap, hv⟩ := Joins.ownsRow_form hown (by omega)
    subst hv
    go_enter Try.func30, Try.ntmps30
    go_wp2
    go_loopw [1, 5] (fun vk vi wr => ∃ (i : Nat) (ys : List Value), i ≤ n ∧ vi = .int .i64 (i : Int) ∧ vk = .int .i64 ((k + i : Nat) : Int) ∧ wr.ownsRow B 4 1 (.slice (some ⟨g, 0, none⟩) n cap) n ys ∧ Hid (∀ j, j < i → ys[j]? = some (.bool (mb k j))) ∧ w.grownBy wr (some g))
      (fun _ vi _ => n - (intOf vi).toNat)
    case atStart => exact ⟨0, xs, by omega, rfl, by simp, hown, fun j hj => by omega, grow_belowM (Below.refl _ _)⟩
    case round =>
      obtain ⟨i, ys, hi, rfl, rfl, how, hm, hbw0⟩ := hrel
      have HBW : Hid (w.grownBy wr (some g)) := hbw0
      clear hbw0
      have hyl : ys.length = n := by have := how.1; omega
      clear hown
      by_cases hlt : i < n
      · have hlt' : (i : Int) < (n : Int) := by omega
        have q0 := how.cellAt i (by omega)
        rw [List.getElem?_eq_getElem (by omega)] at q0
        have z0 := how.frozenAt i
        generalize ys[i] = a0 at q0
        obtain ⟨kk, hkk⟩ : ∃ kk, kk = k + i := ⟨_, rfl⟩
        have HKK : Hid (kk = k + i) := hkk
        rw [← hkk]
        have hk3 : kk ≤ 200000000 := by omega
        clear hkk
        have how6 := (how.stored i (.bool (((kk : Nat) : Int) % 3 == 0))).1
        have HM : Hid (∀ j, j < i + 1 → (ys.set i (.bool (((kk : Nat) : Int) % 3 == 0)))[j]? = some (.bool (mb k j))) := setB_marks ys k i n hyl hlt _ (by rw [HKK.out]; rfl) hm.out
        generalize ys.set i (Value.bool (((kk : Nat) : Int) % 3 == 0)) = zs at how6 HM
        clear how hm
        go_wp2
        go_roundw
        case rel => exact ⟨i + 1, zs, by omega, by go_num, by have := HKK.out; go_num, how6, HM, Lib.grownBy_trans HBW.out (Lib.grownBy_setCell _ g i _)⟩
        case measure => simp [intOf]; omega
      · have hke : i = n := by omega
        subst hke
        have hge : ¬ ((i : Int) < (i : Int)) := by omega
        go_wp2
        go_ret
        exact ⟨rfl, ⟨ys, how, hm.out⟩, HBW.out⟩

end Go.Proofs.Ytfkhbbmnjndmcaa
