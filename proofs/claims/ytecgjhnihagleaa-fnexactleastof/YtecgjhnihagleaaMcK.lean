/- The law's own marks in machines. -/
import Derived.Test.YtecgjhnihagleaaMcN
import Derived.Lib.BufferOwn
import Derived.Lib.BufferWrite
namespace Go.Proofs.Ytecgjhnihagleaa
open Go.RowKit Plain Mch

theorem grow_belowM {w w' : World} {row : Option Nat} (hb : Below w.heap.size w w') : w.grownBy w' row := ⟨hb.os, hb.tape, hb.output, hb.size, fun j hj _ => hb.block j hj⟩

set_option maxRecDepth 100000 in
set_option maxHeartbeats 4000000 in
theorem markZM_any (B n k : Nat) (v : Value) (xs : List Value) (w : World) (hown : w.ownsRow B 3 1 v n xs) (hn : n ≤ 2097152) (hk2 : k ≤ 100000000) :
    Calls Try.prog 14 #[v, .int .i64 k] w fun e w' => e = .returned (.int .i64 ((k + n : Nat) : Int)) ∧ (∃ ys, w'.ownsRow B 3 1 v n ys ∧ ∀ j, j < n → ys[j]? = some (.int .i64 ((k + j : Nat) : Int))) ∧ w.grownBy w' v.ownBlock := by
  by_cases hn0 : n = 0
  · subst hn0
    obtain ⟨ao, cap, hv⟩ : ∃ ao cap, v = Value.slice ao 0 cap := by
      rcases hown.2 with ⟨rfl, _⟩ | ⟨g, cap, _, rfl, _⟩
      · exact ⟨_, _, rfl⟩
      · exact ⟨_, _, rfl⟩
    subst hv
    have HO : Hid (w.ownsRow B 3 1 (.slice ao 0 cap) 0 xs) := hown
    clear hown
    go_enter Try.func14, Try.ntmps14
    go_wp2
    go_loopw [1, 5] (fun vk vi wr => vk = .int .i64 (k : Int) ∧ vi = .int .i64 0 ∧ wr = w) (fun _ _ _ => 0)
    case atStart => exact ⟨rfl, rfl, rfl⟩
    case round =>
      obtain ⟨rfl, rfl, rfl⟩ := hrel
      go_wp2
      go_ret
      exact ⟨by simp, ⟨xs, HO.out, fun j hj => by omega⟩, grow_belowM (Below.refl _ _)⟩
  · obtain ⟨g, cap, hv⟩ := Joins.ownsRow_form hown (by omega)
    subst hv
    go_enter Try.func14, Try.ntmps14
    go_wp2
    go_loopw [1, 5] (fun vk vi wr => ∃ (i : Nat) (ys : List Value), i ≤ n ∧ vi = .int .i64 (i : Int) ∧ vk = .int .i64 ((k + i : Nat) : Int) ∧ wr.ownsRow B 3 1 (.slice (some ⟨g, 0, none⟩) n cap) n ys ∧ Hid (∀ j, j < i → ys[j]? = some (.int .i64 ((k + j : Nat) : Int))) ∧ w.grownBy wr (some g))
      (fun _ vi _ => n - (intOf vi).toNat)
    case atStart => exact ⟨0, xs, by omega, rfl, by simp, hown, fun j hj => by omega, grow_belowM (Below.refl _ _)⟩
    case round =>
      obtain ⟨i, ys, hi, rfl, rfl, how, hm, hbw0⟩ := hrel
      have HBW : Hid (w.grownBy wr (some g)) := hbw0
      clear hbw0
      have hyl : ys.length = n := by have := how.1; omega
      clear hown
      by_cases hlt : i < n
      · have hlt' : (i : Int) < (n : Int) := by omega
        have q0 := how.cellAt i (by omega)
        rw [List.getElem?_eq_getElem (by omega)] at q0
        have z0 := how.frozenAt i
        generalize ys[i] = a0 at q0
        have how6 := (how.stored i (.int .i64 ((k : Int) + i))).1
        have HM : Hid (∀ j, j < i + 1 → (ys.set i (.int .i64 ((k : Int) + i)))[j]? = some (.int .i64 ((k + j : Nat) : Int))) := set1_marks ys k i n hyl hlt hm.out
        generalize ys.set i (Value.int .i64 ((k : Int) + i)) = zs at how6 HM
        clear how hm
        go_wp2
        go_roundw
        case rel => exact ⟨i + 1, zs, by omega, by go_num, by go_num, how6, HM, Lib.grownBy_trans HBW.out (Lib.grownBy_setCell _ g i _)⟩
        case measure => simp [intOf]; omega
      · have hke : i = n := by omega
        subst hke
        have hge : ¬ ((i : Int) < (i : Int)) := by omega
        go_wp2
        go_ret
        exact ⟨rfl, ⟨ys, how, hm.out⟩, HBW.out⟩

/-- the mark of a bool -/
def mb (k j : Nat) : Bool := ((k + j : Nat) : Int) % 3 == 0

theorem setB_marks (ys : List Value) (k i n : Nat) (hl : ys.length = n) (hi : i < n) (b : Bool) (hb : b = mb k i) (hm : ∀ j, j < i → ys[j]? = some (.bool (mb k j))) : ∀ j, j < i + 1 → (ys.set i (.bool b))[j]? = some (.bool (mb k j)) := by
  intro j hj
  rw [List.getElem?_set]
  by_cases h : i = j
  · subst h
    rw [if_pos rfl, if_pos (by omega), hb]
  · rw [if_neg h]
    exact hm j (by omega)

set_option maxRecDepth 100000 in
set_option maxHeartbeats 4000000 in
theorem markEM_any (B n k : Nat) (v : Value) (xs : List Value) (w : World) (hown : w.ownsRow B 4 1 v n xs) (hn : n ≤ 2097152) (hk2 : k ≤ 100000000) :
    Calls Try.prog 47 #[v, .int .i64 k] w fun e w' => e = .returned (.int .i64 ((k + n : Nat) : Int)) ∧ (∃ ys, w'.ownsRow B 4 1 v n ys ∧ ∀ j, j < n → ys[j]? = some (.bool (mb k j))) ∧ w.grownBy w' v.ownBlock := by
  by_cases hn0 : n = 0
  · subst hn0
    obtain ⟨ao, cap, hv⟩ : ∃ ao cap, v = Value.slice ao 0 cap := by
      rcases hown.2 with ⟨rfl, _⟩ | ⟨g, cap, _, rfl, _⟩
      · exact ⟨_, _, rfl⟩
      · exact ⟨_, _, rfl⟩
    subst hv
    have HO : Hid (w.ownsRow B 4 1 (.slice ao 0 cap) 0 xs) := hown
    clear hown
    go_enter Try.func47, Try.ntmps47
    go_wp2
    go_loopw [1, 5] (fun vk vi wr => vk = .int .i64 (k : Int) ∧ vi = .int .i64 0 ∧ wr = w) (fun _ _ _ => 0)
    case atStart => exact ⟨rfl, rfl, rfl⟩
    case round =>
      obtain ⟨rfl, rfl, rfl⟩ := hrel
      go_wp2
      go_ret
      exact ⟨by simp, ⟨xs, HO.out, fun j hj => by omega⟩, grow_belowM (Below.refl _ _)⟩
  · obtain ⟨g, cap, hv⟩ := Joins.ownsRow_form hown (by omega)
    subst hv
    go_enter Try.func47, Try.ntmps47
    go_wp2
    go_loopw [1, 5] (fun vk vi wr => ∃ (i : Nat) (ys : List Value), i ≤ n ∧ vi = .int .i64 (i : Int) ∧ vk = .int .i64 ((k + i : Nat) : Int) ∧ wr.ownsRow B 4 1 (.slice (some ⟨g, 0, none⟩) n cap) n ys ∧ Hid (∀ j, j < i → ys[j]? = some (.bool (mb k j))) ∧ w.grownBy wr (some g))
      (fun _ vi _ => n - (intOf vi).toNat)
    case atStart => exact ⟨0, xs, by omega, rfl, by simp, hown, fun j hj => by omega, grow_belowM (Below.refl _ _)⟩
    case round =>
      obtain ⟨i, ys, hi, rfl, rfl, how, hm, hbw0⟩ := hrel
      have HBW : Hid (w.grownBy wr (some g)) := hbw0
      clear hbw0
      have hyl : ys.length = n := by have := how.1; omega
      clear hown
      by_cases hlt : i < n
      · have hlt' : (i : Int) < (n : Int) := by omega
        have q0 := how.cellAt i (by omega)
        rw [List.getElem?_eq_getElem (by omega)] at q0
        have z0 := how.frozenAt i
        generalize ys[i] = a0 at q0
        obtain ⟨kk, hkk⟩ : ∃ kk, kk = k + i := ⟨_, rfl⟩
        have HKK : Hid (kk = k + i) := hkk
        rw [← hkk]
        have hk3 : kk ≤ 200000000 := by omega
        clear hkk
        have how6 := (how.stored i (.bool (((kk : Nat) : Int) % 3 == 0))).1
        have HM : Hid (∀ j, j < i + 1 → (ys.set i (.bool (((kk : Nat) : Int) % 3 == 0)))[j]? = some (.bool (mb k j))) := setB_marks ys k i n hyl hlt _ (by rw [HKK.out]; rfl) hm.out
        generalize ys.set i (Value.bool (((kk : Nat) : Int) % 3 == 0)) = zs at how6 HM
        clear how hm
        go_wp2
        go_roundw
        case rel => exact ⟨i + 1, zs, by omega, by go_num, by have := HKK.out; go_num, how6, HM, Lib.grownBy_trans HBW.out (Lib.grownBy_setCell _ g i _)⟩
        case measure => simp [intOf]; omega
      · have hke : i = n := by omega
        subst hke
        have hge : ¬ ((i : Int) < (i : Int)) := by omega
        go_wp2
        go_ret
        exact ⟨rfl, ⟨ys, how, hm.out⟩, HBW.out⟩

set_option maxRecDepth 100000 in
set_option maxHeartbeats 4000000 in
theorem heldEM_any (B n k : Nat) (v : Value) (ys : List Value) (w : World) (hown : w.ownsRow B 4 1 v n ys) (hm : ∀ j, j < n → ys[j]? = some (.bool (mb k j))) (hn : n ≤ 2097152) (hk2 : k ≤ 100000000) :
    Calls Try.prog 53 #[v, .int .i64 k] w fun e w' => e = .returned (.int .i64 ((k + n : Nat) : Int)) ∧ Below w.heap.size w w' := by
  obtain ⟨ao, cap, hv⟩ : ∃ ao cap, v = Value.slice ao n cap := by
    rcases hown.2 with ⟨rfl, h0⟩ | ⟨g, cap, _, rfl, _⟩
    · exact ⟨none, 0, by rw [h0]⟩
    · exact ⟨_, _, rfl⟩
  subst hv
  have HROW : Hid (∀ i, i < n → ∃ g, ao = some ⟨g, 0, none⟩ ∧ g < w.heap.size ∧ w.cell? ⟨g, i, none⟩ = some (.bool (mb k i))) := fun i hi => by
    obtain ⟨g, c, hv⟩ := Joins.ownsRow_form hown (by omega)
    simp only [Value.slice.injEq, true_and] at hv
    obtain ⟨rfl, rfl⟩ := hv
    refine ⟨g, rfl, (World.ownsRow.lt hown g rfl).2, ?_⟩
    rw [World.ownsRow.cellAt hown i (by omega)]
    exact hm i hi
  clear hown hm
  go_enter Try.func53, Try.ntmps53
  go_wp2
  go_loopw [1, 5] (fun vk vi wr => ∃ (i : Nat), i ≤ n ∧ vi = .int .i64 (i : Int) ∧ vk = .int .i64 ((k + i : Nat) : Int) ∧ Below w.heap.size w wr)
    (fun _ vi _ => n - (intOf vi).toNat)
  case atStart => exact ⟨0, by omega, rfl, by simp, Below.refl _ _⟩
  case round =>
    obtain ⟨i, hi, rfl, rfl, hbw⟩ := hrel
    by_cases hlt : i < n
    · have hlt' : (i : Int) < (n : Int) := by omega
      obtain ⟨g, rfl, hg, c⟩ := HROW.out i hlt
      have e1 := (hbw.cell (p := ⟨g, i, none⟩) hg).trans c
      obtain ⟨kk, hkk⟩ : ∃ kk, kk = k + i := ⟨_, rfl⟩
      have HKK : Hid (kk = k + i) := hkk
      unfold mb at e1
      rw [← hkk] at e1
      rw [← hkk]
      have hk3 : kk ≤ 200000000 := by omega
      clear hkk c
      obtain ⟨bb, hbb⟩ : ∃ bb, bb = (((kk : Nat) : Int) % 3 == 0) := ⟨_, rfl⟩
      rw [← hbb] at e1
      have hbb' : (((kk : Nat) : Int) % 3 == 0) = bb := hbb.symm
      have hne : (bb != bb) = false := by simp
      clear hbb
      go_wp2_with fail
      first
        | (go_quiet (fail)
           go_wp2
           go_roundw
           case rel => exact ⟨i + 1, by omega, by go_num, by have := HKK.out; go_num, below_drewN hbw⟩
           case measure => simp [intOf]; omega)
        | (go_wp2
           go_roundw
           case rel => exact ⟨i + 1, by omega, by go_num, by have := HKK.out; go_num, hbw⟩
           case measure => simp [intOf]; omega)
    · have hke : i = n := by omega
      subst hke
      have hge : ¬ ((i : Int) < (i : Int)) := by omega
      go_wp2
      go_ret
      exact ⟨rfl, hbw⟩

end Go.Proofs.Ytecgjhnihagleaa
