/- The law's own marks in machines. Marks that are put into machines, and held. -/
import Derived.Test.YtecgjhnihagleaaXd
import Derived.Lib.BufferOwn
import Derived.Lib.BufferWrite
namespace Go.Proofs.Ytecgjhnihagleaa
open Go.RowKit Plain Mch

theorem grow_belowM {w w' : World} {row : Option Nat} (hb : Below w.heap.size w w') : w.grownBy w' row := ⟨hb.os, hb.tape, hb.output, hb.size, fun j hj _ => hb.block j hj⟩

set_option maxRecDepth 100000 in
set_option maxHeartbeats 4000000 in
theorem markZM_any (B n k : Nat) (v : Value) (xs : List Value) (w : World) (hown : w.ownsRow B 3 1 v n xs) (hn : n ≤ 2097152) (hk2 : k ≤ 100000000) :
    Calls Try.prog 14 #[v, .int .i64 k] w fun e w' => e = .returned (.int .i64 ((k + n : Nat) : Int)) ∧ (∃ ys, w'.ownsRow B 3 1 v n ys ∧ ∀ j, j < n → ys[j]? = some (.int .i64 ((k + j : Nat) : Int))) ∧ w.grownBy w' v.ownBlock := by
  by_cases hn0 : n = 0
  · subst hn0
    obtain ⟨ao, cap, hv⟩ : ∃ ao cap, v = Value.slice ao 0 cap := by
      rcases hown.2 with ⟨rfl, _⟩ | ⟨g, cap, _, rfl, _⟩
      · exact ⟨_, _, rfl⟩
      · exact ⟨_, _, rfl⟩
    subst hv
    have HO : Hid (w.ownsRow B 3 1 (.slice ao 0 cap) 0 xs) := hown
    clear hown
    go_enter Try.func14, Try.ntmps14
    go_wp2
    go_loopw [1, 5] (fun vk vi wr => vk = .int .i64 (k : Int) ∧ vi = .int .i64 0 ∧ wr = w) (fun _ _ _ => 0)
    case atStart => exact ⟨rfl, rfl, rfl⟩
    case round =>
      obtain ⟨rfl, rfl, rfl⟩ := hrel
      go_wp2
      go_ret
      exact ⟨by simp, ⟨xs, HO.out, fun j hj => by omega⟩, grow_belowM (Below.refl _ _)⟩
  · obtain ⟨g, cap, hv⟩ := Joins.ownsRow_form hown (by omega)
    subst hv
    go_enter Try.func14, Try.ntmps14
    go_wp2
    go_loopw [1, 5] (fun vk vi wr => ∃ (i : Nat) (ys : List Value), i ≤ n ∧ vi = .int .i64 (i : Int) ∧ vk = .int .i64 ((k + i : Nat) : Int) ∧ wr.ownsRow B 3 1 (.slice (some ⟨g, 0, none⟩) n cap) n ys ∧ Hid (∀ j, j < i → ys[j]? = some (.int .i64 ((k + j : Nat) : Int))) ∧ w.grownBy wr (some g))
      (fun _ vi _ => n - (intOf vi).toNat)
    case atStart => exact ⟨0, xs, by omega, rfl, by simp, hown, fun j hj => by omega, grow_belowM (Below.refl _ _)⟩
    case round =>
      obtain ⟨i, ys, hi, rfl, rfl, how, hm, hbw0⟩ := hrel
      have HBW : Hid (w.grownBy wr (some g)) := hbw0
      clear hbw0
      have hyl : ys.length = n := by have := how.1; omega
      clear hown
      by_cases hlt : i < n
      · have hlt' : (i : Int) < (n : Int) := by omega
        have q0 := how.cellAt i (by omega)
        rw [List.getElem?_eq_getElem (by omega)] at q0
        have z0 := how.frozenAt i
        generalize ys[i] = a0 at q0
        have how6 := (how.stored i (.int .i64 ((k : Int) + i))).1
        have HM : Hid (∀ j, j < i + 1 → (ys.set i (.int .i64 ((k : Int) + i)))[j]? = some (.int .i64 ((k + j : Nat) : Int))) := set1_marks ys k i n hyl hlt hm.out
        generalize ys.set i (Value.int .i64 ((k : Int) + i)) = zs at how6 HM
        clear how hm
        go_wp2
        go_roundw
        case rel => exact ⟨i + 1, zs, by omega, by go_num, by go_num, how6, HM, Lib.grownBy_trans HBW.out (Lib.grownBy_setCell _ g i _)⟩
        case measure => simp [intOf]; omega
      · have hke : i = n := by omega
        subst hke
        have hge : ¬ ((i : Int) < (i : Int)) := by omega
        go_wp2
        go_ret
        exact ⟨rfl, ⟨ys, how, hm.out⟩, HBW.out⟩

/-- the mark of a bool -/
def mb (k j : Nat) : Bool := ((k + j : Nat) : Int) % 3 == 0

theorem setB_marks (ys : List Value) (k i n : Nat) (hl : ys.length = n) (hi : i < n) (b : Bool) (hb : b = mb k i) (hm : ∀ j, j < i → ys[j]? = some (.bool (mb k j))) : ∀ j, j < i + 1 → (ys.set i (.bool b))[j]? = some (.bool (mb k j)) := by
  intro j hj
  rw [List.getElem?_set]
  by_cases h : i = j
  · subst h
    rw [if_pos rfl, if_pos (by omega), hb]
  · rw [if_neg h]
    exact hm j (by omega)

set_option maxRecDepth 100000 in
set_option maxHeartbeats 4000000 in
theorem markEM_any (B n k : Nat) (v : Value) (xs : List Value) (w : World) (hown : w.ownsRow B 4 1 v n xs) (hn : n ≤ 2097152) (hk2 : k ≤ 100000000) :
    Calls Try.prog 47 #[v, .int .i64 k] w fun e w' => e = .returned (.int .i64 ((k + n : Nat) : Int)) ∧ (∃ ys, w'.ownsRow B 4 1 v n ys ∧ ∀ j, j < n → ys[j]? = some (.bool (mb k j))) ∧ w.grownBy w' v.ownBlock := by
  by_cases hn0 : n = 0
  · subst hn0
    obtain ⟨ao, cap, hv⟩ : ∃ ao cap, v = Value.slice ao 0 cap := by
      rcases hown.2 with ⟨rfl, _⟩ | ⟨g, cap, _, rfl, _⟩
      · exact ⟨_, _, rfl⟩
      · exact ⟨_, _, rfl⟩
    subst hv
    have HO : Hid (w.ownsRow B 4 1 (.slice ao 0 cap) 0 xs) := hown
    clear hown
    go_enter Try.func47, Try.ntmps47
    go_wp2
    go_loopw [1, 5] (fun vk vi wr => vk = .int .i64 (k : Int) ∧ vi = .int .i64 0 ∧ wr = w) (fun _ _ _ => 0)
    case atStart => exact ⟨rfl, rfl, rfl⟩
    case round =>
      obtain ⟨rfl, rfl, rfl⟩ := hrel
      go_wp2
      go_ret
      exact ⟨by simp, ⟨xs, HO.out, fun j hj => by omega⟩, grow_belowM (Below.refl _ _)⟩
  · obtain ⟨g, cap, hv⟩ := Joins.ownsRow_form hown (by omega)
    subst hv
    go_enter Try.func47, Try.ntmps47
    go_wp2
    go_loopw [1, 5] (fun vk vi wr => ∃ (i : Nat) (ys : List Value), i ≤ n ∧ vi = .int .i64 (i : Int) ∧ vk = .int .i64 ((k + i : Nat) : Int) ∧ wr.ownsRow B 4 1 (.slice (some ⟨g, 0, none⟩) n cap) n ys ∧ Hid (∀ j, j < i → ys[j]? = some (.bool (mb k j))) ∧ w.grownBy wr (some g))
      (fun _ vi _ => n - (intOf vi).toNat)
    case atStart => exact ⟨0, xs, by omega, rfl, by simp, hown, fun j hj => by omega, grow_belowM (Below.refl _ _)⟩
    case round =>
      obtain ⟨i, ys, hi, rfl, rfl, how, hm, hbw0⟩ := hrel
      have HBW : Hid (w.grownBy wr (some g)) := hbw0
      clear hbw0
      have hyl : ys.length = n := by have := how.1; omega
      clear hown
      by_cases hlt : i < n
      · have hlt' : (i : Int) < (n : Int) := by omega
        have q0 := how.cellAt i (by omega)
        rw [List.getElem?_eq_getElem (by omega)] at q0
        have z0 := how.frozenAt i
        generalize ys[i] = a0 at q0
        obtain ⟨kk, hkk⟩ : ∃ kk, kk = k + i := ⟨_, rfl⟩
        have HKK : Hid (kk = k + i) := hkk
        rw [← hkk]
        have hk3 : kk ≤ 200000000 := by omega
        clear hkk
        have how6 := (how.stored i (.bool (((kk : Nat) : Int) % 3 == 0))).1
        have HM : Hid (∀ j, j < i + 1 → (ys.set i (.bool (((kk : Nat) : Int) % 3 == 0)))[j]? = some (.bool (mb k j))) := setB_marks ys k i n hyl hlt _ (by rw [HKK.out]; rfl) hm.out
        generalize ys.set i (Value.bool (((kk : Nat) : Int) % 3 == 0)) = zs at how6 HM
        clear how hm
        go_wp2
        go_roundw
        case rel => exact ⟨i + 1, zs, by omega, by go_num, by have := HKK.out; go_num, how6, HM, Lib.grownBy_trans HBW.out (Lib.grownBy_setCell _ g i _)⟩
        case measure => simp [intOf]; omega
      · have hke : i = n := by omega
        subst hke
        have hge : ¬ ((i : Int) < (i : Int)) := by omega
        go_wp2
        go_ret
        exact ⟨rfl, ⟨ys, how, hm.out⟩, HBW.out⟩

set_option maxRecDepth 100000 in
set_option maxHeartbeats 4000000 in
theorem heldEM_any (B n k : Nat) (v : Value) (ys : List Value) (w : World) (hown : w.ownsRow B 4 1 v n ys) (hm : ∀ j, j < n → ys[j]? = some (.bool (mb k j))) (hn : n ≤ 2097152) (hk2 : k ≤ 100000000) :
    Calls Try.prog 53 #[v, .int .i64 k] w fun e w' => e = .returned (.int .i64 ((k + n : Nat) : Int)) ∧ Below w.heap.size w w' := by
  obtain ⟨ao, cap, hv⟩ : ∃ ao cap, v = Value.slice ao n cap := by
    rcases hown.2 with ⟨rfl, h0⟩ | ⟨g, cap, _, rfl, _⟩
    · exact ⟨none, 0, by rw [h0]⟩
    · exact ⟨_, _, rfl⟩
  subst hv
  have HROW : Hid (∀ i, i < n → ∃ g, ao = some ⟨g, 0, none⟩ ∧ g < w.heap.size ∧ w.cell? ⟨g, i, none⟩ = some (.bool (mb k i))) := fun i hi => by
    obtain ⟨g, c, hv⟩ := Joins.ownsRow_form hown (by omega)
    simp only [Value.slice.injEq, true_and] at hv
    obtain ⟨rfl, rfl⟩ := hv
    refine ⟨g, rfl, (World.ownsRow.lt hown g rfl).2, ?_⟩
    rw [World.ownsRow.cellAt hown i (by omega)]
    exact hm i hi
  clear hown hm
  go_enter Try.func53, Try.ntmps53
  go_wp2
  go_loopw [1, 5] (fun vk vi wr => ∃ (i : Nat), i ≤ n ∧ vi = .int .i64 (i : Int) ∧ vk = .int .i64 ((k + i : Nat) : Int) ∧ Below w.heap.size w wr)
    (fun _ vi _ => n - (intOf vi).toNat)
  case atStart => exact ⟨0, by omega, rfl, by simp, Below.refl _ _⟩
  case round =>
    obtain ⟨i, hi, rfl, rfl, hbw⟩ := hrel
    by_cases hlt : i < n
    · have hlt' : (i : Int) < (n : Int) := by omega
      obtain ⟨g, rfl, hg, c⟩ := HROW.out i hlt
      have e1 := (hbw.cell (p := ⟨g, i, none⟩) hg).trans c
      obtain ⟨kk, hkk⟩ : ∃ kk, kk = k + i := ⟨_, rfl⟩
      have HKK : Hid (kk = k + i) := hkk
      unfold mb at e1
      rw [← hkk] at e1
      rw [← hkk]
      have hk3 : kk ≤ 200000000 := by omega
      clear hkk c
      obtain ⟨bb, hbb⟩ : ∃ bb, bb = (((kk : Nat) : Int) % 3 == 0) := ⟨_, rfl⟩
      rw [← hbb] at e1
      have hbb' : (((kk : Nat) : Int) % 3 == 0) = bb := hbb.symm
      have hne : (bb != bb) = false := by simp
      clear hbb
      go_wp2_with fail
      first
        | (go_quiet (fail)
           go_wp2
           go_roundw
           case rel => exact ⟨i + 1, by omega, by go_num, by have := HKK.out; go_num, below_drewN hbw⟩
           case measure => simp [intOf]; omega)
        | (go_wp2
           go_roundw
           case rel => exact ⟨i + 1, by omega, by go_num, by have := HKK.out; go_num, hbw⟩
           case measure => simp [intOf]; omega)
    · have hke : i = n := by omega
      subst hke
      have hge : ¬ ((i : Int) < (i : Int)) := by omega
      go_wp2
      go_ret
      exact ⟨rfl, hbw⟩

end Go.Proofs.Ytecgjhnihagleaa

namespace Go.Proofs.Ytecgjhnihagleaa
open Go.RowKit Plain Mch

/-- what writes into the rows us alone -/
structure RowsM (w : World) (us : List Value) (w' : World) : Prop where
  os : w'.os = w.os
  tape : w'.tape = w.tape
  output : w'.output = w.output
  size : w.heap.size ≤ w'.heap.size
  block : ∀ j, j < w.heap.size → (∀ u ∈ us, u.ownBlock ≠ some j) → w'.heap[j]? = w.heap[j]?

theorem RowsM.refl (w : World) (us : List Value) : RowsM w us w := ⟨rfl, rfl, rfl, Nat.le_refl _, fun _ _ _ => rfl⟩
theorem RowsM.step {w w1 w2 : World} {us : List Value} {u : Value} (h : RowsM w us w1) (hg : w1.grownBy w2 u.ownBlock) (hu : u ∈ us) : RowsM w us w2 :=
  ⟨hg.os.trans h.os, hg.tape.trans h.tape, hg.output.trans h.output, Nat.le_trans h.size hg.size, fun j hj hn => (hg.block j (Nat.lt_of_lt_of_le hj h.size) (fun e => hn u hu e.symm)).trans (h.block j hj hn)⟩
theorem RowsM.trans {w w1 w2 : World} {us : List Value} (h : RowsM w us w1) (h2 : RowsM w1 us w2) : RowsM w us w2 :=
  ⟨h2.os.trans h.os, h2.tape.trans h.tape, h2.output.trans h.output, Nat.le_trans h.size h2.size, fun j hj hn => (h2.block j (Nat.lt_of_lt_of_le hj h.size) hn).trans (h.block j hj hn)⟩
theorem RowsM.more {w w1 : World} {us vs : List Value} (h : RowsM w us w1) (hs : ∀ u ∈ us, u ∈ vs) : RowsM w vs w1 :=
  ⟨h.os, h.tape, h.output, h.size, fun j hj hn => h.block j hj (fun u hu => hn u (hs u hu))⟩
theorem RowsM.old {w w1 w2 : World} {us : List Value} {B : Nat} (h : Below B w w1) (hB : B ≤ w.heap.size) (h2 : RowsM w1 us w2) (hu : ∀ u ∈ us, ∀ g, u.ownBlock = some g → B ≤ g) : Below B w w2 :=
  ⟨h2.os.trans h.os, h2.tape.trans h.tape, h2.output.trans h.output, Nat.le_trans h.size h2.size, fun j hj => (h2.block j (by have := h.size; omega) (fun u hh e => by have := hu u hh j e; omega)).trans (h.block j hj)⟩
theorem RowsM.below {w w' : World} {us : List Value} {B : Nat} (h : RowsM w us w') (hB : ∀ u ∈ us, ∀ g, u.ownBlock = some g → B ≤ g) (hw : B ≤ w.heap.size) : Below B w w' :=
  ⟨h.os, h.tape, h.output, h.size, fun j hj => h.block j (by omega) (fun u hu e => by have := hB u hu j e; omega)⟩

/-- a row that others are marked beside -/
theorem own_besideM {w w' : World} {B e size n : Nat} {v : Value} {xs : List Value} {row : Option Nat} (h : w.ownsRow B e size v n xs) (hg : w.grownBy w' row) (hne : ∀ g, v.ownBlock = some g → some g ≠ row) : w'.ownsRow B e size v n xs := by
  have hlt := h.lt
  refine ⟨h.1, ?_⟩
  rcases h.2 with hn | ⟨g, cap, cur, hv, hgB, hgg, rest⟩
  · exact .inl hn
  · refine .inr ⟨g, cap, cur, hv, hgB, (hg.block g (hlt g (by rw [hv]; rfl)).2 (hne g (by rw [hv]; rfl))).trans hgg, rest⟩
theorem own_rowsM {w w' : World} {B e size n : Nat} {v : Value} {xs us : List Value} (h : w.ownsRow B e size v n xs) (hg : RowsM w us w') (hne : ∀ g, v.ownBlock = some g → ∀ u ∈ us, u.ownBlock ≠ some g) : w'.ownsRow B e size v n xs := by
  have hlt := h.lt
  refine ⟨h.1, ?_⟩
  rcases h.2 with hn | ⟨g, cap, cur, hv, hgB, hgg, rest⟩
  · exact .inl hn
  · refine .inr ⟨g, cap, cur, hv, hgB, (hg.block g (hlt g (by rw [hv]; rfl)).2 (hne g (by rw [hv]; rfl))).trans hgg, rest⟩

/-- a row of ints that is marked from k on -/
def ZMark (w : World) (B : Nat) (u : Value) (n k : Nat) : Prop := ∃ ys, w.ownsRow B 3 1 u n ys ∧ ∀ j, j < n → ys[j]? = some (.int .i64 ((k + j : Nat) : Int))
def EMark (w : World) (B : Nat) (u : Value) (n k : Nat) : Prop := ∃ ys, w.ownsRow B 4 1 u n ys ∧ ∀ j, j < n → ys[j]? = some (.bool (mb k j))

/-- rows of which the first i are marked -/
def MMark (w : World) (B : Nat) (v : Value) (M : List (List Int)) (us : List Value) (k i : Nat) : Prop :=
  w.ownsRow B 27 1 v M.length us ∧ (∀ m, m < i → ∃ u, us[m]? = some u ∧ ZMark w B u (rx M m).length (k + pm M m)) ∧ ∀ m, i ≤ m → m < M.length → ∃ u, us[m]? = some u ∧ ZRow w B u (rx M m)

theorem MOwn.noMark {w : World} {B : Nat} {v : Value} {M : List (List Int)} {us : List Value} (h : MOwn w B v M us) (k : Nat) : MMark w B v M us k 0 :=
  ⟨h.1, fun m hm => by omega, fun m _ hm => by obtain ⟨u, h1, h2, _⟩ := h.2.1 m hm; exact ⟨u, h1, h2⟩⟩

/-- rows that lie apart -/
def AptM (v : Value) (n : Nat) (us : List Value) : Prop :=
  (∀ i, i < n → ∃ u, us[i]? = some u ∧ ∀ g, u.ownBlock = some g → v.ownBlock ≠ some g) ∧ ∀ (i j : Nat) (ui uj : Value), i < j → us[i]? = some ui → us[j]? = some uj → ∀ g, ui.ownBlock = some g → uj.ownBlock ≠ some g

theorem MOwn.apt {w : World} {B : Nat} {v : Value} {M : List (List Int)} {us : List Value} (h : MOwn w B v M us) : AptM v M.length us :=
  ⟨fun i hi => by obtain ⟨u, h1, _, h2⟩ := h.2.1 i hi; exact ⟨u, h1, h2⟩, h.2.2⟩

theorem MMark.step {w w' : World} {B : Nat} {v : Value} {M : List (List Int)} {us : List Value} {k i : Nat} {u : Value} (h0 : AptM v M.length us)
    (h : MMark w B v M us k i) (hi : i < M.length) (hu : us[i]? = some u) (hm : ZMark w' B u (rx M i).length (k + pm M i)) (hg : w.grownBy w' u.ownBlock) : MMark w' B v M us k (i + 1) := by
  obtain ⟨d1, d2⟩ := h0
  refine ⟨?_, fun m hmi => ?_, fun m hmi hml => ?_⟩
  · refine own_besideM h.1 hg (fun g hv e => ?_)
    obtain ⟨u', hu', hn⟩ := d1 i hi
    rw [hu] at hu'
    simp at hu'
    subst hu'
    exact hn g e.symm hv
  · by_cases e : m = i
    · rw [e]; exact ⟨u, hu, hm⟩
    · obtain ⟨u', hu', ys, ho, hys⟩ := h.2.1 m (by omega)
      refine ⟨u', hu', ys, own_besideM ho hg (fun g hv e => ?_), hys⟩
      exact d2 m i u' u (by omega) hu' hu g hv e.symm
  · obtain ⟨u', hu', ho⟩ := h.2.2 m (by omega) hml
    refine ⟨u', hu', own_besideM ho hg (fun g hv e => ?_)⟩
    exact d2 i m u u' (by omega) hu hu' g e.symm hv

set_option maxRecDepth 100000 in
set_option maxHeartbeats 4000000 in
theorem markM_any (B k0 : Nat) (v : Value) (M : List (List Int)) (us : List Value) (w : World) (h : MOwn w B v M us) (hl : M.length ≤ 1048576) (hp : pm M M.length ≤ 1048576) (hk0 : k0 ≤ 10000000) :
    Calls Try.prog 46 #[v, .int .i64 (k0 : Int)] w fun e w' => e = .returned (.int .i64 ((k0 + pm M M.length : Nat) : Int)) ∧ MMark w' B v M us k0 M.length ∧ RowsM w us w' := by
  have HD : Hid (AptM v M.length us) := h.apt
  have HP : Hid (pm M M.length ≤ 1048576) := hp
  have H0 : Hid (MMark w B v M us k0 0) := h.noMark k0
  obtain ⟨ao, cap, rfl⟩ := h.slice
  clear h hp
  go_enter Try.func46, Try.ntmps46
  go_wp2
  go_loopw [1, 5] (fun vk vi wr => ∃ i : Nat, i ≤ M.length ∧ vi = .int .i64 (i : Int) ∧ vk = .int .i64 ((k0 + pm M i : Nat) : Int) ∧ Hid (MMark wr B (.slice ao M.length cap) M us k0 i) ∧ Hid (RowsM w us wr))
    (fun _ vi _ => M.length - (intOf vi).toNat)
  case atStart => exact ⟨0, by omega, rfl, by rw [pm_zero]; rfl, H0, RowsM.refl _ _⟩
  case round =>
    clear H0
    obtain ⟨i, hi, rfl, rfl, hM, hR⟩ := hrel
    by_cases hlt : i < M.length
    · have hlt' : (i : Int) < (M.length : Int) := by omega
      obtain ⟨u, hu, ho⟩ := hM.out.2.2 i (Nat.le_refl _) hlt
      have hform : ∃ g, ao = some ⟨g, 0, none⟩ ∧ g < wr.heap.size ∧ wr.cell? ⟨g, i, none⟩ = some u := by
        have hs := hM.out.1
        obtain ⟨g, c, hv⟩ := Joins.ownsRow_form hs (by omega)
        simp only [Value.slice.injEq, true_and] at hv
        obtain ⟨rfl, rfl⟩ := hv
        refine ⟨g, rfl, (World.ownsRow.lt hs g rfl).2, ?_⟩
        rw [World.ownsRow.cellAt hs i (by omega)]
        exact hu
      obtain ⟨g, rfl, hgl, c0⟩ := hform
      have hps : pm M i ≤ 1048576 := Nat.le_trans (pm_mono (by omega) (Nat.le_refl _)) HP.out
      have hpe : (rx M i).length ≤ 1048576 := Nat.le_trans (pm_each hlt) HP.out
      have HO : Hid (ZRow wr B u (rx M i)) := ho
      have HU : Hid (us[i]? = some u) := hu
      obtain ⟨su, cu, hsu⟩ := ZRow.slice ho
      subst hsu
      obtain ⟨kk, hkk⟩ : ∃ kk, kk = k0 + pm M i := ⟨_, rfl⟩
      have HST : Hid (k0 + pm M (i + 1) = kk + (rx M i).length) := by show _ = _; rw [hkk, pm_step hlt]; omega
      have HKK : Hid (kk = k0 + pm M i) := hkk
      have hk2 : kk ≤ 100000000 := by omega
      rw [← hkk]
      clear ho hu hkk
      go_wp2_with fail
      refine (markZM_any B (rx M i).length kk _ _ wr HO.out (by omega) hk2).mono ?_
      rintro e w2 ⟨rfl, ⟨ys, hy1, hy2⟩, hg2⟩
      have HM2 : Hid (MMark w2 B (.slice (some ⟨g, 0, none⟩) M.length cap) M us k0 (i + 1)) := hM.out.step HD.out hlt HU.out ⟨ys, hy1, by rw [← HKK.out]; exact hy2⟩ hg2
      have HR2 : Hid (RowsM w us w2) := hR.out.step hg2 (List.mem_of_getElem? HU.out)
      clear hy1 hy2 hg2 hM hR HO HU c0
      go_wp2
      go_roundw
      case rel => exact ⟨i + 1, by omega, by go_num, by have h := HST.out; congr 1; omega, HM2, HR2⟩
      case measure => simp [intOf]; omega
    · have hke : i = M.length := by omega
      subst hke
      have hge : ¬ ((M.length : Int) < (M.length : Int)) := by omega
      go_wp2
      go_ret
      exact ⟨rfl, hM.out, hR.out⟩

theorem MMark.below {w w' : World} {B k i : Nat} {v : Value} {M : List (List Int)} {us : List Value} (h : MMark w B v M us k i) (hb : Below w.heap.size w w') : MMark w' B v M us k i := by
  refine ⟨own_belowM h.1 hb, fun m hm => ?_, fun m hm hl => ?_⟩
  · obtain ⟨u, h1, ys, h2, h3⟩ := h.2.1 m hm
    exact ⟨u, h1, ys, own_belowM h2 hb, h3⟩
  · obtain ⟨u, h1, h2⟩ := h.2.2 m hm hl
    exact ⟨u, h1, own_belowM h2 hb⟩

set_option maxRecDepth 100000 in
set_option maxHeartbeats 4000000 in
theorem heldM_any (B k0 : Nat) (v : Value) (M : List (List Int)) (us : List Value) (w : World) (h : MMark w B v M us k0 M.length) (hl : M.length ≤ 1048576) (hp : pm M M.length ≤ 1048576) (hk0 : k0 ≤ 10000000) :
    Calls Try.prog 52 #[v, .int .i64 (k0 : Int)] w fun e w' => e = .returned (.int .i64 ((k0 + pm M M.length : Nat) : Int)) ∧ Below w.heap.size w w' := by
  have HP : Hid (pm M M.length ≤ 1048576) := hp
  have H0 : Hid (MMark w B v M us k0 M.length) := h
  obtain ⟨ao, cap, hv⟩ : ∃ ao cap, v = Value.slice ao M.length cap := by
    rcases h.1.2 with ⟨rfl, h0⟩ | ⟨g, cap, _, rfl, _⟩
    · exact ⟨none, 0, by rw [h0]⟩
    · exact ⟨_, _, rfl⟩
  subst hv
  clear h hp
  go_enter Try.func52, Try.ntmps52
  go_wp2
  go_loopw [1, 5] (fun vk vi wr => ∃ i : Nat, i ≤ M.length ∧ vi = .int .i64 (i : Int) ∧ vk = .int .i64 ((k0 + pm M i : Nat) : Int) ∧ Hid (Below w.heap.size w wr))
    (fun _ vi _ => M.length - (intOf vi).toNat)
  case atStart => exact ⟨0, by omega, rfl, by rw [pm_zero]; rfl, Below.refl _ _⟩
  case round =>
    obtain ⟨i, hi, rfl, rfl, hbw⟩ := hrel
    by_cases hlt : i < M.length
    · have hlt' : (i : Int) < (M.length : Int) := by omega
      have hM := H0.out.below hbw.out
      obtain ⟨u, hu, ys, ho, hys⟩ := hM.2.1 i hlt
      have hform : ∃ g, ao = some ⟨g, 0, none⟩ ∧ g < wr.heap.size ∧ wr.cell? ⟨g, i, none⟩ = some u := by
        have hs := hM.1
        obtain ⟨g, c, hv⟩ := Joins.ownsRow_form hs (by omega)
        simp only [Value.slice.injEq, true_and] at hv
        obtain ⟨rfl, rfl⟩ := hv
        refine ⟨g, rfl, (World.ownsRow.lt hs g rfl).2, ?_⟩
        rw [World.ownsRow.cellAt hs i (by omega)]
        exact hu
      obtain ⟨g, rfl, hgl, c0⟩ := hform
      have hps : pm M i ≤ 1048576 := Nat.le_trans (pm_mono (by omega) (Nat.le_refl _)) HP.out
      have hpe : (rx M i).length ≤ 1048576 := Nat.le_trans (pm_each hlt) HP.out
      have HI : Hid (IntsAt wr wr.heap.size u ((List.range (rx M i).length).map ((k0 + pm M i) + ·))) := markedInts ho hys (by unfold maxLen; omega)
      have hsl : ∃ a c, u = Value.slice a (rx M i).length c := by
        rcases ho.2 with ⟨rfl, h0⟩ | ⟨g, cap, _, rfl, _⟩
        · exact ⟨none, 0, by rw [h0]⟩
        · exact ⟨_, _, rfl⟩
      obtain ⟨su, cu, hsu⟩ := hsl
      subst hsu
      obtain ⟨kk, hkk⟩ : ∃ kk, kk = k0 + pm M i := ⟨_, rfl⟩
      have HST : Hid (k0 + pm M (i + 1) = kk + (rx M i).length) := by show _ = _; rw [hkk, pm_step hlt]; omega
      rw [← hkk] at HI
      have hk2 : kk ≤ 100000000 := by omega
      rw [← hkk]
      clear ho hu hkk hys hM
      go_wp2_with fail
      refine (heldIntS_any (rx M i).length kk _ wr HI.out (by omega) hk2).mono ?_
      rintro e w2 ⟨rfl, hb2⟩
      have HB2 : Hid (Below w.heap.size w w2) := hbw.out.trans (hb2.mono hbw.out.size)
      have hpos : ¬ (((kk + (rx M i).length : Nat) : Int) < 0) := by omega
      clear hb2 hbw c0 HI
      go_wp2
      go_roundw
      case rel => exact ⟨i + 1, by omega, by go_num, by have h := HST.out; congr 1; omega, HB2⟩
      case measure => simp [intOf]; omega
    · have hke : i = M.length := by omega
      subst hke
      have hge : ¬ ((M.length : Int) < (M.length : Int)) := by omega
      go_wp2
      go_ret
      exact ⟨rfl, hbw.out⟩

/-- a machine that is marked whole -/
def MaMark (w : World) (B : Nat) (v e : Value) (M : List (List Int)) (E : List Bool) (us : List Value) (k : Nat) : Prop :=
  MMark w B v M us k M.length ∧ EMark w B e E.length (k + pm M M.length)

theorem MaMark.below {w w' : World} {B k : Nat} {v e : Value} {M : List (List Int)} {E : List Bool} {us : List Value} (h : MaMark w B v e M E us k) (hb : Below w.heap.size w w') : MaMark w' B v e M E us k := by
  obtain ⟨h1, ys, h2, h3⟩ := h
  exact ⟨h1.below hb, ys, own_belowM h2 hb, h3⟩

set_option maxRecDepth 100000 in
set_option maxHeartbeats 4000000 in
theorem markMach_any (B k0 : Nat) (v e : Value) (M : List (List Int)) (E : List Bool) (us : List Value) (w : World) (h : MaOwn w B v e M E us) (hl : M.length ≤ 1048576) (hp : pm M M.length ≤ 1048576) (hlE : E.length ≤ 1048576) (hk0 : k0 ≤ 5000000) :
    Calls Try.prog 13 #[.agg #[v, e], .int .i64 (k0 : Int)] w fun x w' => x = .returned (.int .i64 ((k0 + pm M M.length + E.length : Nat) : Int)) ∧ MaMark w' B v e M E us k0 ∧ RowsM w (e :: us) w' := by
  have HO : Hid (MaOwn w B v e M E us) := h
  have HP : Hid (pm M M.length ≤ 1048576) := hp
  obtain ⟨ao, cap, rfl⟩ := h.1.slice
  obtain ⟨ae, cape, rfl⟩ := ERow.slice h.2.1
  clear h hp
  obtain ⟨W1, hW1⟩ : ∃ W, W = w.alloc (.cells #[.slice ao M.length cap, .slice ae E.length cape] 30) := ⟨_, rfl⟩
  have hB1 : Below w.heap.size w W1 := by rw [hW1]; exact (Below.refl _ w).alloc (Nat.le_refl _) _
  have q0 : W1.cell? ⟨w.heap.size, 0, none⟩ = some (.slice ao M.length cap) := by rw [hW1]; go_simp
  have q1 : W1.cell? ⟨w.heap.size, 1, none⟩ = some (.slice ae E.length cape) := by rw [hW1]; go_simp
  have hl1 : w.heap.size < W1.heap.size := by rw [hW1]; simp
  have HO1 : Hid (MaOwn W1 B (.slice ao M.length cap) (.slice ae E.length cape) M E us) := HO.out.below hB1
  have HUS : Hid (∀ u ∈ us, ∀ g, u.ownBlock = some g → g < w.heap.size) := fun u hu g hg => (HO.out.1.rows u hu g hg).2
  have HEB : Hid (∀ g, (Value.slice ae E.length cape).ownBlock = some g → g < w.heap.size ∧ ∀ u ∈ us, u.ownBlock ≠ some g) := fun g hg => ⟨(World.ownsRow.lt HO.out.2.1 g hg).2, (HO.out.2.2 g hg).2⟩
  go_enter Try.func13, Try.ntmps13
  go_wp2_with fail
  rw [← hW1]
  clear hW1
  refine (markM_any B k0 _ M us W1 HO1.out.1 hl HP.out (by omega)).mono ?_
  rintro x w2 ⟨rfl, hm2, hr2⟩
  have HM2 : Hid (MMark w2 B (.slice ao M.length cap) M us k0 M.length) := hm2
  have HR2 : Hid (RowsM W1 us w2) := hr2
  have q1 : w2.cell? ⟨w.heap.size, 1, none⟩ = some (.slice ae E.length cape) := (World.cell?_of_block (w := W1) (hr2.block w.heap.size hl1 (fun u hu e => by have := HUS.out u hu _ e; omega))).trans q1
  have HE2 : Hid (ERow w2 B (.slice ae E.length cape) E) := own_rowsM HO1.out.2.1 hr2 (fun g hg u hu => (HEB.out g hg).2 u hu)
  clear hm2 hr2
  obtain ⟨kk, hkk⟩ : ∃ kk, kk = k0 + pm M M.length := ⟨_, rfl⟩
  have HKK : Hid (kk = k0 + pm M M.length) := hkk
  rw [← hkk]
  have hk3 : kk ≤ 100000000 := by have := HP.out; omega
  clear hkk
  go_wp2_with fail
  refine (markEM_any B E.length kk _ _ w2 HE2.out (by omega) hk3).mono ?_
  rintro x w3 ⟨rfl, ⟨ys, hy1, hy2⟩, hg3⟩
  have HEND : Hid (MaMark w3 B (.slice ao M.length cap) (.slice ae E.length cape) M E us k0) := by
    refine ⟨⟨own_besideM HM2.out.1 hg3 (fun g hv e => ?_), fun m hm => ?_, fun m hm hml => ?_⟩, ys, hy1, by rw [← HKK.out]; exact hy2⟩
    · exact (HO.out.2.2 g e.symm).1 hv
    · obtain ⟨u, hu, zs, ho, hz⟩ := HM2.out.2.1 m hm
      exact ⟨u, hu, zs, own_besideM ho hg3 (fun g hv e => (HO.out.2.2 g e.symm).2 u (List.mem_of_getElem? hu) hv), hz⟩
    · omega
  have HREND : Hid (RowsM w ((.slice ae E.length cape) :: us) w3) := by
    have h2 : RowsM W1 ((.slice ae E.length cape) :: us) w3 := (HR2.out.more (fun u hu => List.mem_cons_of_mem _ hu)).step hg3 (by simp)
    exact ⟨h2.os.trans hB1.os, h2.tape.trans hB1.tape, h2.output.trans hB1.output, Nat.le_trans hB1.size h2.size, fun j hj hn => (h2.block j (by have := hB1.size; omega) hn).trans (hB1.block j hj)⟩
  have HS : Hid (k0 + pm M M.length + E.length = kk + E.length) := by show _ = _; rw [← HKK.out]
  clear hy1 hy2 hg3 HE2 HM2 HR2
  go_wp2
  go_ret
  exact ⟨by rw [HS.out]; rfl, HEND.out, HREND.out⟩

set_option maxRecDepth 100000 in
set_option maxHeartbeats 4000000 in
theorem heldMach_any (B k0 : Nat) (v e : Value) (M : List (List Int)) (E : List Bool) (us : List Value) (w : World) (h : MaMark w B v e M E us k0) (hl : M.length ≤ 1048576) (hp : pm M M.length ≤ 1048576) (hlE : E.length ≤ 1048576) (hk0 : k0 ≤ 5000000) :
    Calls Try.prog 18 #[.agg #[v, e], .int .i64 (k0 : Int)] w fun x w' => x = .returned (.int .i64 ((k0 + pm M M.length + E.length : Nat) : Int)) ∧ Below w.heap.size w w' := by
  have HO : Hid (MaMark w B v e M E us k0) := h
  have HP : Hid (pm M M.length ≤ 1048576) := hp
  obtain ⟨ao, cap, hv⟩ : ∃ ao cap, v = Value.slice ao M.length cap := by
    rcases h.1.1.2 with ⟨rfl, h0⟩ | ⟨g, cap, _, rfl, _⟩
    · exact ⟨none, 0, by rw [h0]⟩
    · exact ⟨_, _, rfl⟩
  obtain ⟨ae, cape, he⟩ : ∃ ao cap, e = Value.slice ao E.length cap := by
    obtain ⟨_, ys, ho, _⟩ := h
    rcases ho.2 with ⟨rfl, h0⟩ | ⟨g, cap, _, rfl, _⟩
    · exact ⟨none, 0, by rw [h0]⟩
    · exact ⟨_, _, rfl⟩
  subst hv he
  clear h hp
  obtain ⟨W1, hW1⟩ : ∃ W, W = w.alloc (.cells #[.slice ao M.length cap, .slice ae E.length cape] 30) := ⟨_, rfl⟩
  have hB1 : Below w.heap.size w W1 := by rw [hW1]; exact (Below.refl _ w).alloc (Nat.le_refl _) _
  have q0 : W1.cell? ⟨w.heap.size, 0, none⟩ = some (.slice ao M.length cap) := by rw [hW1]; go_simp
  have q1 : W1.cell? ⟨w.heap.size, 1, none⟩ = some (.slice ae E.length cape) := by rw [hW1]; go_simp
  have hl1 : w.heap.size < W1.heap.size := by rw [hW1]; simp
  have HO1 : Hid (MaMark W1 B (.slice ao M.length cap) (.slice ae E.length cape) M E us k0) := HO.out.below hB1
  clear HO
  go_enter Try.func18, Try.ntmps18
  go_wp2_with fail
  rw [← hW1]
  clear hW1
  refine (heldM_any B k0 _ M us W1 HO1.out.1 hl HP.out (by omega)).mono ?_
  rintro x w2 ⟨rfl, hb2⟩
  have q1 : w2.cell? ⟨w.heap.size, 1, none⟩ = some (.slice ae E.length cape) := (hb2.cell (p := ⟨w.heap.size, 1, none⟩) hl1).trans q1
  have HO2 : Hid (MaMark w2 B (.slice ao M.length cap) (.slice ae E.length cape) M E us k0) := HO1.out.below hb2
  have hB2 := hB1.trans (hb2.mono hB1.size)
  obtain ⟨kk, hkk⟩ : ∃ kk, kk = k0 + pm M M.length := ⟨_, rfl⟩
  have HKK : Hid (kk = k0 + pm M M.length) := hkk
  rw [← hkk]
  have hk3 : kk ≤ 100000000 := by have := HP.out; omega
  have hpos : ¬ ((kk : Int) < 0) := by omega
  obtain ⟨_, ys, ho, hys⟩ := HO2.out
  rw [← hkk] at hys
  have HYO : Hid (w2.ownsRow B 4 1 (.slice ae E.length cape) E.length ys) := ho
  have HYS : Hid (∀ j, j < E.length → ys[j]? = some (.bool (mb kk j))) := hys
  clear ho hys hkk HO1 HO2 hb2
  go_wp2_with fail
  refine (heldEM_any B E.length kk _ ys w2 HYO.out HYS.out (by omega) hk3).mono ?_
  rintro x w3 ⟨rfl, hb3⟩
  have hB3 := hB2.trans (hb3.mono hB2.size)
  have hpos2 : ¬ (((kk + E.length : Nat) : Int) < 0) := by omega
  have HS : Hid (k0 + pm M M.length + E.length = kk + E.length) := by show _ = _; rw [← HKK.out]
  clear HYO HYS
  go_wp2
  go_ret
  exact ⟨by rw [HS.out]; rfl, hB3⟩

end Go.Proofs.Ytecgjhnihagleaa
