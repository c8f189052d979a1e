/- The program's functions in wants: what they tell of a field, or of what others tell. -/
import Derived.Test.YtmjpmmkjfimopaaDoorMtC
import Derived.Test.YtmjpmmkjfimopaaDoorWfE
namespace Go.Proofs.YtmjpmmkjfimopaaDoor
open Go.RowKit Plain Sch Wan

set_option maxRecDepth 100000 in
theorem cmp1 (n m : Int) (w : World) : Calls Tryd.prog 81 #[.int .i64 n, .int .i64 m] w fun e w' => e = .returned (.bool (n == m)) ∧ w' = w := by
  go_enter Tryd.func81, Tryd.ntmps81
  go_wp2
  go_ret
  exact ⟨rfl, rfl⟩

set_option maxRecDepth 100000 in
theorem cmp2 (n m : Int) (w : World) : Calls Tryd.prog 82 #[.int .i64 n, .int .i64 m] w fun e w' => e = .returned (.bool (decide (n < m))) ∧ w' = w := by
  go_enter Tryd.func82, Tryd.ntmps82
  go_wp2
  go_ret
  exact ⟨rfl, rfl⟩

set_option maxRecDepth 100000 in
theorem cmp3 (n m : Int) (w : World) : Calls Tryd.prog 83 #[.int .i64 n, .int .i64 m] w fun e w' => e = .returned (.bool (decide (m < n))) ∧ w' = w := by
  go_enter Tryd.func83, Tryd.ntmps83
  go_wp2
  go_ret
  exact ⟨rfl, rfl⟩

set_option maxRecDepth 100000 in
theorem tells6 (a b : Bool) (w : World) : Calls Tryd.prog 77 #[.bool a, .bool b] w fun e w' => e = .returned (.bool (a && b)) ∧ w' = w := by
  cases a <;> cases b
  all_goals
    go_enter Tryd.func77, Tryd.ntmps77
    go_wp2
    go_ret
    exact ⟨rfl, rfl⟩

set_option maxRecDepth 100000 in
theorem tells7 (a b : Bool) (w : World) : Calls Tryd.prog 78 #[.bool a, .bool b] w fun e w' => e = .returned (.bool (a || b)) ∧ w' = w := by
  cases a <;> cases b
  all_goals
    go_enter Tryd.func78, Tryd.ntmps78
    go_wp2
    go_ret
    exact ⟨rfl, rfl⟩

set_option maxRecDepth 100000 in
theorem tells8 (a b : Bool) (w : World) : Calls Tryd.prog 79 #[.bool a, .bool b] w fun e w' => e = .returned (.bool (!a)) ∧ w' = w := by
  cases a <;> cases b
  all_goals
    go_enter Tryd.func79, Tryd.ntmps79
    go_wp2
    go_ret
    exact ⟨rfl, rfl⟩

set_option maxRecDepth 100000 in
set_option maxHeartbeats 2000000 in
theorem askHas (k n m : Int) (t : ByteArray) (a b fn fk fm : Int) (fd : ByteArray) (w : World) :
    Calls Tryd.prog 85 #[.agg #[.int .i64 k, .int .i64 n, .int .i64 m, .string t, .int .i64 a, .int .i64 b], .agg #[.int .i64 fn, .int .i64 fk, .int .i64 fm, .string fd]] w fun e w' => e = .returned (.bool true) ∧ Below w.heap.size w w' := by
  go_enter Tryd.func85, Tryd.ntmps85
  go_wp2
  go_ret
  exact ⟨rfl, ((Below.refl _ w).alloc (Nat.le_refl _) _).alloc (by simp) _⟩

set_option maxRecDepth 100000 in
set_option maxHeartbeats 2000000 in
theorem hasPrefix_any (d t : ByteArray) (w : World) (_hd : d.size ≤ 400) (_ht : t.size ≤ 30) :
    Calls Tryd.prog 88 #[.string d, .string t] w fun e w' => e = .returned (.bool (preB d t)) ∧ w' = w := by
  unfold preB
  by_cases h : t.size ≤ d.size
  · have h' : (t.size : Int) ≤ (d.size : Int) := by omega
    by_cases he : d.extract 0 t.size = t
    · have hR : (decide (t.size ≤ d.size) && decide (d.extract 0 t.size = t)) = true := by simp [h, he]
      have he' : ((d.extract 0 t.size).toList == t.toList) = true := by rw [he]; simp
      rw [hR]
      clear hR he h
      go_enter Tryd.func88, Tryd.ntmps88
      go_wp2
      go_ret
      exact ⟨rfl, rfl⟩
    · have hR : (decide (t.size ≤ d.size) && decide (d.extract 0 t.size = t)) = false := by simp [he]
      have he' : ((d.extract 0 t.size).toList == t.toList) = false := str_neB he
      rw [hR]
      clear hR he h
      go_enter Tryd.func88, Tryd.ntmps88
      go_wp2
      go_ret
      exact ⟨rfl, rfl⟩
  · have h' : ¬ (t.size : Int) ≤ (d.size : Int) := by omega
    have hR : (decide (t.size ≤ d.size) && decide (d.extract 0 t.size = t)) = false := by simp [h]
    rw [hR]
    clear hR h
    go_enter Tryd.func88, Tryd.ntmps88
    go_wp2
    go_ret
    exact ⟨rfl, rfl⟩

set_option maxRecDepth 100000 in
set_option maxHeartbeats 4000000 in
theorem askNum1 (k n m : Int) (t : ByteArray) (a b fn fk fm : Int) (fd : ByteArray) (g : Nat) (w : World) (hg : g < w.heap.size) (hc : w.cell? ⟨g, 0, none⟩ = some (.func (.func 81) #[] #[])) :
    Calls Tryd.prog 101 #[.agg #[.int .i64 k, .int .i64 n, .int .i64 m, .string t, .int .i64 a, .int .i64 b], .agg #[.int .i64 fn, .int .i64 fk, .int .i64 fm, .string fd], .pointer (some ⟨g, 0, none⟩)] w fun e w' => e = .returned (.bool (decide (fk = 0) && (fm == m))) ∧ Below w.heap.size w w' := by
  have hB2 : ∀ o1 o2, Below w.heap.size w ((w.alloc o1).alloc o2) := fun o1 o2 => ((Below.refl _ w).alloc (Nat.le_refl _) o1).alloc (by simp) o2
  by_cases h0 : fk = 0
  · subst h0
    go_enter Tryd.func101, Tryd.ntmps101
    go_wp2_with fail
    refine (cmp1 _ _ _).mono ?_
    rintro e w1 ⟨rfl, rfl⟩
    go_wp2
    go_ret
    exact ⟨by simp, hB2 _ _⟩
  · have h0' : (fk == 0) = false := by simpa using h0
    have e : (decide (fk = 0) && (fm == m)) = false := by simp [h0]
    rw [e]
    clear h0 e
    go_enter Tryd.func101, Tryd.ntmps101
    go_wp2
    go_ret
    exact ⟨rfl, hB2 _ _⟩

set_option maxRecDepth 100000 in
set_option maxHeartbeats 4000000 in
theorem askNum2 (k n m : Int) (t : ByteArray) (a b fn fk fm : Int) (fd : ByteArray) (g : Nat) (w : World) (hg : g < w.heap.size) (hc : w.cell? ⟨g, 0, none⟩ = some (.func (.func 82) #[] #[])) :
    Calls Tryd.prog 101 #[.agg #[.int .i64 k, .int .i64 n, .int .i64 m, .string t, .int .i64 a, .int .i64 b], .agg #[.int .i64 fn, .int .i64 fk, .int .i64 fm, .string fd], .pointer (some ⟨g, 0, none⟩)] w fun e w' => e = .returned (.bool (decide (fk = 0) && decide (fm < m))) ∧ Below w.heap.size w w' := by
  have hB2 : ∀ o1 o2, Below w.heap.size w ((w.alloc o1).alloc o2) := fun o1 o2 => ((Below.refl _ w).alloc (Nat.le_refl _) o1).alloc (by simp) o2
  by_cases h0 : fk = 0
  · subst h0
    go_enter Tryd.func101, Tryd.ntmps101
    go_wp2_with fail
    refine (cmp2 _ _ _).mono ?_
    rintro e w1 ⟨rfl, rfl⟩
    go_wp2
    go_ret
    exact ⟨by simp, hB2 _ _⟩
  · have h0' : (fk == 0) = false := by simpa using h0
    have e : (decide (fk = 0) && decide (fm < m)) = false := by simp [h0]
    rw [e]
    clear h0 e
    go_enter Tryd.func101, Tryd.ntmps101
    go_wp2
    go_ret
    exact ⟨rfl, hB2 _ _⟩

set_option maxRecDepth 100000 in
set_option maxHeartbeats 4000000 in
theorem askNum3 (k n m : Int) (t : ByteArray) (a b fn fk fm : Int) (fd : ByteArray) (g : Nat) (w : World) (hg : g < w.heap.size) (hc : w.cell? ⟨g, 0, none⟩ = some (.func (.func 83) #[] #[])) :
    Calls Tryd.prog 101 #[.agg #[.int .i64 k, .int .i64 n, .int .i64 m, .string t, .int .i64 a, .int .i64 b], .agg #[.int .i64 fn, .int .i64 fk, .int .i64 fm, .string fd], .pointer (some ⟨g, 0, none⟩)] w fun e w' => e = .returned (.bool (decide (fk = 0) && decide (m < fm))) ∧ Below w.heap.size w w' := by
  have hB2 : ∀ o1 o2, Below w.heap.size w ((w.alloc o1).alloc o2) := fun o1 o2 => ((Below.refl _ w).alloc (Nat.le_refl _) o1).alloc (by simp) o2
  by_cases h0 : fk = 0
  · subst h0
    go_enter Tryd.func101, Tryd.ntmps101
    go_wp2_with fail
    refine (cmp3 _ _ _).mono ?_
    rintro e w1 ⟨rfl, rfl⟩
    go_wp2
    go_ret
    exact ⟨by simp, hB2 _ _⟩
  · have h0' : (fk == 0) = false := by simpa using h0
    have e : (decide (fk = 0) && decide (m < fm)) = false := by simp [h0]
    rw [e]
    clear h0 e
    go_enter Tryd.func101, Tryd.ntmps101
    go_wp2
    go_ret
    exact ⟨rfl, hB2 _ _⟩

set_option maxRecDepth 100000 in
set_option maxHeartbeats 4000000 in
theorem askStarts (k n m : Int) (t : ByteArray) (a b fn fk fm : Int) (fd : ByteArray) (w : World) (hd : fd.size ≤ 400) (ht : t.size ≤ 30) :
    Calls Tryd.prog 87 #[.agg #[.int .i64 k, .int .i64 n, .int .i64 m, .string t, .int .i64 a, .int .i64 b], .agg #[.int .i64 fn, .int .i64 fk, .int .i64 fm, .string fd]] w fun e w' => e = .returned (.bool (decide (fk = 2) && preB fd t)) ∧ Below w.heap.size w w' := by
  have hB2 : ∀ o1 o2, Below w.heap.size w ((w.alloc o1).alloc o2) := fun o1 o2 => ((Below.refl _ w).alloc (Nat.le_refl _) o1).alloc (by simp) o2
  by_cases h0 : fk = 2
  · subst h0
    go_enter Tryd.func87, Tryd.ntmps87
    go_wp2_with fail
    refine (hasPrefix_any fd t _ hd ht).mono ?_
    rintro e w1 ⟨rfl, rfl⟩
    go_wp2
    go_ret
    exact ⟨by simp, hB2 _ _⟩
  · have h0' : (fk == 2) = false := by simpa using h0
    have e : (decide (fk = 2) && preB fd t) = false := by simp [h0]
    rw [e]
    clear h0 e
    go_enter Tryd.func87, Tryd.ntmps87
    go_wp2
    go_ret
    exact ⟨rfl, hB2 _ _⟩

/-- a slice of bools, in blocks below B -/
def BAt (w : World) (B : Nat) (v : Value) (l : List Bool) : Prop :=
  ∃ ao cap, v = .slice ao l.length cap ∧ l.length ≤ cap ∧ cap ≤ maxLen ∧ ∀ (i : Nat) (x : Bool), l[i]? = some x → ∃ g o, ao = some ⟨g, o, none⟩ ∧ g < B ∧ w.cell? ⟨g, o + i, none⟩ = some (.bool x)

theorem BAt.below {w w' : World} {v : Value} {l : List Bool} {B : Nat} (h : BAt w B v l) (hb : Below B w w') (hB : B ≤ w.heap.size := by exact Nat.le_refl _) : BAt w' w'.heap.size v l := by
  obtain ⟨ao, cap, hv, hm, hc, hr⟩ := h
  refine ⟨ao, cap, hv, hm, hc, fun i x hi => ?_⟩
  obtain ⟨g, o, ha, hg, c⟩ := hr i x hi
  have := hb.size
  exact ⟨g, o, ha, by omega, (hb.cell (p := ⟨g, o + i, none⟩) hg).trans c⟩

def BRowW (w : World) (B : Nat) (v : Value) (l : List Bool) : Prop := w.ownsRow B 4 1 v l.length (l.map Value.bool)

theorem BAt.own {w : World} {B : Nat} {v : Value} {l : List Bool} (h : BRowW w B v l) : BAt w w.heap.size v l := by
  have h0 := h
  obtain ⟨_, ⟨rfl, hn⟩ | ⟨g, cap, cur, rfl, hB, hb, hnc, hcm, _⟩⟩ := h
  · have : l = [] := List.length_eq_zero_iff.1 hn
    subst this
    exact ⟨none, 0, rfl, by simp, by unfold maxLen; omega, fun i x hi => by simp at hi⟩
  · refine ⟨some ⟨g, 0, none⟩, cap, rfl, hnc, hcm, fun i x hi => ⟨g, 0, rfl, (World.ownsRow.lt h0 g rfl).2, ?_⟩⟩
    have hil : i < l.length := (List.getElem?_eq_some_iff.1 hi).1
    have := World.ownsRow.cellAt h0 i (by omega)
    rw [Nat.zero_add, this]
    simp [hi]

theorem BRowW.below {w w' : World} {B : Nat} {v : Value} {l : List Bool} (h : BRowW w B v l) (hb : Below w.heap.size w w') : BRowW w' B v l := by
  refine ⟨h.1, ?_⟩
  rcases h.2 with hn | ⟨g, cap, cur, hv, hg, hgg, rest⟩
  · exact .inl hn
  · exact .inr ⟨g, cap, cur, hv, hg, (hb.block g (Array.getElem?_eq_some_iff.1 hgg).1).trans hgg, rest⟩

end Go.Proofs.YtmjpmmkjfimopaaDoor
