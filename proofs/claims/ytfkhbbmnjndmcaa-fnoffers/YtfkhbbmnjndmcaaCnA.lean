/- Nos: what is good, what has a number; ComposeNos of the model and of the program. -/
import Derived.Test.YtfkhbbmnjndmcaaZnA
import Derived.Test.YtfkhbbmnjndmcaaGd
namespace Go.Proofs.Ytfkhbbmnjndmcaa
open Go.RowKit

def nz (l : List Int) (i : Nat) : Int := l.getD i 0

theorem nz_at {l : List Int} {i : Nat} {x : Int} (h : l[i]? = some x) : nz l i = x := by
  unfold nz
  rw [List.getD_eq_getElem?_getD, h]
  rfl

/-- a number in 1..30, above the one ahead -/
def nosB (l : List Int) (i : Nat) : Bool := decide (1 ≤ nz l i) && decide (nz l i ≤ 30) && (decide (i = 0) || decide (nz l (i - 1) < nz l i))

def nosOk (l : List Int) : Bool := (List.range l.length).all (nosB l)

theorem nos_no {l : List Int} {i : Nat} (hi : i < l.length) (h : nosB l i = false) : nosOk l = false := by
  unfold nosOk
  rw [List.all_eq_false]
  exact ⟨i, by simpa using hi, by rw [h]; simp⟩

theorem nos_yes {l : List Int} (h : ∀ j, j < l.length → nosB l j = true) : nosOk l = true := by
  unfold nosOk
  rw [List.all_eq_true]
  intro j hj
  exact h j (by simpa using hj)

theorem nosB_iff (l : List Int) (i : Nat) : nosB l i = true ↔ 1 ≤ nz l i ∧ nz l i ≤ 30 ∧ (i = 0 ∨ nz l (i - 1) < nz l i) := by
  unfold nosB
  simp only [Bool.and_eq_true, Bool.or_eq_true, decide_eq_true_eq]
  constructor
  · rintro ⟨⟨a, b⟩, c⟩; exact ⟨a, b, c⟩
  · rintro ⟨a, b, c⟩; exact ⟨⟨a, b⟩, c⟩

set_option maxRecDepth 100000 in
set_option maxHeartbeats 2000000 in
theorem l1Has_any (l : List Int) (n : Int) (v : Value) (w : World) (h : ZAt w w.heap.size v l) (hl : l.length ≤ 2097152) :
    Calls Try.prog 56 #[v, .int .i64 n] w fun e w' => e = .returned (.bool (decide (n ∈ l))) ∧ w' = w := by
  obtain ⟨ao, cap, rfl, hlc, hcm, hrow⟩ := h
  have hcm' : cap ≤ 9223372036854775807 := by unfold maxLen at hcm; omega
  have HROW : Hid (∀ i (x : Int), l[i]? = some x → ∃ g o, ao = some ⟨g, o, none⟩ ∧ g < w.heap.size ∧ w.cell? ⟨g, o + i, none⟩ = some (.int .i64 x)) := hrow
  obtain ⟨R, hR⟩ : ∃ R, R = decide (n ∈ l) := ⟨_, rfl⟩
  rw [← hR]
  have HR : Hid (R = decide (n ∈ l)) := hR
  clear hR hrow
  go_enter Try.func56, Try.ntmps56
  go_wp2
  go_loopw [9] (fun vi wr => ∃ k : Nat, k ≤ l.length ∧ vi = .int .i64 (k : Int) ∧ Hid (∀ j x, j < k → l[j]? = some x → x ≠ n) ∧ wr = w)
    (fun vi _ => l.length - (intOf vi).toNat)
  case atStart => exact ⟨0, by omega, rfl, fun j x hj => by omega, rfl⟩
  case round =>
    obtain ⟨k, hk, rfl, hall, rfl⟩ := hrel
    by_cases hlt : k < l.length
    · have hltI : (k : Int) < (l.length : Int) := by omega
      obtain ⟨x, hx⟩ : ∃ x, l[k]? = some x := ⟨_, List.getElem?_eq_getElem hlt⟩
      obtain ⟨g, o, rfl, hg, c⟩ := HROW.out k x hx
      by_cases hxn : x = n
      · have hn : Hid (R = true) := HR.out.trans (by rw [decide_eq_true_eq, ← hxn]; exact List.mem_of_getElem? hx)
        have hxn' : (x == n) = true := by simpa using hxn
        clear hall hxn hx
        go_wp2
        go_ret
        exact ⟨by rw [hn.out]; rfl, rfl⟩
      · have hxn' : (x == n) = false := by simpa using hxn
        have hall2 : Hid (∀ j z, j < k + 1 → l[j]? = some z → z ≠ n) := fun j z hj hz => by
          by_cases hjk : j = k
          · rw [hjk, hx] at hz; cases hz; exact hxn
          · exact hall.out j z (by omega) hz
        clear hall hxn hx
        go_wp2
        go_roundw
        case rel => exact ⟨k + 1, by omega, by go_num, hall2, trivial⟩
        case measure => simp [intOf]; omega
    · have hke : k = l.length := by omega
      have hge : ¬ ((k : Int) < (l.length : Int)) := by omega
      have hn : Hid (R = false) := HR.out.trans (by
        rw [decide_eq_false_iff_not]
        intro hm
        obtain ⟨j, hj, he⟩ := List.getElem_of_mem hm
        exact hall.out j n (by omega) (by rw [List.getElem?_eq_getElem hj, he]) rfl)
      clear hall hke
      go_wp2
      go_ret
      exact ⟨by rw [hn.out]; rfl, rfl⟩

set_option maxRecDepth 100000 in
set_option maxHeartbeats 2000000 in
theorem index_any (l : List Int) (n : Int) (v : Value) (w : World) (h : ZAt w w.heap.size v l) (hl : l.length ≤ 2097152) :
    Calls Try.prog 72 #[v, .int .i64 n] w fun e w' => (∃ r : Int, e = .returned (.int .i64 r) ∧ (decide (0 ≤ r) = decide (n ∈ l)) ∧ -1 ≤ r ∧ r ≤ 2097152) ∧ w' = w := by
  obtain ⟨ao, cap, rfl, hlc, hcm, hrow⟩ := h
  have hcm' : cap ≤ 9223372036854775807 := by unfold maxLen at hcm; omega
  have HROW : Hid (∀ i (x : Int), l[i]? = some x → ∃ g o, ao = some ⟨g, o, none⟩ ∧ g < w.heap.size ∧ w.cell? ⟨g, o + i, none⟩ = some (.int .i64 x)) := hrow
  obtain ⟨R, hR⟩ : ∃ R, R = decide (n ∈ l) := ⟨_, rfl⟩
  rw [← hR]
  have HR : Hid (R = decide (n ∈ l)) := hR
  clear hR hrow
  go_enter Try.func72, Try.ntmps72
  go_wp2
  go_loopw [8] (fun vi wr => ∃ k : Nat, k ≤ l.length ∧ vi = .int .i64 (k : Int) ∧ Hid (∀ j x, j < k → l[j]? = some x → x ≠ n) ∧ wr = w)
    (fun vi _ => l.length - (intOf vi).toNat)
  case atStart => exact ⟨0, by omega, rfl, fun j x hj => by omega, rfl⟩
  case round =>
    obtain ⟨k, hk, rfl, hall, rfl⟩ := hrel
    by_cases hlt : k < l.length
    · have hltI : (k : Int) < (l.length : Int) := by omega
      have hk0 : (0 : Int) ≤ (k : Int) := by omega
      obtain ⟨x, hx⟩ : ∃ x, l[k]? = some x := ⟨_, List.getElem?_eq_getElem hlt⟩
      obtain ⟨g, o, rfl, hg, c⟩ := HROW.out k x hx
      by_cases hxn : n = x
      · have hn : Hid (R = true) := HR.out.trans (by rw [decide_eq_true_eq, hxn]; exact List.mem_of_getElem? hx)
        have hxn' : (n == x) = true := by simpa using hxn
        clear hall hxn hx
        go_wp2
        go_ret
        exact ⟨⟨(k : Int), rfl, by rw [hn.out]; simp, by omega, by omega⟩, rfl⟩
      · have hxn' : (n == x) = false := by simpa using hxn
        have hall2 : Hid (∀ j z, j < k + 1 → l[j]? = some z → z ≠ n) := fun j z hj hz => by
          by_cases hjk : j = k
          · rw [hjk, hx] at hz; cases hz; exact fun e => hxn e.symm
          · exact hall.out j z (by omega) hz
        clear hall hxn hx
        go_wp2
        go_roundw
        case rel => exact ⟨k + 1, by omega, by go_num, hall2, trivial⟩
        case measure => simp [intOf]; omega
    · have hke : k = l.length := by omega
      have hge : ¬ ((k : Int) < (l.length : Int)) := by omega
      have hn : Hid (R = false) := HR.out.trans (by
        rw [decide_eq_false_iff_not]
        intro hm
        obtain ⟨j, hj, he⟩ := List.getElem_of_mem hm
        exact hall.out j n (by omega) (by rw [List.getElem?_eq_getElem hj, he]) rfl)
      clear hall hke
      go_wp2
      go_ret
      exact ⟨⟨-1, rfl, by rw [hn.out]; rfl, by omega, by omega⟩, rfl⟩

set_option maxRecDepth 100000 in
set_option maxHeartbeats 1000000 in
theorem contains_any (l : List Int) (n : Int) (v : Value) (w : World) (h : ZAt w w.heap.size v l) (hl : l.length ≤ 2097152) :
    Calls Try.prog 68 #[v, .int .i64 n] w fun e w' => e = .returned (.bool (decide (n ∈ l))) ∧ w' = w := by
  have C : Hid (Calls Try.prog 72 #[v, .int .i64 n] w fun e w' => (∃ r : Int, e = .returned (.int .i64 r) ∧ (decide (0 ≤ r) = decide (n ∈ l)) ∧ -1 ≤ r ∧ r ≤ 2097152) ∧ w' = w) := index_any l n v w h hl
  obtain ⟨ao, cap, rfl, _⟩ := h
  obtain ⟨R, hR⟩ : ∃ R, R = decide (n ∈ l) := ⟨_, rfl⟩
  rw [← hR] at C ⊢
  clear hR
  go_enter Try.func68, Try.ntmps68
  go_wp2_with fail
  refine C.out.mono ?_
  rintro e w1 ⟨⟨r, rfl, hr, h1, h2⟩, rfl⟩
  have HRR : Hid (decide (0 ≤ r) = R) := hr
  clear hr
  by_cases h0 : 0 ≤ r
  · have hn : Hid (R = true) := HRR.out.symm.trans (by simpa using h0)
    go_wp2
    go_ret
    exact ⟨by rw [hn.out]; rfl, rfl⟩
  · have h0' : decide (0 ≤ r) = false := by simpa using h0
    have hn : Hid (R = false) := HRR.out.symm.trans h0'
    clear h0
    go_wp2
    go_ret
    exact ⟨by rw [hn.out]; rfl, rfl⟩

/-- what ComposeNos tells -/
def cno (a b : List Int) : List Int × Bool := if nosOk a && nosOk b then (a.filter fun n => decide (n ∈ b), true) else ([], false)

def OInts (w w' : World) (e : Ending) (R : List Int × Bool) : Prop := ∃ v, e = .returned (.tuple #[v, .bool R.2]) ∧ ZRow w' w.heap.size v R.1 ∧ Below w.heap.size w w'

theorem filt_step (a b : List Int) (k : Nat) (x : Int) (h : a[k]? = some x) : (a.take (k + 1)).filter (fun n => decide (n ∈ b)) = (a.take k).filter (fun n => decide (n ∈ b)) ++ if x ∈ b then [x] else [] := by
  rw [List.take_add_one, h, List.filter_append]
  congr 1
  by_cases hx : x ∈ b <;> simp [hx]

theorem filt_len (a b : List Int) (k : Nat) : ((a.take k).filter (fun n => decide (n ∈ b))).length ≤ k := by
  have := List.length_filter_le (fun n => decide (n ∈ b)) (a.take k)
  rw [List.length_take] at this
  omega

end Go.Proofs.Ytfkhbbmnjndmcaa
