/- The program's goodAsked and goodAsking. -/
import Derived.Test.YtmjpmmkjfimopaaDoorWfB
import Derived.Test.YtmjpmmkjfimopaaDoorHb
import Derived.BigQuiet
namespace Go.Proofs.YtmjpmmkjfimopaaDoor
open Go.RowKit Plain Sch Wan

attribute [local go_sem] storeJ storeF
attribute [local go_sem ↓] eqlW

def askOk (hn ht : Bool) (x : Wa) : Bool := decide (1 ≤ x.no) && decide (x.no ≤ 30) && decide (x.a = 0) && decide (x.b = 0) && askedOk hn ht x.num x.text

set_option maxRecDepth 100000 in
set_option maxHeartbeats 4000000 in
theorem goodAsked_tt (m : Int) (t : ByteArray) (p1 p2 : Fn) (q1 r1 q2 r2 : Array Value) (w : World) (hs : t.size ≤ maxLen) :
    Calls Tryd.prog 58 #[.int .i64 m, .string t, .agg #[.bool true, .bool true, .func p1 q1 r1, .func p2 q2 r2]] w fun e w' => e = .returned (.bool (askedOk true true m t)) ∧ Below w.heap.size w w' := by
  have hB0 : Below w.heap.size w w := Below.refl _ w
  have hs' : (t.size : Int) ≤ 9223372036854775807 := by unfold maxLen at hs; omega
  obtain ⟨R, hR⟩ : ∃ R, R = askedOk true true m t := ⟨_, rfl⟩
  have HR : Hid (R = askedOk true true m t) := hR
  rw [← hR]
  clear hR
  have CG : Hid (∀ W : World, Calls Tryd.prog 89 #[.int .i64 m] W fun e w' => e = .returned (.bool (nOk m)) ∧ w' = W) := fun W => goodNumber_w m W
  cases hok : nOk m with
  | false =>
    have hF : Hid (R = false) := by show R = _; rw [HR.out]; unfold askedOk; simp [hok]
    clear HR 
    rw [hok] at CG
    go_enter Tryd.func58, Tryd.ntmps58
    go_wp2_with fail
    refine (CG.out _).mono ?_
    rintro e w2 ⟨rfl, rfl⟩
    go_wp2
    go_ret
    exact ⟨by rw [hF.out]; rfl, by first | exact below_drewN (by repeat' (first | exact hB0 | refine Below.alloc ?_ (by first | omega | (simp; omega) | simp) _ | refine Below.setCell ?_ (by first | omega | (simp; omega) | simp) _)) | exact (show Below _ _ _ by repeat' (first | exact hB0 | refine Below.alloc ?_ (by first | omega | (simp; omega) | simp) _ | refine Below.setCell ?_ (by first | omega | (simp; omega) | simp) _)).drew | (repeat' (first | exact hB0 | refine Below.alloc ?_ (by first | omega | (simp; omega) | simp) _ | refine Below.setCell ?_ (by first | omega | (simp; omega) | simp) _))⟩
  | true =>
    by_cases h4 : t.size ≤ 30
    · have h4' : (t.size : Int) ≤ 30 := by omega
      have hF : Hid (R = true) := by show R = _; rw [HR.out]; unfold askedOk; simp [hok, h4]
      clear HR h4
      rw [hok] at CG
      go_enter Tryd.func58, Tryd.ntmps58
      go_wp2_with fail
      refine (CG.out _).mono ?_
      rintro e w2 ⟨rfl, rfl⟩
      go_wp2
      go_ret
      exact ⟨by rw [hF.out]; rfl, by first | exact below_drewN (by repeat' (first | exact hB0 | refine Below.alloc ?_ (by first | omega | (simp; omega) | simp) _ | refine Below.setCell ?_ (by first | omega | (simp; omega) | simp) _)) | exact (show Below _ _ _ by repeat' (first | exact hB0 | refine Below.alloc ?_ (by first | omega | (simp; omega) | simp) _ | refine Below.setCell ?_ (by first | omega | (simp; omega) | simp) _)).drew | (repeat' (first | exact hB0 | refine Below.alloc ?_ (by first | omega | (simp; omega) | simp) _ | refine Below.setCell ?_ (by first | omega | (simp; omega) | simp) _))⟩
    · have h4' : decide ((t.size : Int) ≤ 30) = false := by simp; omega
      have hF : Hid (R = false) := by show R = _; rw [HR.out]; unfold askedOk; simp [h4]
      clear HR h4
      rw [hok] at CG
      go_enter Tryd.func58, Tryd.ntmps58
      go_wp2_with fail
      refine (CG.out _).mono ?_
      rintro e w2 ⟨rfl, rfl⟩
      go_wp2
      go_ret
      exact ⟨by rw [hF.out]; rfl, by first | exact below_drewN (by repeat' (first | exact hB0 | refine Below.alloc ?_ (by first | omega | (simp; omega) | simp) _ | refine Below.setCell ?_ (by first | omega | (simp; omega) | simp) _)) | exact (show Below _ _ _ by repeat' (first | exact hB0 | refine Below.alloc ?_ (by first | omega | (simp; omega) | simp) _ | refine Below.setCell ?_ (by first | omega | (simp; omega) | simp) _)).drew | (repeat' (first | exact hB0 | refine Below.alloc ?_ (by first | omega | (simp; omega) | simp) _ | refine Below.setCell ?_ (by first | omega | (simp; omega) | simp) _))⟩

set_option maxRecDepth 100000 in
set_option maxHeartbeats 4000000 in
theorem goodAsked_tf (m : Int) (t : ByteArray) (p1 p2 : Fn) (q1 r1 q2 r2 : Array Value) (w : World) (hs : t.size ≤ maxLen) :
    Calls Tryd.prog 58 #[.int .i64 m, .string t, .agg #[.bool true, .bool false, .func p1 q1 r1, .func p2 q2 r2]] w fun e w' => e = .returned (.bool (askedOk true false m t)) ∧ Below w.heap.size w w' := by
  have hB0 : Below w.heap.size w w := Below.refl _ w
  have hs' : (t.size : Int) ≤ 9223372036854775807 := by unfold maxLen at hs; omega
  obtain ⟨R, hR⟩ : ∃ R, R = askedOk true false m t := ⟨_, rfl⟩
  have HR : Hid (R = askedOk true false m t) := hR
  rw [← hR]
  clear hR
  have CG : Hid (∀ W : World, Calls Tryd.prog 89 #[.int .i64 m] W fun e w' => e = .returned (.bool (nOk m)) ∧ w' = W) := fun W => goodNumber_w m W
  by_cases h1 : t = ⟨#[]⟩
  · subst h1
    cases hok : nOk m with
    | false =>
      have hF : Hid (R = false) := by show R = _; rw [HR.out]; unfold askedOk; simp [hok]
      clear HR 
      rw [hok] at CG
      go_enter Tryd.func58, Tryd.ntmps58
      go_wp2_with fail
      refine (CG.out _).mono ?_
      rintro e w2 ⟨rfl, rfl⟩
      go_wp2
      go_ret
      exact ⟨by rw [hF.out]; rfl, by first | exact below_drewN (by repeat' (first | exact hB0 | refine Below.alloc ?_ (by first | omega | (simp; omega) | simp) _ | refine Below.setCell ?_ (by first | omega | (simp; omega) | simp) _)) | exact (show Below _ _ _ by repeat' (first | exact hB0 | refine Below.alloc ?_ (by first | omega | (simp; omega) | simp) _ | refine Below.setCell ?_ (by first | omega | (simp; omega) | simp) _)).drew | (repeat' (first | exact hB0 | refine Below.alloc ?_ (by first | omega | (simp; omega) | simp) _ | refine Below.setCell ?_ (by first | omega | (simp; omega) | simp) _))⟩
    | true =>
      have h4' : ((ByteArray.mk #[]).size : Int) ≤ 30 := by decide
      have h4n : (ByteArray.mk #[]).size ≤ 30 := by decide
      have hF : Hid (R = true) := by show R = _; rw [HR.out]; unfold askedOk; simp [hok, h4n]
      clear HR 
      rw [hok] at CG
      go_enter Tryd.func58, Tryd.ntmps58
      go_wp2_with fail
      refine (CG.out _).mono ?_
      rintro e w2 ⟨rfl, rfl⟩
      go_wp2
      go_ret
      exact ⟨by rw [hF.out]; rfl, by first | exact below_drewN (by repeat' (first | exact hB0 | refine Below.alloc ?_ (by first | omega | (simp; omega) | simp) _ | refine Below.setCell ?_ (by first | omega | (simp; omega) | simp) _)) | exact (show Below _ _ _ by repeat' (first | exact hB0 | refine Below.alloc ?_ (by first | omega | (simp; omega) | simp) _ | refine Below.setCell ?_ (by first | omega | (simp; omega) | simp) _)).drew | (repeat' (first | exact hB0 | refine Below.alloc ?_ (by first | omega | (simp; omega) | simp) _ | refine Below.setCell ?_ (by first | omega | (simp; omega) | simp) _))⟩
  · have h1' : (t.toList == (ByteArray.mk #[]).toList) = false := str_neB h1
    have h1b : t.toList.isEmpty = false := str_some h1
    have hF : Hid (R = false) := by show R = _; rw [HR.out]; unfold askedOk; simp [h1]
    clear HR h1
    go_enter Tryd.func58, Tryd.ntmps58
    go_wp2
    go_ret
    exact ⟨by rw [hF.out]; rfl, by first | exact below_drewN (by repeat' (first | exact hB0 | refine Below.alloc ?_ (by first | omega | (simp; omega) | simp) _ | refine Below.setCell ?_ (by first | omega | (simp; omega) | simp) _)) | exact (show Below _ _ _ by repeat' (first | exact hB0 | refine Below.alloc ?_ (by first | omega | (simp; omega) | simp) _ | refine Below.setCell ?_ (by first | omega | (simp; omega) | simp) _)).drew | (repeat' (first | exact hB0 | refine Below.alloc ?_ (by first | omega | (simp; omega) | simp) _ | refine Below.setCell ?_ (by first | omega | (simp; omega) | simp) _))⟩

set_option maxRecDepth 100000 in
set_option maxHeartbeats 4000000 in
theorem goodAsked_ft (m : Int) (t : ByteArray) (p1 p2 : Fn) (q1 r1 q2 r2 : Array Value) (w : World) (hs : t.size ≤ maxLen) :
    Calls Tryd.prog 58 #[.int .i64 m, .string t, .agg #[.bool false, .bool true, .func p1 q1 r1, .func p2 q2 r2]] w fun e w' => e = .returned (.bool (askedOk false true m t)) ∧ Below w.heap.size w w' := by
  have hB0 : Below w.heap.size w w := Below.refl _ w
  have hs' : (t.size : Int) ≤ 9223372036854775807 := by unfold maxLen at hs; omega
  obtain ⟨R, hR⟩ : ∃ R, R = askedOk false true m t := ⟨_, rfl⟩
  have HR : Hid (R = askedOk false true m t) := hR
  rw [← hR]
  clear hR
  have CG : Hid (∀ W : World, Calls Tryd.prog 89 #[.int .i64 m] W fun e w' => e = .returned (.bool (nOk m)) ∧ w' = W) := fun W => goodNumber_w m W
  by_cases h0 : m = 0
  · subst h0
    cases hok : nOk 0 with
    | false =>
      have hF : Hid (R = false) := by show R = _; rw [HR.out]; unfold askedOk; simp [hok]
      clear HR 
      rw [hok] at CG
      go_enter Tryd.func58, Tryd.ntmps58
      go_wp2_with fail
      refine (CG.out _).mono ?_
      rintro e w2 ⟨rfl, rfl⟩
      go_wp2
      go_ret
      exact ⟨by rw [hF.out]; rfl, by first | exact below_drewN (by repeat' (first | exact hB0 | refine Below.alloc ?_ (by first | omega | (simp; omega) | simp) _ | refine Below.setCell ?_ (by first | omega | (simp; omega) | simp) _)) | exact (show Below _ _ _ by repeat' (first | exact hB0 | refine Below.alloc ?_ (by first | omega | (simp; omega) | simp) _ | refine Below.setCell ?_ (by first | omega | (simp; omega) | simp) _)).drew | (repeat' (first | exact hB0 | refine Below.alloc ?_ (by first | omega | (simp; omega) | simp) _ | refine Below.setCell ?_ (by first | omega | (simp; omega) | simp) _))⟩
    | true =>
      by_cases h4 : t.size ≤ 30
      · have h4' : (t.size : Int) ≤ 30 := by omega
        have hF : Hid (R = true) := by show R = _; rw [HR.out]; unfold askedOk; simp [hok, h4]
        clear HR h4
        rw [hok] at CG
        go_enter Tryd.func58, Tryd.ntmps58
        go_wp2_with fail
        refine (CG.out _).mono ?_
        rintro e w2 ⟨rfl, rfl⟩
        go_wp2
        go_ret
        exact ⟨by rw [hF.out]; rfl, by first | exact below_drewN (by repeat' (first | exact hB0 | refine Below.alloc ?_ (by first | omega | (simp; omega) | simp) _ | refine Below.setCell ?_ (by first | omega | (simp; omega) | simp) _)) | exact (show Below _ _ _ by repeat' (first | exact hB0 | refine Below.alloc ?_ (by first | omega | (simp; omega) | simp) _ | refine Below.setCell ?_ (by first | omega | (simp; omega) | simp) _)).drew | (repeat' (first | exact hB0 | refine Below.alloc ?_ (by first | omega | (simp; omega) | simp) _ | refine Below.setCell ?_ (by first | omega | (simp; omega) | simp) _))⟩
      · have h4' : decide ((t.size : Int) ≤ 30) = false := by simp; omega
        have hF : Hid (R = false) := by show R = _; rw [HR.out]; unfold askedOk; simp [h4]
        clear HR h4
        rw [hok] at CG
        go_enter Tryd.func58, Tryd.ntmps58
        go_wp2_with fail
        refine (CG.out _).mono ?_
        rintro e w2 ⟨rfl, rfl⟩
        go_wp2
        go_ret
        exact ⟨by rw [hF.out]; rfl, by first | exact below_drewN (by repeat' (first | exact hB0 | refine Below.alloc ?_ (by first | omega | (simp; omega) | simp) _ | refine Below.setCell ?_ (by first | omega | (simp; omega) | simp) _)) | exact (show Below _ _ _ by repeat' (first | exact hB0 | refine Below.alloc ?_ (by first | omega | (simp; omega) | simp) _ | refine Below.setCell ?_ (by first | omega | (simp; omega) | simp) _)).drew | (repeat' (first | exact hB0 | refine Below.alloc ?_ (by first | omega | (simp; omega) | simp) _ | refine Below.setCell ?_ (by first | omega | (simp; omega) | simp) _))⟩
  · have h0' : (m == 0) = false := by simp [h0]
    have h0b : (m != 0) = true := by simp [h0]
    have hF : Hid (R = false) := by show R = _; rw [HR.out]; unfold askedOk; simp [h0]
    clear HR h0
    go_enter Tryd.func58, Tryd.ntmps58
    go_wp2
    go_ret
    exact ⟨by rw [hF.out]; rfl, by first | exact below_drewN (by repeat' (first | exact hB0 | refine Below.alloc ?_ (by first | omega | (simp; omega) | simp) _ | refine Below.setCell ?_ (by first | omega | (simp; omega) | simp) _)) | exact (show Below _ _ _ by repeat' (first | exact hB0 | refine Below.alloc ?_ (by first | omega | (simp; omega) | simp) _ | refine Below.setCell ?_ (by first | omega | (simp; omega) | simp) _)).drew | (repeat' (first | exact hB0 | refine Below.alloc ?_ (by first | omega | (simp; omega) | simp) _ | refine Below.setCell ?_ (by first | omega | (simp; omega) | simp) _))⟩

set_option maxRecDepth 100000 in
set_option maxHeartbeats 4000000 in
theorem goodAsked_ff (m : Int) (t : ByteArray) (p1 p2 : Fn) (q1 r1 q2 r2 : Array Value) (w : World) (hs : t.size ≤ maxLen) :
    Calls Tryd.prog 58 #[.int .i64 m, .string t, .agg #[.bool false, .bool false, .func p1 q1 r1, .func p2 q2 r2]] w fun e w' => e = .returned (.bool (askedOk false false m t)) ∧ Below w.heap.size w w' := by
  have hB0 : Below w.heap.size w w := Below.refl _ w
  have hs' : (t.size : Int) ≤ 9223372036854775807 := by unfold maxLen at hs; omega
  obtain ⟨R, hR⟩ : ∃ R, R = askedOk false false m t := ⟨_, rfl⟩
  have HR : Hid (R = askedOk false false m t) := hR
  rw [← hR]
  clear hR
  have CG : Hid (∀ W : World, Calls Tryd.prog 89 #[.int .i64 m] W fun e w' => e = .returned (.bool (nOk m)) ∧ w' = W) := fun W => goodNumber_w m W
  by_cases h0 : m = 0
  · subst h0
    by_cases h1 : t = ⟨#[]⟩
    · subst h1
      cases hok : nOk 0 with
      | false =>
        have hF : Hid (R = false) := by show R = _; rw [HR.out]; unfold askedOk; simp [hok]
        clear HR 
        rw [hok] at CG
        go_enter Tryd.func58, Tryd.ntmps58
        go_wp2_with fail
        refine (CG.out _).mono ?_
        rintro e w2 ⟨rfl, rfl⟩
        go_wp2
        go_ret
        exact ⟨by rw [hF.out]; rfl, by first | exact below_drewN (by repeat' (first | exact hB0 | refine Below.alloc ?_ (by first | omega | (simp; omega) | simp) _ | refine Below.setCell ?_ (by first | omega | (simp; omega) | simp) _)) | exact (show Below _ _ _ by repeat' (first | exact hB0 | refine Below.alloc ?_ (by first | omega | (simp; omega) | simp) _ | refine Below.setCell ?_ (by first | omega | (simp; omega) | simp) _)).drew | (repeat' (first | exact hB0 | refine Below.alloc ?_ (by first | omega | (simp; omega) | simp) _ | refine Below.setCell ?_ (by first | omega | (simp; omega) | simp) _))⟩
      | true =>
        have h4' : ((ByteArray.mk #[]).size : Int) ≤ 30 := by decide
        have h4n : (ByteArray.mk #[]).size ≤ 30 := by decide
        have hF : Hid (R = true) := by show R = _; rw [HR.out]; unfold askedOk; simp [hok, h4n]
        clear HR 
        rw [hok] at CG
        go_enter Tryd.func58, Tryd.ntmps58
        go_wp2_with fail
        refine (CG.out _).mono ?_
        rintro e w2 ⟨rfl, rfl⟩
        go_wp2
        go_ret
        exact ⟨by rw [hF.out]; rfl, by first | exact below_drewN (by repeat' (first | exact hB0 | refine Below.alloc ?_ (by first | omega | (simp; omega) | simp) _ | refine Below.setCell ?_ (by first | omega | (simp; omega) | simp) _)) | exact (show Below _ _ _ by repeat' (first | exact hB0 | refine Below.alloc ?_ (by first | omega | (simp; omega) | simp) _ | refine Below.setCell ?_ (by first | omega | (simp; omega) | simp) _)).drew | (repeat' (first | exact hB0 | refine Below.alloc ?_ (by first | omega | (simp; omega) | simp) _ | refine Below.setCell ?_ (by first | omega | (simp; omega) | simp) _))⟩
    · have h1' : (t.toList == (ByteArray.mk #[]).toList) = false := str_neB h1
      have h1b : t.toList.isEmpty = false := str_some h1
      have hF : Hid (R = false) := by show R = _; rw [HR.out]; unfold askedOk; simp [h1]
      clear HR h1
      go_enter Tryd.func58, Tryd.ntmps58
      go_wp2
      go_ret
      exact ⟨by rw [hF.out]; rfl, by first | exact below_drewN (by repeat' (first | exact hB0 | refine Below.alloc ?_ (by first | omega | (simp; omega) | simp) _ | refine Below.setCell ?_ (by first | omega | (simp; omega) | simp) _)) | exact (show Below _ _ _ by repeat' (first | exact hB0 | refine Below.alloc ?_ (by first | omega | (simp; omega) | simp) _ | refine Below.setCell ?_ (by first | omega | (simp; omega) | simp) _)).drew | (repeat' (first | exact hB0 | refine Below.alloc ?_ (by first | omega | (simp; omega) | simp) _ | refine Below.setCell ?_ (by first | omega | (simp; omega) | simp) _))⟩
  · have h0' : (m == 0) = false := by simp [h0]
    have h0b : (m != 0) = true := by simp [h0]
    have hF : Hid (R = false) := by show R = _; rw [HR.out]; unfold askedOk; simp [h0]
    clear HR h0
    go_enter Tryd.func58, Tryd.ntmps58
    go_wp2
    go_ret
    exact ⟨by rw [hF.out]; rfl, by first | exact below_drewN (by repeat' (first | exact hB0 | refine Below.alloc ?_ (by first | omega | (simp; omega) | simp) _ | refine Below.setCell ?_ (by first | omega | (simp; omega) | simp) _)) | exact (show Below _ _ _ by repeat' (first | exact hB0 | refine Below.alloc ?_ (by first | omega | (simp; omega) | simp) _ | refine Below.setCell ?_ (by first | omega | (simp; omega) | simp) _)).drew | (repeat' (first | exact hB0 | refine Below.alloc ?_ (by first | omega | (simp; omega) | simp) _ | refine Below.setCell ?_ (by first | omega | (simp; omega) | simp) _))⟩

theorem goodAsked_any (hn ht : Bool) (m : Int) (t : ByteArray) (p1 p2 : Fn) (q1 r1 q2 r2 : Array Value) (w : World) (hs : t.size ≤ maxLen) :
    Calls Tryd.prog 58 #[.int .i64 m, .string t, .agg #[.bool hn, .bool ht, .func p1 q1 r1, .func p2 q2 r2]] w fun e w' => e = .returned (.bool (askedOk hn ht m t)) ∧ Below w.heap.size w w' := by
  cases hn <;> cases ht
  · exact goodAsked_ff m t p1 p2 q1 r1 q2 r2 w hs
  · exact goodAsked_ft m t p1 p2 q1 r1 q2 r2 w hs
  · exact goodAsked_tf m t p1 p2 q1 r1 q2 r2 w hs
  · exact goodAsked_tt m t p1 p2 q1 r1 q2 r2 w hs

set_option maxRecDepth 100000 in
set_option maxHeartbeats 4000000 in
theorem goodAsking_bb (hn ht : Bool) (k n m : Int) (t : ByteArray) (a b : Int) (p1 p2 : Fn) (q1 r1 q2 r2 : Array Value) (w : World) (hs : t.size ≤ maxLen) :
    Calls Tryd.prog 74 #[.agg #[.int .i64 k, .int .i64 n, .int .i64 m, .string t, .int .i64 a, .int .i64 b], .agg #[.bool hn, .bool ht, .func p1 q1 r1, .func p2 q2 r2]] w fun e w' => e = .returned (.bool (askOk hn ht ⟨k, n, m, t, a, b⟩)) ∧ Below w.heap.size w w' := by
  have hB0 : Below w.heap.size w w := Below.refl _ w
  obtain ⟨R, hR⟩ : ∃ R, R = askOk hn ht ⟨k, n, m, t, a, b⟩ := ⟨_, rfl⟩
  have HR : Hid (R = askOk hn ht ⟨k, n, m, t, a, b⟩) := hR
  rw [← hR]
  clear hR
  have CG : Hid (∀ W : World, Calls Tryd.prog 58 #[.int .i64 m, .string t, .agg #[.bool hn, .bool ht, .func p1 q1 r1, .func p2 q2 r2]] W fun e w' => e = .returned (.bool (askedOk hn ht m t)) ∧ Below W.heap.size W w') := fun W => goodAsked_any hn ht m t p1 p2 q1 r1 q2 r2 W hs
  by_cases h1 : 1 ≤ n
  · skip
    by_cases h2 : n ≤ 30
    · skip
      by_cases h3 : a = 0
      · subst h3
        by_cases h4 : b = 0
        · subst h4
          have hF : Hid (R = askedOk hn ht m t) := by show R = _; rw [HR.out]; unfold askOk; simp [h1, h2]
          clear HR
          go_enter Tryd.func74, Tryd.ntmps74
          go_wp2_with fail
          refine (CG.out _).mono ?_
          rintro e w2 ⟨rfl, hb2⟩
          rw [← hF.out]
          go_wp2
          go_ret
          exact ⟨rfl, (((Below.refl _ w).alloc (Nat.le_refl _) _).alloc (by simp) _).trans (hb2.mono (by simp; omega))⟩
        · have h4' : (b == 0) = false := by simp [h4]
          have hF : Hid (R = false) := by show R = _; rw [HR.out]; unfold askOk; simp [h4]
          clear HR h4
          go_enter Tryd.func74, Tryd.ntmps74
          go_wp2
          go_ret
          exact ⟨by rw [hF.out]; rfl, by first | exact below_drewN (by repeat' (first | exact hB0 | refine Below.alloc ?_ (by first | omega | (simp; omega) | simp) _ | refine Below.setCell ?_ (by first | omega | (simp; omega) | simp) _)) | exact (show Below _ _ _ by repeat' (first | exact hB0 | refine Below.alloc ?_ (by first | omega | (simp; omega) | simp) _ | refine Below.setCell ?_ (by first | omega | (simp; omega) | simp) _)).drew | (repeat' (first | exact hB0 | refine Below.alloc ?_ (by first | omega | (simp; omega) | simp) _ | refine Below.setCell ?_ (by first | omega | (simp; omega) | simp) _))⟩
      · have h3' : (a == 0) = false := by simp [h3]
        have hF : Hid (R = false) := by show R = _; rw [HR.out]; unfold askOk; simp [h3]
        clear HR h3
        go_enter Tryd.func74, Tryd.ntmps74
        go_wp2
        go_ret
        exact ⟨by rw [hF.out]; rfl, by first | exact below_drewN (by repeat' (first | exact hB0 | refine Below.alloc ?_ (by first | omega | (simp; omega) | simp) _ | refine Below.setCell ?_ (by first | omega | (simp; omega) | simp) _)) | exact (show Below _ _ _ by repeat' (first | exact hB0 | refine Below.alloc ?_ (by first | omega | (simp; omega) | simp) _ | refine Below.setCell ?_ (by first | omega | (simp; omega) | simp) _)).drew | (repeat' (first | exact hB0 | refine Below.alloc ?_ (by first | omega | (simp; omega) | simp) _ | refine Below.setCell ?_ (by first | omega | (simp; omega) | simp) _))⟩
    · have h2' : decide (n ≤ 30) = false := by simpa using h2
      have hF : Hid (R = false) := by show R = _; rw [HR.out]; unfold askOk; simp [h2]
      clear HR h2
      go_enter Tryd.func74, Tryd.ntmps74
      go_wp2
      go_ret
      exact ⟨by rw [hF.out]; rfl, by first | exact below_drewN (by repeat' (first | exact hB0 | refine Below.alloc ?_ (by first | omega | (simp; omega) | simp) _ | refine Below.setCell ?_ (by first | omega | (simp; omega) | simp) _)) | exact (show Below _ _ _ by repeat' (first | exact hB0 | refine Below.alloc ?_ (by first | omega | (simp; omega) | simp) _ | refine Below.setCell ?_ (by first | omega | (simp; omega) | simp) _)).drew | (repeat' (first | exact hB0 | refine Below.alloc ?_ (by first | omega | (simp; omega) | simp) _ | refine Below.setCell ?_ (by first | omega | (simp; omega) | simp) _))⟩
  · have h1' : decide (1 ≤ n) = false := by simpa using h1
    have hF : Hid (R = false) := by show R = _; rw [HR.out]; unfold askOk; simp [h1]
    clear HR h1
    go_enter Tryd.func74, Tryd.ntmps74
    go_wp2
    go_ret
    exact ⟨by rw [hF.out]; rfl, by first | exact below_drewN (by repeat' (first | exact hB0 | refine Below.alloc ?_ (by first | omega | (simp; omega) | simp) _ | refine Below.setCell ?_ (by first | omega | (simp; omega) | simp) _)) | exact (show Below _ _ _ by repeat' (first | exact hB0 | refine Below.alloc ?_ (by first | omega | (simp; omega) | simp) _ | refine Below.setCell ?_ (by first | omega | (simp; omega) | simp) _)).drew | (repeat' (first | exact hB0 | refine Below.alloc ?_ (by first | omega | (simp; omega) | simp) _ | refine Below.setCell ?_ (by first | omega | (simp; omega) | simp) _))⟩

end Go.Proofs.YtmjpmmkjfimopaaDoor
