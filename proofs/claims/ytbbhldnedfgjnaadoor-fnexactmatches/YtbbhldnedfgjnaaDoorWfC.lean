/- The program's goodAsking. -/
import Derived.Test.YtbbhldnedfgjnaaDoorWfB
import Derived.BigQuiet
namespace Go.Proofs.YtbbhldnedfgjnaaDoor
open Go.RowKit Plain Sch Wan

attribute [local go_sem] storeJ storeF
attribute [local go_sem ↓] eqlW

def askOk (hn ht : Bool) (x : Wa) : Bool := weq x ⟨x.kind, x.no, if hn then x.num else 0, if ht then x.text else ⟨#[]⟩, 0, 0⟩ && decide (1 ≤ x.no) && decide (x.no ≤ 30) && nOk x.num && decide (x.text.size ≤ 30)

set_option maxRecDepth 100000 in
set_option maxHeartbeats 4000000 in
theorem goodAsking_tf (k n m : Int) (t : ByteArray) (a b : Int) (p1 p2 : Fn) (q1 r1 q2 r2 : Array Value) (w : World) (hs : t.size ≤ maxLen) :
    Calls Tryd.prog 46 #[.agg #[.int .i64 k, .int .i64 n, .int .i64 m, .string t, .int .i64 a, .int .i64 b], .agg #[.bool true, .bool false, .func p1 q1 r1, .func p2 q2 r2]] w fun e w' => e = .returned (.bool (weq ⟨k, n, m, t, a, b⟩ ⟨k, n, m, ⟨#[]⟩, 0, 0⟩ && decide (1 ≤ n) && decide (n ≤ 30) && nOk m && decide (t.size ≤ 30))) ∧ Below w.heap.size w w' := by
  have hB0 : Below w.heap.size w w := Below.refl _ w
  have hs' : (t.size : Int) ≤ 9223372036854775807 := by unfold maxLen at hs; omega
  obtain ⟨R, hR⟩ : ∃ R, R = (weq ⟨k, n, m, t, a, b⟩ ⟨k, n, m, ⟨#[]⟩, 0, 0⟩ && decide (1 ≤ n) && decide (n ≤ 30) && nOk m && decide (t.size ≤ 30)) := ⟨_, rfl⟩
  have HR : Hid (R = (weq ⟨k, n, m, t, a, b⟩ ⟨k, n, m, ⟨#[]⟩, 0, 0⟩ && decide (1 ≤ n) && decide (n ≤ 30) && nOk m && decide (t.size ≤ 30))) := hR
  rw [← hR]
  clear hR
  have CG : Hid (∀ W : World, Calls Tryd.prog 71 #[.int .i64 m] W fun e w' => e = .returned (.bool (nOk m)) ∧ w' = W) := fun W => goodNumber_w m W
  cases hw : weq ⟨k, n, m, t, a, b⟩ ⟨k, n, m, ⟨#[]⟩, 0, 0⟩ with
  | false =>
    have hF : Hid (R = false) := by show R = _; rw [HR.out, hw]; rfl
    clear HR
    go_enter Tryd.func46, Tryd.ntmps46
    go_wp2
    go_ret
    exact ⟨by rw [hF.out]; rfl, by first | exact below_drewN (by repeat' (first | exact hB0 | refine Below.alloc ?_ (by first | omega | (simp; omega) | simp) _ | refine Below.setCell ?_ (by first | omega | (simp; omega) | simp) _)) | (repeat' (first | exact hB0 | refine Below.alloc ?_ (by first | omega | (simp; omega) | simp) _ | refine Below.setCell ?_ (by first | omega | (simp; omega) | simp) _))⟩
  | true =>
    by_cases h1 : 1 ≤ n
    · by_cases h30 : n ≤ 30
      · cases hok : nOk m with
        | false =>
          have hF : Hid (R = false) := by show R = _; rw [HR.out, hok]; simp
          clear HR
          rw [hok] at CG
          go_enter Tryd.func46, Tryd.ntmps46
          go_wp2_with fail
          refine (CG.out _).mono ?_
          rintro e w2 ⟨rfl, rfl⟩
          go_wp2
          go_ret
          exact ⟨by rw [hF.out]; rfl, by first | exact below_drewN (by repeat' (first | exact hB0 | refine Below.alloc ?_ (by first | omega | (simp; omega) | simp) _ | refine Below.setCell ?_ (by first | omega | (simp; omega) | simp) _)) | exact (show Below _ _ _ by repeat' (first | exact hB0 | refine Below.alloc ?_ (by first | omega | (simp; omega) | simp) _ | refine Below.setCell ?_ (by first | omega | (simp; omega) | simp) _)).drew | (repeat' (first | exact hB0 | refine Below.alloc ?_ (by first | omega | (simp; omega) | simp) _ | refine Below.setCell ?_ (by first | omega | (simp; omega) | simp) _))⟩
        | true =>
          by_cases h4 : t.size ≤ 30
          · have h4' : (t.size : Int) ≤ 30 := by omega
            have hF : Hid (R = true) := by show R = _; rw [HR.out, hok, hw]; simp [h1, h30, h4]
            clear HR h4
            rw [hok] at CG
            go_enter Tryd.func46, Tryd.ntmps46
            go_wp2_with fail
            refine (CG.out _).mono ?_
            rintro e w2 ⟨rfl, rfl⟩
            go_wp2
            go_ret
            exact ⟨by rw [hF.out]; rfl, by first | exact below_drewN (by repeat' (first | exact hB0 | refine Below.alloc ?_ (by first | omega | (simp; omega) | simp) _ | refine Below.setCell ?_ (by first | omega | (simp; omega) | simp) _)) | exact (show Below _ _ _ by repeat' (first | exact hB0 | refine Below.alloc ?_ (by first | omega | (simp; omega) | simp) _ | refine Below.setCell ?_ (by first | omega | (simp; omega) | simp) _)).drew | (repeat' (first | exact hB0 | refine Below.alloc ?_ (by first | omega | (simp; omega) | simp) _ | refine Below.setCell ?_ (by first | omega | (simp; omega) | simp) _))⟩
          · have h4' : decide ((t.size : Int) ≤ 30) = false := by simp; omega
            have hF : Hid (R = false) := by show R = _; rw [HR.out]; simp [h4]
            clear HR h4
            rw [hok] at CG
            go_enter Tryd.func46, Tryd.ntmps46
            go_wp2_with fail
            refine (CG.out _).mono ?_
            rintro e w2 ⟨rfl, rfl⟩
            go_wp2
            go_ret
            exact ⟨by rw [hF.out]; rfl, by first | exact below_drewN (by repeat' (first | exact hB0 | refine Below.alloc ?_ (by first | omega | (simp; omega) | simp) _ | refine Below.setCell ?_ (by first | omega | (simp; omega) | simp) _)) | exact (show Below _ _ _ by repeat' (first | exact hB0 | refine Below.alloc ?_ (by first | omega | (simp; omega) | simp) _ | refine Below.setCell ?_ (by first | omega | (simp; omega) | simp) _)).drew | (repeat' (first | exact hB0 | refine Below.alloc ?_ (by first | omega | (simp; omega) | simp) _ | refine Below.setCell ?_ (by first | omega | (simp; omega) | simp) _))⟩
      · have h30' : decide (n ≤ 30) = false := by simpa using h30
        have hF : Hid (R = false) := by show R = _; rw [HR.out]; simp [h30]
        clear HR h30
        go_enter Tryd.func46, Tryd.ntmps46
        go_wp2
        go_ret
        exact ⟨by rw [hF.out]; rfl, by first | exact below_drewN (by repeat' (first | exact hB0 | refine Below.alloc ?_ (by first | omega | (simp; omega) | simp) _ | refine Below.setCell ?_ (by first | omega | (simp; omega) | simp) _)) | (repeat' (first | exact hB0 | refine Below.alloc ?_ (by first | omega | (simp; omega) | simp) _ | refine Below.setCell ?_ (by first | omega | (simp; omega) | simp) _))⟩
    · have h1' : decide (1 ≤ n) = false := by simpa using h1
      have hF : Hid (R = false) := by show R = _; rw [HR.out, h1']; simp
      clear HR h1
      go_enter Tryd.func46, Tryd.ntmps46
      go_wp2
      go_ret
      exact ⟨by rw [hF.out]; rfl, by first | exact below_drewN (by repeat' (first | exact hB0 | refine Below.alloc ?_ (by first | omega | (simp; omega) | simp) _ | refine Below.setCell ?_ (by first | omega | (simp; omega) | simp) _)) | (repeat' (first | exact hB0 | refine Below.alloc ?_ (by first | omega | (simp; omega) | simp) _ | refine Below.setCell ?_ (by first | omega | (simp; omega) | simp) _))⟩

set_option maxRecDepth 100000 in
set_option maxHeartbeats 4000000 in
theorem goodAsking_ff (k n m : Int) (t : ByteArray) (a b : Int) (p1 p2 : Fn) (q1 r1 q2 r2 : Array Value) (w : World) (hs : t.size ≤ maxLen) :
    Calls Tryd.prog 46 #[.agg #[.int .i64 k, .int .i64 n, .int .i64 m, .string t, .int .i64 a, .int .i64 b], .agg #[.bool false, .bool false, .func p1 q1 r1, .func p2 q2 r2]] w fun e w' => e = .returned (.bool (weq ⟨k, n, m, t, a, b⟩ ⟨k, n, 0, ⟨#[]⟩, 0, 0⟩ && decide (1 ≤ n) && decide (n ≤ 30) && nOk m && decide (t.size ≤ 30))) ∧ Below w.heap.size w w' := by
  have hB0 : Below w.heap.size w w := Below.refl _ w
  have hs' : (t.size : Int) ≤ 9223372036854775807 := by unfold maxLen at hs; omega
  obtain ⟨R, hR⟩ : ∃ R, R = (weq ⟨k, n, m, t, a, b⟩ ⟨k, n, 0, ⟨#[]⟩, 0, 0⟩ && decide (1 ≤ n) && decide (n ≤ 30) && nOk m && decide (t.size ≤ 30)) := ⟨_, rfl⟩
  have HR : Hid (R = (weq ⟨k, n, m, t, a, b⟩ ⟨k, n, 0, ⟨#[]⟩, 0, 0⟩ && decide (1 ≤ n) && decide (n ≤ 30) && nOk m && decide (t.size ≤ 30))) := hR
  rw [← hR]
  clear hR
  have CG : Hid (∀ W : World, Calls Tryd.prog 71 #[.int .i64 m] W fun e w' => e = .returned (.bool (nOk m)) ∧ w' = W) := fun W => goodNumber_w m W
  cases hw : weq ⟨k, n, m, t, a, b⟩ ⟨k, n, 0, ⟨#[]⟩, 0, 0⟩ with
  | false =>
    have hF : Hid (R = false) := by show R = _; rw [HR.out, hw]; rfl
    clear HR
    go_enter Tryd.func46, Tryd.ntmps46
    go_wp2
    go_ret
    exact ⟨by rw [hF.out]; rfl, by first | exact below_drewN (by repeat' (first | exact hB0 | refine Below.alloc ?_ (by first | omega | (simp; omega) | simp) _ | refine Below.setCell ?_ (by first | omega | (simp; omega) | simp) _)) | (repeat' (first | exact hB0 | refine Below.alloc ?_ (by first | omega | (simp; omega) | simp) _ | refine Below.setCell ?_ (by first | omega | (simp; omega) | simp) _))⟩
  | true =>
    by_cases h1 : 1 ≤ n
    · by_cases h30 : n ≤ 30
      · cases hok : nOk m with
        | false =>
          have hF : Hid (R = false) := by show R = _; rw [HR.out, hok]; simp
          clear HR
          rw [hok] at CG
          go_enter Tryd.func46, Tryd.ntmps46
          go_wp2_with fail
          refine (CG.out _).mono ?_
          rintro e w2 ⟨rfl, rfl⟩
          go_wp2
          go_ret
          exact ⟨by rw [hF.out]; rfl, by first | exact below_drewN (by repeat' (first | exact hB0 | refine Below.alloc ?_ (by first | omega | (simp; omega) | simp) _ | refine Below.setCell ?_ (by first | omega | (simp; omega) | simp) _)) | exact (show Below _ _ _ by repeat' (first | exact hB0 | refine Below.alloc ?_ (by first | omega | (simp; omega) | simp) _ | refine Below.setCell ?_ (by first | omega | (simp; omega) | simp) _)).drew | (repeat' (first | exact hB0 | refine Below.alloc ?_ (by first | omega | (simp; omega) | simp) _ | refine Below.setCell ?_ (by first | omega | (simp; omega) | simp) _))⟩
        | true =>
          by_cases h4 : t.size ≤ 30
          · have h4' : (t.size : Int) ≤ 30 := by omega
            have hF : Hid (R = true) := by show R = _; rw [HR.out, hok, hw]; simp [h1, h30, h4]
            clear HR h4
            rw [hok] at CG
            go_enter Tryd.func46, Tryd.ntmps46
            go_wp2_with fail
            refine (CG.out _).mono ?_
            rintro e w2 ⟨rfl, rfl⟩
            go_wp2
            go_ret
            exact ⟨by rw [hF.out]; rfl, by first | exact below_drewN (by repeat' (first | exact hB0 | refine Below.alloc ?_ (by first | omega | (simp; omega) | simp) _ | refine Below.setCell ?_ (by first | omega | (simp; omega) | simp) _)) | exact (show Below _ _ _ by repeat' (first | exact hB0 | refine Below.alloc ?_ (by first | omega | (simp; omega) | simp) _ | refine Below.setCell ?_ (by first | omega | (simp; omega) | simp) _)).drew | (repeat' (first | exact hB0 | refine Below.alloc ?_ (by first | omega | (simp; omega) | simp) _ | refine Below.setCell ?_ (by first | omega | (simp; omega) | simp) _))⟩
          · have h4' : decide ((t.size : Int) ≤ 30) = false := by simp; omega
            have hF : Hid (R = false) := by show R = _; rw [HR.out]; simp [h4]
            clear HR h4
            rw [hok] at CG
            go_enter Tryd.func46, Tryd.ntmps46
            go_wp2_with fail
            refine (CG.out _).mono ?_
            rintro e w2 ⟨rfl, rfl⟩
            go_wp2
            go_ret
            exact ⟨by rw [hF.out]; rfl, by first | exact below_drewN (by repeat' (first | exact hB0 | refine Below.alloc ?_ (by first | omega | (simp; omega) | simp) _ | refine Below.setCell ?_ (by first | omega | (simp; omega) | simp) _)) | exact (show Below _ _ _ by repeat' (first | exact hB0 | refine Below.alloc ?_ (by first | omega | (simp; omega) | simp) _ | refine Below.setCell ?_ (by first | omega | (simp; omega) | simp) _)).drew | (repeat' (first | exact hB0 | refine Below.alloc ?_ (by first | omega | (simp; omega) | simp) _ | refine Below.setCell ?_ (by first | omega | (simp; omega) | simp) _))⟩
      · have h30' : decide (n ≤ 30) = false := by simpa using h30
        have hF : Hid (R = false) := by show R = _; rw [HR.out]; simp [h30]
        clear HR h30
        go_enter Tryd.func46, Tryd.ntmps46
        go_wp2
        go_ret
        exact ⟨by rw [hF.out]; rfl, by first | exact below_drewN (by repeat' (first | exact hB0 | refine Below.alloc ?_ (by first | omega | (simp; omega) | simp) _ | refine Below.setCell ?_ (by first | omega | (simp; omega) | simp) _)) | (repeat' (first | exact hB0 | refine Below.alloc ?_ (by first | omega | (simp; omega) | simp) _ | refine Below.setCell ?_ (by first | omega | (simp; omega) | simp) _))⟩
    · have h1' : decide (1 ≤ n) = false := by simpa using h1
      have hF : Hid (R = false) := by show R = _; rw [HR.out, h1']; simp
      clear HR h1
      go_enter Tryd.func46, Tryd.ntmps46
      go_wp2
      go_ret
      exact ⟨by rw [hF.out]; rfl, by first | exact below_drewN (by repeat' (first | exact hB0 | refine Below.alloc ?_ (by first | omega | (simp; omega) | simp) _ | refine Below.setCell ?_ (by first | omega | (simp; omega) | simp) _)) | (repeat' (first | exact hB0 | refine Below.alloc ?_ (by first | omega | (simp; omega) | simp) _ | refine Below.setCell ?_ (by first | omega | (simp; omega) | simp) _))⟩

set_option maxRecDepth 100000 in
set_option maxHeartbeats 4000000 in
theorem goodAsking_ft (k n m : Int) (t : ByteArray) (a b : Int) (p1 p2 : Fn) (q1 r1 q2 r2 : Array Value) (w : World) (hs : t.size ≤ maxLen) :
    Calls Tryd.prog 46 #[.agg #[.int .i64 k, .int .i64 n, .int .i64 m, .string t, .int .i64 a, .int .i64 b], .agg #[.bool false, .bool true, .func p1 q1 r1, .func p2 q2 r2]] w fun e w' => e = .returned (.bool (weq ⟨k, n, m, t, a, b⟩ ⟨k, n, 0, t, 0, 0⟩ && decide (1 ≤ n) && decide (n ≤ 30) && nOk m && decide (t.size ≤ 30))) ∧ Below w.heap.size w w' := by
  have hB0 : Below w.heap.size w w := Below.refl _ w
  have hs' : (t.size : Int) ≤ 9223372036854775807 := by unfold maxLen at hs; omega
  obtain ⟨R, hR⟩ : ∃ R, R = (weq ⟨k, n, m, t, a, b⟩ ⟨k, n, 0, t, 0, 0⟩ && decide (1 ≤ n) && decide (n ≤ 30) && nOk m && decide (t.size ≤ 30)) := ⟨_, rfl⟩
  have HR : Hid (R = (weq ⟨k, n, m, t, a, b⟩ ⟨k, n, 0, t, 0, 0⟩ && decide (1 ≤ n) && decide (n ≤ 30) && nOk m && decide (t.size ≤ 30))) := hR
  rw [← hR]
  clear hR
  have CG : Hid (∀ W : World, Calls Tryd.prog 71 #[.int .i64 m] W fun e w' => e = .returned (.bool (nOk m)) ∧ w' = W) := fun W => goodNumber_w m W
  cases hw : weq ⟨k, n, m, t, a, b⟩ ⟨k, n, 0, t, 0, 0⟩ with
  | false =>
    have hF : Hid (R = false) := by show R = _; rw [HR.out, hw]; rfl
    clear HR
    go_enter Tryd.func46, Tryd.ntmps46
    go_wp2
    go_ret
    exact ⟨by rw [hF.out]; rfl, by first | exact below_drewN (by repeat' (first | exact hB0 | refine Below.alloc ?_ (by first | omega | (simp; omega) | simp) _ | refine Below.setCell ?_ (by first | omega | (simp; omega) | simp) _)) | (repeat' (first | exact hB0 | refine Below.alloc ?_ (by first | omega | (simp; omega) | simp) _ | refine Below.setCell ?_ (by first | omega | (simp; omega) | simp) _))⟩
  | true =>
    by_cases h1 : 1 ≤ n
    · by_cases h30 : n ≤ 30
      · cases hok : nOk m with
        | false =>
          have hF : Hid (R = false) := by show R = _; rw [HR.out, hok]; simp
          clear HR
          rw [hok] at CG
          go_enter Tryd.func46, Tryd.ntmps46
          go_wp2_with fail
          refine (CG.out _).mono ?_
          rintro e w2 ⟨rfl, rfl⟩
          go_wp2
          go_ret
          exact ⟨by rw [hF.out]; rfl, by first | exact below_drewN (by repeat' (first | exact hB0 | refine Below.alloc ?_ (by first | omega | (simp; omega) | simp) _ | refine Below.setCell ?_ (by first | omega | (simp; omega) | simp) _)) | exact (show Below _ _ _ by repeat' (first | exact hB0 | refine Below.alloc ?_ (by first | omega | (simp; omega) | simp) _ | refine Below.setCell ?_ (by first | omega | (simp; omega) | simp) _)).drew | (repeat' (first | exact hB0 | refine Below.alloc ?_ (by first | omega | (simp; omega) | simp) _ | refine Below.setCell ?_ (by first | omega | (simp; omega) | simp) _))⟩
        | true =>
          by_cases h4 : t.size ≤ 30
          · have h4' : (t.size : Int) ≤ 30 := by omega
            have hF : Hid (R = true) := by show R = _; rw [HR.out, hok, hw]; simp [h1, h30, h4]
            clear HR h4
            rw [hok] at CG
            go_enter Tryd.func46, Tryd.ntmps46
            go_wp2_with fail
            refine (CG.out _).mono ?_
            rintro e w2 ⟨rfl, rfl⟩
            go_wp2
            go_ret
            exact ⟨by rw [hF.out]; rfl, by first | exact below_drewN (by repeat' (first | exact hB0 | refine Below.alloc ?_ (by first | omega | (simp; omega) | simp) _ | refine Below.setCell ?_ (by first | omega | (simp; omega) | simp) _)) | exact (show Below _ _ _ by repeat' (first | exact hB0 | refine Below.alloc ?_ (by first | omega | (simp; omega) | simp) _ | refine Below.setCell ?_ (by first | omega | (simp; omega) | simp) _)).drew | (repeat' (first | exact hB0 | refine Below.alloc ?_ (by first | omega | (simp; omega) | simp) _ | refine Below.setCell ?_ (by first | omega | (simp; omega) | simp) _))⟩
          · have h4' : decide ((t.size : Int) ≤ 30) = false := by simp; omega
            have hF : Hid (R = false) := by show R = _; rw [HR.out]; simp [h4]
            clear HR h4
            rw [hok] at CG
            go_enter Tryd.func46, Tryd.ntmps46
            go_wp2_with fail
            refine (CG.out _).mono ?_
            rintro e w2 ⟨rfl, rfl⟩
            go_wp2
            go_ret
            exact ⟨by rw [hF.out]; rfl, by first | exact below_drewN (by repeat' (first | exact hB0 | refine Below.alloc ?_ (by first | omega | (simp; omega) | simp) _ | refine Below.setCell ?_ (by first | omega | (simp; omega) | simp) _)) | exact (show Below _ _ _ by repeat' (first | exact hB0 | refine Below.alloc ?_ (by first | omega | (simp; omega) | simp) _ | refine Below.setCell ?_ (by first | omega | (simp; omega) | simp) _)).drew | (repeat' (first | exact hB0 | refine Below.alloc ?_ (by first | omega | (simp; omega) | simp) _ | refine Below.setCell ?_ (by first | omega | (simp; omega) | simp) _))⟩
      · have h30' : decide (n ≤ 30) = false := by simpa using h30
        have hF : Hid (R = false) := by show R = _; rw [HR.out]; simp [h30]
        clear HR h30
        go_enter Tryd.func46, Tryd.ntmps46
        go_wp2
        go_ret
        exact ⟨by rw [hF.out]; rfl, by first | exact below_drewN (by repeat' (first | exact hB0 | refine Below.alloc ?_ (by first | omega | (simp; omega) | simp) _ | refine Below.setCell ?_ (by first | omega | (simp; omega) | simp) _)) | (repeat' (first | exact hB0 | refine Below.alloc ?_ (by first | omega | (simp; omega) | simp) _ | refine Below.setCell ?_ (by first | omega | (simp; omega) | simp) _))⟩
    · have h1' : decide (1 ≤ n) = false := by simpa using h1
      have hF : Hid (R = false) := by show R = _; rw [HR.out, h1']; simp
      clear HR h1
      go_enter Tryd.func46, Tryd.ntmps46
      go_wp2
      go_ret
      exact ⟨by rw [hF.out]; rfl, by first | exact below_drewN (by repeat' (first | exact hB0 | refine Below.alloc ?_ (by first | omega | (simp; omega) | simp) _ | refine Below.setCell ?_ (by first | omega | (simp; omega) | simp) _)) | (repeat' (first | exact hB0 | refine Below.alloc ?_ (by first | omega | (simp; omega) | simp) _ | refine Below.setCell ?_ (by first | omega | (simp; omega) | simp) _))⟩

end Go.Proofs.YtbbhldnedfgjnaaDoor
