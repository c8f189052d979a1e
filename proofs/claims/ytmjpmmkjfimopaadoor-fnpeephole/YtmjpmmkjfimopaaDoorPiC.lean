/- The program's goodInstr. -/
import Derived.Test.YtmjpmmkjfimopaaDoorPiB
import Derived.Test.YtmjpmmkjfimopaaDoorWfE
import Derived.BigQuiet
namespace Go.Proofs.YtmjpmmkjfimopaaDoor
open Go.RowKit Plain Sch Wan Prg

attribute [local go_sem ↓] eqlI

theorem ieqF {x y : Ins} (h : ieq x y = false) : (x = y) = False := by simpa [ieq] using h
theorem ieqT {x y : Ins} (h : ieq x y = true) : (x = y) = True := by simpa [ieq] using h

set_option maxRecDepth 100000 in
set_option maxHeartbeats 4000000 in
theorem goodInstr_seek (k o m : Int) (t : ByteArray) (jt : Int) (i : Nat) (last : Int) (w : World) :
    Calls Tryd.prog 29 #[.agg #[.int .i64 1, .int .i64 k, .int .i64 o, .int .i64 m, .string t, .int .i64 jt], .int .i64 i, .int .i64 last] w fun e w' => e = .returned (.bool (okI ⟨1, k, o, m, t, jt⟩ i last)) ∧ Below w.heap.size w w' := by
  have hB0 : Below w.heap.size w w := Below.refl _ w
  obtain ⟨R, hR⟩ : ∃ R, R = okI ⟨1, k, o, m, t, jt⟩ i last := ⟨_, rfl⟩
  have HR : Hid (R = okI ⟨1, k, o, m, t, jt⟩ i last) := hR
  rw [← hR]
  clear hR
  by_cases h1 : 1 ≤ o
  · by_cases h2 : o ≤ 30
    · cases hq : ieq ⟨1, k, o, m, t, jt⟩ ⟨1, 0, o, 0, ⟨#[]⟩, 0⟩ with
      | false =>
        have hF : Hid (R = false) := by show R = _; rw [HR.out]; unfold okI; dsimp only; rw [if_pos rfl]; rw [show decide (_ = _) = false from hq]; simp
        clear HR 
        go_enter Tryd.func29, Tryd.ntmps29
        go_wp2
        go_ret
        exact ⟨by rw [hF.out]; rfl, by first | exact below_drewN (by repeat' (first | exact hB0 | refine Below.alloc ?_ (by first | omega | (simp; omega) | simp) _ | refine Below.setCell ?_ (by first | omega | (simp; omega) | simp) _)) | exact (show Below _ _ _ by repeat' (first | exact hB0 | refine Below.alloc ?_ (by first | omega | (simp; omega) | simp) _ | refine Below.setCell ?_ (by first | omega | (simp; omega) | simp) _)).drew | (repeat' (first | exact hB0 | refine Below.alloc ?_ (by first | omega | (simp; omega) | simp) _ | refine Below.setCell ?_ (by first | omega | (simp; omega) | simp) _))⟩
      | true =>
        have hF : Hid (R = true) := by show R = _; rw [HR.out]; unfold okI; dsimp only; rw [if_pos rfl]; rw [show decide (_ = _) = true from hq]; simp [h1, h2]
        clear HR 
        go_enter Tryd.func29, Tryd.ntmps29
        go_wp2
        go_ret
        exact ⟨by rw [hF.out]; rfl, by first | exact below_drewN (by repeat' (first | exact hB0 | refine Below.alloc ?_ (by first | omega | (simp; omega) | simp) _ | refine Below.setCell ?_ (by first | omega | (simp; omega) | simp) _)) | exact (show Below _ _ _ by repeat' (first | exact hB0 | refine Below.alloc ?_ (by first | omega | (simp; omega) | simp) _ | refine Below.setCell ?_ (by first | omega | (simp; omega) | simp) _)).drew | (repeat' (first | exact hB0 | refine Below.alloc ?_ (by first | omega | (simp; omega) | simp) _ | refine Below.setCell ?_ (by first | omega | (simp; omega) | simp) _))⟩
    · have h2' : decide (o ≤ 30) = false := by simpa using h2
      have hF : Hid (R = false) := by show R = _; rw [HR.out]; unfold okI; dsimp only; rw [if_pos rfl]; simp [h2]
      clear HR h2
      go_enter Tryd.func29, Tryd.ntmps29
      go_wp2
      go_ret
      exact ⟨by rw [hF.out]; rfl, by first | exact below_drewN (by repeat' (first | exact hB0 | refine Below.alloc ?_ (by first | omega | (simp; omega) | simp) _ | refine Below.setCell ?_ (by first | omega | (simp; omega) | simp) _)) | exact (show Below _ _ _ by repeat' (first | exact hB0 | refine Below.alloc ?_ (by first | omega | (simp; omega) | simp) _ | refine Below.setCell ?_ (by first | omega | (simp; omega) | simp) _)).drew | (repeat' (first | exact hB0 | refine Below.alloc ?_ (by first | omega | (simp; omega) | simp) _ | refine Below.setCell ?_ (by first | omega | (simp; omega) | simp) _))⟩
  · have h1' : decide (1 ≤ o) = false := by simpa using h1
    have hF : Hid (R = false) := by show R = _; rw [HR.out]; unfold okI; dsimp only; rw [if_pos rfl]; simp [h1]
    clear HR h1
    go_enter Tryd.func29, Tryd.ntmps29
    go_wp2
    go_ret
    exact ⟨by rw [hF.out]; rfl, by first | exact below_drewN (by repeat' (first | exact hB0 | refine Below.alloc ?_ (by first | omega | (simp; omega) | simp) _ | refine Below.setCell ?_ (by first | omega | (simp; omega) | simp) _)) | exact (show Below _ _ _ by repeat' (first | exact hB0 | refine Below.alloc ?_ (by first | omega | (simp; omega) | simp) _ | refine Below.setCell ?_ (by first | omega | (simp; omega) | simp) _)).drew | (repeat' (first | exact hB0 | refine Below.alloc ?_ (by first | omega | (simp; omega) | simp) _ | refine Below.setCell ?_ (by first | omega | (simp; omega) | simp) _))⟩

set_option maxRecDepth 100000 in
set_option maxHeartbeats 4000000 in
theorem goodInstr_jump (k o m : Int) (t : ByteArray) (jt : Int) (i : Nat) (last : Int) (w : World) :
    Calls Tryd.prog 29 #[.agg #[.int .i64 3, .int .i64 k, .int .i64 o, .int .i64 m, .string t, .int .i64 jt], .int .i64 i, .int .i64 last] w fun e w' => e = .returned (.bool (okI ⟨3, k, o, m, t, jt⟩ i last)) ∧ Below w.heap.size w w' := by
  have hB0 : Below w.heap.size w w := Below.refl _ w
  obtain ⟨R, hR⟩ : ∃ R, R = okI ⟨3, k, o, m, t, jt⟩ i last := ⟨_, rfl⟩
  have HR : Hid (R = okI ⟨3, k, o, m, t, jt⟩ i last) := hR
  rw [← hR]
  clear hR
  have core : ∀ (hm : m = 0 ∨ m = 1), Calls Tryd.prog 29 #[.agg #[.int .i64 3, .int .i64 k, .int .i64 o, .int .i64 m, .string t, .int .i64 jt], .int .i64 i, .int .i64 last] w fun e w' => e = .returned (.bool R) ∧ Below w.heap.size w w' := by
    intro hm
    rcases hm with rfl | rfl
    · by_cases h1 : (i : Int) < jt
      · by_cases h2 : jt ≤ last
        · cases hq : ieq ⟨3, k, o, 0, t, jt⟩ ⟨3, 0, 0, 0, ⟨#[]⟩, jt⟩ with
          | false =>
            have hF : Hid (R = false) := by show R = _; rw [HR.out]; unfold okI; dsimp only; rw [if_neg (by decide), if_neg (by decide), if_pos rfl]; rw [show decide (_ = _) = false from hq]; simp
            clear HR 
            go_enter Tryd.func29, Tryd.ntmps29
            go_wp2
            go_region
            go_wp2
            go_ret
            exact ⟨by rw [hF.out]; rfl, by first | exact below_drewN (by repeat' (first | exact hB0 | refine Below.alloc ?_ (by first | omega | (simp; omega) | simp) _ | refine Below.setCell ?_ (by first | omega | (simp; omega) | simp) _)) | exact (show Below _ _ _ by repeat' (first | exact hB0 | refine Below.alloc ?_ (by first | omega | (simp; omega) | simp) _ | refine Below.setCell ?_ (by first | omega | (simp; omega) | simp) _)).drew | (repeat' (first | exact hB0 | refine Below.alloc ?_ (by first | omega | (simp; omega) | simp) _ | refine Below.setCell ?_ (by first | omega | (simp; omega) | simp) _))⟩
          | true =>
            have hF : Hid (R = true) := by show R = _; rw [HR.out]; unfold okI; dsimp only; rw [if_neg (by decide), if_neg (by decide), if_pos rfl]; rw [show decide (_ = _) = true from hq]; simp [h1, h2]
            clear HR 
            go_enter Tryd.func29, Tryd.ntmps29
            go_wp2
            go_region
            go_wp2
            go_ret
            exact ⟨by rw [hF.out]; rfl, by first | exact below_drewN (by repeat' (first | exact hB0 | refine Below.alloc ?_ (by first | omega | (simp; omega) | simp) _ | refine Below.setCell ?_ (by first | omega | (simp; omega) | simp) _)) | exact (show Below _ _ _ by repeat' (first | exact hB0 | refine Below.alloc ?_ (by first | omega | (simp; omega) | simp) _ | refine Below.setCell ?_ (by first | omega | (simp; omega) | simp) _)).drew | (repeat' (first | exact hB0 | refine Below.alloc ?_ (by first | omega | (simp; omega) | simp) _ | refine Below.setCell ?_ (by first | omega | (simp; omega) | simp) _))⟩
        · have h2' : decide (jt ≤ last) = false := by simpa using h2
          have hF : Hid (R = false) := by show R = _; rw [HR.out]; unfold okI; dsimp only; rw [if_neg (by decide), if_neg (by decide), if_pos rfl]; simp [h2]
          clear HR h2
          go_enter Tryd.func29, Tryd.ntmps29
          go_wp2
          go_region
          go_wp2
          go_ret
          exact ⟨by rw [hF.out]; rfl, by first | exact below_drewN (by repeat' (first | exact hB0 | refine Below.alloc ?_ (by first | omega | (simp; omega) | simp) _ | refine Below.setCell ?_ (by first | omega | (simp; omega) | simp) _)) | exact (show Below _ _ _ by repeat' (first | exact hB0 | refine Below.alloc ?_ (by first | omega | (simp; omega) | simp) _ | refine Below.setCell ?_ (by first | omega | (simp; omega) | simp) _)).drew | (repeat' (first | exact hB0 | refine Below.alloc ?_ (by first | omega | (simp; omega) | simp) _ | refine Below.setCell ?_ (by first | omega | (simp; omega) | simp) _))⟩
      · have h1' : decide ((i : Int) < jt) = false := by simpa using h1
        have hF : Hid (R = false) := by show R = _; rw [HR.out]; unfold okI; dsimp only; rw [if_neg (by decide), if_neg (by decide), if_pos rfl]; simp [h1]
        clear HR h1
        go_enter Tryd.func29, Tryd.ntmps29
        go_wp2
        go_region
        go_wp2
        go_ret
        exact ⟨by rw [hF.out]; rfl, by first | exact below_drewN (by repeat' (first | exact hB0 | refine Below.alloc ?_ (by first | omega | (simp; omega) | simp) _ | refine Below.setCell ?_ (by first | omega | (simp; omega) | simp) _)) | exact (show Below _ _ _ by repeat' (first | exact hB0 | refine Below.alloc ?_ (by first | omega | (simp; omega) | simp) _ | refine Below.setCell ?_ (by first | omega | (simp; omega) | simp) _)).drew | (repeat' (first | exact hB0 | refine Below.alloc ?_ (by first | omega | (simp; omega) | simp) _ | refine Below.setCell ?_ (by first | omega | (simp; omega) | simp) _))⟩
    · by_cases h1 : (i : Int) < jt
      · by_cases h2 : jt ≤ last
        · cases hq : ieq ⟨3, k, o, 1, t, jt⟩ ⟨3, 0, 0, 1, ⟨#[]⟩, jt⟩ with
          | false =>
            have hF : Hid (R = false) := by show R = _; rw [HR.out]; unfold okI; dsimp only; rw [if_neg (by decide), if_neg (by decide), if_pos rfl]; rw [show decide (_ = _) = false from hq]; simp
            clear HR 
            go_enter Tryd.func29, Tryd.ntmps29
            go_wp2
            go_region
            go_wp2
            go_ret
            exact ⟨by rw [hF.out]; rfl, by first | exact below_drewN (by repeat' (first | exact hB0 | refine Below.alloc ?_ (by first | omega | (simp; omega) | simp) _ | refine Below.setCell ?_ (by first | omega | (simp; omega) | simp) _)) | exact (show Below _ _ _ by repeat' (first | exact hB0 | refine Below.alloc ?_ (by first | omega | (simp; omega) | simp) _ | refine Below.setCell ?_ (by first | omega | (simp; omega) | simp) _)).drew | (repeat' (first | exact hB0 | refine Below.alloc ?_ (by first | omega | (simp; omega) | simp) _ | refine Below.setCell ?_ (by first | omega | (simp; omega) | simp) _))⟩
          | true =>
            have hF : Hid (R = true) := by show R = _; rw [HR.out]; unfold okI; dsimp only; rw [if_neg (by decide), if_neg (by decide), if_pos rfl]; rw [show decide (_ = _) = true from hq]; simp [h1, h2]
            clear HR 
            go_enter Tryd.func29, Tryd.ntmps29
            go_wp2
            go_region
            go_wp2
            go_ret
            exact ⟨by rw [hF.out]; rfl, by first | exact below_drewN (by repeat' (first | exact hB0 | refine Below.alloc ?_ (by first | omega | (simp; omega) | simp) _ | refine Below.setCell ?_ (by first | omega | (simp; omega) | simp) _)) | exact (show Below _ _ _ by repeat' (first | exact hB0 | refine Below.alloc ?_ (by first | omega | (simp; omega) | simp) _ | refine Below.setCell ?_ (by first | omega | (simp; omega) | simp) _)).drew | (repeat' (first | exact hB0 | refine Below.alloc ?_ (by first | omega | (simp; omega) | simp) _ | refine Below.setCell ?_ (by first | omega | (simp; omega) | simp) _))⟩
        · have h2' : decide (jt ≤ last) = false := by simpa using h2
          have hF : Hid (R = false) := by show R = _; rw [HR.out]; unfold okI; dsimp only; rw [if_neg (by decide), if_neg (by decide), if_pos rfl]; simp [h2]
          clear HR h2
          go_enter Tryd.func29, Tryd.ntmps29
          go_wp2
          go_region
          go_wp2
          go_ret
          exact ⟨by rw [hF.out]; rfl, by first | exact below_drewN (by repeat' (first | exact hB0 | refine Below.alloc ?_ (by first | omega | (simp; omega) | simp) _ | refine Below.setCell ?_ (by first | omega | (simp; omega) | simp) _)) | exact (show Below _ _ _ by repeat' (first | exact hB0 | refine Below.alloc ?_ (by first | omega | (simp; omega) | simp) _ | refine Below.setCell ?_ (by first | omega | (simp; omega) | simp) _)).drew | (repeat' (first | exact hB0 | refine Below.alloc ?_ (by first | omega | (simp; omega) | simp) _ | refine Below.setCell ?_ (by first | omega | (simp; omega) | simp) _))⟩
      · have h1' : decide ((i : Int) < jt) = false := by simpa using h1
        have hF : Hid (R = false) := by show R = _; rw [HR.out]; unfold okI; dsimp only; rw [if_neg (by decide), if_neg (by decide), if_pos rfl]; simp [h1]
        clear HR h1
        go_enter Tryd.func29, Tryd.ntmps29
        go_wp2
        go_region
        go_wp2
        go_ret
        exact ⟨by rw [hF.out]; rfl, by first | exact below_drewN (by repeat' (first | exact hB0 | refine Below.alloc ?_ (by first | omega | (simp; omega) | simp) _ | refine Below.setCell ?_ (by first | omega | (simp; omega) | simp) _)) | exact (show Below _ _ _ by repeat' (first | exact hB0 | refine Below.alloc ?_ (by first | omega | (simp; omega) | simp) _ | refine Below.setCell ?_ (by first | omega | (simp; omega) | simp) _)).drew | (repeat' (first | exact hB0 | refine Below.alloc ?_ (by first | omega | (simp; omega) | simp) _ | refine Below.setCell ?_ (by first | omega | (simp; omega) | simp) _))⟩
  by_cases h0 : m = 0
  · exact core (.inl h0)
  · by_cases h1 : m = 1
    · exact core (.inr h1)
    · clear core
      have h0' : (m == 0) = false := by simp [h0]
      have h1' : (m == 1) = false := by simp [h1]
      have hF : Hid (R = false) := by show R = _; rw [HR.out]; unfold okI; dsimp only; rw [if_neg (by decide), if_neg (by decide), if_pos rfl]; simp [h0, h1]
      clear HR h0 h1
      go_enter Tryd.func29, Tryd.ntmps29
      go_wp2
      go_region
      go_wp2
      go_ret
      exact ⟨by rw [hF.out]; rfl, by first | exact below_drewN (by repeat' (first | exact hB0 | refine Below.alloc ?_ (by first | omega | (simp; omega) | simp) _ | refine Below.setCell ?_ (by first | omega | (simp; omega) | simp) _)) | exact (show Below _ _ _ by repeat' (first | exact hB0 | refine Below.alloc ?_ (by first | omega | (simp; omega) | simp) _ | refine Below.setCell ?_ (by first | omega | (simp; omega) | simp) _)).drew | (repeat' (first | exact hB0 | refine Below.alloc ?_ (by first | omega | (simp; omega) | simp) _ | refine Below.setCell ?_ (by first | omega | (simp; omega) | simp) _))⟩

set_option maxRecDepth 100000 in
set_option maxHeartbeats 4000000 in
theorem goodInstr_flip (k o m : Int) (t : ByteArray) (jt : Int) (i : Nat) (last : Int) (w : World) :
    Calls Tryd.prog 29 #[.agg #[.int .i64 4, .int .i64 k, .int .i64 o, .int .i64 m, .string t, .int .i64 jt], .int .i64 i, .int .i64 last] w fun e w' => e = .returned (.bool (okI ⟨4, k, o, m, t, jt⟩ i last)) ∧ Below w.heap.size w w' := by
  have hB0 : Below w.heap.size w w := Below.refl _ w
  obtain ⟨R, hR⟩ : ∃ R, R = okI ⟨4, k, o, m, t, jt⟩ i last := ⟨_, rfl⟩
  have HR : Hid (R = okI ⟨4, k, o, m, t, jt⟩ i last) := hR
  rw [← hR]
  clear hR
  cases hq : ieq ⟨4, k, o, m, t, jt⟩ ⟨4, 0, 0, 0, ⟨#[]⟩, 0⟩ with
  | false =>
    have hF : Hid (R = false) := by show R = _; rw [HR.out]; unfold okI; dsimp only; rw [if_neg (by decide), if_neg (by decide), if_neg (by decide), if_pos (by decide)]; rw [show decide (_ = _) = false from hq]
    clear HR 
    go_enter Tryd.func29, Tryd.ntmps29
    go_wp2
    go_ret
    exact ⟨by rw [hF.out]; rfl, by first | exact below_drewN (by repeat' (first | exact hB0 | refine Below.alloc ?_ (by first | omega | (simp; omega) | simp) _ | refine Below.setCell ?_ (by first | omega | (simp; omega) | simp) _)) | exact (show Below _ _ _ by repeat' (first | exact hB0 | refine Below.alloc ?_ (by first | omega | (simp; omega) | simp) _ | refine Below.setCell ?_ (by first | omega | (simp; omega) | simp) _)).drew | (repeat' (first | exact hB0 | refine Below.alloc ?_ (by first | omega | (simp; omega) | simp) _ | refine Below.setCell ?_ (by first | omega | (simp; omega) | simp) _))⟩
  | true =>
    have hF : Hid (R = true) := by show R = _; rw [HR.out]; unfold okI; dsimp only; rw [if_neg (by decide), if_neg (by decide), if_neg (by decide), if_pos (by decide)]; rw [show decide (_ = _) = true from hq]
    clear HR 
    go_enter Tryd.func29, Tryd.ntmps29
    go_wp2
    go_ret
    exact ⟨by rw [hF.out]; rfl, by first | exact below_drewN (by repeat' (first | exact hB0 | refine Below.alloc ?_ (by first | omega | (simp; omega) | simp) _ | refine Below.setCell ?_ (by first | omega | (simp; omega) | simp) _)) | exact (show Below _ _ _ by repeat' (first | exact hB0 | refine Below.alloc ?_ (by first | omega | (simp; omega) | simp) _ | refine Below.setCell ?_ (by first | omega | (simp; omega) | simp) _)).drew | (repeat' (first | exact hB0 | refine Below.alloc ?_ (by first | omega | (simp; omega) | simp) _ | refine Below.setCell ?_ (by first | omega | (simp; omega) | simp) _))⟩

set_option maxRecDepth 100000 in
set_option maxHeartbeats 4000000 in
theorem goodInstr_end (k o m : Int) (t : ByteArray) (jt : Int) (i : Nat) (last : Int) (w : World) :
    Calls Tryd.prog 29 #[.agg #[.int .i64 5, .int .i64 k, .int .i64 o, .int .i64 m, .string t, .int .i64 jt], .int .i64 i, .int .i64 last] w fun e w' => e = .returned (.bool (okI ⟨5, k, o, m, t, jt⟩ i last)) ∧ Below w.heap.size w w' := by
  have hB0 : Below w.heap.size w w := Below.refl _ w
  obtain ⟨R, hR⟩ : ∃ R, R = okI ⟨5, k, o, m, t, jt⟩ i last := ⟨_, rfl⟩
  have HR : Hid (R = okI ⟨5, k, o, m, t, jt⟩ i last) := hR
  rw [← hR]
  clear hR
  cases hq : ieq ⟨5, k, o, m, t, jt⟩ ⟨5, 0, 0, 0, ⟨#[]⟩, 0⟩ with
  | false =>
    have hF : Hid (R = false) := by show R = _; rw [HR.out]; unfold okI; dsimp only; rw [if_neg (by decide), if_neg (by decide), if_neg (by decide), if_pos (by decide)]; rw [show decide (_ = _) = false from hq]
    clear HR 
    go_enter Tryd.func29, Tryd.ntmps29
    go_wp2
    go_ret
    exact ⟨by rw [hF.out]; rfl, by first | exact below_drewN (by repeat' (first | exact hB0 | refine Below.alloc ?_ (by first | omega | (simp; omega) | simp) _ | refine Below.setCell ?_ (by first | omega | (simp; omega) | simp) _)) | exact (show Below _ _ _ by repeat' (first | exact hB0 | refine Below.alloc ?_ (by first | omega | (simp; omega) | simp) _ | refine Below.setCell ?_ (by first | omega | (simp; omega) | simp) _)).drew | (repeat' (first | exact hB0 | refine Below.alloc ?_ (by first | omega | (simp; omega) | simp) _ | refine Below.setCell ?_ (by first | omega | (simp; omega) | simp) _))⟩
  | true =>
    have hF : Hid (R = true) := by show R = _; rw [HR.out]; unfold okI; dsimp only; rw [if_neg (by decide), if_neg (by decide), if_neg (by decide), if_pos (by decide)]; rw [show decide (_ = _) = true from hq]
    clear HR 
    go_enter Tryd.func29, Tryd.ntmps29
    go_wp2
    go_ret
    exact ⟨by rw [hF.out]; rfl, by first | exact below_drewN (by repeat' (first | exact hB0 | refine Below.alloc ?_ (by first | omega | (simp; omega) | simp) _ | refine Below.setCell ?_ (by first | omega | (simp; omega) | simp) _)) | exact (show Below _ _ _ by repeat' (first | exact hB0 | refine Below.alloc ?_ (by first | omega | (simp; omega) | simp) _ | refine Below.setCell ?_ (by first | omega | (simp; omega) | simp) _)).drew | (repeat' (first | exact hB0 | refine Below.alloc ?_ (by first | omega | (simp; omega) | simp) _ | refine Below.setCell ?_ (by first | omega | (simp; omega) | simp) _))⟩

set_option maxRecDepth 100000 in
set_option maxHeartbeats 4000000 in
theorem goodInstr_none (c k o m : Int) (t : ByteArray) (jt : Int) (i : Nat) (last : Int) (w : World) (h1 : ¬ c = 1) (h2 : ¬ c = 2) (h3 : ¬ c = 3) (h4 : ¬ c = 4) (h5 : ¬ c = 5) :
    Calls Tryd.prog 29 #[.agg #[.int .i64 c, .int .i64 k, .int .i64 o, .int .i64 m, .string t, .int .i64 jt], .int .i64 i, .int .i64 last] w fun e w' => e = .returned (.bool (okI ⟨c, k, o, m, t, jt⟩ i last)) ∧ Below w.heap.size w w' := by
  have hB0 : Below w.heap.size w w := Below.refl _ w
  obtain ⟨R, hR⟩ : ∃ R, R = okI ⟨c, k, o, m, t, jt⟩ i last := ⟨_, rfl⟩
  have HR : Hid (R = okI ⟨c, k, o, m, t, jt⟩ i last) := hR
  rw [← hR]
  clear hR
  have d1 : (c == 1) = false := by simp [h1]
  have d2 : (c == 2) = false := by simp [h2]
  have d3 : (c == 3) = false := by simp [h3]
  have d4 : (c == 4) = false := by simp [h4]
  have d5 : (c == 5) = false := by simp [h5]
  have hF : Hid (R = false) := by show R = _; rw [HR.out]; unfold okI; dsimp only; rw [if_neg h1, if_neg h2, if_neg h3, if_neg (by omega)]
  clear HR h1 h2 h3 h4 h5
  go_enter Tryd.func29, Tryd.ntmps29
  go_wp2
  go_ret
  exact ⟨by rw [hF.out]; rfl, by first | exact below_drewN (by repeat' (first | exact hB0 | refine Below.alloc ?_ (by first | omega | (simp; omega) | simp) _ | refine Below.setCell ?_ (by first | omega | (simp; omega) | simp) _)) | exact (show Below _ _ _ by repeat' (first | exact hB0 | refine Below.alloc ?_ (by first | omega | (simp; omega) | simp) _ | refine Below.setCell ?_ (by first | omega | (simp; omega) | simp) _)).drew | (repeat' (first | exact hB0 | refine Below.alloc ?_ (by first | omega | (simp; omega) | simp) _ | refine Below.setCell ?_ (by first | omega | (simp; omega) | simp) _))⟩

set_option maxRecDepth 100000 in
set_option maxHeartbeats 4000000 in
theorem goodInstr_test (k o m : Int) (t : ByteArray) (jt : Int) (i : Nat) (last : Int) (w : World) (hs : t.size ≤ maxLen) :
    Calls Tryd.prog 29 #[.agg #[.int .i64 2, .int .i64 k, .int .i64 o, .int .i64 m, .string t, .int .i64 jt], .int .i64 i, .int .i64 last] w fun e w' => e = .returned (.bool (okI ⟨2, k, o, m, t, jt⟩ i last)) ∧ Below w.heap.size w w' := by
  have hB0 : Below w.heap.size w w := Below.refl _ w
  obtain ⟨R, hR⟩ : ∃ R, R = okI ⟨2, k, o, m, t, jt⟩ i last := ⟨_, rfl⟩
  have HR : Hid (R = okI ⟨2, k, o, m, t, jt⟩ i last) := hR
  rw [← hR]
  clear hR
  have hB1 : ∀ o1 o2, Below w.heap.size w ((w.alloc o1).alloc o2) := fun o1 o2 => ((Below.refl _ w).alloc (Nat.le_refl _) o1).alloc (by simp) o2
  have CA : Hid (∀ (p1 p2 : Fn) (q1 r1 q2 r2 : Array Value) (W : World), Calls Tryd.prog 58 #[.int .i64 m, .string t, .agg #[.bool (askN k), .bool (askT k), .func p1 q1 r1, .func p2 q2 r2]] W fun e w' => e = .returned (.bool (askedOk (askN k) (askT k) m t)) ∧ Below W.heap.size W w') := fun p1 p2 q1 r1 q2 r2 W => goodAsked_any (askN k) (askT k) m t p1 p2 q1 r1 q2 r2 W hs
  have hF0 : Hid (R = (isAsk k && askedOk (askN k) (askT k) m t && ieq ⟨2, k, o, m, t, jt⟩ ⟨2, k, 0, m, t, 0⟩)) := by show R = _; rw [HR.out]; unfold okI; dsimp only; rw [if_neg (by decide), if_pos rfl]; rfl
  clear HR
  go_enter Tryd.func29, Tryd.ntmps29
  go_wp2
  go_region
  go_wp2_with fail
  refine (fieldAskOf_any k _).mono ?_
  rintro e w1 ⟨v, rfl, hv, hb1⟩
  have hB2 : Below w.heap.size w w1 := (show Below w.heap.size w _ by first | exact below_drewN (by repeat' (first | exact hB0 | refine Below.alloc ?_ (by first | omega | (simp; omega) | simp) _ | refine Below.setCell ?_ (by first | omega | (simp; omega) | simp) _)) _ | exact (show Below _ _ _ by repeat' (first | exact hB0 | refine Below.alloc ?_ (by first | omega | (simp; omega) | simp) _ | refine Below.setCell ?_ (by first | omega | (simp; omega) | simp) _)).drew).trans (hb1.mono (by simp; omega))
  have hs1 : w.heap.size + 1 < w1.heap.size := by have := hb1.size; simp at this; omega
  have hs0 : w.heap.size < w1.heap.size := by omega
  have x0 := (hb1.cell (p := ⟨w.heap.size, 0, none⟩) (by simp; omega)).trans (show _ = some (.int .i64 2) by go_simp)
  have x1 := (hb1.cell (p := ⟨w.heap.size, 1, none⟩) (by simp; omega)).trans (show _ = some (.int .i64 k) by go_simp)
  have x2 := (hb1.cell (p := ⟨w.heap.size, 2, none⟩) (by simp; omega)).trans (show _ = some (.int .i64 o) by go_simp)
  have x3 := (hb1.cell (p := ⟨w.heap.size, 3, none⟩) (by simp; omega)).trans (show _ = some (.int .i64 m) by go_simp)
  have x4 := (hb1.cell (p := ⟨w.heap.size, 4, none⟩) (by simp; omega)).trans (show _ = some (.string t) by go_simp)
  have x5 := (hb1.cell (p := ⟨w.heap.size, 5, none⟩) (by simp; omega)).trans (show _ = some (.int .i64 jt) by go_simp)
  have y0 := (hb1.cell (p := ⟨w.heap.size + 1, 0, none⟩) (by simp)).trans (show _ = some (.int .i64 2) by go_simp)
  have y1 := (hb1.cell (p := ⟨w.heap.size + 1, 1, none⟩) (by simp)).trans (show _ = some (.int .i64 k) by go_simp)
  have y2 := (hb1.cell (p := ⟨w.heap.size + 1, 2, none⟩) (by simp)).trans (show _ = some (.int .i64 0) by go_simp)
  have y3 := (hb1.cell (p := ⟨w.heap.size + 1, 3, none⟩) (by simp)).trans (show _ = some (.int .i64 m) by go_simp)
  have y4 := (hb1.cell (p := ⟨w.heap.size + 1, 4, none⟩) (by simp)).trans (show _ = some (.string t) by go_simp)
  have y5 := (hb1.cell (p := ⟨w.heap.size + 1, 5, none⟩) (by simp)).trans (show _ = some (.int .i64 0) by go_simp)
  clear hb1
  cases hk : isAsk k with
  | true =>
    obtain ⟨p1, q1, r1, e1⟩ := fnF_func hk
    obtain ⟨p2, q2, r2, rfl⟩ := hv.func hk
    have CA2 : Hid (∀ (W : World), Calls Tryd.prog 58 #[.int .i64 m, .string t, .agg #[.bool (askN k), .bool (askT k), .func p1 q1 r1, .func p2 q2 r2]] W fun e w' => e = .returned (.bool (askedOk (askN k) (askT k) m t)) ∧ Below W.heap.size W w') := fun W => CA.out p1 p2 q1 r1 q2 r2 W
    rw [hk] at hF0
    rw [e1]
    clear e1 hv CA hk
    generalize askedOk (askN k) (askT k) m t = ok at *
    generalize askN k = b1 at *
    generalize askT k = b2 at *
    obtain ⟨W2, hW2⟩ : ∃ W, W = w1.alloc (.cells #[.bool b1, .bool b2, .func p1 q1 r1, .func p2 q2 r2] 107) := ⟨_, rfl⟩
    have hB3 : Below w1.heap.size w1 W2 := by rw [hW2]; exact (Below.refl _ w1).alloc (Nat.le_refl _) _
    go_wp2_with fail
    rw [← hW2]
    clear hW2
    refine (CA2.out _).mono ?_
    rintro e w2 ⟨rfl, hb2⟩
    have hB4 : Below w1.heap.size w1 w2 := hB3.trans (hb2.mono hB3.size)
    have hB5 : Below w.heap.size w w2 := hB2.trans (hB4.mono (by omega))
    have x0 := (hB4.cell (p := ⟨w.heap.size, 0, none⟩) (by show w.heap.size < _; omega)).trans x0
    have x1 := (hB4.cell (p := ⟨w.heap.size, 1, none⟩) (by show w.heap.size < _; omega)).trans x1
    have x2 := (hB4.cell (p := ⟨w.heap.size, 2, none⟩) (by show w.heap.size < _; omega)).trans x2
    have x3 := (hB4.cell (p := ⟨w.heap.size, 3, none⟩) (by show w.heap.size < _; omega)).trans x3
    have x4 := (hB4.cell (p := ⟨w.heap.size, 4, none⟩) (by show w.heap.size < _; omega)).trans x4
    have x5 := (hB4.cell (p := ⟨w.heap.size, 5, none⟩) (by show w.heap.size < _; omega)).trans x5
    have y0 := (hB4.cell (p := ⟨w.heap.size + 1, 0, none⟩) hs1).trans y0
    have y1 := (hB4.cell (p := ⟨w.heap.size + 1, 1, none⟩) hs1).trans y1
    have y2 := (hB4.cell (p := ⟨w.heap.size + 1, 2, none⟩) hs1).trans y2
    have y3 := (hB4.cell (p := ⟨w.heap.size + 1, 3, none⟩) hs1).trans y3
    have y4 := (hB4.cell (p := ⟨w.heap.size + 1, 4, none⟩) hs1).trans y4
    have y5 := (hB4.cell (p := ⟨w.heap.size + 1, 5, none⟩) hs1).trans y5
    clear hb2 hB3 hB4 hB2
    cases ok with
    | false =>
      have hF : Hid (R = false) := by show R = _; rw [hF0.out]; rfl
      clear hF0
      go_wp2
      go_ret
      exact ⟨by rw [hF.out]; rfl, hB5⟩
    | true =>
      cases hq : ieq ⟨2, k, o, m, t, jt⟩ ⟨2, k, 0, m, t, 0⟩ with
      | false =>
        have hF : Hid (R = false) := by show R = _; rw [hF0.out, hq]; rfl
        clear hF0
        go_wp2
        go_ret
        exact ⟨by rw [hF.out]; rfl, hB5⟩
      | true =>
        have hF : Hid (R = true) := by show R = _; rw [hF0.out, hq]; rfl
        clear hF0
        go_wp2
        go_ret
        exact ⟨by rw [hF.out]; rfl, hB5⟩
  | false =>
    have hvn : v = .nilFunc := by
      rcases hv with ⟨h, _⟩ | ⟨h, _⟩ | ⟨h, _⟩ | ⟨_, h⟩
      · unfold askN at h; unfold isAsk at hk; simp at h hk; omega
      · rw [h] at hk; cases hk
      · rw [h] at hk; cases hk
      · exact h
    subst hvn
    have hF : Hid (R = false) := by show R = _; rw [hF0.out, hk]; rfl
    have hn : fnF k = .nilFunc := by
      unfold isAsk at hk
      simp at hk
      unfold fnF
      rw [if_neg (by omega), if_neg (by omega), if_neg (by omega)]
    rw [hn]
    clear hv CA hk hF0 hn
    generalize askN k = b1 at *
    generalize askT k = b2 at *
    go_wp2
    go_ret
    exact ⟨by rw [hF.out]; rfl, hB2.alloc (by omega) _⟩

theorem goodInstr_any (x : Ins) (i : Nat) (last : Int) (w : World) (hs : x.text.size ≤ maxLen) :
    Calls Tryd.prog 29 #[.agg #[.int .i64 x.code, .int .i64 x.kind, .int .i64 x.no, .int .i64 x.num, .string x.text, .int .i64 x.dst], .int .i64 i, .int .i64 last] w fun e w' => e = .returned (.bool (okI x i last)) ∧ Below w.heap.size w w' := by
  obtain ⟨c, k, o, m, t, jt⟩ := x
  dsimp only at *
  by_cases h1 : c = 1
  · subst h1; exact goodInstr_seek k o m t jt i last w
  · by_cases h2 : c = 2
    · subst h2; exact goodInstr_test k o m t jt i last w hs
    · by_cases h3 : c = 3
      · subst h3; exact goodInstr_jump k o m t jt i last w
      · by_cases h4 : c = 4
        · subst h4; exact goodInstr_flip k o m t jt i last w
        · by_cases h5 : c = 5
          · subst h5; exact goodInstr_end k o m t jt i last w
          · exact goodInstr_none c k o m t jt i last w h1 h2 h3 h4 h5

end Go.Proofs.YtmjpmmkjfimopaaDoor
