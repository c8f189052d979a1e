/- The model's l1Num of numbers up to 30. -/
import Derived.Test.YtneaikkbpmeebaaDoorSxC
namespace Go.Proofs.YtneaikkbpmeebaaDoor
open Go.RowKit

theorem bytes_appD (a b : List UInt8) : (({ data := a.toArray } : ByteArray) ++ ({ data := b.toArray } : ByteArray)) = ⟨(a ++ b).toArray⟩ := by
  apply ByteArray.ext
  simp

set_option maxRecDepth 100000 in
set_option maxHeartbeats 1000000 in
theorem l1Num_one (n : Nat) (h : n < 10) (w : World) :
    Calls Tryd.prog 23 #[.int .i64 (n : Int)] w fun e w' => e = .returned (.string ⟨#[(48 + n).toUInt8]⟩) ∧ Below w.heap.size w w' := by
  have h0 : ¬ ((n : Int) < 0) := by omega
  have h1 : (n : Int) < 10 := by omega
  have hc := convert_one w (48 + n)
  rw [show ((48 + n : Nat) : Int) = 48 + (n : Int) by omega] at hc
  go_enter Tryd.func23, Tryd.ntmps23
  go_wp2
  go_ret
  exact ⟨rfl, (Below.refl _ w).alloc (Nat.le_refl _) _⟩

set_option maxRecDepth 100000 in
set_option maxHeartbeats 2000000 in
theorem l1Num_dec (n : Nat) (h : n < 31) (w : World) :
    Calls Tryd.prog 23 #[.int .i64 (n : Int)] w fun e w' => e = .returned (.string ⟨(dec n).toArray⟩) ∧ Below w.heap.size w w' := by
  by_cases h10 : n < 10
  · have e : dec n = [(48 + n).toUInt8] := by unfold dec; rw [if_pos h10]
    rw [e]
    exact l1Num_one n h10 w
  · have e : dec n = [(48 + n / 10).toUInt8, (48 + n % 10).toUInt8] := by unfold dec; rw [if_neg h10]
    rw [e]
    obtain ⟨a, ha⟩ : ∃ a, Hid (a = n / 10) := ⟨_, rfl⟩
    obtain ⟨b, hb⟩ : ∃ b, Hid (b = n % 10) := ⟨_, rfl⟩
    have hab : n = 10 * a + b := by rw [ha.out, hb.out]; omega
    have ha3 : a ≤ 3 := by rw [ha.out]; omega
    have ha1 : 1 ≤ a := by rw [ha.out]; omega
    have hb9 : b ≤ 9 := by rw [hb.out]; omega
    rw [← ha.out, ← hb.out]
    obtain ⟨p, hp⟩ : ∃ p, Hid (p = (48 + a).toUInt8) := ⟨_, rfl⟩
    obtain ⟨q, hq⟩ : ∃ q, Hid (q = (48 + b).toUInt8) := ⟨_, rfl⟩
    rw [← hp.out, ← hq.out]
    have HC : Hid (∀ W : World, Calls Tryd.prog 23 #[.int .i64 (a : Int)] W fun e w' => e = .returned (.string ⟨#[p]⟩) ∧ Below W.heap.size W w') := fun W => by rw [hp.out]; exact l1Num_one a (by omega) W
    have hcv : ∀ (W : World) (g : Nat), W.cell? ⟨g, 0, none⟩ = some (.int .u8 (48 + (b : Int))) → (convert 42 9 (.slice (some ⟨g, 0, none⟩) 1 1)).run Tryd.prog W = .ok (.string ⟨#[q]⟩) W := fun W g hW => by
      rw [run_convert_bytes_arg W 42 5 Tryd.underlying42 Tryd.underlying5 g 0 1 1 [((48 + b : Nat) : Int)] (by simp) (fun i hi => by
        obtain rfl : i = 0 := by omega
        rw [Nat.add_zero, hW]
        simp) 9 Tryd.underlying9]
      have e9 : ∀ v : Nat, strOfNums [(v : Int)] = ⟨#[v.toUInt8]⟩ := fun v => by simp [strOfNums]
      rw [e9, hq.out]
    have hB0 : ∀ o, Below w.heap.size w (w.alloc o).drew := fun o => ((Below.refl _ w).alloc (Nat.le_refl _) o).drew
    have hd0 : ¬ ((n : Int) < 0) := by omega
    have hd1 : ¬ ((n : Int) < 10) := by omega
    have hdiv : ((n : Int)).tdiv 10 = (a : Int) := by
      rw [Int.tdiv_eq_ediv_of_nonneg (by omega)]; omega
    have hmod : ((n : Int)).tmod 10 = (b : Int) := by
      rw [Int.tmod_eq_emod_of_nonneg (by omega)]; omega
    have hdiv2 : ((n : Int)) / 10 = (a : Int) := by omega
    have hmod2 : ((n : Int)) % 10 = (b : Int) := by omega
    have hwa : IntKind.i64.wrap (a : Int) = (a : Int) := by rw [IntKind.wrap_i64]; omega
    have hwb : IntKind.i64.wrap (48 + (b : Int)) = 48 + (b : Int) := by rw [IntKind.wrap_i64]; omega
    have hwu : IntKind.u8.wrap (48 + (b : Int)) = 48 + (b : Int) := by rw [IntKind.wrap_u8]; omega
    have hN : Hid (n = 10 * a + b) := hab
    have h30 : (n : Int) ≤ 30 := by omega
    have h310 : (10 : Int) ≤ (n : Int) := by omega
    clear hab
    go_enter Tryd.func23, Tryd.ntmps23
    go_wp2_with fail
    go_region_with (go_at_call 23; refine (HC.out _).mono ?_; rintro e w2 ⟨rfl, hb2⟩; first | (have hB2 : Below w.heap.size w w2 := ((Below.refl _ w).drew).trans hb2) | (have hB2 : Below w.heap.size w w2 := (hB0 _).trans (hb2.mono (by simp)); have y0 : w2.cell? ⟨w.heap.size, 0, none⟩ = some (.int .u8 (48 + (b : Int))) := (hb2.cell (p := ⟨w.heap.size, 0, none⟩) (by simp)).trans (by simp)))
    all_goals
      go_wp2
      go_ret
      refine ⟨congrArg (fun s => Ending.returned (.string s)) (bytes_appD [p] [q]), ?_⟩
      first | exact hB2 | exact hB2.alloc hB2.size _

end Go.Proofs.YtneaikkbpmeebaaDoor
