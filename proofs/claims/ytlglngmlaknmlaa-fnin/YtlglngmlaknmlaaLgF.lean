/- The model's sums of a proof. -/
import Derived.Test.YtlglngmlaknmlaaLgE
import Derived.Test.YtlglngmlaknmlaaGd
import Derived.Deep.DeepCutAuto
import Derived.Deep.Cut
namespace Go.Proofs.Ytlglngmlaknmlaa
open Go.RowKit Plain Lgs Tpc

/-- sums of a proof -/
def Lgs.pok (l : List Int) : Bool := l.all (fun n => decide (0 ≤ n ∧ n ≤ 1000002)) && decide (l.length ≤ 20)

theorem l13Sum_any (n : Int) (w : World) :
    Calls Try.prog 50 #[.int .i64 n] w fun e w' => e = .returned (.bool (decide (0 ≤ n ∧ n ≤ 1000002))) ∧ w' = w := by
  have C := l1In_any n 0 1000002 w
  generalize decide (0 ≤ n ∧ n ≤ 1000002) = b at C ⊢
  go_enter Try.func50, Try.ntmps50
  go_wp2_with fail
  go_at_call 47
  refine C.mono ?_
  rintro e w' ⟨rfl, rfl⟩
  go_wp2_with fail
  go_ret
  exact ⟨rfl, rfl⟩

set_option maxRecDepth 100000 in
set_option maxHeartbeats 4000000 in
theorem l13Proof_any (l : List Int) (v : Value) (w : World) (hv : ZAt w w.heap.size v l) :
    Calls Try.prog 66 #[.agg #[v]] w fun e w' => e = .returned (.bool (pok l)) ∧ Below w.heap.size w w' := by
  obtain ⟨ao, cap, rfl, hlc, hcm, hrow⟩ := hv
  unfold maxLen at hcm
  obtain ⟨R, hR⟩ : ∃ R, R = pok l := ⟨_, rfl⟩
  have HR : Hid (R = pok l) := hR
  rw [← hR]
  clear hR
  obtain ⟨W1, hW1⟩ : ∃ W, W = w.alloc (.cells #[.slice ao l.length cap] 37) := ⟨_, rfl⟩
  have hB1 : Below w.heap.size w W1 := by rw [hW1]; exact (Below.refl _ w).alloc (Nat.le_refl _) _
  have hs1 : W1.heap.size = w.heap.size + 1 := by rw [hW1]; simp
  have q0 : W1.cell? ⟨w.heap.size, 0, none⟩ = some (.slice ao l.length cap) := by rw [hW1]; go_simp
  have HROW : Hid (∀ i (x : Int), l[i]? = some x → ∃ g o, ao = some ⟨g, o, none⟩ ∧ g < W1.heap.size ∧ W1.cell? ⟨g, o + i, none⟩ = some (.int .i64 x)) := fun i x hx => by
    obtain ⟨g, o, h1, h2, h3⟩ := hrow i x hx
    exact ⟨g, o, h1, by omega, (hB1.cell (p := ⟨g, o + i, none⟩) h2).trans h3⟩
  clear hrow
  go_enter Try.func66, Try.ntmps66
  go_upto_region 1 with fail
  rw [← hW1]
  clear hW1
  go_wp2_with fail
  go_loopw [8] (fun vi wr => ∃ i : Nat, i ≤ l.length ∧ vi = .int .i64 (i : Int) ∧ Hid (∀ j (x : Int), j < i → l[j]? = some x → 0 ≤ x ∧ x ≤ 1000002) ∧ wr = W1)
    (fun vi _ => l.length - (intOf vi).toNat)
  case atStart => exact ⟨0, by omega, rfl, fun j x hj => by omega, rfl⟩
  case round =>
    obtain ⟨i, hi, rfl, hix, rfl⟩ := hrel
    by_cases hlt : i < l.length
    · have hlt' : (i : Int) < (l.length : Int) := by omega
      obtain ⟨x, hx⟩ : ∃ x, l[i]? = some x := ⟨_, List.getElem?_eq_getElem hlt⟩
      obtain ⟨g, o, rfl, hg, c⟩ := HROW.out i x hx
      have HX : Hid (l[i]? = some x) := hx
      clear hx
      obtain ⟨b, hb⟩ : ∃ b, b = decide (0 ≤ x ∧ x ≤ 1000002) := ⟨_, rfl⟩
      have HBD : Hid (b = decide (0 ≤ x ∧ x ≤ 1000002)) := hb
      have CI : Hid (∀ W : World, Calls Try.prog 50 #[.int .i64 x] W fun e w' => e = .returned (.bool b) ∧ w' = W) := fun W => by rw [hb]; exact l13Sum_any x W
      clear hb
      go_wp2_with fail
      go_at_call 50
      refine (CI.out _).mono ?_
      rintro e w' ⟨rfl, rfl⟩
      cases b with
      | false =>
        have HF : Hid (R = false) := by
          show _ = _
          rw [HR.out]
          unfold pok
          rw [Bool.and_eq_false_iff]
          left
          rw [List.all_eq_false]
          exact ⟨x, List.mem_of_getElem? HX.out, by rw [← HBD.out]; simp⟩
        go_wp2_with fail
        go_ret
        exact ⟨by rw [HF.out]; rfl, hB1⟩
      | true =>
        have hN : Hid (∀ j (y : Int), j < i + 1 → l[j]? = some y → 0 ≤ y ∧ y ≤ 1000002) := fun j y hj hy => by
          by_cases e : j = i
          · subst e
            have h := HX.out
            rw [hy] at h
            cases h
            exact of_decide_eq_true HBD.out.symm
          · exact hix.out j y (by omega) hy
        go_wp2_with fail
        go_roundw
        case rel => exact ⟨i + 1, by omega, by go_num, hN, by first | rfl | trivial⟩
        case measure => simp [intOf]; omega
    · have hke : i = l.length := by omega
      have hge : ¬ ((i : Int) < (l.length : Int)) := by omega
      have HF : Hid (R = decide ((l.length : Int) ≤ 20)) := by
        show _ = _
        rw [HR.out]
        unfold pok
        rw [List.all_eq_true.2 (fun x hx => by
          obtain ⟨j, hj, rfl⟩ := List.getElem_of_mem hx
          exact decide_eq_true (hix.out j _ (by omega) (List.getElem?_eq_getElem hj))), Bool.true_and, decide_eq_decide]
        omega
      clear hke hix
      go_wp2_with fail
      go_ret
      exact ⟨by rw [HF.out]; rfl, hB1⟩

end Go.Proofs.Ytlglngmlaknmlaa
