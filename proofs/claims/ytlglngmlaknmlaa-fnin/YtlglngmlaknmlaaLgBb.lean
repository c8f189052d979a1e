/- The model's CheckGrew. -/
import Derived.Test.YtlglngmlaknmlaaLgZ
import Derived.Test.YtlglngmlaknmlaaLgBa
namespace Go.Proofs.Ytlglngmlaknmlaa
open Go.RowKit Plain Lgs Tpc

/-- what CheckGrew tells -/
def Lgs.cgr (a o b n : Int) (p : List Int) : Bool × Bool :=
  if (0 ≤ a ∧ a ≤ 1000002) ∧ (0 ≤ b ∧ b ≤ 1000002) ∧ (1 ≤ n ∧ n ≤ 40) ∧ (1 ≤ o ∧ o ≤ n) ∧ pok p = true then
    (if (botF 41 a.toNat n.toNat o.toNat true (p.map Int.toNat)).2.2 = true then (decide (((botF 41 a.toNat n.toNat o.toNat true (p.map Int.toNat)).1 : Int) = a) && decide (((botF 41 a.toNat n.toNat o.toNat true (p.map Int.toNat)).2.1 : Int) = b), true) else (false, false))
  else (false, false)

set_option maxRecDepth 100000 in
set_option maxHeartbeats 4000000 in
theorem specCheckGrew (a o b n : Int) (p : List Int) (v : Value) (w : World) (hv : ZAt w w.heap.size v p) :
    Calls Try.prog 36 #[.int .i64 a, .int .i64 o, .int .i64 b, .int .i64 n, .agg #[v]] w fun e w' => e = .returned (.tuple #[.bool (cgr a o b n p).1, .bool (cgr a o b n p).2]) ∧ Below w.heap.size w w' := by
  obtain ⟨W0, hW0⟩ : ∃ W, W = w.alloc (.cells #[v] 37) := ⟨_, rfl⟩
  have hB0 : Below w.heap.size w W0 := by rw [hW0]; exact (Below.refl _ w).alloc (Nat.le_refl _) _
  have hs0 : Hid (W0.heap.size = w.heap.size + 1) := by show _ = _; rw [hW0]; simp
  have q0 : W0.cell? ⟨w.heap.size, 0, none⟩ = some v := by rw [hW0]; go_simp
  have HV0 : Hid (ZAt W0 W0.heap.size v p) := hv.below hB0
  obtain ⟨ao, cap, rfl, hlc, hcm, _⟩ := hv
  unfold maxLen at hcm
  have C1 : Hid (∀ W, Calls Try.prog 50 #[.int .i64 a] W fun e w' => e = .returned (.bool (decide (0 ≤ a ∧ a ≤ 1000002))) ∧ w' = W) := fun W => l13Sum_any a W
  have C2 : Hid (∀ W, Calls Try.prog 50 #[.int .i64 b] W fun e w' => e = .returned (.bool (decide (0 ≤ b ∧ b ≤ 1000002))) ∧ w' = W) := fun W => l13Sum_any b W
  have C3 : Hid (∀ W, Calls Try.prog 47 #[.int .i64 n, .int .i64 1, .int .i64 40] W fun e w' => e = .returned (.bool (decide (1 ≤ n ∧ n ≤ 40))) ∧ w' = W) := fun W => l1InT n 1 40 W
  have C4 : Hid (∀ W, Calls Try.prog 47 #[.int .i64 o, .int .i64 1, .int .i64 n] W fun e w' => e = .returned (.bool (decide (1 ≤ o ∧ o ≤ n))) ∧ w' = W) := fun W => l1InT o 1 n W
  have C5 : Hid (Calls Try.prog 66 #[.agg #[.slice ao p.length cap]] W0 fun e w' => e = .returned (.bool (pok p)) ∧ Below W0.heap.size W0 w') := l13Proof_any p _ W0 HV0.out
  obtain ⟨R, hR⟩ : ∃ R, R = cgr a o b n p := ⟨_, rfl⟩
  have HR : Hid (R = cgr a o b n p) := hR
  rw [← hR]
  clear hR
  have bad : ¬ ((0 ≤ a ∧ a ≤ 1000002) ∧ (0 ≤ b ∧ b ≤ 1000002) ∧ (1 ≤ n ∧ n ≤ 40) ∧ (1 ≤ o ∧ o ≤ n) ∧ pok p = true) → Hid (R = (false, false)) := fun h => by show _ = _; rw [HR.out]; unfold cgr; rw [if_neg h]
  by_cases h1 : 0 ≤ a ∧ a ≤ 1000002
  case neg =>
    rw [decide_eq_false h1] at C1
    have hF := bad (fun h => h1 h.1)
    clear bad HR h1 HV0
    go_enter Try.func36, Try.ntmps36
    go_upto_region 1 with fail
    rw [← hW0]
    clear hW0
    go_wp2_with fail
    go_at_call 50
    refine (C1.out _).mono ?_
    rintro e w' ⟨rfl, h9⟩
    have h9 := h9.symm
    subst h9
    go_wp2_with fail
    go_ret2
    exact ⟨by rw [hF.out]; rfl, hB0⟩
  rw [decide_eq_true h1] at C1
  by_cases h2 : 0 ≤ b ∧ b ≤ 1000002
  case neg =>
    rw [decide_eq_false h2] at C2
    have hF := bad (fun h => h2 h.2.1)
    clear bad HR h1 h2 HV0
    go_enter Try.func36, Try.ntmps36
    go_upto_region 1 with fail
    rw [← hW0]
    clear hW0
    go_wp2_with fail
    go_at_call 50
    refine (C1.out _).mono ?_
    rintro e w' ⟨rfl, h9⟩
    have h9 := h9.symm
    subst h9
    go_wp2_with fail
    go_at_call 50
    refine (C2.out _).mono ?_
    rintro e w' ⟨rfl, h9⟩
    have h9 := h9.symm
    subst h9
    go_wp2_with fail
    go_ret2
    exact ⟨by rw [hF.out]; rfl, hB0⟩
  rw [decide_eq_true h2] at C2
  by_cases h3 : 1 ≤ n ∧ n ≤ 40
  case neg =>
    rw [decide_eq_false h3] at C3
    have hF := bad (fun h => h3 h.2.2.1)
    clear bad HR h1 h2 h3 HV0
    go_enter Try.func36, Try.ntmps36
    go_upto_region 1 with fail
    rw [← hW0]
    clear hW0
    go_wp2_with fail
    go_at_call 50
    refine (C1.out _).mono ?_
    rintro e w' ⟨rfl, h9⟩
    have h9 := h9.symm
    subst h9
    go_wp2_with fail
    go_at_call 50
    refine (C2.out _).mono ?_
    rintro e w' ⟨rfl, h9⟩
    have h9 := h9.symm
    subst h9
    go_wp2_with fail
    go_at_call 47
    refine (C3.out _).mono ?_
    rintro e w' ⟨rfl, h9⟩
    have h9 := h9.symm
    subst h9
    go_wp2_with fail
    go_ret2
    exact ⟨by rw [hF.out]; rfl, hB0⟩
  rw [decide_eq_true h3] at C3
  by_cases h4 : 1 ≤ o ∧ o ≤ n
  case neg =>
    rw [decide_eq_false h4] at C4
    have hF := bad (fun h => h4 h.2.2.2.1)
    clear bad HR h1 h2 h3 h4 HV0
    go_enter Try.func36, Try.ntmps36
    go_upto_region 1 with fail
    rw [← hW0]
    clear hW0
    go_wp2_with fail
    go_at_call 50
    refine (C1.out _).mono ?_
    rintro e w' ⟨rfl, h9⟩
    have h9 := h9.symm
    subst h9
    go_wp2_with fail
    go_at_call 50
    refine (C2.out _).mono ?_
    rintro e w' ⟨rfl, h9⟩
    have h9 := h9.symm
    subst h9
    go_wp2_with fail
    go_at_call 47
    refine (C3.out _).mono ?_
    rintro e w' ⟨rfl, h9⟩
    have h9 := h9.symm
    subst h9
    go_wp2_with fail
    go_at_call 47
    refine (C4.out _).mono ?_
    rintro e w' ⟨rfl, h9⟩
    have h9 := h9.symm
    subst h9
    go_wp2_with fail
    go_ret2
    exact ⟨by rw [hF.out]; rfl, hB0⟩
  rw [decide_eq_true h4] at C4
  by_cases h5 : pok p = true
  case neg =>
    have h5' : pok p = false := by simpa using h5
    have hF := bad (fun h => h5 h.2.2.2.2)
    rw [h5'] at C5
    clear bad HR h1 h2 h3 h4 h5 h5' HV0
    go_enter Try.func36, Try.ntmps36
    go_upto_region 1 with fail
    rw [← hW0]
    clear hW0
    go_wp2_with fail
    go_at_call 50
    refine (C1.out _).mono ?_
    rintro e w' ⟨rfl, h9⟩
    have h9 := h9.symm
    subst h9
    go_wp2_with fail
    go_at_call 50
    refine (C2.out _).mono ?_
    rintro e w' ⟨rfl, h9⟩
    have h9 := h9.symm
    subst h9
    go_wp2_with fail
    go_at_call 47
    refine (C3.out _).mono ?_
    rintro e w' ⟨rfl, h9⟩
    have h9 := h9.symm
    subst h9
    go_wp2_with fail
    go_at_call 47
    refine (C4.out _).mono ?_
    rintro e w' ⟨rfl, h9⟩
    have h9 := h9.symm
    subst h9
    go_wp2_with fail
    go_at_call 66
    refine C5.out.mono ?_
    rintro e w3 ⟨rfl, hb3⟩
    have hB3 : Below w.heap.size w w3 := hB0.trans (hb3.mono hB0.size)
    clear hb3
    go_wp2_with fail
    go_ret2
    exact ⟨by rw [hF.out]; rfl, hB3⟩
  rw [h5] at C5
  obtain ⟨hp, hp20⟩ := pok_parts h5
  obtain ⟨N, rfl⟩ : ∃ N : Nat, n = N := ⟨n.toNat, by omega⟩
  obtain ⟨O, rfl⟩ : ∃ O : Nat, o = O := ⟨o.toNat, by omega⟩
  obtain ⟨A, rfl⟩ : ∃ A : Nat, a = A := ⟨a.toNat, by omega⟩
  have hzp := zl_nat (fun x hx => (hp x hx).1)
  have hlt : ∀ y ∈ p.map Int.toNat, y < 1000003 := fun y hy => by
    obtain ⟨x, hx, rfl⟩ := List.mem_map.1 hy
    have := hp x hx
    omega
  have CU : Hid (∀ W, Below W0.heap.size W0 W → Calls Try.prog 78 #[.int .i64 (A : Int), .int .i64 (N : Int), .int .i64 (O : Int), .bool true, .slice ao p.length cap] W fun e w' => e = .returned (.tuple #[.int .i64 (((botF 41 A N O true (p.map Int.toNat)).1 : Nat) : Int), .int .i64 (((botF 41 A N O true (p.map Int.toNat)).2.1 : Nat) : Int), .bool (botF 41 A N O true (p.map Int.toNat)).2.2]) ∧ ∃ q, w' = W.drewN q) := fun W hW =>
    l13Both_any 41 A N O true (p.map Int.toNat) _ W (by omega) (by omega) (by omega) (by omega) (by omega) hlt (by rw [hzp]; exact HV0.out.below hW)
  have HF : Hid (R = (if (botF 41 A N O true (p.map Int.toNat)).2.2 = true then (decide (((botF 41 A N O true (p.map Int.toNat)).1 : Int) = (A : Int)) && decide (((botF 41 A N O true (p.map Int.toNat)).2.1 : Int) = b), true) else (false, false))) := by
    show _ = _
    rw [HR.out]
    unfold cgr
    rw [if_pos ⟨h1, h2, h3, h4, h5⟩, Int.toNat_natCast, Int.toNat_natCast, Int.toNat_natCast]
  generalize botF 41 A N O true (p.map Int.toNat) = U at HF CU
  obtain ⟨U1, U2, U3⟩ := U
  dsimp only at HF CU
  clear bad HR h1 h2 h3 h4 h5 HV0 hp hzp hlt
  show Calls _ _ _ _ _
  go_enter Try.func36, Try.ntmps36
  go_upto_region 1 with fail
  rw [← hW0]
  clear hW0
  go_wp2_with fail
  go_at_call 50
  refine (C1.out _).mono ?_
  rintro e w' ⟨rfl, h9⟩
  have h9 := h9.symm
  subst h9
  go_wp2_with fail
  go_at_call 50
  refine (C2.out _).mono ?_
  rintro e w' ⟨rfl, h9⟩
  have h9 := h9.symm
  subst h9
  go_wp2_with fail
  go_at_call 47
  refine (C3.out _).mono ?_
  rintro e w' ⟨rfl, h9⟩
  have h9 := h9.symm
  subst h9
  go_wp2_with fail
  go_at_call 47
  refine (C4.out _).mono ?_
  rintro e w' ⟨rfl, h9⟩
  have h9 := h9.symm
  subst h9
  go_wp2_with fail
  go_at_call 66
  refine C5.out.mono ?_
  rintro e w3 ⟨rfl, hb3⟩
  have HB3 : Hid (Below W0.heap.size W0 w3) := hb3
  have q3 := (hb3.cell (p := ⟨w.heap.size, 0, none⟩) (by show w.heap.size < W0.heap.size; have := hs0.out; omega)).trans q0
  have l3 : w.heap.size < w3.heap.size := by have h1 := hb3.size; have h2 := hs0.out; omega
  have hB3 : Below w.heap.size w w3 := hB0.trans (hb3.mono hB0.size)
  clear hb3
  go_wp2_with fail
  go_at_call 78
  refine (CU.out _ HB3.out).mono ?_
  rintro e w4 ⟨rfl, q, hw4⟩
  have hB4 : Below w.heap.size w w4 := by rw [hw4]; exact below_drewT hB3
  clear hw4 CU
  cases U3 with
  | false =>
    have hF : Hid (R = (false, false)) := HF.out
    go_wp2_with fail
    go_ret2
    exact ⟨by rw [hF.out]; rfl, hB4⟩
  | true =>
    have hF : Hid (R = (decide ((U1 : Int) = (A : Int)) && decide ((U2 : Int) = b), true)) := HF.out
    by_cases hu : U1 = A
    · have hu' : (U1 : Int) = (A : Int) := by omega
      have hF2 : Hid (R = (decide ((U2 : Int) = b), true)) := by show _ = _; rw [hF.out, decide_eq_true hu', Bool.true_and]
      subst hu
      go_wp2_with fail
      go_ret2
      exact ⟨by rw [hF2.out]; first | rfl | simp, hB4⟩
    · have hu' : ¬ (U1 : Int) = (A : Int) := by omega
      have hF2 : Hid (R = (false, true)) := by show _ = _; rw [hF.out, decide_eq_false hu', Bool.false_and]
      go_wp2_with fail
      go_ret2
      exact ⟨by rw [hF2.out]; first | rfl | simp, hB4⟩

end Go.Proofs.Ytlglngmlaknmlaa
