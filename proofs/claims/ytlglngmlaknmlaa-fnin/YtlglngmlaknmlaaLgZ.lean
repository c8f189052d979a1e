/- The model's CheckIn. -/
import Derived.Test.YtlglngmlaknmlaaLgN
namespace Go.Proofs.Ytlglngmlaknmlaa
open Go.RowKit Plain Lgs Tpc

/-- what CheckIn tells -/
def Lgs.cin (r n k : Int) (s : ByteArray) (p : List Int) : Bool × Bool :=
  if (0 ≤ r ∧ r ≤ 1000002) ∧ (1 ≤ n ∧ n ≤ 40) ∧ 0 ≤ k ∧ k < n ∧ s.size ≤ 20 ∧ pok p = true then
    (if (upF 41 n.toNat k.toNat (leaf s) (p.map Int.toNat)).2 = true then (decide (((upF 41 n.toNat k.toNat (leaf s) (p.map Int.toNat)).1 : Int) = r), true) else (false, false))
  else (false, false)

theorem pok_parts {p : List Int} (h : pok p = true) : (∀ x ∈ p, 0 ≤ x ∧ x ≤ 1000002) ∧ p.length ≤ 20 := by
  unfold pok at h
  rw [Bool.and_eq_true, List.all_eq_true, decide_eq_true_eq] at h
  exact ⟨fun x hx => of_decide_eq_true (h.1 x hx), h.2⟩

theorem zl_nat {p : List Int} (h : ∀ x ∈ p, 0 ≤ x) : zl (p.map Int.toNat) = p := by
  unfold zl
  rw [List.map_map]
  conv => rhs; rw [← List.map_id p]
  apply List.map_congr_left
  intro x hx
  have := h x hx
  simp
  omega

set_option maxRecDepth 100000 in
set_option maxHeartbeats 4000000 in
theorem specCheckIn (r n k : Int) (s : ByteArray) (p : List Int) (v : Value) (w : World) (hs : s.size ≤ maxLen) (hv : ZAt w w.heap.size v p) :
    Calls Try.prog 31 #[.int .i64 r, .int .i64 n, .int .i64 k, .string s, .agg #[v]] w fun e w' => e = .returned (.tuple #[.bool (cin r n k s p).1, .bool (cin r n k s p).2]) ∧ Below w.heap.size w w' := by
  have hs' : s.size ≤ 9223372036854775807 := by unfold maxLen at hs; omega
  obtain ⟨W0, hW0⟩ : ∃ W, W = w.alloc (.cells #[v] 37) := ⟨_, rfl⟩
  have hB0 : Below w.heap.size w W0 := by rw [hW0]; exact (Below.refl _ w).alloc (Nat.le_refl _) _
  have hs0 : W0.heap.size = w.heap.size + 1 := by rw [hW0]; simp
  have q0 : W0.cell? ⟨w.heap.size, 0, none⟩ = some v := by rw [hW0]; go_simp
  have HV0 : Hid (ZAt W0 W0.heap.size v p) := hv.below hB0
  obtain ⟨ao, cap, rfl, hlc, hcm, _⟩ := hv
  unfold maxLen at hcm
  have C1 : Hid (∀ W, Calls Try.prog 50 #[.int .i64 r] W fun e w' => e = .returned (.bool (decide (0 ≤ r ∧ r ≤ 1000002))) ∧ w' = W) := fun W => l13Sum_any r W
  have C2 : Hid (∀ W, Calls Try.prog 47 #[.int .i64 n, .int .i64 1, .int .i64 40] W fun e w' => e = .returned (.bool (decide (1 ≤ n ∧ n ≤ 40))) ∧ w' = W) := fun W => l1InT n 1 40 W
  have C3 : Hid (Calls Try.prog 66 #[.agg #[.slice ao p.length cap]] W0 fun e w' => e = .returned (.bool (pok p)) ∧ Below W0.heap.size W0 w') := l13Proof_any p _ W0 HV0.out
  obtain ⟨R, hR⟩ : ∃ R, R = cin r n k s p := ⟨_, rfl⟩
  have HR : Hid (R = cin r n k s p) := hR
  rw [← hR]
  clear hR
  have bad : ¬ ((0 ≤ r ∧ r ≤ 1000002) ∧ (1 ≤ n ∧ n ≤ 40) ∧ 0 ≤ k ∧ k < n ∧ s.size ≤ 20 ∧ pok p = true) → Hid (R = (false, false)) := fun h => by show _ = _; rw [HR.out]; unfold cin; rw [if_neg h]
  by_cases h1 : 0 ≤ r ∧ r ≤ 1000002
  case neg =>
    rw [decide_eq_false h1] at C1
    have hF := bad (fun h => h1 h.1)
    clear bad HR h1 C2 C3 HV0
    go_enter Try.func31, Try.ntmps31
    go_upto_region 1 with fail
    rw [← hW0]
    clear hW0
    go_wp2_with fail
    go_at_call 50
    refine (C1.out _).mono ?_
    rintro e w' ⟨rfl, rfl⟩
    go_wp2_with fail
    go_ret2
    exact ⟨by rw [hF.out]; rfl, hB0⟩
  rw [decide_eq_true h1] at C1
  by_cases h2 : 1 ≤ n ∧ n ≤ 40
  case neg =>
    rw [decide_eq_false h2] at C2
    have hF := bad (fun h => h2 h.2.1)
    clear bad HR h1 h2 C3 HV0
    go_enter Try.func31, Try.ntmps31
    go_upto_region 1 with fail
    rw [← hW0]
    clear hW0
    go_wp2_with fail
    go_at_call 50
    refine (C1.out _).mono ?_
    rintro e w' ⟨rfl, rfl⟩
    go_wp2_with fail
    go_at_call 47
    refine (C2.out _).mono ?_
    rintro e w' ⟨rfl, rfl⟩
    go_wp2_with fail
    go_ret2
    exact ⟨by rw [hF.out]; rfl, hB0⟩
  rw [decide_eq_true h2] at C2
  by_cases h3 : 0 ≤ k ∧ k < n ∧ s.size ≤ 20
  case neg =>
    have hF := bad (fun h => h3 ⟨h.2.2.1, h.2.2.2.1, h.2.2.2.2.1⟩)
    have hd : k < 0 ∨ (¬ k < 0 ∧ n ≤ k) ∨ (¬ k < 0 ∧ ¬ n ≤ k ∧ (20 : Int) < (s.size : Int)) := by omega
    clear bad HR h1 h2 h3 C3 HV0
    rcases hd with hd | ⟨hd, hd2⟩ | ⟨hd, hd2, hd3⟩
    all_goals
      go_enter Try.func31, Try.ntmps31
      go_upto_region 1 with fail
      rw [← hW0]
      clear hW0
      go_wp2_with fail
      go_at_call 50
      refine (C1.out _).mono ?_
      rintro e w' ⟨rfl, rfl⟩
      go_wp2_with fail
      go_at_call 47
      refine (C2.out _).mono ?_
      rintro e w' ⟨rfl, rfl⟩
      go_wp2_with fail
      go_ret2
      exact ⟨by rw [hF.out]; rfl, hB0⟩
  have d1 : decide (k < 0) = false := by simp; omega
  have d2 : decide (n ≤ k) = false := by simp; omega
  have d3 : decide ((20 : Int) < (s.size : Int)) = false := by simp; omega
  by_cases h4 : pok p = true
  case neg =>
    have h4' : pok p = false := by simpa using h4
    have hF := bad (fun h => h4 h.2.2.2.2.2)
    rw [h4'] at C3
    clear bad HR h1 h2 h3 h4 h4' HV0
    go_enter Try.func31, Try.ntmps31
    go_upto_region 1 with fail
    rw [← hW0]
    clear hW0
    go_wp2_with fail
    go_at_call 50
    refine (C1.out _).mono ?_
    rintro e w' ⟨rfl, h9⟩
    have h9 := h9.symm
    subst h9
    go_wp2_with fail
    go_at_call 47
    refine (C2.out _).mono ?_
    rintro e w' ⟨rfl, h9⟩
    have h9 := h9.symm
    subst h9
    go_wp2_with fail
    go_at_call 66
    refine C3.out.mono ?_
    rintro e w3 ⟨rfl, hb3⟩
    have hB3 : Below w.heap.size w w3 := hB0.trans (hb3.mono hB0.size)
    clear hb3
    go_wp2_with fail
    go_ret2
    exact ⟨by rw [hF.out]; rfl, hB3⟩
  rw [h4] at C3
  obtain ⟨hp, hp20⟩ := pok_parts h4
  obtain ⟨N, rfl⟩ : ∃ N : Nat, n = N := ⟨n.toNat, by omega⟩
  obtain ⟨K, rfl⟩ : ∃ K : Nat, k = K := ⟨k.toNat, by omega⟩
  have d4 : decide (N ≤ K) = false := by simp; omega
  have d5 : decide (20 < s.size) = false := by simp; omega
  have hzp := zl_nat (fun x hx => (hp x hx).1)
  have hlt : ∀ y ∈ p.map Int.toNat, y < 1000003 := fun y hy => by
    obtain ⟨x, hx, rfl⟩ := List.mem_map.1 hy
    have := hp x hx
    omega
  have CU : Hid (∀ m W, W = m → Below W0.heap.size W0 W → Calls Try.prog 67 #[.int .i64 (N : Int), .int .i64 (K : Int), .int .i64 ((leaf s : Nat) : Int), .slice ao p.length cap] W fun e w' => e = .returned (.tuple #[.int .i64 (((upF 41 N K (leaf s) (p.map Int.toNat)).1 : Nat) : Int), .bool (upF 41 N K (leaf s) (p.map Int.toNat)).2]) ∧ w' = W) := fun m W _ hW =>
    l13Up_any 41 N K (leaf s) (p.map Int.toNat) _ W (by omega) (by omega) (by omega) (by omega) (leaf_lt s) hlt (by rw [hzp]; exact HV0.out.below hW)
  have CF : Hid (∀ W, Calls Try.prog 15 #[.string s] W fun e w' => e = .returned (.int .i64 ((leaf s : Nat) : Int)) ∧ w' = W) := fun W => specLeaf s W hs
  have HF : Hid (R = (if (upF 41 N K (leaf s) (p.map Int.toNat)).2 = true then (decide (((upF 41 N K (leaf s) (p.map Int.toNat)).1 : Int) = r), true) else (false, false))) := by
    show _ = _
    rw [HR.out]
    unfold cin
    rw [if_pos ⟨h1, h2, by omega, by omega, by omega, h4⟩, Int.toNat_natCast, Int.toNat_natCast]
  generalize upF 41 N K (leaf s) (p.map Int.toNat) = U at HF CU
  obtain ⟨U1, U2⟩ := U
  dsimp only at HF CU
  generalize leaf s = S at CU CF
  clear bad HR h1 h2 h3 h4 HV0 hp hzp hlt hs hs'
  go_enter Try.func31, Try.ntmps31
  go_upto_region 1 with fail
  rw [← hW0]
  clear hW0
  go_wp2_with fail
  go_at_call 50
  refine (C1.out _).mono ?_
  rintro e w' ⟨rfl, h9⟩
  have h9 := h9.symm
  subst h9
  go_wp2_with fail
  go_at_call 47
  refine (C2.out _).mono ?_
  rintro e w' ⟨rfl, h9⟩
  have h9 := h9.symm
  subst h9
  go_wp2_with fail
  go_at_call 66
  refine C3.out.mono ?_
  rintro e w3 ⟨rfl, hb3⟩
  have HB3 : Hid (Below W0.heap.size W0 w3) := hb3
  have q3 := (hb3.cell (p := ⟨w.heap.size, 0, none⟩) (by show w.heap.size < _; omega)).trans q0
  have l3 : w.heap.size < w3.heap.size := by have := hb3.size; omega
  have hB3 : Below w.heap.size w w3 := hB0.trans (hb3.mono hB0.size)
  clear hb3
  have CU3 : Hid (∀ n, Calls Try.prog 67 #[.int .i64 (N : Int), .int .i64 (K : Int), .int .i64 (S : Int), .slice ao p.length cap] (w3.drewN n) fun e w' => e = .returned (.tuple #[.int .i64 (U1 : Int), .bool U2]) ∧ w' = w3.drewN n) := fun n => CU.out _ _ rfl (below_drewT HB3.out)
  clear CU C1 C2 C3
  go_wp2_with fail
  go_quiet (first
    | (go_at_call 67; exact Calls.quiet_of_same (CU3.out _))
    | (go_at_call 15; exact Calls.quiet_of_same (CF.out _)))
  cases U2 with
  | false =>
    have hF : Hid (R = (false, false)) := HF.out
    go_wp2_with fail
    go_ret2
    exact ⟨by rw [hF.out]; rfl, below_drewT hB3⟩
  | true =>
    have hF : Hid (R = (decide ((U1 : Int) = r), true)) := HF.out
    go_wp2_with fail
    go_ret2
    exact ⟨by rw [hF.out]; first | rfl | simp, below_drewT hB3⟩

end Go.Proofs.Ytlglngmlaknmlaa
