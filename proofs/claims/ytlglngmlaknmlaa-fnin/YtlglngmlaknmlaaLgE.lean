/- The model's way up from a leaf. -/
import Derived.Test.YtlglngmlaknmlaaLgD
import Derived.Test.YtlglngmlaknmlaaZnA
namespace Go.Proofs.Ytlglngmlaknmlaa
open Go.RowKit Plain Lgs Tpc

/-- sums as ints -/
def Lgs.zl (p : List Nat) : List Int := p.map Int.ofNat
theorem zl_len (p : List Nat) : (zl p).length = p.length := by unfold zl; rw [List.length_map]
theorem zl_at (p : List Nat) {i : Nat} (h : i < p.length) : (zl p)[i]? = some ((p.getD i 0 : Nat) : Int) := by
  unfold zl
  rw [List.getElem?_map, List.getD, List.getElem?_eq_getElem h]
  rfl
theorem zl_take (p : List Nat) : (zl p).take (p.length - 1) = zl p.dropLast := by
  unfold zl
  rw [← List.map_take, List.dropLast_eq_take]

theorem ZAt.take {w : World} {B : Nat} {L : List Int} {ao : Option Addr} {n cap k : Nat} (h : ZAt w B (.slice ao n cap) L) (hk : k ≤ L.length) : ZAt w B (.slice ao k cap) (L.take k) := by
  obtain ⟨a, c, hv, hm, hc, hr⟩ := h
  simp only [Value.slice.injEq] at hv
  obtain ⟨rfl, rfl, rfl⟩ := hv
  have hl : (L.take k).length = k := by rw [List.length_take]; omega
  refine ⟨ao, cap, by rw [hl], by rw [hl]; omega, hc, fun i x hx => ?_⟩
  refine hr i x ?_
  rw [List.getElem?_take] at hx
  split at hx
  · exact hx
  · cases hx

set_option maxRecDepth 100000 in
set_option maxHeartbeats 4000000 in
theorem l13Up_any : ∀ (f n k x : Nat) (p : List Nat) (v : Value) (w : World), n ≤ f → 1 ≤ n → n ≤ 40 → k < n → x < 1000003 → (∀ y ∈ p, y < 1000003) → ZAt w w.heap.size v (zl p) →
    Calls Try.prog 67 #[.int .i64 (n : Int), .int .i64 (k : Int), .int .i64 (x : Int), v] w fun e w' => e = .returned (.tuple #[.int .i64 (((upF f n k x p).1 : Nat) : Int), .bool (upF f n k x p).2]) ∧ w' = w := by
  intro f
  induction f with
  | zero => intro n k x p v w hf; omega
  | succ f ih =>
    intro n k x p v w hf hn1 hn40 hk hx hp hv
    have hv0 := hv
    obtain ⟨ao, cap, rfl, hlc, hcm, hrow⟩ := hv
    unfold maxLen at hcm
    rw [zl_len] at hlc
    rw [zl_len] at hv0 ⊢
    obtain ⟨R, hR⟩ : ∃ R, R = upF (f + 1) n k x p := ⟨_, rfl⟩
    have HR : Hid (R = upF (f + 1) n k x p) := hR
    rw [← hR]
    clear hR
    by_cases h1 : n = 1
    · have HF : Hid (R = (x, decide (p.length = 0))) := by show _ = _; rw [HR.out, upF, if_pos (by omega)]
      subst h1
      clear hrow ih hv0 HR
      have HB : Hid (decide ((p.length : Int) = 0) = decide (p.length = 0)) := by show _ = _; rw [decide_eq_decide]; omega
      go_enter Try.func67, Try.ntmps67
      go_wp2_with fail
      go_ret2
      exact ⟨by rw [HF.out]; first | rfl | (rw [← HB.out]; rfl), rfl⟩
    · have h1' : ¬ (n : Int) = 1 := by omega
      by_cases h0 : p.length = 0
      · have HF : Hid (R = (0, false)) := by show _ = _; rw [HR.out, upF, if_neg (by omega), if_pos h0]
        clear hrow ih hv0 HR
        rw [h0]
        go_enter Try.func67, Try.ntmps67
        go_wp2_with fail
        go_ret2
        exact ⟨by rw [HF.out]; rfl, rfl⟩
      · obtain ⟨s1, s2, s3⟩ := spl_pos (n := n) (by omega) hn40
        obtain ⟨g, o, rfl, hg, c⟩ := hrow (p.length - 1) _ (zl_at p (by omega))
        have hT := ZAt.take hv0 (k := p.length - 1) (by rw [zl_len]; omega)
        rw [zl_take] at hT
        have hpd : ∀ y ∈ p.dropLast, y < 1000003 := fun y hy => hp y (List.dropLast_subset p hy)
        have hpl : p.getD (p.length - 1) 0 < 1000003 := by
          rw [List.getD, List.getElem?_eq_getElem (by omega)]
          exact hp _ (List.getElem_mem _)
        have CS : Hid (Calls Try.prog 48 #[.int .i64 (n : Int)] w fun e w' => e = .returned (.int .i64 ((spl n : Nat) : Int)) ∧ w' = w) := l13Split_any n w (by omega)
        have hl1 : ((p.length : Int) - 1) = ((p.length - 1 : Nat) : Int) := by omega
        by_cases hkk : k < spl n
        · have hkk' : (k : Int) < ((spl n : Nat) : Int) := by omega
          have CU : Hid (Calls Try.prog 67 #[.int .i64 ((spl n : Nat) : Int), .int .i64 (k : Int), .int .i64 (x : Int), .slice (some ⟨g, o, none⟩) (p.length - 1) cap] w fun e w' => e = .returned (.tuple #[.int .i64 (((upF f (spl n) k x p.dropLast).1 : Nat) : Int), .bool (upF f (spl n) k x p.dropLast).2]) ∧ w' = w) := ih _ _ _ _ _ _ (by omega) s1 (by omega) hkk hx hpd hT
          have CN : Hid (Calls Try.prog 51 #[.int .i64 (((upF f (spl n) k x p.dropLast).1 : Nat) : Int), .int .i64 ((p.getD (p.length - 1) 0 : Nat) : Int)] w fun e w' => e = .returned (.int .i64 ((node (upF f (spl n) k x p.dropLast).1 (p.getD (p.length - 1) 0) : Nat) : Int)) ∧ w' = w) := l13Node_any _ _ _ (upF_lt _ _ _ _ _ hx) hpl
          have HF : Hid (R = (node (upF f (spl n) k x p.dropLast).1 (p.getD (p.length - 1) 0), (upF f (spl n) k x p.dropLast).2)) := by
            show _ = _; rw [HR.out, upF, if_neg (by omega), if_neg h0, if_pos hkk]
          generalize upF f (spl n) k x p.dropLast = U at CU CN HF
          generalize p.getD (p.length - 1) 0 = q at c CN HF hpl
          obtain ⟨U1, U2⟩ := U
          simp only at CU CN HF
          generalize node U1 q = S at CN HF
          clear hrow ih hv0 HR hT hpd hp
          generalize spl n = h at *
          obtain ⟨m, hm⟩ : ∃ m, p.length = m + 1 := ⟨p.length - 1, by omega⟩
          rw [hm] at hlc c CU ⊢
          simp only [Nat.add_sub_cancel] at c CU
          go_enter Try.func67, Try.ntmps67
          go_wp2_with fail
          go_at_call 48
          refine CS.out.mono ?_
          rintro e w' ⟨rfl, rfl⟩
          go_wp2_with fail
          go_at_call 67
          refine CU.out.mono ?_
          rintro e w' ⟨rfl, rfl⟩
          go_wp2_with fail
          go_at_call 51
          refine CN.out.mono ?_
          rintro e w' ⟨rfl, rfl⟩
          go_wp2_with fail
          go_ret2
          exact ⟨by rw [HF.out]; first | rfl | trivial, rfl⟩
        · have hkk' : ¬ (k : Int) < ((spl n : Nat) : Int) := by omega
          have CU : Hid (Calls Try.prog 67 #[.int .i64 ((n - spl n : Nat) : Int), .int .i64 ((k - spl n : Nat) : Int), .int .i64 (x : Int), .slice (some ⟨g, o, none⟩) (p.length - 1) cap] w fun e w' => e = .returned (.tuple #[.int .i64 (((upF f (n - spl n) (k - spl n) x p.dropLast).1 : Nat) : Int), .bool (upF f (n - spl n) (k - spl n) x p.dropLast).2]) ∧ w' = w) := ih _ _ _ _ _ _ (by omega) (by omega) (by omega) (by omega) hx hpd hT
          have CN : Hid (Calls Try.prog 51 #[.int .i64 ((p.getD (p.length - 1) 0 : Nat) : Int), .int .i64 (((upF f (n - spl n) (k - spl n) x p.dropLast).1 : Nat) : Int)] w fun e w' => e = .returned (.int .i64 ((node (p.getD (p.length - 1) 0) (upF f (n - spl n) (k - spl n) x p.dropLast).1 : Nat) : Int)) ∧ w' = w) := l13Node_any _ _ _ hpl (upF_lt _ _ _ _ _ hx)
          have HF : Hid (R = (node (p.getD (p.length - 1) 0) (upF f (n - spl n) (k - spl n) x p.dropLast).1, (upF f (n - spl n) (k - spl n) x p.dropLast).2)) := by
            show _ = _; rw [HR.out, upF, if_neg (by omega), if_neg h0, if_neg hkk]
          generalize upF f (n - spl n) (k - spl n) x p.dropLast = U at CU CN HF
          generalize p.getD (p.length - 1) 0 = q at c CN HF hpl
          obtain ⟨U1, U2⟩ := U
          simp only at CU CN HF
          generalize node q U1 = S at CN HF
          clear hrow ih hv0 HR hT hpd hp
          have hn2 : ((n : Int) - ((spl n : Nat) : Int)) = ((n - spl n : Nat) : Int) := by omega
          have hk2 : ((k : Int) - ((spl n : Nat) : Int)) = ((k - spl n : Nat) : Int) := by omega
          rw [← hn2, ← hk2] at CU
          clear hn2 hk2
          generalize spl n = h at *
          obtain ⟨m, hm⟩ : ∃ m, p.length = m + 1 := ⟨p.length - 1, by omega⟩
          rw [hm] at hlc c CU ⊢
          simp only [Nat.add_sub_cancel] at c CU
          go_enter Try.func67, Try.ntmps67
          go_wp2_with fail
          go_at_call 48
          refine CS.out.mono ?_
          rintro e w' ⟨rfl, rfl⟩
          go_wp2_with fail
          go_at_call 67
          refine CU.out.mono ?_
          rintro e w' ⟨rfl, rfl⟩
          go_wp2_with fail
          go_at_call 51
          refine CN.out.mono ?_
          rintro e w' ⟨rfl, rfl⟩
          go_wp2_with fail
          go_ret2
          exact ⟨by rw [HF.out]; first | rfl | trivial, rfl⟩

end Go.Proofs.Ytlglngmlaknmlaa
