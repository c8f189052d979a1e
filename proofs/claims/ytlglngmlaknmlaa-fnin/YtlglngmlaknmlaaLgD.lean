/- The model's root of a log. -/
import Derived.Test.YtlglngmlaknmlaaLgC
import Derived.Deep.QuietTactic
import Derived.BigQuiet
namespace Go.Proofs.Ytlglngmlaknmlaa
open Go.RowKit Plain Lgs Tpc

theorem StAt.drewN {w : World} {v : Value} {L : List ByteArray} (n : Nat) (h : StAt w w.heap.size v L) : StAt (w.drewN n) (w.drewN n).heap.size v L := h

set_option maxRecDepth 100000 in
set_option maxHeartbeats 4000000 in
theorem l13Root_any : ∀ (f : Nat) (l : List ByteArray) (v : Value) (w : World), l.length < f → l.length ≤ 40 → (∀ i, i < l.length → (lq l i).size ≤ 20) → StAt w w.heap.size v l →
    Calls Try.prog 55 #[v] w fun e w' => e = .returned (.int .i64 ((root l : Nat) : Int)) ∧ ∃ m, w' = w.drewN m := by
  intro f
  induction f with
  | zero => intro l v w hf; omega
  | succ f ih =>
    intro l v w hf h40 h20 hv
    have hv0 := hv
    obtain ⟨ao, cap, rfl, hlc, hcm, hrow⟩ := hv
    unfold maxLen at hcm
    obtain ⟨R, hR⟩ : ∃ R, R = root l := ⟨_, rfl⟩
    have HR : Hid (R = root l) := hR
    rw [← hR]
    clear hR
    by_cases h0 : l.length = 0
    · have HF : Hid (R = 1) := by show _ = _; rw [HR.out, List.length_eq_zero_iff.1 h0]; rfl
      have h0' : (l.length : Int) = 0 := by omega
      clear hrow ih h20 hv0
      rw [h0]
      go_enter Try.func55, Try.ntmps55
      go_wp2
      go_ret
      exact ⟨by rw [HF.out]; rfl, 0, rfl⟩
    · by_cases h1 : l.length = 1
      · obtain ⟨g, o, rfl, hg, c⟩ := hrow 0 (by omega)
        have HF : Hid (R = leaf (lq l 0)) := by show _ = _; rw [HR.out, root_one h1]; rfl
        have hs := h20 0 (by omega)
        generalize lq l 0 = s at c HF hs
        have CL := specLeaf s
        rw [Nat.add_zero] at c
        clear hrow ih h20 hv0
        rw [h1]
        go_enter Try.func55, Try.ntmps55
        go_wp2_with fail
        go_at_call 15
        refine (CL _ (by unfold maxLen; omega)).mono ?_
        rintro e w' ⟨rfl, rfl⟩
        go_wp2_with fail
        go_ret
        exact ⟨by rw [HF.out]; rfl, 0, rfl⟩
      · have h2 : 2 ≤ l.length := by omega
        obtain ⟨g, o, rfl, hg, c⟩ := hrow 0 (by omega)
        obtain ⟨s1, s2, s3⟩ := spl_pos h2 h40
        have hT := StAt.take hv0 (k := spl l.length) (by omega)
        have hD := StAt.drop hv0 (k := spl l.length) (by omega) (some ⟨g, o + spl l.length, none⟩) (fun _ g' o' e => by
          simp only [Option.some.injEq, Addr.mk.injEq] at e
          obtain ⟨rfl, rfl, _⟩ := e
          rfl)
        have CS := l13Split_any l.length
        have CT : Hid (∀ n, Calls Try.prog 55 #[.slice (some ⟨g, o, none⟩) (spl l.length) cap] (w.drewN n) fun e w' => e = .returned (.int .i64 ((root (l.take (spl l.length)) : Nat) : Int)) ∧ ∃ m, w' = (w.drewN n).drewN m) := fun n => ih _ _ _ (by rw [List.length_take]; omega) (by rw [List.length_take]; omega) (fun i hi => by
          rw [List.length_take] at hi
          have e : lq (l.take (spl l.length)) i = lq l i := by
            unfold lq
            rw [List.getD_eq_getElem?_getD, List.getD_eq_getElem?_getD, List.getElem?_take, if_pos (by omega)]
          rw [e]
          exact h20 i (by omega)) (StAt.drewN n hT)
        have CD : Hid (∀ n, Calls Try.prog 55 #[.slice (some ⟨g, o + spl l.length, none⟩) (l.length - spl l.length) (cap - spl l.length)] (w.drewN n) fun e w' => e = .returned (.int .i64 ((root (l.drop (spl l.length)) : Nat) : Int)) ∧ ∃ m, w' = (w.drewN n).drewN m) := fun n => ih _ _ _ (by rw [List.length_drop]; omega) (by rw [List.length_drop]; omega) (fun i hi => by
          rw [List.length_drop] at hi
          have e : lq (l.drop (spl l.length)) i = lq l (spl l.length + i) := by
            unfold lq
            rw [List.getD_eq_getElem?_getD, List.getD_eq_getElem?_getD, List.getElem?_drop]
          rw [e]
          exact h20 _ (by omega)) (StAt.drewN n hD)
        have CN : Hid (∀ n, Calls Try.prog 51 #[.int .i64 ((root (l.take (spl l.length)) : Nat) : Int), .int .i64 ((root (l.drop (spl l.length)) : Nat) : Int)] (w.drewN n) fun e w' => e = .returned (.int .i64 (R : Int)) ∧ w' = w.drewN n) := fun n => by
          rw [HR.out, root_split h2 h40]
          exact l13Node_any _ _ _ (by first | exact root_lt _ | omega) (by first | exact root_lt _ | omega)
        have CSp : Hid (∀ n, Calls Try.prog 48 #[.int .i64 ((l.length : Nat) : Int)] (w.drewN n) fun e w' => e = .returned (.int .i64 ((spl l.length : Nat) : Int)) ∧ w' = w.drewN n) := fun n => CS _ (by omega)
        generalize root (l.take (spl l.length)) = A at CT CN
        generalize root (l.drop (spl l.length)) = B at CD CN
        clear CS hT hD ih hrow h20 hv0 HR c
        generalize spl l.length = k at *
        generalize l.length = n at *
        have h0' : ¬ (n : Int) = 0 := by omega
        have h1' : ¬ (n : Int) = 1 := by omega
        have hk0 : (0 : Int) ≤ (k : Int) := by omega
        have hkn : (k : Int) ≤ (n : Int) := by omega
        have hkc : (k : Int) ≤ (cap : Int) := by omega
        go_enter Try.func55, Try.ntmps55
        go_wp2_with fail
        go_at_call 48
        refine (CSp.out 0).mono ?_
        rintro e w' ⟨rfl, rfl⟩
        go_wp2_with fail
        go_quiet (first
          | (go_at_call 51; exact Calls.quiet_of_same (CN.out _))
          | (go_at_call_of 55 (Value.slice (some ⟨g, o, none⟩) k cap); exact Calls.quiet_of (CT.out _))
          | (go_at_call_of 55 (Value.slice (some ⟨g, o + k, none⟩) (n - k) (cap - k)); exact Calls.quiet_of (CD.out _)))
        go_wp2_with fail
        go_ret
        exact ⟨rfl, _, rfl⟩

end Go.Proofs.Ytlglngmlaknmlaa
