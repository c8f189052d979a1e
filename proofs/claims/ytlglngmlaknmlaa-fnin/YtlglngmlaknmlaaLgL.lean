/- The program's logs and their roots. -/
import Derived.Test.YtlglngmlaknmlaaLgK
import Derived.Deep.QuietTactic
import Derived.BigQuiet
namespace Go.Proofs.Ytlglngmlaknmlaa
open Go.RowKit Plain Lgs Tpc

/-- each text has as many bytes as said -/
def hv (lo hi : Int) (L : List ByteArray) : Bool := L.all fun s => decide (lo ≤ (s.size : Int)) && decide ((s.size : Int) ≤ hi)

theorem hv_no {lo hi : Int} {L : List ByteArray} {i : Nat} (h : i < L.length) (hx : ¬ (lo ≤ ((lq L i).size : Int) ∧ ((lq L i).size : Int) ≤ hi)) : hv lo hi L = false := by
  rw [Bool.eq_false_iff]
  intro hT
  unfold hv at hT
  rw [List.all_eq_true] at hT
  have := hT (lq L i) (lq_mem h)
  simp at this
  exact hx this

theorem hv_yes {lo hi : Int} {L : List ByteArray} (h : ∀ i, i < L.length → lo ≤ ((lq L i).size : Int) ∧ ((lq L i).size : Int) ≤ hi) : hv lo hi L = true := by
  unfold hv
  rw [List.all_eq_true]
  intro x hx
  obtain ⟨i, hi, rfl⟩ := List.mem_iff_getElem.1 hx
  have := h i hi
  rw [show lq L i = L[i] by unfold lq; simp [List.getD, List.getElem?_eq_getElem hi]] at this
  simpa using this

set_option maxRecDepth 100000 in
set_option maxHeartbeats 4000000 in
theorem haveBytes_any (lo hi : Int) (L : List ByteArray) (v : Value) (w : World) (hA : StAt w w.heap.size v L) (hS : ∀ i, i < L.length → (lq L i).size ≤ 9223372036854775807) (hL : L.length ≤ 9223372036854775807) :
    Calls Try.prog 69 #[.int .i64 lo, .int .i64 hi, v] w fun e w' => e = .returned (.bool (hv lo hi L)) ∧ w' = w := by
  obtain ⟨ao, cap, rfl, hlc, hcm, hro⟩ := hA
  have hcm' : cap ≤ 9223372036854775807 := by unfold maxLen at hcm; omega
  have HROW : Hid (∀ i, i < L.length → ∃ g o, ao = some ⟨g, o, none⟩ ∧ g < w.heap.size ∧ w.cell? ⟨g, o + i, none⟩ = some (.string (lq L i))) := hro
  have HS : Hid (∀ i, i < L.length → (lq L i).size ≤ 9223372036854775807) := hS
  obtain ⟨R, hR⟩ : ∃ R, R = hv lo hi L := ⟨_, rfl⟩
  rw [← hR]
  have HR : Hid (R = hv lo hi L) := hR
  clear hR hro hS
  go_enter Try.func69, Try.ntmps69
  go_wp2
  go_loopw [11] (fun vi wr => ∃ (k : Nat), k ≤ L.length ∧ vi = .int .i64 (k : Int) ∧ Hid (∀ j, j < k → lo ≤ ((lq L j).size : Int) ∧ ((lq L j).size : Int) ≤ hi) ∧ wr = w)
    (fun vi _ => L.length - (intOf vi).toNat)
  case atStart => exact ⟨0, by omega, rfl, fun j hj => by omega, rfl⟩
  case round =>
    obtain ⟨k, hk, rfl, hall, rfl⟩ := hrel
    by_cases hlt : k < L.length
    · have hltI : (k : Int) < (L.length : Int) := by omega
      obtain ⟨g, o, rfl, hg, c⟩ := HROW.out k hlt
      have HS9 := HS.out k hlt
      have HNO : Hid (¬ (lo ≤ ((lq L k).size : Int) ∧ ((lq L k).size : Int) ≤ hi) → R = false) := fun hx => HR.out.trans (hv_no hlt hx)
      have HYES : Hid (lo ≤ ((lq L k).size : Int) ∧ ((lq L k).size : Int) ≤ hi → ∀ j, j < k + 1 → lo ≤ ((lq L j).size : Int) ∧ ((lq L j).size : Int) ≤ hi) := fun hx j hj => by
        by_cases hjk : j = k
        · rw [hjk]; exact hx
        · exact hall.out j (by omega)
      obtain ⟨x, hx⟩ : ∃ x, lq L k = x := ⟨_, rfl⟩
      rw [hx] at c HS9 HNO HYES
      clear hx hall
      by_cases h1 : lo ≤ (x.size : Int)
      · have d1 : decide ((x.size : Int) < lo) = false := by simp; omega
        by_cases h2 : (x.size : Int) ≤ hi
        · have d2 : decide (hi < (x.size : Int)) = false := by simp; omega
          have hall2 := HYES.out ⟨h1, h2⟩
          have HALL2 : Hid (∀ j, j < k + 1 → lo ≤ ((lq L j).size : Int) ∧ ((lq L j).size : Int) ≤ hi) := hall2
          clear hall2 HYES HNO h1 h2
          go_wp2
          go_roundw
          case rel => exact ⟨k + 1, by omega, by go_num, HALL2, trivial⟩
          case measure => simp [intOf]; omega
        · have d2 : decide (hi < (x.size : Int)) = true := by simp; omega
          have hF : Hid (R = false) := HNO.out (fun h => h2 h.2)
          clear HYES HNO h1 h2
          go_wp2
          go_ret
          exact ⟨by rw [hF.out]; rfl, rfl⟩
      · have d1 : decide ((x.size : Int) < lo) = true := by simp; omega
        have hF : Hid (R = false) := HNO.out (fun h => h1 h.1)
        clear HYES HNO h1
        go_wp2
        go_ret
        exact ⟨by rw [hF.out]; rfl, rfl⟩
    · have hke : k = L.length := by omega
      have hge : ¬ ((k : Int) < (L.length : Int)) := by omega
      have hT : Hid (R = true) := HR.out.trans (hv_yes fun i hi => hall.out i (by omega))
      clear hke hall
      go_wp2
      go_ret
      exact ⟨by rw [hT.out]; rfl, rfl⟩

/-- a list of one text, as a call makes it -/
theorem one_text (s : ByteArray) (w : World) : StAt (w.alloc (.cells #[.string s] 9)) (w.alloc (.cells #[.string s] 9)).heap.size (.slice (some ⟨w.heap.size, 0, none⟩) 1 1) [s] := by
  refine ⟨some ⟨w.heap.size, 0, none⟩, 1, rfl, by simp, by unfold maxLen; omega, fun i hi => ⟨w.heap.size, 0, rfl, by simp, ?_⟩⟩
  obtain rfl : i = 0 := by simpa using hi
  simp [lq]

theorem hv_one (lo hi : Int) (s : ByteArray) : hv lo hi [s] = (decide (lo ≤ (s.size : Int)) && decide ((s.size : Int) ≤ hi)) := by simp [hv]

set_option maxRecDepth 100000 in
set_option maxHeartbeats 4000000 in
theorem rootOf_any : ∀ (f : Nat) (l : List ByteArray) (v : Value) (w : World), l.length < f → l.length ≤ 40 → (∀ i, i < l.length → (lq l i).size ≤ 20) → StAt w w.heap.size v l →
    Calls Try.prog 57 #[v] w fun e w' => e = .returned (.int .i64 ((root l : Nat) : Int)) ∧ ∃ m, w' = w.drewN m := by
  intro f
  induction f with
  | zero => intro l v w hf; omega
  | succ f ih =>
    intro l v w hf h40 h20 hv
    have hv0 := hv
    obtain ⟨ao, cap, rfl, hlc, hcm, hrow⟩ := hv
    unfold maxLen at hcm
    obtain ⟨R, hR⟩ : ∃ R, R = root l := ⟨_, rfl⟩
    have HR : Hid (R = root l) := hR
    rw [← hR]
    clear hR
    by_cases h0 : l.length = 0
    · have HF : Hid (R = 1) := by show _ = _; rw [HR.out, List.length_eq_zero_iff.1 h0]; rfl
      have h0' : (l.length : Int) = 0 := by omega
      clear hrow ih h20 hv0
      rw [h0]
      go_enter Try.func57, Try.ntmps57
      go_wp2
      go_ret
      exact ⟨by rw [HF.out]; rfl, 0, rfl⟩
    · by_cases h1 : l.length = 1
      · obtain ⟨g, o, rfl, hg, c⟩ := hrow 0 (by omega)
        have HF : Hid (R = leaf (lq l 0)) := by show _ = _; rw [HR.out, root_one h1]; rfl
        have hs := h20 0 (by omega)
        generalize lq l 0 = s at c HF hs
        have CL := implLeaf s
        rw [Nat.add_zero] at c
        clear hrow ih h20 hv0
        rw [h1]
        go_enter Try.func57, Try.ntmps57
        go_wp2_with fail
        go_at_call 16
        refine (CL _ (by unfold maxLen; omega)).mono ?_
        rintro e w' ⟨rfl, rfl⟩
        go_wp2_with fail
        go_ret
        exact ⟨by rw [HF.out]; rfl, 0, rfl⟩
      · have h2 : 2 ≤ l.length := by omega
        obtain ⟨g, o, rfl, hg, c⟩ := hrow 0 (by omega)
        obtain ⟨s1, s2, s3⟩ := spl_pos h2 h40
        have hT := StAt.take hv0 (k := spl l.length) (by omega)
        have hD := StAt.drop hv0 (k := spl l.length) (by omega) (some ⟨g, o + spl l.length, none⟩) (fun _ g' o' e => by
          simp only [Option.some.injEq, Addr.mk.injEq] at e
          obtain ⟨rfl, rfl, _⟩ := e
          rfl)
        have CS := fun W => splitAt_any l.length W h2 h40
        have CT : Hid (∀ n, Calls Try.prog 57 #[.slice (some ⟨g, o, none⟩) (spl l.length) cap] (w.drewN n) fun e w' => e = .returned (.int .i64 ((root (l.take (spl l.length)) : Nat) : Int)) ∧ ∃ m, w' = (w.drewN n).drewN m) := fun n => ih _ _ _ (by rw [List.length_take]; omega) (by rw [List.length_take]; omega) (fun i hi => by
          rw [List.length_take] at hi
          have e : lq (l.take (spl l.length)) i = lq l i := by
            unfold lq
            rw [List.getD_eq_getElem?_getD, List.getD_eq_getElem?_getD, List.getElem?_take, if_pos (by omega)]
          rw [e]
          exact h20 i (by omega)) (StAt.drewN n hT)
        have CD : Hid (∀ n, Calls Try.prog 57 #[.slice (some ⟨g, o + spl l.length, none⟩) (l.length - spl l.length) (cap - spl l.length)] (w.drewN n) fun e w' => e = .returned (.int .i64 ((root (l.drop (spl l.length)) : Nat) : Int)) ∧ ∃ m, w' = (w.drewN n).drewN m) := fun n => ih _ _ _ (by rw [List.length_drop]; omega) (by rw [List.length_drop]; omega) (fun i hi => by
          rw [List.length_drop] at hi
          have e : lq (l.drop (spl l.length)) i = lq l (spl l.length + i) := by
            unfold lq
            rw [List.getD_eq_getElem?_getD, List.getD_eq_getElem?_getD, List.getElem?_drop]
          rw [e]
          exact h20 _ (by omega)) (StAt.drewN n hD)
        have CN : Hid (∀ n, Calls Try.prog 53 #[.int .i64 ((root (l.take (spl l.length)) : Nat) : Int), .int .i64 ((root (l.drop (spl l.length)) : Nat) : Int)] (w.drewN n) fun e w' => e = .returned (.int .i64 (R : Int)) ∧ w' = w.drewN n) := fun n => by
          rw [HR.out, root_split h2 h40]
          exact nodeSum_any _ _ _ (by first | exact root_lt _ | omega) (by first | exact root_lt _ | omega)
        have CSp : Hid (∀ n, Calls Try.prog 49 #[.int .i64 ((l.length : Nat) : Int)] (w.drewN n) fun e w' => e = .returned (.int .i64 ((spl l.length : Nat) : Int)) ∧ w' = w.drewN n) := fun n => CS _
        generalize root (l.take (spl l.length)) = A at CT CN
        generalize root (l.drop (spl l.length)) = B at CD CN
        clear CS hT hD ih hrow h20 hv0 HR c
        generalize spl l.length = k at *
        generalize l.length = n at *
        have h0' : ¬ (n : Int) = 0 := by omega
        have h1' : ¬ (n : Int) = 1 := by omega
        have hk0 : (0 : Int) ≤ (k : Int) := by omega
        have hkn : (k : Int) ≤ (n : Int) := by omega
        have hkc : (k : Int) ≤ (cap : Int) := by omega
        go_enter Try.func57, Try.ntmps57
        go_wp2_with fail
        go_at_call 49
        refine (CSp.out 0).mono ?_
        rintro e w' ⟨rfl, rfl⟩
        go_wp2_with fail
        go_quiet (first
          | (go_at_call 53; exact Calls.quiet_of_same (CN.out _))
          | (go_at_call_of 57 (Value.slice (some ⟨g, o, none⟩) k cap); exact Calls.quiet_of (CT.out _))
          | (go_at_call_of 57 (Value.slice (some ⟨g, o + k, none⟩) (n - k) (cap - k)); exact Calls.quiet_of (CD.out _)))
        go_wp2_with fail
        go_ret
        exact ⟨rfl, _, rfl⟩


theorem lok_hv (l : List ByteArray) : lok l = (decide ((l.length : Int) ≤ 40) && hv 0 20 l) := by
  unfold lok hv
  rw [Bool.and_comm]
  congr 1
  · rw [decide_eq_decide]; omega
  · congr 1
    funext s
    rw [Bool.eq_iff_iff]
    simp only [Bool.and_eq_true, decide_eq_true_eq]
    omega

set_option maxRecDepth 100000 in
set_option maxHeartbeats 4000000 in
theorem isLog_any (l : List ByteArray) (v : Value) (w : World) (hv0 : StAt w w.heap.size v l) (hS : ∀ i, i < l.length → (lq l i).size ≤ 9223372036854775807) :
    Calls Try.prog 56 #[v] w fun e w' => e = .returned (.bool (lok l)) ∧ w' = w := by
  have hl9 : l.length ≤ 9223372036854775807 := by
    obtain ⟨_, _, _, h1, h2, _⟩ := hv0
    unfold maxLen at h2
    omega
  have C : Hid (Calls Try.prog 69 #[.int .i64 0, .int .i64 20, v] w fun e w' => e = .returned (.bool (hv 0 20 l)) ∧ w' = w) := haveBytes_any 0 20 l v w hv0 hS hl9
  rw [lok_hv]
  obtain ⟨ao, cap, rfl, hlc, hcm, _⟩ := hv0
  clear hS
  generalize hv 0 20 l = b at C ⊢
  by_cases h : (l.length : Int) ≤ 40
  · have d : decide ((l.length : Int) ≤ 40) = true := by simpa using h
    rw [d]
    clear h
    go_enter Try.func56, Try.ntmps56
    go_wp2_with fail
    go_at_call 69
    refine C.out.mono ?_
    rintro e w' ⟨rfl, rfl⟩
    go_wp2_with fail
    go_ret
    exact ⟨by cases b <;> rfl, rfl⟩
  · have d : decide ((l.length : Int) ≤ 40) = false := by simpa using h
    rw [d]
    clear h
    go_enter Try.func56, Try.ntmps56
    go_wp2_with fail
    go_ret
    exact ⟨rfl, rfl⟩

theorem lok_parts {l : List ByteArray} (h : lok l = true) : l.length ≤ 40 ∧ ∀ i, i < l.length → (lq l i).size ≤ 20 := by
  unfold lok at h
  rw [Bool.and_eq_true, List.all_eq_true, decide_eq_true_eq] at h
  exact ⟨h.2, fun i hi => of_decide_eq_true (h.1 _ (lq_mem hi))⟩

theorem implRoot (l : List ByteArray) (v : Value) (w : World) (hv0 : StAt w w.heap.size v l) (hS : ∀ i, i < l.length → (lq l i).size ≤ 9223372036854775807) :
    Calls Try.prog 22 #[v] w fun e w' => e = .returned (.tuple #[.int .i64 (if lok l then ((root l : Nat) : Int) else 0), .bool (lok l)]) ∧ ∃ m, w' = w.drewN m := by
  have C : Hid (Calls Try.prog 56 #[v] w fun e w' => e = .returned (.bool (lok l)) ∧ w' = w) := isLog_any l v w hv0 hS
  cases hl : lok l with
  | true =>
    rw [hl] at C
    obtain ⟨h40, h20⟩ := lok_parts hl
    have CR : Hid (Calls Try.prog 57 #[v] w fun e w' => e = .returned (.int .i64 ((root l : Nat) : Int)) ∧ ∃ m, w' = w.drewN m) :=
      rootOf_any (l.length + 1) l v w (by omega) h40 h20 hv0
    obtain ⟨ao, cap, rfl, hlc, hcm, hrow⟩ := hv0
    clear hrow h20 hl hS
    generalize root l = S at CR
    go_enter Try.func22, Try.ntmps22
    go_wp2_with fail
    go_at_call 56
    refine C.out.mono ?_
    rintro e w' ⟨rfl, rfl⟩
    go_wp2_with fail
    go_at_call 57
    refine CR.out.mono ?_
    rintro e w' ⟨rfl, m, rfl⟩
    go_wp2_with fail
    go_ret2
    exact ⟨rfl, m, rfl⟩
  | false =>
    rw [hl] at C
    obtain ⟨ao, cap, rfl, hlc, hcm, hrow⟩ := hv0
    clear hrow hl hS
    go_enter Try.func22, Try.ntmps22
    go_wp2_with fail
    go_at_call 56
    refine C.out.mono ?_
    rintro e w' ⟨rfl, rfl⟩
    go_wp2_with fail
    go_ret2
    exact ⟨rfl, 0, rfl⟩

end Go.Proofs.Ytlglngmlaknmlaa
