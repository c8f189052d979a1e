/- The program's CheckIn. -/
import Derived.Test.YtlglngmlaknmlaaLgX
import Derived.Test.YtlglngmlaknmlaaLgZ
namespace Go.Proofs.Ytlglngmlaknmlaa
open Go.RowKit Plain Lgs Tpc

theorem cin_prog {r : Int} {N K : Nat} {s : ByteArray} {p : List Int} (hK : K < N) (hN : N ≤ 40) (hs : s.size ≤ 20) :
    cin r (N : Int) (K : Int) s p = (if p.length = (rt isOne K 41 0 N).2.length ∧ (0 ≤ r ∧ r ≤ 1000002) ∧ p.all (fun n => decide (0 ≤ n ∧ n ≤ 1000002)) = true then (decide (((fld (leaf s) (rt isOne K 41 0 N).2 (p.map Int.toNat) (rt isOne K 41 0 N).2.length : Nat) : Int) = r), true) else (false, false)) := by
  have hL : (rt isOne K 41 0 N).2.length ≤ 6 := rt_len (one_fit K) 41 6 0 N (by omega) (by omega) hK (by omega) (by omega)
  obtain ⟨u1, u2⟩ := up_rt K 41 0 N (leaf s) (p.map Int.toNat) (by omega) hK (by omega) (by omega)
  rw [Nat.sub_zero, Nat.sub_zero, List.length_map] at u1 u2
  unfold cin
  rw [Int.toNat_natCast, Int.toNat_natCast]
  generalize (rt isOne K 41 0 N).2 = L at hL u1 u2
  by_cases h1 : p.length = L.length
  · rw [u1, u2 h1, decide_eq_true h1, if_pos rfl]
    have e : pok p = p.all (fun n => decide (0 ≤ n ∧ n ≤ 1000002)) := by
      unfold pok
      rw [decide_eq_true (show p.length ≤ 20 by omega), Bool.and_true]
    rw [e]
    by_cases h2 : (0 ≤ r ∧ r ≤ 1000002) ∧ p.all (fun n => decide (0 ≤ n ∧ n ≤ 1000002)) = true
    · rw [if_pos ⟨h2.1, by omega, by omega, by omega, hs, h2.2⟩, if_pos ⟨h1, h2⟩]
    · rw [if_neg (fun h => h2 ⟨h.1, h.2.2.2.2.2⟩), if_neg (fun h => h2 h.2)]
  · have hne : ¬ (p.length = L.length ∧ (0 ≤ r ∧ r ≤ 1000002) ∧ p.all (fun n => decide (0 ≤ n ∧ n ≤ 1000002)) = true) := fun h => h1 h.1
    rw [u1, decide_eq_false h1, if_neg hne]
    split
    · rfl
    · rfl

theorem cin_bad {r n k : Int} {s : ByteArray} {p : List Int} (h : ¬ (n ≤ 40 ∧ 0 ≤ k ∧ k < n ∧ s.size ≤ 20)) : cin r n k s p = (false, false) := by
  unfold cin
  rw [if_neg (fun g => h ⟨g.2.1.2, g.2.2.1, g.2.2.2.1, g.2.2.2.2.1⟩)]

theorem one_textL (s : ByteArray) (w : World) : StAt (w.alloc (.cells #[.string s] 9)) (w.alloc (.cells #[.string s] 9)).heap.size (.slice (some ⟨w.heap.size, 0, none⟩) 1 1) [s] := one_text s w

/-- the rest of the check: up from a leaf -/
structure CkS (W wr : World) (b B : Nat) (u : Value) (P : List Nat) : Prop where
  tv : Tv wr b B u P
  gr : W.grownBy wr (some b)

attribute [local go_sem ↓] Go.wp_at_zero Go.wp_at_succ

set_option maxRecDepth 100000 in
set_option maxHeartbeats 4000000 in
theorem implCheckIn_bad (r n k : Int) (s : ByteArray) (p : List Int) (v : Value) (w : World) (hs : s.size ≤ 9223372036854775807) (hv : ZAt w w.heap.size v p) (hbad : ¬ (n ≤ 40 ∧ 0 ≤ k ∧ k < n ∧ s.size ≤ 20)) :
    Calls Try.prog 33 #[.int .i64 r, .int .i64 n, .int .i64 k, .string s, .agg #[v]] w fun e w' => e = .returned (.tuple #[.bool false, .bool false]) ∧ Below w.heap.size w w' := by
  obtain ⟨ao, cap, rfl, hlc, hcm, _⟩ := hv
  have hd : (40 : Int) < n ∨ (¬ (40 : Int) < n ∧ k < 0) ∨ (¬ (40 : Int) < n ∧ ¬ k < 0 ∧ n ≤ k) ∨ (¬ (40 : Int) < n ∧ ¬ k < 0 ∧ ¬ n ≤ k ∧ 20 < s.size) := by omega
  obtain ⟨W0, hW0⟩ : ∃ W, W = w.alloc (.cells #[.slice ao p.length cap] 37) := ⟨_, rfl⟩
  have hB0 : Below w.heap.size w W0 := by rw [hW0]; exact (Below.refl _ w).alloc (Nat.le_refl _) _
  clear hbad
  rcases hd with hd | ⟨hd, hd2⟩ | ⟨hd, hd2, hd3⟩ | ⟨hd, hd2, hd3, hd4⟩
  iterate 3
    · go_enter Try.func33, Try.ntmps33
      go_upto_region 1 with fail
      rw [← hW0]
      clear hW0
      go_wp2_with fail
      go_ret2
      exact ⟨rfl, hB0⟩
  · have C : Hid (Calls Try.prog 69 #[.int .i64 0, .int .i64 20, .slice (some ⟨W0.heap.size, 0, none⟩) 1 1] (W0.alloc (.cells #[.string s] 9)) fun e w' => e = .returned (.bool false) ∧ w' = W0.alloc (.cells #[.string s] 9)) := by
      have h := haveBytes_any 0 20 [s] _ _ (one_textL s W0) (fun i hi => by
        obtain rfl : i = 0 := by simpa using hi
        exact hs) (by simp)
      rw [hv_one, show decide ((s.size : Int) ≤ 20) = false by simp; omega, Bool.and_false] at h
      exact h
    go_enter Try.func33, Try.ntmps33
    go_upto_region 1 with fail
    rw [← hW0]
    clear hW0
    go_wp2_with fail
    go_at_call 69
    refine C.out.mono ?_
    rintro e w' ⟨rfl, rfl⟩
    go_wp2_with fail
    go_ret2
    exact ⟨rfl, hB0.alloc hB0.size _⟩

end Go.Proofs.Ytlglngmlaknmlaa
