/- The model's sums and splits of logs. -/
import Derived.Test.YtlglngmlaknmlaaLgA
import Derived.Test.YtlglngmlaknmlaaXa
namespace Go.Proofs.Ytlglngmlaknmlaa
open Go.RowKit Plain Lgs Tpc

theorem idxL (s : ByteArray) (i : Nat) (h : i < s.size) : ∀ w : World, (Instr.index 9 (.string s) (.int .i64 (i : Int))).run Try.prog w = .ok (.int .u8 ((bt s i : Nat) : Int)) w := fun w => by
  rw [run_index_string w 9 s .i64 (i : Int) Try.underlying9, dif_pos ⟨by omega, by omega⟩]
  congr 2
  rw [← bt_get s i h]
  rfl

theorem StAt.take {w : World} {B : Nat} {L : List ByteArray} {ao : Option Addr} {n cap k : Nat} (h : StAt w B (.slice ao n cap) L) (hk : k ≤ L.length) : StAt w B (.slice ao k cap) (L.take k) := by
  obtain ⟨a, c, hv, hm, hc, hr⟩ := h
  simp only [Value.slice.injEq] at hv
  obtain ⟨rfl, rfl, rfl⟩ := hv
  have hl : (L.take k).length = k := by rw [List.length_take]; omega
  refine ⟨ao, cap, by rw [hl], by rw [hl]; omega, hc, fun i hi => ?_⟩
  rw [hl] at hi
  obtain ⟨g, o, ha, hg, cc⟩ := hr i (by omega)
  refine ⟨g, o, ha, hg, ?_⟩
  rw [cc]
  unfold lq
  rw [List.getD_eq_getElem?_getD, List.getD_eq_getElem?_getD, List.getElem?_take, if_pos hi]

/-- a log -/
def Lgs.lok (l : List ByteArray) : Bool := l.all (fun s => decide (s.size ≤ 20)) && decide (l.length ≤ 40)

set_option maxRecDepth 100000 in
set_option maxHeartbeats 4000000 in
theorem specLeaf (s : ByteArray) (w : World) (hs : s.size ≤ maxLen) :
    Calls Try.prog 15 #[.string s] w fun e w' => e = .returned (.int .i64 ((leaf s : Nat) : Int)) ∧ w' = w := by
  unfold maxLen at hs
  obtain ⟨R, hR⟩ : ∃ R, R = leaf s := ⟨_, rfl⟩
  have HR : Hid (R = leaf s) := hR
  rw [← hR]
  clear hR
  go_enter Try.func15, Try.ntmps15
  go_wp2
  go_loopw [3, 4] (fun vh vi wr => ∃ (i h : Nat), i ≤ s.size ∧ vi = .int .i64 (i : Int) ∧ vh = .int .i64 (h : Int) ∧ Hid (h = lfN s i) ∧ wr = w)
    (fun _ vi _ => s.size - (intOf vi).toNat)
  case atStart => exact ⟨0, 7, by omega, rfl, rfl, rfl, rfl⟩
  case round =>
    obtain ⟨i, h, hi, rfl, rfl, hh, rfl⟩ := hrel
    have hl : h < 1000003 := by rw [hh.out]; exact lfN_lt s i
    by_cases hlt : i < s.size
    · have hlt' : (i : Int) < (s.size : Int) := by omega
      have ixs := idxL s i hlt
      have HN : Hid (lfN s (i + 1) = (263 * h + bt s i + 1) % 1000003) := by rw [hh.out]; rfl
      have hb : bt s i < 256 := by unfold bt; rw [dif_pos hlt]; exact UInt8.toNat_lt _
      generalize bt s i = b at ixs HN hb
      go_wp2
      go_roundw
      case rel => exact ⟨i + 1, (263 * h + b + 1) % 1000003, by omega, by go_num, by first | (go_num; done) | (congr 1; omega) | (simp; omega), HN.out.symm, by first | rfl | trivial⟩
      case measure => simp [intOf]; omega
    · have hke : i = s.size := by omega
      have hge : ¬ ((i : Int) < (s.size : Int)) := by omega
      have HF : Hid (R = h) := by show _ = _; rw [HR.out, hh.out, hke]; rfl
      clear hke hh
      go_wp2
      go_ret
      exact ⟨by rw [HF.out]; rfl, rfl⟩

set_option maxRecDepth 100000 in
set_option maxHeartbeats 4000000 in
theorem l13Node_any (a b : Nat) (w : World) (ha : a < 1000003) (hb : b < 1000003) :
    Calls Try.prog 51 #[.int .i64 (a : Int), .int .i64 (b : Int)] w fun e w' => e = .returned (.int .i64 ((node a b : Nat) : Int)) ∧ w' = w := by
  have HN : Hid (((node a b : Nat) : Int) = (131 * (a : Int) + 17 * (b : Int) + 11) % 1000003) := by show _ = _; unfold node; omega
  go_enter Try.func51, Try.ntmps51
  go_wp2
  go_ret
  exact ⟨by rw [HN.out]; rfl, rfl⟩

set_option maxRecDepth 100000 in
set_option maxHeartbeats 4000000 in
theorem l13Split_any (n : Nat) (w : World) (hn : n ≤ 64) :
    Calls Try.prog 48 #[.int .i64 (n : Int)] w fun e w' => e = .returned (.int .i64 ((spl n : Nat) : Int)) ∧ w' = w := by
  obtain ⟨R, hR⟩ : ∃ R, R = spl n := ⟨_, rfl⟩
  have HR : Hid (splF 6 1 n = R) := hR.symm
  rw [← hR]
  clear hR
  go_enter Try.func48, Try.ntmps48
  go_wp2
  go_loopw [3] (fun vk wr => ∃ (f k : Nat), f ≤ 6 ∧ vk = .int .i64 (k : Int) ∧ Hid (splF f k n = R ∧ k * 2 ^ f = 64) ∧ wr = w)
    (fun vk _ => 64 - (intOf vk).toNat)
  case atStart => exact ⟨6, 1, by omega, rfl, ⟨HR.out, rfl⟩, rfl⟩
  case round =>
    obtain ⟨f, k, hf, rfl, hk, rfl⟩ := hrel
    clear HR
    have hk64 : 1 ≤ k ∧ k ≤ 64 := by
      have h := hk.out.2
      have hp := Nat.one_le_two_pow (n := f)
      refine ⟨Nat.pos_of_ne_zero (fun e => by rw [e] at h; simp at h), ?_⟩
      exact Nat.le_trans (Nat.le_mul_of_pos_right k hp) (Nat.le_of_eq h)
    obtain ⟨hk1, hk2⟩ := hk64
    by_cases hlt : 2 * k < n
    · have hlt' : (2 : Int) * (k : Int) < (n : Int) := by omega
      obtain ⟨f', rfl⟩ : ∃ f', f = f' + 1 := ⟨f - 1, by
        have h := hk.out.2
        match f, h with
        | 0, h => simp at h; omega
        | f + 1, _ => rfl⟩
      have HN : Hid (splF f' (2 * k) n = R ∧ 2 * k * 2 ^ f' = 64) := by
        have h := hk.out
        rw [splF, if_pos hlt] at h
        refine ⟨h.1, ?_⟩
        have h2 := h.2
        rw [Nat.pow_succ] at h2
        rw [← h2, Nat.mul_comm 2 k, Nat.mul_assoc, Nat.mul_comm 2]
      clear hk
      go_wp2
      go_roundw
      case rel => exact ⟨f', 2 * k, by omega, by first | go_num | (congr 1; omega), HN, by first | rfl | trivial⟩
      case measure => simp [intOf]; omega
    · have hge : ¬ ((2 : Int) * (k : Int) < (n : Int)) := by omega
      have HF : Hid (R = k) := by
        have h := hk.out.1
        show _ = _
        rw [← h]
        cases f with
        | zero => rfl
        | succ f => rw [splF, if_neg hlt]
      clear hk
      go_wp2
      go_ret
      exact ⟨by rw [HF.out]; rfl, rfl⟩

set_option maxRecDepth 100000 in
set_option maxHeartbeats 4000000 in
theorem l13Log_any (l : List ByteArray) (v : Value) (w : World) (hv : StAt w w.heap.size v l) :
    Calls Try.prog 54 #[v] w fun e w' => e = .returned (.bool (lok l)) ∧ w' = w := by
  obtain ⟨ao, cap, rfl, hlc, hcm, hrow⟩ := hv
  have HROW : Hid (∀ i, i < l.length → ∃ g o, ao = some ⟨g, o, none⟩ ∧ g < w.heap.size ∧ w.cell? ⟨g, o + i, none⟩ = some (.string (lq l i))) := hrow
  clear hrow
  unfold maxLen at hcm
  obtain ⟨R, hR⟩ : ∃ R, R = lok l := ⟨_, rfl⟩
  have HR : Hid (R = lok l) := hR
  rw [← hR]
  clear hR
  go_enter Try.func54, Try.ntmps54
  go_wp2
  go_loopw [7] (fun vi wr => ∃ i : Nat, i ≤ l.length ∧ vi = .int .i64 (i : Int) ∧ Hid (∀ j, j < i → (lq l j).size ≤ 20) ∧ wr = w)
    (fun vi _ => l.length - (intOf vi).toNat)
  case atStart => exact ⟨0, by omega, rfl, fun j hj => by omega, rfl⟩
  case round =>
    obtain ⟨i, hi, rfl, hix, rfl⟩ := hrel
    by_cases hlt : i < l.length
    · have hlt' : (i : Int) < (l.length : Int) := by omega
      obtain ⟨g, o, rfl, hg, c⟩ := HROW.out i hlt
      have HB : Hid (20 < (lq l i).size → R = false) := fun h => by
        show _ = _
        rw [HR.out]
        unfold lok
        rw [Bool.and_eq_false_iff]
        left
        rw [List.all_eq_false]
        exact ⟨lq l i, lq_mem hlt, by simp; omega⟩
      have HS : Hid (¬ 20 < (lq l i).size → ∀ j, j < i + 1 → (lq l j).size ≤ 20) := fun h j hj => by
        by_cases e : j = i
        · rw [e]; omega
        · exact hix.out j (by omega)
      generalize lq l i = s at c HB HS
      clear hix
      by_cases h20 : 20 < s.size
      · have h20' : (20 : Int) < (s.size : Int) := by omega
        have HF : Hid (R = false) := HB.out h20
        clear HB HS
        go_wp2
        go_ret
        exact ⟨by rw [HF.out]; rfl, rfl⟩
      · have h20' : ¬ ((20 : Int) < (s.size : Int)) := by omega
        have hN : Hid (∀ j, j < i + 1 → (lq l j).size ≤ 20) := HS.out h20
        clear HB HS
        go_wp2
        go_roundw
        case rel => exact ⟨i + 1, by omega, by go_num, hN, by first | rfl | trivial⟩
        case measure => simp [intOf]; omega
    · have hke : i = l.length := by omega
      have hge : ¬ ((i : Int) < (l.length : Int)) := by omega
      have HF : Hid (R = decide ((l.length : Int) ≤ 40)) := by
        show _ = _
        rw [HR.out]
        unfold lok
        rw [List.all_eq_true.2 (fun x hx => by
          obtain ⟨j, hj, rfl⟩ := List.getElem_of_mem hx
          have h := hix.out j (by omega)
          have e : lq l j = l[j] := by unfold lq; rw [List.getD, List.getElem?_eq_getElem hj]; rfl
          rw [e] at h
          simpa using h), Bool.true_and, decide_eq_decide]
        omega
      clear hke hix
      go_wp2
      go_ret
      exact ⟨by rw [HF.out]; rfl, rfl⟩

end Go.Proofs.Ytlglngmlaknmlaa
