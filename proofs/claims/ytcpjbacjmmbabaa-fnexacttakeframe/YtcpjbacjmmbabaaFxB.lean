/- Sums and frames of texts: the model's and the program's. -/
import Derived.Test.YtcpjbacjmmbabaaFxA
import Derived.Test.YtcpjbacjmmbabaaFrB
import Derived.Deep.RegionHeld3
import Derived.Deep.DrawnRows
namespace Go.Proofs.Ytcpjbacjmmbabaa
open Go.RowKit Plain Tpc Frm

/-- a text's bytes -/
def ul (s : ByteArray) : List UInt8 := s.data.toList
theorem ul_len (s : ByteArray) : (ul s).length = s.size := rfl
theorem ul_inj {a b : ByteArray} (h : ul a = ul b) : a = b := by
  apply ByteArray.ext
  exact Array.toList_inj.1 h
/-- bytes as a text -/
def tx (l : List UInt8) : ByteArray := ⟨l.toArray⟩
theorem ul_tx (l : List UInt8) : ul (tx l) = l := rfl
theorem tx_ul (s : ByteArray) : tx (ul s) = s := rfl
theorem tx_size (l : List UInt8) : (tx l).size = l.length := by
  show l.toArray.size = l.length
  simp
theorem ul_at (s : ByteArray) (i : Nat) (h : i < s.size) : (ul s)[i]? = some (s[i]'h) := by
  unfold ul
  rw [List.getElem?_eq_getElem (by simpa using h)]
  rfl
theorem bt_ul (s : ByteArray) (i : Nat) : bt s i = ((ul s).getD i 0).toNat := by
  by_cases h : i < s.size
  · rw [← bt_get s i h, List.getD_eq_getElem?_getD, ul_at s i h]
    rfl
  · unfold bt
    rw [dif_neg h, List.getD_eq_getElem?_getD, List.getElem?_eq_none (by rw [ul_len]; omega)]
    rfl
theorem ul_append (a b : ByteArray) : ul (a ++ b) = ul a ++ ul b := by
  unfold ul
  rw [ByteArray.data_append, Array.toList_append]
theorem tx_append (a b : List UInt8) : tx (a ++ b) = tx a ++ tx b := ul_inj (by rw [ul_append, ul_tx, ul_tx, ul_tx])
theorem ul_cut (s : ByteArray) (a b : Nat) : ul (s.extract a b) = ((ul s).take b).drop a := by
  unfold ul
  rw [ByteArray.data_extract, Array.toList_extract, List.extract_eq_take_drop, List.drop_take]

def fsA (s : ByteArray) (i : Nat) : Nat := fsum ((ul s).take i)
theorem fsA_lt (s : ByteArray) (i : Nat) : fsA s i < 251 := fsum_lt _
theorem fsA_step (s : ByteArray) (i : Nat) (h : i < s.size) : fsA s (i + 1) = (31 * fsA s i + bt s i) % 251 := by
  unfold fsA fsum
  rw [List.take_add_one, ul_at s i h, bt_ul, List.getD_eq_getElem?_getD, ul_at s i h]
  exact fsumN_snoc _ _ _
theorem fsA_all (s : ByteArray) : fsA s s.size = fsum (ul s) := by
  unfold fsA
  rw [List.take_of_length_le (Nat.le_of_eq (ul_len s))]

set_option maxRecDepth 100000 in
set_option maxHeartbeats 4000000 in
theorem l14Sum_any (s : ByteArray) (w : World) (hs : s.size ≤ maxLen) :
    Calls Try.prog 45 #[.string s] w fun e w' => e = .returned (.int .i64 ((fsum (ul s) : Nat) : Int)) ∧ w' = w := by
  unfold maxLen at hs
  obtain ⟨R, hR⟩ : ∃ R, R = fsum (ul s) := ⟨_, rfl⟩
  have HR : Hid (R = fsum (ul s)) := hR
  rw [← hR]
  clear hR
  go_enter Try.func45, Try.ntmps45
  go_wp2
  go_loopw [3, 4] (fun vh vi wr => ∃ (i h : Nat), i ≤ s.size ∧ vi = .int .i64 (i : Int) ∧ vh = .int .i64 (h : Int) ∧ Hid (h = fsA s i) ∧ wr = w)
    (fun _ vi _ => s.size - (intOf vi).toNat)
  case atStart => exact ⟨0, 1, by omega, rfl, rfl, rfl, rfl⟩
  case round =>
    obtain ⟨i, h, hi, rfl, rfl, hh, rfl⟩ := hrel
    have hl : h < 251 := by rw [hh.out]; exact fsA_lt s i
    by_cases hlt : i < s.size
    · have hlt' : (i : Int) < (s.size : Int) := by omega
      have ixs := idxL s i hlt
      have HN : Hid (fsA s (i + 1) = (31 * h + bt s i) % 251) := by rw [hh.out]; exact fsA_step s i hlt
      have hb : bt s i < 256 := bt_lt s i
      generalize bt s i = b at ixs HN hb
      go_wp2
      go_roundw
      case rel => exact ⟨i + 1, (31 * h + b) % 251, by omega, by go_num, by first | (go_num; done) | (congr 1; omega) | (simp; omega), HN.out.symm, by first | rfl | trivial⟩
      case measure => simp [intOf]; omega
    · have hke : i = s.size := by omega
      have hge : ¬ ((i : Int) < (s.size : Int)) := by omega
      have HF : Hid (R = h) := by show _ = _; rw [HR.out, hh.out, hke, fsA_all]
      clear hke hh
      go_wp2
      go_ret
      exact ⟨by rw [HF.out]; rfl, rfl⟩

set_option maxRecDepth 100000 in
set_option maxHeartbeats 4000000 in
theorem frameSum_any (s : ByteArray) (w : World) (hs : s.size ≤ maxLen) :
    Calls Try.prog 46 #[.string s] w fun e w' => e = .returned (.int .i64 ((fsum (ul s) : Nat) : Int)) ∧ w' = w := by
  unfold maxLen at hs
  obtain ⟨R, hR⟩ : ∃ R, R = fsum (ul s) := ⟨_, rfl⟩
  have HR : Hid (R = fsum (ul s)) := hR
  rw [← hR]
  clear hR
  go_enter Try.func46, Try.ntmps46
  go_wp2
  go_loopw [3, 7] (fun vh vi wr => ∃ (i h : Nat), i ≤ s.size ∧ vi = .int .i64 (i : Int) ∧ vh = .int .i64 (h : Int) ∧ Hid (h = fsA s i) ∧ wr = w)
    (fun _ vi _ => s.size - (intOf vi).toNat)
  case atStart => exact ⟨0, 1, by omega, rfl, rfl, rfl, rfl⟩
  case round =>
    obtain ⟨i, h, hi, rfl, rfl, hh, rfl⟩ := hrel
    have hl : h < 251 := by rw [hh.out]; exact fsA_lt s i
    by_cases hlt : i < s.size
    · have hlt' : (i : Int) < (s.size : Int) := by omega
      have ixs := idxL s i hlt
      have HN : Hid (fsA s (i + 1) = (31 * h + bt s i) % 251) := by rw [hh.out]; exact fsA_step s i hlt
      have hb : bt s i < 256 := bt_lt s i
      generalize bt s i = b at ixs HN hb
      go_wp2
      go_roundw
      case rel => exact ⟨i + 1, (31 * h + b) % 251, by omega, by go_num, by first | (go_num; done) | (congr 1; omega) | (simp; omega), HN.out.symm, by first | rfl | trivial⟩
      case measure => simp [intOf]; omega
    · have hke : i = s.size := by omega
      have hge : ¬ ((i : Int) < (s.size : Int)) := by omega
      have HF : Hid (R = h) := by show _ = _; rw [HR.out, hh.out, hke, fsA_all]
      clear hke hh
      go_wp2
      go_ret
      exact ⟨by rw [HF.out]; rfl, rfl⟩

/-- what FrameSum tells -/
theorem specSum (s : ByteArray) (w : World) (hs : s.size ≤ maxLen) :
    Calls Try.prog 13 #[.string s] w fun e w' => e = .returned (.tuple #[.int .i64 (if s.size ≤ 60 then ((fsum (ul s) : Nat) : Int) else 0), .bool (decide (s.size ≤ 60))]) ∧ w' = w := by
  have C := l14Sum_any s w hs
  unfold maxLen at hs
  generalize fsum (ul s) = r at C ⊢
  by_cases h : s.size ≤ 60
  · rw [if_pos h, decide_eq_true h]
    have h' : ¬ ((60 : Int) < (s.size : Int)) := by omega
    go_enter Try.func13, Try.ntmps13
    go_wp2_with fail
    go_at_call 45
    refine C.mono ?_
    rintro e w' ⟨rfl, rfl⟩
    go_wp2_with fail
    go_ret2
    exact ⟨rfl, rfl⟩
  · rw [if_neg h, decide_eq_false h]
    have h' : ((60 : Int) < (s.size : Int)) := by omega
    go_enter Try.func13, Try.ntmps13
    go_wp2_with fail
    go_ret2
    exact ⟨rfl, rfl⟩

theorem implSum (s : ByteArray) (w : World) (hs : s.size ≤ maxLen) :
    Calls Try.prog 14 #[.string s] w fun e w' => e = .returned (.tuple #[.int .i64 (if s.size ≤ 60 then ((fsum (ul s) : Nat) : Int) else 0), .bool (decide (s.size ≤ 60))]) ∧ w' = w := by
  have C := frameSum_any s w hs
  unfold maxLen at hs
  generalize fsum (ul s) = r at C ⊢
  by_cases h : s.size ≤ 60
  · rw [if_pos h, decide_eq_true h]
    have h' : ¬ ((60 : Int) < (s.size : Int)) := by omega
    go_enter Try.func14, Try.ntmps14
    go_wp2_with fail
    go_at_call 46
    refine C.mono ?_
    rintro e w' ⟨rfl, rfl⟩
    go_wp2_with fail
    go_ret2
    exact ⟨rfl, rfl⟩
  · rw [if_neg h, decide_eq_false h]
    have h' : ((60 : Int) < (s.size : Int)) := by omega
    go_enter Try.func14, Try.ntmps14
    go_wp2_with fail
    go_ret2
    exact ⟨rfl, rfl⟩

end Go.Proofs.Ytcpjbacjmmbabaa
