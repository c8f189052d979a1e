/- The law's own texts of marks. -/
import Derived.Test.YtfcfgdcofndjdaaDoorRows
import Derived.Laws.BytesArg
import Derived.Lib.LazyBuf
import Derived.Lib.Slices
import Derived.OwnWalk
import Derived.WalkKit
import Derived.ProofKit
import Derived.Deep.QuietTactic
import Derived.BigQuiet
namespace Go.Proofs.YtfcfgdcofndjdaaDoor
open Go.RowKit

/-- the digits of a number ahead of others -/
def dg : Nat → Nat → List UInt8 → List UInt8
  | 0, _, acc => acc
  | f + 1, y, acc => if y = 0 then acc else dg f (y / 10) ((48 + y % 10).toUInt8 :: acc)

theorem dg_zero (f : Nat) (acc : List UInt8) : dg f 0 acc = acc := by cases f <;> simp [dg]
theorem dg_more (f y : Nat) (acc : List UInt8) (h : y ≠ 0) : dg (f + 1) y acc = dg f (y / 10) ((48 + y % 10).toUInt8 :: acc) := by rw [dg, if_neg h]

/-- the text of a mark -/
def mt (k : Nat) : ByteArray := ⟨(109 :: dg k k []).toArray⟩

theorem convert_oneM (w : World) (v : Nat) :
    (convert 39 9 (.slice (some ⟨w.heap.size, 0, none⟩) 1 1)).run Tryd.prog (w.alloc (.cells #[.int .u8 (v : Int)] 5)) = .ok (.string ⟨#[v.toUInt8]⟩) (w.alloc (.cells #[.int .u8 (v : Int)] 5)) := by
  rw [run_convert_bytes_arg _ 39 5 Tryd.underlying39 Tryd.underlying5 w.heap.size 0 1 1 [(v : Int)] (by simp) (fun i hi => by
    obtain rfl : i = 0 := by omega
    simp) 9 Tryd.underlying9]
  have e : strOfNums [(v : Int)] = ⟨#[v.toUInt8]⟩ := by simp [strOfNums]
  rw [e]

theorem str_cons (l : List UInt8) (b : UInt8) : Value.string (({ data := #[b] } : ByteArray) ++ ({ data := l.toArray } : ByteArray)) = Value.string ⟨(b :: l).toArray⟩ := by
  congr 1

set_option maxRecDepth 100000 in
set_option maxHeartbeats 4000000 in
theorem markText_any (k : Nat) (h1 : 1 ≤ k) (h2 : k ≤ 1000000000) (w : World) :
    Calls Tryd.prog 12 #[.int .i64 k] w fun e w' => e = .returned (.string (mt k)) ∧ Below w.heap.size w w' := by
  have h1' : ¬ ((k : Int) ≤ 0) := by omega
  obtain ⟨R, hR⟩ : ∃ R, R = mt k := ⟨_, rfl⟩
  rw [← hR]
  have HR : Hid (R = ⟨(109 :: dg k k []).toArray⟩) := hR
  clear hR
  go_enter Tryd.func12, Tryd.ntmps12
  go_wp2
  go_loopw [0, 3] (fun vk vs wr => ∃ (f y : Nat) (acc : List UInt8), vk = .int .i64 (y : Int) ∧ vs = .string ⟨acc.toArray⟩ ∧ y ≤ f ∧ acc.length + y ≤ k ∧ Hid (R = ⟨(109 :: dg f y acc).toArray⟩) ∧ Below w.heap.size w wr)
    (fun vk _ _ => (intOf vk).toNat)
  case atStart => exact ⟨k, k, [], rfl, rfl, Nat.le_refl _, by simp, HR, Below.refl _ _⟩
  case round =>
    obtain ⟨f, y, acc, rfl, rfl, hf, hal, hr, hb⟩ := hrel
    by_cases h0 : y = 0
    · subst h0
      rw [dg_zero] at hr
      go_wp2
      go_ret
      refine ⟨?_, hb⟩
      rw [hr.out]
      exact congrArg Ending.returned (str_cons acc 109)
    · obtain ⟨f, rfl⟩ : ∃ f', f = f' + 1 := ⟨f - 1, by omega⟩
      rw [dg_more f y acc h0] at hr
      have hpos : 0 < (y : Int) := by omega
      obtain ⟨q, hq⟩ : ∃ q, q = 48 + y % 10 := ⟨_, rfl⟩
      have hqi : (48 : Int) + (y : Int) % 10 = (q : Int) := by omega
      have hq256 : q < 256 := by omega
      have HQ : Hid (q = 48 + y % 10) := hq
      have hc := convert_oneM wr q
      rw [← hq] at hr
      clear hq h0
      go_wp2
      go_roundw
      case rel =>
        refine ⟨f, y / 10, q.toUInt8 :: acc, by go_num, ?_, by omega, by simp; omega, hr, hb.alloc hb.size _⟩
        exact str_cons acc q.toUInt8
      case measure => simp [intOf]; omega

theorem markText_int (a : Int) (h1 : 1 ≤ a) (h2 : a ≤ 1000000000) (w : World) :
    Calls Tryd.prog 12 #[.int .i64 a] w fun e w' => e = .returned (.string (mt a.toNat)) ∧ Below w.heap.size w w' := by
  obtain ⟨n, rfl⟩ := Int.eq_ofNat_of_zero_le (show 0 ≤ a by omega)
  rw [Int.toNat_natCast]
  exact markText_any n (by omega) (by omega) w

end Go.Proofs.YtfcfgdcofndjdaaDoor
