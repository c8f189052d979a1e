/- The contract of the program's appendVarint: it puts the number's sevens behind the bytes that it is given. The contract of the model's l1Varint: the text of the number's sevens. The contracts of the two VarintOf at every int: both answer the text of the number's sevens, within the bounds alone. -/
import Derived.Test.YtmjpmmkjfimopaaDoorRows
import Derived.Lib.VarintMem
import Derived.Lib.Slices
import Derived.OwnWalk
import Derived.WalkKit
import Derived.ProofKit
import Derived.Laws.BytesArg
import Derived.Lib.LazyBuf
import Derived.Laws.Bits128
import Derived.Lib.SmallJoins
namespace Go.Proofs.YtmjpmmkjfimopaaDoor
open Go.RowKit

theorem Tryd.infoU8 : (Tryd.prog.info? 5).map (fun i => (i.zero, i.size, i.bytes)) = some (some (.int .u8 0), 1, 1) := by kernel_rfl

end Go.Proofs.YtmjpmmkjfimopaaDoor

namespace Go.Proofs.YtmjpmmkjfimopaaDoor
open Go.RowKit

theorem convert_own (w : World) (B g cap : Nat) (l : List UInt8) (h : w.ownsRow B 5 1 (.slice (some ⟨g, 0, none⟩) l.length cap) l.length (Lib.byteCells l)) :
    (convert 22 9 (.slice (some ⟨g, 0, none⟩) l.length cap)).run Tryd.prog w = .ok (.string ⟨l.toArray⟩) w := by
  rw [run_convert_bytes_arg w 22 5 Tryd.underlying22 Tryd.underlying5 g 0 l.length cap (l.map fun b => (b.toNat : Int)) (by simp) (fun i hi => by
    rw [Nat.zero_add, h.cellAt i (by omega)]
    simp [Lib.byteCells, List.getElem?_map, List.getElem?_eq_getElem hi, List.getD]) 9 Tryd.underlying9]
  rw [Go.Lib.Lz.strOfNums_map]

theorem str_snoc (l : List UInt8) (b : UInt8) : Value.string (({ data := l.toArray } : ByteArray) ++ ({ data := #[b] } : ByteArray)) = Value.string ⟨(l ++ [b]).toArray⟩ := by
  congr 1

theorem convert_one (w : World) (v : Nat) :
    (convert 22 9 (.slice (some ⟨w.heap.size, 0, none⟩) 1 1)).run Tryd.prog (w.alloc (.cells #[.int .u8 (v : Int)] 5)) = .ok (.string ⟨#[v.toUInt8]⟩) (w.alloc (.cells #[.int .u8 (v : Int)] 5)) := by
  rw [run_convert_bytes_arg _ 22 5 Tryd.underlying22 Tryd.underlying5 w.heap.size 0 1 1 [(v : Int)] (by simp) (fun i hi => by
    obtain rfl : i = 0 := by omega
    simp) 9 Tryd.underlying9]
  have e : strOfNums [(v : Int)] = ⟨#[v.toUInt8]⟩ := by simp [strOfNums]
  rw [e]

set_option maxRecDepth 100000 in
set_option maxHeartbeats 4000000 in
theorem l1Varint_any (x : Nat) (hx : x ≤ 2000000001) (w : World) :
    Calls Tryd.prog 95 #[.int .i64 x] w fun e w' => e = .returned (.string ⟨(Lib.uvarint x).toArray⟩) ∧ Below w.heap.size w w' := by
  have hlen := Lib.uvarint_length64 (x := x) (by omega)
  go_enter Tryd.func95, Tryd.ntmps95
  go_wp2
  go_loopw [0, 3] (fun vx vs wr => ∃ (y : Nat) (pre : List UInt8), vx = .int .i64 y ∧ y ≤ x ∧ Hid (Lib.uvarint x = pre ++ Lib.uvarint y) ∧ vs = .string ⟨pre.toArray⟩ ∧ Below w.heap.size w wr)
    (fun vx _ _ => (intOf vx).toNat)
  case atStart => exact ⟨x, [], rfl, Nat.le_refl _, rfl, rfl, Below.refl _ _⟩
  case round =>
    obtain ⟨y, pre, rfl, hy, HS, rfl, hnx⟩ := hrel
    have hpl : pre.length + (Lib.uvarint y).length ≤ 10 := by
      have h2 := congrArg List.length HS.out
      rw [List.length_append] at h2
      omega
    have hyp := Lib.uvarint_pos y
    have hpre : pre.length ≤ 9 := by omega
    clear hpl hyp hlen
    by_cases h128 : 128 ≤ y
    · obtain ⟨r, hr⟩ : ∃ r, r = y % 128 := ⟨_, rfl⟩
      have hr128 : r < 128 := by omega
      have hand : bits .and .i64 (y : Int) 127 = (r : Int) := by rw [i64_and127, hr]; omega
      obtain ⟨q, hq⟩ : ∃ q, q = r + 128 := ⟨_, rfl⟩
      have hq256 : q < 256 := by omega
      have hor : bits .or .u8 (r : Int) 128 = (q : Int) := by rw [u8_or128_right _ (by omega) (by omega), hq]; omega
      have hc := convert_one wr q
      have HQ : Hid (q = y % 128 + 128) := by rw [← hr]; exact hq
      clear hr hq
      go_wp2
      go_roundw
      case rel =>
        refine ⟨y / 128, pre ++ [q.toUInt8], by go_num, by omega, ?_, ?_, hnx.alloc hnx.size _⟩
        · show Lib.uvarint x = _
          rw [HS.out, Lib.uvarint_big h128, HQ.out]; simp
        · exact str_snoc pre q.toUInt8
      case measure => simp [intOf]; omega
    · have hc := convert_one wr y
      have hsm : Hid (Lib.uvarint y = [y.toUInt8]) := Lib.uvarint_small (by omega)
      go_wp2
      go_ret
      refine ⟨?_, hnx.alloc hnx.size _⟩
      rw [HS.out, hsm.out]
      exact congrArg Ending.returned (str_snoc pre y.toUInt8)
end Go.Proofs.YtmjpmmkjfimopaaDoor

namespace Go.Proofs.YtmjpmmkjfimopaaDoor
open Go.RowKit

/-- what VarintOf answers -/
def vo (a : Int) : ByteArray × Bool := if 0 ≤ a ∧ a ≤ 2000000001 then (⟨(Lib.uvarint a.toNat).toArray⟩, true) else (⟨#[]⟩, false)

theorem vo_in (x : Nat) (h : x ≤ 2000000001) : vo (x : Int) = (⟨(Lib.uvarint x).toArray⟩, true) := by
  unfold vo; rw [if_pos ⟨by omega, by omega⟩, Int.toNat_natCast]

theorem vo_out (a : Int) (h : ¬ (0 ≤ a ∧ a ≤ 2000000001)) : vo a = (⟨#[]⟩, false) := by
  unfold vo; rw [if_neg h]

end Go.Proofs.YtmjpmmkjfimopaaDoor
