/- The contract of the model's l1Varint: the text of the number's sevens. -/
import Derived.Test.YtneaikkbpmeebaaDoorVarA
import Derived.Laws.BytesArg
import Derived.Lib.LazyBuf
import Derived.Laws.Bits128
namespace Go.Proofs.YtneaikkbpmeebaaDoor
open Go.RowKit

theorem convert_own (w : World) (B g cap : Nat) (l : List UInt8) (h : w.ownsRow B 5 1 (.slice (some ⟨g, 0, none⟩) l.length cap) l.length (Lib.byteCells l)) :
    (convert 42 9 (.slice (some ⟨g, 0, none⟩) l.length cap)).run Tryd.prog w = .ok (.string ⟨l.toArray⟩) w := by
  rw [run_convert_bytes_arg w 42 5 Tryd.underlying42 Tryd.underlying5 g 0 l.length cap (l.map fun b => (b.toNat : Int)) (by simp) (fun i hi => by
    rw [Nat.zero_add, h.cellAt i (by omega)]
    simp [Lib.byteCells, List.getElem?_map, List.getElem?_eq_getElem hi, List.getD]) 9 Tryd.underlying9]
  rw [Go.Lib.Lz.strOfNums_map]

theorem str_snoc (l : List UInt8) (b : UInt8) : Value.string (({ data := l.toArray } : ByteArray) ++ ({ data := #[b] } : ByteArray)) = Value.string ⟨(l ++ [b]).toArray⟩ := by
  congr 1

theorem convert_one (w : World) (v : Nat) :
    (convert 42 9 (.slice (some ⟨w.heap.size, 0, none⟩) 1 1)).run Tryd.prog (w.alloc (.cells #[.int .u8 (v : Int)] 5)) = .ok (.string ⟨#[v.toUInt8]⟩) (w.alloc (.cells #[.int .u8 (v : Int)] 5)) := by
  rw [run_convert_bytes_arg _ 42 5 Tryd.underlying42 Tryd.underlying5 w.heap.size 0 1 1 [(v : Int)] (by simp) (fun i hi => by
    obtain rfl : i = 0 := by omega
    simp) 9 Tryd.underlying9]
  have e : strOfNums [(v : Int)] = ⟨#[v.toUInt8]⟩ := by simp [strOfNums]
  rw [e]

end Go.Proofs.YtneaikkbpmeebaaDoor
