/- The program's text of a schema: a type's text put behind bytes. -/
import Derived.Test.YtneaikkbpmeebaaDoorSxA
import Derived.Test.YtneaikkbpmeebaaDoorGg
import Derived.Deep.RegionLaw
import Derived.Deep.AppendLies
import Derived.Deep.Cut
namespace Go.Proofs.YtneaikkbpmeebaaDoor
open Go.RowKit Plain Sch

theorem taNumNum (v : Value) (w : World) : (Instr.typeAssert (.iface 62 v) 45 62 true).run Tryd.prog w = .ok (.tuple #[v, .bool true]) w := by kernel_rfl
theorem taTxtNum (v : Value) (w : World) : (Instr.typeAssert (.iface 63 v) 45 62 true).run Tryd.prog w = .ok (.tuple #[.agg #[], .bool false]) w := by kernel_rfl
theorem taEnuNum (v : Value) (w : World) : (Instr.typeAssert (.iface 65 v) 45 62 true).run Tryd.prog w = .ok (.tuple #[.agg #[], .bool false]) w := by kernel_rfl
theorem taLstNum (v : Value) (w : World) : (Instr.typeAssert (.iface 68 v) 45 62 true).run Tryd.prog w = .ok (.tuple #[.agg #[], .bool false]) w := by kernel_rfl
theorem taMsgNum (v : Value) (w : World) : (Instr.typeAssert (.iface 71 v) 45 62 true).run Tryd.prog w = .ok (.tuple #[.agg #[], .bool false]) w := by kernel_rfl
theorem taTxtTxt (v : Value) (w : World) : (Instr.typeAssert (.iface 63 v) 45 63 true).run Tryd.prog w = .ok (.tuple #[v, .bool true]) w := by kernel_rfl
theorem taEnuTxt (v : Value) (w : World) : (Instr.typeAssert (.iface 65 v) 45 63 true).run Tryd.prog w = .ok (.tuple #[.agg #[], .bool false]) w := by kernel_rfl
theorem taLstTxt (v : Value) (w : World) : (Instr.typeAssert (.iface 68 v) 45 63 true).run Tryd.prog w = .ok (.tuple #[.agg #[], .bool false]) w := by kernel_rfl
theorem taMsgTxt (v : Value) (w : World) : (Instr.typeAssert (.iface 71 v) 45 63 true).run Tryd.prog w = .ok (.tuple #[.agg #[], .bool false]) w := by kernel_rfl

theorem oneU8S {k : Int} : ∀ u ∈ [Value.int .u8 k], u.oneCell' = true := by
  intro u hu
  simp at hu
  subst hu
  rfl

theorem byteCells_pushS (l : List UInt8) (q : UInt8) : Lib.byteCells (l ++ [q]) = Lib.byteCells l ++ [Value.int .u8 (q.toNat : Int)] := by simp [Lib.byteCells]

/-- what a string puts behind a row -/
theorem BRow.str {w : World} {B : Nat} {v : Value} {l : List UInt8} {s : ByteArray} (h : w.ownsRow B 5 1 v (l.length + s.size) (Lib.byteCells l ++ Lib.strCells s)) : BRow w B v (l ++ s.data.toList) := by
  unfold BRow
  have h1 : Lib.byteCells (l ++ s.data.toList) = Lib.byteCells l ++ Lib.strCells s := by rw [strCells_bytes]; simp [Lib.byteCells]
  have h2 : (l ++ s.data.toList).length = l.length + s.size := by rw [List.length_append]; rfl
  rw [h1, h2]
  exact h

/-- what a byte puts behind a row -/
theorem BRow.one {w : World} {B : Nat} {v : Value} {l : List UInt8} (q : UInt8) (h : w.ownsRow B 5 1 v (l.length + 1) (Lib.byteCells l ++ [Value.int .u8 (q.toNat : Int)])) : BRow w B v (l ++ [q]) := by
  unfold BRow
  rw [byteCells_pushS, List.length_append]
  exact h

def ShapeC (d : Nat) : Prop := ∀ (t : Tr) (u : TypeId × Value) (l : List UInt8) (sv : Value) (B : Nat) (w : World) (S : Nat → Prop), ShIn d w S (.iface u.1 u.2) t → (∀ g, S g → g < B) → GT t → NmT t → BRow w B sv l → B ≤ w.heap.size → l.length + 25 * t.size ≤ 5016 →
  Calls Tryd.prog 15 #[sv, .iface u.1 u.2] w fun e w' => ∃ v', e = .returned v' ∧ BRow w' B v' (l ++ sx t) ∧ Below B w w'

set_option maxRecDepth 100000 in
set_option maxHeartbeats 4000000 in
theorem shape_num (l : List UInt8) (sv : Value) (B : Nat) (w : World) (hown : BRow w B sv l) (hBw : B ≤ w.heap.size) (hl : l.length ≤ 5000) :
    Calls Tryd.prog 15 #[sv, .iface 62 (.agg #[])] w fun e w' => ∃ v', e = .returned v' ∧ BRow w' B v' (l ++ [110, 117, 109]) ∧ Below B w w' := by
  obtain ⟨i0, hi, hz0, hz1, hz2⟩ := info_parts Tryd.infoU8
  obtain ⟨ao, cap, rfl⟩ := hown.form
  have HO : Hid (BRow w B (.slice ao l.length cap) l) := hown
  have t1 := taNumNum
  clear hown
  go_enter Tryd.func15, Tryd.ntmps15
  go_wp2_with (at_builtin; refine Lib.wpList_append_own_string _ rfl _ _ 42 9 rfl B 5 i0 Tryd.underlying42 Tryd.underlying9 hi hz0 hz1 hz2 _ _ _ rfl (World.ownsRow.alloc HO.out _) ⟨#[110, 117, 109]⟩ rfl ?c1 ?c2 ?c3 ?_)
  case c1 => show l.length + 3 ≤ _; unfold maxLen; omega
  case c2 => show l.length + 3 ≤ _; omega
  case c3 => simp; omega
  intro v' w2 hown' hgrow _
  have hB2 : Below B w w2 := ((Below.refl _ w).alloc hBw _).grown hgrow (by simp; omega) (fun k hk => (World.ownsRow.lt HO.out k hk).1)
  have hrow : Hid (BRow w2 B v' (l ++ [110, 117, 109])) := BRow.str hown'
  clear hown' hgrow
  go_wp2
  go_ret
  exact ⟨_, rfl, hrow.out, hB2⟩

end Go.Proofs.YtneaikkbpmeebaaDoor
