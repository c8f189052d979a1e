/- One digit put behind bytes: strconv.AppendInt of a small number. -/
import Derived.Test.YtlmhjkcollohnaaDoorRows
import Derived.Lib.AppendStr
import Derived.Lib.VarintMem
import Derived.Lib.Slices
import Derived.OwnWalk
import Derived.WalkKit
import Derived.ProofKit
import Derived.Test.YtlmhjkcollohnaaDoorVarA
import Derived.Lib.SmallJoins
namespace Go.Proofs.YtlmhjkcollohnaaDoor
open Go.RowKit

set_option maxRecDepth 100000 in
set_option maxHeartbeats 1000000 in
theorem small_any (n : Nat) (h : n < 10) (w : World) :
    Calls Tryd.prog 109 #[.int .i64 (n : Int)] w fun e w' => e = .returned (.string ⟨#[(48 + n).toUInt8]⟩) ∧ w' = w := by
  match n, h with
  | 0, _ => go_enter Tryd.func109, Tryd.ntmps109
            go_wp2
            go_ret
            exact ⟨rfl, rfl⟩
  | 1, _ => go_enter Tryd.func109, Tryd.ntmps109
            go_wp2
            go_ret
            exact ⟨rfl, rfl⟩
  | 2, _ => go_enter Tryd.func109, Tryd.ntmps109
            go_wp2
            go_ret
            exact ⟨rfl, rfl⟩
  | 3, _ => go_enter Tryd.func109, Tryd.ntmps109
            go_wp2
            go_ret
            exact ⟨rfl, rfl⟩
  | 4, _ => go_enter Tryd.func109, Tryd.ntmps109
            go_wp2
            go_ret
            exact ⟨rfl, rfl⟩
  | 5, _ => go_enter Tryd.func109, Tryd.ntmps109
            go_wp2
            go_ret
            exact ⟨rfl, rfl⟩
  | 6, _ => go_enter Tryd.func109, Tryd.ntmps109
            go_wp2
            go_ret
            exact ⟨rfl, rfl⟩
  | 7, _ => go_enter Tryd.func109, Tryd.ntmps109
            go_wp2
            go_ret
            exact ⟨rfl, rfl⟩
  | 8, _ => go_enter Tryd.func109, Tryd.ntmps109
            go_wp2
            go_ret
            exact ⟨rfl, rfl⟩
  | 9, _ => go_enter Tryd.func109, Tryd.ntmps109
            go_wp2
            go_ret
            exact ⟨rfl, rfl⟩

theorem strCells_one (q : UInt8) : Lib.strCells ⟨#[q]⟩ = Lib.byteCells [q] := rfl
theorem strCells_bytes (s : ByteArray) : Lib.strCells s = Lib.byteCells s.data.toList := rfl

def BRow (w : World) (B : Nat) (v : Value) (l : List UInt8) : Prop := w.ownsRow B 5 1 v l.length (Lib.byteCells l)

theorem BRow.form {w : World} {B : Nat} {v : Value} {l : List UInt8} (h : BRow w B v l) : ∃ ao cap, v = Value.slice ao l.length cap := by
  rcases h.2 with ⟨rfl, h0⟩ | ⟨g, cap, _, rfl, _⟩
  · exact ⟨none, 0, by rw [h0]⟩
  · exact ⟨_, _, rfl⟩

set_option maxRecDepth 100000 in
set_option maxHeartbeats 1000000 in
theorem appendUint_digit (n : Nat) (h : n < 10) (B : Nat) (l : List UInt8) (sv : Value) (w : World) (hown : BRow w B sv l) (hBw : B ≤ w.heap.size) (hl : l.length ≤ 1000000) :
    Calls Tryd.prog 108 #[sv, .int .u64 (n : Int), .int .i64 10] w fun e w' => ∃ v', e = .returned v' ∧ BRow w' B v' (l ++ [(48 + n).toUInt8]) ∧ Below B w w' := by
  obtain ⟨i0, hi, hz0, hz1, hz2⟩ := info_parts Tryd.infoU8
  obtain ⟨q, hq⟩ : ∃ q, Hid (q = (48 + n).toUInt8) := ⟨_, rfl⟩
  rw [← hq.out]
  have HC : Hid (∀ W : World, Calls Tryd.prog 109 #[.int .i64 (n : Int)] W fun e w' => e = .returned (.string ⟨#[q]⟩) ∧ w' = W) := fun W => by rw [hq.out]; exact small_any n h W
  obtain ⟨ao, cap, rfl⟩ := hown.form
  have h100 : (n : Int) < 100 := by omega
  have HO : Hid (BRow w B (.slice ao l.length cap) l) := hown
  clear hown
  go_enter Tryd.func108, Tryd.ntmps108
  go_wp2_with fail
  refine (HC.out _).mono ?_
  rintro e w1 ⟨rfl, rfl⟩
  go_wp2_with (at_builtin; refine Lib.wpList_append_own_string _ rfl _ _ 47 9 rfl B 5 i0 Tryd.underlying47 Tryd.underlying9 hi hz0 hz1 hz2 _ _ _ rfl HO.out ⟨#[q]⟩ rfl ?c1 ?c2 hBw ?_)
  case c1 => show l.length + 1 ≤ _; unfold maxLen; omega
  case c2 => show l.length + 1 ≤ _; omega
  intro v' w2 hown' hgrow _
  have hB2 : Below B w1 w2 := (Below.refl _ w1).grown hgrow hBw (fun k hk => (World.ownsRow.lt HO.out k hk).1)
  have hrow : Hid (BRow w2 B v' (l ++ [q])) := by
    show BRow _ _ _ _
    unfold BRow
    have h1 : Lib.byteCells (l ++ [q]) = Lib.byteCells l ++ Lib.strCells ⟨#[q]⟩ := by rw [strCells_one]; simp [Lib.byteCells]
    rw [h1, List.length_append]
    exact hown'
  clear hown' hgrow
  go_wp2
  go_ret
  exact ⟨_, rfl, hrow.out, hB2⟩

set_option maxRecDepth 100000 in
set_option maxHeartbeats 1000000 in
theorem appendInt_digit (n : Nat) (h : n < 10) (B : Nat) (l : List UInt8) (sv : Value) (w : World) (hown : BRow w B sv l) (hBw : B ≤ w.heap.size) (hl : l.length ≤ 1000000) :
    Calls Tryd.prog 102 #[sv, .int .i64 (n : Int), .int .i64 10] w fun e w' => ∃ v', e = .returned v' ∧ BRow w' B v' (l ++ [(48 + n).toUInt8]) ∧ Below B w w' := by
  have HC := appendUint_digit n h B l sv w hown hBw hl
  obtain ⟨q, hq⟩ : ∃ q, Hid (q = (48 + n).toUInt8) := ⟨_, rfl⟩
  rw [← hq.out] at HC ⊢
  have HC : Hid (Calls Tryd.prog 108 #[sv, .int .u64 (n : Int), .int .i64 10] w fun e w' => ∃ v', e = .returned v' ∧ BRow w' B v' (l ++ [q]) ∧ Below B w w') := HC
  obtain ⟨ao, cap, rfl⟩ := hown.form
  have h0 : ¬ ((n : Int) < 0) := by omega
  have h100 : (n : Int) < 100 := by omega
  clear hown
  go_enter Tryd.func102, Tryd.ntmps102
  go_wp2_with fail
  refine HC.out.mono ?_
  rintro e w1 ⟨v', rfl, hr, hb⟩
  have HR : Hid (BRow w1 B v' (l ++ [q])) := hr
  clear hr
  go_wp2
  go_ret
  exact ⟨_, rfl, HR.out, hb⟩

set_option maxRecDepth 100000 in
set_option maxHeartbeats 1000000 in
theorem strconvInt_digit (n : Nat) (h : n < 10) (B : Nat) (l : List UInt8) (sv : Value) (w : World) (hown : BRow w B sv l) (hBw : B ≤ w.heap.size) (hl : l.length ≤ 1000000) :
    Calls Tryd.prog 83 #[sv, .int .i64 (n : Int), .int .i64 10] w fun e w' => ∃ v', e = .returned v' ∧ BRow w' B v' (l ++ [(48 + n).toUInt8]) ∧ Below B w w' := by
  have HC := appendInt_digit n h B l sv w hown hBw hl
  obtain ⟨q, hq⟩ : ∃ q, Hid (q = (48 + n).toUInt8) := ⟨_, rfl⟩
  rw [← hq.out] at HC ⊢
  have HC : Hid (Calls Tryd.prog 102 #[sv, .int .i64 (n : Int), .int .i64 10] w fun e w' => ∃ v', e = .returned v' ∧ BRow w' B v' (l ++ [q]) ∧ Below B w w') := HC
  obtain ⟨ao, cap, rfl⟩ := hown.form
  clear hown
  go_enter Tryd.func83, Tryd.ntmps83
  go_wp2_with fail
  refine HC.out.mono ?_
  rintro e w1 ⟨v', rfl, hr, hb⟩
  have HR : Hid (BRow w1 B v' (l ++ [q])) := hr
  clear hr
  go_wp2
  go_ret
  exact ⟨_, rfl, HR.out, hb⟩

end Go.Proofs.YtlmhjkcollohnaaDoor
