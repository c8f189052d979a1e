/- Numbers up to 30 as text: strconv.AppendInt and the model's l1Num. -/
import Derived.Test.YtneaikkbpmeebaaDoorRows
import Derived.Lib.AppendStr
import Derived.Lib.VarintMem
import Derived.Lib.Slices
import Derived.OwnWalk
import Derived.WalkKit
import Derived.ProofKit
import Derived.Test.YtneaikkbpmeebaaDoorVarB
import Derived.Lib.SmallJoins
import Derived.Deep.RegionWith
namespace Go.Proofs.YtneaikkbpmeebaaDoor
open Go.RowKit

/-- a number of at most two digits -/
def dec (n : Nat) : List UInt8 := if n < 10 then [(48 + n).toUInt8] else [(48 + n / 10).toUInt8, (48 + n % 10).toUInt8]

theorem dec_len (n : Nat) : (dec n).length ≤ 2 := by unfold dec; split <;> simp

set_option maxRecDepth 100000 in
set_option maxHeartbeats 4000000 in
theorem small_dec (n : Nat) (h : n < 31) (w : World) :
    Calls Tryd.prog 43 #[.int .i64 (n : Int)] w fun e w' => e = .returned (.string ⟨(dec n).toArray⟩) ∧ w' = w := by
  match n, h with
  | 0, _ =>
    go_enter Tryd.func43, Tryd.ntmps43
    go_wp2
    go_ret
    exact ⟨rfl, rfl⟩
  | 1, _ =>
    go_enter Tryd.func43, Tryd.ntmps43
    go_wp2
    go_ret
    exact ⟨rfl, rfl⟩
  | 2, _ =>
    go_enter Tryd.func43, Tryd.ntmps43
    go_wp2
    go_ret
    exact ⟨rfl, rfl⟩
  | 3, _ =>
    go_enter Tryd.func43, Tryd.ntmps43
    go_wp2
    go_ret
    exact ⟨rfl, rfl⟩
  | 4, _ =>
    go_enter Tryd.func43, Tryd.ntmps43
    go_wp2
    go_ret
    exact ⟨rfl, rfl⟩
  | 5, _ =>
    go_enter Tryd.func43, Tryd.ntmps43
    go_wp2
    go_ret
    exact ⟨rfl, rfl⟩
  | 6, _ =>
    go_enter Tryd.func43, Tryd.ntmps43
    go_wp2
    go_ret
    exact ⟨rfl, rfl⟩
  | 7, _ =>
    go_enter Tryd.func43, Tryd.ntmps43
    go_wp2
    go_ret
    exact ⟨rfl, rfl⟩
  | 8, _ =>
    go_enter Tryd.func43, Tryd.ntmps43
    go_wp2
    go_ret
    exact ⟨rfl, rfl⟩
  | 9, _ =>
    go_enter Tryd.func43, Tryd.ntmps43
    go_wp2
    go_ret
    exact ⟨rfl, rfl⟩
  | 10, _ =>
    go_enter Tryd.func43, Tryd.ntmps43
    go_wp2
    go_ret
    exact ⟨rfl, rfl⟩
  | 11, _ =>
    go_enter Tryd.func43, Tryd.ntmps43
    go_wp2
    go_ret
    exact ⟨rfl, rfl⟩
  | 12, _ =>
    go_enter Tryd.func43, Tryd.ntmps43
    go_wp2
    go_ret
    exact ⟨rfl, rfl⟩
  | 13, _ =>
    go_enter Tryd.func43, Tryd.ntmps43
    go_wp2
    go_ret
    exact ⟨rfl, rfl⟩
  | 14, _ =>
    go_enter Tryd.func43, Tryd.ntmps43
    go_wp2
    go_ret
    exact ⟨rfl, rfl⟩
  | 15, _ =>
    go_enter Tryd.func43, Tryd.ntmps43
    go_wp2
    go_ret
    exact ⟨rfl, rfl⟩
  | 16, _ =>
    go_enter Tryd.func43, Tryd.ntmps43
    go_wp2
    go_ret
    exact ⟨rfl, rfl⟩
  | 17, _ =>
    go_enter Tryd.func43, Tryd.ntmps43
    go_wp2
    go_ret
    exact ⟨rfl, rfl⟩
  | 18, _ =>
    go_enter Tryd.func43, Tryd.ntmps43
    go_wp2
    go_ret
    exact ⟨rfl, rfl⟩
  | 19, _ =>
    go_enter Tryd.func43, Tryd.ntmps43
    go_wp2
    go_ret
    exact ⟨rfl, rfl⟩
  | 20, _ =>
    go_enter Tryd.func43, Tryd.ntmps43
    go_wp2
    go_ret
    exact ⟨rfl, rfl⟩
  | 21, _ =>
    go_enter Tryd.func43, Tryd.ntmps43
    go_wp2
    go_ret
    exact ⟨rfl, rfl⟩
  | 22, _ =>
    go_enter Tryd.func43, Tryd.ntmps43
    go_wp2
    go_ret
    exact ⟨rfl, rfl⟩
  | 23, _ =>
    go_enter Tryd.func43, Tryd.ntmps43
    go_wp2
    go_ret
    exact ⟨rfl, rfl⟩
  | 24, _ =>
    go_enter Tryd.func43, Tryd.ntmps43
    go_wp2
    go_ret
    exact ⟨rfl, rfl⟩
  | 25, _ =>
    go_enter Tryd.func43, Tryd.ntmps43
    go_wp2
    go_ret
    exact ⟨rfl, rfl⟩
  | 26, _ =>
    go_enter Tryd.func43, Tryd.ntmps43
    go_wp2
    go_ret
    exact ⟨rfl, rfl⟩
  | 27, _ =>
    go_enter Tryd.func43, Tryd.ntmps43
    go_wp2
    go_ret
    exact ⟨rfl, rfl⟩
  | 28, _ =>
    go_enter Tryd.func43, Tryd.ntmps43
    go_wp2
    go_ret
    exact ⟨rfl, rfl⟩
  | 29, _ =>
    go_enter Tryd.func43, Tryd.ntmps43
    go_wp2
    go_ret
    exact ⟨rfl, rfl⟩
  | 30, _ =>
    go_enter Tryd.func43, Tryd.ntmps43
    go_wp2
    go_ret
    exact ⟨rfl, rfl⟩
  | n + 31, h => exact absurd h (by omega)

theorem strCells_dec (l : List UInt8) : Lib.strCells ⟨l.toArray⟩ = Lib.byteCells l := by simp [Lib.strCells, Lib.byteCells]
theorem strCells_bytes (s : ByteArray) : Lib.strCells s = Lib.byteCells s.data.toList := rfl

def BRow (w : World) (B : Nat) (v : Value) (l : List UInt8) : Prop := w.ownsRow B 5 1 v l.length (Lib.byteCells l)

theorem BRow.form {w : World} {B : Nat} {v : Value} {l : List UInt8} (h : BRow w B v l) : ∃ ao cap, v = Value.slice ao l.length cap := by
  rcases h.2 with ⟨rfl, h0⟩ | ⟨g, cap, _, rfl, _⟩
  · exact ⟨none, 0, by rw [h0]⟩
  · exact ⟨_, _, rfl⟩

set_option maxRecDepth 100000 in
set_option maxHeartbeats 1000000 in
theorem appendUint_dec (n : Nat) (h : n < 31) (B : Nat) (l : List UInt8) (sv : Value) (w : World) (hown : BRow w B sv l) (hBw : B ≤ w.heap.size) (hl : l.length ≤ 1000000) :
    Calls Tryd.prog 42 #[sv, .int .u64 (n : Int), .int .i64 10] w fun e w' => ∃ v', e = .returned v' ∧ BRow w' B v' (l ++ dec n) ∧ Below B w w' ∧ w.grownBy w' sv.ownBlock := by
  obtain ⟨i0, hi, hz0, hz1, hz2⟩ := info_parts Tryd.infoU8
  obtain ⟨q, hq⟩ : ∃ q, Hid (q = dec n) := ⟨_, rfl⟩
  rw [← hq.out]
  have hql : q.length ≤ 2 := by rw [hq.out]; exact dec_len n
  have HC : Hid (∀ W : World, Calls Tryd.prog 43 #[.int .i64 (n : Int)] W fun e w' => e = .returned (.string ⟨q.toArray⟩) ∧ w' = W) := fun W => by rw [hq.out]; exact small_dec n h W
  obtain ⟨ao, cap, rfl⟩ := hown.form
  have h100 : (n : Int) < 100 := by omega
  have HO : Hid (BRow w B (.slice ao l.length cap) l) := hown
  clear hown
  go_enter Tryd.func42, Tryd.ntmps42
  go_wp2_with fail
  refine (HC.out _).mono ?_
  rintro e w1 ⟨rfl, rfl⟩
  go_wp2_with (at_builtin; refine Lib.wpList_append_own_string _ rfl _ _ 42 9 rfl B 5 i0 Tryd.underlying42 Tryd.underlying9 hi hz0 hz1 hz2 _ _ _ rfl HO.out ⟨q.toArray⟩ rfl ?c1 ?c2 hBw ?_)
  case c1 => show l.length + q.length ≤ _; unfold maxLen; omega
  case c2 => show l.length + q.length ≤ _; omega
  intro v' w2 hown' hgrow _
  have hB2 : Below B w1 w2 := (Below.refl _ w1).grown hgrow hBw (fun k hk => (World.ownsRow.lt HO.out k hk).1)
  have hrow : Hid (BRow w2 B v' (l ++ q)) := by
    show BRow _ _ _ _
    unfold BRow
    have h1 : Lib.byteCells (l ++ q) = Lib.byteCells l ++ Lib.strCells ⟨q.toArray⟩ := by rw [strCells_dec]; simp [Lib.byteCells]
    rw [h1, List.length_append]
    exact hown'
  have hgr2 := hgrow
  clear hown' hgrow
  go_wp2
  go_ret
  exact ⟨_, rfl, hrow.out, hB2, hgr2⟩

set_option maxRecDepth 100000 in
set_option maxHeartbeats 1000000 in
theorem appendInt_dec (n : Nat) (h : n < 31) (B : Nat) (l : List UInt8) (sv : Value) (w : World) (hown : BRow w B sv l) (hBw : B ≤ w.heap.size) (hl : l.length ≤ 1000000) :
    Calls Tryd.prog 39 #[sv, .int .i64 (n : Int), .int .i64 10] w fun e w' => ∃ v', e = .returned v' ∧ BRow w' B v' (l ++ dec n) ∧ Below B w w' ∧ w.grownBy w' sv.ownBlock := by
  have HC := appendUint_dec n h B l sv w hown hBw hl
  obtain ⟨q, hq⟩ : ∃ q, Hid (q = dec n) := ⟨_, rfl⟩
  rw [← hq.out] at HC ⊢
  have HC : Hid (Calls Tryd.prog 42 #[sv, .int .u64 (n : Int), .int .i64 10] w fun e w' => ∃ v', e = .returned v' ∧ BRow w' B v' (l ++ q) ∧ Below B w w' ∧ w.grownBy w' sv.ownBlock) := HC
  obtain ⟨ao, cap, rfl⟩ := hown.form
  have h0 : ¬ ((n : Int) < 0) := by omega
  have h100 : (n : Int) < 100 := by omega
  clear hown
  go_enter Tryd.func39, Tryd.ntmps39
  go_wp2_with fail
  refine HC.out.mono ?_
  rintro e w1 ⟨v', rfl, hr, hb, hgr⟩
  have HR : Hid (BRow w1 B v' (l ++ q)) := hr
  clear hr
  go_wp2
  go_ret
  exact ⟨_, rfl, HR.out, hb, hgr⟩

set_option maxRecDepth 100000 in
set_option maxHeartbeats 1000000 in
theorem strconvInt_dec (n : Nat) (h : n < 31) (B : Nat) (l : List UInt8) (sv : Value) (w : World) (hown : BRow w B sv l) (hBw : B ≤ w.heap.size) (hl : l.length ≤ 1000000) :
    Calls Tryd.prog 27 #[sv, .int .i64 (n : Int), .int .i64 10] w fun e w' => ∃ v', e = .returned v' ∧ BRow w' B v' (l ++ dec n) ∧ Below B w w' ∧ w.grownBy w' sv.ownBlock := by
  have HC := appendInt_dec n h B l sv w hown hBw hl
  obtain ⟨q, hq⟩ : ∃ q, Hid (q = dec n) := ⟨_, rfl⟩
  rw [← hq.out] at HC ⊢
  have HC : Hid (Calls Tryd.prog 39 #[sv, .int .i64 (n : Int), .int .i64 10] w fun e w' => ∃ v', e = .returned v' ∧ BRow w' B v' (l ++ q) ∧ Below B w w' ∧ w.grownBy w' sv.ownBlock) := HC
  obtain ⟨ao, cap, rfl⟩ := hown.form
  clear hown
  go_enter Tryd.func27, Tryd.ntmps27
  go_wp2_with fail
  refine HC.out.mono ?_
  rintro e w1 ⟨v', rfl, hr, hb, hgr⟩
  have HR : Hid (BRow w1 B v' (l ++ q)) := hr
  clear hr
  go_wp2
  go_ret
  exact ⟨_, rfl, HR.out, hb, hgr⟩

end Go.Proofs.YtneaikkbpmeebaaDoor
