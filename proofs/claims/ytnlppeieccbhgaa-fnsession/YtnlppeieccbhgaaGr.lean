/- The law's own texts of marks. The law's own marks in lists of impl.Type: marks that are put, marks that are held. -/
import Derived.Test.YtnlppeieccbhgaaRows
import Derived.Laws.BytesArg
import Derived.Lib.LazyBuf
import Derived.Lib.Slices
import Derived.OwnWalk
import Derived.WalkKit
import Derived.ProofKit
import Derived.Deep.QuietTactic
import Derived.BigQuiet
import Derived.Test.YtnlppeieccbhgaaGb
import Derived.Lib.SmallJoins
import Derived.Lib.BufferOwn
import Derived.Deep.RegionWith
namespace Go.Proofs.Ytnlppeieccbhgaa
open Go.RowKit

/-- the digits of a number ahead of others -/
def dg : Nat → Nat → List UInt8 → List UInt8
  | 0, _, acc => acc
  | f + 1, y, acc => if y = 0 then acc else dg f (y / 10) ((48 + y % 10).toUInt8 :: acc)

theorem dg_zero (f : Nat) (acc : List UInt8) : dg f 0 acc = acc := by cases f <;> simp [dg]
theorem dg_more (f y : Nat) (acc : List UInt8) (h : y ≠ 0) : dg (f + 1) y acc = dg f (y / 10) ((48 + y % 10).toUInt8 :: acc) := by rw [dg, if_neg h]

/-- the text of a mark -/
def mt (k : Nat) : ByteArray := ⟨(109 :: dg k k []).toArray⟩

theorem convert_oneM (w : World) (v : Nat) :
    (convert 65 9 (.slice (some ⟨w.heap.size, 0, none⟩) 1 1)).run Try.prog (w.alloc (.cells #[.int .u8 (v : Int)] 5)) = .ok (.string ⟨#[v.toUInt8]⟩) (w.alloc (.cells #[.int .u8 (v : Int)] 5)) := by
  rw [run_convert_bytes_arg _ 65 5 Try.underlying65 Try.underlying5 w.heap.size 0 1 1 [(v : Int)] (by simp) (fun i hi => by
    obtain rfl : i = 0 := by omega
    simp) 9 Try.underlying9]
  have e : strOfNums [(v : Int)] = ⟨#[v.toUInt8]⟩ := by simp [strOfNums]
  rw [e]

theorem str_cons (l : List UInt8) (b : UInt8) : Value.string (({ data := #[b] } : ByteArray) ++ ({ data := l.toArray } : ByteArray)) = Value.string ⟨(b :: l).toArray⟩ := by
  congr 1

set_option maxRecDepth 100000 in
set_option maxHeartbeats 4000000 in
theorem markText_any (k : Nat) (h1 : 1 ≤ k) (h2 : k ≤ 1000000000) (w : World) :
    Calls Try.prog 70 #[.int .i64 k] w fun e w' => e = .returned (.string (mt k)) ∧ Below w.heap.size w w' := by
  have h1' : ¬ ((k : Int) ≤ 0) := by omega
  obtain ⟨R, hR⟩ : ∃ R, R = mt k := ⟨_, rfl⟩
  rw [← hR]
  have HR : Hid (R = ⟨(109 :: dg k k []).toArray⟩) := hR
  clear hR
  go_enter Try.func70, Try.ntmps70
  go_wp2
  go_loopw [0, 3] (fun vk vs wr => ∃ (f y : Nat) (acc : List UInt8), vk = .int .i64 (y : Int) ∧ vs = .string ⟨acc.toArray⟩ ∧ y ≤ f ∧ acc.length + y ≤ k ∧ Hid (R = ⟨(109 :: dg f y acc).toArray⟩) ∧ Below w.heap.size w wr)
    (fun vk _ _ => (intOf vk).toNat)
  case atStart => exact ⟨k, k, [], rfl, rfl, Nat.le_refl _, by simp, HR, Below.refl _ _⟩
  case round =>
    obtain ⟨f, y, acc, rfl, rfl, hf, hal, hr, hb⟩ := hrel
    by_cases h0 : y = 0
    · subst h0
      rw [dg_zero] at hr
      go_wp2
      go_ret
      refine ⟨?_, hb⟩
      rw [hr.out]
      exact congrArg Ending.returned (str_cons acc 109)
    · obtain ⟨f, rfl⟩ : ∃ f', f = f' + 1 := ⟨f - 1, by omega⟩
      rw [dg_more f y acc h0] at hr
      have hpos : 0 < (y : Int) := by omega
      obtain ⟨q, hq⟩ : ∃ q, q = 48 + y % 10 := ⟨_, rfl⟩
      have hqi : (48 : Int) + (y : Int) % 10 = (q : Int) := by omega
      have hq256 : q < 256 := by omega
      have HQ : Hid (q = 48 + y % 10) := hq
      have hc := convert_oneM wr q
      rw [← hq] at hr
      clear hq h0
      go_wp2
      go_roundw
      case rel =>
        refine ⟨f, y / 10, q.toUInt8 :: acc, by go_num, ?_, by omega, by simp; omega, hr, hb.alloc hb.size _⟩
        exact str_cons acc q.toUInt8
      case measure => simp [intOf]; omega

theorem markText_int (a : Int) (h1 : 1 ≤ a) (h2 : a ≤ 1000000000) (w : World) :
    Calls Try.prog 70 #[.int .i64 a] w fun e w' => e = .returned (.string (mt a.toNat)) ∧ Below w.heap.size w w' := by
  obtain ⟨n, rfl⟩ := Int.eq_ofNat_of_zero_le (show 0 ≤ a by omega)
  rw [Int.toNat_natCast]
  exact markText_any n (by omega) (by omega) w

end Go.Proofs.Ytnlppeieccbhgaa

namespace Go.Proofs.Ytnlppeieccbhgaa
open Go.RowKit

theorem own_belowT {w w' : World} {B e size n : Nat} {v : Value} {xs : List Value} (h : w.ownsRow B e size v n xs) (hb : Below w.heap.size w w') : w'.ownsRow B e size v n xs := by
  refine ⟨h.1, ?_⟩
  rcases h.2 with hn | ⟨g, cap, cur, hv, hg, hgg, rest⟩
  · exact .inl hn
  · exact .inr ⟨g, cap, cur, hv, hg, (hb.block g (Array.getElem?_eq_some_iff.1 hgg).1).trans hgg, rest⟩

theorem grow_belowT {w w' : World} {row : Option Nat} (hb : Below w.heap.size w w') : w.grownBy w' row := ⟨hb.os, hb.tape, hb.output, hb.size, fun j hj _ => hb.block j hj⟩

/-- the mark of a cell -/
def mcT (k j : Nat) : Value :=
  match j % 6 with
  | 1 => .string (mt (k + j))
  | 3 => .bool (((k + j : Nat) : Int) % 3 == 0)
  | _ => .int .i64 ((k + j : Nat) : Int)

theorem mcT_0 (k i : Nat) : mcT k (i * 6) = .int .i64 ((k + (i * 6) : Nat) : Int) := by
  unfold mcT
  rw [show (i * 6) % 6 = 0 by omega]
  rfl

theorem mcT_1 (k i : Nat) : mcT k (i * 6 + 1) = .string (mt (k + (i * 6 + 1))) := by
  unfold mcT
  rw [show (i * 6 + 1) % 6 = 1 by omega]
  rfl

theorem mcT_2 (k i : Nat) : mcT k (i * 6 + 2) = .int .i64 ((k + (i * 6 + 2) : Nat) : Int) := by
  unfold mcT
  rw [show (i * 6 + 2) % 6 = 2 by omega]
  rfl

theorem mcT_3 (k i : Nat) : mcT k (i * 6 + 3) = .bool (((k + (i * 6 + 3) : Nat) : Int) % 3 == 0) := by
  unfold mcT
  rw [show (i * 6 + 3) % 6 = 3 by omega]
  rfl

theorem mcT_4 (k i : Nat) : mcT k (i * 6 + 4) = .int .i64 ((k + (i * 6 + 4) : Nat) : Int) := by
  unfold mcT
  rw [show (i * 6 + 4) % 6 = 4 by omega]
  rfl

theorem mcT_5 (k i : Nat) : mcT k (i * 6 + 5) = .int .i64 ((k + (i * 6 + 5) : Nat) : Int) := by
  unfold mcT
  rw [show (i * 6 + 5) % 6 = 5 by omega]
  rfl

theorem setT_marks (ys : List Value) (k i n : Nat) (hl : ys.length = n * 6) (hi : i < n) (hm : ∀ j, j < i * 6 → ys[j]? = some (mcT k j)) : ∀ j, j < (i + 1) * 6 →
    ((((((ys.set (i * 6) (mcT k (i * 6))).set (i * 6 + 1) (mcT k (i * 6 + 1))).set (i * 6 + 2) (mcT k (i * 6 + 2))).set (i * 6 + 3) (mcT k (i * 6 + 3))).set (i * 6 + 4) (mcT k (i * 6 + 4))).set (i * 6 + 5) (mcT k (i * 6 + 5)))[j]? = some (mcT k j) := by
  intro j hj
  simp only [List.getElem?_set, List.length_set]
  by_cases h5 : i * 6 + 5 = j
  · rw [if_pos h5, if_pos (by omega), h5]
  · rw [if_neg h5]
    by_cases h4 : i * 6 + 4 = j
    · rw [if_pos h4, if_pos (by omega), h4]
    · rw [if_neg h4]
      by_cases h3 : i * 6 + 3 = j
      · rw [if_pos h3, if_pos (by omega), h3]
      · rw [if_neg h3]
        by_cases h2 : i * 6 + 2 = j
        · rw [if_pos h2, if_pos (by omega), h2]
        · rw [if_neg h2]
          by_cases h1 : i * 6 + 1 = j
          · rw [if_pos h1, if_pos (by omega), h1]
          · rw [if_neg h1]
            by_cases h0 : i * 6 = j
            · rw [if_pos h0, if_pos (by omega), h0]
            · rw [if_neg h0]
              exact hm j (by omega)

/-- marks that lie in a slice's cells -/
def MarksAtT (w : World) (B : Nat) (v : Value) (n k : Nat) : Prop :=
  ∃ ao cap, v = .slice ao n cap ∧ n ≤ maxLen ∧ ∀ j, j < n * 6 → ∃ g o, ao = some ⟨g, o, none⟩ ∧ g < B ∧ w.cell? ⟨g, o + j, none⟩ = some (mcT k j)

theorem MarksAtT.below {w w' : World} {v : Value} {n k B : Nat} (h : MarksAtT w B v n k) (hb : Below B w w') (hB : B ≤ w.heap.size := by exact Nat.le_refl _) : MarksAtT w' w'.heap.size v n k := by
  obtain ⟨ao, cap, hv, hm, hr⟩ := h
  refine ⟨ao, cap, hv, hm, fun j hj => ?_⟩
  obtain ⟨g, o, ha, hg, c⟩ := hr j hj
  have := hb.size
  exact ⟨g, o, ha, by omega, (hb.cell (p := ⟨g, o + j, none⟩) hg).trans c⟩

end Go.Proofs.Ytnlppeieccbhgaa
