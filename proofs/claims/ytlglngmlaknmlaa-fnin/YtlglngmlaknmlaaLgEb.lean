/- What FnGrew draws: logs and how long they were, a number, a place to split; whether sums are the same. -/
import Derived.Test.YtlglngmlaknmlaaLgEa
import Derived.Test.YtlglngmlaknmlaaLgDb
import Derived.Test.YtlglngmlaknmlaaLgGc
namespace Go.Proofs.Ytlglngmlaknmlaa
open Go.RowKit Plain Lgs Tpc

theorem CodeAt.keep {w w' : World} {ao : Option Addr} {len B : Nat} (h : CodeAt w ao len) (hb : Below B w w') (hB : B = w.heap.size) : CodeAt w' ao len := by
  subst hB
  exact h.below hb

set_option maxRecDepth 100000 in
set_option maxHeartbeats 4000000 in
theorem drawPG_any (ao : Option Addr) (len cap : Nat) (w : World) (h : CodeAt w ao len) :
    Calls Try.prog 38 #[.slice ao len cap] w fun e w' => (∃ (l : List ByteArray) (v : Value) (k : Int), e = .returned (.tuple #[v, .int .i64 k]) ∧ StRow w' w.heap.size v l ∧ l.length ≤ 41 ∧ Sht l) ∧ Below w.heap.size w w' := by
  have hC := Cur.made (cap := cap) h 98
  obtain ⟨W1, hW1⟩ : ∃ W, W = w.alloc (.cells #[.slice ao len cap, .int .i64 0, .int .u64 0] 98) := ⟨_, rfl⟩
  rw [← hW1] at hC
  have hB1 : Below w.heap.size w W1 := by rw [hW1]; exact (Below.refl _ w).alloc (Nat.le_refl _) _
  have hs1 : Hid (W1.heap.size = w.heap.size + 1) := by show _ = _; rw [hW1]; simp
  have HC : Hid (Cur W1 w.heap.size 0) := hC
  clear hC
  go_enter Try.func38, Try.ntmps38
  go_upto_region 2 with fail
  rw [← hW1]
  clear hW1
  go_wp2_with fail
  refine (log_any w.heap.size 0 W1 HC.out (by omega)).mono ?_
  rintro e w2 ⟨l, v, rfl, hR, hl, hS, hc2, hg2⟩
  have hB2 : Below w.heap.size w w2 := hB1.grown hg2 hB1.size (fun k hk => by simp at hk; omega)
  have HR : Hid (StRow w2 W1.heap.size v l) := hR
  obtain ⟨a2, c2, rfl⟩ := hR.slice
  have hlen : (l.length : Int) ≤ 41 := by omega
  clear hR hg2
  go_wp2_with fail
  refine (pick_any w.heap.size _ _ _ hc2 (by omega)).mono ?_
  rintro e w3 ⟨x, rfl, hx, hc3, hg3⟩
  have hB3 : Below w.heap.size w w3 := hB2.grown hg3 hB2.size (fun k hk => by simp at hk; omega)
  have hlt := World.ownsRow.lt HR.out
  have HR3 : Hid (StRow w3 w.heap.size (.slice a2 l.length c2) l) := by
    have h1 : w3.ownsRow W1.heap.size 9 1 (.slice a2 l.length c2) l.length (strs l) := own_grownL HR.out hg3 (fun g' hg' e => by have h1 := (hlt g' hg').1; have h2 := hs1.out; simp at e; omega)
    refine ⟨h1.1, ?_⟩
    rcases h1.2 with hn | ⟨g, cap, cur, hv, hg, rest⟩
    · exact .inl hn
    · exact .inr ⟨g, cap, cur, hv, by have h2 := hs1.out; omega, rest⟩
  clear hg3 hc3 hc2 hx HR
  go_wp2_with fail
  go_ret2
  exact ⟨⟨l, _, _, rfl, HR3.out, hl, hS⟩, hB3⟩

set_option maxRecDepth 100000 in
set_option maxHeartbeats 4000000 in
theorem drawSp_any (ao : Option Addr) (len cap : Nat) (w : World) (h : CodeAt w ao len) :
    Calls Try.prog 42 #[.slice ao len cap] w fun e w' => (∃ x : Nat, e = .returned (.int .i64 (x : Int))) ∧ Below w.heap.size w w' := by
  have hC := Cur.made (cap := cap) h 98
  obtain ⟨W1, hW1⟩ : ∃ W, W = w.alloc (.cells #[.slice ao len cap, .int .i64 0, .int .u64 0] 98) := ⟨_, rfl⟩
  rw [← hW1] at hC
  have hB1 : Below w.heap.size w W1 := by rw [hW1]; exact (Below.refl _ w).alloc (Nat.le_refl _) _
  have HC : Hid (Cur W1 w.heap.size 0) := hC
  clear hC
  go_enter Try.func42, Try.ntmps42
  go_upto_region 2 with fail
  rw [← hW1]
  clear hW1
  go_wp2_with fail
  refine (pick_any w.heap.size _ _ _ HC.out (by omega)).mono ?_
  rintro e w3 ⟨x, rfl, hx, hc3, hg3⟩
  have hB3 : Below w.heap.size w w3 := hB1.grown hg3 hB1.size (fun k hk => by simp at hk; omega)
  clear hg3 hc3 hx
  go_wp2_with fail
  go_ret
  exact ⟨⟨x, rfl⟩, hB3⟩

set_option maxRecDepth 100000 in
set_option maxHeartbeats 4000000 in
theorem numberOf_any (ao : Option Addr) (len cap : Nat) (w : World) (h : CodeAt w ao len) (hl : len ≤ 1048576) :
    Calls Try.prog 40 #[.slice ao len cap] w fun e w' => (∃ x : Nat, e = .returned (.int .i64 (x : Int)) ∧ x < 1000003) ∧ w' = w := by
  have HROW : Hid (∀ i, i < len → ∃ (g o y : Nat), ao = some ⟨g, o, none⟩ ∧ y < 256 ∧ w.cell? ⟨g, o + i, none⟩ = some (.int .u8 (y : Int))) := fun i hi => by
    obtain ⟨g, o, ha, _, hx⟩ := h.2 (by omega)
    obtain ⟨y, hy1, hy2⟩ := hx i hi
    exact ⟨g, o, y, ha, hy1, hy2⟩
  clear h
  go_enter Try.func40, Try.ntmps40
  go_wp2
  go_loopw [3, 8] (fun vn vi wr => ∃ (i n : Nat), i ≤ len ∧ vi = .int .i64 (i : Int) ∧ vn = .int .i64 (n : Int) ∧ n < 1000003 ∧ wr = w)
    (fun _ vi _ => len - (intOf vi).toNat)
  case atStart => exact ⟨0, 0, by omega, rfl, rfl, by omega, rfl⟩
  case round =>
    obtain ⟨i, n, hi, rfl, rfl, hn, rfl⟩ := hrel
    by_cases hlt : i < len
    · have hlt' : (i : Int) < (len : Int) := by omega
      obtain ⟨g, o, y, rfl, hy, c⟩ := HROW.out i hlt
      go_wp2
      go_roundw
      case rel => exact ⟨i + 1, (31 * n + y) % 1000003, by omega, by go_num, by first | (go_num; done) | (congr 1; omega) | (simp; omega), Nat.mod_lt _ (by omega), by first | rfl | trivial⟩
      case measure => simp [intOf]; omega
    · have hge : ¬ ((i : Int) < (len : Int)) := by omega
      go_wp2
      go_ret
      exact ⟨⟨n, rfl, hn⟩, rfl⟩

set_option maxRecDepth 100000 in
set_option maxHeartbeats 4000000 in
theorem sameIntsL (l : List Int) (v1 v2 : Value) (w : World) (h1 : ZAt w w.heap.size v1 l) (h2 : ZAt w w.heap.size v2 l) (hl : l.length ≤ 2097152) :
    Calls Try.prog 39 #[v1, v2] w fun e w' => e = .returned (.bool true) ∧ Below w.heap.size w w' := by
  obtain ⟨ao, cap, rfl, _, _, hrow⟩ := h1
  obtain ⟨ao2, cap2, rfl, _, _, hrow2⟩ := h2
  have hne : ((l.length : Int) != (l.length : Int)) = false := by simp
  have HROW : Hid (∀ i (x : Int), l[i]? = some x → ∃ g o, ao = some ⟨g, o, none⟩ ∧ g < w.heap.size ∧ w.cell? ⟨g, o + i, none⟩ = some (.int .i64 x)) := hrow
  have HROW2 : Hid (∀ i (x : Int), l[i]? = some x → ∃ g o, ao2 = some ⟨g, o, none⟩ ∧ g < w.heap.size ∧ w.cell? ⟨g, o + i, none⟩ = some (.int .i64 x)) := hrow2
  clear hrow hrow2
  go_enter Try.func39, Try.ntmps39
  go_wp2
  go_loopw [13] (fun vi wr => ∃ k : Nat, k ≤ l.length ∧ vi = .int .i64 (k : Int) ∧ Below w.heap.size w wr)
    (fun vi _ => l.length - (intOf vi).toNat)
  case atStart => exact ⟨0, by omega, rfl, Below.refl _ _⟩
  case round =>
    obtain ⟨k, hk, rfl, hbw⟩ := hrel
    by_cases hlt : k < l.length
    · obtain ⟨x, hx⟩ : ∃ x, l[k]? = some x := ⟨_, List.getElem?_eq_getElem hlt⟩
      obtain ⟨g, o, rfl, hgB, hy1⟩ := HROW.out k x hx
      obtain ⟨g2, o2, rfl, hgB2, hy2⟩ := HROW2.out k x hx
      have e1 := (hbw.cell (p := ⟨g, o + k, none⟩) hgB).trans hy1
      have e2 := (hbw.cell (p := ⟨g2, o2 + k, none⟩) hgB2).trans hy2
      clear hy1 hy2 hx
      have hlt' : (k : Int) < (l.length : Int) := by omega
      have hxx : (x != x) = false := by simp
      go_wp2
      go_quiet (fail)
      go_wp2
      go_roundw
      case rel => exact ⟨k + 1, by omega, by go_num, below_drewT hbw⟩
      case measure => simp [intOf]; omega
    · have hke : k = l.length := by omega
      subst hke
      have hge : ¬ ((l.length : Int) < (l.length : Int)) := by omega
      go_wp2
      go_ret
      exact ⟨rfl, hbw⟩

end Go.Proofs.Ytlglngmlaknmlaa
