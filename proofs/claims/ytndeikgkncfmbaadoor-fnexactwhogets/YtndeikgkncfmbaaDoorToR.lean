/- The program's inOrder: sorted, and what is alike cut out. -/
import Derived.Test.YtndeikgkncfmbaaDoorToQ
import Derived.LoopN
import Derived.Lib.BufferOwn
namespace Go.Proofs.YtndeikgkncfmbaaDoor
open Go.RowKit Plain Tpc

set_option maxHeartbeats 1000000 in
set_option maxRecDepth 100000 in
theorem insertNone (p : Option Addr) (cap : Nat) (w : World) :
    Calls Tryd.prog 85 #[.slice p 0 cap, .int .i64 0, .int .i64 0] w fun e w' => e = .returned (.tuple #[]) ∧ w' = w := by
  go_enter Tryd.func85, Tryd.ntmps85
  go_wp2
  refine wp_loop_rounds 1 ?_
  rw [rounds_succ]
  go_wp2
  go_end0
  exact ⟨rfl, rfl⟩

set_option maxHeartbeats 1000000 in
set_option maxRecDepth 100000 in
theorem pdqNone (p : Option Addr) (cap : Nat) (w : World) :
    Calls Tryd.prog 80 #[.slice p 0 cap, .int .i64 0, .int .i64 0, .int .i64 0] w fun e w' => e = .returned (.tuple #[]) ∧ w' = w := by
  go_enter Tryd.func80, Tryd.ntmps80
  go_wp2
  refine wp_loop_rounds 1 ?_
  rw [rounds_succ]
  go_wp2_with fail
  refine (insertNone p cap _).mono ?_
  rintro e w' ⟨rfl, rfl⟩
  go_wp2
  (try simp only [Exit.inBlock, Exit.then])
  refine bodyPost_ret (results_none rfl _ _ _) rfl ?_
  exact ⟨rfl, rfl⟩

set_option maxHeartbeats 1000000 in
set_option maxRecDepth 100000 in
theorem len64None (w : World) :
    Calls Tryd.prog 95 #[.int .u64 0] w fun e w' => e = .returned (.int .i64 0) ∧ w' = w := by
  have e8 : Lib.len8 0 = 0 := by decide
  go_enter Tryd.func95, Tryd.ntmps95
  go_wp2
  go_ret
  exact ⟨by first | rfl | (show Ending.returned (Value.int .i64 (wrap64 (wrap64 (Lib.len8 0)))) = _; rw [e8]; rfl), rfl⟩

set_option maxHeartbeats 1000000 in
set_option maxRecDepth 100000 in
theorem lenNone (w : World) :
    Calls Tryd.prog 81 #[.int .u64 0] w fun e w' => e = .returned (.int .i64 0) ∧ w' = w := by
  go_enter Tryd.func81, Tryd.ntmps81
  go_wp2_with fail
  refine (len64None _).mono ?_
  rintro e w' ⟨rfl, rfl⟩
  go_wp2
  go_ret
  exact ⟨rfl, rfl⟩

set_option maxHeartbeats 1000000 in
set_option maxRecDepth 100000 in
theorem sortNone (p : Option Addr) (cap : Nat) (w : World) :
    Calls Tryd.prog 73 #[.slice p 0 cap] w fun e w' => e = .returned (.tuple #[]) ∧ w' = w := by
  go_enter Tryd.func73, Tryd.ntmps73
  go_wp2_with fail
  refine (lenNone _).mono ?_
  rintro e w' ⟨rfl, rfl⟩
  go_wp2_with fail
  refine (pdqNone p cap _).mono ?_
  rintro e w' ⟨rfl, rfl⟩
  go_wp2
  go_end0
  exact ⟨rfl, rfl⟩

theorem own_cut {w : World} {B e g n cap k : Nat} {xs : List Value} (h : w.ownsRow B e 1 (.slice (some ⟨g, 0, none⟩) n cap) n xs) (hk : k ≤ n) : w.ownsRow B e 1 (.slice (some ⟨g, 0, none⟩) k cap) k (xs.take k) := by
  obtain ⟨h0, h1 | ⟨g', cap', cur, hv, hB, hb, hn, hc, hs, ht⟩⟩ := h
  · cases h1.1
  · simp only [Value.slice.injEq, Option.some.injEq, Addr.mk.injEq, and_true, true_and] at hv
    obtain ⟨rfl, rfl⟩ := hv
    refine ⟨by rw [List.length_take]; omega, .inr ⟨g, cap, cur, rfl, hB, hb, by omega, hc, hs, ?_⟩⟩
    rw [← ht, List.take_take]
    congr 1
    omega

theorem intz_zn (l : List Nat) : intz l = (zn l).map (Value.int .i64) := by
  unfold intz zn
  rw [List.map_map]
  rfl

set_option maxRecDepth 100000 in
set_option maxHeartbeats 8000000 in
theorem inOrder_any (l : List Nat) (v : Value) (B : Nat) (w : World) (h : w.ownsRow B 3 1 v l.length (intz l)) (hl : l.length ≤ 1000) :
    Calls Tryd.prog 56 #[v] w fun e w' => (∃ r, e = .returned r ∧ w'.ownsRow B 3 1 r (puts [] l).length (intz (puts [] l)) ∧ ∀ g, r.ownBlock = some g → v.ownBlock = some g) ∧ w.grownBy w' v.ownBlock := by
  have hEQ : Hid (Lib.compact ((zn l).mergeSort fun x y => decide (x ≤ y)) = zn (puts [] l)) := sort_puts l
  rcases h.2 with ⟨rfl, h00⟩ | ⟨g, cap3, cur, rfl, hbase, hb, h1, h2, h3, h4⟩
  · have hnil : l = [] := List.length_eq_zero_iff.1 h00
    subst hnil
    clear h hEQ
    go_enter Tryd.func56, Tryd.ntmps56
    go_wp2_with fail
    refine (sortNone none 0 _).mono ?_
    rintro e w2 ⟨rfl, rfl⟩
    go_wp2_with fail
    refine (Tryd.slices_Compact_int_empty none 0 _).mono ?_
    rintro e w3 ⟨rfl, rfl⟩
    go_wp2
    go_ret
    exact ⟨⟨_, rfl, World.ownsRow_nil _ _ _ _, fun g hg => hg⟩, ⟨rfl, rfl, rfl, Nat.le_refl _, fun _ _ _ => rfl⟩⟩
  by_cases hzero : l.length = 0
  · have hnil : l = [] := List.length_eq_zero_iff.1 hzero
    subst hnil
    have HH : Hid (w.ownsRow B 3 1 (.slice (some ⟨g, 0, none⟩) 0 cap3) 0 []) := h
    clear h hEQ hb h4
    go_enter Tryd.func56, Tryd.ntmps56
    go_wp2_with fail
    refine (sortNone (some ⟨g, 0, none⟩) cap3 _).mono ?_
    rintro e w2 ⟨rfl, rfl⟩
    go_wp2_with fail
    refine (Tryd.slices_Compact_int_empty (some ⟨g, 0, none⟩) cap3 _).mono ?_
    rintro e w3 ⟨rfl, rfl⟩
    go_wp2
    go_ret
    exact ⟨⟨_, rfl, HH.out, fun g hg => hg⟩, ⟨rfl, rfl, rfl, Nat.le_refl _, fun _ _ _ => rfl⟩⟩
  have hzl : (zn l).length = l.length := by unfold zn; rw [List.length_map]
  rw [intz_zn] at h4
  obtain ⟨zs, hzs⟩ : ∃ zs, zs = zn l := ⟨_, rfl⟩
  rw [← hzs] at hEQ hzl h4
  rw [← hzl] at h1 h4 hl
  have hc := Tryd.slices_Sort_int g 0 cap3 zs w (holds_of_blockI hb (by simpa using h4)) (Array.getElem?_eq_some_iff.1 hb).1 (by omega)
  rw [hzl] at hc
  have HC : Hid (Calls Tryd.prog 73 #[.slice (some ⟨g, 0, none⟩) l.length cap3] w fun e w' => e = .returned (.tuple #[]) ∧ ∃ n os, w' = Go.Sort.grow (Go.Sort.putRow (Value.int .i64) (Go.Sort.ahead w n) g 0 (zs.mergeSort fun x y => decide (x ≤ y)).toArray) os) := hc
  have hgs : g < w.heap.size := (Array.getElem?_eq_some_iff.1 hb).1
  clear hc h hzs
  go_enter Tryd.func56, Tryd.ntmps56
  go_wp2_with fail
  refine HC.out.mono ?_
  rintro e w6 ⟨rfl, n6, os6, rfl⟩
  have hl6 : (zs.mergeSort fun x y => decide (x ≤ y)).length = zs.length := by simp
  have hO6 := ownsRow_sortedI (n := n6) (os := os6) (base := B) (e := 3) hl6 hbase hb h1 h2 h3
  have hG6 := grownBy_sortedI (w := w) (g := g) (n := n6) (os := os6) (zs.mergeSort fun x y => decide (x ≤ y)).toArray
  generalize Go.Sort.grow (Go.Sort.putRow (Value.int .i64) (Go.Sort.ahead w n6) g 0 (zs.mergeSort fun x y => decide (x ≤ y)).toArray) os6 = W6 at hO6 hG6 ⊢
  clear HC hb h4
  generalize (zs.mergeSort fun x y => decide (x ≤ y)) = ys at hEQ hl6 hO6
  rcases hO6.2 with ⟨h00, _⟩ | ⟨g', cap', cur', hv', hbase', hb', h1', h2', h3', h4'⟩
  · cases h00
  simp only [Value.slice.injEq, Option.some.injEq, Addr.mk.injEq, and_true, true_and] at hv'
  obtain ⟨rfl, rfl⟩ := hv'
  have hc := Tryd.slices_Compact_int g 0 cap3 ys W6 (holds_of_blockI hb' (by rw [hl6]; simpa using h4')) (by omega) (by omega)
  rw [hl6, hzl] at hc
  have HC : Hid (Calls Tryd.prog 74 #[.slice (some ⟨g, 0, none⟩) l.length cap3] W6 fun e w' => e = .returned (.slice (some ⟨g, 0, none⟩) (Lib.compact ys).length cap3) ∧ ∃ q, w' = Go.Sort.putRow (Value.int .i64) (Go.Sort.ahead W6 q) g 0 (Lib.compact ys ++ List.replicate (l.length - (Lib.compact ys).length) 0).toArray) := hc
  have hCL : (Lib.compact ys).length ≤ zs.length := by
    rw [← hl6]
    unfold Lib.compact Lib.compactUpTo
    rw [List.length_map]
    refine Nat.le_trans (List.length_filter_le _ _) ?_
    simp
  clear hc
  have HG6 : Hid (w.grownBy W6 (some g)) := hG6
  have HO6 : Hid (W6.heap[g]? = some (.cells cur' 3 (0, 0))) := hb'
  clear hG6 hO6 hb' h4' hbase'
  go_wp2_with fail
  refine HC.out.mono ?_
  rintro e w7 ⟨rfl, n7, rfl⟩
  have hl7 : (Lib.compact ys ++ List.replicate (l.length - (Lib.compact ys).length) 0).length = zs.length := by simp; omega
  have hO7 := ownsRow_sortedI (n := n7) (os := #[]) (base := B) (e := 3) (ss := zs) hl7 hbase HO6.out h1 h2 h3'
  have hG7 := grownBy_sortedI (w := W6) (g := g) (n := n7) (os := #[]) (Lib.compact ys ++ List.replicate (l.length - (Lib.compact ys).length) 0).toArray
  rw [Go.Sort.grow_empty] at hO7 hG7
  generalize Go.Sort.putRow (Value.int .i64) (Go.Sort.ahead W6 n7) g 0 (Lib.compact ys ++ List.replicate (l.length - (Lib.compact ys).length) 0).toArray = W7 at hO7 hG7 ⊢
  have hO8 := own_cut hO7 hCL
  have HO8 : Hid (W7.ownsRow B 3 1 (.slice (some ⟨g, 0, none⟩) (puts [] l).length cap3) (puts [] l).length (intz (puts [] l))) := by
    show World.ownsRow _ _ _ _ _ _ _
    have e : ((Lib.compact ys ++ List.replicate (l.length - (Lib.compact ys).length) 0).map (Value.int .i64)).take (Lib.compact ys).length = (Lib.compact ys).map (Value.int .i64) := by
      rw [List.map_append, List.take_append_of_le_length (by simp), List.take_of_length_le (by simp)]
    rw [e, hEQ.out, ← intz_zn] at hO8
    have e2 : (zn (puts [] l)).length = (puts [] l).length := by unfold zn; rw [List.length_map]
    rw [e2] at hO8
    exact hO8
  have e2 : (Lib.compact ys).length = (puts [] l).length := by rw [hEQ.out]; unfold zn; rw [List.length_map]
  have HG7 : Hid (w.grownBy W7 (some g)) := Lib.grownBy_trans HG6.out hG7
  clear hO7 hG7 hO8 HG6 HO6 HC
  rw [e2]
  clear e2
  go_wp2
  go_ret
  exact ⟨⟨_, rfl, HO8.out, fun g' hg' => hg'⟩, HG7.out⟩

end Go.Proofs.YtndeikgkncfmbaaDoor
