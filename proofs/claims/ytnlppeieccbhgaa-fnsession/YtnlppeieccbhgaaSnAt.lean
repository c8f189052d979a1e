/- The program's: what is on its way is looked at; a cut. -/
import Derived.Test.YtnlppeieccbhgaaSnX
import Derived.Test.YtnlppeieccbhgaaSnJ
namespace Go.Proofs.Ytnlppeieccbhgaa
open Go.RowKit Plain Tpc Ssn

set_option maxRecDepth 100000 in
set_option maxHeartbeats 4000000 in
theorem atPk_any (s : Ses) (e B : Nat) (vi vw va : Value) (k : Int) (w : World) (h : Ex w e B s vi vw va) :
    Calls Try.prog 102 #[.pointer (some ⟨e, 4, none⟩), .int .i64 k] w fun r w' => r = .returned (.tuple #[if inW s k = true then (pk s.way k.toNat).val else .agg #[.int .i64 0, .int .i64 0, .string ⟨#[]⟩], .bool (inW s k)]) ∧ Below w.heap.size w w' := by
  have rc := fun (tmps : Array Value) (P : Program) (w : World) => results_cell1S (fn := Try.f102) (p := 4) (q := 5) (ty := 84) rfl tmps P w
  have hA := h.r.at.y
  obtain ⟨ao, cap, rfl, hlc, hcm, hrow⟩ := hA
  dsimp only at hlc hcm hrow
  unfold maxLen at hcm
  have x4 := h.v.c4
  have hel := h.v.low
  have HROW : Hid (type_of% hrow) := hrow
  have hB : ∀ o, Below w.heap.size w (w.alloc o) := fun o => (Below.refl _ w).alloc (Nat.le_refl _) _
  clear hrow h
  by_cases h0 : k < 0
  · rw [show inW s k = false from decide_eq_false (by omega), if_neg (by decide)]
    go_enter Try.func102, Try.ntmps102
    go_wp2_with fail
    (try simp only [Exit.inBlock, Exit.then])
    refine bodyPost_ret (v := .tuple #[.agg #[.int .i64 0, .int .i64 0, .string ⟨#[]⟩], .bool false]) ?_ rfl ⟨rfl, ?_⟩
    · rw [rc]
      go_simp
    · first | exact (Below.refl _ w).alloc (Nat.le_refl _) _ | exact ((Below.refl _ w).alloc (Nat.le_refl _) _).alloc (by simp) _
  · by_cases h1 : (s.way.length : Int) ≤ k
    · rw [show inW s k = false from decide_eq_false (by omega), if_neg (by decide)]
      go_enter Try.func102, Try.ntmps102
      go_wp2_with fail
      (try simp only [Exit.inBlock, Exit.then])
      refine bodyPost_ret (v := .tuple #[.agg #[.int .i64 0, .int .i64 0, .string ⟨#[]⟩], .bool false]) ?_ rfl ⟨rfl, ?_⟩
      · rw [rc]
        go_simp
      · first | exact (Below.refl _ w).alloc (Nat.le_refl _) _ | exact ((Below.refl _ w).alloc (Nat.le_refl _) _).alloc (by simp) _
    · have h1' : k < (s.way.length : Int) := by omega
      rw [show inW s k = true from decide_eq_true (by omega), if_pos rfl]
      obtain ⟨kn, rfl⟩ : ∃ n : Nat, k = (n : Int) := ⟨k.toNat, by omega⟩
      rw [Int.toNat_natCast]
      obtain ⟨g, o, rfl, hg, hc⟩ := HROW.out kn (by omega)
      generalize pk s.way kn = p at hc
      obtain ⟨pa, pb, pc⟩ := p
      obtain ⟨d0, d1, d2⟩ := hc
      dsimp only at d0 d1 d2
      clear HROW
      go_enter Try.func102, Try.ntmps102
      go_wp2_with fail
      (try simp only [Exit.inBlock, Exit.then])
      refine bodyPost_ret (v := .tuple #[.agg #[.int .i64 pa, .int .i64 pb, .string pc], .bool true]) ?_ rfl ⟨rfl, ?_⟩
      · rw [rc]
        go_simp
      · first | exact (Below.refl _ w).alloc (Nat.le_refl _) _ | exact ((Below.refl _ w).alloc (Nat.le_refl _) _).alloc (by simp) _

set_option maxRecDepth 100000 in
set_option maxHeartbeats 4000000 in
theorem atAk_any (s : Ses) (e B : Nat) (vi vw va : Value) (k : Int) (w : World) (h : Ex w e B s vi vw va) :
    Calls Try.prog 119 #[.pointer (some ⟨e, 5, none⟩), .int .i64 k] w fun r w' => r = .returned (.tuple #[if inA s k = true then (ak s.acks k.toNat).val else .agg #[.int .i64 0, .int .i64 0], .bool (inA s k)]) ∧ Below w.heap.size w w' := by
  have rc := fun (tmps : Array Value) (P : Program) (w : World) => results_cell1S (fn := Try.f119) (p := 4) (q := 5) (ty := 86) rfl tmps P w
  have hA := h.r.at.a
  obtain ⟨ao, cap, rfl, hlc, hcm, hrow⟩ := hA
  dsimp only at hlc hcm hrow
  unfold maxLen at hcm
  have x4 := h.v.c5
  have hel := h.v.low
  have HROW : Hid (type_of% hrow) := hrow
  have hB : ∀ o, Below w.heap.size w (w.alloc o) := fun o => (Below.refl _ w).alloc (Nat.le_refl _) _
  clear hrow h
  by_cases h0 : k < 0
  · rw [show inA s k = false from decide_eq_false (by omega), if_neg (by decide)]
    go_enter Try.func119, Try.ntmps119
    go_wp2_with fail
    (try simp only [Exit.inBlock, Exit.then])
    refine bodyPost_ret (v := .tuple #[.agg #[.int .i64 0, .int .i64 0], .bool false]) ?_ rfl ⟨rfl, ?_⟩
    · rw [rc]
      go_simp
    · first | exact (Below.refl _ w).alloc (Nat.le_refl _) _ | exact ((Below.refl _ w).alloc (Nat.le_refl _) _).alloc (by simp) _
  · by_cases h1 : (s.acks.length : Int) ≤ k
    · rw [show inA s k = false from decide_eq_false (by omega), if_neg (by decide)]
      go_enter Try.func119, Try.ntmps119
      go_wp2_with fail
      (try simp only [Exit.inBlock, Exit.then])
      refine bodyPost_ret (v := .tuple #[.agg #[.int .i64 0, .int .i64 0], .bool false]) ?_ rfl ⟨rfl, ?_⟩
      · rw [rc]
        go_simp
      · first | exact (Below.refl _ w).alloc (Nat.le_refl _) _ | exact ((Below.refl _ w).alloc (Nat.le_refl _) _).alloc (by simp) _
    · have h1' : k < (s.acks.length : Int) := by omega
      rw [show inA s k = true from decide_eq_true (by omega), if_pos rfl]
      obtain ⟨kn, rfl⟩ : ∃ n : Nat, k = (n : Int) := ⟨k.toNat, by omega⟩
      rw [Int.toNat_natCast]
      obtain ⟨g, o, rfl, hg, hc⟩ := HROW.out kn (by omega)
      generalize ak s.acks kn = p at hc
      obtain ⟨pa, pb⟩ := p
      obtain ⟨d0, d1⟩ := hc
      dsimp only at d0 d1
      clear HROW
      go_enter Try.func119, Try.ntmps119
      go_wp2_with fail
      (try simp only [Exit.inBlock, Exit.then])
      refine bodyPost_ret (v := .tuple #[.agg #[.int .i64 pa, .int .i64 pb], .bool true]) ?_ rfl ⟨rfl, ?_⟩
      · rw [rc]
        go_simp
      · first | exact (Below.refl _ w).alloc (Nat.le_refl _) _ | exact ((Below.refl _ w).alloc (Nat.le_refl _) _).alloc (by simp) _

theorem Tch.one {w w' : World} {e : Nat} {vi vw va : Value} (h : Tch w w' (fun j => j = e) (fun j => j = e)) : Tch w w' (PX e vi vw va) (PX e vi vw va) :=
  ⟨h.os, h.tape, h.output, h.size, fun j hj hp => h.block j hj (fun q => hp (.inl q)), fun _ hg => .inl hg⟩

theorem Tch.cell {w : World} {e k : Nat} {u : Value} : Tch w (w.setCell ⟨e, k, none⟩ u) (fun j => j = e) (fun j => j = e) := ⟨rfl, rfl, rfl, by simp, fun j hj hp => Below.heap_setCell _ _ _ _ hp, fun _ h => .inl h⟩

set_option maxRecDepth 100000 in
set_option maxHeartbeats 4000000 in
theorem cut_any (s : Ses) (e B : Nat) (vi vw va : Value) (w : World) (h : Ex w e B s vi vw va) (hg : Gd s) :
    Calls Try.prog 105 #[.pointer (some ⟨e, 0, none⟩)] w fun r w' => r = .returned (.bool (cutK s)) ∧ Ex w' e B (if cutK s = true then cutS s else s) vi vw va ∧ Tch w w' (PX e vi vw va) (PX e vi vw va) := by
  have he0 := hg.e0
  have he1 := hg.e1
  have hb1 := hg.b1
  have hb0 := hg.b0
  have CN := now_any e 0 s.ep w h.v.c0
  by_cases hk : s.ep < 1000
  · have hK : cutK s = true := decide_eq_true hk
    have hL : (s.ep == 1000) = false := by simp; omega
    rw [hK, if_pos rfl]
    have CR := rise_any e 0 s.ep w h.v.c0 h.v.f0 (by omega) (by omega)
    have V1 := h.v.set0 (.int .i64 (s.ep + 1))
    have T1 : Tch w (w.setCell ⟨e, 0, none⟩ (.int .i64 (s.ep + 1))) (fun j => j = e) (fun j => j = e) := Tch.cell
    generalize w.setCell ⟨e, 0, none⟩ (.int .i64 (s.ep + 1)) = W1 at CR V1 T1
    have CN2 : Hid (Calls Try.prog 80 #[.pointer (some ⟨e, 2, none⟩)] W1.drew fun r w' => r = .returned (.int .i64 (s.handed.length : Int)) ∧ w' = W1.drew) := now_any e 2 _ W1.drew (V1.kept rfl (Nat.le_refl _)).c2
    have CR2 : Hid (Calls Try.prog 98 #[.pointer (some ⟨e, 1, none⟩), .int .i64 (s.handed.length : Int)] W1.drew fun r w' => r = .returned (.tuple #[]) ∧ Sv w' e (.int .i64 (s.ep + 1)) (.int .i64 (s.handed.length : Int)) (.int .i64 (s.handed.length : Int)) vi vw va ∧ Tch W1.drew w' (fun j => j = e) (fun j => j = e)) := by
      have V2 := V1.kept (w' := W1.drew) rfl (Nat.le_refl _)
      refine (raiseTo_any e 1 s.base (s.handed.length : Int) W1.drew V2.c1 V2.f1).mono fun r w' h => ?_
      obtain ⟨hr, hw⟩ := h
      by_cases h0 : s.base < (s.handed.length : Int)
      · rw [if_pos h0] at hw
        subst hw
        exact ⟨hr, V2.set1 _, Tch.cell⟩
      · rw [if_neg h0] at hw
        subst hw
        have hn0 : s.base = (s.handed.length : Int) := by omega
        rw [hn0] at V2
        exact ⟨hr, V2, Tch.refl _ _⟩
    have HEND : Hid (∀ w', Sv w' e (.int .i64 (s.ep + 1)) (.int .i64 (s.handed.length : Int)) (.int .i64 (s.handed.length : Int)) vi vw va → Tch W1.drew w' (fun j => j = e) (fun j => j = e) → Ex w' e B (cutS s) vi vw va ∧ Tch w w' (PX e vi vw va) (PX e vi vw va)) := fun w' v t => by
      have t2 : Tch w w' (fun j => j = e) (fun j => j = e) := (T1.trans (Tch.of_below (Below.refl _ W1).drew)).trans t
      exact ⟨⟨v, SesRow.retag (h.r.tch t2 (fun g hg q => h.n (by rw [← q]; exact hg))) rfl rfl rfl rfl, h.n, h.b⟩, t2.one⟩
    clear h V1 T1 hg hk
    go_enter Try.func105, Try.ntmps105
    go_wp2_with fail
    go_at_call 80
    refine CN.mono ?_
    rintro r w2 ⟨rfl, hw2⟩
    have hw2 := hw2.symm
    subst hw2
    go_wp2_with fail
    go_at_call 112
    refine CR.mono ?_
    rintro r w2 ⟨rfl, hw2⟩
    have hw2 := hw2.symm
    subst hw2
    go_upto_region 4 with fail
    go_region_with (first | (go_at_call 98; (with_reducible refine CR2.out.mono ?_); rintro r w5 ⟨rfl, hv5, ht5⟩) | (go_at_call 80; (with_reducible refine CN2.out.mono ?_); rintro r w4 ⟨rfl, rfl⟩))
    all_goals
      have hE := HEND.out w5 hv5 ht5
      have HE : Hid (type_of% hE) := hE
      clear hE hv5 ht5
      go_wp2_with fail
      go_ret
      exact ⟨rfl, HE.out⟩
  · have hK : cutK s = false := decide_eq_false hk
    have hL : (s.ep == 1000) = true := by simp; omega
    rw [hK, if_neg (by decide)]
    have HX : Hid (type_of% h) := h
    have hLe : s.ep = 1000 := by omega
    clear hLe h hg hk
    go_enter Try.func105, Try.ntmps105
    go_wp2_with fail
    go_at_call 80
    refine CN.mono ?_
    rintro r w2 ⟨rfl, hw2⟩
    have hw2 := hw2.symm
    subst hw2
    go_wp2_with fail
    go_ret
    exact ⟨rfl, HX.out, Tch.refl _ _⟩

end Go.Proofs.Ytnlppeieccbhgaa
