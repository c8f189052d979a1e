/- The law's own marks in queues. -/
import Derived.Test.YtfkhbbmnjndmcaaQuT
import Derived.Lib.BufferOwn
import Derived.Lib.BufferWrite
namespace Go.Proofs.Ytfkhbbmnjndmcaa
open Go.RowKit Plain Qus

/-- nothing but blocks from B up to T turns -/
structure Mid (B T : Nat) (w w' : World) : Prop where
  os : w'.os = w.os
  tape : w'.tape = w.tape
  output : w'.output = w.output
  size : w.heap.size ≤ w'.heap.size
  block : ∀ j, j < w.heap.size → (j < B ∨ T ≤ j) → w'.heap[j]? = w.heap[j]?

theorem Mid.trans {B T : Nat} {w w1 w2 : World} (h : Mid B T w w1) (h' : Mid B T w1 w2) : Mid B T w w2 :=
  ⟨h'.os.trans h.os, h'.tape.trans h.tape, h'.output.trans h.output, Nat.le_trans h.size h'.size, fun j hj hk => (h'.block j (Nat.lt_of_lt_of_le hj h.size) hk).trans (h.block j hj hk)⟩
theorem Mid.of_below {B T : Nat} {w w' : World} (h : Below w.heap.size w w') : Mid B T w w' := ⟨h.os, h.tape, h.output, h.size, fun j hj _ => h.block j hj⟩
theorem Mid.of_grown {B T : Nat} {w w' : World} {row : Option Nat} (h : w.grownBy w' row) (hr : ∀ g, row = some g → B ≤ g ∧ g < T) : Mid B T w w' :=
  ⟨h.os, h.tape, h.output, h.size, fun j hj hk => h.block j hj (fun e => by have := hr j e.symm; omega)⟩
theorem Mid.below {B T : Nat} {w w' : World} (h : Mid B T w w') (hB : B ≤ w.heap.size) : Below B w w' := ⟨h.os, h.tape, h.output, h.size, fun j hj => h.block j (by omega) (.inl hj)⟩
theorem Mid.kept {B T : Nat} {w w' : World} (h : Mid B T w w') {g : Nat} (hg : g < w.heap.size) (hk : g < B ∨ T ≤ g) : w'.heap[g]? = w.heap[g]? := h.block g hg hk

theorem grow_belowQ {w w' : World} {row : Option Nat} (hb : Below w.heap.size w w') : w.grownBy w' row := ⟨hb.os, hb.tape, hb.output, hb.size, fun j hj _ => hb.block j hj⟩

set_option maxRecDepth 100000 in
set_option maxHeartbeats 4000000 in
theorem markZQ_any (B n k : Nat) (v : Value) (xs : List Value) (w : World) (hown : w.ownsRow B 3 1 v n xs) (hn : n ≤ 2097152) (hk2 : k ≤ 100000000) :
    Calls Try.prog 31 #[v, .int .i64 k] w fun e w' => e = .returned (.int .i64 ((k + n : Nat) : Int)) ∧ (∃ ys, w'.ownsRow B 3 1 v n ys ∧ ∀ j, j < n → ys[j]? = some (.int .i64 ((k + j : Nat) : Int))) ∧ w.grownBy w' v.ownBlock := by
  by_cases hn0 : n = 0
  · subst hn0
    obtain ⟨ao, cap, hv⟩ : ∃ ao cap, v = Value.slice ao 0 cap := by
      rcases hown.2 with ⟨rfl, _⟩ | ⟨g, cap, _, rfl, _⟩
      · exact ⟨_, _, rfl⟩
      · exact ⟨_, _, rfl⟩
    subst hv
    have HO : Hid (w.ownsRow B 3 1 (.slice ao 0 cap) 0 xs) := hown
    clear hown
    go_enter Try.func31, Try.ntmps31
    go_wp2
    go_loopw [1, 5] (fun vk vi wr => vk = .int .i64 (k : Int) ∧ vi = .int .i64 0 ∧ wr = w) (fun _ _ _ => 0)
    case atStart => exact ⟨rfl, rfl, rfl⟩
    case round =>
      obtain ⟨rfl, rfl, rfl⟩ := hrel
      go_wp2
      go_ret
      exact ⟨by simp, ⟨xs, HO.out, fun j hj => by omega⟩, grow_belowQ (Below.refl _ _)⟩
  · obtain ⟨g, cap, hv⟩ := Joins.ownsRow_form hown (by omega)
    subst hv
    go_enter Try.func31, Try.ntmps31
    go_wp2
    go_loopw [1, 5] (fun vk vi wr => ∃ (i : Nat) (ys : List Value), i ≤ n ∧ vi = .int .i64 (i : Int) ∧ vk = .int .i64 ((k + i : Nat) : Int) ∧ wr.ownsRow B 3 1 (.slice (some ⟨g, 0, none⟩) n cap) n ys ∧ Hid (∀ j, j < i → ys[j]? = some (.int .i64 ((k + j : Nat) : Int))) ∧ w.grownBy wr (some g))
      (fun _ vi _ => n - (intOf vi).toNat)
    case atStart => exact ⟨0, xs, by omega, rfl, by simp, hown, fun j hj => by omega, grow_belowQ (Below.refl _ _)⟩
    case round =>
      obtain ⟨i, ys, hi, rfl, rfl, how, hm, hbw0⟩ := hrel
      have HBW : Hid (w.grownBy wr (some g)) := hbw0
      clear hbw0
      have hyl : ys.length = n := by have := how.1; omega
      clear hown
      by_cases hlt : i < n
      · have hlt' : (i : Int) < (n : Int) := by omega
        have q0 := how.cellAt i (by omega)
        rw [List.getElem?_eq_getElem (by omega)] at q0
        have z0 := how.frozenAt i
        generalize ys[i] = a0 at q0
        have how6 := (how.stored i (.int .i64 ((k : Int) + i))).1
        have HM : Hid (∀ j, j < i + 1 → (ys.set i (.int .i64 ((k : Int) + i)))[j]? = some (.int .i64 ((k + j : Nat) : Int))) := set1_marks ys k i n hyl hlt hm.out
        generalize ys.set i (Value.int .i64 ((k : Int) + i)) = zs at how6 HM
        clear how hm
        go_wp2
        go_roundw
        case rel => exact ⟨i + 1, zs, by omega, by go_num, by go_num, how6, HM, Lib.grownBy_trans HBW.out (Lib.grownBy_setCell _ g i _)⟩
        case measure => simp [intOf]; omega
      · have hke : i = n := by omega
        subst hke
        have hge : ¬ ((i : Int) < (i : Int)) := by omega
        go_wp2
        go_ret
        exact ⟨rfl, ⟨ys, how, hm.out⟩, HBW.out⟩


theorem own_intsQ {w : World} {B n k : Nat} {v : Value} {ys : List Value} (h : w.ownsRow B 3 1 v n ys) (hm : ∀ j, j < n → ys[j]? = some (.int .i64 ((k + j : Nat) : Int))) (hn : n ≤ 2097152) : IntsAt w w.heap.size v ((List.range n).map (k + ·)) :=
  markedInts h hm (by unfold maxLen; omega)

/-- a queue's marks -/
structure QuMk (w : World) (B k n1 n2 n3 : Nat) (v1 v2 v3 : Value) : Prop where
  a : IntsAt w B v1 ((List.range n1).map (k + ·))
  b : IntsAt w B v2 ((List.range n2).map (k + n1 + ·))
  c : IntsAt w B v3 ((List.range n3).map (k + n1 + n2 + ·))

theorem QuMk.below {w w' : World} {B k n1 n2 n3 : Nat} {v1 v2 v3 : Value} (h : QuMk w B k n1 n2 n3 v1 v2 v3) (hb : Below B w w') (hB : B ≤ w.heap.size := by exact Nat.le_refl _) : QuMk w' w'.heap.size k n1 n2 n3 v1 v2 v3 :=
  ⟨h.a.below hb hB, h.b.below hb hB, h.c.below hb hB⟩

set_option maxRecDepth 100000 in
set_option maxHeartbeats 4000000 in
theorem markQueue_any (q : Qu) (B T k : Nat) (v1 v2 v3 : Value) (w : World) (h : QuRow w B q v1 v2 v3) (hT : ∀ g, v1.ownBlock = some g ∨ v2.ownBlock = some g ∨ v3.ownBlock = some g → g < T) (hl : SmlQ q 1048576) (hk2 : k ≤ 1000) :
    Calls Try.prog 15 #[q.val v1 v2 v3, .int .i64 k] w fun e w' => e = .returned (.int .i64 ((k + q.wt.length + q.hd.length + q.dr.length : Nat) : Int)) ∧ QuMk w' w'.heap.size k q.wt.length q.hd.length q.dr.length v1 v2 v3 ∧ Mid B T w w' := by
  unfold Qu.val
  obtain ⟨l1, l2, l3⟩ := hl
  obtain ⟨r1, r2, r3, q1, q2, q3⟩ := h
  unfold ZRow at r1 r2 r3
  obtain ⟨W0, hW0⟩ : ∃ W, W = w.alloc (.cells #[.int .i64 q.cap, .int .i64 q.rule, .int .i64 q.next, v1, v2, v3] 24) := ⟨_, rfl⟩
  have hb0 : Below w.heap.size w W0 := by rw [hW0]; exact (Below.refl _ w).alloc (Nat.le_refl _) _
  have V1 : Sv W0 w.heap.size (.int .i64 q.cap) (.int .i64 q.rule) (.int .i64 q.next) (v1) (v2) (v3) := by rw [hW0]; exact Sv.fresh w _ _ _ _ _ _ _
  have n1 : ∀ g, v1.ownBlock = some g → g < w.heap.size := fun g hg => (World.ownsRow.lt r1 g hg).2
  have n2 : ∀ g, v2.ownBlock = some g → g < w.heap.size := fun g hg => (World.ownsRow.lt r2 g hg).2
  have n3 : ∀ g, v3.ownBlock = some g → g < w.heap.size := fun g hg => (World.ownsRow.lt r3 g hg).2
  have b1 : ∀ g, v1.ownBlock = some g → B ≤ g ∧ g < T := fun g hg => ⟨(World.ownsRow.lt r1 g hg).1, hT g (.inl hg)⟩
  have b2 : ∀ g, v2.ownBlock = some g → B ≤ g ∧ g < T := fun g hg => ⟨(World.ownsRow.lt r2 g hg).1, hT g (.inr (.inl hg))⟩
  have b3 : ∀ g, v3.ownBlock = some g → B ≤ g ∧ g < T := fun g hg => ⟨(World.ownsRow.lt r3 g hg).1, hT g (.inr (.inr hg))⟩
  have HM : Hid (Mid B T w W0) := Mid.of_below hb0
  have H1 : Hid (type_of% (own_belowQ r1 hb0)) := own_belowQ r1 hb0
  have H2 : Hid (type_of% (own_belowQ r2 hb0)) := own_belowQ r2 hb0
  have H3 : Hid (type_of% (own_belowQ r3 hb0)) := own_belowQ r3 hb0
  have HV : Hid (type_of% V1) := V1
  have HE : Hid (∀ W, QuMk W W.heap.size k q.wt.length q.hd.length q.dr.length v1 v2 v3 → Mid B T w W → QuMk W W.heap.size k q.wt.length q.hd.length q.dr.length v1 v2 v3 ∧ Mid B T w W) := fun W h1 h2 => ⟨h1, h2⟩
  have HN : Hid ((∀ g, v1.ownBlock = some g → g < w.heap.size) ∧ (∀ g, v2.ownBlock = some g → g < w.heap.size) ∧ (∀ g, v3.ownBlock = some g → g < w.heap.size)) := ⟨n1, n2, n3⟩
  have HG : Hid ((∀ g, v1.ownBlock = some g → B ≤ g ∧ g < T) ∧ (∀ g, v2.ownBlock = some g → B ≤ g ∧ g < T) ∧ (∀ g, v3.ownBlock = some g → B ≤ g ∧ g < T)) := ⟨b1, b2, b3⟩
  have HQ : Hid ((∀ g, v1.ownBlock = some g → v2.ownBlock ≠ some g) ∧ (∀ g, v1.ownBlock = some g → v3.ownBlock ≠ some g) ∧ (∀ g, v2.ownBlock = some g → v3.ownBlock ≠ some g)) := ⟨q1, q2, q3⟩
  have x1 := V1.c3
  have C1 := markZQ_any B q.wt.length k v1 _ W0 H1.out (by omega) (by omega)
  clear hT hb0 V1 n1 n2 n3 b1 b2 b3 q1 q2 q3 r1 r2 r3
  generalize hni : q.wt.length = ni at *
  generalize hnh : q.hd.length = nh at *
  generalize hnw : q.dr.length = nw at *
  clear hni hnh hnw
  go_enter Try.func15, Try.ntmps15
  go_upto_region 1 with fail
  rw [← hW0]
  clear hW0
  go_wp2_with fail
  go_at_call 31
  refine C1.mono ?_
  rintro e w1 ⟨rfl, ⟨y1, o1, m1⟩, g1⟩
  have H1 : Hid (type_of% o1) := o1
  have M1 : Hid (type_of% m1) := m1
  have H2 : Hid (type_of% (own_asideQ H2.out g1 (fun g hg e => HQ.out.1 g e hg))) := own_asideQ H2.out g1 (fun g hg e => HQ.out.1 g e hg)
  have H3 : Hid (type_of% (own_asideQ H3.out g1 (fun g hg e => HQ.out.2.1 g e hg))) := own_asideQ H3.out g1 (fun g hg e => HQ.out.2.1 g e hg)
  have HV : Hid (type_of% (HV.out.kept (g1.block _ HV.out.low (fun e => by have := HN.out.1 _ e.symm; omega)) g1.size)) := HV.out.kept (g1.block _ HV.out.low (fun e => by have := HN.out.1 _ e.symm; omega)) g1.size
  have HM : Hid (type_of% (HM.out.trans (Mid.of_grown g1 HG.out.1))) := HM.out.trans (Mid.of_grown g1 HG.out.1)
  clear x1 C1 o1 m1 g1
  have x3 := HV.out.c4
  have C1 := markZQ_any B nh (k + ni) v2 _ w1 H2.out (by omega) (by omega)
  go_wp2_with fail
  go_at_call 31
  refine C1.mono ?_
  rintro e w2 ⟨rfl, ⟨y2, o1, m1⟩, g1⟩
  have H2 : Hid (type_of% o1) := o1
  have M2 : Hid (type_of% m1) := m1
  have H1 : Hid (type_of% (own_asideQ H1.out g1 (fun g hg e => HQ.out.1 g hg e))) := own_asideQ H1.out g1 (fun g hg e => HQ.out.1 g hg e)
  have H3 : Hid (type_of% (own_asideQ H3.out g1 (fun g hg e => HQ.out.2.2 g e hg))) := own_asideQ H3.out g1 (fun g hg e => HQ.out.2.2 g e hg)
  have HV : Hid (type_of% (HV.out.kept (g1.block _ HV.out.low (fun e => by have := HN.out.2.1 _ e.symm; omega)) g1.size)) := HV.out.kept (g1.block _ HV.out.low (fun e => by have := HN.out.2.1 _ e.symm; omega)) g1.size
  have HM : Hid (type_of% (HM.out.trans (Mid.of_grown g1 HG.out.2.1))) := HM.out.trans (Mid.of_grown g1 HG.out.2.1)
  clear x3 C1 o1 m1 g1
  have x4 := HV.out.c5
  have C1 := markZQ_any B nw (k + ni + nh) v3 _ w2 H3.out (by omega) (by omega)
  go_wp2_with fail
  go_at_call 31
  refine C1.mono ?_
  rintro e w3 ⟨rfl, ⟨y3, o1, m1⟩, g1⟩
  have H1 : Hid (type_of% (own_asideQ H1.out g1 (fun g hg e => HQ.out.2.1 g hg e))) := own_asideQ H1.out g1 (fun g hg e => HQ.out.2.1 g hg e)
  have H2 : Hid (type_of% (own_asideQ H2.out g1 (fun g hg e => HQ.out.2.2 g hg e))) := own_asideQ H2.out g1 (fun g hg e => HQ.out.2.2 g hg e)
  have HM : Hid (type_of% (HM.out.trans (Mid.of_grown g1 HG.out.2.2))) := HM.out.trans (Mid.of_grown g1 HG.out.2.2)
  have r1 := own_intsQ H1.out M1.out (by omega)
  have r2 := own_intsQ H2.out M2.out (by omega)
  have r3 := own_intsQ o1 m1 (by omega)
  have HR := HE.out w3 ⟨r1, r2, r3⟩ HM.out
  have HRH : Hid (type_of% HR) := HR
  clear x4 C1 o1 m1 g1 HR r1 r2 r3
  go_wp2_with fail
  go_ret
  exact ⟨rfl, HRH.out⟩

set_option maxRecDepth 100000 in
set_option maxHeartbeats 4000000 in
theorem heldQueue_any (q : Qu) (k n1 n2 n3 : Nat) (v1 v2 v3 : Value) (w : World) (h : QuMk w w.heap.size k n1 n2 n3 v1 v2 v3) (l1 : n1 ≤ 1048576) (l2 : n2 ≤ 1048576) (l3 : n3 ≤ 1048576) (hk2 : k ≤ 1000) :
    Calls Try.prog 16 #[q.val v1 v2 v3, .int .i64 k] w fun e w' => e = .returned (.int .i64 ((k + n1 + n2 + n3 : Nat) : Int)) ∧ Below w.heap.size w w' := by
  unfold Qu.val
  obtain ⟨W0, hW0⟩ : ∃ W, W = w.alloc (.cells #[.int .i64 q.cap, .int .i64 q.rule, .int .i64 q.next, v1, v2, v3] 24) := ⟨_, rfl⟩
  have hb0 : Below w.heap.size w W0 := by rw [hW0]; exact (Below.refl _ w).alloc (Nat.le_refl _) _
  have V1 : Sv W0 w.heap.size (.int .i64 q.cap) (.int .i64 q.rule) (.int .i64 q.next) (v1) (v2) (v3) := by rw [hW0]; exact Sv.fresh w _ _ _ _ _ _ _
  have HK : Hid (type_of% (h.below hb0)) := h.below hb0
  have HV : Hid (type_of% V1) := V1
  have HB : Hid (type_of% hb0) := hb0
  have x1 := V1.c3
  have C1 := heldIntS_any n1 k v1 W0 HK.out.a (by omega) (by omega)
  have m1 : ¬ (((k + n1 : Nat) : Int) < 0) := by omega
  have m2 : ¬ (((k + n1 + n2 : Nat) : Int) < 0) := by omega
  have m3 : ¬ (((k + n1 + n2 + n3 : Nat) : Int) < 0) := by omega
  clear h hb0 V1
  go_enter Try.func16, Try.ntmps16
  go_upto_region 1 with fail
  rw [← hW0]
  clear hW0
  go_wp2_with fail
  go_at_call 32
  refine C1.mono ?_
  rintro e w1 ⟨rfl, hb⟩
  have HK : Hid (type_of% (HK.out.below hb)) := HK.out.below hb
  have HV : Hid (type_of% (HV.out.below hb)) := HV.out.below hb
  have HB : Hid (Below w.heap.size w w1) := HB.out.trans (hb.mono HB.out.size)
  clear x1 C1 hb
  have x3 := HV.out.c4
  have C1 := heldIntS_any n2 (k + n1) v2 w1 HK.out.b (by omega) (by omega)
  go_wp2_with fail
  go_at_call 32
  refine C1.mono ?_
  rintro e w2 ⟨rfl, hb⟩
  have HK : Hid (type_of% (HK.out.below hb)) := HK.out.below hb
  have HV : Hid (type_of% (HV.out.below hb)) := HV.out.below hb
  have HB : Hid (Below w.heap.size w w2) := HB.out.trans (hb.mono HB.out.size)
  clear x3 C1 hb
  have x4 := HV.out.c5
  have C1 := heldIntS_any n3 (k + n1 + n2) v3 w2 HK.out.c (by omega) (by omega)
  go_wp2_with fail
  go_at_call 32
  refine C1.mono ?_
  rintro e w3 ⟨rfl, hb⟩
  have HB : Hid (Below w.heap.size w w3) := HB.out.trans (hb.mono HB.out.size)
  clear x4 C1 hb
  go_wp2_with fail
  go_ret
  exact ⟨rfl, HB.out⟩

end Go.Proofs.Ytfkhbbmnjndmcaa
