/- The law's own marks in queues, their rows still told apart. -/
import Derived.Test.YtfkhbbmnjndmcaaQuM
import Derived.Test.YtfkhbbmnjndmcaaQsD
namespace Go.Proofs.Ytfkhbbmnjndmcaa
open Go.RowKit Plain Qus

structure QuMkO (w : World) (B k n1 n2 n3 : Nat) (v1 v2 v3 : Value) : Prop where
  a : ∃ ys, w.ownsRow B 3 1 v1 n1 ys ∧ ∀ j, j < n1 → ys[j]? = some (.int .i64 ((k + j : Nat) : Int))
  b : ∃ ys, w.ownsRow B 3 1 v2 n2 ys ∧ ∀ j, j < n2 → ys[j]? = some (.int .i64 ((k + n1 + j : Nat) : Int))
  c : ∃ ys, w.ownsRow B 3 1 v3 n3 ys ∧ ∀ j, j < n3 → ys[j]? = some (.int .i64 ((k + n1 + n2 + j : Nat) : Int))

theorem QuMkO.aside {w w' : World} {B k n1 n2 n3 : Nat} {v1 v2 v3 : Value} {row : Option Nat} (h : QuMkO w B k n1 n2 n3 v1 v2 v3) (hg : w.grownBy w' row) (hn : ∀ g, P3 v1 v2 v3 g → row ≠ some g) : QuMkO w' B k n1 n2 n3 v1 v2 v3 := by
  obtain ⟨⟨y1, o1, m1⟩, ⟨y2, o2, m2⟩, ⟨y3, o3, m3⟩⟩ := h
  exact ⟨⟨y1, own_asideQ o1 hg (fun g e => hn g (.inl e)), m1⟩, ⟨y2, own_asideQ o2 hg (fun g e => hn g (.inr (.inl e))), m2⟩, ⟨y3, own_asideQ o3 hg (fun g e => hn g (.inr (.inr e))), m3⟩⟩
theorem QuMkO.at {w : World} {B k n1 n2 n3 : Nat} {v1 v2 v3 : Value} (h : QuMkO w B k n1 n2 n3 v1 v2 v3) (l1 : n1 ≤ 2097152) (l2 : n2 ≤ 2097152) (l3 : n3 ≤ 2097152) : QuMk w w.heap.size k n1 n2 n3 v1 v2 v3 := by
  obtain ⟨⟨y1, o1, m1⟩, ⟨y2, o2, m2⟩, ⟨y3, o3, m3⟩⟩ := h
  exact ⟨own_intsQ o1 m1 l1, own_intsQ o2 m2 l2, own_intsQ o3 m3 l3⟩

set_option maxRecDepth 100000 in
set_option maxHeartbeats 4000000 in
theorem markQueueO_any (q : Qu) (B T k : Nat) (v1 v2 v3 : Value) (w : World) (h : QuRow w B q v1 v2 v3) (hT : ∀ g, v1.ownBlock = some g ∨ v2.ownBlock = some g ∨ v3.ownBlock = some g → g < T) (hl : SmlQ q 1048576) (hk2 : k ≤ 1000) :
    Calls Try.prog 15 #[q.val v1 v2 v3, .int .i64 k] w fun e w' => e = .returned (.int .i64 ((k + q.wt.length + q.hd.length + q.dr.length : Nat) : Int)) ∧ QuMkO w' B k q.wt.length q.hd.length q.dr.length v1 v2 v3 ∧ Mid B T w w' ∧ (∀ j, j < w.heap.size → ¬ P3 v1 v2 v3 j → w'.heap[j]? = w.heap[j]?) := by
  unfold Qu.val
  obtain ⟨l1, l2, l3⟩ := hl
  obtain ⟨r1, r2, r3, q1, q2, q3⟩ := h
  unfold ZRow at r1 r2 r3
  obtain ⟨W0, hW0⟩ : ∃ W, W = w.alloc (.cells #[.int .i64 q.cap, .int .i64 q.rule, .int .i64 q.next, v1, v2, v3] 24) := ⟨_, rfl⟩
  have hb0 : Below w.heap.size w W0 := by rw [hW0]; exact (Below.refl _ w).alloc (Nat.le_refl _) _
  have V1 : Sv W0 w.heap.size (.int .i64 q.cap) (.int .i64 q.rule) (.int .i64 q.next) (v1) (v2) (v3) := by rw [hW0]; exact Sv.fresh w _ _ _ _ _ _ _
  have n1 : ∀ g, v1.ownBlock = some g → g < w.heap.size := fun g hg => (World.ownsRow.lt r1 g hg).2
  have n2 : ∀ g, v2.ownBlock = some g → g < w.heap.size := fun g hg => (World.ownsRow.lt r2 g hg).2
  have n3 : ∀ g, v3.ownBlock = some g → g < w.heap.size := fun g hg => (World.ownsRow.lt r3 g hg).2
  have b1 : ∀ g, v1.ownBlock = some g → B ≤ g ∧ g < T := fun g hg => ⟨(World.ownsRow.lt r1 g hg).1, hT g (.inl hg)⟩
  have b2 : ∀ g, v2.ownBlock = some g → B ≤ g ∧ g < T := fun g hg => ⟨(World.ownsRow.lt r2 g hg).1, hT g (.inr (.inl hg))⟩
  have b3 : ∀ g, v3.ownBlock = some g → B ≤ g ∧ g < T := fun g hg => ⟨(World.ownsRow.lt r3 g hg).1, hT g (.inr (.inr hg))⟩
  have HM : Hid (Mid B T w W0) := Mid.of_below hb0
  have H1 : Hid (type_of% (own_belowQ r1 hb0)) := own_belowQ r1 hb0
  have H2 : Hid (type_of% (own_belowQ r2 hb0)) := own_belowQ r2 hb0
  have H3 : Hid (type_of% (own_belowQ r3 hb0)) := own_belowQ r3 hb0
  have HV : Hid (type_of% V1) := V1
  have HE : Hid (∀ W, QuMkO W B k q.wt.length q.hd.length q.dr.length v1 v2 v3 → Mid B T w W → (∀ j, j < w.heap.size → ¬ P3 v1 v2 v3 j → W.heap[j]? = w.heap[j]?) → QuMkO W B k q.wt.length q.hd.length q.dr.length v1 v2 v3 ∧ Mid B T w W ∧ (∀ j, j < w.heap.size → ¬ P3 v1 v2 v3 j → W.heap[j]? = w.heap[j]?)) := fun W h1 h2 h3 => ⟨h1, h2, h3⟩
  have HK : Hid (∀ j, j < w.heap.size → ¬ P3 v1 v2 v3 j → W0.heap[j]? = w.heap[j]?) := fun j hj _ => hb0.block j hj
  have HN : Hid ((∀ g, v1.ownBlock = some g → g < w.heap.size) ∧ (∀ g, v2.ownBlock = some g → g < w.heap.size) ∧ (∀ g, v3.ownBlock = some g → g < w.heap.size)) := ⟨n1, n2, n3⟩
  have HG : Hid ((∀ g, v1.ownBlock = some g → B ≤ g ∧ g < T) ∧ (∀ g, v2.ownBlock = some g → B ≤ g ∧ g < T) ∧ (∀ g, v3.ownBlock = some g → B ≤ g ∧ g < T)) := ⟨b1, b2, b3⟩
  have HQ : Hid ((∀ g, v1.ownBlock = some g → v2.ownBlock ≠ some g) ∧ (∀ g, v1.ownBlock = some g → v3.ownBlock ≠ some g) ∧ (∀ g, v2.ownBlock = some g → v3.ownBlock ≠ some g)) := ⟨q1, q2, q3⟩
  have x1 := V1.c3
  have C1 := markZQ_any B q.wt.length k v1 _ W0 H1.out (by omega) (by omega)
  clear hT hb0 V1 n1 n2 n3 b1 b2 b3 q1 q2 q3 r1 r2 r3
  generalize hni : q.wt.length = ni at *
  generalize hnh : q.hd.length = nh at *
  generalize hnw : q.dr.length = nw at *
  clear hni hnh hnw
  go_enter Try.func15, Try.ntmps15
  go_upto_region 1 with fail
  rw [← hW0]
  clear hW0
  go_wp2_with fail
  go_at_call 31
  refine C1.mono ?_
  rintro e w1 ⟨rfl, ⟨y1, o1, m1⟩, g1⟩
  have H1 : Hid (type_of% o1) := o1
  have M1 : Hid (type_of% m1) := m1
  have H2 : Hid (type_of% (own_asideQ H2.out g1 (fun g hg e => HQ.out.1 g e hg))) := own_asideQ H2.out g1 (fun g hg e => HQ.out.1 g e hg)
  have H3 : Hid (type_of% (own_asideQ H3.out g1 (fun g hg e => HQ.out.2.1 g e hg))) := own_asideQ H3.out g1 (fun g hg e => HQ.out.2.1 g e hg)
  have HV : Hid (type_of% (HV.out.kept (g1.block _ HV.out.low (fun e => by have := HN.out.1 _ e.symm; omega)) g1.size)) := HV.out.kept (g1.block _ HV.out.low (fun e => by have := HN.out.1 _ e.symm; omega)) g1.size
  have HM0 : Hid (type_of% HM.out) := HM.out
  have HM : Hid (type_of% (HM.out.trans (Mid.of_grown g1 HG.out.1))) := HM.out.trans (Mid.of_grown g1 HG.out.1)
  have HK : Hid (∀ j, j < w.heap.size → ¬ P3 v1 v2 v3 j → w1.heap[j]? = w.heap[j]?) := fun j hj hn => (g1.block j (by have := HM0.out.size; omega) (fun e => hn (.inl e.symm))).trans (HK.out j hj hn)
  clear x1 C1 o1 m1 g1
  have x3 := HV.out.c4
  have C1 := markZQ_any B nh (k + ni) v2 _ w1 H2.out (by omega) (by omega)
  go_wp2_with fail
  go_at_call 31
  refine C1.mono ?_
  rintro e w2 ⟨rfl, ⟨y2, o1, m1⟩, g1⟩
  have H2 : Hid (type_of% o1) := o1
  have M2 : Hid (type_of% m1) := m1
  have H1 : Hid (type_of% (own_asideQ H1.out g1 (fun g hg e => HQ.out.1 g hg e))) := own_asideQ H1.out g1 (fun g hg e => HQ.out.1 g hg e)
  have H3 : Hid (type_of% (own_asideQ H3.out g1 (fun g hg e => HQ.out.2.2 g e hg))) := own_asideQ H3.out g1 (fun g hg e => HQ.out.2.2 g e hg)
  have HV : Hid (type_of% (HV.out.kept (g1.block _ HV.out.low (fun e => by have := HN.out.2.1 _ e.symm; omega)) g1.size)) := HV.out.kept (g1.block _ HV.out.low (fun e => by have := HN.out.2.1 _ e.symm; omega)) g1.size
  have HM0 : Hid (type_of% HM.out) := HM.out
  have HM : Hid (type_of% (HM.out.trans (Mid.of_grown g1 HG.out.2.1))) := HM.out.trans (Mid.of_grown g1 HG.out.2.1)
  have HK : Hid (∀ j, j < w.heap.size → ¬ P3 v1 v2 v3 j → w2.heap[j]? = w.heap[j]?) := fun j hj hn => (g1.block j (by have := HM0.out.size; omega) (fun e => hn (.inr (.inl e.symm)))).trans (HK.out j hj hn)
  clear x3 C1 o1 m1 g1
  have x4 := HV.out.c5
  have C1 := markZQ_any B nw (k + ni + nh) v3 _ w2 H3.out (by omega) (by omega)
  go_wp2_with fail
  go_at_call 31
  refine C1.mono ?_
  rintro e w3 ⟨rfl, ⟨y3, o1, m1⟩, g1⟩
  have H1 : Hid (type_of% (own_asideQ H1.out g1 (fun g hg e => HQ.out.2.1 g hg e))) := own_asideQ H1.out g1 (fun g hg e => HQ.out.2.1 g hg e)
  have H2 : Hid (type_of% (own_asideQ H2.out g1 (fun g hg e => HQ.out.2.2 g hg e))) := own_asideQ H2.out g1 (fun g hg e => HQ.out.2.2 g hg e)
  have HM0 : Hid (type_of% HM.out) := HM.out
  have HM : Hid (type_of% (HM.out.trans (Mid.of_grown g1 HG.out.2.2))) := HM.out.trans (Mid.of_grown g1 HG.out.2.2)
  have HK : Hid (∀ j, j < w.heap.size → ¬ P3 v1 v2 v3 j → w3.heap[j]? = w.heap[j]?) := fun j hj hn => (g1.block j (by have := HM0.out.size; omega) (fun e => hn (.inr (.inr e.symm)))).trans (HK.out j hj hn)
  have HR := HE.out w3 ⟨⟨_, H1.out, M1.out⟩, ⟨_, H2.out, M2.out⟩, ⟨_, o1, m1⟩⟩ HM.out HK.out
  have HRH : Hid (type_of% HR) := HR
  clear x4 C1 o1 m1 g1 HR
  go_wp2_with fail
  go_ret
  exact ⟨rfl, HRH.out⟩

end Go.Proofs.Ytfkhbbmnjndmcaa
