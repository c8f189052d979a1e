/- The law's own marks in sessions. -/
import Derived.Test.YtnlppeieccbhgaaSnT
import Derived.Test.YtnlppeieccbhgaaXm
namespace Go.Proofs.Ytnlppeieccbhgaa
open Go.RowKit Plain Tpc Ssn

/-- nothing but blocks from B up to T turns -/
structure Mid (B T : Nat) (w w' : World) : Prop where
  os : w'.os = w.os
  tape : w'.tape = w.tape
  output : w'.output = w.output
  size : w.heap.size ≤ w'.heap.size
  block : ∀ j, j < w.heap.size → (j < B ∨ T ≤ j) → w'.heap[j]? = w.heap[j]?

theorem Mid.trans {B T : Nat} {w w1 w2 : World} (h : Mid B T w w1) (h' : Mid B T w1 w2) : Mid B T w w2 :=
  ⟨h'.os.trans h.os, h'.tape.trans h.tape, h'.output.trans h.output, Nat.le_trans h.size h'.size, fun j hj hk => (h'.block j (Nat.lt_of_lt_of_le hj h.size) hk).trans (h.block j hj hk)⟩
theorem Mid.of_below {B T : Nat} {w w' : World} (h : Below w.heap.size w w') : Mid B T w w' := ⟨h.os, h.tape, h.output, h.size, fun j hj _ => h.block j hj⟩
theorem Mid.of_grown {B T : Nat} {w w' : World} {row : Option Nat} (h : w.grownBy w' row) (hr : ∀ g, row = some g → B ≤ g ∧ g < T) : Mid B T w w' :=
  ⟨h.os, h.tape, h.output, h.size, fun j hj hk => h.block j hj (fun e => by have := hr j e.symm; omega)⟩
theorem Mid.below {B T : Nat} {w w' : World} (h : Mid B T w w') (hB : B ≤ w.heap.size) : Below B w w' := ⟨h.os, h.tape, h.output, h.size, fun j hj => h.block j (by omega) (.inl hj)⟩
theorem Mid.kept {B T : Nat} {w w' : World} (h : Mid B T w w') {g : Nat} (hg : g < w.heap.size) (hk : g < B ∨ T ≤ g) : w'.heap[g]? = w.heap[g]? := h.block g hg hk

/-- a session's marks -/
structure SesMk (w : World) (B k ni nh nw na : Nat) (vi vh vw va : Value) : Prop where
  i : StAt w B vi (mks k ni)
  h : StAt w B vh (mks (k + ni) nh)
  y : MarksAtPk w B vw nw (k + ni + nh)
  a : MarksAtAk w B va na (k + ni + nh + nw * 3)

theorem SesMk.below {w w' : World} {B k ni nh nw na : Nat} {vi vh vw va : Value} (h : SesMk w B k ni nh nw na vi vh vw va) (hb : Below B w w') (hB : B ≤ w.heap.size := by exact Nat.le_refl _) : SesMk w' w'.heap.size k ni nh nw na vi vh vw va :=
  ⟨h.i.below hb hB, h.h.below hb hB, h.y.below hb hB, h.a.below hb hB⟩

set_option maxRecDepth 100000 in
set_option maxHeartbeats 4000000 in
theorem markSession_any (s : Ses) (B T k : Nat) (vi vh vw va : Value) (w : World) (h : SesRow w B s vi vh vw va) (hT : ∀ g, vi.ownBlock = some g ∨ vh.ownBlock = some g ∨ vw.ownBlock = some g ∨ va.ownBlock = some g → g < T) (hl : Sml s 1048576) (hk1 : 1 ≤ k) (hk2 : k ≤ 1000) :
    Calls Try.prog 14 #[s.val vi vh vw va, .int .i64 k] w fun e w' => e = .returned (.int .i64 ((k + s.items.length + s.handed.length + s.way.length * 3 + s.acks.length * 2 : Nat) : Int)) ∧ SesMk w' w'.heap.size k s.items.length s.handed.length s.way.length s.acks.length vi vh vw va ∧ Mid B T w w' := by
  unfold Ses.val
  obtain ⟨l1, l2, l3, l4⟩ := hl
  obtain ⟨ri, rh, ry, ra, q1, q2, q3, q4, q5, q6⟩ := h
  unfold StRow at ri rh
  unfold PkRow at ry
  unfold AkRow at ra
  obtain ⟨W0, hW0⟩ : ∃ W, W = w.alloc (.cells #[.int .i64 s.ep, vi, .int .i64 s.base, vh, vw, va] 26) := ⟨_, rfl⟩
  have hb0 : Below w.heap.size w W0 := by rw [hW0]; exact (Below.refl _ w).alloc (Nat.le_refl _) _
  have V1 : Sv W0 w.heap.size (.int .i64 s.ep) vi (.int .i64 s.base) vh vw va := by rw [hW0]; exact Sv.fresh w _ _ _ _ _ _ _
  have n1 : ∀ g, vi.ownBlock = some g → g < w.heap.size := fun g hg => (World.ownsRow.lt ri g hg).2
  have n2 : ∀ g, vh.ownBlock = some g → g < w.heap.size := fun g hg => (World.ownsRow.lt rh g hg).2
  have n3 : ∀ g, vw.ownBlock = some g → g < w.heap.size := fun g hg => (World.ownsRow.lt ry g hg).2
  have n4 : ∀ g, va.ownBlock = some g → g < w.heap.size := fun g hg => (World.ownsRow.lt ra g hg).2
  have b1 : ∀ g, vi.ownBlock = some g → B ≤ g ∧ g < T := fun g hg => ⟨(World.ownsRow.lt ri g hg).1, hT g (.inl hg)⟩
  have b2 : ∀ g, vh.ownBlock = some g → B ≤ g ∧ g < T := fun g hg => ⟨(World.ownsRow.lt rh g hg).1, hT g (.inr (.inl hg))⟩
  have b3 : ∀ g, vw.ownBlock = some g → B ≤ g ∧ g < T := fun g hg => ⟨(World.ownsRow.lt ry g hg).1, hT g (.inr (.inr (.inl hg)))⟩
  have b4 : ∀ g, va.ownBlock = some g → B ≤ g ∧ g < T := fun g hg => ⟨(World.ownsRow.lt ra g hg).1, hT g (.inr (.inr (.inr hg)))⟩
  have HM : Hid (Mid B T w W0) := Mid.of_below hb0
  have HI : Hid (type_of% (own_belowY ri hb0)) := own_belowY ri hb0
  have HH : Hid (type_of% (own_belowY rh hb0)) := own_belowY rh hb0
  have HY : Hid (type_of% (own_belowY ry hb0)) := own_belowY ry hb0
  have HA : Hid (type_of% (own_belowY ra hb0)) := own_belowY ra hb0
  have HV : Hid (type_of% V1) := V1
  have HE : Hid (∀ W, SesMk W W.heap.size k s.items.length s.handed.length s.way.length s.acks.length vi vh vw va → Mid B T w W → SesMk W W.heap.size k s.items.length s.handed.length s.way.length s.acks.length vi vh vw va ∧ Mid B T w W) := fun W h1 h2 => ⟨h1, h2⟩
  have HN : Hid ((∀ g, vi.ownBlock = some g → g < w.heap.size) ∧ (∀ g, vh.ownBlock = some g → g < w.heap.size) ∧ (∀ g, vw.ownBlock = some g → g < w.heap.size) ∧ (∀ g, va.ownBlock = some g → g < w.heap.size)) := ⟨n1, n2, n3, n4⟩
  have HG : Hid ((∀ g, vi.ownBlock = some g → B ≤ g ∧ g < T) ∧ (∀ g, vh.ownBlock = some g → B ≤ g ∧ g < T) ∧ (∀ g, vw.ownBlock = some g → B ≤ g ∧ g < T) ∧ (∀ g, va.ownBlock = some g → B ≤ g ∧ g < T)) := ⟨b1, b2, b3, b4⟩
  have HQ : Hid ((∀ g, vi.ownBlock = some g → vh.ownBlock ≠ some g) ∧ (∀ g, vi.ownBlock = some g → vw.ownBlock ≠ some g) ∧ (∀ g, vi.ownBlock = some g → va.ownBlock ≠ some g) ∧ (∀ g, vh.ownBlock = some g → vw.ownBlock ≠ some g) ∧ (∀ g, vh.ownBlock = some g → va.ownBlock ≠ some g) ∧ (∀ g, vw.ownBlock = some g → va.ownBlock ≠ some g)) := ⟨q1, q2, q3, q4, q5, q6⟩
  have x1 := V1.c1
  have C1 := markTexts_any B s.items.length k vi _ W0 HI.out (by omega) hk1 (by omega)
  clear hT hb0 V1 n1 n2 n3 n4 b1 b2 b3 b4 q1 q2 q3 q4 q5 q6 ri rh ry ra
  generalize hni : s.items.length = ni at *
  generalize hnh : s.handed.length = nh at *
  generalize hnw : s.way.length = nw at *
  generalize hna : s.acks.length = na at *
  clear hni hnh hnw hna
  obtain ⟨N0, hN0⟩ : ∃ N, N = w.heap.size := ⟨_, rfl⟩
  have HN0 : Hid (N0 = w.heap.size) := hN0
  go_enter Try.func14, Try.ntmps14
  go_upto_region 1 with fail
  rw [← hW0]
  clear hW0
  clear hN0
  go_wp2_with fail
  go_at_call 23
  refine C1.mono ?_
  rintro e w1 ⟨rfl, ⟨y1, o1, m1⟩, g1⟩
  have HI : Hid (type_of% o1) := o1
  have M1 : Hid (type_of% m1) := m1
  have HH : Hid (type_of% (own_asideS HH.out g1 (fun g hg e => HQ.out.1 g e hg))) := own_asideS HH.out g1 (fun g hg e => HQ.out.1 g e hg)
  have HY : Hid (type_of% (own_asideS HY.out g1 (fun g hg e => HQ.out.2.1 g e hg))) := own_asideS HY.out g1 (fun g hg e => HQ.out.2.1 g e hg)
  have HA : Hid (type_of% (own_asideS HA.out g1 (fun g hg e => HQ.out.2.2.1 g e hg))) := own_asideS HA.out g1 (fun g hg e => HQ.out.2.2.1 g e hg)
  have HV : Hid (type_of% (HV.out.kept (g1.block _ HV.out.low (fun e => by have := HN.out.1 _ e.symm; omega)) g1.size)) := HV.out.kept (g1.block _ HV.out.low (fun e => by have := HN.out.1 _ e.symm; omega)) g1.size
  have HM : Hid (type_of% (HM.out.trans (Mid.of_grown g1 HG.out.1))) := HM.out.trans (Mid.of_grown g1 HG.out.1)
  clear x1 C1 o1 m1 g1
  have x3 := HV.out.c3
  have C1 := markTexts_any B nh (k + ni) vh _ w1 HH.out (by omega) (by omega) (by omega)
  go_wp2_with fail
  go_at_call 23
  refine C1.mono ?_
  rintro e w2 ⟨rfl, ⟨y2, o1, m1⟩, g1⟩
  have HH : Hid (type_of% o1) := o1
  have M2 : Hid (type_of% m1) := m1
  have HI : Hid (type_of% (own_asideS HI.out g1 (fun g hg e => HQ.out.1 g hg e))) := own_asideS HI.out g1 (fun g hg e => HQ.out.1 g hg e)
  have HY : Hid (type_of% (own_asideS HY.out g1 (fun g hg e => HQ.out.2.2.2.1 g e hg))) := own_asideS HY.out g1 (fun g hg e => HQ.out.2.2.2.1 g e hg)
  have HA : Hid (type_of% (own_asideS HA.out g1 (fun g hg e => HQ.out.2.2.2.2.1 g e hg))) := own_asideS HA.out g1 (fun g hg e => HQ.out.2.2.2.2.1 g e hg)
  have HV : Hid (type_of% (HV.out.kept (g1.block _ HV.out.low (fun e => by have := HN.out.2.1 _ e.symm; omega)) g1.size)) := HV.out.kept (g1.block _ HV.out.low (fun e => by have := HN.out.2.1 _ e.symm; omega)) g1.size
  have HM : Hid (type_of% (HM.out.trans (Mid.of_grown g1 HG.out.2.1))) := HM.out.trans (Mid.of_grown g1 HG.out.2.1)
  clear x3 C1 o1 m1 g1
  have x4 := HV.out.c4
  have C1 := markPk_any B nw (k + ni + nh) vw _ w2 HY.out (by omega) (by omega) (by omega)
  go_wp2_with fail
  go_at_call 52
  refine C1.mono ?_
  rintro e w3 ⟨rfl, ⟨y3, o1, m1⟩, g1⟩
  have HY : Hid (type_of% o1) := o1
  have M3 : Hid (type_of% m1) := m1
  have HI : Hid (type_of% (own_asideS HI.out g1 (fun g hg e => HQ.out.2.1 g hg e))) := own_asideS HI.out g1 (fun g hg e => HQ.out.2.1 g hg e)
  have HH : Hid (type_of% (own_asideS HH.out g1 (fun g hg e => HQ.out.2.2.2.1 g hg e))) := own_asideS HH.out g1 (fun g hg e => HQ.out.2.2.2.1 g hg e)
  have HA : Hid (type_of% (own_asideS HA.out g1 (fun g hg e => HQ.out.2.2.2.2.2 g e hg))) := own_asideS HA.out g1 (fun g hg e => HQ.out.2.2.2.2.2 g e hg)
  have HV : Hid (type_of% (HV.out.kept (g1.block _ HV.out.low (fun e => by have := HN.out.2.2.1 _ e.symm; omega)) g1.size)) := HV.out.kept (g1.block _ HV.out.low (fun e => by have := HN.out.2.2.1 _ e.symm; omega)) g1.size
  have HM : Hid (type_of% (HM.out.trans (Mid.of_grown g1 HG.out.2.2.1))) := HM.out.trans (Mid.of_grown g1 HG.out.2.2.1)
  clear x4 C1 o1 m1 g1
  have x5 := HV.out.c5
  have C1 := markAk_any B na (k + ni + nh + nw * 3) va _ w3 HA.out (by omega) (by omega) (by omega)
  go_wp2_with fail
  go_at_call 53
  refine C1.mono ?_
  rintro e w4 ⟨rfl, ⟨y4, o1, m1⟩, g1⟩
  have HI : Hid (type_of% (own_asideS HI.out g1 (fun g hg e => HQ.out.2.2.1 g hg e))) := own_asideS HI.out g1 (fun g hg e => HQ.out.2.2.1 g hg e)
  have HH : Hid (type_of% (own_asideS HH.out g1 (fun g hg e => HQ.out.2.2.2.2.1 g hg e))) := own_asideS HH.out g1 (fun g hg e => HQ.out.2.2.2.2.1 g hg e)
  have HY : Hid (type_of% (own_asideS HY.out g1 (fun g hg e => HQ.out.2.2.2.2.2 g hg e))) := own_asideS HY.out g1 (fun g hg e => HQ.out.2.2.2.2.2 g hg e)
  have HM : Hid (type_of% (HM.out.trans (Mid.of_grown g1 HG.out.2.2.2))) := HM.out.trans (Mid.of_grown g1 HG.out.2.2.2)
  have r1 := StAt.own (marked_at HI.out M1.out)
  have r2 := StAt.own (marked_at HH.out M2.out)
  have r3 := MarksAtPk.own HY.out M3.out (by unfold maxLen; omega)
  have r4 := MarksAtAk.own o1 m1 (by unfold maxLen; omega)
  have HR := HE.out w4 ⟨r1, r2, r3, r4⟩ HM.out
  have HRH : Hid (type_of% HR) := HR
  clear x5 C1 o1 m1 g1 HR r1 r2 r3 r4
  go_wp2_with fail
  go_ret
  exact ⟨rfl, HRH.out⟩

set_option maxRecDepth 100000 in
set_option maxHeartbeats 4000000 in
theorem heldSession_any (s : Ses) (k ni nh nw na : Nat) (vi vh vw va : Value) (w : World) (h : SesMk w w.heap.size k ni nh nw na vi vh vw va) (l1 : ni ≤ 1048576) (l2 : nh ≤ 1048576) (l3 : nw ≤ 1048576) (l4 : na ≤ 1048576) (hk1 : 1 ≤ k) (hk2 : k ≤ 1000) :
    Calls Try.prog 15 #[s.val vi vh vw va, .int .i64 k] w fun e w' => e = .returned (.int .i64 ((k + ni + nh + nw * 3 + na * 2 : Nat) : Int)) ∧ Below w.heap.size w w' := by
  unfold Ses.val
  obtain ⟨W0, hW0⟩ : ∃ W, W = w.alloc (.cells #[.int .i64 s.ep, vi, .int .i64 s.base, vh, vw, va] 26) := ⟨_, rfl⟩
  have hb0 : Below w.heap.size w W0 := by rw [hW0]; exact (Below.refl _ w).alloc (Nat.le_refl _) _
  have V1 : Sv W0 w.heap.size (.int .i64 s.ep) vi (.int .i64 s.base) vh vw va := by rw [hW0]; exact Sv.fresh w _ _ _ _ _ _ _
  have HK : Hid (type_of% (h.below hb0)) := h.below hb0
  have HV : Hid (type_of% V1) := V1
  have HB : Hid (type_of% hb0) := hb0
  have x1 := V1.c1
  have C1 := heldTexts_any ni k vi W0 HK.out.i (by omega) hk1 (by omega)
  have n1 : ¬ (((k + ni : Nat) : Int) < 0) := by omega
  have n2 : ¬ (((k + ni + nh : Nat) : Int) < 0) := by omega
  have n3 : ¬ (((k + ni + nh + nw * 3 : Nat) : Int) < 0) := by omega
  have n4 : ¬ (((k + ni + nh + nw * 3 + na * 2 : Nat) : Int) < 0) := by omega
  clear h hb0 V1
  go_enter Try.func15, Try.ntmps15
  go_upto_region 1 with fail
  rw [← hW0]
  clear hW0
  go_wp2_with fail
  go_at_call 24
  refine C1.mono ?_
  rintro e w1 ⟨rfl, hb⟩
  have HK : Hid (type_of% (HK.out.below hb)) := HK.out.below hb
  have HV : Hid (type_of% (HV.out.below hb)) := HV.out.below hb
  have HB : Hid (Below w.heap.size w w1) := HB.out.trans (hb.mono HB.out.size)
  clear x1 C1 hb
  have x3 := HV.out.c3
  have C1 := heldTexts_any nh (k + ni) vh w1 HK.out.h (by omega) (by omega) (by omega)
  go_wp2_with fail
  go_at_call 24
  refine C1.mono ?_
  rintro e w2 ⟨rfl, hb⟩
  have HK : Hid (type_of% (HK.out.below hb)) := HK.out.below hb
  have HV : Hid (type_of% (HV.out.below hb)) := HV.out.below hb
  have HB : Hid (Below w.heap.size w w2) := HB.out.trans (hb.mono HB.out.size)
  clear x3 C1 hb
  have x4 := HV.out.c4
  have C1 := heldPk_any nw (k + ni + nh) vw w2 HK.out.y (by omega) (by omega) (by omega)
  go_wp2_with fail
  go_at_call 54
  refine C1.mono ?_
  rintro e w3 ⟨rfl, hb⟩
  have HK : Hid (type_of% (HK.out.below hb)) := HK.out.below hb
  have HV : Hid (type_of% (HV.out.below hb)) := HV.out.below hb
  have HB : Hid (Below w.heap.size w w3) := HB.out.trans (hb.mono HB.out.size)
  clear x4 C1 hb
  have x5 := HV.out.c5
  have C1 := heldAk_any na (k + ni + nh + nw * 3) va w3 HK.out.a (by omega) (by omega) (by omega)
  go_wp2_with fail
  go_at_call 55
  refine C1.mono ?_
  rintro e w4 ⟨rfl, hb⟩
  have HB : Hid (Below w.heap.size w w4) := HB.out.trans (hb.mono HB.out.size)
  clear x5 C1 hb
  go_wp2_with fail
  go_ret
  exact ⟨rfl, HB.out⟩

end Go.Proofs.Ytnlppeieccbhgaa
