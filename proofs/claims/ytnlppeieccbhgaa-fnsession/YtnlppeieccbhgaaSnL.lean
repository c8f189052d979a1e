/- The law's own looks at sessions: how great, alike, copies, opened. -/
import Derived.Test.YtnlppeieccbhgaaSnB
import Derived.Deep.DeepCutAuto
import Derived.Test.YtnlppeieccbhgaaPkL
import Derived.Test.YtnlppeieccbhgaaAkL
namespace Go.Proofs.Ytnlppeieccbhgaa
open Go.RowKit Plain Tpc Ssn

theorem SesAt.form {w : World} {B : Nat} {s : Ses} {vi vh vw va : Value} (h : SesAt w B s vi vh vw va) : ∃ ai ci ah ch aw cw aa ca, vi = .slice ai s.items.length ci ∧ vh = .slice ah s.handed.length ch ∧ vw = .slice aw s.way.length cw ∧ va = .slice aa s.acks.length ca := by
  obtain ⟨a1, c1, h1, _⟩ := h.i
  obtain ⟨a2, c2, h2, _⟩ := h.h
  obtain ⟨a3, c3, h3, _⟩ := h.y
  obtain ⟨a4, c4, h4, _⟩ := h.a
  exact ⟨a1, c1, a2, c2, a3, c3, a4, c4, h1, h2, h3, h4⟩

set_option maxRecDepth 100000 in
set_option maxHeartbeats 4000000 in
theorem eqSession_same (s : Ses) (vi vh vw va ui uh uw ua : Value) (w : World) (h1 : SesAt w w.heap.size s vi vh vw va) (h2 : SesAt w w.heap.size s ui uh uw ua) (hl : Sml s 2097152) :
    Calls Try.prog 13 #[s.val vi vh vw va, s.val ui uh uw ua] w fun e w' => e = .returned (.bool true) ∧ Below w.heap.size w w' := by
  unfold Ses.val
  obtain ⟨W0, hW0⟩ : ∃ W, W = (w.alloc (.cells #[.int .i64 s.ep, vi, .int .i64 s.base, vh, vw, va] 26)).alloc (.cells #[.int .i64 s.ep, ui, .int .i64 s.base, uh, uw, ua] 26) := ⟨_, rfl⟩
  have hB0 : Below w.heap.size w W0 := by rw [hW0]; exact ((Below.refl _ w).alloc (Nat.le_refl _) _).alloc (by simp) _
  have V1 : Sv W0 w.heap.size (.int .i64 s.ep) vi (.int .i64 s.base) vh vw va := by rw [hW0]; exact (Sv.fresh w _ _ _ _ _ _ _).below ((Below.refl _ _).alloc (Nat.le_refl _) _)
  have V2 : Sv W0 (w.heap.size + 1) (.int .i64 s.ep) ui (.int .i64 s.base) uh uw ua := by
    have h := Sv.fresh (w.alloc (.cells #[.int .i64 s.ep, vi, .int .i64 s.base, vh, vw, va] 26)) (.int .i64 s.ep) ui (.int .i64 s.base) uh uw ua 26
    rw [hW0]
    simpa using h
  have A1 := h1.below hB0
  have A2 := h2.below hB0
  have n0 : (s.ep != s.ep) = false := bne_self_eq_false s.ep
  have n2 : (s.base != s.base) = false := bne_self_eq_false s.base
  have e0 := V1.c0
  have d0 := V2.c0
  have e1 := V1.c1
  have d1 := V2.c1
  have C1 := eqTexts_same s.items vi ui W0 A1.i A2.i hl.i
  clear h1 h2
  obtain ⟨ai, ci, ah, ch, aw, cw, aa, ca, rfl, rfl, rfl, rfl⟩ := A1.form
  obtain ⟨bi, di, bh, dh, bw, dw, ba, da, rfl, rfl, rfl, rfl⟩ := A2.form
  have HA1 : Hid (type_of% A1) := A1
  have HA2 : Hid (type_of% A2) := A2
  have HV1 : Hid (type_of% V1) := V1
  have HV2 : Hid (type_of% V2) := V2
  clear A1 A2 V1 V2
  go_enter Try.func13, Try.ntmps13
  go_upto_region 1 with fail
  rw [← hW0]
  clear hW0
  go_wp2_with fail
  go_at_call 22
  refine C1.mono ?_
  rintro e w1 ⟨rfl, hb⟩
  have hB1 : Below w.heap.size w w1 := hB0.trans (hb.mono hB0.size)
  have HA1 : Hid (type_of% (HA1.out.below hb)) := HA1.out.below hb
  have HA2 : Hid (type_of% (HA2.out.below hb)) := HA2.out.below hb
  have HV1 : Hid (type_of% (HV1.out.below hb)) := HV1.out.below hb
  have HV2 : Hid (type_of% (HV2.out.below hb)) := HV2.out.below hb
  clear hb e0 d0 e1 d1 C1
  have e2 := HV1.out.c2
  have d2 := HV2.out.c2
  have e3 := HV1.out.c3
  have d3 := HV2.out.c3
  have C1 := eqTexts_same s.handed _ _ w1 HA1.out.h HA2.out.h hl.h
  go_wp2_with fail
  go_at_call 22
  refine C1.mono ?_
  rintro e w2 ⟨rfl, hb⟩
  have hB2 : Below w.heap.size w w2 := hB1.trans (hb.mono hB1.size)
  have HA1 : Hid (type_of% (HA1.out.below hb)) := HA1.out.below hb
  have HA2 : Hid (type_of% (HA2.out.below hb)) := HA2.out.below hb
  have HV1 : Hid (type_of% (HV1.out.below hb)) := HV1.out.below hb
  have HV2 : Hid (type_of% (HV2.out.below hb)) := HV2.out.below hb
  clear hb e2 d2 e3 d3 C1
  have e4 := HV1.out.c4
  have d4 := HV2.out.c4
  have C1 := eqPacketS_same s.way _ _ w2 HA1.out.y HA2.out.y hl.y
  go_wp2_with fail
  go_at_call 50
  refine C1.mono ?_
  rintro e w3 ⟨rfl, hb⟩
  have hB3 : Below w.heap.size w w3 := hB2.trans (hb.mono hB2.size)
  have HA1 : Hid (type_of% (HA1.out.below hb)) := HA1.out.below hb
  have HA2 : Hid (type_of% (HA2.out.below hb)) := HA2.out.below hb
  have HV1 : Hid (type_of% (HV1.out.below hb)) := HV1.out.below hb
  have HV2 : Hid (type_of% (HV2.out.below hb)) := HV2.out.below hb
  clear hb e4 d4 C1
  have e5 := HV1.out.c5
  have d5 := HV2.out.c5
  have C1 := eqAckS_same s.acks _ _ w3 HA1.out.a HA2.out.a hl.a
  go_wp2_with fail
  go_at_call 51
  refine C1.mono ?_
  rintro e w4 ⟨rfl, hb⟩
  have hB4 : Below w.heap.size w w4 := hB3.trans (hb.mono hB3.size)
  clear hb e5 d5 C1
  go_wp2_with fail
  go_ret
  exact ⟨rfl, hB4⟩

/-- at laws.Session or at impl.Session alike -/
def SzR (s : Ses) (r : Int) : Prop := -1 ≤ r ∧ r ≤ 1048576 ∧ (0 ≤ r → Sml s 1048576 ∧ Shr s 1048576)

set_option maxRecDepth 100000 in
set_option maxHeartbeats 4000000 in
theorem szSession_left (s : Ses) (vi vh vw va : Value) (w : World) (h1 : SesAt w w.heap.size s vi vh vw va) (hs : Shr s 9223372036854775807) :
    Calls Try.prog 16 #[s.val vi vh vw va, .int .i64 1048576] w fun e w' => (∃ r : Int, e = .returned (.int .i64 r) ∧ SzR s r) ∧ Below w.heap.size w w' := by
  unfold Ses.val
  obtain ⟨W0, hW0⟩ : ∃ W, W = w.alloc (.cells #[.int .i64 s.ep, vi, .int .i64 s.base, vh, vw, va] 35) := ⟨_, rfl⟩
  have hB0 : Below w.heap.size w W0 := by rw [hW0]; exact (Below.refl _ w).alloc (Nat.le_refl _) _
  have V1 : Sv W0 w.heap.size (.int .i64 s.ep) vi (.int .i64 s.base) vh vw va := by rw [hW0]; exact Sv.fresh w _ _ _ _ _ _ _
  have A1 := h1.below hB0
  have e1 := V1.c1
  have C1 := szTexts_left s.items vi 1048576 W0 A1.i hs.i (by omega) (by omega)
  clear h1
  have HA1 : Hid (type_of% A1) := A1
  have HV1 : Hid (type_of% V1) := V1
  have HS : Hid (type_of% hs) := hs
  have hno : ∀ r : Int, r < 0 → SzR s (-1) := fun r h => ⟨by omega, by omega, fun h => by omega⟩
  have HNO : Hid (type_of% hno) := hno
  obtain ⟨ai, ci, ah, ch, aw, cw, aa, ca, rfl, rfl, rfl, rfl⟩ := A1.form
  clear A1 V1 hs hno
  go_enter Try.func16, Try.ntmps16
  go_upto_region 1 with fail
  rw [← hW0]
  clear hW0
  go_wp2_with fail
  go_at_call 56
  refine C1.mono ?_
  rintro e w1 ⟨⟨r1, rfl, l1, k1, p1⟩, hw⟩
  have hw := hw.symm
  subst hw
  have P1 : Hid (type_of% p1) := p1
  clear p1 C1 e1
  by_cases g1 : r1 < 0
  · have HZ := HNO.out _ g1
    go_wp2_with fail
    go_ret
    exact ⟨⟨_, rfl, HZ⟩, hB0⟩
  have e3 := HV1.out.c3
  have C1 := szTexts_left s.handed _ r1 _ HA1.out.h HS.out.h (by omega) k1
  go_wp2_with fail
  go_at_call 56
  refine C1.mono ?_
  rintro e w1 ⟨⟨r2, rfl, l2, k2, p2⟩, hw⟩
  have hw := hw.symm
  subst hw
  have P2 : Hid (type_of% p2) := p2
  clear p2 C1 e3
  by_cases g2 : r2 < 0
  · have HZ := HNO.out _ g2
    go_wp2_with fail
    go_ret
    exact ⟨⟨_, rfl, HZ⟩, hB0⟩
  have e4 := HV1.out.c4
  have C1 := szPacketS_left s.way _ r2 _ HA1.out.y HS.out.y (by omega) k2
  go_wp2_with fail
  go_at_call 57
  refine C1.mono ?_
  rintro e w3 ⟨⟨r3, rfl, l3, k3, p3⟩, hb⟩
  have hB3 : Below w.heap.size w w3 := hB0.trans (hb.mono hB0.size)
  have HA1 : Hid (type_of% (HA1.out.below hb)) := HA1.out.below hb
  have HV1 : Hid (type_of% (HV1.out.below hb)) := HV1.out.below hb
  have P3 : Hid (type_of% p3) := p3
  clear p3 C1 e4 hb
  by_cases g3 : r3 < 0
  · have HZ := HNO.out _ g3
    go_wp2_with fail
    go_ret
    exact ⟨⟨_, rfl, HZ⟩, hB3⟩
  have e5 := HV1.out.c5
  have C1 := szAckS_left s.acks _ r3 _ HA1.out.a (by omega) k3
  go_wp2_with fail
  go_at_call 58
  refine C1.mono ?_
  rintro e w4 ⟨⟨r4, rfl, l4, k4, p4⟩, hb⟩
  have hB4 : Below w.heap.size w w4 := hB3.trans (hb.mono hB3.size)
  have P4 : Hid (type_of% p4) := p4
  clear p4 C1 e5 hb
  by_cases g4 : r4 < 0
  · have HZ := HNO.out _ g4
    go_wp2_with fail
    go_ret
    exact ⟨⟨_, rfl, HZ⟩, hB4⟩
  have HZ : SzR s r4 := ⟨l4, k4, fun h => ⟨⟨(P1.out (by omega)).1, (P2.out (by omega)).1, (P3.out (by omega)).1, P4.out h⟩, ⟨(P1.out (by omega)).2, (P2.out (by omega)).2, (P3.out (by omega)).2⟩⟩⟩
  have HZH : Hid (type_of% HZ) := HZ
  clear HZ
  go_wp2_with fail
  go_ret
  exact ⟨⟨_, rfl, HZH.out⟩, hB4⟩

end Go.Proofs.Ytnlppeieccbhgaa
