/- Proved here: at every text and list of steps the law FnExactPlaySession answers true, that is, PlaySession answers as its model, its answer owns its memory, and it writes into nothing.
   Conditions: none beside the row's own. -/
import Derived.Test.YtnlppeieccbhgaaSnK
import Derived.Test.YtnlppeieccbhgaaXv
import Derived.Test.YtnlppeieccbhgaaXt
import Derived.Test.YtnlppeieccbhgaaXr
import Derived.Deep.DeepCutAuto
import Derived.Deep.RegionHeld3
import Derived.Deep.DrawnRows
import Derived.OpenShut
import Derived.ShutString
import Derived.ChangeMaps5
namespace Go.Proofs.Ytnlppeieccbhgaa
attribute [local go_sem ↓] Go.wp_at_zero Go.wp_at_succ
open Go.RowKit Plain Tpc Ssn

theorem SpRow.belowE {w w' : World} {B : Nat} {v : Value} {T : List Sp} (h : SpRow w B v T) (hb : Below w.heap.size w w') : SpRow w' B v T := own_belowY h hb
theorem ERow.belowE {w w' : World} {B : Nat} {v : Value} {E : List Bool} (h : ERow w B v E) (hb : Below w.heap.size w w') : ERow w' B v E := own_belowY h hb
theorem SpRow.midE {w w' : World} {B B' T lo hi : Nat} {v : Value} {L : List Sp} (h : SpRow w B v L) (ho : ∀ g, v.ownBlock = some g → lo ≤ g ∧ g < hi) (hm : Mid B' T w w') (hk : hi ≤ B' ∨ T ≤ lo) : SpRow w' B v L :=
  own_keptS h fun g hg => hm.block g (World.ownsRow.lt h g hg).2 (by have := ho g hg; omega)
theorem ERow.midE {w w' : World} {B B' T lo hi : Nat} {v : Value} {L : List Bool} (h : ERow w B v L) (ho : ∀ g, v.ownBlock = some g → lo ≤ g ∧ g < hi) (hm : Mid B' T w w') (hk : hi ≤ B' ∨ T ≤ lo) : ERow w' B v L :=
  own_keptS h fun g hg => hm.block g (World.ownsRow.lt h g hg).2 (by have := ho g hg; omega)
def EMk (w : World) (B : Nat) (v : Value) (n k : Nat) : Prop := ∃ ys, w.ownsRow B 4 1 v n ys ∧ ∀ j, j < n → ys[j]? = some (.bool (mb k j))
theorem EMk.belowE {w w' : World} {B n k : Nat} {v : Value} (h : EMk w B v n k) (hb : Below w.heap.size w w') : EMk w' B v n k := by
  obtain ⟨ys, h1, h2⟩ := h
  exact ⟨ys, own_belowY h1 hb, h2⟩

theorem StAt.keptE {w w' : World} {v : Value} {L : List ByteArray} {B : Nat} (h : StAt w B v L) (hs : B ≤ w'.heap.size) (hk : ∀ g, v.ownBlock = some g → g < B → w'.heap[g]? = w.heap[g]?) : StAt w' w'.heap.size v L := by
  obtain ⟨ao, cap, rfl, hm, hc, hr⟩ := h
  refine ⟨ao, cap, rfl, hm, hc, fun i hi => ?_⟩
  obtain ⟨g, o, ha, hg, c⟩ := hr i hi
  subst ha
  have hb := hk g rfl hg
  exact ⟨g, o, rfl, by omega, by simp only [World.cell?, hb] at c ⊢; exact c⟩
theorem MarksAtPk.keptE {w w' : World} {v : Value} {n k B : Nat} (h : MarksAtPk w B v n k) (hs : B ≤ w'.heap.size) (hk : ∀ g, v.ownBlock = some g → g < B → w'.heap[g]? = w.heap[g]?) : MarksAtPk w' w'.heap.size v n k := by
  obtain ⟨ao, cap, rfl, hm, hr⟩ := h
  refine ⟨ao, cap, rfl, hm, fun j hj => ?_⟩
  obtain ⟨g, o, ha, hg, c⟩ := hr j hj
  subst ha
  have hb := hk g rfl hg
  exact ⟨g, o, rfl, by omega, by simp only [World.cell?, hb] at c ⊢; exact c⟩
theorem MarksAtAk.keptE {w w' : World} {v : Value} {n k B : Nat} (h : MarksAtAk w B v n k) (hs : B ≤ w'.heap.size) (hk : ∀ g, v.ownBlock = some g → g < B → w'.heap[g]? = w.heap[g]?) : MarksAtAk w' w'.heap.size v n k := by
  obtain ⟨ao, cap, rfl, hm, hr⟩ := h
  refine ⟨ao, cap, rfl, hm, fun j hj => ?_⟩
  obtain ⟨g, o, ha, hg, c⟩ := hr j hj
  subst ha
  have hb := hk g rfl hg
  exact ⟨g, o, rfl, by omega, by simp only [World.cell?, hb] at c ⊢; exact c⟩
theorem SesMk.midE {w w' : World} {k ni nh nw na B' T lo hi : Nat} {vi vh vw va : Value} (h : SesMk w w.heap.size k ni nh nw na vi vh vw va) (ho : OwnIn lo hi vi vh vw va) (hm : Mid B' T w w') (hk : hi ≤ B' ∨ T ≤ lo) : SesMk w' w'.heap.size k ni nh nw na vi vh vw va :=
  have q : ∀ g, (vi.ownBlock = some g ∨ vh.ownBlock = some g ∨ vw.ownBlock = some g ∨ va.ownBlock = some g) → g < w.heap.size → w'.heap[g]? = w.heap[g]? := fun g hg hl => hm.block g hl (by have := ho g hg; omega)
  ⟨h.i.keptE hm.size fun g hg => q g (.inl hg), h.h.keptE hm.size fun g hg => q g (.inr (.inl hg)), h.y.keptE hm.size fun g hg => q g (.inr (.inr (.inl hg))), h.a.keptE hm.size fun g hg => q g (.inr (.inr (.inr hg)))⟩

set_option maxRecDepth 100000 in
set_option maxHeartbeats 16000000 in
theorem walkFnExactPlaySession (p : ByteArray) (l : List Sp) (v : Value) (w : World) (hm : p.size ≤ maxLen) (hT : SpsAt w w.heap.size v l) (hN : ∀ i, i < l.length → (sp l i).tx.size ≤ 9223372036854775807) :
    Calls Try.prog 7 #[.string p, v] w fun e w' => e = .returned (.bool true) ∧ Below w.heap.size w w' := by
  have hm' : p.size ≤ 9223372036854775807 := by unfold maxLen at hm; omega
  by_cases hbigp : 1048576 < p.size
  · have d : decide ((1048576 : Int) < (p.size : Int)) = true := by simp; omega
    clear hT hN
    go_enter Try.func7, Try.ntmps7
    go_wp2
    go_ret
    exact ⟨rfl, Below.refl _ _⟩
  have dp : decide ((1048576 : Int) < (p.size : Int)) = false := by simp; omega
  obtain ⟨ao0, cap0, rfl, hlc, hcm, hrow⟩ := hT
  have HT0 : Hid (SpsAt w w.heap.size (.slice ao0 l.length cap0) l) := ⟨ao0, cap0, rfl, hlc, hcm, hrow⟩
  have HN : Hid (∀ i, i < l.length → (sp l i).tx.size ≤ 9223372036854775807) := hN
  have SZ : Hid (Calls Try.prog 29 #[.slice ao0 l.length cap0, .int .i64 1048576] w fun e w' => (∃ r : Int, e = .returned (.int .i64 r) ∧ -1 ≤ r ∧ r ≤ 1048576 ∧ (0 ≤ r → l.length ≤ 1048576 ∧ ∀ i, i < l.length → (sp l i).tx.size ≤ 1048576)) ∧ Below w.heap.size w w') := szSesStepS_left l _ 1048576 w HT0.out hN (by decide) (by decide)
  have hFl : Sml (plS p l) 40 := by
    unfold plS
    by_cases h : plK p l = true
    · rw [if_pos h]
      have hq : nwK p = true := by unfold plK at h; simp at h; exact h.1
      exact ((plF_good l _ (nwS_good hq)).sml).up (by decide)
    · rw [if_neg h]; exact ⟨Nat.zero_le _, Nat.zero_le _, Nat.zero_le _, Nat.zero_le _⟩
  have hDl : (plD p l).length ≤ 200 := by
    unfold plD
    by_cases h : plK p l = true
    · rw [if_pos h, plB_len]
      unfold plK at h; simp at h; exact h.2
    · rw [if_neg h]; exact Nat.zero_le _
  have CS : Hid (∀ W v', SpsAt W W.heap.size v' l → Calls Try.prog 30 #[.string p, v'] W fun e w' => PlO W w' e p l) := fun W v' h => specPlayS p l v' W hm' h hN
  have CI : Hid (∀ W v', SpsAt W W.heap.size v' l → Calls Try.prog 32 #[.string p, v'] W fun e w' => PlO W w' e p l) := fun W v' h => implPlayS p l v' W hm' h hN
  have CT : Hid (l.length ≤ 1048576 → ∀ W, Below w.heap.size w W → Calls Try.prog 31 #[.slice ao0 l.length cap0] W fun e w' => ∃ ao cap, e = .returned (.slice ao l.length cap) ∧ SpRow w' W.heap.size (.slice ao l.length cap) l ∧ Below W.heap.size W w') := fun hl W hW => (toSesStepS_any l _ W (HT0.out.below hW) hl).mono fun e w' h => by
    obtain ⟨r, he, hr, hb⟩ := h
    obtain ⟨ao, cap, rfl, _, _⟩ := hr.slice
    exact ⟨ao, cap, he, hr, hb⟩
  unfold PlO at CS CI
  generalize plS p l = F at CS CI hFl
  generalize plD p l = D at CS CI hDl
  generalize plK p l = K at CS CI
  have EF : Hid (∀ W vi vh vw va ui uh uw ua, SesAt W W.heap.size F vi vh vw va → SesAt W W.heap.size F ui uh uw ua → Calls Try.prog 13 #[.agg #[.int .i64 F.ep, vi, .int .i64 F.base, vh, vw, va], .agg #[.int .i64 F.ep, ui, .int .i64 F.base, uh, uw, ua]] W fun e w' => e = .returned (.bool true) ∧ Below W.heap.size W w') := fun W vi vh vw va ui uh uw ua h1 h2 => eqSession_same F vi vh vw va ui uh uw ua W h1 h2 ⟨by have := hFl.i; omega, by have := hFl.h; omega, by have := hFl.y; omega, by have := hFl.a; omega⟩
  have MG : Hid (∀ B T W vi vh vw va, SesRow W B F vi vh vw va → OwnIn B T vi vh vw va → Calls Try.prog 14 #[.agg #[.int .i64 F.ep, vi, .int .i64 F.base, vh, vw, va], .int .i64 1] W fun e w' => e = .returned (.int .i64 ((1 + F.items.length + F.handed.length + F.way.length * 3 + F.acks.length * 2 : Nat) : Int)) ∧ SesMk w' w'.heap.size 1 F.items.length F.handed.length F.way.length F.acks.length vi vh vw va ∧ Mid B T W w') := fun B T W vi vh vw va h1 h2 => markSession_any F B T 1 vi vh vw va W h1 (fun g hg => (h2 g hg).2) ⟨by have := hFl.i; omega, by have := hFl.h; omega, by have := hFl.y; omega, by have := hFl.a; omega⟩ (by omega) (by omega)
  have HG : Hid (∀ W vi vh vw va, SesMk W W.heap.size 1 F.items.length F.handed.length F.way.length F.acks.length vi vh vw va → Calls Try.prog 15 #[.agg #[.int .i64 F.ep, vi, .int .i64 F.base, vh, vw, va], .int .i64 1] W fun e w' => e = .returned (.int .i64 ((1 + F.items.length + F.handed.length + F.way.length * 3 + F.acks.length * 2 : Nat) : Int)) ∧ Below W.heap.size W w') := fun W vi vh vw va h => heldSession_any F 1 _ _ _ _ vi vh vw va W h (by have := hFl.i; omega) (by have := hFl.h; omega) (by have := hFl.y; omega) (by have := hFl.a; omega) (by omega) (by omega)
  have nK : (K != K) = false := bne_self_eq_false K
  obtain ⟨M0, hM0⟩ : ∃ M, M = (1 + F.items.length + F.handed.length + F.way.length * 3 + F.acks.length * 2) := ⟨_, rfl⟩
  rw [← hM0] at MG HG
  have hM0b : M0 ≤ 1000000 ∧ 1 ≤ M0 := by have := hFl.i; have := hFl.h; have := hFl.y; have := hFl.a; omega
  have hNK : ¬ ((M0 : Int) < 0) := by omega
  obtain ⟨M1, hM1⟩ : ∃ M, M = M0 + D.length := ⟨_, rfl⟩
  have hNK1 : ¬ ((M1 : Int) < 0) := by omega
  have EB : Hid (∀ W v1 v2, EAt W W.heap.size v1 D → EAt W W.heap.size v2 D → Calls Try.prog 33 #[v1, v2] W fun e w' => e = .returned (.bool true) ∧ Below W.heap.size W w') := fun W v1 v2 h1 h2 => eqE_same D v1 v2 W h1 h2 (by omega)
  have MB : Hid (∀ B W v, ERow W B v D → Calls Try.prog 36 #[v, .int .i64 (M0 : Int)] W fun e w' => e = .returned (.int .i64 (M1 : Int)) ∧ EMk w' B v D.length M0 ∧ W.grownBy w' v.ownBlock) := fun B W v h => by
    rw [hM1]
    exact markEM_any B D.length M0 v (bols D) W h (by omega) (by omega)
  have HBd : Hid (∀ B W v, EMk W B v D.length M0 → Calls Try.prog 37 #[v, .int .i64 (M0 : Int)] W fun e w' => e = .returned (.int .i64 (M1 : Int)) ∧ Below W.heap.size W w') := fun B W v h => by
    obtain ⟨ys, h1, h2⟩ := h
    rw [hM1]
    exact heldEM_any B D.length M0 v ys W h1 h2 (by omega) (by omega)
  have hMM : ((M1 : Int) != (M1 : Int)) = false := bne_self_eq_false _
  clear hFl hrow hN hM1 hM0
  go_enter Try.func7, Try.ntmps7
  go_wp2_with fail
  go_at_call 29
  refine (SZ.out).mono ?_
  rintro e w1 ⟨⟨r, rfl, hr0, hr1, hr2⟩, hb1⟩
  have hsw1 := hb1.size
  have HBw1 : Hid (Below w.heap.size w w1) := hb1
  clear hb1
  by_cases hneg : r < 0
  · clear hr2 CS CI CT EF MG HG EB MB HBd
    go_wp2_with fail
    go_ret
    exact ⟨rfl, HBw1.out⟩
  obtain ⟨hll, hlt⟩ := hr2 (by omega)
  clear hr2 SZ hlt
  have HCT : Hid (type_of% (CT.out hll)) := CT.out hll
  clear CT
  go_wp2_with fail
  go_at_call 31
  refine (HCT.out _ HBw1.out).mono ?_
  rintro e w2 ⟨ao2, cap2, rfl, hr2, hb2⟩
  have hsw2 := hb2.size
  have HBw2 : Hid (Below w.heap.size w w2) := HBw1.out.trans (hb2.mono HBw1.out.size)
  clear HBw1
  clear hb2
  go_wp2_with fail
  go_at_call 30
  refine (CS.out _ _ (SpsAt.own hr2)).mono ?_
  rintro e w3 ⟨ai3, ci3, ah3, ch3, aw3, cw3, aa3, ca3, bo3, bc3, m3, rfl, hr3, he3, hm3, hmm3, hb3⟩
  clear hr2 CS
  have hsw3 := hb3.size
  have HBw3 : Hid (Below w.heap.size w w3) := HBw2.out.trans (hb3.mono HBw2.out.size)
  clear HBw2
  clear hb3
  have HRU : Hid (SesRow w3 (m3) F (.slice ai3 F.items.length ci3) (.slice ah3 F.handed.length ch3) (.slice aw3 F.way.length cw3) (.slice aa3 F.acks.length ca3)) := hr3
  have HLU : Hid (OwnIn m3 w3.heap.size (.slice ai3 F.items.length ci3) (.slice ah3 F.handed.length ch3) (.slice aw3 F.way.length cw3) (.slice aa3 F.acks.length ca3)) := SesRow.ownIn hr3
  clear hr3
  have HEDU : Hid (ERow w3 (w2.heap.size) (.slice bo3 D.length bc3) D) := he3
  have HQDU : Hid (∀ g, (.slice bo3 D.length bc3 : Value).ownBlock = some g → w2.heap.size ≤ g ∧ g < m3) := fun g hg => ⟨(World.ownsRow.lt he3 g hg).1, hm3 g hg⟩
  clear he3 hm3
  obtain ⟨hlo3, hhi3⟩ := hmm3
  obtain ⟨W3, hW3⟩ : ∃ X, X = w3.alloc (.cells #[.int .i64 F.ep, .slice ai3 F.items.length ci3, .int .i64 F.base, .slice ah3 F.handed.length ch3, .slice aw3 F.way.length cw3, .slice aa3 F.acks.length ca3] 26) := ⟨_, rfl⟩
  have hbW3 : Below w3.heap.size w3 W3 := by rw [hW3]; exact (Below.refl _ _).alloc (Nat.le_refl _) _
  have hlW3 : w3.heap.size < W3.heap.size := by rw [hW3]; simp
  have HEDU : Hid (ERow W3 (w2.heap.size) (.slice bo3 D.length bc3) D) := HEDU.out.belowE hbW3
  have hsW3 := hbW3.size
  have HBW3 : Hid (Below w.heap.size w W3) := HBw3.out.trans (hbW3.mono HBw3.out.size)
  have HRU : Hid (SesRow W3 (m3) F (.slice ai3 F.items.length ci3) (.slice ah3 F.handed.length ch3) (.slice aw3 F.way.length cw3) (.slice aa3 F.acks.length ca3)) := HRU.out.below hbW3
  clear HBw3
  have HV1 : Hid (Sv W3 (w3.heap.size) (.int .i64 F.ep) (.slice ai3 F.items.length ci3) (.int .i64 F.base) (.slice ah3 F.handed.length ch3) (.slice aw3 F.way.length cw3) (.slice aa3 F.acks.length ca3)) := by show Sv _ _ _ _ _ _ _ _; rw [hW3]; exact Sv.fresh w3 _ _ _ _ _ _ _
  clear hbW3
  go_upto_region 8 with fail
  rw [← hW3]
  clear hW3
  go_wp2_with fail
  go_at_call 31
  refine (HCT.out _ HBW3.out).mono ?_
  rintro e w4 ⟨ao4, cap4, rfl, hr4, hb4⟩
  have HEDU : Hid (ERow w4 (w2.heap.size) (.slice bo3 D.length bc3) D) := HEDU.out.belowE hb4
  have hsw4 := hb4.size
  have HBw4 : Hid (Below w.heap.size w w4) := HBW3.out.trans (hb4.mono HBW3.out.size)
  have HV1 : Hid (Sv w4 (w3.heap.size) (.int .i64 F.ep) (.slice ai3 F.items.length ci3) (.int .i64 F.base) (.slice ah3 F.handed.length ch3) (.slice aw3 F.way.length cw3) (.slice aa3 F.acks.length ca3)) := HV1.out.below hb4
  have HRU : Hid (SesRow w4 (m3) F (.slice ai3 F.items.length ci3) (.slice ah3 F.handed.length ch3) (.slice aw3 F.way.length cw3) (.slice aa3 F.acks.length ca3)) := HRU.out.below hb4
  clear HBW3
  clear hb4
  have HEX : Hid (SpRow w4 (W3.heap.size) (.slice ao4 l.length cap4) l) := hr4
  have HQX : Hid (∀ g, (.slice ao4 l.length cap4 : Value).ownBlock = some g → W3.heap.size ≤ g ∧ g < w4.heap.size) := fun g hg => World.ownsRow.lt hr4 g hg
  clear hr4
  go_wp2_with fail
  go_at_call 32
  refine (CI.out _ _ (SpsAt.own HEX.out)).mono ?_
  rintro e w5 ⟨ai5, ci5, ah5, ch5, aw5, cw5, aa5, ca5, bo5, bc5, m5, rfl, hr5, he5, hm5, hmm5, hb5⟩
  have HEDU : Hid (ERow w5 (w2.heap.size) (.slice bo3 D.length bc3) D) := HEDU.out.belowE hb5
  have HEX : Hid (SpRow w5 (W3.heap.size) (.slice ao4 l.length cap4) l) := HEX.out.belowE hb5
  have hsw5 := hb5.size
  have HBw5 : Hid (Below w.heap.size w w5) := HBw4.out.trans (hb5.mono HBw4.out.size)
  have HV1 : Hid (Sv w5 (w3.heap.size) (.int .i64 F.ep) (.slice ai3 F.items.length ci3) (.int .i64 F.base) (.slice ah3 F.handed.length ch3) (.slice aw3 F.way.length cw3) (.slice aa3 F.acks.length ca3)) := HV1.out.below hb5
  have HRU : Hid (SesRow w5 (m3) F (.slice ai3 F.items.length ci3) (.slice ah3 F.handed.length ch3) (.slice aw3 F.way.length cw3) (.slice aa3 F.acks.length ca3)) := HRU.out.below hb5
  clear HBw4
  clear hb5
  have HRG : Hid (SesRow w5 (m5) F (.slice ai5 F.items.length ci5) (.slice ah5 F.handed.length ch5) (.slice aw5 F.way.length cw5) (.slice aa5 F.acks.length ca5)) := hr5
  have HLG : Hid (OwnIn m5 w5.heap.size (.slice ai5 F.items.length ci5) (.slice ah5 F.handed.length ch5) (.slice aw5 F.way.length cw5) (.slice aa5 F.acks.length ca5)) := SesRow.ownIn hr5
  clear hr5
  have HEDG : Hid (ERow w5 (w4.heap.size) (.slice bo5 D.length bc5) D) := he5
  have HQDG : Hid (∀ g, (.slice bo5 D.length bc5 : Value).ownBlock = some g → w4.heap.size ≤ g ∧ g < m5) := fun g hg => ⟨(World.ownsRow.lt he5 g hg).1, hm5 g hg⟩
  clear he5 hm5
  obtain ⟨hlo5, hhi5⟩ := hmm5
  obtain ⟨W5, hW5⟩ : ∃ X, X = w5.alloc (.cells #[.int .i64 F.ep, .slice ai5 F.items.length ci5, .int .i64 F.base, .slice ah5 F.handed.length ch5, .slice aw5 F.way.length cw5, .slice aa5 F.acks.length ca5] 26) := ⟨_, rfl⟩
  have hbW5 : Below w5.heap.size w5 W5 := by rw [hW5]; exact (Below.refl _ _).alloc (Nat.le_refl _) _
  have hlW5 : w5.heap.size < W5.heap.size := by rw [hW5]; simp
  have HEDU : Hid (ERow W5 (w2.heap.size) (.slice bo3 D.length bc3) D) := HEDU.out.belowE hbW5
  have HEX : Hid (SpRow W5 (W3.heap.size) (.slice ao4 l.length cap4) l) := HEX.out.belowE hbW5
  have HEDG : Hid (ERow W5 (w4.heap.size) (.slice bo5 D.length bc5) D) := HEDG.out.belowE hbW5
  have hsW5 := hbW5.size
  have HBW5 : Hid (Below w.heap.size w W5) := HBw5.out.trans (hbW5.mono HBw5.out.size)
  have HV1 : Hid (Sv W5 (w3.heap.size) (.int .i64 F.ep) (.slice ai3 F.items.length ci3) (.int .i64 F.base) (.slice ah3 F.handed.length ch3) (.slice aw3 F.way.length cw3) (.slice aa3 F.acks.length ca3)) := HV1.out.below hbW5
  have HRU : Hid (SesRow W5 (m3) F (.slice ai3 F.items.length ci3) (.slice ah3 F.handed.length ch3) (.slice aw3 F.way.length cw3) (.slice aa3 F.acks.length ca3)) := HRU.out.below hbW5
  have HRG : Hid (SesRow W5 (m5) F (.slice ai5 F.items.length ci5) (.slice ah5 F.handed.length ch5) (.slice aw5 F.way.length cw5) (.slice aa5 F.acks.length ca5)) := HRG.out.below hbW5
  clear HBw5
  have HV2 : Hid (Sv W5 (w5.heap.size) (.int .i64 F.ep) (.slice ai5 F.items.length ci5) (.int .i64 F.base) (.slice ah5 F.handed.length ch5) (.slice aw5 F.way.length cw5) (.slice aa5 F.acks.length ca5)) := by show Sv _ _ _ _ _ _ _ _; rw [hW5]; exact Sv.fresh w5 _ _ _ _ _ _ _
  clear hbW5
  go_upto_region 10 with fail
  rw [← hW5]
  clear hW5
  have y20 := HV2.out.c0
  have y21 := HV2.out.c1
  have y22 := HV2.out.c2
  have y23 := HV2.out.c3
  have y24 := HV2.out.c4
  have y25 := HV2.out.c5
  have y10 := HV1.out.c0
  have y11 := HV1.out.c1
  have y12 := HV1.out.c2
  have y13 := HV1.out.c3
  have y14 := HV1.out.c4
  have y15 := HV1.out.c5
  go_wp2_with fail
  go_at_call 13
  refine (EF.out _ _ _ _ _ _ _ _ _ HRG.out.at HRU.out.at).mono ?_
  rintro e w6 ⟨rfl, hbw6⟩
  clear y20 y21 y22 y23 y24 y25 y10 y11 y12 y13 y14 y15
  have HEDU : Hid (ERow w6 (w2.heap.size) (.slice bo3 D.length bc3) D) := HEDU.out.belowE hbw6
  have HEX : Hid (SpRow w6 (W3.heap.size) (.slice ao4 l.length cap4) l) := HEX.out.belowE hbw6
  have HEDG : Hid (ERow w6 (w4.heap.size) (.slice bo5 D.length bc5) D) := HEDG.out.belowE hbw6
  have hsw6 := hbw6.size
  have HBw6 : Hid (Below w.heap.size w w6) := HBW5.out.trans (hbw6.mono HBW5.out.size)
  have HV1 : Hid (Sv w6 (w3.heap.size) (.int .i64 F.ep) (.slice ai3 F.items.length ci3) (.int .i64 F.base) (.slice ah3 F.handed.length ch3) (.slice aw3 F.way.length cw3) (.slice aa3 F.acks.length ca3)) := HV1.out.below hbw6
  have HV2 : Hid (Sv w6 (w5.heap.size) (.int .i64 F.ep) (.slice ai5 F.items.length ci5) (.int .i64 F.base) (.slice ah5 F.handed.length ch5) (.slice aw5 F.way.length cw5) (.slice aa5 F.acks.length ca5)) := HV2.out.below hbw6
  have HRU : Hid (SesRow w6 (m3) F (.slice ai3 F.items.length ci3) (.slice ah3 F.handed.length ch3) (.slice aw3 F.way.length cw3) (.slice aa3 F.acks.length ca3)) := HRU.out.below hbw6
  have HRG : Hid (SesRow w6 (m5) F (.slice ai5 F.items.length ci5) (.slice ah5 F.handed.length ch5) (.slice aw5 F.way.length cw5) (.slice aa5 F.acks.length ca5)) := HRG.out.below hbw6
  clear HBW5
  clear hbw6
  go_wp2_with fail
  go_at_call 33
  refine (EB.out _ _ _ (EAt.own HEDG.out) (EAt.own HEDU.out)).mono ?_
  rintro e w7 ⟨rfl, hbw7⟩
  have HEDU : Hid (ERow w7 (w2.heap.size) (.slice bo3 D.length bc3) D) := HEDU.out.belowE hbw7
  have HEX : Hid (SpRow w7 (W3.heap.size) (.slice ao4 l.length cap4) l) := HEX.out.belowE hbw7
  have HEDG : Hid (ERow w7 (w4.heap.size) (.slice bo5 D.length bc5) D) := HEDG.out.belowE hbw7
  have hsw7 := hbw7.size
  have HBw7 : Hid (Below w.heap.size w w7) := HBw6.out.trans (hbw7.mono HBw6.out.size)
  have HV1 : Hid (Sv w7 (w3.heap.size) (.int .i64 F.ep) (.slice ai3 F.items.length ci3) (.int .i64 F.base) (.slice ah3 F.handed.length ch3) (.slice aw3 F.way.length cw3) (.slice aa3 F.acks.length ca3)) := HV1.out.below hbw7
  have HV2 : Hid (Sv w7 (w5.heap.size) (.int .i64 F.ep) (.slice ai5 F.items.length ci5) (.int .i64 F.base) (.slice ah5 F.handed.length ch5) (.slice aw5 F.way.length cw5) (.slice aa5 F.acks.length ca5)) := HV2.out.below hbw7
  have HRU : Hid (SesRow w7 (m3) F (.slice ai3 F.items.length ci3) (.slice ah3 F.handed.length ch3) (.slice aw3 F.way.length cw3) (.slice aa3 F.acks.length ca3)) := HRU.out.below hbw7
  have HRG : Hid (SesRow w7 (m5) F (.slice ai5 F.items.length ci5) (.slice ah5 F.handed.length ch5) (.slice aw5 F.way.length cw5) (.slice aa5 F.acks.length ca5)) := HRG.out.below hbw7
  clear HBw6
  clear hbw7
  go_wp2_with fail
  go_at_call 31
  refine (HCT.out _ HBw7.out).mono ?_
  rintro e w8 ⟨ao8, cap8, rfl, hr8, hb8⟩
  have HEDU : Hid (ERow w8 (w2.heap.size) (.slice bo3 D.length bc3) D) := HEDU.out.belowE hb8
  have HEX : Hid (SpRow w8 (W3.heap.size) (.slice ao4 l.length cap4) l) := HEX.out.belowE hb8
  have HEDG : Hid (ERow w8 (w4.heap.size) (.slice bo5 D.length bc5) D) := HEDG.out.belowE hb8
  have hsw8 := hb8.size
  have HBw8 : Hid (Below w.heap.size w w8) := HBw7.out.trans (hb8.mono HBw7.out.size)
  have HV1 : Hid (Sv w8 (w3.heap.size) (.int .i64 F.ep) (.slice ai3 F.items.length ci3) (.int .i64 F.base) (.slice ah3 F.handed.length ch3) (.slice aw3 F.way.length cw3) (.slice aa3 F.acks.length ca3)) := HV1.out.below hb8
  have HV2 : Hid (Sv w8 (w5.heap.size) (.int .i64 F.ep) (.slice ai5 F.items.length ci5) (.int .i64 F.base) (.slice ah5 F.handed.length ch5) (.slice aw5 F.way.length cw5) (.slice aa5 F.acks.length ca5)) := HV2.out.below hb8
  have HRU : Hid (SesRow w8 (m3) F (.slice ai3 F.items.length ci3) (.slice ah3 F.handed.length ch3) (.slice aw3 F.way.length cw3) (.slice aa3 F.acks.length ca3)) := HRU.out.below hb8
  have HRG : Hid (SesRow w8 (m5) F (.slice ai5 F.items.length ci5) (.slice ah5 F.handed.length ch5) (.slice aw5 F.way.length cw5) (.slice aa5 F.acks.length ca5)) := HRG.out.below hb8
  clear HBw7
  clear hb8
  go_wp2_with fail
  go_at_call 34
  refine (eqSesStepS_same l _ _ w8 (SpsAt.own HEX.out) (SpsAt.own hr8) (by omega)).mono ?_
  rintro e w9 ⟨rfl, hb9⟩
  clear hr8
  have HEDU : Hid (ERow w9 (w2.heap.size) (.slice bo3 D.length bc3) D) := HEDU.out.belowE hb9
  have HEX : Hid (SpRow w9 (W3.heap.size) (.slice ao4 l.length cap4) l) := HEX.out.belowE hb9
  have HEDG : Hid (ERow w9 (w4.heap.size) (.slice bo5 D.length bc5) D) := HEDG.out.belowE hb9
  have hsw9 := hb9.size
  have HBw9 : Hid (Below w.heap.size w w9) := HBw8.out.trans (hb9.mono HBw8.out.size)
  have HV1 : Hid (Sv w9 (w3.heap.size) (.int .i64 F.ep) (.slice ai3 F.items.length ci3) (.int .i64 F.base) (.slice ah3 F.handed.length ch3) (.slice aw3 F.way.length cw3) (.slice aa3 F.acks.length ca3)) := HV1.out.below hb9
  have HV2 : Hid (Sv w9 (w5.heap.size) (.int .i64 F.ep) (.slice ai5 F.items.length ci5) (.int .i64 F.base) (.slice ah5 F.handed.length ch5) (.slice aw5 F.way.length cw5) (.slice aa5 F.acks.length ca5)) := HV2.out.below hb9
  have HRU : Hid (SesRow w9 (m3) F (.slice ai3 F.items.length ci3) (.slice ah3 F.handed.length ch3) (.slice aw3 F.way.length cw3) (.slice aa3 F.acks.length ca3)) := HRU.out.below hb9
  have HRG : Hid (SesRow w9 (m5) F (.slice ai5 F.items.length ci5) (.slice ah5 F.handed.length ch5) (.slice aw5 F.way.length cw5) (.slice aa5 F.acks.length ca5)) := HRG.out.below hb9
  clear HBw8
  clear hb9
  go_wp2_with fail
  go_at_call 35
  refine (markSp_any (W3.heap.size) l.length 1 _ _ w9 HEX.out (by omega) (by omega) (by omega)).mono ?_
  rintro e w10 ⟨rfl, _, hgw10⟩
  have hmw10 : Mid (W3.heap.size) (w4.heap.size) w9 w10 := Mid.of_grown hgw10 (fun g hg => HQX.out g hg)
  have HEDU : Hid (ERow w10 (w2.heap.size) (.slice bo3 D.length bc3) D) := HEDU.out.midE HQDU.out hmw10 (by omega)
  have HEDG : Hid (ERow w10 (w4.heap.size) (.slice bo5 D.length bc5) D) := HEDG.out.midE HQDG.out hmw10 (by omega)
  have hsw10 := hmw10.size
  have HBw10 : Hid (Below w.heap.size w w10) := HBw9.out.trans ((hmw10.below (by omega)).mono (by omega))
  have HV1 : Hid (Sv w10 (w3.heap.size) (.int .i64 F.ep) (.slice ai3 F.items.length ci3) (.int .i64 F.base) (.slice ah3 F.handed.length ch3) (.slice aw3 F.way.length cw3) (.slice aa3 F.acks.length ca3)) := HV1.out.mid hmw10 (by omega)
  have HV2 : Hid (Sv w10 (w5.heap.size) (.int .i64 F.ep) (.slice ai5 F.items.length ci5) (.int .i64 F.base) (.slice ah5 F.handed.length ch5) (.slice aw5 F.way.length cw5) (.slice aa5 F.acks.length ca5)) := HV2.out.mid hmw10 (by omega)
  have HRU : Hid (SesRow w10 (m3) F (.slice ai3 F.items.length ci3) (.slice ah3 F.handed.length ch3) (.slice aw3 F.way.length cw3) (.slice aa3 F.acks.length ca3)) := HRU.out.mid HLU.out hmw10 (by omega)
  have HRG : Hid (SesRow w10 (m5) F (.slice ai5 F.items.length ci5) (.slice ah5 F.handed.length ch5) (.slice aw5 F.way.length cw5) (.slice aa5 F.acks.length ca5)) := HRG.out.mid HLG.out hmw10 (by omega)
  clear HBw9
  clear hmw10 hgw10
  clear HEX HQX
  have hk10 : ¬ (((1 + l.length * 3 : Nat) : Int) < 0) := by omega
  have y20 := HV2.out.c0
  have y21 := HV2.out.c1
  have y22 := HV2.out.c2
  have y23 := HV2.out.c3
  have y24 := HV2.out.c4
  have y25 := HV2.out.c5
  have y10 := HV1.out.c0
  have y11 := HV1.out.c1
  have y12 := HV1.out.c2
  have y13 := HV1.out.c3
  have y14 := HV1.out.c4
  have y15 := HV1.out.c5
  go_wp2_with fail
  go_at_call 13
  refine (EF.out _ _ _ _ _ _ _ _ _ HRG.out.at HRU.out.at).mono ?_
  rintro e w11 ⟨rfl, hbw11⟩
  clear y20 y21 y22 y23 y24 y25 y10 y11 y12 y13 y14 y15
  have HEDU : Hid (ERow w11 (w2.heap.size) (.slice bo3 D.length bc3) D) := HEDU.out.belowE hbw11
  have HEDG : Hid (ERow w11 (w4.heap.size) (.slice bo5 D.length bc5) D) := HEDG.out.belowE hbw11
  have hsw11 := hbw11.size
  have HBw11 : Hid (Below w.heap.size w w11) := HBw10.out.trans (hbw11.mono HBw10.out.size)
  have HV1 : Hid (Sv w11 (w3.heap.size) (.int .i64 F.ep) (.slice ai3 F.items.length ci3) (.int .i64 F.base) (.slice ah3 F.handed.length ch3) (.slice aw3 F.way.length cw3) (.slice aa3 F.acks.length ca3)) := HV1.out.below hbw11
  have HV2 : Hid (Sv w11 (w5.heap.size) (.int .i64 F.ep) (.slice ai5 F.items.length ci5) (.int .i64 F.base) (.slice ah5 F.handed.length ch5) (.slice aw5 F.way.length cw5) (.slice aa5 F.acks.length ca5)) := HV2.out.below hbw11
  have HRU : Hid (SesRow w11 (m3) F (.slice ai3 F.items.length ci3) (.slice ah3 F.handed.length ch3) (.slice aw3 F.way.length cw3) (.slice aa3 F.acks.length ca3)) := HRU.out.below hbw11
  have HRG : Hid (SesRow w11 (m5) F (.slice ai5 F.items.length ci5) (.slice ah5 F.handed.length ch5) (.slice aw5 F.way.length cw5) (.slice aa5 F.acks.length ca5)) := HRG.out.below hbw11
  clear HBw10
  clear hbw11
  go_wp2_with fail
  go_at_call 33
  refine (EB.out _ _ _ (EAt.own HEDG.out) (EAt.own HEDU.out)).mono ?_
  rintro e w12 ⟨rfl, hbw12⟩
  have HEDU : Hid (ERow w12 (w2.heap.size) (.slice bo3 D.length bc3) D) := HEDU.out.belowE hbw12
  have HEDG : Hid (ERow w12 (w4.heap.size) (.slice bo5 D.length bc5) D) := HEDG.out.belowE hbw12
  have hsw12 := hbw12.size
  have HBw12 : Hid (Below w.heap.size w w12) := HBw11.out.trans (hbw12.mono HBw11.out.size)
  have HV1 : Hid (Sv w12 (w3.heap.size) (.int .i64 F.ep) (.slice ai3 F.items.length ci3) (.int .i64 F.base) (.slice ah3 F.handed.length ch3) (.slice aw3 F.way.length cw3) (.slice aa3 F.acks.length ca3)) := HV1.out.below hbw12
  have HV2 : Hid (Sv w12 (w5.heap.size) (.int .i64 F.ep) (.slice ai5 F.items.length ci5) (.int .i64 F.base) (.slice ah5 F.handed.length ch5) (.slice aw5 F.way.length cw5) (.slice aa5 F.acks.length ca5)) := HV2.out.below hbw12
  have HRU : Hid (SesRow w12 (m3) F (.slice ai3 F.items.length ci3) (.slice ah3 F.handed.length ch3) (.slice aw3 F.way.length cw3) (.slice aa3 F.acks.length ca3)) := HRU.out.below hbw12
  have HRG : Hid (SesRow w12 (m5) F (.slice ai5 F.items.length ci5) (.slice ah5 F.handed.length ch5) (.slice aw5 F.way.length cw5) (.slice aa5 F.acks.length ca5)) := HRG.out.below hbw12
  clear HBw11
  clear hbw12
  have y20 := HV2.out.c0
  have y21 := HV2.out.c1
  have y22 := HV2.out.c2
  have y23 := HV2.out.c3
  have y24 := HV2.out.c4
  have y25 := HV2.out.c5
  go_wp2_with fail
  go_at_call 14
  refine (MG.out (m5) (w5.heap.size) _ _ _ _ _ HRG.out HLG.out).mono ?_
  rintro e w13 ⟨rfl, hkw13, hmw13⟩
  have HLMG : Hid (type_of% HLG.out) := HLG.out
  clear y20 y21 y22 y23 y24 y25
  have HEDU : Hid (ERow w13 (w2.heap.size) (.slice bo3 D.length bc3) D) := HEDU.out.midE HQDU.out hmw13 (by omega)
  have HEDG : Hid (ERow w13 (w4.heap.size) (.slice bo5 D.length bc5) D) := HEDG.out.midE HQDG.out hmw13 (by omega)
  have hsw13 := hmw13.size
  have HBw13 : Hid (Below w.heap.size w w13) := HBw12.out.trans ((hmw13.below (by omega)).mono (by omega))
  have HV1 : Hid (Sv w13 (w3.heap.size) (.int .i64 F.ep) (.slice ai3 F.items.length ci3) (.int .i64 F.base) (.slice ah3 F.handed.length ch3) (.slice aw3 F.way.length cw3) (.slice aa3 F.acks.length ca3)) := HV1.out.mid hmw13 (by omega)
  have HV2 : Hid (Sv w13 (w5.heap.size) (.int .i64 F.ep) (.slice ai5 F.items.length ci5) (.int .i64 F.base) (.slice ah5 F.handed.length ch5) (.slice aw5 F.way.length cw5) (.slice aa5 F.acks.length ca5)) := HV2.out.mid hmw13 (by omega)
  have HRU : Hid (SesRow w13 (m3) F (.slice ai3 F.items.length ci3) (.slice ah3 F.handed.length ch3) (.slice aw3 F.way.length cw3) (.slice aa3 F.acks.length ca3)) := HRU.out.mid HLU.out hmw13 (by omega)
  clear HBw12
  clear hmw13 HRG HLG
  have HMG : Hid (SesMk w13 w13.heap.size 1 F.items.length F.handed.length F.way.length F.acks.length (.slice ai5 F.items.length ci5) (.slice ah5 F.handed.length ch5) (.slice aw5 F.way.length cw5) (.slice aa5 F.acks.length ca5)) := hkw13
  clear hkw13
  go_wp2_with fail
  go_at_call 36
  refine (MB.out (w4.heap.size) _ _ HEDG.out).mono ?_
  rintro e w14 ⟨rfl, hew14, hgw14⟩
  have hmw14 : Mid (w4.heap.size) (m5) w13 w14 := Mid.of_grown hgw14 (fun g hg => HQDG.out g hg)
  have HEDU : Hid (ERow w14 (w2.heap.size) (.slice bo3 D.length bc3) D) := HEDU.out.midE HQDU.out hmw14 (by omega)
  have HMG : Hid (SesMk w14 w14.heap.size 1 F.items.length F.handed.length F.way.length F.acks.length (.slice ai5 F.items.length ci5) (.slice ah5 F.handed.length ch5) (.slice aw5 F.way.length cw5) (.slice aa5 F.acks.length ca5)) := HMG.out.midE HLMG.out hmw14 (by omega)
  have hsw14 := hmw14.size
  have HBw14 : Hid (Below w.heap.size w w14) := HBw13.out.trans ((hmw14.below (by omega)).mono (by omega))
  have HV1 : Hid (Sv w14 (w3.heap.size) (.int .i64 F.ep) (.slice ai3 F.items.length ci3) (.int .i64 F.base) (.slice ah3 F.handed.length ch3) (.slice aw3 F.way.length cw3) (.slice aa3 F.acks.length ca3)) := HV1.out.mid hmw14 (by omega)
  have HV2 : Hid (Sv w14 (w5.heap.size) (.int .i64 F.ep) (.slice ai5 F.items.length ci5) (.int .i64 F.base) (.slice ah5 F.handed.length ch5) (.slice aw5 F.way.length cw5) (.slice aa5 F.acks.length ca5)) := HV2.out.mid hmw14 (by omega)
  have HRU : Hid (SesRow w14 (m3) F (.slice ai3 F.items.length ci3) (.slice ah3 F.handed.length ch3) (.slice aw3 F.way.length cw3) (.slice aa3 F.acks.length ca3)) := HRU.out.mid HLU.out hmw14 (by omega)
  clear HBw13
  clear hmw14 hgw14
  have HEDG : Hid (EMk w14 (w4.heap.size) (.slice bo5 D.length bc5) D.length M0) := hew14
  clear hew14
  have y20 := HV2.out.c0
  have y21 := HV2.out.c1
  have y22 := HV2.out.c2
  have y23 := HV2.out.c3
  have y24 := HV2.out.c4
  have y25 := HV2.out.c5
  go_wp2_with fail
  go_at_call 15
  refine (HG.out _ _ _ _ _ HMG.out).mono ?_
  rintro e w15 ⟨rfl, hbw15⟩
  clear y20 y21 y22 y23 y24 y25
  have HEDU : Hid (ERow w15 (w2.heap.size) (.slice bo3 D.length bc3) D) := HEDU.out.belowE hbw15
  have HEDG : Hid (EMk w15 (w4.heap.size) (.slice bo5 D.length bc5) D.length M0) := HEDG.out.belowE hbw15
  have hsw15 := hbw15.size
  have HBw15 : Hid (Below w.heap.size w w15) := HBw14.out.trans (hbw15.mono HBw14.out.size)
  have HV1 : Hid (Sv w15 (w3.heap.size) (.int .i64 F.ep) (.slice ai3 F.items.length ci3) (.int .i64 F.base) (.slice ah3 F.handed.length ch3) (.slice aw3 F.way.length cw3) (.slice aa3 F.acks.length ca3)) := HV1.out.below hbw15
  have HV2 : Hid (Sv w15 (w5.heap.size) (.int .i64 F.ep) (.slice ai5 F.items.length ci5) (.int .i64 F.base) (.slice ah5 F.handed.length ch5) (.slice aw5 F.way.length cw5) (.slice aa5 F.acks.length ca5)) := HV2.out.below hbw15
  have HRU : Hid (SesRow w15 (m3) F (.slice ai3 F.items.length ci3) (.slice ah3 F.handed.length ch3) (.slice aw3 F.way.length cw3) (.slice aa3 F.acks.length ca3)) := HRU.out.below hbw15
  have HMG : Hid (SesMk w15 w15.heap.size 1 F.items.length F.handed.length F.way.length F.acks.length (.slice ai5 F.items.length ci5) (.slice ah5 F.handed.length ch5) (.slice aw5 F.way.length cw5) (.slice aa5 F.acks.length ca5)) := HMG.out.below hbw15
  clear HBw14
  clear hbw15
  go_wp2_with fail
  go_at_call 37
  refine (HBd.out _ _ _ HEDG.out).mono ?_
  rintro e w16 ⟨rfl, hbw16⟩
  have HEDU : Hid (ERow w16 (w2.heap.size) (.slice bo3 D.length bc3) D) := HEDU.out.belowE hbw16
  have HEDG : Hid (EMk w16 (w4.heap.size) (.slice bo5 D.length bc5) D.length M0) := HEDG.out.belowE hbw16
  have hsw16 := hbw16.size
  have HBw16 : Hid (Below w.heap.size w w16) := HBw15.out.trans (hbw16.mono HBw15.out.size)
  have HV1 : Hid (Sv w16 (w3.heap.size) (.int .i64 F.ep) (.slice ai3 F.items.length ci3) (.int .i64 F.base) (.slice ah3 F.handed.length ch3) (.slice aw3 F.way.length cw3) (.slice aa3 F.acks.length ca3)) := HV1.out.below hbw16
  have HV2 : Hid (Sv w16 (w5.heap.size) (.int .i64 F.ep) (.slice ai5 F.items.length ci5) (.int .i64 F.base) (.slice ah5 F.handed.length ch5) (.slice aw5 F.way.length cw5) (.slice aa5 F.acks.length ca5)) := HV2.out.below hbw16
  have HRU : Hid (SesRow w16 (m3) F (.slice ai3 F.items.length ci3) (.slice ah3 F.handed.length ch3) (.slice aw3 F.way.length cw3) (.slice aa3 F.acks.length ca3)) := HRU.out.below hbw16
  have HMG : Hid (SesMk w16 w16.heap.size 1 F.items.length F.handed.length F.way.length F.acks.length (.slice ai5 F.items.length ci5) (.slice ah5 F.handed.length ch5) (.slice aw5 F.way.length cw5) (.slice aa5 F.acks.length ca5)) := HMG.out.below hbw16
  clear HBw15
  clear hbw16
  go_wp2_with fail
  go_at_call 31
  refine (HCT.out _ HBw16.out).mono ?_
  rintro e w17 ⟨ao17, cap17, rfl, hr17, hb17⟩
  have HEDU : Hid (ERow w17 (w2.heap.size) (.slice bo3 D.length bc3) D) := HEDU.out.belowE hb17
  have HEDG : Hid (EMk w17 (w4.heap.size) (.slice bo5 D.length bc5) D.length M0) := HEDG.out.belowE hb17
  have hsw17 := hb17.size
  have HBw17 : Hid (Below w.heap.size w w17) := HBw16.out.trans (hb17.mono HBw16.out.size)
  have HV1 : Hid (Sv w17 (w3.heap.size) (.int .i64 F.ep) (.slice ai3 F.items.length ci3) (.int .i64 F.base) (.slice ah3 F.handed.length ch3) (.slice aw3 F.way.length cw3) (.slice aa3 F.acks.length ca3)) := HV1.out.below hb17
  have HV2 : Hid (Sv w17 (w5.heap.size) (.int .i64 F.ep) (.slice ai5 F.items.length ci5) (.int .i64 F.base) (.slice ah5 F.handed.length ch5) (.slice aw5 F.way.length cw5) (.slice aa5 F.acks.length ca5)) := HV2.out.below hb17
  have HRU : Hid (SesRow w17 (m3) F (.slice ai3 F.items.length ci3) (.slice ah3 F.handed.length ch3) (.slice aw3 F.way.length cw3) (.slice aa3 F.acks.length ca3)) := HRU.out.below hb17
  have HMG : Hid (SesMk w17 w17.heap.size 1 F.items.length F.handed.length F.way.length F.acks.length (.slice ai5 F.items.length ci5) (.slice ah5 F.handed.length ch5) (.slice aw5 F.way.length cw5) (.slice aa5 F.acks.length ca5)) := HMG.out.below hb17
  clear HBw16
  clear hb17
  go_wp2_with fail
  go_at_call 32
  refine (CI.out _ _ (SpsAt.own hr17)).mono ?_
  rintro e w18 ⟨ai18, ci18, ah18, ch18, aw18, cw18, aa18, ca18, bo18, bc18, m18, rfl, hr18, he18, hm18, hmm18, hb18⟩
  clear hr17
  have HEDU : Hid (ERow w18 (w2.heap.size) (.slice bo3 D.length bc3) D) := HEDU.out.belowE hb18
  have HEDG : Hid (EMk w18 (w4.heap.size) (.slice bo5 D.length bc5) D.length M0) := HEDG.out.belowE hb18
  have hsw18 := hb18.size
  have HBw18 : Hid (Below w.heap.size w w18) := HBw17.out.trans (hb18.mono HBw17.out.size)
  have HV1 : Hid (Sv w18 (w3.heap.size) (.int .i64 F.ep) (.slice ai3 F.items.length ci3) (.int .i64 F.base) (.slice ah3 F.handed.length ch3) (.slice aw3 F.way.length cw3) (.slice aa3 F.acks.length ca3)) := HV1.out.below hb18
  have HV2 : Hid (Sv w18 (w5.heap.size) (.int .i64 F.ep) (.slice ai5 F.items.length ci5) (.int .i64 F.base) (.slice ah5 F.handed.length ch5) (.slice aw5 F.way.length cw5) (.slice aa5 F.acks.length ca5)) := HV2.out.below hb18
  have HRU : Hid (SesRow w18 (m3) F (.slice ai3 F.items.length ci3) (.slice ah3 F.handed.length ch3) (.slice aw3 F.way.length cw3) (.slice aa3 F.acks.length ca3)) := HRU.out.below hb18
  have HMG : Hid (SesMk w18 w18.heap.size 1 F.items.length F.handed.length F.way.length F.acks.length (.slice ai5 F.items.length ci5) (.slice ah5 F.handed.length ch5) (.slice aw5 F.way.length cw5) (.slice aa5 F.acks.length ca5)) := HMG.out.below hb18
  clear HBw17
  clear hb18
  have HRZ : Hid (SesRow w18 (m18) F (.slice ai18 F.items.length ci18) (.slice ah18 F.handed.length ch18) (.slice aw18 F.way.length cw18) (.slice aa18 F.acks.length ca18)) := hr18
  have HLZ : Hid (OwnIn m18 w18.heap.size (.slice ai18 F.items.length ci18) (.slice ah18 F.handed.length ch18) (.slice aw18 F.way.length cw18) (.slice aa18 F.acks.length ca18)) := SesRow.ownIn hr18
  clear hr18
  have HEDZ : Hid (ERow w18 (w17.heap.size) (.slice bo18 D.length bc18) D) := he18
  have HQDZ : Hid (∀ g, (.slice bo18 D.length bc18 : Value).ownBlock = some g → w17.heap.size ≤ g ∧ g < m18) := fun g hg => ⟨(World.ownsRow.lt he18 g hg).1, hm18 g hg⟩
  clear he18 hm18
  obtain ⟨hlo18, hhi18⟩ := hmm18
  obtain ⟨W18, hW18⟩ : ∃ X, X = w18.alloc (.cells #[.int .i64 F.ep, .slice ai18 F.items.length ci18, .int .i64 F.base, .slice ah18 F.handed.length ch18, .slice aw18 F.way.length cw18, .slice aa18 F.acks.length ca18] 26) := ⟨_, rfl⟩
  have hbW18 : Below w18.heap.size w18 W18 := by rw [hW18]; exact (Below.refl _ _).alloc (Nat.le_refl _) _
  have hlW18 : w18.heap.size < W18.heap.size := by rw [hW18]; simp
  have HEDU : Hid (ERow W18 (w2.heap.size) (.slice bo3 D.length bc3) D) := HEDU.out.belowE hbW18
  have HEDG : Hid (EMk W18 (w4.heap.size) (.slice bo5 D.length bc5) D.length M0) := HEDG.out.belowE hbW18
  have HEDZ : Hid (ERow W18 (w17.heap.size) (.slice bo18 D.length bc18) D) := HEDZ.out.belowE hbW18
  have hsW18 := hbW18.size
  have HBW18 : Hid (Below w.heap.size w W18) := HBw18.out.trans (hbW18.mono HBw18.out.size)
  have HV1 : Hid (Sv W18 (w3.heap.size) (.int .i64 F.ep) (.slice ai3 F.items.length ci3) (.int .i64 F.base) (.slice ah3 F.handed.length ch3) (.slice aw3 F.way.length cw3) (.slice aa3 F.acks.length ca3)) := HV1.out.below hbW18
  have HV2 : Hid (Sv W18 (w5.heap.size) (.int .i64 F.ep) (.slice ai5 F.items.length ci5) (.int .i64 F.base) (.slice ah5 F.handed.length ch5) (.slice aw5 F.way.length cw5) (.slice aa5 F.acks.length ca5)) := HV2.out.below hbW18
  have HRU : Hid (SesRow W18 (m3) F (.slice ai3 F.items.length ci3) (.slice ah3 F.handed.length ch3) (.slice aw3 F.way.length cw3) (.slice aa3 F.acks.length ca3)) := HRU.out.below hbW18
  have HRZ : Hid (SesRow W18 (m18) F (.slice ai18 F.items.length ci18) (.slice ah18 F.handed.length ch18) (.slice aw18 F.way.length cw18) (.slice aa18 F.acks.length ca18)) := HRZ.out.below hbW18
  have HMG : Hid (SesMk W18 W18.heap.size 1 F.items.length F.handed.length F.way.length F.acks.length (.slice ai5 F.items.length ci5) (.slice ah5 F.handed.length ch5) (.slice aw5 F.way.length cw5) (.slice aa5 F.acks.length ca5)) := HMG.out.below hbW18
  clear HBw18
  have HV16 : Hid (Sv W18 (w18.heap.size) (.int .i64 F.ep) (.slice ai18 F.items.length ci18) (.int .i64 F.base) (.slice ah18 F.handed.length ch18) (.slice aw18 F.way.length cw18) (.slice aa18 F.acks.length ca18)) := by show Sv _ _ _ _ _ _ _ _; rw [hW18]; exact Sv.fresh w18 _ _ _ _ _ _ _
  clear hbW18
  go_upto_region 31 with fail
  rw [← hW18]
  clear hW18
  have y160 := HV16.out.c0
  have y161 := HV16.out.c1
  have y162 := HV16.out.c2
  have y163 := HV16.out.c3
  have y164 := HV16.out.c4
  have y165 := HV16.out.c5
  have y10 := HV1.out.c0
  have y11 := HV1.out.c1
  have y12 := HV1.out.c2
  have y13 := HV1.out.c3
  have y14 := HV1.out.c4
  have y15 := HV1.out.c5
  go_wp2_with fail
  go_at_call 13
  refine (EF.out _ _ _ _ _ _ _ _ _ HRZ.out.at HRU.out.at).mono ?_
  rintro e w19 ⟨rfl, hbw19⟩
  clear y160 y161 y162 y163 y164 y165 y10 y11 y12 y13 y14 y15
  have HEDU : Hid (ERow w19 (w2.heap.size) (.slice bo3 D.length bc3) D) := HEDU.out.belowE hbw19
  have HEDG : Hid (EMk w19 (w4.heap.size) (.slice bo5 D.length bc5) D.length M0) := HEDG.out.belowE hbw19
  have HEDZ : Hid (ERow w19 (w17.heap.size) (.slice bo18 D.length bc18) D) := HEDZ.out.belowE hbw19
  have hsw19 := hbw19.size
  have HBw19 : Hid (Below w.heap.size w w19) := HBW18.out.trans (hbw19.mono HBW18.out.size)
  have HV1 : Hid (Sv w19 (w3.heap.size) (.int .i64 F.ep) (.slice ai3 F.items.length ci3) (.int .i64 F.base) (.slice ah3 F.handed.length ch3) (.slice aw3 F.way.length cw3) (.slice aa3 F.acks.length ca3)) := HV1.out.below hbw19
  have HV2 : Hid (Sv w19 (w5.heap.size) (.int .i64 F.ep) (.slice ai5 F.items.length ci5) (.int .i64 F.base) (.slice ah5 F.handed.length ch5) (.slice aw5 F.way.length cw5) (.slice aa5 F.acks.length ca5)) := HV2.out.below hbw19
  have HV16 : Hid (Sv w19 (w18.heap.size) (.int .i64 F.ep) (.slice ai18 F.items.length ci18) (.int .i64 F.base) (.slice ah18 F.handed.length ch18) (.slice aw18 F.way.length cw18) (.slice aa18 F.acks.length ca18)) := HV16.out.below hbw19
  have HRU : Hid (SesRow w19 (m3) F (.slice ai3 F.items.length ci3) (.slice ah3 F.handed.length ch3) (.slice aw3 F.way.length cw3) (.slice aa3 F.acks.length ca3)) := HRU.out.below hbw19
  have HRZ : Hid (SesRow w19 (m18) F (.slice ai18 F.items.length ci18) (.slice ah18 F.handed.length ch18) (.slice aw18 F.way.length cw18) (.slice aa18 F.acks.length ca18)) := HRZ.out.below hbw19
  have HMG : Hid (SesMk w19 w19.heap.size 1 F.items.length F.handed.length F.way.length F.acks.length (.slice ai5 F.items.length ci5) (.slice ah5 F.handed.length ch5) (.slice aw5 F.way.length cw5) (.slice aa5 F.acks.length ca5)) := HMG.out.below hbw19
  clear HBW18
  clear hbw19
  go_wp2_with fail
  go_at_call 33
  refine (EB.out _ _ _ (EAt.own HEDZ.out) (EAt.own HEDU.out)).mono ?_
  rintro e w20 ⟨rfl, hbw20⟩
  have HEDU : Hid (ERow w20 (w2.heap.size) (.slice bo3 D.length bc3) D) := HEDU.out.belowE hbw20
  have HEDG : Hid (EMk w20 (w4.heap.size) (.slice bo5 D.length bc5) D.length M0) := HEDG.out.belowE hbw20
  have HEDZ : Hid (ERow w20 (w17.heap.size) (.slice bo18 D.length bc18) D) := HEDZ.out.belowE hbw20
  have hsw20 := hbw20.size
  have HBw20 : Hid (Below w.heap.size w w20) := HBw19.out.trans (hbw20.mono HBw19.out.size)
  have HV1 : Hid (Sv w20 (w3.heap.size) (.int .i64 F.ep) (.slice ai3 F.items.length ci3) (.int .i64 F.base) (.slice ah3 F.handed.length ch3) (.slice aw3 F.way.length cw3) (.slice aa3 F.acks.length ca3)) := HV1.out.below hbw20
  have HV2 : Hid (Sv w20 (w5.heap.size) (.int .i64 F.ep) (.slice ai5 F.items.length ci5) (.int .i64 F.base) (.slice ah5 F.handed.length ch5) (.slice aw5 F.way.length cw5) (.slice aa5 F.acks.length ca5)) := HV2.out.below hbw20
  have HV16 : Hid (Sv w20 (w18.heap.size) (.int .i64 F.ep) (.slice ai18 F.items.length ci18) (.int .i64 F.base) (.slice ah18 F.handed.length ch18) (.slice aw18 F.way.length cw18) (.slice aa18 F.acks.length ca18)) := HV16.out.below hbw20
  have HRU : Hid (SesRow w20 (m3) F (.slice ai3 F.items.length ci3) (.slice ah3 F.handed.length ch3) (.slice aw3 F.way.length cw3) (.slice aa3 F.acks.length ca3)) := HRU.out.below hbw20
  have HRZ : Hid (SesRow w20 (m18) F (.slice ai18 F.items.length ci18) (.slice ah18 F.handed.length ch18) (.slice aw18 F.way.length cw18) (.slice aa18 F.acks.length ca18)) := HRZ.out.below hbw20
  have HMG : Hid (SesMk w20 w20.heap.size 1 F.items.length F.handed.length F.way.length F.acks.length (.slice ai5 F.items.length ci5) (.slice ah5 F.handed.length ch5) (.slice aw5 F.way.length cw5) (.slice aa5 F.acks.length ca5)) := HMG.out.below hbw20
  clear HBw19
  clear hbw20
  have y20 := HV2.out.c0
  have y21 := HV2.out.c1
  have y22 := HV2.out.c2
  have y23 := HV2.out.c3
  have y24 := HV2.out.c4
  have y25 := HV2.out.c5
  go_wp2_with fail
  go_at_call 15
  refine (HG.out _ _ _ _ _ HMG.out).mono ?_
  rintro e w21 ⟨rfl, hbw21⟩
  clear y20 y21 y22 y23 y24 y25
  have HEDU : Hid (ERow w21 (w2.heap.size) (.slice bo3 D.length bc3) D) := HEDU.out.belowE hbw21
  have HEDG : Hid (EMk w21 (w4.heap.size) (.slice bo5 D.length bc5) D.length M0) := HEDG.out.belowE hbw21
  have HEDZ : Hid (ERow w21 (w17.heap.size) (.slice bo18 D.length bc18) D) := HEDZ.out.belowE hbw21
  have hsw21 := hbw21.size
  have HBw21 : Hid (Below w.heap.size w w21) := HBw20.out.trans (hbw21.mono HBw20.out.size)
  have HV1 : Hid (Sv w21 (w3.heap.size) (.int .i64 F.ep) (.slice ai3 F.items.length ci3) (.int .i64 F.base) (.slice ah3 F.handed.length ch3) (.slice aw3 F.way.length cw3) (.slice aa3 F.acks.length ca3)) := HV1.out.below hbw21
  have HV2 : Hid (Sv w21 (w5.heap.size) (.int .i64 F.ep) (.slice ai5 F.items.length ci5) (.int .i64 F.base) (.slice ah5 F.handed.length ch5) (.slice aw5 F.way.length cw5) (.slice aa5 F.acks.length ca5)) := HV2.out.below hbw21
  have HV16 : Hid (Sv w21 (w18.heap.size) (.int .i64 F.ep) (.slice ai18 F.items.length ci18) (.int .i64 F.base) (.slice ah18 F.handed.length ch18) (.slice aw18 F.way.length cw18) (.slice aa18 F.acks.length ca18)) := HV16.out.below hbw21
  have HRU : Hid (SesRow w21 (m3) F (.slice ai3 F.items.length ci3) (.slice ah3 F.handed.length ch3) (.slice aw3 F.way.length cw3) (.slice aa3 F.acks.length ca3)) := HRU.out.below hbw21
  have HRZ : Hid (SesRow w21 (m18) F (.slice ai18 F.items.length ci18) (.slice ah18 F.handed.length ch18) (.slice aw18 F.way.length cw18) (.slice aa18 F.acks.length ca18)) := HRZ.out.below hbw21
  have HMG : Hid (SesMk w21 w21.heap.size 1 F.items.length F.handed.length F.way.length F.acks.length (.slice ai5 F.items.length ci5) (.slice ah5 F.handed.length ch5) (.slice aw5 F.way.length cw5) (.slice aa5 F.acks.length ca5)) := HMG.out.below hbw21
  clear HBw20
  clear hbw21
  go_wp2_with fail
  go_at_call 37
  refine (HBd.out _ _ _ HEDG.out).mono ?_
  rintro e w22 ⟨rfl, hbw22⟩
  have HEDU : Hid (ERow w22 (w2.heap.size) (.slice bo3 D.length bc3) D) := HEDU.out.belowE hbw22
  have HEDG : Hid (EMk w22 (w4.heap.size) (.slice bo5 D.length bc5) D.length M0) := HEDG.out.belowE hbw22
  have HEDZ : Hid (ERow w22 (w17.heap.size) (.slice bo18 D.length bc18) D) := HEDZ.out.belowE hbw22
  have hsw22 := hbw22.size
  have HBw22 : Hid (Below w.heap.size w w22) := HBw21.out.trans (hbw22.mono HBw21.out.size)
  have HV1 : Hid (Sv w22 (w3.heap.size) (.int .i64 F.ep) (.slice ai3 F.items.length ci3) (.int .i64 F.base) (.slice ah3 F.handed.length ch3) (.slice aw3 F.way.length cw3) (.slice aa3 F.acks.length ca3)) := HV1.out.below hbw22
  have HV2 : Hid (Sv w22 (w5.heap.size) (.int .i64 F.ep) (.slice ai5 F.items.length ci5) (.int .i64 F.base) (.slice ah5 F.handed.length ch5) (.slice aw5 F.way.length cw5) (.slice aa5 F.acks.length ca5)) := HV2.out.below hbw22
  have HV16 : Hid (Sv w22 (w18.heap.size) (.int .i64 F.ep) (.slice ai18 F.items.length ci18) (.int .i64 F.base) (.slice ah18 F.handed.length ch18) (.slice aw18 F.way.length cw18) (.slice aa18 F.acks.length ca18)) := HV16.out.below hbw22
  have HRU : Hid (SesRow w22 (m3) F (.slice ai3 F.items.length ci3) (.slice ah3 F.handed.length ch3) (.slice aw3 F.way.length cw3) (.slice aa3 F.acks.length ca3)) := HRU.out.below hbw22
  have HRZ : Hid (SesRow w22 (m18) F (.slice ai18 F.items.length ci18) (.slice ah18 F.handed.length ch18) (.slice aw18 F.way.length cw18) (.slice aa18 F.acks.length ca18)) := HRZ.out.below hbw22
  have HMG : Hid (SesMk w22 w22.heap.size 1 F.items.length F.handed.length F.way.length F.acks.length (.slice ai5 F.items.length ci5) (.slice ah5 F.handed.length ch5) (.slice aw5 F.way.length cw5) (.slice aa5 F.acks.length ca5)) := HMG.out.below hbw22
  clear HBw21
  clear hbw22
  go_wp2_with fail
  go_ret
  exact ⟨rfl, HBw22.out⟩

namespace fnExactPlaySession
open Go.ChangeShapes Go.WideShapes Go.ChangeAt

theorem own : ownKnob Try.prog.godebug = none := by kernel_rfl
theorem laidOut : laidOutB Try.prog = true := by kernel_rfl

set_option maxRecDepth 100000 in
theorem lifted (os : Os) (started : os.Started) (H : Type) (enc : TypeId × Value → H) :
    ReturnsInHanded {} Try.checked os 7 .any (Rows.fnExactPlaySessionSpec.pre6 enc Try.prog Try.f7 Rows.fnExactPlaySessionRow.domain false) (Rows.fnExactPlaySessionSpec.post enc Try.prog Try.f7 false true false false) := by
  refine returnsInHanded_of_change (C := Try.checked) own started (by kernel_rfl) Try.func7
    (ChangeSpec.witness6 (enc := enc) (C := Try.checked) false ⟨#[], #[.string ByteArray.empty, .slice none 0 0], []⟩ 8 (by kernel_rfl) (by kernel_rfl) (by kernel_rfl) (by kernel_rfl)) ?_
  intro W base args ds gs before hval0 hW hcnd _
  have hval : ∀ (j : Nat) t v, Try.f7.params[j]? = some t → args[j]? = some v → Value.okWide Try.prog W .any base t v := hval0
  have hW' := hW
  obtain ⟨p, q, hA0, hV, rfl, hfz, hnd⟩ := hW
  have hA : DataW.TrodAll enc Try.prog W 0 (fun _ => true) true Try.f7.params.toList args.toList ds p := hA0
  rw [Try.params7] at hA hval
  obtain ⟨v0, vs0, d0, ds0, p0, q0, hargs, rfl, rfl, h0, r0⟩ := trodAll_cons hA
  obtain ⟨v1, vs1, d1, ds1, p1, q1, rfl, rfl, rfl, h1, r1⟩ := trodAll_cons r0
  obtain ⟨rfl, rfl, rfl⟩ := trodAll_nil r1
  obtain rfl : args = #[v0, v1] := by cases args; simp_all
  obtain ⟨rfl, rfl⟩ := trodVars_none hV
  obtain ⟨s0, rfl, rfl, rfl, hs0⟩ := ChangeMaps.open_string Try.underlying9 (hval 0 9 v0 rfl rfl) h0
  have h1k := h1
  obtain ⟨T1, hT1, hN1⟩ := open_steps (hval 1 51 v1 rfl rfl) h1
  clear hA0 hval0
  have hlt1 : ∀ x ∈ p1, x.block < W.heap.size := fun x hx => by
    have := hW'.lt x (by simp_all)
    simpa using this
  refine (walkFnExactPlaySession s0 T1 _ W hs0 hT1 hN1).mono fun e W' ⟨he, hg⟩ => ?_
  subst he
  exact ⟨_, rfl, _, _, _, [], _, [], hW', trodAll_mk1 (shut_bool Try.underlying4 _), (trodAll_cons_mk (ChangeMaps.shut_string Try.underlying9 hs0) (trodAll_cons_mk (Below.trod laidOut (by kernel_rfl) (of_decide_eq_true (by kernel_rfl)) h1k hg (fun x hx => hlt1 x hx)) trodAll_mk0)), rfl, hg.frame _, fun h => by cases h⟩

theorem over : Rows.fnExactPlaySessionRow.holds Try.pinned (OpenSpec.ofChange Rows.fnExactPlaySessionSpec) :=
  OpenClaim.holds_of_wide 7 Try.f7 rfl rfl rfl rfl rfl rfl rfl ⟨rfl, rfl, rfl, rfl, rfl⟩ rfl rfl rfl rfl rfl (by kernel_rfl) Try.func7 (by kernel_rfl)
    (of_decide_eq_true (by kernel_rfl)) (by unfold Func.isWrapper; first | (rw [if_pos (by decide +kernel)]; kernel_rfl) | (rw [if_neg (by decide +kernel)]; exact ⟨rfl, rfl⟩))
    (fun os started H enc _ => lifted os started H enc)

end fnExactPlaySession

theorem fnExactPlaySession_holds : Rows.FnExactPlaySessionSaid := fnExactPlaySession.over
#print axioms fnExactPlaySession_holds
end Go.Proofs.Ytnlppeieccbhgaa
