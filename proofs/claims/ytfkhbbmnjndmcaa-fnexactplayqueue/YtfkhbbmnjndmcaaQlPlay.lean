/- Proved here: at every cap, rule and offers the law FnExactPlayQueue answers true, that is, PlayQueue answers as its model, its answer owns its memory, and it writes into nothing.
   Conditions: none beside the row's own. -/
import Derived.Test.YtfkhbbmnjndmcaaQpB
import Derived.Test.YtfkhbbmnjndmcaaQmO
import Derived.Test.YtfkhbbmnjndmcaaMcO
import Derived.Test.YtfkhbbmnjndmcaaMcK
import Derived.Deep.DeepCutAuto
import Derived.Deep.RegionHeld3
import Derived.Deep.DrawnRows
import Derived.OpenShut
import Derived.ChangeMaps5
namespace Go.Proofs.Ytfkhbbmnjndmcaa
attribute [local go_sem ↓] Go.wp_at_zero Go.wp_at_succ
open Go.RowKit Plain Qus
open Mch (en)

theorem open_boolsW {H : Type} {enc : TypeId × Value → H} {W : World} {base : Nat} {v0 : Value} {d0 : DataW H} {p0 : List MemPlace} (hok : Value.okWide Try.prog W .any base 37 v0)
    (h0 : DataW.Trod enc Try.prog W 0 (fun _ => true) true 37 v0 d0 p0) : ∃ l, EAt W W.heap.size v0 l := by
  obtain ⟨a, len, cap, rfl⟩ := Go.WideShapes.okWide_slice Try.underlying37 hok
  obtain ⟨fuel, hf⟩ := h0
  exact open_bools (show DataW.trod enc Try.prog W 0 (fun _ => true) true fuel 37 [Value.slice a len cap] = some (d0, p0) from hf)

theorem plQ_small (c r : Int) (l : List Bool) : SmlQ (plQ c r l) 1000 := by
  unfold plQ
  split
  · rename_i h
    have h1 : 1 ≤ c := by
      unfold okP okR at h
      simp only [Bool.and_eq_true, decide_eq_true_eq] at h
      omega
    exact tq_small (GdM.play h1 l)
  · exact qz_small
theorem plT_small (c r : Int) (l : List Bool) : (plT c r l).length ≤ 1000 := by
  unfold plT
  split
  · rename_i h
    unfold okP at h
    simp only [Bool.and_eq_true, decide_eq_true_eq] at h
    rw [plP_len]
    omega
  · simp

set_option maxRecDepth 100000 in
set_option maxHeartbeats 16000000 in
theorem walkFnExactPlayQueue (c r : Int) (l : List Bool) (v : Value) (w : World) (hA : EAt w w.heap.size v l) :
    Calls Try.prog 7 #[.int .i64 c, .int .i64 r, v] w fun e w' => e = .returned (.bool true) ∧ Below w.heap.size w w' := by
  have HA : Hid (EAt w w.heap.size v l) := hA
  obtain ⟨al, cl, rfl, hlc, hcm, _⟩ := hA
  unfold maxLen at hcm
  by_cases hbig : 1048576 < l.length
  · have d : decide ((1048576 : Int) < (l.length : Int)) = true := by simp; omega
    go_enter Try.func7, Try.ntmps7
    go_wp2
    go_ret
    exact ⟨rfl, Below.refl _ _⟩
  have dp : decide ((1048576 : Int) < (l.length : Int)) = false := by simp; omega
  have hll : l.length ≤ 1048576 := by omega
  have hFl : SmlQ (plQ c r l) 1000 := plQ_small c r l
  have hLl : (plT c r l).length ≤ 1000 := plT_small c r l
  have CB : Hid (∀ W, Below w.heap.size w W → Calls Try.prog 26 #[.slice al l.length cl] W fun e w' => ∃ a c, e = .returned (.slice a l.length c) ∧ ERow w' W.heap.size (.slice a l.length c) l ∧ Below W.heap.size W w') := fun W hW => (toBoolS_any l _ W (HA.out.below hW) hll).mono fun e w' h => by
    obtain ⟨v9, he, hr, hb⟩ := h
    obtain ⟨a, c, rfl⟩ := hr.slice
    exact ⟨a, c, he, hr, hb⟩
  have CS : Hid (∀ W v, EAt W W.heap.size v l → Calls Try.prog 25 #[.int .i64 c, .int .i64 r, v] W fun e w' => PlO W w' e (plQ c r l) (plT c r l) (okP c r l)) := fun W v h => specPlayQ c r l v W h
  have CI : Hid (∀ W v, EAt W W.heap.size v l → Calls Try.prog 27 #[.int .i64 c, .int .i64 r, v] W fun e w' => PlO W w' e (plQ c r l) (plT c r l) (okP c r l)) := fun W v h => implPlayQ c r l v W h
  generalize plQ c r l = F at CS CI hFl
  generalize plT c r l = L at CS CI hLl
  generalize okP c r l = K at CS CI
  have EF : Hid (∀ W v1 v2 v3 u1 u2 u3, QuAt W W.heap.size F v1 v2 v3 → QuAt W W.heap.size F u1 u2 u3 → Calls Try.prog 14 #[.agg #[.int .i64 F.cap, .int .i64 F.rule, .int .i64 F.next, v1, v2, v3], .agg #[.int .i64 F.cap, .int .i64 F.rule, .int .i64 F.next, u1, u2, u3]] W fun e w' => e = .returned (.bool true) ∧ Below W.heap.size W w') := fun W v1 v2 v3 u1 u2 u3 h1 h2 => eqQueue_same F v1 v2 v3 u1 u2 u3 W h1 h2 ⟨by have := hFl.a; omega, by have := hFl.b; omega, by have := hFl.c; omega⟩
  have MG : Hid (∀ B T W v1 v2 v3, QuRow W B F v1 v2 v3 → OwnQ B T v1 v2 v3 → Calls Try.prog 15 #[.agg #[.int .i64 F.cap, .int .i64 F.rule, .int .i64 F.next, v1, v2, v3], .int .i64 1] W fun e w' => e = .returned (.int .i64 ((1 + F.wt.length + F.hd.length + F.dr.length : Nat) : Int)) ∧ QuMk w' w'.heap.size 1 F.wt.length F.hd.length F.dr.length v1 v2 v3 ∧ Mid B T W w') := fun B T W v1 v2 v3 h1 h2 => markQueue_any F B T 1 v1 v2 v3 W h1 (fun g hg => (h2 g hg).2) ⟨by have := hFl.a; omega, by have := hFl.b; omega, by have := hFl.c; omega⟩ (by omega)
  have HG : Hid (∀ W v1 v2 v3, QuMk W W.heap.size 1 F.wt.length F.hd.length F.dr.length v1 v2 v3 → Calls Try.prog 16 #[.agg #[.int .i64 F.cap, .int .i64 F.rule, .int .i64 F.next, v1, v2, v3], .int .i64 1] W fun e w' => e = .returned (.int .i64 ((1 + F.wt.length + F.hd.length + F.dr.length : Nat) : Int)) ∧ Below W.heap.size W w') := fun W v1 v2 v3 h => heldQueue_any F 1 _ _ _ v1 v2 v3 W h (by have := hFl.a; omega) (by have := hFl.b; omega) (by have := hFl.c; omega) (by omega)
  have MGO : Hid (∀ B T W v1 v2 v3, QuRow W B F v1 v2 v3 → OwnQ B T v1 v2 v3 → Calls Try.prog 15 #[.agg #[.int .i64 F.cap, .int .i64 F.rule, .int .i64 F.next, v1, v2, v3], .int .i64 1] W fun e w' => e = .returned (.int .i64 ((1 + F.wt.length + F.hd.length + F.dr.length : Nat) : Int)) ∧ QuMkO w' B 1 F.wt.length F.hd.length F.dr.length v1 v2 v3 ∧ Mid B T W w' ∧ (∀ j, j < W.heap.size → ¬ P3 v1 v2 v3 j → w'.heap[j]? = W.heap[j]?)) := fun B T W v1 v2 v3 h1 h2 => markQueueO_any F B T 1 v1 v2 v3 W h1 (fun g hg => (h2 g hg).2) ⟨by have := hFl.a; omega, by have := hFl.b; omega, by have := hFl.c; omega⟩ (by omega)
  have hF1 := hFl.a
  have hF2 := hFl.b
  have hF3 := hFl.c
  have nK : (K != K) = false := bne_self_eq_false K
  have hNK : ¬ (((1 + F.wt.length + F.hd.length + F.dr.length : Nat) : Int) < 0) := by omega
  have hNL : ¬ ((((1 + F.wt.length + F.hd.length + F.dr.length : Nat) + L.length : Nat) : Int) < 0) := by omega
  have hNB : ¬ (((1 + l.length : Nat) : Int) < 0) := by omega
  clear hFl hbig MG
  go_enter Try.func7, Try.ntmps7
  go_wp2_with fail
  go_at_call 26
  refine (CB.out _ (Below.refl _ w)).mono ?_
  rintro e w1 ⟨ab1, cb1, rfl, he1, hbw1⟩
  have hsw1 := hbw1.size
  have HBw1 : Hid (Below w.heap.size w w1) := hbw1
  clear hbw1
  have HE1 : Hid (ERow w1 (w.heap.size) (.slice ab1 l.length cb1) l) := he1
  have HP1 : Hid (∀ g, (.slice ab1 l.length cb1 : Value).ownBlock = some g → w.heap.size ≤ g ∧ g < w1.heap.size) := fun g hg => World.ownsRow.lt he1 g hg
  clear he1
  go_wp2_with fail
  go_at_call 25
  refine (CS.out _ _ (EAt.own HE1.out)).mono ?_
  rintro e w2 ⟨awU, cwU, ahU, chU, adU, cdU, atU, ctU, rfl, hrU, htU, hapU, hbw2⟩
  have hsw2 := hbw2.size
  have HBw2 : Hid (Below w.heap.size w w2) := HBw1.out.trans (hbw2.mono HBw1.out.size)
  have HE1 : Hid (ERow w2 (w.heap.size) (.slice ab1 l.length cb1) l) := own_belowQ HE1.out hbw2
  clear HBw1
  clear hbw2
  have HAPU : Hid (∀ g, P3 (.slice awU F.wt.length cwU) (.slice ahU F.hd.length chU) (.slice adU F.dr.length cdU) g → (.slice atU L.length ctU : Value).ownBlock ≠ some g) := hapU
  clear hapU
  have HRU : Hid (QuRow w2 (w1.heap.size) F (.slice awU F.wt.length cwU) (.slice ahU F.hd.length chU) (.slice adU F.dr.length cdU)) := hrU
  have HLU : Hid (OwnQ (w1.heap.size) w2.heap.size (.slice awU F.wt.length cwU) (.slice ahU F.hd.length chU) (.slice adU F.dr.length cdU)) := QuRow.ownIn hrU
  clear hrU
  have HTU : Hid (ZRow w2 (w1.heap.size) (.slice atU L.length ctU) L) := htU
  have HOU : Hid (∀ g, (.slice atU L.length ctU : Value).ownBlock = some g → w1.heap.size ≤ g ∧ g < w2.heap.size) := fun g hg => World.ownsRow.lt htU g hg
  clear htU
  clear HE1 HP1
  obtain ⟨W2, hW2⟩ : ∃ X, X = w2.alloc (.cells #[.int .i64 F.cap, .int .i64 F.rule, .int .i64 F.next, .slice awU F.wt.length cwU, .slice ahU F.hd.length chU, .slice adU F.dr.length cdU] 24) := ⟨_, rfl⟩
  have hbW2 : Below w2.heap.size w2 W2 := by rw [hW2]; exact (Below.refl _ _).alloc (Nat.le_refl _) _
  have hlW2 : w2.heap.size < W2.heap.size := by rw [hW2]; simp
  have hsW2 := hbW2.size
  have HBW2 : Hid (Below w.heap.size w W2) := HBw2.out.trans (hbW2.mono HBw2.out.size)
  have HRU : Hid (QuRow W2 (w1.heap.size) F (.slice awU F.wt.length cwU) (.slice ahU F.hd.length chU) (.slice adU F.dr.length cdU)) := HRU.out.below hbW2
  have HTU : Hid (ZRow W2 (w1.heap.size) (.slice atU L.length ctU) L) := own_belowQ HTU.out hbW2
  clear HBw2
  have HV2 : Hid (Sv W2 (w2.heap.size) (.int .i64 F.cap) (.int .i64 F.rule) (.int .i64 F.next) (.slice awU F.wt.length cwU) (.slice ahU F.hd.length chU) (.slice adU F.dr.length cdU)) := by show Sv _ _ _ _ _ _ _ _; rw [hW2]; exact Sv.fresh w2 _ _ _ _ _ _ _
  clear hbW2
  go_upto_region 4 with fail
  rw [← hW2]
  clear hW2
  go_wp2_with fail
  go_at_call 26
  refine (CB.out _ (HBW2.out)).mono ?_
  rintro e w3 ⟨abX, cbX, rfl, heX, hbw3⟩
  have hsw3 := hbw3.size
  have HBw3 : Hid (Below w.heap.size w w3) := HBW2.out.trans (hbw3.mono HBW2.out.size)
  have HV2 : Hid (Sv w3 (w2.heap.size) (.int .i64 F.cap) (.int .i64 F.rule) (.int .i64 F.next) (.slice awU F.wt.length cwU) (.slice ahU F.hd.length chU) (.slice adU F.dr.length cdU)) := HV2.out.below hbw3
  have HRU : Hid (QuRow w3 (w1.heap.size) F (.slice awU F.wt.length cwU) (.slice ahU F.hd.length chU) (.slice adU F.dr.length cdU)) := HRU.out.below hbw3
  have HTU : Hid (ZRow w3 (w1.heap.size) (.slice atU L.length ctU) L) := own_belowQ HTU.out hbw3
  clear HBW2
  clear hbw3
  have HEX : Hid (ERow w3 (W2.heap.size) (.slice abX l.length cbX) l) := heX
  have HPX : Hid (∀ g, (.slice abX l.length cbX : Value).ownBlock = some g → W2.heap.size ≤ g ∧ g < w3.heap.size) := fun g hg => World.ownsRow.lt heX g hg
  clear heX
  go_wp2_with fail
  go_at_call 27
  refine (CI.out _ _ (EAt.own HEX.out)).mono ?_
  rintro e w4 ⟨awG, cwG, ahG, chG, adG, cdG, atG, ctG, rfl, hrG, htG, hapG, hbw4⟩
  have hsw4 := hbw4.size
  have HBw4 : Hid (Below w.heap.size w w4) := HBw3.out.trans (hbw4.mono HBw3.out.size)
  have HV2 : Hid (Sv w4 (w2.heap.size) (.int .i64 F.cap) (.int .i64 F.rule) (.int .i64 F.next) (.slice awU F.wt.length cwU) (.slice ahU F.hd.length chU) (.slice adU F.dr.length cdU)) := HV2.out.below hbw4
  have HRU : Hid (QuRow w4 (w1.heap.size) F (.slice awU F.wt.length cwU) (.slice ahU F.hd.length chU) (.slice adU F.dr.length cdU)) := HRU.out.below hbw4
  have HTU : Hid (ZRow w4 (w1.heap.size) (.slice atU L.length ctU) L) := own_belowQ HTU.out hbw4
  have HEX : Hid (ERow w4 (W2.heap.size) (.slice abX l.length cbX) l) := own_belowQ HEX.out hbw4
  clear HBw3
  clear hbw4
  have HAPG : Hid (∀ g, P3 (.slice awG F.wt.length cwG) (.slice ahG F.hd.length chG) (.slice adG F.dr.length cdG) g → (.slice atG L.length ctG : Value).ownBlock ≠ some g) := hapG
  clear hapG
  have HRG : Hid (QuRow w4 (w3.heap.size) F (.slice awG F.wt.length cwG) (.slice ahG F.hd.length chG) (.slice adG F.dr.length cdG)) := hrG
  have HLG : Hid (OwnQ (w3.heap.size) w4.heap.size (.slice awG F.wt.length cwG) (.slice ahG F.hd.length chG) (.slice adG F.dr.length cdG)) := QuRow.ownIn hrG
  clear hrG
  have HTG : Hid (ZRow w4 (w3.heap.size) (.slice atG L.length ctG) L) := htG
  have HOG : Hid (∀ g, (.slice atG L.length ctG : Value).ownBlock = some g → w3.heap.size ≤ g ∧ g < w4.heap.size) := fun g hg => World.ownsRow.lt htG g hg
  clear htG
  obtain ⟨W4, hW4⟩ : ∃ X, X = w4.alloc (.cells #[.int .i64 F.cap, .int .i64 F.rule, .int .i64 F.next, .slice awG F.wt.length cwG, .slice ahG F.hd.length chG, .slice adG F.dr.length cdG] 24) := ⟨_, rfl⟩
  have hbW4 : Below w4.heap.size w4 W4 := by rw [hW4]; exact (Below.refl _ _).alloc (Nat.le_refl _) _
  have hlW4 : w4.heap.size < W4.heap.size := by rw [hW4]; simp
  have hsW4 := hbW4.size
  have HBW4 : Hid (Below w.heap.size w W4) := HBw4.out.trans (hbW4.mono HBw4.out.size)
  have HV2 : Hid (Sv W4 (w2.heap.size) (.int .i64 F.cap) (.int .i64 F.rule) (.int .i64 F.next) (.slice awU F.wt.length cwU) (.slice ahU F.hd.length chU) (.slice adU F.dr.length cdU)) := HV2.out.below hbW4
  have HRU : Hid (QuRow W4 (w1.heap.size) F (.slice awU F.wt.length cwU) (.slice ahU F.hd.length chU) (.slice adU F.dr.length cdU)) := HRU.out.below hbW4
  have HRG : Hid (QuRow W4 (w3.heap.size) F (.slice awG F.wt.length cwG) (.slice ahG F.hd.length chG) (.slice adG F.dr.length cdG)) := HRG.out.below hbW4
  have HTU : Hid (ZRow W4 (w1.heap.size) (.slice atU L.length ctU) L) := own_belowQ HTU.out hbW4
  have HTG : Hid (ZRow W4 (w3.heap.size) (.slice atG L.length ctG) L) := own_belowQ HTG.out hbW4
  have HEX : Hid (ERow W4 (W2.heap.size) (.slice abX l.length cbX) l) := own_belowQ HEX.out hbW4
  clear HBw4
  have HV4 : Hid (Sv W4 (w4.heap.size) (.int .i64 F.cap) (.int .i64 F.rule) (.int .i64 F.next) (.slice awG F.wt.length cwG) (.slice ahG F.hd.length chG) (.slice adG F.dr.length cdG)) := by show Sv _ _ _ _ _ _ _ _; rw [hW4]; exact Sv.fresh w4 _ _ _ _ _ _ _
  clear hbW4
  go_upto_region 6 with fail
  rw [← hW4]
  clear hW4
  have y40 := HV4.out.c0
  have y41 := HV4.out.c1
  have y42 := HV4.out.c2
  have y43 := HV4.out.c3
  have y44 := HV4.out.c4
  have y45 := HV4.out.c5
  have y20 := HV2.out.c0
  have y21 := HV2.out.c1
  have y22 := HV2.out.c2
  have y23 := HV2.out.c3
  have y24 := HV2.out.c4
  have y25 := HV2.out.c5
  go_wp2_with fail
  go_at_call 14
  refine (EF.out _ _ _ _ _ _ _ HRG.out.at HRU.out.at).mono ?_
  rintro e w5 ⟨rfl, hbw5⟩
  clear y40 y41 y42 y43 y44 y45 y20 y21 y22 y23 y24 y25
  have hsw5 := hbw5.size
  have HBw5 : Hid (Below w.heap.size w w5) := HBW4.out.trans (hbw5.mono HBW4.out.size)
  have HV2 : Hid (Sv w5 (w2.heap.size) (.int .i64 F.cap) (.int .i64 F.rule) (.int .i64 F.next) (.slice awU F.wt.length cwU) (.slice ahU F.hd.length chU) (.slice adU F.dr.length cdU)) := HV2.out.below hbw5
  have HV4 : Hid (Sv w5 (w4.heap.size) (.int .i64 F.cap) (.int .i64 F.rule) (.int .i64 F.next) (.slice awG F.wt.length cwG) (.slice ahG F.hd.length chG) (.slice adG F.dr.length cdG)) := HV4.out.below hbw5
  have HRU : Hid (QuRow w5 (w1.heap.size) F (.slice awU F.wt.length cwU) (.slice ahU F.hd.length chU) (.slice adU F.dr.length cdU)) := HRU.out.below hbw5
  have HRG : Hid (QuRow w5 (w3.heap.size) F (.slice awG F.wt.length cwG) (.slice ahG F.hd.length chG) (.slice adG F.dr.length cdG)) := HRG.out.below hbw5
  have HTU : Hid (ZRow w5 (w1.heap.size) (.slice atU L.length ctU) L) := own_belowQ HTU.out hbw5
  have HTG : Hid (ZRow w5 (w3.heap.size) (.slice atG L.length ctG) L) := own_belowQ HTG.out hbw5
  have HEX : Hid (ERow w5 (W2.heap.size) (.slice abX l.length cbX) l) := own_belowQ HEX.out hbw5
  clear HBW4
  clear hbw5
  go_wp2_with fail
  go_at_call 28
  refine (eqZ_same L _ _ w5 (ZAt.own HTG.out) (ZAt.own HTU.out) (by omega)).mono ?_
  rintro e w6 ⟨rfl, hbw6⟩
  have hsw6 := hbw6.size
  have HBw6 : Hid (Below w.heap.size w w6) := HBw5.out.trans (hbw6.mono HBw5.out.size)
  have HV2 : Hid (Sv w6 (w2.heap.size) (.int .i64 F.cap) (.int .i64 F.rule) (.int .i64 F.next) (.slice awU F.wt.length cwU) (.slice ahU F.hd.length chU) (.slice adU F.dr.length cdU)) := HV2.out.below hbw6
  have HV4 : Hid (Sv w6 (w4.heap.size) (.int .i64 F.cap) (.int .i64 F.rule) (.int .i64 F.next) (.slice awG F.wt.length cwG) (.slice ahG F.hd.length chG) (.slice adG F.dr.length cdG)) := HV4.out.below hbw6
  have HRU : Hid (QuRow w6 (w1.heap.size) F (.slice awU F.wt.length cwU) (.slice ahU F.hd.length chU) (.slice adU F.dr.length cdU)) := HRU.out.below hbw6
  have HRG : Hid (QuRow w6 (w3.heap.size) F (.slice awG F.wt.length cwG) (.slice ahG F.hd.length chG) (.slice adG F.dr.length cdG)) := HRG.out.below hbw6
  have HTU : Hid (ZRow w6 (w1.heap.size) (.slice atU L.length ctU) L) := own_belowQ HTU.out hbw6
  have HTG : Hid (ZRow w6 (w3.heap.size) (.slice atG L.length ctG) L) := own_belowQ HTG.out hbw6
  have HEX : Hid (ERow w6 (W2.heap.size) (.slice abX l.length cbX) l) := own_belowQ HEX.out hbw6
  clear HBw5
  clear hbw6
  go_wp2_with fail
  go_at_call 26
  refine (CB.out _ (HBw6.out)).mono ?_
  rintro e w7 ⟨abY, cbY, rfl, heY, hbw7⟩
  have hsw7 := hbw7.size
  have HBw7 : Hid (Below w.heap.size w w7) := HBw6.out.trans (hbw7.mono HBw6.out.size)
  have HV2 : Hid (Sv w7 (w2.heap.size) (.int .i64 F.cap) (.int .i64 F.rule) (.int .i64 F.next) (.slice awU F.wt.length cwU) (.slice ahU F.hd.length chU) (.slice adU F.dr.length cdU)) := HV2.out.below hbw7
  have HV4 : Hid (Sv w7 (w4.heap.size) (.int .i64 F.cap) (.int .i64 F.rule) (.int .i64 F.next) (.slice awG F.wt.length cwG) (.slice ahG F.hd.length chG) (.slice adG F.dr.length cdG)) := HV4.out.below hbw7
  have HRU : Hid (QuRow w7 (w1.heap.size) F (.slice awU F.wt.length cwU) (.slice ahU F.hd.length chU) (.slice adU F.dr.length cdU)) := HRU.out.below hbw7
  have HRG : Hid (QuRow w7 (w3.heap.size) F (.slice awG F.wt.length cwG) (.slice ahG F.hd.length chG) (.slice adG F.dr.length cdG)) := HRG.out.below hbw7
  have HTU : Hid (ZRow w7 (w1.heap.size) (.slice atU L.length ctU) L) := own_belowQ HTU.out hbw7
  have HTG : Hid (ZRow w7 (w3.heap.size) (.slice atG L.length ctG) L) := own_belowQ HTG.out hbw7
  have HEX : Hid (ERow w7 (W2.heap.size) (.slice abX l.length cbX) l) := own_belowQ HEX.out hbw7
  clear HBw6
  clear hbw7
  have HEY : Hid (ERow w7 (w6.heap.size) (.slice abY l.length cbY) l) := heY
  have HPY : Hid (∀ g, (.slice abY l.length cbY : Value).ownBlock = some g → w6.heap.size ≤ g ∧ g < w7.heap.size) := fun g hg => World.ownsRow.lt heY g hg
  clear heY
  go_wp2_with fail
  go_at_call 29
  refine (eqE_same l _ _ w7 (EAt.own HEX.out) (EAt.own HEY.out) (by omega)).mono ?_
  rintro e w8 ⟨rfl, hbw8⟩
  have hsw8 := hbw8.size
  have HBw8 : Hid (Below w.heap.size w w8) := HBw7.out.trans (hbw8.mono HBw7.out.size)
  have HV2 : Hid (Sv w8 (w2.heap.size) (.int .i64 F.cap) (.int .i64 F.rule) (.int .i64 F.next) (.slice awU F.wt.length cwU) (.slice ahU F.hd.length chU) (.slice adU F.dr.length cdU)) := HV2.out.below hbw8
  have HV4 : Hid (Sv w8 (w4.heap.size) (.int .i64 F.cap) (.int .i64 F.rule) (.int .i64 F.next) (.slice awG F.wt.length cwG) (.slice ahG F.hd.length chG) (.slice adG F.dr.length cdG)) := HV4.out.below hbw8
  have HRU : Hid (QuRow w8 (w1.heap.size) F (.slice awU F.wt.length cwU) (.slice ahU F.hd.length chU) (.slice adU F.dr.length cdU)) := HRU.out.below hbw8
  have HRG : Hid (QuRow w8 (w3.heap.size) F (.slice awG F.wt.length cwG) (.slice ahG F.hd.length chG) (.slice adG F.dr.length cdG)) := HRG.out.below hbw8
  have HTU : Hid (ZRow w8 (w1.heap.size) (.slice atU L.length ctU) L) := own_belowQ HTU.out hbw8
  have HTG : Hid (ZRow w8 (w3.heap.size) (.slice atG L.length ctG) L) := own_belowQ HTG.out hbw8
  have HEX : Hid (ERow w8 (W2.heap.size) (.slice abX l.length cbX) l) := own_belowQ HEX.out hbw8
  have HEY : Hid (ERow w8 (w6.heap.size) (.slice abY l.length cbY) l) := own_belowQ HEY.out hbw8
  clear HBw7
  clear hbw8
  clear HEY HPY
  go_wp2_with fail
  go_at_call 30
  refine (markEM_any (W2.heap.size) l.length 1 _ _ w8 HEX.out (by omega) (by omega)).mono ?_
  rintro e w9 ⟨rfl, -, hgw9⟩
  have hmw9 : Mid (W2.heap.size) (w3.heap.size) w8 w9 := Mid.of_grown hgw9 (fun g hg => HPX.out g hg)
  have hsw9 := hmw9.size
  have HBw9 : Hid (Below w.heap.size w w9) := HBw8.out.trans ((hmw9.below (by omega)).mono (by omega))
  have HV2 : Hid (Sv w9 (w2.heap.size) (.int .i64 F.cap) (.int .i64 F.rule) (.int .i64 F.next) (.slice awU F.wt.length cwU) (.slice ahU F.hd.length chU) (.slice adU F.dr.length cdU)) := HV2.out.mid hmw9 (by omega)
  have HV4 : Hid (Sv w9 (w4.heap.size) (.int .i64 F.cap) (.int .i64 F.rule) (.int .i64 F.next) (.slice awG F.wt.length cwG) (.slice ahG F.hd.length chG) (.slice adG F.dr.length cdG)) := HV4.out.mid hmw9 (by omega)
  have HRU : Hid (QuRow w9 (w1.heap.size) F (.slice awU F.wt.length cwU) (.slice ahU F.hd.length chU) (.slice adU F.dr.length cdU)) := HRU.out.mid HLU.out hmw9 (by omega)
  have HRG : Hid (QuRow w9 (w3.heap.size) F (.slice awG F.wt.length cwG) (.slice ahG F.hd.length chG) (.slice adG F.dr.length cdG)) := HRG.out.mid HLG.out hmw9 (by omega)
  have HTU : Hid (ZRow w9 (w1.heap.size) (.slice atU L.length ctU) L) := HTU.out.mid HOU.out hmw9 (by omega)
  have HTG : Hid (ZRow w9 (w3.heap.size) (.slice atG L.length ctG) L) := HTG.out.mid HOG.out hmw9 (by omega)
  clear HBw8
  clear HEX HPX
  clear hmw9 hgw9
  have y40 := HV4.out.c0
  have y41 := HV4.out.c1
  have y42 := HV4.out.c2
  have y43 := HV4.out.c3
  have y44 := HV4.out.c4
  have y45 := HV4.out.c5
  have y20 := HV2.out.c0
  have y21 := HV2.out.c1
  have y22 := HV2.out.c2
  have y23 := HV2.out.c3
  have y24 := HV2.out.c4
  have y25 := HV2.out.c5
  go_wp2_with fail
  go_at_call 14
  refine (EF.out _ _ _ _ _ _ _ HRG.out.at HRU.out.at).mono ?_
  rintro e w10 ⟨rfl, hbw10⟩
  clear y40 y41 y42 y43 y44 y45 y20 y21 y22 y23 y24 y25
  have hsw10 := hbw10.size
  have HBw10 : Hid (Below w.heap.size w w10) := HBw9.out.trans (hbw10.mono HBw9.out.size)
  have HV2 : Hid (Sv w10 (w2.heap.size) (.int .i64 F.cap) (.int .i64 F.rule) (.int .i64 F.next) (.slice awU F.wt.length cwU) (.slice ahU F.hd.length chU) (.slice adU F.dr.length cdU)) := HV2.out.below hbw10
  have HV4 : Hid (Sv w10 (w4.heap.size) (.int .i64 F.cap) (.int .i64 F.rule) (.int .i64 F.next) (.slice awG F.wt.length cwG) (.slice ahG F.hd.length chG) (.slice adG F.dr.length cdG)) := HV4.out.below hbw10
  have HRU : Hid (QuRow w10 (w1.heap.size) F (.slice awU F.wt.length cwU) (.slice ahU F.hd.length chU) (.slice adU F.dr.length cdU)) := HRU.out.below hbw10
  have HRG : Hid (QuRow w10 (w3.heap.size) F (.slice awG F.wt.length cwG) (.slice ahG F.hd.length chG) (.slice adG F.dr.length cdG)) := HRG.out.below hbw10
  have HTU : Hid (ZRow w10 (w1.heap.size) (.slice atU L.length ctU) L) := own_belowQ HTU.out hbw10
  have HTG : Hid (ZRow w10 (w3.heap.size) (.slice atG L.length ctG) L) := own_belowQ HTG.out hbw10
  clear HBw9
  clear hbw10
  go_wp2_with fail
  go_at_call 28
  refine (eqZ_same L _ _ w10 (ZAt.own HTG.out) (ZAt.own HTU.out) (by omega)).mono ?_
  rintro e w11 ⟨rfl, hbw11⟩
  have hsw11 := hbw11.size
  have HBw11 : Hid (Below w.heap.size w w11) := HBw10.out.trans (hbw11.mono HBw10.out.size)
  have HV2 : Hid (Sv w11 (w2.heap.size) (.int .i64 F.cap) (.int .i64 F.rule) (.int .i64 F.next) (.slice awU F.wt.length cwU) (.slice ahU F.hd.length chU) (.slice adU F.dr.length cdU)) := HV2.out.below hbw11
  have HV4 : Hid (Sv w11 (w4.heap.size) (.int .i64 F.cap) (.int .i64 F.rule) (.int .i64 F.next) (.slice awG F.wt.length cwG) (.slice ahG F.hd.length chG) (.slice adG F.dr.length cdG)) := HV4.out.below hbw11
  have HRU : Hid (QuRow w11 (w1.heap.size) F (.slice awU F.wt.length cwU) (.slice ahU F.hd.length chU) (.slice adU F.dr.length cdU)) := HRU.out.below hbw11
  have HRG : Hid (QuRow w11 (w3.heap.size) F (.slice awG F.wt.length cwG) (.slice ahG F.hd.length chG) (.slice adG F.dr.length cdG)) := HRG.out.below hbw11
  have HTU : Hid (ZRow w11 (w1.heap.size) (.slice atU L.length ctU) L) := own_belowQ HTU.out hbw11
  have HTG : Hid (ZRow w11 (w3.heap.size) (.slice atG L.length ctG) L) := own_belowQ HTG.out hbw11
  clear HBw10
  clear hbw11
  have y40 := HV4.out.c0
  have y41 := HV4.out.c1
  have y42 := HV4.out.c2
  have y43 := HV4.out.c3
  have y44 := HV4.out.c4
  have y45 := HV4.out.c5
  go_wp2_with fail
  go_at_call 15
  refine (MGO.out (w3.heap.size) (w4.heap.size) _ _ _ _ HRG.out HLG.out).mono ?_
  rintro e w12 ⟨rfl, hkw12, hmw12, hnw12⟩
  have HTG : Hid (ZRow w12 (w3.heap.size) (.slice atG L.length ctG) L) := own_keptQ HTG.out (fun g hg => hnw12 g (World.ownsRow.lt HTG.out g hg).2 (fun hp => HAPG.out g hp hg))
  clear y40 y41 y42 y43 y44 y45
  have hsw12 := hmw12.size
  have HBw12 : Hid (Below w.heap.size w w12) := HBw11.out.trans ((hmw12.below (by omega)).mono (by omega))
  have HV2 : Hid (Sv w12 (w2.heap.size) (.int .i64 F.cap) (.int .i64 F.rule) (.int .i64 F.next) (.slice awU F.wt.length cwU) (.slice ahU F.hd.length chU) (.slice adU F.dr.length cdU)) := HV2.out.mid hmw12 (by omega)
  have HV4 : Hid (Sv w12 (w4.heap.size) (.int .i64 F.cap) (.int .i64 F.rule) (.int .i64 F.next) (.slice awG F.wt.length cwG) (.slice ahG F.hd.length chG) (.slice adG F.dr.length cdG)) := HV4.out.mid hmw12 (by omega)
  have HRU : Hid (QuRow w12 (w1.heap.size) F (.slice awU F.wt.length cwU) (.slice ahU F.hd.length chU) (.slice adU F.dr.length cdU)) := HRU.out.mid HLU.out hmw12 (by omega)
  have HTU : Hid (ZRow w12 (w1.heap.size) (.slice atU L.length ctU) L) := HTU.out.mid HOU.out hmw12 (by omega)
  clear HBw11
  have HMO : Hid (type_of% hkw12) := hkw12
  clear hkw12 hmw12 hnw12 HRG HLG
  go_wp2_with fail
  go_at_call 31
  refine (markZQ_any (w3.heap.size) L.length (1 + F.wt.length + F.hd.length + F.dr.length : Nat) _ _ w12 HTG.out (by omega) (by omega)).mono ?_
  rintro e w13 ⟨rfl, ⟨ysw13, how13, hyw13⟩, hgw13⟩
  have hmw13 : Mid (w3.heap.size) (w4.heap.size) w12 w13 := Mid.of_grown hgw13 (fun g hg => HOG.out g hg)
  have HMO : Hid (QuMkO w13 (w3.heap.size) 1 F.wt.length F.hd.length F.dr.length (.slice awG F.wt.length cwG) (.slice ahG F.hd.length chG) (.slice adG F.dr.length cdG)) := HMO.out.aside hgw13 (fun g hp e => HAPG.out g hp e)
  have hsw13 := hmw13.size
  have HBw13 : Hid (Below w.heap.size w w13) := HBw12.out.trans ((hmw13.below (by omega)).mono (by omega))
  have HV2 : Hid (Sv w13 (w2.heap.size) (.int .i64 F.cap) (.int .i64 F.rule) (.int .i64 F.next) (.slice awU F.wt.length cwU) (.slice ahU F.hd.length chU) (.slice adU F.dr.length cdU)) := HV2.out.mid hmw13 (by omega)
  have HV4 : Hid (Sv w13 (w4.heap.size) (.int .i64 F.cap) (.int .i64 F.rule) (.int .i64 F.next) (.slice awG F.wt.length cwG) (.slice ahG F.hd.length chG) (.slice adG F.dr.length cdG)) := HV4.out.mid hmw13 (by omega)
  have HRU : Hid (QuRow w13 (w1.heap.size) F (.slice awU F.wt.length cwU) (.slice ahU F.hd.length chU) (.slice adU F.dr.length cdU)) := HRU.out.mid HLU.out hmw13 (by omega)
  have HTU : Hid (ZRow w13 (w1.heap.size) (.slice atU L.length ctU) L) := HTU.out.mid HOU.out hmw13 (by omega)
  clear HBw12
  have HMG : Hid (QuMk w13 w13.heap.size 1 F.wt.length F.hd.length F.dr.length (.slice awG F.wt.length cwG) (.slice ahG F.hd.length chG) (.slice adG F.dr.length cdG)) := HMO.out.at (by omega) (by omega) (by omega)
  have HZG : Hid (IntsAt w13 w13.heap.size (.slice atG L.length ctG) ((List.range L.length).map ((1 + F.wt.length + F.hd.length + F.dr.length : Nat) + ·))) := own_intsQ how13 hyw13 (by omega)
  clear HTG HOG hmw13 hgw13 how13 hyw13 HMO
  have y40 := HV4.out.c0
  have y41 := HV4.out.c1
  have y42 := HV4.out.c2
  have y43 := HV4.out.c3
  have y44 := HV4.out.c4
  have y45 := HV4.out.c5
  go_wp2_with fail
  go_at_call 16
  refine (HG.out _ _ _ _ HMG.out).mono ?_
  rintro e w14 ⟨rfl, hbw14⟩
  clear y40 y41 y42 y43 y44 y45
  have hsw14 := hbw14.size
  have HBw14 : Hid (Below w.heap.size w w14) := HBw13.out.trans (hbw14.mono HBw13.out.size)
  have HV2 : Hid (Sv w14 (w2.heap.size) (.int .i64 F.cap) (.int .i64 F.rule) (.int .i64 F.next) (.slice awU F.wt.length cwU) (.slice ahU F.hd.length chU) (.slice adU F.dr.length cdU)) := HV2.out.below hbw14
  have HV4 : Hid (Sv w14 (w4.heap.size) (.int .i64 F.cap) (.int .i64 F.rule) (.int .i64 F.next) (.slice awG F.wt.length cwG) (.slice ahG F.hd.length chG) (.slice adG F.dr.length cdG)) := HV4.out.below hbw14
  have HRU : Hid (QuRow w14 (w1.heap.size) F (.slice awU F.wt.length cwU) (.slice ahU F.hd.length chU) (.slice adU F.dr.length cdU)) := HRU.out.below hbw14
  have HTU : Hid (ZRow w14 (w1.heap.size) (.slice atU L.length ctU) L) := own_belowQ HTU.out hbw14
  have HMG : Hid (QuMk w14 w14.heap.size 1 F.wt.length F.hd.length F.dr.length (.slice awG F.wt.length cwG) (.slice ahG F.hd.length chG) (.slice adG F.dr.length cdG)) := HMG.out.below hbw14
  have HZG : Hid (IntsAt w14 w14.heap.size (.slice atG L.length ctG) ((List.range L.length).map ((1 + F.wt.length + F.hd.length + F.dr.length : Nat) + ·))) := HZG.out.below hbw14
  clear HBw13
  clear hbw14
  go_wp2_with fail
  go_at_call 32
  refine (heldIntS_any L.length (1 + F.wt.length + F.hd.length + F.dr.length : Nat) _ w14 HZG.out (by omega) (by omega)).mono ?_
  rintro e w15 ⟨rfl, hbw15⟩
  have hsw15 := hbw15.size
  have HBw15 : Hid (Below w.heap.size w w15) := HBw14.out.trans (hbw15.mono HBw14.out.size)
  have HV2 : Hid (Sv w15 (w2.heap.size) (.int .i64 F.cap) (.int .i64 F.rule) (.int .i64 F.next) (.slice awU F.wt.length cwU) (.slice ahU F.hd.length chU) (.slice adU F.dr.length cdU)) := HV2.out.below hbw15
  have HV4 : Hid (Sv w15 (w4.heap.size) (.int .i64 F.cap) (.int .i64 F.rule) (.int .i64 F.next) (.slice awG F.wt.length cwG) (.slice ahG F.hd.length chG) (.slice adG F.dr.length cdG)) := HV4.out.below hbw15
  have HRU : Hid (QuRow w15 (w1.heap.size) F (.slice awU F.wt.length cwU) (.slice ahU F.hd.length chU) (.slice adU F.dr.length cdU)) := HRU.out.below hbw15
  have HTU : Hid (ZRow w15 (w1.heap.size) (.slice atU L.length ctU) L) := own_belowQ HTU.out hbw15
  have HMG : Hid (QuMk w15 w15.heap.size 1 F.wt.length F.hd.length F.dr.length (.slice awG F.wt.length cwG) (.slice ahG F.hd.length chG) (.slice adG F.dr.length cdG)) := HMG.out.below hbw15
  have HZG : Hid (IntsAt w15 w15.heap.size (.slice atG L.length ctG) ((List.range L.length).map ((1 + F.wt.length + F.hd.length + F.dr.length : Nat) + ·))) := HZG.out.below hbw15
  clear HBw14
  clear hbw15
  go_wp2_with fail
  go_at_call 26
  refine (CB.out _ (HBw15.out)).mono ?_
  rintro e w16 ⟨abV, cbV, rfl, heV, hbw16⟩
  have hsw16 := hbw16.size
  have HBw16 : Hid (Below w.heap.size w w16) := HBw15.out.trans (hbw16.mono HBw15.out.size)
  have HV2 : Hid (Sv w16 (w2.heap.size) (.int .i64 F.cap) (.int .i64 F.rule) (.int .i64 F.next) (.slice awU F.wt.length cwU) (.slice ahU F.hd.length chU) (.slice adU F.dr.length cdU)) := HV2.out.below hbw16
  have HV4 : Hid (Sv w16 (w4.heap.size) (.int .i64 F.cap) (.int .i64 F.rule) (.int .i64 F.next) (.slice awG F.wt.length cwG) (.slice ahG F.hd.length chG) (.slice adG F.dr.length cdG)) := HV4.out.below hbw16
  have HRU : Hid (QuRow w16 (w1.heap.size) F (.slice awU F.wt.length cwU) (.slice ahU F.hd.length chU) (.slice adU F.dr.length cdU)) := HRU.out.below hbw16
  have HTU : Hid (ZRow w16 (w1.heap.size) (.slice atU L.length ctU) L) := own_belowQ HTU.out hbw16
  have HMG : Hid (QuMk w16 w16.heap.size 1 F.wt.length F.hd.length F.dr.length (.slice awG F.wt.length cwG) (.slice ahG F.hd.length chG) (.slice adG F.dr.length cdG)) := HMG.out.below hbw16
  have HZG : Hid (IntsAt w16 w16.heap.size (.slice atG L.length ctG) ((List.range L.length).map ((1 + F.wt.length + F.hd.length + F.dr.length : Nat) + ·))) := HZG.out.below hbw16
  clear HBw15
  clear hbw16
  have HEV : Hid (ERow w16 (w15.heap.size) (.slice abV l.length cbV) l) := heV
  have HPV : Hid (∀ g, (.slice abV l.length cbV : Value).ownBlock = some g → w15.heap.size ≤ g ∧ g < w16.heap.size) := fun g hg => World.ownsRow.lt heV g hg
  clear heV
  go_wp2_with fail
  go_at_call 27
  refine (CI.out _ _ (EAt.own HEV.out)).mono ?_
  rintro e w17 ⟨awZ, cwZ, ahZ, chZ, adZ, cdZ, atZ, ctZ, rfl, hrZ, htZ, hapZ, hbw17⟩
  have hsw17 := hbw17.size
  have HBw17 : Hid (Below w.heap.size w w17) := HBw16.out.trans (hbw17.mono HBw16.out.size)
  have HV2 : Hid (Sv w17 (w2.heap.size) (.int .i64 F.cap) (.int .i64 F.rule) (.int .i64 F.next) (.slice awU F.wt.length cwU) (.slice ahU F.hd.length chU) (.slice adU F.dr.length cdU)) := HV2.out.below hbw17
  have HV4 : Hid (Sv w17 (w4.heap.size) (.int .i64 F.cap) (.int .i64 F.rule) (.int .i64 F.next) (.slice awG F.wt.length cwG) (.slice ahG F.hd.length chG) (.slice adG F.dr.length cdG)) := HV4.out.below hbw17
  have HRU : Hid (QuRow w17 (w1.heap.size) F (.slice awU F.wt.length cwU) (.slice ahU F.hd.length chU) (.slice adU F.dr.length cdU)) := HRU.out.below hbw17
  have HTU : Hid (ZRow w17 (w1.heap.size) (.slice atU L.length ctU) L) := own_belowQ HTU.out hbw17
  have HMG : Hid (QuMk w17 w17.heap.size 1 F.wt.length F.hd.length F.dr.length (.slice awG F.wt.length cwG) (.slice ahG F.hd.length chG) (.slice adG F.dr.length cdG)) := HMG.out.below hbw17
  have HZG : Hid (IntsAt w17 w17.heap.size (.slice atG L.length ctG) ((List.range L.length).map ((1 + F.wt.length + F.hd.length + F.dr.length : Nat) + ·))) := HZG.out.below hbw17
  have HEV : Hid (ERow w17 (w15.heap.size) (.slice abV l.length cbV) l) := own_belowQ HEV.out hbw17
  clear HBw16
  clear hbw17
  have HAPZ : Hid (∀ g, P3 (.slice awZ F.wt.length cwZ) (.slice ahZ F.hd.length chZ) (.slice adZ F.dr.length cdZ) g → (.slice atZ L.length ctZ : Value).ownBlock ≠ some g) := hapZ
  clear hapZ
  have HRZ : Hid (QuRow w17 (w16.heap.size) F (.slice awZ F.wt.length cwZ) (.slice ahZ F.hd.length chZ) (.slice adZ F.dr.length cdZ)) := hrZ
  have HLZ : Hid (OwnQ (w16.heap.size) w17.heap.size (.slice awZ F.wt.length cwZ) (.slice ahZ F.hd.length chZ) (.slice adZ F.dr.length cdZ)) := QuRow.ownIn hrZ
  clear hrZ
  have HTZ : Hid (ZRow w17 (w16.heap.size) (.slice atZ L.length ctZ) L) := htZ
  have HOZ : Hid (∀ g, (.slice atZ L.length ctZ : Value).ownBlock = some g → w16.heap.size ≤ g ∧ g < w17.heap.size) := fun g hg => World.ownsRow.lt htZ g hg
  clear htZ
  clear HEV HPV
  obtain ⟨W17, hW17⟩ : ∃ X, X = w17.alloc (.cells #[.int .i64 F.cap, .int .i64 F.rule, .int .i64 F.next, .slice awZ F.wt.length cwZ, .slice ahZ F.hd.length chZ, .slice adZ F.dr.length cdZ] 24) := ⟨_, rfl⟩
  have hbW17 : Below w17.heap.size w17 W17 := by rw [hW17]; exact (Below.refl _ _).alloc (Nat.le_refl _) _
  have hlW17 : w17.heap.size < W17.heap.size := by rw [hW17]; simp
  have hsW17 := hbW17.size
  have HBW17 : Hid (Below w.heap.size w W17) := HBw17.out.trans (hbW17.mono HBw17.out.size)
  have HV2 : Hid (Sv W17 (w2.heap.size) (.int .i64 F.cap) (.int .i64 F.rule) (.int .i64 F.next) (.slice awU F.wt.length cwU) (.slice ahU F.hd.length chU) (.slice adU F.dr.length cdU)) := HV2.out.below hbW17
  have HV4 : Hid (Sv W17 (w4.heap.size) (.int .i64 F.cap) (.int .i64 F.rule) (.int .i64 F.next) (.slice awG F.wt.length cwG) (.slice ahG F.hd.length chG) (.slice adG F.dr.length cdG)) := HV4.out.below hbW17
  have HRU : Hid (QuRow W17 (w1.heap.size) F (.slice awU F.wt.length cwU) (.slice ahU F.hd.length chU) (.slice adU F.dr.length cdU)) := HRU.out.below hbW17
  have HRZ : Hid (QuRow W17 (w16.heap.size) F (.slice awZ F.wt.length cwZ) (.slice ahZ F.hd.length chZ) (.slice adZ F.dr.length cdZ)) := HRZ.out.below hbW17
  have HTU : Hid (ZRow W17 (w1.heap.size) (.slice atU L.length ctU) L) := own_belowQ HTU.out hbW17
  have HTZ : Hid (ZRow W17 (w16.heap.size) (.slice atZ L.length ctZ) L) := own_belowQ HTZ.out hbW17
  have HMG : Hid (QuMk W17 W17.heap.size 1 F.wt.length F.hd.length F.dr.length (.slice awG F.wt.length cwG) (.slice ahG F.hd.length chG) (.slice adG F.dr.length cdG)) := HMG.out.below hbW17
  have HZG : Hid (IntsAt W17 W17.heap.size (.slice atG L.length ctG) ((List.range L.length).map ((1 + F.wt.length + F.hd.length + F.dr.length : Nat) + ·))) := HZG.out.below hbW17
  clear HBw17
  have HV17 : Hid (Sv W17 (w17.heap.size) (.int .i64 F.cap) (.int .i64 F.rule) (.int .i64 F.next) (.slice awZ F.wt.length cwZ) (.slice ahZ F.hd.length chZ) (.slice adZ F.dr.length cdZ)) := by show Sv _ _ _ _ _ _ _ _; rw [hW17]; exact Sv.fresh w17 _ _ _ _ _ _ _
  clear hbW17
  go_upto_region 27 with fail
  rw [← hW17]
  clear hW17
  have y170 := HV17.out.c0
  have y171 := HV17.out.c1
  have y172 := HV17.out.c2
  have y173 := HV17.out.c3
  have y174 := HV17.out.c4
  have y175 := HV17.out.c5
  have y20 := HV2.out.c0
  have y21 := HV2.out.c1
  have y22 := HV2.out.c2
  have y23 := HV2.out.c3
  have y24 := HV2.out.c4
  have y25 := HV2.out.c5
  go_wp2_with fail
  go_at_call 14
  refine (EF.out _ _ _ _ _ _ _ HRZ.out.at HRU.out.at).mono ?_
  rintro e w18 ⟨rfl, hbw18⟩
  clear y170 y171 y172 y173 y174 y175 y20 y21 y22 y23 y24 y25
  have hsw18 := hbw18.size
  have HBw18 : Hid (Below w.heap.size w w18) := HBW17.out.trans (hbw18.mono HBW17.out.size)
  have HV2 : Hid (Sv w18 (w2.heap.size) (.int .i64 F.cap) (.int .i64 F.rule) (.int .i64 F.next) (.slice awU F.wt.length cwU) (.slice ahU F.hd.length chU) (.slice adU F.dr.length cdU)) := HV2.out.below hbw18
  have HV4 : Hid (Sv w18 (w4.heap.size) (.int .i64 F.cap) (.int .i64 F.rule) (.int .i64 F.next) (.slice awG F.wt.length cwG) (.slice ahG F.hd.length chG) (.slice adG F.dr.length cdG)) := HV4.out.below hbw18
  have HV17 : Hid (Sv w18 (w17.heap.size) (.int .i64 F.cap) (.int .i64 F.rule) (.int .i64 F.next) (.slice awZ F.wt.length cwZ) (.slice ahZ F.hd.length chZ) (.slice adZ F.dr.length cdZ)) := HV17.out.below hbw18
  have HRU : Hid (QuRow w18 (w1.heap.size) F (.slice awU F.wt.length cwU) (.slice ahU F.hd.length chU) (.slice adU F.dr.length cdU)) := HRU.out.below hbw18
  have HRZ : Hid (QuRow w18 (w16.heap.size) F (.slice awZ F.wt.length cwZ) (.slice ahZ F.hd.length chZ) (.slice adZ F.dr.length cdZ)) := HRZ.out.below hbw18
  have HTU : Hid (ZRow w18 (w1.heap.size) (.slice atU L.length ctU) L) := own_belowQ HTU.out hbw18
  have HTZ : Hid (ZRow w18 (w16.heap.size) (.slice atZ L.length ctZ) L) := own_belowQ HTZ.out hbw18
  have HMG : Hid (QuMk w18 w18.heap.size 1 F.wt.length F.hd.length F.dr.length (.slice awG F.wt.length cwG) (.slice ahG F.hd.length chG) (.slice adG F.dr.length cdG)) := HMG.out.below hbw18
  have HZG : Hid (IntsAt w18 w18.heap.size (.slice atG L.length ctG) ((List.range L.length).map ((1 + F.wt.length + F.hd.length + F.dr.length : Nat) + ·))) := HZG.out.below hbw18
  clear HBW17
  clear hbw18
  go_wp2_with fail
  go_at_call 28
  refine (eqZ_same L _ _ w18 (ZAt.own HTZ.out) (ZAt.own HTU.out) (by omega)).mono ?_
  rintro e w19 ⟨rfl, hbw19⟩
  have hsw19 := hbw19.size
  have HBw19 : Hid (Below w.heap.size w w19) := HBw18.out.trans (hbw19.mono HBw18.out.size)
  have HV2 : Hid (Sv w19 (w2.heap.size) (.int .i64 F.cap) (.int .i64 F.rule) (.int .i64 F.next) (.slice awU F.wt.length cwU) (.slice ahU F.hd.length chU) (.slice adU F.dr.length cdU)) := HV2.out.below hbw19
  have HV4 : Hid (Sv w19 (w4.heap.size) (.int .i64 F.cap) (.int .i64 F.rule) (.int .i64 F.next) (.slice awG F.wt.length cwG) (.slice ahG F.hd.length chG) (.slice adG F.dr.length cdG)) := HV4.out.below hbw19
  have HV17 : Hid (Sv w19 (w17.heap.size) (.int .i64 F.cap) (.int .i64 F.rule) (.int .i64 F.next) (.slice awZ F.wt.length cwZ) (.slice ahZ F.hd.length chZ) (.slice adZ F.dr.length cdZ)) := HV17.out.below hbw19
  have HRU : Hid (QuRow w19 (w1.heap.size) F (.slice awU F.wt.length cwU) (.slice ahU F.hd.length chU) (.slice adU F.dr.length cdU)) := HRU.out.below hbw19
  have HRZ : Hid (QuRow w19 (w16.heap.size) F (.slice awZ F.wt.length cwZ) (.slice ahZ F.hd.length chZ) (.slice adZ F.dr.length cdZ)) := HRZ.out.below hbw19
  have HTU : Hid (ZRow w19 (w1.heap.size) (.slice atU L.length ctU) L) := own_belowQ HTU.out hbw19
  have HTZ : Hid (ZRow w19 (w16.heap.size) (.slice atZ L.length ctZ) L) := own_belowQ HTZ.out hbw19
  have HMG : Hid (QuMk w19 w19.heap.size 1 F.wt.length F.hd.length F.dr.length (.slice awG F.wt.length cwG) (.slice ahG F.hd.length chG) (.slice adG F.dr.length cdG)) := HMG.out.below hbw19
  have HZG : Hid (IntsAt w19 w19.heap.size (.slice atG L.length ctG) ((List.range L.length).map ((1 + F.wt.length + F.hd.length + F.dr.length : Nat) + ·))) := HZG.out.below hbw19
  clear HBw18
  clear hbw19
  have y40 := HV4.out.c0
  have y41 := HV4.out.c1
  have y42 := HV4.out.c2
  have y43 := HV4.out.c3
  have y44 := HV4.out.c4
  have y45 := HV4.out.c5
  go_wp2_with fail
  go_at_call 16
  refine (HG.out _ _ _ _ HMG.out).mono ?_
  rintro e w20 ⟨rfl, hbw20⟩
  clear y40 y41 y42 y43 y44 y45
  have hsw20 := hbw20.size
  have HBw20 : Hid (Below w.heap.size w w20) := HBw19.out.trans (hbw20.mono HBw19.out.size)
  have HV2 : Hid (Sv w20 (w2.heap.size) (.int .i64 F.cap) (.int .i64 F.rule) (.int .i64 F.next) (.slice awU F.wt.length cwU) (.slice ahU F.hd.length chU) (.slice adU F.dr.length cdU)) := HV2.out.below hbw20
  have HV4 : Hid (Sv w20 (w4.heap.size) (.int .i64 F.cap) (.int .i64 F.rule) (.int .i64 F.next) (.slice awG F.wt.length cwG) (.slice ahG F.hd.length chG) (.slice adG F.dr.length cdG)) := HV4.out.below hbw20
  have HV17 : Hid (Sv w20 (w17.heap.size) (.int .i64 F.cap) (.int .i64 F.rule) (.int .i64 F.next) (.slice awZ F.wt.length cwZ) (.slice ahZ F.hd.length chZ) (.slice adZ F.dr.length cdZ)) := HV17.out.below hbw20
  have HRU : Hid (QuRow w20 (w1.heap.size) F (.slice awU F.wt.length cwU) (.slice ahU F.hd.length chU) (.slice adU F.dr.length cdU)) := HRU.out.below hbw20
  have HRZ : Hid (QuRow w20 (w16.heap.size) F (.slice awZ F.wt.length cwZ) (.slice ahZ F.hd.length chZ) (.slice adZ F.dr.length cdZ)) := HRZ.out.below hbw20
  have HTU : Hid (ZRow w20 (w1.heap.size) (.slice atU L.length ctU) L) := own_belowQ HTU.out hbw20
  have HTZ : Hid (ZRow w20 (w16.heap.size) (.slice atZ L.length ctZ) L) := own_belowQ HTZ.out hbw20
  have HMG : Hid (QuMk w20 w20.heap.size 1 F.wt.length F.hd.length F.dr.length (.slice awG F.wt.length cwG) (.slice ahG F.hd.length chG) (.slice adG F.dr.length cdG)) := HMG.out.below hbw20
  have HZG : Hid (IntsAt w20 w20.heap.size (.slice atG L.length ctG) ((List.range L.length).map ((1 + F.wt.length + F.hd.length + F.dr.length : Nat) + ·))) := HZG.out.below hbw20
  clear HBw19
  clear hbw20
  go_wp2_with fail
  go_at_call 32
  refine (heldIntS_any L.length (1 + F.wt.length + F.hd.length + F.dr.length : Nat) _ w20 HZG.out (by omega) (by omega)).mono ?_
  rintro e w21 ⟨rfl, hbw21⟩
  have hsw21 := hbw21.size
  have HBw21 : Hid (Below w.heap.size w w21) := HBw20.out.trans (hbw21.mono HBw20.out.size)
  have HV2 : Hid (Sv w21 (w2.heap.size) (.int .i64 F.cap) (.int .i64 F.rule) (.int .i64 F.next) (.slice awU F.wt.length cwU) (.slice ahU F.hd.length chU) (.slice adU F.dr.length cdU)) := HV2.out.below hbw21
  have HV4 : Hid (Sv w21 (w4.heap.size) (.int .i64 F.cap) (.int .i64 F.rule) (.int .i64 F.next) (.slice awG F.wt.length cwG) (.slice ahG F.hd.length chG) (.slice adG F.dr.length cdG)) := HV4.out.below hbw21
  have HV17 : Hid (Sv w21 (w17.heap.size) (.int .i64 F.cap) (.int .i64 F.rule) (.int .i64 F.next) (.slice awZ F.wt.length cwZ) (.slice ahZ F.hd.length chZ) (.slice adZ F.dr.length cdZ)) := HV17.out.below hbw21
  have HRU : Hid (QuRow w21 (w1.heap.size) F (.slice awU F.wt.length cwU) (.slice ahU F.hd.length chU) (.slice adU F.dr.length cdU)) := HRU.out.below hbw21
  have HRZ : Hid (QuRow w21 (w16.heap.size) F (.slice awZ F.wt.length cwZ) (.slice ahZ F.hd.length chZ) (.slice adZ F.dr.length cdZ)) := HRZ.out.below hbw21
  have HTU : Hid (ZRow w21 (w1.heap.size) (.slice atU L.length ctU) L) := own_belowQ HTU.out hbw21
  have HTZ : Hid (ZRow w21 (w16.heap.size) (.slice atZ L.length ctZ) L) := own_belowQ HTZ.out hbw21
  have HMG : Hid (QuMk w21 w21.heap.size 1 F.wt.length F.hd.length F.dr.length (.slice awG F.wt.length cwG) (.slice ahG F.hd.length chG) (.slice adG F.dr.length cdG)) := HMG.out.below hbw21
  have HZG : Hid (IntsAt w21 w21.heap.size (.slice atG L.length ctG) ((List.range L.length).map ((1 + F.wt.length + F.hd.length + F.dr.length : Nat) + ·))) := HZG.out.below hbw21
  clear HBw20
  clear hbw21
  go_wp2_with fail
  go_ret
  exact ⟨rfl, HBw21.out⟩

namespace fnExactPlayQueue
open Go.ChangeShapes Go.WideShapes Go.ChangeAt

theorem own : ownKnob Try.prog.godebug = none := by kernel_rfl
theorem laidOut : laidOutB Try.prog = true := by kernel_rfl

set_option maxRecDepth 100000 in
theorem lifted (os : Os) (started : os.Started) (H : Type) (enc : TypeId × Value → H) :
    ReturnsInHanded {} Try.checked os 7 .any (Rows.fnExactPlayQueueSpec.pre6 enc Try.prog Try.f7 Rows.fnExactPlayQueueRow.domain false) (Rows.fnExactPlayQueueSpec.post enc Try.prog Try.f7 false true false false) := by
  refine returnsInHanded_of_change (C := Try.checked) own started (by kernel_rfl) Try.func7
    (ChangeSpec.witness6 (enc := enc) (C := Try.checked) false ⟨#[], #[.int .i64 0, .int .i64 0, .slice none 0 0], []⟩ 8 (by kernel_rfl) (by kernel_rfl) (by kernel_rfl) (by kernel_rfl)) ?_
  intro W base args ds gs before hval0 hW hcnd _
  have hval : ∀ (j : Nat) t v, Try.f7.params[j]? = some t → args[j]? = some v → Value.okWide Try.prog W .any base t v := hval0
  have hW' := hW
  obtain ⟨p, q, hA0, hV, rfl, hfz, hnd⟩ := hW
  have hA : DataW.TrodAll enc Try.prog W 0 (fun _ => true) true Try.f7.params.toList args.toList ds p := hA0
  rw [Try.params7] at hA hval
  obtain ⟨v0, vs0, d0, ds0, p0, q0, hargs, rfl, rfl, h0, r0⟩ := trodAll_cons hA
  obtain ⟨v1, vs1, d1, ds1, p1, q1, rfl, rfl, rfl, h1, r1⟩ := trodAll_cons r0
  obtain ⟨v2, vs2, d2, ds2, p2, q2, rfl, rfl, rfl, h2, r2⟩ := trodAll_cons r1
  obtain ⟨rfl, rfl, rfl⟩ := trodAll_nil r2
  obtain rfl : args = #[v0, v1, v2] := by cases args; simp_all
  obtain ⟨rfl, rfl⟩ := trodVars_none hV
  obtain ⟨n0, rfl, rfl, rfl, hr0⟩ := open_int Try.underlying3 (hval 0 3 v0 rfl rfl) h0
  obtain ⟨n1, rfl, rfl, rfl, hr1⟩ := open_int Try.underlying3 (hval 1 3 v1 rfl rfl) h1
  have h2k := h2
  obtain ⟨T2, hT2⟩ := open_boolsW (hval 2 37 v2 rfl rfl) h2
  clear hA0 hval0
  have hlt2 : ∀ x ∈ p2, x.block < W.heap.size := fun x hx => by
    have := hW'.lt x (by simp_all)
    simpa using this
  refine (walkFnExactPlayQueue n0 n1 T2 _ W hT2).mono fun e W' ⟨he, hg⟩ => ?_
  subst he
  exact ⟨_, rfl, _, _, _, [], _, [], hW', trodAll_mk1 (shut_bool Try.underlying4 _), (trodAll_cons_mk (shut_int Try.underlying3 hr0) (trodAll_cons_mk (shut_int Try.underlying3 hr1) (trodAll_cons_mk (Below.trod laidOut (by kernel_rfl) (of_decide_eq_true (by kernel_rfl)) h2k hg (fun x hx => hlt2 x hx)) trodAll_mk0))), rfl, hg.frame _, fun h => by cases h⟩

theorem over : Rows.fnExactPlayQueueRow.holds Try.pinned (OpenSpec.ofChange Rows.fnExactPlayQueueSpec) :=
  OpenClaim.holds_of_wide 7 Try.f7 rfl rfl rfl rfl rfl rfl rfl ⟨rfl, rfl, rfl, rfl, rfl⟩ rfl rfl rfl rfl rfl (by kernel_rfl) Try.func7 (by kernel_rfl)
    (of_decide_eq_true (by kernel_rfl)) (by unfold Func.isWrapper; first | (rw [if_pos (by decide +kernel)]; kernel_rfl) | (rw [if_neg (by decide +kernel)]; exact ⟨rfl, rfl⟩))
    (fun os started H enc _ => lifted os started H enc)

end fnExactPlayQueue

theorem fnExactPlayQueue_holds : Rows.FnExactPlayQueueSaid := fnExactPlayQueue.over
#print axioms fnExactPlayQueue_holds
end Go.Proofs.Ytfkhbbmnjndmcaa
