/- Proved here: at every reader the law FnExactTakeFrame answers true, that is, TakeFrame answers as its model, its answer owns its memory, and it writes into nothing.
   Conditions: none beside the row's own. -/
import Derived.Test.YtcpjbacjmmbabaaFxQ
import Derived.Test.YtcpjbacjmmbabaaFxT
import Derived.Deep.DeepCutAuto
import Derived.Deep.RegionHeld3
import Derived.Deep.DrawnRows
import Derived.OpenShut
import Derived.ShutString
import Derived.ChangeMaps5
namespace Go.Proofs.Ytcpjbacjmmbabaa
attribute [local go_sem ↓] Go.wp_at_zero Go.wp_at_succ
open Go.RowKit Plain Tpc Frm

theorem tfR_len (r : Rdr) : (tfR r).got.length ≤ 40 := by
  unfold tfR
  by_cases h : tfK r = true
  · rw [if_pos h]
    unfold tfK at h
    rw [Bool.and_eq_true] at h
    have := (gdr_parts h.1).1
    show (r.got.drop 1).length ≤ 40
    rw [List.length_drop]
    omega
  · rw [if_neg h]
    exact Nat.zero_le _

set_option maxRecDepth 100000 in
set_option maxHeartbeats 16000000 in
theorem walkFnExactTakeFrame (r : Rdr) (v : Value) (w : World) (hT : StAt w w.heap.size v r.got) (hN : (∀ i, i < r.got.length → (lq r.got i).size ≤ 9223372036854775807) ∧ r.rest.size ≤ maxLen) :
    Calls Try.prog 9 #[r.val v] w fun e w' => e = .returned (.bool true) ∧ Below w.heap.size w w' := by
  have HT : Hid (StAt w w.heap.size v r.got) := hT
  have hFl := tfR_len r
  have SZ : Hid (∀ W, Below w.heap.size w W → Calls Try.prog 27 #[r.val v, .int .i64 1048576] W fun e w' => (∃ n : Int, e = .returned (.int .i64 n) ∧ -1 ≤ n ∧ n ≤ 1048576 ∧ (0 ≤ n → r.rest.size ≤ 1048576 ∧ r.got.length ≤ 1048576 ∧ ∀ i, i < r.got.length → (lq r.got i).size ≤ 1048576)) ∧ Below W.heap.size W w') := fun W hW => szReader_left r v W (HT.out.below hW) hN.1 hN.2
  have C1 : Hid (r.got.length ≤ 1048576 → ∀ W, Below w.heap.size w W → Calls Try.prog 29 #[r.val v] W fun e w' => ∃ a c, e = .returned (r.val (.slice a r.got.length c)) ∧ StRow w' W.heap.size (.slice a r.got.length c) r.got ∧ Below W.heap.size W w') := fun hl W hW => toReader_any r v W (HT.out.below hW) hl
  have CS : Hid (r.rest.size ≤ 1048576 → ∀ W u, StAt W W.heap.size u r.got → Calls Try.prog 33 #[r.val u] W fun e w' => ∃ a c, e = .returned (.tuple #[(tfR r).val (.slice a (tfR r).got.length c), .string (tfS r), .bool (tfK r)]) ∧ StRow w' W.heap.size (.slice a (tfR r).got.length c) (tfR r).got ∧ Below W.heap.size W w') := fun hr W u hu => (specTake r u W hu hN.1 (by omega)).mono fun e w' h => by
    obtain ⟨v', he, hro, hb⟩ := h
    obtain ⟨a, c, rfl⟩ := hro.slice
    exact ⟨a, c, he, hro, hb⟩
  have CI : Hid (r.rest.size ≤ 1048576 → ∀ W u, StAt W W.heap.size u r.got → Calls Try.prog 34 #[r.val u] W fun e w' => ∃ a c, e = .returned (.tuple #[(tfR r).val (.slice a (tfR r).got.length c), .string (tfS r), .bool (tfK r)]) ∧ StRow w' W.heap.size (.slice a (tfR r).got.length c) (tfR r).got ∧ Below W.heap.size W w') := fun hr W u hu => (implTake r u W hu hN.1 (by omega)).mono fun e w' h => by
    obtain ⟨v', he, hro, hb⟩ := h
    obtain ⟨a, c, rfl⟩ := hro.slice
    exact ⟨a, c, he, hro, hb⟩
  have EF : Hid (∀ W v1 v2, StAt W W.heap.size v1 (tfR r).got → StAt W W.heap.size v2 (tfR r).got → Calls Try.prog 24 #[(tfR r).val v1, (tfR r).val v2] W fun e w' => e = .returned (.bool true) ∧ Below W.heap.size W w') := fun W v1 v2 h1 h2 => eqReader_same _ v1 v2 W h1 h2 (by omega)
  have ER : Hid (r.got.length ≤ 1048576 → ∀ W v1 v2, StAt W W.heap.size v1 r.got → StAt W W.heap.size v2 r.got → Calls Try.prog 24 #[r.val v1, r.val v2] W fun e w' => e = .returned (.bool true) ∧ Below W.heap.size W w') := fun hl W v1 v2 h1 h2 => eqReader_same _ v1 v2 W h1 h2 (by omega)
  have MX : Hid (∀ B n u xs W, World.ownsRow W B 9 1 u n xs → n ≤ 2097152 → Calls Try.prog 25 #[r.val u, .int .i64 1] W fun e w' => e = .returned (.int .i64 ((1 + n : Nat) : Int)) ∧ (∃ ys, w'.ownsRow B 9 1 u n ys ∧ ∀ j, j < n → ys[j]? = some (.string (mt (1 + j)))) ∧ W.grownBy w' u.ownBlock) := fun B n u xs W h hn => markReader_any r B n 1 u xs W h hn (by omega) (by omega)
  have MG : Hid (∀ B n u xs W, World.ownsRow W B 9 1 u n xs → n ≤ 2097152 → Calls Try.prog 25 #[(tfR r).val u, .int .i64 1] W fun e w' => e = .returned (.int .i64 ((1 + n : Nat) : Int)) ∧ (∃ ys, w'.ownsRow B 9 1 u n ys ∧ ∀ j, j < n → ys[j]? = some (.string (mt (1 + j)))) ∧ W.grownBy w' u.ownBlock) := fun B n u xs W h hn => markReader_any _ B n 1 u xs W h hn (by omega) (by omega)
  have HG : Hid (∀ n u W, StAt W W.heap.size u (mks 1 n) → n ≤ 2097152 → Calls Try.prog 26 #[(tfR r).val u, .int .i64 1] W fun e w' => e = .returned (.int .i64 ((1 + n : Nat) : Int)) ∧ Below W.heap.size W w') := fun n u W h hn => heldReader_any _ n 1 u W h hn (by omega) (by omega)
  unfold Rdr.val at SZ C1 CS CI EF ER MX MG HG ⊢
  generalize tfR r = F at CS CI EF MG HG hFl
  generalize tfK r = K at CS CI
  generalize tfS r = S at CS CI
  obtain ⟨q, L, bad⟩ := r
  obtain ⟨fq, fL, fb⟩ := F
  dsimp only at *
  have nK : (K != K) = false := bne_self_eq_false K
  have nS : (S.toList != S.toList) = false := bne_self_eq_false _
  have nS2 : (S.toList == S.toList) = true := beq_self_eq_true _
  obtain ⟨ao, cap, rfl, _⟩ := hT
  clear hN
  obtain ⟨W0, hW0⟩ : ∃ X, X = w.alloc (.cells #[.string q, .slice ao L.length cap, .bool bad] 38) := ⟨_, rfl⟩
  have hb0 : Below w.heap.size w W0 := by rw [hW0]; exact (Below.refl _ w).alloc (Nat.le_refl _) _
  have HV0 : Hid (Rv W0 (w.heap.size) (.string q) (.slice ao L.length cap) (.bool bad)) := by show Rv _ _ _ _ _; rw [hW0]; exact Rv.fresh w _ _ _ _
  have hlW0 : w.heap.size < W0.heap.size := by rw [hW0]; simp
  have HBW0 : Hid (Below w.heap.size w W0) := hb0
  clear hb0
  go_enter Try.func9, Try.ntmps9
  go_upto_region 1 with fail
  rw [← hW0]
  clear hW0
  have y00 := HV0.out.c0
  have y01 := HV0.out.c1
  have y02 := HV0.out.c2
  go_wp2_with fail
  go_at_call 27
  refine (SZ.out _ HBW0.out).mono ?_
  rintro e w1 ⟨⟨n, rfl, hn0, hn1, hn2⟩, hb1⟩
  clear y00 y01 y02
  have hsw1 := hb1.size
  have HBw1 : Hid (Below w.heap.size w w1) := HBW0.out.trans (hb1.mono HBW0.out.size)
  have HV0 : Hid (Rv w1 (w.heap.size) (.string q) (.slice ao L.length cap) (.bool bad)) := HV0.out.below hb1
  clear HBW0
  clear hb1
  by_cases hneg : n < 0
  · clear hn2 C1 CS CI EF ER MX MG HG HT
    go_wp2_with fail
    go_ret
    exact ⟨rfl, HBw1.out⟩
  obtain ⟨hq20, hL20, _⟩ := hn2 (by omega)
  clear hn2 SZ
  have C1 := fun W h => C1.out hL20 W h
  have HC1 : Hid (type_of% C1) := C1
  clear C1
  have CS := CS.out hq20
  have CI := CI.out hq20
  have ER := ER.out hL20
  have HCS : Hid (type_of% CS) := CS
  have HCI : Hid (type_of% CI) := CI
  have HER : Hid (type_of% ER) := ER
  clear CS CI ER hq20
  have y00 := HV0.out.c0
  have y01 := HV0.out.c1
  have y02 := HV0.out.c2
  go_wp2_with fail
  go_at_call 29
  refine (HC1.out _ HBw1.out).mono ?_
  rintro e w2 ⟨a2, c2, rfl, hr2, hb2⟩
  clear y00 y01 y02
  have hsw2 := hb2.size
  have HBw2 : Hid (Below w.heap.size w w2) := HBw1.out.trans (hb2.mono HBw1.out.size)
  have HV0 : Hid (Rv w2 (w.heap.size) (.string q) (.slice ao L.length cap) (.bool bad)) := HV0.out.below hb2
  clear HBw1
  clear hb2
  go_wp2_with fail
  go_at_call 33
  refine (HCS.out _ _ (StAt.own hr2)).mono ?_
  rintro e w3 ⟨a3, c3, rfl, hr3, hb3⟩
  clear hr2
  have hsw3 := hb3.size
  have HBw3 : Hid (Below w.heap.size w w3) := HBw2.out.trans (hb3.mono HBw2.out.size)
  have HV0 : Hid (Rv w3 (w.heap.size) (.string q) (.slice ao L.length cap) (.bool bad)) := HV0.out.below hb3
  clear HBw2
  clear hb3
  have HRU : Hid (StRow w3 w2.heap.size (.slice a3 fL.length c3) fL) := hr3
  have HLU : Hid (∀ g, (.slice a3 fL.length c3 : Value).ownBlock = some g → w2.heap.size ≤ g ∧ g < w3.heap.size) := fun g hg => World.ownsRow.lt hr3 g hg
  clear hr3
  obtain ⟨W6, hW6⟩ : ∃ X, X = w3.alloc (.cells #[.string fq, .slice a3 fL.length c3, .bool fb] 33) := ⟨_, rfl⟩
  have hbW6 : Below w3.heap.size w3 W6 := by rw [hW6]; exact (Below.refl _ _).alloc (Nat.le_refl _) _
  have hlW6 : w3.heap.size < W6.heap.size := by rw [hW6]; simp
  have hsW6 := hbW6.size
  have HBW6 : Hid (Below w.heap.size w W6) := HBw3.out.trans (hbW6.mono HBw3.out.size)
  have HV0 : Hid (Rv W6 (w.heap.size) (.string q) (.slice ao L.length cap) (.bool bad)) := HV0.out.below hbW6
  have HRU : Hid (StRow W6 w2.heap.size (.slice a3 fL.length c3) fL) := HRU.out.below hbW6
  clear HBw3
  have HV6 : Hid (Rv W6 (w3.heap.size) (.string fq) (.slice a3 fL.length c3) (.bool fb)) := by show Rv _ _ _ _ _; rw [hW6]; exact Rv.fresh w3 _ _ _ _
  clear hbW6
  go_upto_region 6 with fail
  rw [← hW6]
  clear hW6
  have y00 := HV0.out.c0
  have y01 := HV0.out.c1
  have y02 := HV0.out.c2
  go_wp2_with fail
  go_at_call 29
  refine (HC1.out _ HBW6.out).mono ?_
  rintro e w4 ⟨a4, c4, rfl, hr4, hb4⟩
  clear y00 y01 y02
  have hsw4 := hb4.size
  have HBw4 : Hid (Below w.heap.size w w4) := HBW6.out.trans (hb4.mono HBW6.out.size)
  have HV0 : Hid (Rv w4 (w.heap.size) (.string q) (.slice ao L.length cap) (.bool bad)) := HV0.out.below hb4
  have HV6 : Hid (Rv w4 (w3.heap.size) (.string fq) (.slice a3 fL.length c3) (.bool fb)) := HV6.out.below hb4
  have HRU : Hid (StRow w4 w2.heap.size (.slice a3 fL.length c3) fL) := HRU.out.below hb4
  clear HBW6
  clear hb4
  have HRX : Hid (StRow w4 W6.heap.size (.slice a4 L.length c4) L) := hr4
  have HLX : Hid (∀ g, (.slice a4 L.length c4 : Value).ownBlock = some g → W6.heap.size ≤ g ∧ g < w4.heap.size) := fun g hg => World.ownsRow.lt hr4 g hg
  clear hr4
  obtain ⟨W8, hW8⟩ : ∃ X, X = w4.alloc (.cells #[.string q, .slice a4 L.length c4, .bool bad] 33) := ⟨_, rfl⟩
  have hbW8 : Below w4.heap.size w4 W8 := by rw [hW8]; exact (Below.refl _ _).alloc (Nat.le_refl _) _
  have hlW8 : w4.heap.size < W8.heap.size := by rw [hW8]; simp
  have hsW8 := hbW8.size
  have HBW8 : Hid (Below w.heap.size w W8) := HBw4.out.trans (hbW8.mono HBw4.out.size)
  have HV0 : Hid (Rv W8 (w.heap.size) (.string q) (.slice ao L.length cap) (.bool bad)) := HV0.out.below hbW8
  have HV6 : Hid (Rv W8 (w3.heap.size) (.string fq) (.slice a3 fL.length c3) (.bool fb)) := HV6.out.below hbW8
  have HRU : Hid (StRow W8 w2.heap.size (.slice a3 fL.length c3) fL) := HRU.out.below hbW8
  have HRX : Hid (StRow W8 W6.heap.size (.slice a4 L.length c4) L) := HRX.out.below hbW8
  clear HBw4
  have HV8 : Hid (Rv W8 (w4.heap.size) (.string q) (.slice a4 L.length c4) (.bool bad)) := by show Rv _ _ _ _ _; rw [hW8]; exact Rv.fresh w4 _ _ _ _
  clear hbW8
  go_upto_region 7 with fail
  rw [← hW8]
  clear hW8
  have y80 := HV8.out.c0
  have y81 := HV8.out.c1
  have y82 := HV8.out.c2
  go_wp2_with fail
  go_at_call 34
  refine (HCI.out _ _ (StAt.own HRX.out)).mono ?_
  rintro e w5 ⟨a5, c5, rfl, hr5, hb5⟩
  clear y80 y81 y82
  have hsw5 := hb5.size
  have HBw5 : Hid (Below w.heap.size w w5) := HBW8.out.trans (hb5.mono HBW8.out.size)
  have HV0 : Hid (Rv w5 (w.heap.size) (.string q) (.slice ao L.length cap) (.bool bad)) := HV0.out.below hb5
  have HV6 : Hid (Rv w5 (w3.heap.size) (.string fq) (.slice a3 fL.length c3) (.bool fb)) := HV6.out.below hb5
  have HV8 : Hid (Rv w5 (w4.heap.size) (.string q) (.slice a4 L.length c4) (.bool bad)) := HV8.out.below hb5
  have HRU : Hid (StRow w5 w2.heap.size (.slice a3 fL.length c3) fL) := HRU.out.below hb5
  have HRX : Hid (StRow w5 W6.heap.size (.slice a4 L.length c4) L) := HRX.out.below hb5
  clear HBW8
  clear hb5
  have HRG : Hid (StRow w5 W8.heap.size (.slice a5 fL.length c5) fL) := hr5
  have HLG : Hid (∀ g, (.slice a5 fL.length c5 : Value).ownBlock = some g → W8.heap.size ≤ g ∧ g < w5.heap.size) := fun g hg => World.ownsRow.lt hr5 g hg
  clear hr5
  obtain ⟨W9, hW9⟩ : ∃ X, X = w5.alloc (.cells #[.string fq, .slice a5 fL.length c5, .bool fb] 33) := ⟨_, rfl⟩
  have hbW9 : Below w5.heap.size w5 W9 := by rw [hW9]; exact (Below.refl _ _).alloc (Nat.le_refl _) _
  have hlW9 : w5.heap.size < W9.heap.size := by rw [hW9]; simp
  have hsW9 := hbW9.size
  have HBW9 : Hid (Below w.heap.size w W9) := HBw5.out.trans (hbW9.mono HBw5.out.size)
  have HV0 : Hid (Rv W9 (w.heap.size) (.string q) (.slice ao L.length cap) (.bool bad)) := HV0.out.below hbW9
  have HV6 : Hid (Rv W9 (w3.heap.size) (.string fq) (.slice a3 fL.length c3) (.bool fb)) := HV6.out.below hbW9
  have HV8 : Hid (Rv W9 (w4.heap.size) (.string q) (.slice a4 L.length c4) (.bool bad)) := HV8.out.below hbW9
  have HRU : Hid (StRow W9 w2.heap.size (.slice a3 fL.length c3) fL) := HRU.out.below hbW9
  have HRX : Hid (StRow W9 W6.heap.size (.slice a4 L.length c4) L) := HRX.out.below hbW9
  have HRG : Hid (StRow W9 W8.heap.size (.slice a5 fL.length c5) fL) := HRG.out.below hbW9
  clear HBw5
  have HV9 : Hid (Rv W9 (w5.heap.size) (.string fq) (.slice a5 fL.length c5) (.bool fb)) := by show Rv _ _ _ _ _; rw [hW9]; exact Rv.fresh w5 _ _ _ _
  clear hbW9
  go_upto_region 8 with fail
  rw [← hW9]
  clear hW9
  have y90 := HV9.out.c0
  have y91 := HV9.out.c1
  have y92 := HV9.out.c2
  have y60 := HV6.out.c0
  have y61 := HV6.out.c1
  have y62 := HV6.out.c2
  go_wp2_with fail
  go_at_call 24
  refine (EF.out _ _ _ (StAt.own HRG.out) (StAt.own HRU.out)).mono ?_
  rintro e w6 ⟨rfl, hbw6⟩
  clear y90 y91 y92 y60 y61 y62
  have hsw6 := hbw6.size
  have HBw6 : Hid (Below w.heap.size w w6) := HBW9.out.trans (hbw6.mono HBW9.out.size)
  have HV0 : Hid (Rv w6 (w.heap.size) (.string q) (.slice ao L.length cap) (.bool bad)) := HV0.out.below hbw6
  have HV6 : Hid (Rv w6 (w3.heap.size) (.string fq) (.slice a3 fL.length c3) (.bool fb)) := HV6.out.below hbw6
  have HV8 : Hid (Rv w6 (w4.heap.size) (.string q) (.slice a4 L.length c4) (.bool bad)) := HV8.out.below hbw6
  have HV9 : Hid (Rv w6 (w5.heap.size) (.string fq) (.slice a5 fL.length c5) (.bool fb)) := HV9.out.below hbw6
  have HRU : Hid (StRow w6 w2.heap.size (.slice a3 fL.length c3) fL) := HRU.out.below hbw6
  have HRX : Hid (StRow w6 W6.heap.size (.slice a4 L.length c4) L) := HRX.out.below hbw6
  have HRG : Hid (StRow w6 W8.heap.size (.slice a5 fL.length c5) fL) := HRG.out.below hbw6
  clear HBW9
  clear hbw6
  go_upto_region 10 with fail
  have HBw6d : Hid (Below w.heap.size w w6.drew) := HBw6.out.drew
  have KD : Hid (∀ W, Below w6.heap.size w6 W → W.cell? ⟨w4.heap.size, 0, none⟩ = some (.string q) ∧ W.cell? ⟨w4.heap.size, 1, none⟩ = some (.slice a4 L.length c4) ∧ W.cell? ⟨w4.heap.size, 2, none⟩ = some (.bool bad) ∧ W.cell? ⟨w.heap.size, 0, none⟩ = some (.string q) ∧ W.cell? ⟨w.heap.size, 1, none⟩ = some (.slice ao L.length cap) ∧ W.cell? ⟨w.heap.size, 2, none⟩ = some (.bool bad)) := fun W hW => ⟨(HV8.out.below hW).c0, (HV8.out.below hW).c1, (HV8.out.below hW).c2, (HV0.out.below hW).c0, (HV0.out.below hW).c1, (HV0.out.below hW).c2⟩
  go_region_held3 (fun W => W.cell? ⟨w4.heap.size, 0, none⟩ = some (.string q) ∧ W.cell? ⟨w4.heap.size, 1, none⟩ = some (.slice a4 L.length c4) ∧ W.cell? ⟨w4.heap.size, 2, none⟩ = some (.bool bad) ∧ W.cell? ⟨w.heap.size, 0, none⟩ = some (.string q) ∧ W.cell? ⟨w.heap.size, 1, none⟩ = some (.slice ao L.length cap) ∧ W.cell? ⟨w.heap.size, 2, none⟩ = some (.bool bad)) (first | with_reducible exact KD.out _ (Below.refl _ w6).drew | with_reducible exact KD.out _ hbD | with_reducible exact KD.out _ hbE)
    (first | ((go_at_call 24; (with_reducible refine (HER.out _ _ _ (StAt.own HRXd.out) (StAt.own HRD.out)).mono ?_); rintro e w8 ⟨rfl, hbE0⟩; have hbE : Below w6.heap.size w6 w8 := hbD.trans (hbE0.mono hbD.size))) | ((go_at_call 29; (with_reducible refine (HC1.out _ HBw6d.out).mono ?_); rintro e w7 ⟨aD, cD, rfl, hrD, hbD0⟩; have hbD : Below w6.heap.size w6 w7 := (Below.refl _ w6).drew.trans (hbD0.mono (Nat.le_refl _)); have HRXd : Hid (StRow w7 W6.heap.size (.slice a4 L.length c4) L) := HRX.out.below hbD; have HRD : Hid (StRow w7 w6.drew.heap.size (.slice aD L.length cD) L) := hrD)))
  clear KD HRXd HRD hbD hbD0 hrD hbE0
  have hsw8 := hbE.size
  have HBw8 : Hid (Below w.heap.size w w8) := HBw6.out.trans (hbE.mono HBw6.out.size)
  have HV0 : Hid (Rv w8 (w.heap.size) (.string q) (.slice ao L.length cap) (.bool bad)) := HV0.out.below hbE
  have HV6 : Hid (Rv w8 (w3.heap.size) (.string fq) (.slice a3 fL.length c3) (.bool fb)) := HV6.out.below hbE
  have HV8 : Hid (Rv w8 (w4.heap.size) (.string q) (.slice a4 L.length c4) (.bool bad)) := HV8.out.below hbE
  have HV9 : Hid (Rv w8 (w5.heap.size) (.string fq) (.slice a5 fL.length c5) (.bool fb)) := HV9.out.below hbE
  have HRU : Hid (StRow w8 w2.heap.size (.slice a3 fL.length c3) fL) := HRU.out.below hbE
  have HRX : Hid (StRow w8 W6.heap.size (.slice a4 L.length c4) L) := HRX.out.below hbE
  have HRG : Hid (StRow w8 W8.heap.size (.slice a5 fL.length c5) fL) := HRG.out.below hbE
  clear HBw6
  clear hbE
  have y80 := HV8.out.c0
  have y81 := HV8.out.c1
  have y82 := HV8.out.c2
  go_wp2_with fail
  go_at_call 25
  refine (MX.out W6.heap.size L.length (.slice a4 L.length c4) _ _ HRX.out (by omega)).mono ?_
  rintro e w9 ⟨rfl, ⟨ysw9, how9, hyw9⟩, hgw9⟩
  clear y80 y81 y82
  have hsw9 := hgw9.size
  have HBw9 : Hid (Below w.heap.size w w9) := HBw8.out.grown hgw9 HBw8.out.size (fun k hk => by have := HLX.out k hk; omega)
  have HV0 : Hid (Rv w9 (w.heap.size) (.string q) (.slice ao L.length cap) (.bool bad)) := HV0.out.grown hgw9 (fun e => by have := HLX.out _ e.symm; omega)
  have HV6 : Hid (Rv w9 (w3.heap.size) (.string fq) (.slice a3 fL.length c3) (.bool fb)) := HV6.out.grown hgw9 (fun e => by have := HLX.out _ e.symm; omega)
  have HV8 : Hid (Rv w9 (w4.heap.size) (.string q) (.slice a4 L.length c4) (.bool bad)) := HV8.out.grown hgw9 (fun e => by have := HLX.out _ e.symm; omega)
  have HV9 : Hid (Rv w9 (w5.heap.size) (.string fq) (.slice a5 fL.length c5) (.bool fb)) := HV9.out.grown hgw9 (fun e => by have := HLX.out _ e.symm; omega)
  have HRU : Hid (StRow w9 w2.heap.size (.slice a3 fL.length c3) fL) := own_asideF HRU.out hgw9 (fun g h1 e => by have h2 := HLU.out g h1; have h3 := HLX.out g e.symm; omega)
  have HRG : Hid (StRow w9 W8.heap.size (.slice a5 fL.length c5) fL) := own_asideF HRG.out hgw9 (fun g h1 e => by have h2 := HLG.out g h1; have h3 := HLX.out g e.symm; omega)
  clear HBw8
  clear hgw9
  clear HRX how9 hyw9
  clear HV8
  have hk9 : ¬ (((1 + L.length : Nat) : Int) < 0) := by omega
  have y90 := HV9.out.c0
  have y91 := HV9.out.c1
  have y92 := HV9.out.c2
  have y60 := HV6.out.c0
  have y61 := HV6.out.c1
  have y62 := HV6.out.c2
  go_wp2_with fail
  go_at_call 24
  refine (EF.out _ _ _ (StAt.own HRG.out) (StAt.own HRU.out)).mono ?_
  rintro e w10 ⟨rfl, hbw10⟩
  clear y90 y91 y92 y60 y61 y62
  have hsw10 := hbw10.size
  have HBw10 : Hid (Below w.heap.size w w10) := HBw9.out.trans (hbw10.mono HBw9.out.size)
  have HV0 : Hid (Rv w10 (w.heap.size) (.string q) (.slice ao L.length cap) (.bool bad)) := HV0.out.below hbw10
  have HV6 : Hid (Rv w10 (w3.heap.size) (.string fq) (.slice a3 fL.length c3) (.bool fb)) := HV6.out.below hbw10
  have HV9 : Hid (Rv w10 (w5.heap.size) (.string fq) (.slice a5 fL.length c5) (.bool fb)) := HV9.out.below hbw10
  have HRU : Hid (StRow w10 w2.heap.size (.slice a3 fL.length c3) fL) := HRU.out.below hbw10
  have HRG : Hid (StRow w10 W8.heap.size (.slice a5 fL.length c5) fL) := HRG.out.below hbw10
  clear HBw9
  clear hbw10
  have y90 := HV9.out.c0
  have y91 := HV9.out.c1
  have y92 := HV9.out.c2
  go_wp2_with fail
  go_at_call 25
  refine (MG.out W8.heap.size fL.length (.slice a5 fL.length c5) _ _ HRG.out (by omega)).mono ?_
  rintro e w11 ⟨rfl, ⟨ysw11, how11, hyw11⟩, hgw11⟩
  clear y90 y91 y92
  have hsw11 := hgw11.size
  have HBw11 : Hid (Below w.heap.size w w11) := HBw10.out.grown hgw11 HBw10.out.size (fun k hk => by have := HLG.out k hk; omega)
  have HV0 : Hid (Rv w11 (w.heap.size) (.string q) (.slice ao L.length cap) (.bool bad)) := HV0.out.grown hgw11 (fun e => by have := HLG.out _ e.symm; omega)
  have HV6 : Hid (Rv w11 (w3.heap.size) (.string fq) (.slice a3 fL.length c3) (.bool fb)) := HV6.out.grown hgw11 (fun e => by have := HLG.out _ e.symm; omega)
  have HV9 : Hid (Rv w11 (w5.heap.size) (.string fq) (.slice a5 fL.length c5) (.bool fb)) := HV9.out.grown hgw11 (fun e => by have := HLG.out _ e.symm; omega)
  have HRU : Hid (StRow w11 w2.heap.size (.slice a3 fL.length c3) fL) := own_asideF HRU.out hgw11 (fun g h1 e => by have h2 := HLU.out g h1; have h3 := HLG.out g e.symm; omega)
  clear HBw10
  clear hgw11
  have HM : Hid (StRow w11 W8.heap.size (.slice a5 fL.length c5) (mks 1 fL.length)) := marked_at how11 hyw11
  clear HRG how11 hyw11
  have HRG := HM
  clear HM
  have y90 := HV9.out.c0
  have y91 := HV9.out.c1
  have y92 := HV9.out.c2
  go_wp2_with fail
  go_at_call 26
  refine (HG.out fL.length _ _ (StAt.own HRG.out) (by omega)).mono ?_
  rintro e w12 ⟨rfl, hbw12⟩
  clear y90 y91 y92
  have hsw12 := hbw12.size
  have HBw12 : Hid (Below w.heap.size w w12) := HBw11.out.trans (hbw12.mono HBw11.out.size)
  have HV0 : Hid (Rv w12 (w.heap.size) (.string q) (.slice ao L.length cap) (.bool bad)) := HV0.out.below hbw12
  have HV6 : Hid (Rv w12 (w3.heap.size) (.string fq) (.slice a3 fL.length c3) (.bool fb)) := HV6.out.below hbw12
  have HV9 : Hid (Rv w12 (w5.heap.size) (.string fq) (.slice a5 fL.length c5) (.bool fb)) := HV9.out.below hbw12
  have HRU : Hid (StRow w12 w2.heap.size (.slice a3 fL.length c3) fL) := HRU.out.below hbw12
  have HRG : Hid (StRow w12 W8.heap.size (.slice a5 fL.length c5) (mks 1 fL.length)) := HRG.out.below hbw12
  clear HBw11
  clear hbw12
  have hk12 : ¬ (((1 + fL.length : Nat) : Int) < 0) := by omega
  have y00 := HV0.out.c0
  have y01 := HV0.out.c1
  have y02 := HV0.out.c2
  go_wp2_with fail
  go_at_call 29
  refine (HC1.out _ HBw12.out).mono ?_
  rintro e w13 ⟨a13, c13, rfl, hr13, hb13⟩
  clear y00 y01 y02
  have hsw13 := hb13.size
  have HBw13 : Hid (Below w.heap.size w w13) := HBw12.out.trans (hb13.mono HBw12.out.size)
  have HV0 : Hid (Rv w13 (w.heap.size) (.string q) (.slice ao L.length cap) (.bool bad)) := HV0.out.below hb13
  have HV6 : Hid (Rv w13 (w3.heap.size) (.string fq) (.slice a3 fL.length c3) (.bool fb)) := HV6.out.below hb13
  have HV9 : Hid (Rv w13 (w5.heap.size) (.string fq) (.slice a5 fL.length c5) (.bool fb)) := HV9.out.below hb13
  have HRU : Hid (StRow w13 w2.heap.size (.slice a3 fL.length c3) fL) := HRU.out.below hb13
  have HRG : Hid (StRow w13 W8.heap.size (.slice a5 fL.length c5) (mks 1 fL.length)) := HRG.out.below hb13
  clear HBw12
  clear hb13
  go_wp2_with fail
  go_at_call 34
  refine (HCI.out _ _ (StAt.own hr13)).mono ?_
  rintro e w14 ⟨a14, c14, rfl, hr14, hb14⟩
  clear hr13
  have hsw14 := hb14.size
  have HBw14 : Hid (Below w.heap.size w w14) := HBw13.out.trans (hb14.mono HBw13.out.size)
  have HV0 : Hid (Rv w14 (w.heap.size) (.string q) (.slice ao L.length cap) (.bool bad)) := HV0.out.below hb14
  have HV6 : Hid (Rv w14 (w3.heap.size) (.string fq) (.slice a3 fL.length c3) (.bool fb)) := HV6.out.below hb14
  have HV9 : Hid (Rv w14 (w5.heap.size) (.string fq) (.slice a5 fL.length c5) (.bool fb)) := HV9.out.below hb14
  have HRU : Hid (StRow w14 w2.heap.size (.slice a3 fL.length c3) fL) := HRU.out.below hb14
  have HRG : Hid (StRow w14 W8.heap.size (.slice a5 fL.length c5) (mks 1 fL.length)) := HRG.out.below hb14
  clear HBw13
  clear hb14
  have HRZ : Hid (StRow w14 w13.heap.size (.slice a14 fL.length c14) fL) := hr14
  have HLZ : Hid (∀ g, (.slice a14 fL.length c14 : Value).ownBlock = some g → w13.heap.size ≤ g ∧ g < w14.heap.size) := fun g hg => World.ownsRow.lt hr14 g hg
  clear hr14
  obtain ⟨W14, hW14⟩ : ∃ X, X = w14.alloc (.cells #[.string fq, .slice a14 fL.length c14, .bool fb] 33) := ⟨_, rfl⟩
  have hbW14 : Below w14.heap.size w14 W14 := by rw [hW14]; exact (Below.refl _ _).alloc (Nat.le_refl _) _
  have hlW14 : w14.heap.size < W14.heap.size := by rw [hW14]; simp
  have hsW14 := hbW14.size
  have HBW14 : Hid (Below w.heap.size w W14) := HBw14.out.trans (hbW14.mono HBw14.out.size)
  have HV0 : Hid (Rv W14 (w.heap.size) (.string q) (.slice ao L.length cap) (.bool bad)) := HV0.out.below hbW14
  have HV6 : Hid (Rv W14 (w3.heap.size) (.string fq) (.slice a3 fL.length c3) (.bool fb)) := HV6.out.below hbW14
  have HV9 : Hid (Rv W14 (w5.heap.size) (.string fq) (.slice a5 fL.length c5) (.bool fb)) := HV9.out.below hbW14
  have HRU : Hid (StRow W14 w2.heap.size (.slice a3 fL.length c3) fL) := HRU.out.below hbW14
  have HRG : Hid (StRow W14 W8.heap.size (.slice a5 fL.length c5) (mks 1 fL.length)) := HRG.out.below hbW14
  have HRZ : Hid (StRow W14 w13.heap.size (.slice a14 fL.length c14) fL) := HRZ.out.below hbW14
  clear HBw14
  have HV14 : Hid (Rv W14 (w14.heap.size) (.string fq) (.slice a14 fL.length c14) (.bool fb)) := by show Rv _ _ _ _ _; rw [hW14]; exact Rv.fresh w14 _ _ _ _
  clear hbW14
  go_upto_region 25 with fail
  rw [← hW14]
  clear hW14
  have y140 := HV14.out.c0
  have y141 := HV14.out.c1
  have y142 := HV14.out.c2
  have y60 := HV6.out.c0
  have y61 := HV6.out.c1
  have y62 := HV6.out.c2
  go_wp2_with fail
  go_at_call 24
  refine (EF.out _ _ _ (StAt.own HRZ.out) (StAt.own HRU.out)).mono ?_
  rintro e w15 ⟨rfl, hb15⟩
  clear y140 y141 y142 y60 y61 y62
  have hsw15 := hb15.size
  have HBw15 : Hid (Below w.heap.size w w15) := HBW14.out.trans (hb15.mono HBW14.out.size)
  have HV0 : Hid (Rv w15 (w.heap.size) (.string q) (.slice ao L.length cap) (.bool bad)) := HV0.out.below hb15
  have HV6 : Hid (Rv w15 (w3.heap.size) (.string fq) (.slice a3 fL.length c3) (.bool fb)) := HV6.out.below hb15
  have HV9 : Hid (Rv w15 (w5.heap.size) (.string fq) (.slice a5 fL.length c5) (.bool fb)) := HV9.out.below hb15
  have HV14 : Hid (Rv w15 (w14.heap.size) (.string fq) (.slice a14 fL.length c14) (.bool fb)) := HV14.out.below hb15
  have HRU : Hid (StRow w15 w2.heap.size (.slice a3 fL.length c3) fL) := HRU.out.below hb15
  have HRG : Hid (StRow w15 W8.heap.size (.slice a5 fL.length c5) (mks 1 fL.length)) := HRG.out.below hb15
  have HRZ : Hid (StRow w15 w13.heap.size (.slice a14 fL.length c14) fL) := HRZ.out.below hb15
  clear HBW14
  clear hb15
  have y90 := HV9.out.c0
  have y91 := HV9.out.c1
  have y92 := HV9.out.c2
  go_wp2_with fail
  go_at_call 26
  refine (HG.out fL.length _ _ (StAt.own HRG.out) (by omega)).mono ?_
  rintro e w16 ⟨rfl, hbw16⟩
  clear y90 y91 y92
  have hsw16 := hbw16.size
  have HBw16 : Hid (Below w.heap.size w w16) := HBw15.out.trans (hbw16.mono HBw15.out.size)
  have HV0 : Hid (Rv w16 (w.heap.size) (.string q) (.slice ao L.length cap) (.bool bad)) := HV0.out.below hbw16
  have HV6 : Hid (Rv w16 (w3.heap.size) (.string fq) (.slice a3 fL.length c3) (.bool fb)) := HV6.out.below hbw16
  have HV9 : Hid (Rv w16 (w5.heap.size) (.string fq) (.slice a5 fL.length c5) (.bool fb)) := HV9.out.below hbw16
  have HV14 : Hid (Rv w16 (w14.heap.size) (.string fq) (.slice a14 fL.length c14) (.bool fb)) := HV14.out.below hbw16
  have HRU : Hid (StRow w16 w2.heap.size (.slice a3 fL.length c3) fL) := HRU.out.below hbw16
  have HRG : Hid (StRow w16 W8.heap.size (.slice a5 fL.length c5) (mks 1 fL.length)) := HRG.out.below hbw16
  have HRZ : Hid (StRow w16 w13.heap.size (.slice a14 fL.length c14) fL) := HRZ.out.below hbw16
  clear HBw15
  clear hbw16
  go_wp2_with fail
  go_ret
  exact ⟨rfl, HBw16.out⟩

namespace fnExactTakeFrame
open Go.ChangeShapes Go.WideShapes Go.ChangeAt

theorem own : ownKnob Try.prog.godebug = none := by kernel_rfl
theorem laidOut : laidOutB Try.prog = true := by kernel_rfl

set_option maxRecDepth 100000 in
theorem lifted (os : Os) (started : os.Started) (H : Type) (enc : TypeId × Value → H) :
    ReturnsInHanded {} Try.checked os 9 .any (Rows.fnExactTakeFrameSpec.pre6 enc Try.prog Try.f9 Rows.fnExactTakeFrameRow.domain false) (Rows.fnExactTakeFrameSpec.post enc Try.prog Try.f9 false true false false) := by
  refine returnsInHanded_of_change (C := Try.checked) own started (by kernel_rfl) Try.func9
    (ChangeSpec.witness6 (enc := enc) (C := Try.checked) false ⟨#[], #[.agg #[.string ByteArray.empty, .slice none 0 0, .bool false]], []⟩ 8 (by kernel_rfl) (by kernel_rfl) (by kernel_rfl) (by kernel_rfl)) ?_
  intro W base args ds gs before hval0 hW hcnd _
  have hval : ∀ (j : Nat) t v, Try.f9.params[j]? = some t → args[j]? = some v → Value.okWide Try.prog W .any base t v := hval0
  have hW' := hW
  obtain ⟨p, q, hA0, hV, rfl, hfz, hnd⟩ := hW
  have hA : DataW.TrodAll enc Try.prog W 0 (fun _ => true) true Try.f9.params.toList args.toList ds p := hA0
  rw [Try.params9] at hA hval
  obtain ⟨v0, vs0, d0, ds0, p0, q0, hargs, rfl, rfl, h0, r0⟩ := trodAll_cons hA
  obtain ⟨rfl, rfl, rfl⟩ := trodAll_nil r0
  obtain rfl : args = #[v0] := by cases args; simp_all
  obtain ⟨rfl, rfl⟩ := trodVars_none hV
  have h0k := h0
  obtain ⟨R0, u0, rfl, hT0, hN0⟩ := open_reader (hval 0 38 v0 rfl rfl) h0
  clear hA0 hval0
  have hlt0 : ∀ x ∈ p0, x.block < W.heap.size := fun x hx => by
    have := hW'.lt x (by simp_all)
    simpa using this
  refine (walkFnExactTakeFrame R0 u0 W hT0 hN0).mono fun e W' ⟨he, hg⟩ => ?_
  subst he
  exact ⟨_, rfl, _, _, _, [], _, [], hW', trodAll_mk1 (shut_bool Try.underlying4 _), (trodAll_cons_mk (Below.trod laidOut (by kernel_rfl) (of_decide_eq_true (by kernel_rfl)) h0k hg (fun x hx => hlt0 x hx)) trodAll_mk0), rfl, hg.frame _, fun h => by cases h⟩

theorem over : Rows.fnExactTakeFrameRow.holds Try.pinned (OpenSpec.ofChange Rows.fnExactTakeFrameSpec) :=
  OpenClaim.holds_of_wide 9 Try.f9 rfl rfl rfl rfl rfl rfl rfl ⟨rfl, rfl, rfl, rfl, rfl⟩ rfl rfl rfl rfl rfl (by kernel_rfl) Try.func9 (by kernel_rfl)
    (of_decide_eq_true (by kernel_rfl)) (by unfold Func.isWrapper; first | (rw [if_pos (by decide +kernel)]; kernel_rfl) | (rw [if_neg (by decide +kernel)]; exact ⟨rfl, rfl⟩))
    (fun os started H enc _ => lifted os started H enc)

end fnExactTakeFrame

theorem fnExactTakeFrame_holds : Rows.FnExactTakeFrameSaid := fnExactTakeFrame.over
#print axioms fnExactTakeFrame_holds
end Go.Proofs.Ytcpjbacjmmbabaa
