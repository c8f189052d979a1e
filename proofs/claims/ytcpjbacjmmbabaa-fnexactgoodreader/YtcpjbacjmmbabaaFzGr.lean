/- Proved here: at every reader the law FnExactGoodReader answers true, that is, GoodReader answers as its model, its answer owns its memory, and it writes into nothing.
   Conditions: none beside the row's own. -/
import Derived.Test.YtcpjbacjmmbabaaFxN
import Derived.Test.YtcpjbacjmmbabaaFxT
import Derived.Deep.DeepCutAuto
import Derived.Deep.RegionHeld3
import Derived.Deep.DrawnRows
import Derived.OpenShut
import Derived.ShutString
import Derived.ChangeMaps5
namespace Go.Proofs.Ytcpjbacjmmbabaa
attribute [local go_sem ↓] Go.wp_at_zero Go.wp_at_succ
open Go.RowKit Plain Tpc Frm

set_option maxRecDepth 100000 in
set_option maxHeartbeats 16000000 in
theorem walkFnExactGoodReader (r : Rdr) (v : Value) (w : World) (hT : StAt w w.heap.size v r.got) (hN : (∀ i, i < r.got.length → (lq r.got i).size ≤ 9223372036854775807) ∧ r.rest.size ≤ maxLen) :
    Calls Try.prog 7 #[r.val v] w fun e w' => e = .returned (.bool true) ∧ Below w.heap.size w w' := by
  have HT : Hid (StAt w w.heap.size v r.got) := hT
  have SZ : Hid (∀ W, Below w.heap.size w W → Calls Try.prog 27 #[r.val v, .int .i64 1048576] W fun e w' => (∃ n : Int, e = .returned (.int .i64 n) ∧ -1 ≤ n ∧ n ≤ 1048576 ∧ (0 ≤ n → r.rest.size ≤ 1048576 ∧ r.got.length ≤ 1048576 ∧ ∀ i, i < r.got.length → (lq r.got i).size ≤ 1048576)) ∧ Below W.heap.size W w') := fun W hW => szReader_left r v W (HT.out.below hW) hN.1 hN.2
  have C1 : Hid (r.got.length ≤ 1048576 → ∀ W, Below w.heap.size w W → Calls Try.prog 29 #[r.val v] W fun e w' => ∃ a c, e = .returned (r.val (.slice a r.got.length c)) ∧ StRow w' W.heap.size (.slice a r.got.length c) r.got ∧ Below W.heap.size W w') := fun hl W hW => toReader_any r v W (HT.out.below hW) hl
  have CS : Hid (r.rest.size ≤ 1048576 → ∀ W u, StAt W W.heap.size u r.got → Calls Try.prog 28 #[r.val u] W fun e w' => e = .returned (.bool (gdr r)) ∧ Below W.heap.size W w') := fun hr W u hu => specGood r u W hu hN.1 (by omega)
  have CI : Hid (∀ W u, StAt W W.heap.size u r.got → Calls Try.prog 30 #[r.val u] W fun e w' => e = .returned (.bool (gdr r)) ∧ Below W.heap.size W w') := fun W u hu => implGood r u W hu hN.1 hN.2
  have ER : Hid (r.got.length ≤ 1048576 → ∀ W v1 v2, StAt W W.heap.size v1 r.got → StAt W W.heap.size v2 r.got → Calls Try.prog 24 #[r.val v1, r.val v2] W fun e w' => e = .returned (.bool true) ∧ Below W.heap.size W w') := fun hl W v1 v2 h1 h2 => eqReader_same _ v1 v2 W h1 h2 (by omega)
  unfold Rdr.val at SZ C1 CS CI ER ⊢
  generalize gdr r = K at CS CI
  obtain ⟨q, L, bad⟩ := r
  dsimp only at *
  have nK : (K != K) = false := bne_self_eq_false K
  obtain ⟨ao, cap, rfl, _⟩ := hT
  clear hN
  obtain ⟨W0, hW0⟩ : ∃ X, X = w.alloc (.cells #[.string q, .slice ao L.length cap, .bool bad] 38) := ⟨_, rfl⟩
  have hb0 : Below w.heap.size w W0 := by rw [hW0]; exact (Below.refl _ w).alloc (Nat.le_refl _) _
  have HV0 : Hid (Rv W0 (w.heap.size) (.string q) (.slice ao L.length cap) (.bool bad)) := by show Rv _ _ _ _ _; rw [hW0]; exact Rv.fresh w _ _ _ _
  have hlW0 : w.heap.size < W0.heap.size := by rw [hW0]; simp
  have HBW0 : Hid (Below w.heap.size w W0) := hb0
  clear hb0
  go_enter Try.func7, Try.ntmps7
  go_upto_region 1 with fail
  rw [← hW0]
  clear hW0
  have y00 := HV0.out.c0
  have y01 := HV0.out.c1
  have y02 := HV0.out.c2
  go_wp2_with fail
  go_at_call 27
  refine (SZ.out _ HBW0.out).mono ?_
  rintro e w1 ⟨⟨n, rfl, hn0, hn1, hn2⟩, hb1⟩
  clear y00 y01 y02
  have hsw1 := hb1.size
  have HBw1 : Hid (Below w.heap.size w w1) := HBW0.out.trans (hb1.mono HBW0.out.size)
  have HV0 : Hid (Rv w1 (w.heap.size) (.string q) (.slice ao L.length cap) (.bool bad)) := HV0.out.below hb1
  clear HBW0
  clear hb1
  by_cases hneg : n < 0
  · clear hn2 C1 CS CI ER HT
    go_wp2_with fail
    go_ret
    exact ⟨rfl, HBw1.out⟩
  obtain ⟨hq20, hL20, _⟩ := hn2 (by omega)
  clear hn2 SZ
  have C1 := fun W h => C1.out hL20 W h
  have HC1 : Hid (type_of% C1) := C1
  clear C1
  have CS := CS.out hq20
  have ER := ER.out hL20
  have HCS : Hid (type_of% CS) := CS
  have HER : Hid (type_of% ER) := ER
  clear CS ER hq20
  have y00 := HV0.out.c0
  have y01 := HV0.out.c1
  have y02 := HV0.out.c2
  go_wp2_with fail
  go_at_call 29
  refine (HC1.out _ HBw1.out).mono ?_
  rintro e w2 ⟨a2, c2, rfl, hr2, hb2⟩
  clear y00 y01 y02
  have hsw2 := hb2.size
  have HBw2 : Hid (Below w.heap.size w w2) := HBw1.out.trans (hb2.mono HBw1.out.size)
  have HV0 : Hid (Rv w2 (w.heap.size) (.string q) (.slice ao L.length cap) (.bool bad)) := HV0.out.below hb2
  clear HBw1
  clear hb2
  go_wp2_with fail
  go_at_call 28
  refine (HCS.out _ _ (StAt.own hr2)).mono ?_
  rintro e w3 ⟨rfl, hb3⟩
  clear hr2
  have hsw3 := hb3.size
  have HBw3 : Hid (Below w.heap.size w w3) := HBw2.out.trans (hb3.mono HBw2.out.size)
  have HV0 : Hid (Rv w3 (w.heap.size) (.string q) (.slice ao L.length cap) (.bool bad)) := HV0.out.below hb3
  clear HBw2
  clear hb3
  have y00 := HV0.out.c0
  have y01 := HV0.out.c1
  have y02 := HV0.out.c2
  go_wp2_with fail
  go_at_call 29
  refine (HC1.out _ HBw3.out).mono ?_
  rintro e w4 ⟨a4, c4, rfl, hr4, hb4⟩
  clear y00 y01 y02
  have hsw4 := hb4.size
  have HBw4 : Hid (Below w.heap.size w w4) := HBw3.out.trans (hb4.mono HBw3.out.size)
  have HV0 : Hid (Rv w4 (w.heap.size) (.string q) (.slice ao L.length cap) (.bool bad)) := HV0.out.below hb4
  clear HBw3
  clear hb4
  have HRX : Hid (StRow w4 w3.heap.size (.slice a4 L.length c4) L) := hr4
  have HLX : Hid (∀ g, (.slice a4 L.length c4 : Value).ownBlock = some g → w3.heap.size ≤ g ∧ g < w4.heap.size) := fun g hg => World.ownsRow.lt hr4 g hg
  clear hr4
  obtain ⟨W8, hW8⟩ : ∃ X, X = w4.alloc (.cells #[.string q, .slice a4 L.length c4, .bool bad] 33) := ⟨_, rfl⟩
  have hbW8 : Below w4.heap.size w4 W8 := by rw [hW8]; exact (Below.refl _ _).alloc (Nat.le_refl _) _
  have hlW8 : w4.heap.size < W8.heap.size := by rw [hW8]; simp
  have hsW8 := hbW8.size
  have HBW8 : Hid (Below w.heap.size w W8) := HBw4.out.trans (hbW8.mono HBw4.out.size)
  have HV0 : Hid (Rv W8 (w.heap.size) (.string q) (.slice ao L.length cap) (.bool bad)) := HV0.out.below hbW8
  have HRX : Hid (StRow W8 w3.heap.size (.slice a4 L.length c4) L) := HRX.out.below hbW8
  clear HBw4
  have HV8 : Hid (Rv W8 (w4.heap.size) (.string q) (.slice a4 L.length c4) (.bool bad)) := by show Rv _ _ _ _ _; rw [hW8]; exact Rv.fresh w4 _ _ _ _
  clear hbW8
  go_upto_region 7 with fail
  rw [← hW8]
  clear hW8
  have y80 := HV8.out.c0
  have y81 := HV8.out.c1
  have y82 := HV8.out.c2
  go_wp2_with fail
  go_at_call 30
  refine (CI.out _ _ (StAt.own HRX.out)).mono ?_
  rintro e w5 ⟨rfl, hb5⟩
  clear y80 y81 y82
  have hsw5 := hb5.size
  have HBw5 : Hid (Below w.heap.size w w5) := HBW8.out.trans (hb5.mono HBW8.out.size)
  have HV0 : Hid (Rv w5 (w.heap.size) (.string q) (.slice ao L.length cap) (.bool bad)) := HV0.out.below hb5
  have HV8 : Hid (Rv w5 (w4.heap.size) (.string q) (.slice a4 L.length c4) (.bool bad)) := HV8.out.below hb5
  have HRX : Hid (StRow w5 w3.heap.size (.slice a4 L.length c4) L) := HRX.out.below hb5
  clear HBW8
  clear hb5
  go_upto_region 10 with fail
  have HBw5d : Hid (Below w.heap.size w w5.drew) := HBw5.out.drew
  have KD : Hid (∀ W, Below w5.heap.size w5 W → W.cell? ⟨w4.heap.size, 0, none⟩ = some (.string q) ∧ W.cell? ⟨w4.heap.size, 1, none⟩ = some (.slice a4 L.length c4) ∧ W.cell? ⟨w4.heap.size, 2, none⟩ = some (.bool bad) ∧ W.cell? ⟨w.heap.size, 0, none⟩ = some (.string q) ∧ W.cell? ⟨w.heap.size, 1, none⟩ = some (.slice ao L.length cap) ∧ W.cell? ⟨w.heap.size, 2, none⟩ = some (.bool bad)) := fun W hW => ⟨(HV8.out.below hW).c0, (HV8.out.below hW).c1, (HV8.out.below hW).c2, (HV0.out.below hW).c0, (HV0.out.below hW).c1, (HV0.out.below hW).c2⟩
  go_region_held3 (fun W => W.cell? ⟨w4.heap.size, 0, none⟩ = some (.string q) ∧ W.cell? ⟨w4.heap.size, 1, none⟩ = some (.slice a4 L.length c4) ∧ W.cell? ⟨w4.heap.size, 2, none⟩ = some (.bool bad) ∧ W.cell? ⟨w.heap.size, 0, none⟩ = some (.string q) ∧ W.cell? ⟨w.heap.size, 1, none⟩ = some (.slice ao L.length cap) ∧ W.cell? ⟨w.heap.size, 2, none⟩ = some (.bool bad)) (first | with_reducible exact KD.out _ (Below.refl _ w5).drew | with_reducible exact KD.out _ hbD | with_reducible exact KD.out _ hbE)
    (first | ((go_at_call 24; (with_reducible refine (HER.out _ _ _ (StAt.own HRXd.out) (StAt.own HRD.out)).mono ?_); rintro e w8 ⟨rfl, hbE0⟩; have hbE : Below w5.heap.size w5 w8 := hbD.trans (hbE0.mono hbD.size))) | ((go_at_call 29; (with_reducible refine (HC1.out _ HBw5d.out).mono ?_); rintro e w7 ⟨aD, cD, rfl, hrD, hbD0⟩; have hbD : Below w5.heap.size w5 w7 := (Below.refl _ w5).drew.trans (hbD0.mono (Nat.le_refl _)); have HRXd : Hid (StRow w7 (w3.heap.size) (.slice a4 L.length c4) L) := HRX.out.below hbD; have HRD : Hid (StRow w7 w5.drew.heap.size (.slice aD L.length cD) L) := hrD)))
  clear KD HRXd HRD hbD hbD0 hrD hbE0
  have hsw8 := hbE.size
  have HBw8 : Hid (Below w.heap.size w w8) := HBw5.out.trans (hbE.mono HBw5.out.size)
  have HV0 : Hid (Rv w8 (w.heap.size) (.string q) (.slice ao L.length cap) (.bool bad)) := HV0.out.below hbE
  have HV8 : Hid (Rv w8 (w4.heap.size) (.string q) (.slice a4 L.length c4) (.bool bad)) := HV8.out.below hbE
  have HRX : Hid (StRow w8 w3.heap.size (.slice a4 L.length c4) L) := HRX.out.below hbE
  clear HBw5
  clear hbE
  go_wp2_with fail
  go_ret
  exact ⟨rfl, HBw8.out⟩

namespace fnExactGoodReader
open Go.ChangeShapes Go.WideShapes Go.ChangeAt

theorem own : ownKnob Try.prog.godebug = none := by kernel_rfl
theorem laidOut : laidOutB Try.prog = true := by kernel_rfl

set_option maxRecDepth 100000 in
theorem lifted (os : Os) (started : os.Started) (H : Type) (enc : TypeId × Value → H) :
    ReturnsInHanded {} Try.checked os 7 .any (Rows.fnExactGoodReaderSpec.pre6 enc Try.prog Try.f7 Rows.fnExactGoodReaderRow.domain false) (Rows.fnExactGoodReaderSpec.post enc Try.prog Try.f7 false true false false) := by
  refine returnsInHanded_of_change (C := Try.checked) own started (by kernel_rfl) Try.func7
    (ChangeSpec.witness6 (enc := enc) (C := Try.checked) false ⟨#[], #[.agg #[.string ByteArray.empty, .slice none 0 0, .bool false]], []⟩ 8 (by kernel_rfl) (by kernel_rfl) (by kernel_rfl) (by kernel_rfl)) ?_
  intro W base args ds gs before hval0 hW hcnd _
  have hval : ∀ (j : Nat) t v, Try.f7.params[j]? = some t → args[j]? = some v → Value.okWide Try.prog W .any base t v := hval0
  have hW' := hW
  obtain ⟨p, q, hA0, hV, rfl, hfz, hnd⟩ := hW
  have hA : DataW.TrodAll enc Try.prog W 0 (fun _ => true) true Try.f7.params.toList args.toList ds p := hA0
  rw [Try.params7] at hA hval
  obtain ⟨v0, vs0, d0, ds0, p0, q0, hargs, rfl, rfl, h0, r0⟩ := trodAll_cons hA
  obtain ⟨rfl, rfl, rfl⟩ := trodAll_nil r0
  obtain rfl : args = #[v0] := by cases args; simp_all
  obtain ⟨rfl, rfl⟩ := trodVars_none hV
  have h0k := h0
  obtain ⟨R0, u0, rfl, hT0, hN0⟩ := open_reader (hval 0 38 v0 rfl rfl) h0
  clear hA0 hval0
  have hlt0 : ∀ x ∈ p0, x.block < W.heap.size := fun x hx => by
    have := hW'.lt x (by simp_all)
    simpa using this
  refine (walkFnExactGoodReader R0 u0 W hT0 hN0).mono fun e W' ⟨he, hg⟩ => ?_
  subst he
  exact ⟨_, rfl, _, _, _, [], _, [], hW', trodAll_mk1 (shut_bool Try.underlying4 _), (trodAll_cons_mk (Below.trod laidOut (by kernel_rfl) (of_decide_eq_true (by kernel_rfl)) h0k hg (fun x hx => hlt0 x hx)) trodAll_mk0), rfl, hg.frame _, fun h => by cases h⟩

theorem over : Rows.fnExactGoodReaderRow.holds Try.pinned (OpenSpec.ofChange Rows.fnExactGoodReaderSpec) :=
  OpenClaim.holds_of_wide 7 Try.f7 rfl rfl rfl rfl rfl rfl rfl ⟨rfl, rfl, rfl, rfl, rfl⟩ rfl rfl rfl rfl rfl (by kernel_rfl) Try.func7 (by kernel_rfl)
    (of_decide_eq_true (by kernel_rfl)) (by unfold Func.isWrapper; first | (rw [if_pos (by decide +kernel)]; kernel_rfl) | (rw [if_neg (by decide +kernel)]; exact ⟨rfl, rfl⟩))
    (fun os started H enc _ => lifted os started H enc)

end fnExactGoodReader

theorem fnExactGoodReader_holds : Rows.FnExactGoodReaderSaid := fnExactGoodReader.over
#print axioms fnExactGoodReader_holds
end Go.Proofs.Ytcpjbacjmmbabaa
