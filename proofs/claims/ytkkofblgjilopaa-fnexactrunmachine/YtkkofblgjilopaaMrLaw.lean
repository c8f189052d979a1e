/- Proved here: at every argument the law FnExactRunMachine answers true, that is, RunMachine answers as its model and it writes into nothing.
   Conditions: none beside the row's own. -/
import Derived.Test.YtkkofblgjilopaaMcR
import Derived.Test.YtkkofblgjilopaaMcO
import Derived.ShutString
import Derived.ChangeMaps5
namespace Go.Proofs.Ytkkofblgjilopaa
open Go.RowKit Plain Mch

set_option maxRecDepth 100000 in
set_option maxHeartbeats 8000000 in
theorem walkFnExactRunMachine (MA : List (List Int)) (EA : List Bool) (vA eA : Value) (s : ByteArray) (hs : s.size ≤ maxLen) (w : World) (hMA : MAt w w.heap.size vA MA) (hEA : EAt w w.heap.size eA EA) :
    Calls Try.prog 4 #[.agg #[vA, eA], .string s] w fun e w' => e = .returned (.bool true) ∧ Below w.heap.size w w' := by
  have HMA : Hid (MAt w w.heap.size vA MA) := hMA
  have HEA : Hid (EAt w w.heap.size eA EA) := hEA
  obtain ⟨aoA, capA, rfl, _⟩ := hMA
  obtain ⟨aeA, ceA, rfl, _⟩ := hEA
  obtain ⟨W1, hW1⟩ : ∃ W, W = w.alloc (.cells #[.slice aoA MA.length capA, .slice aeA EA.length ceA] 25) := ⟨_, rfl⟩
  have hB : Below w.heap.size w W1 := by rw [hW1]; exact (Below.refl _ w).alloc (Nat.le_refl _) _
  have qvA : W1.cell? ⟨w.heap.size, 0, none⟩ = some (.slice aoA MA.length capA) := by rw [hW1]; go_simp
  have qeA : W1.cell? ⟨w.heap.size, 1, none⟩ = some (.slice aeA EA.length ceA) := by rw [hW1]; go_simp
  have lA : w.heap.size < W1.heap.size := by rw [hW1]; simp
  go_enter Try.func4, Try.ntmps4
  by_cases hbigS : (1048576 : Int) < (s.size : Int)
  · go_wp2
    rw [← hW1]
    go_ret
    exact ⟨rfl, hB⟩
  have hsS : s.size ≤ 1048576 := by omega
  go_wp2_with fail
  rw [← hW1]
  clear hW1
  refine (szMach_left MA EA _ _ 1048576 _ (HMA.out.below hB) (HEA.out.below hB) (by omega) (by omega)).mono ?_
  rintro e w2 ⟨⟨rA, rfl, hr0A, hr1A, hr2A⟩, hb⟩
  replace qvA := (hb.cell (p := ⟨w.heap.size, 0, none⟩) lA).trans qvA
  replace qeA := (hb.cell (p := ⟨w.heap.size, 1, none⟩) lA).trans qeA
  replace hB : Below w.heap.size w w2 := hB.trans (hb.mono hB.size)
  replace lA : w.heap.size < w2.heap.size := by have := hb.size; omega
  clear hb
  by_cases hnegA : rA < 0
  · clear hr2A
    go_wp2
    go_ret
    exact ⟨rfl, hB⟩
  obtain ⟨hlA, hpA, hleA⟩ := hr2A (by omega)
  clear hr2A
  have HPA : Hid (pm MA MA.length ≤ 1048576) := hpA
  clear hpA
  have hllA : Hid (∀ i, i < MA.length → (rx MA i).length ≤ 1048576) := fun i hi => Nat.le_trans (pm_each hi) HPA.out
  have TMA : Hid (∀ W : World, Below w.heap.size w W → Calls Try.prog 14 #[.agg #[.slice aoA MA.length capA, .slice aeA EA.length ceA]] W fun e w' => ∃ a c b d, e = .returned (.agg #[.slice a MA.length c, .slice b EA.length d]) ∧ (∃ us, MaOwn w' W.heap.size (.slice a MA.length c) (.slice b EA.length d) MA EA us) ∧ Below W.heap.size W w') := fun W hW => by
    refine (toMach_any MA EA _ _ W (HMA.out.below hW) (HEA.out.below hW) hlA hllA.out hleA).mono ?_
    rintro e w' ⟨⟨r1, r2, rfl, us, ho⟩, hb⟩
    obtain ⟨a, c, rfl⟩ := ho.1.slice
    obtain ⟨b, d, rfl⟩ := ERow.slice ho.2.1
    exact ⟨a, c, b, d, rfl, ⟨us, ho⟩, hb⟩
  have EMA : Hid (∀ (W : World) (v1 v2 e1 e2 : Value), MAt W W.heap.size v1 MA → MAt W W.heap.size v2 MA → EAt W W.heap.size e1 EA → EAt W W.heap.size e2 EA → Calls Try.prog 16 #[.agg #[v1, e1], .agg #[v2, e2]] W fun e w' => e = .returned (.bool true) ∧ Below W.heap.size W w') := fun W v1 v2 e1 e2 h1 h2 h3 h4 => eqMach_same MA EA v1 v2 e1 e2 W h1 h2 h3 h4 (by omega) (fun i hi => by have := hllA.out i hi; omega) (by omega)
  obtain ⟨b1, hb1⟩ : ∃ bb, bb = rto MA EA s := ⟨_, rfl⟩
  obtain ⟨b2, hb2⟩ : ∃ bb, bb = rok MA EA s := ⟨_, rfl⟩
  have CS : Hid (∀ (W : World) (vA eA : Value), MAt W W.heap.size vA MA → EAt W W.heap.size eA EA → Calls Try.prog 17 #[.agg #[vA, eA], .string s] W fun e w' => e = .returned (.tuple #[.bool b1, .bool b2]) ∧ Below W.heap.size W w') := fun W vA eA hA gA => by rw [hb1, hb2]; exact specRunM MA EA vA eA s W hA gA hs
  have CI : Hid (∀ (W : World) (vA eA : Value), MAt W W.heap.size vA MA → EAt W W.heap.size eA EA → Calls Try.prog 18 #[.agg #[vA, eA], .string s] W fun e w' => e = .returned (.tuple #[.bool b1, .bool b2]) ∧ Below W.heap.size W w') := fun W vA eA hA gA => by rw [hb1, hb2]; exact implRunM MA EA vA eA s W hA gA hs
  clear hb1 hb2
  clear HMA HEA
  go_wp2_with fail
  refine (TMA.out _ hB).mono ?_
  rintro e w3 ⟨a3, c3, b3, d3, rfl, ⟨us3, ho3⟩, hb⟩
  have HXM : Hid (MAt w3 w3.heap.size (.slice a3 MA.length c3) MA) := ho3.1.at
  have HXE : Hid (EAt w3 w3.heap.size (.slice b3 EA.length d3) EA) := EAt.own ho3.2.1
  clear ho3
  replace qvA := (hb.cell (p := ⟨w.heap.size, 0, none⟩) lA).trans qvA
  replace qeA := (hb.cell (p := ⟨w.heap.size, 1, none⟩) lA).trans qeA
  replace hB : Below w.heap.size w w3 := hB.trans (hb.mono hB.size)
  replace lA : w.heap.size < w3.heap.size := by have := hb.size; omega
  clear hb
  go_wp2_with fail
  refine (CS.out _ _ _ HXM.out HXE.out).mono ?_
  rintro e w4 ⟨rfl, hb⟩
  clear HXM HXE
  replace qvA := (hb.cell (p := ⟨w.heap.size, 0, none⟩) lA).trans qvA
  replace qeA := (hb.cell (p := ⟨w.heap.size, 1, none⟩) lA).trans qeA
  replace hB : Below w.heap.size w w4 := hB.trans (hb.mono hB.size)
  replace lA : w.heap.size < w4.heap.size := by have := hb.size; omega
  clear hb CS
  go_wp2_with fail
  refine (TMA.out _ hB).mono ?_
  rintro e w5 ⟨a5, c5, b5, d5, rfl, ⟨us5, ho5⟩, hb⟩
  have HXO : Hid (MaOwn w5 w4.heap.size (.slice a5 MA.length c5) (.slice b5 EA.length d5) MA EA us5) := ho5
  clear ho5
  have hsb : w4.heap.size ≤ w5.heap.size := hb.size
  replace qvA := (hb.cell (p := ⟨w.heap.size, 0, none⟩) lA).trans qvA
  replace qeA := (hb.cell (p := ⟨w.heap.size, 1, none⟩) lA).trans qeA
  replace hB : Below w.heap.size w w5 := hB.trans (hb.mono hB.size)
  replace lA : w.heap.size < w5.heap.size := by have := hb.size; omega
  clear hb
  obtain ⟨W6, hW6⟩ : ∃ W, W = w5.alloc (.cells #[.slice a5 MA.length c5, .slice b5 EA.length d5] 28) := ⟨_, rfl⟩
  have hb : Below w5.heap.size w5 W6 := by rw [hW6]; exact (Below.refl _ _).alloc (Nat.le_refl _) _
  have lx : w5.heap.size < W6.heap.size := by rw [hW6]; simp
  have xxv : W6.cell? ⟨w5.heap.size, 0, none⟩ = some (.slice a5 MA.length c5) := by rw [hW6]; go_simp
  have xxe : W6.cell? ⟨w5.heap.size, 1, none⟩ = some (.slice b5 EA.length d5) := by rw [hW6]; go_simp
  replace qvA := (hb.cell (p := ⟨w.heap.size, 0, none⟩) lA).trans qvA
  replace qeA := (hb.cell (p := ⟨w.heap.size, 1, none⟩) lA).trans qeA
  have HXO' : Hid (MaOwn W6 w4.heap.size (.slice a5 MA.length c5) (.slice b5 EA.length d5) MA EA us5) := HXO.out.below hb
  clear HXO
  have HXO := HXO'
  clear HXO'
  replace hB : Below w.heap.size w W6 := hB.trans (hb.mono hB.size)
  replace lA : w.heap.size < W6.heap.size := by have := hb.size; omega
  clear hb
  replace hsb : w4.heap.size ≤ W6.heap.size := by omega
  go_wp2_with fail
  rw [← hW6]
  clear hW6
  refine (CI.out _ _ _ HXO.out.1.at (EAt.own HXO.out.2.1)).mono ?_
  rintro e w7 ⟨rfl, hb⟩
  replace qvA := (hb.cell (p := ⟨w.heap.size, 0, none⟩) lA).trans qvA
  replace qeA := (hb.cell (p := ⟨w.heap.size, 1, none⟩) lA).trans qeA
  replace xxv := (hb.cell (p := ⟨w5.heap.size, 0, none⟩) lx).trans xxv
  replace xxe := (hb.cell (p := ⟨w5.heap.size, 1, none⟩) lx).trans xxe
  have HXO' : Hid (MaOwn w7 w4.heap.size (.slice a5 MA.length c5) (.slice b5 EA.length d5) MA EA us5) := HXO.out.below hb
  clear HXO
  have HXO := HXO'
  clear HXO'
  replace hB : Below w.heap.size w w7 := hB.trans (hb.mono hB.size)
  replace lA : w.heap.size < w7.heap.size := by have := hb.size; omega
  replace lx : w5.heap.size < w7.heap.size := by have := hb.size; omega
  replace hsb : w4.heap.size ≤ w7.heap.size := by have := hb.size; omega
  clear hb
  have hBd : Hid (Below w.heap.size w w7.drew) := hB.drew
  go_wp2_with fail
  go_region_with (first
    | (go_at_call 14; refine (TMA.out _ hBd.out).mono ?_; rintro e w8 ⟨a8, c8, b8, d8, rfl, ⟨us8, ho8⟩, hbt⟩; have xcv := (hbt.cell (p := ⟨w5.heap.size, 0, none⟩) lx).trans xxv; have xce := (hbt.cell (p := ⟨w5.heap.size, 1, none⟩) lx).trans xxe; have hxo : MaOwn w8 w4.heap.size (.slice a5 MA.length c5) (.slice b5 EA.length d5) MA EA us5 := HXO.out.below (⟨hbt.os, hbt.tape, hbt.output, hbt.size, hbt.block⟩ : Below w7.heap.size w7 w8))
    | (go_at_call 16; refine (EMA.out _ _ _ _ _ hxo.1.at ho8.1.at (EAt.own hxo.2.1) (EAt.own ho8.2.1)).mono ?_; rintro e w9 ⟨rfl, hbu⟩))
  all_goals
    have hb : Below w7.heap.size w7 w9 := (⟨hbt.os, hbt.tape, hbt.output, hbt.size, hbt.block⟩ : Below w7.heap.size w7 w8).trans (hbu.mono hbt.size)
    clear hbt hbu ho8 hxo xcv xce hBd
    replace hB : Below w.heap.size w w9 := hB.trans (hb.mono hB.size)
    go_wp2
    go_ret
    exact ⟨rfl, hB⟩

namespace fnExactRunMachine
open Go.ChangeShapes Go.WideShapes Go.ChangeAt

theorem own : ownKnob Try.prog.godebug = none := by kernel_rfl
theorem laidOut : laidOutB Try.prog = true := by kernel_rfl

set_option maxRecDepth 100000 in
theorem lifted (os : Os) (started : os.Started) (H : Type) (enc : TypeId × Value → H) :
    ReturnsInHanded {} Try.checked os 4 .any (Rows.fnExactRunMachineSpec.pre6 enc Try.prog Try.f4 Rows.fnExactRunMachineRow.domain false) (Rows.fnExactRunMachineSpec.post enc Try.prog Try.f4 false true false false) := by
  refine returnsInHanded_of_change (C := Try.checked) own started (by kernel_rfl) Try.func4
    (ChangeSpec.witness6 (enc := enc) (C := Try.checked) false ⟨#[], #[.agg #[.slice none 0 0, .slice none 0 0], .string ByteArray.empty], []⟩ 8 (by kernel_rfl) (by kernel_rfl) (by kernel_rfl) (by kernel_rfl)) ?_
  intro W base args ds gs before hval0 hW hcnd _
  have hval : ∀ (j : Nat) t v, Try.f4.params[j]? = some t → args[j]? = some v → Value.okWide Try.prog W .any base t v := hval0
  have hW' := hW
  obtain ⟨p, q, hA0, hV, rfl, hfz, hnd⟩ := hW
  have hA : DataW.TrodAll enc Try.prog W 0 (fun _ => true) true Try.f4.params.toList args.toList ds p := hA0
  rw [Try.params4] at hA hval
  obtain ⟨v0, vs0, d0, ds0, p0, q0, hargs, rfl, rfl, h0, r0⟩ := trodAll_cons hA
  obtain ⟨v1, vs1, d1, ds1, p1, q1, rfl, rfl, rfl, h1, r1⟩ := trodAll_cons r0
  obtain ⟨rfl, rfl, rfl⟩ := trodAll_nil r1
  obtain rfl : args = #[v0, v1] := by cases args; simp_all
  obtain ⟨rfl, rfl⟩ := trodVars_none hV
  have h0k := h0
  obtain ⟨uA, yA, MA, EA, rfl, hMA, hEA⟩ := open_mach (hval 0 25 v0 rfl rfl) h0
  obtain ⟨s, rfl, rfl, rfl, hs⟩ := ChangeMaps.open_string Try.underlying9 (hval 1 9 v1 rfl rfl) h1
  clear hA0 hval0
  have hlt0 : ∀ x ∈ p0, x.block < W.heap.size := fun x hx => by
    have := hW'.lt x (by simp_all)
    simpa using this
  refine (walkFnExactRunMachine MA EA uA yA s hs W hMA hEA).mono fun e W' ⟨he, hg⟩ => ?_
  subst he
  exact ⟨_, rfl, _, _, _, [], _, [], hW', trodAll_mk1 (shut_bool Try.underlying4 _), (trodAll_cons_mk (Below.trod laidOut (by kernel_rfl) (of_decide_eq_true (by kernel_rfl)) h0k hg hlt0) (trodAll_cons_mk (ChangeMaps.shut_string Try.underlying9 hs) trodAll_mk0)), rfl, hg.frame _, fun h => by cases h⟩

theorem over : Rows.fnExactRunMachineRow.holds Try.pinned (OpenSpec.ofChange Rows.fnExactRunMachineSpec) :=
  OpenClaim.holds_of_wide 4 Try.f4 rfl rfl rfl rfl rfl rfl rfl ⟨rfl, rfl, rfl, rfl, rfl⟩ rfl rfl rfl rfl rfl (by kernel_rfl) Try.func4 (by kernel_rfl)
    (of_decide_eq_true (by kernel_rfl)) (by unfold Func.isWrapper; first | (rw [if_pos (by decide +kernel)]; kernel_rfl) | (rw [if_neg (by decide +kernel)]; exact ⟨rfl, rfl⟩))
    (fun os started H enc _ => lifted os started H enc)

end fnExactRunMachine

theorem fnExactRunMachine_holds : Rows.FnExactRunMachineSaid := fnExactRunMachine.over
#print axioms fnExactRunMachine_holds
end Go.Proofs.Ytkkofblgjilopaa
