/- Proved here: at every argument the law FnExactCheckGrew answers true, that is, CheckGrew answers as its model, and it writes into nothing.
   Conditions: none beside the row's own. -/
import Derived.Test.YtlglngmlaknmlaaLgDb
import Derived.Test.YtlglngmlaknmlaaLgLa
import Derived.OpenShut
import Derived.ShutString
import Derived.ChangeMaps5
namespace Go.Proofs.Ytlglngmlaknmlaa
open Go.RowKit Plain Tpc Lgs

attribute [local go_sem ↓] Go.wp_at_zero Go.wp_at_succ

set_option maxRecDepth 100000 in
set_option maxHeartbeats 8000000 in
theorem walkFnExactCheckGrew (a b c : Int) (x : Int) (p : List Int) (v : Value) (w : World) (hp : ZAt w w.heap.size v p) :
    Calls Try.prog 10 #[.int .i64 a, .int .i64 b, .int .i64 c, .int .i64 x, .agg #[v]] w fun e w' => e = .returned (.bool true) ∧ Below w.heap.size w w' := by
  have HP : Hid (ZAt w w.heap.size v p) := hp
  obtain ⟨ao, cap, rfl, _⟩ := hp
  obtain ⟨W0, hW0⟩ : ∃ W, W = w.alloc (.cells #[.slice ao p.length cap] 43) := ⟨_, rfl⟩
  have hB0 : Below w.heap.size w W0 := by rw [hW0]; exact (Below.refl _ w).alloc (Nat.le_refl _) _
  have hs0 : Hid (W0.heap.size = w.heap.size + 1) := by show _ = _; rw [hW0]; simp
  have X0 : Hid (W0.cell? ⟨w.heap.size, 0, none⟩ = some (.slice ao p.length cap)) := by show _ = _; rw [hW0]; go_simp
  have K0 : Hid (∀ W : World, Below W0.heap.size W0 W → W.cell? ⟨w.heap.size, 0, none⟩ = some (.slice ao p.length cap) ∧ Below w.heap.size w W ∧ w.heap.size < W.heap.size) := fun W hW => ⟨(hW.cell (p := ⟨w.heap.size, 0, none⟩) (by show w.heap.size < W0.heap.size; have := hs0.out; omega)).trans X0.out, hB0.trans (hW.mono hB0.size), by have h1 := hW.size; have h2 := hs0.out; omega⟩
  have TO : Hid (p.length ≤ 1048576 → ∀ W : World, Below W0.heap.size W0 W → Calls Try.prog 32 #[.agg #[.slice ao p.length cap]] W fun e w' => ∃ a c, e = .returned (.agg #[.slice a p.length c]) ∧ ZRow w' W.heap.size (.slice a p.length c) p ∧ Below W.heap.size W w') := fun hl W hW => toProof_any p _ W (HP.out.below (K0.out _ hW).2.1) hl
  have CS : Hid (∀ (W : World) (v : Value), ZAt W W.heap.size v p → Calls Try.prog 36 #[.int .i64 a, .int .i64 b, .int .i64 c, .int .i64 x, .agg #[v]] W fun e w' => e = .returned (.tuple #[.bool (cgr a b c x p).1, .bool (cgr a b c x p).2]) ∧ Below W.heap.size W w') := fun W v h => specCheckGrew a b c x p v W h
  have CI : Hid (∀ (W : World) (v : Value), ZAt W W.heap.size v p → Calls Try.prog 37 #[.int .i64 a, .int .i64 b, .int .i64 c, .int .i64 x, .agg #[v]] W fun e w' => e = .returned (.tuple #[.bool (cgr a b c x p).1, .bool (cgr a b c x p).2]) ∧ Below W.heap.size W w') := fun W v h => implCheckGrew a b c x p v W h
  generalize cgr a b c x p = R at CS CI
  obtain ⟨y, ok⟩ := R
  dsimp only at CS CI
  have ny : (y != y) = false := bne_self_eq_false y
  have nok : (ok != ok) = false := bne_self_eq_false ok
  have k0 := K0.out _ (Below.refl _ _)
  have y0 := k0.1
  have l0 := k0.2.2
  have SZ : Hid (Calls Try.prog 30 #[.agg #[.slice ao p.length cap], .int .i64 1048576] W0 fun e w' => (∃ r : Int, e = .returned (.int .i64 r) ∧ r ≤ 1048576 ∧ (0 ≤ r → p.length ≤ 1048576)) ∧ Below W0.heap.size W0 w') := szProof_left p _ W0 (HP.out.below hB0)
  clear k0
  go_enter Try.func10, Try.ntmps10
  go_upto_region 1 with fail
  rw [← hW0]
  clear hW0
  go_wp2_with fail
  go_at_call 30
  refine SZ.out.mono ?_
  rintro e w1 ⟨⟨r, rfl, hr1, hr2⟩, hb1⟩
  have k1 := K0.out _ hb1
  by_cases hneg : r < 0
  · have hB := k1.2.1
    clear hr2 k1 hb1
    go_wp2
    go_ret
    exact ⟨rfl, hB⟩
  have hlen : p.length ≤ 1048576 := hr2 (by omega)
  have HB1 : Hid (Below W0.heap.size W0 w1) := hb1
  have y1 := k1.1
  have l1 := k1.2.2
  clear hr2 hb1 k1 SZ y0 l0
  go_wp2_with fail
  go_at_call 32
  refine (TO.out hlen _ HB1.out).mono ?_
  rintro e w2 ⟨a2, c2, rfl, hz2, hb2⟩
  have HZ2 : Hid (ZAt w2 w2.heap.size (.slice a2 p.length c2) p) := ZAt.own hz2
  have HB2 : Hid (Below W0.heap.size W0 w2) := HB1.out.trans (hb2.mono HB1.out.size)
  clear hz2 hb2 HB1 y1 l1
  go_wp2_with fail
  go_at_call 36
  refine (CS.out _ _ HZ2.out).mono ?_
  rintro e w3 ⟨rfl, hb3⟩
  have HB3 : Hid (Below W0.heap.size W0 w3) := HB2.out.trans (hb3.mono HB2.out.size)
  have k3 := K0.out _ HB3.out
  have y3 := k3.1
  have l3 := k3.2.2
  clear hb3 HZ2 HB2 CS k3
  go_wp2_with fail
  go_at_call 32
  refine (TO.out hlen _ HB3.out).mono ?_
  rintro e w4 ⟨a4, c4, rfl, hz4, hb4⟩
  obtain ⟨U, hU⟩ : ∃ W, W = w4.alloc (.cells #[.slice a4 p.length c4] 37) := ⟨_, rfl⟩
  have hBU : Below w4.heap.size w4 U := by rw [hU]; exact (Below.refl _ w4).alloc (Nat.le_refl _) _
  have HB4 : Hid (Below W0.heap.size W0 w4) := HB3.out.trans (hb4.mono HB3.out.size)
  have HBU : Hid (Below W0.heap.size W0 U) := HB4.out.trans (hBU.mono HB4.out.size)
  have HZU : Hid (ZAt U U.heap.size (.slice a4 p.length c4) p) := ZAt.own (hz4.below hBU)
  have XU : Hid (U.cell? ⟨w4.heap.size, 0, none⟩ = some (.slice a4 p.length c4) ∧ w4.heap.size < U.heap.size) := by
    refine ⟨?_, ?_⟩
    · rw [hU]; go_simp
    · rw [hU]; simp
  have KU : Hid (∀ W : World, Below U.heap.size U W → (W.cell? ⟨w4.heap.size, 0, none⟩ = some (.slice a4 p.length c4) ∧ W.cell? ⟨w.heap.size, 0, none⟩ = some (.slice ao p.length cap)) ∧ ZAt W W.heap.size (.slice a4 p.length c4) p ∧ Below W0.heap.size W0 W ∧ w4.heap.size < W.heap.size) := fun W hW => by
    have hB : Below W0.heap.size W0 W := HBU.out.trans (hW.mono HBU.out.size)
    exact ⟨⟨(hW.cell (p := ⟨w4.heap.size, 0, none⟩) XU.out.2).trans XU.out.1, (K0.out _ hB).1⟩, HZU.out.below hW, hB, Nat.lt_of_lt_of_le XU.out.2 hW.size⟩
  have yu := XU.out.1
  have lu := XU.out.2
  clear hz4 hb4 HB3 y3 l3 hBU HB4 XU
  go_upto_region 7 with fail
  rw [← hU]
  clear hU
  go_wp2_with fail
  go_at_call 37
  refine (CI.out _ _ HZU.out).mono ?_
  rintro e w5 ⟨rfl, hb5⟩
  have HB5 : Hid (Below U.heap.size U w5) := hb5
  clear hb5 CI HZU yu lu
  go_upto_region 10 with fail
  have hSd := (KU.out _ HB5.out.drew).1
  have EQ : Hid (∀ (W : World) (v1 v2 : Value), ZAt W W.heap.size v1 p → ZAt W W.heap.size v2 p → Calls Try.prog 26 #[.agg #[v1], .agg #[v2]] W fun e w' => e = .returned (.bool true) ∧ Below W.heap.size W w') := fun W v1 v2 h1 h2 => eqProof_same p v1 v2 W h1 h2 (by omega)
  have HT5 : Hid (Calls Try.prog 32 #[.agg #[.slice ao p.length cap]] w5.drew fun e w' => ∃ a c, e = .returned (.agg #[.slice a p.length c]) ∧ ZRow w' w5.drew.heap.size (.slice a p.length c) p ∧ Below w5.drew.heap.size w5.drew w') := TO.out hlen _ (KU.out _ HB5.out.drew).2.2.1
  go_region_held3 (fun W => W.cell? ⟨w4.heap.size, 0, none⟩ = some (.slice a4 p.length c4) ∧ W.cell? ⟨w.heap.size, 0, none⟩ = some (.slice ao p.length cap))
    (first
      | with_reducible exact hS7
      | with_reducible exact hS6
      | with_reducible exact hSd)
    (first
      | (go_at_call 26; (with_reducible refine (EQ.out w6 _ _ (KU.out _ HB6.out).2.1 (ZAt.own HZ6.out)).mono ?_); rintro e w7 ⟨rfl, hb7⟩; have HB7 : Hid (Below U.heap.size U w7) := HB6.out.trans (hb7.mono HB6.out.size); have hS7 := (KU.out _ HB7.out).1)
      | (go_at_call 32; (with_reducible refine HT5.out.mono ?_); rintro e w6 ⟨a6, c6, rfl, hz6, hb6⟩; have HB6 : Hid (Below U.heap.size U w6) := HB5.out.drew.trans (hb6.mono HB5.out.drew.size); have HZ6 : Hid (ZRow w6 w5.drew.heap.size (.slice a6 p.length c6) p) := hz6; have hS6 := (KU.out _ HB6.out).1))
  all_goals
    have hBE := (K0.out _ (KU.out _ HB7.out).2.2.1).2.1
    go_wp2
    go_ret
    exact ⟨rfl, hBE⟩

namespace fnExactCheckGrew
open Go.ChangeShapes Go.WideShapes Go.ChangeAt

theorem own : ownKnob Try.prog.godebug = none := by kernel_rfl
theorem laidOut : laidOutB Try.prog = true := by kernel_rfl

set_option maxRecDepth 100000 in
theorem lifted (os : Os) (started : os.Started) (H : Type) (enc : TypeId × Value → H) :
    ReturnsInHanded {} Try.checked os 10 .any (Rows.fnExactCheckGrewSpec.pre6 enc Try.prog Try.f10 Rows.fnExactCheckGrewRow.domain false) (Rows.fnExactCheckGrewSpec.post enc Try.prog Try.f10 false true false false) := by
  refine returnsInHanded_of_change (C := Try.checked) own started (by kernel_rfl) Try.func10
    (ChangeSpec.witness6 (enc := enc) (C := Try.checked) false ⟨#[], #[.int .i64 0, .int .i64 0, .int .i64 0, .int .i64 0, .agg #[.slice none 0 0]], []⟩ 8 (by kernel_rfl) (by kernel_rfl) (by kernel_rfl) (by kernel_rfl)) ?_
  intro W base args ds gs before hval0 hW hcnd _
  have hval : ∀ (j : Nat) t v, Try.f10.params[j]? = some t → args[j]? = some v → Value.okWide Try.prog W .any base t v := hval0
  have hW' := hW
  obtain ⟨p, q, hA0, hV, rfl, hfz, hnd⟩ := hW
  have hA : DataW.TrodAll enc Try.prog W 0 (fun _ => true) true Try.f10.params.toList args.toList ds p := hA0
  rw [Try.params10] at hA hval
  obtain ⟨v0, vs0, d0, ds0, p0, q0, hargs, rfl, rfl, h0, r0⟩ := trodAll_cons hA
  obtain ⟨v1, vs1, d1, ds1, p1, q1, rfl, rfl, rfl, h1, r1⟩ := trodAll_cons r0
  obtain ⟨v2, vs2, d2, ds2, p2, q2, rfl, rfl, rfl, h2, r2⟩ := trodAll_cons r1
  obtain ⟨v3, vs3, d3, ds3, p3, q3, rfl, rfl, rfl, h3, r3⟩ := trodAll_cons r2
  obtain ⟨v4, vs4, d4, ds4, p4, q4, rfl, rfl, rfl, h4, r4⟩ := trodAll_cons r3
  obtain ⟨rfl, rfl, rfl⟩ := trodAll_nil r4
  obtain rfl : args = #[v0, v1, v2, v3, v4] := by cases args; simp_all
  obtain ⟨rfl, rfl⟩ := trodVars_none hV
  have h4k := h4
  obtain ⟨a, rfl, rfl, rfl, wa⟩ := open_int Try.underlying3 (hval 0 3 v0 rfl rfl) h0
  obtain ⟨b, rfl, rfl, rfl, wb⟩ := open_int Try.underlying3 (hval 1 3 v1 rfl rfl) h1
  obtain ⟨c, rfl, rfl, rfl, wc⟩ := open_int Try.underlying3 (hval 2 3 v2 rfl rfl) h2
  obtain ⟨x, rfl, rfl, rfl, hx⟩ := open_int Try.underlying3 (hval 3 3 v3 rfl rfl) h3
  obtain ⟨v, l, rfl, hl⟩ := open_proof (hval 4 43 v4 rfl rfl) h4
  clear hA0 hval0
  have hlt : ∀ x ∈ p4, x.block < W.heap.size := fun x hx => by
    have := hW'.lt x (by simp_all)
    simpa using this
  refine (walkFnExactCheckGrew a b c x l v W hl).mono fun e W' ⟨he, hg⟩ => ?_
  subst he
  exact ⟨_, rfl, _, _, _, [], _, [], hW', trodAll_mk1 (shut_bool Try.underlying4 _), (trodAll_cons_mk (shut_int Try.underlying3 wa) (trodAll_cons_mk (shut_int Try.underlying3 wb) (trodAll_cons_mk (shut_int Try.underlying3 wc) (trodAll_cons_mk (shut_int Try.underlying3 hx) (trodAll_cons_mk (Below.trod laidOut (by kernel_rfl) (of_decide_eq_true (by kernel_rfl)) h4k hg hlt) trodAll_mk0))))), rfl, hg.frame _, fun h => by cases h⟩

theorem over : Rows.fnExactCheckGrewRow.holds Try.pinned (OpenSpec.ofChange Rows.fnExactCheckGrewSpec) :=
  OpenClaim.holds_of_wide 10 Try.f10 rfl rfl rfl rfl rfl rfl rfl ⟨rfl, rfl, rfl, rfl, rfl⟩ rfl rfl rfl rfl rfl (by kernel_rfl) Try.func10 (by kernel_rfl)
    (of_decide_eq_true (by kernel_rfl)) (by unfold Func.isWrapper; first | (rw [if_pos (by decide +kernel)]; kernel_rfl) | (rw [if_neg (by decide +kernel)]; exact ⟨rfl, rfl⟩))
    (fun os started H enc _ => lifted os started H enc)

end fnExactCheckGrew

theorem fnExactCheckGrew_holds : Rows.FnExactCheckGrewSaid := fnExactCheckGrew.over
#print axioms fnExactCheckGrew_holds
end Go.Proofs.Ytlglngmlaknmlaa
