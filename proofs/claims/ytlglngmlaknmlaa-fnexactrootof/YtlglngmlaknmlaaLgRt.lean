/- Proved here: at every list of texts the law FnExactRootOf answers true, that is, RootOf answers as its model, and it writes into nothing.
   Conditions: none beside the row's own. -/
import Derived.Test.YtlglngmlaknmlaaLgS
import Derived.OpenShut
import Derived.ShutString
import Derived.ChangeMaps5
namespace Go.Proofs.Ytlglngmlaknmlaa
open Go.RowKit Plain Tpc Lgs

set_option maxRecDepth 100000 in
set_option maxHeartbeats 4000000 in
theorem walkFnExactRootOf (T : List ByteArray) (v : Value) (w : World) (hT : StAt w w.heap.size v T) (hN : ∀ i, i < T.length → (lq T i).size ≤ 9223372036854775807) :
    Calls Try.prog 6 #[v] w fun e w' => e = .returned (.bool true) ∧ Below w.heap.size w w' := by
  have HT : Hid (StAt w w.heap.size v T) := hT
  have HN : Hid (∀ i, i < T.length → (lq T i).size ≤ 9223372036854775807) := hN
  obtain ⟨ao, cap, rfl, _⟩ := hT
  clear hN
  go_enter Try.func6, Try.ntmps6
  go_wp2_with fail
  refine (szTexts_left T _ 1048576 _ HT.out HN.out (by omega) (by omega)).mono ?_
  rintro e w2 ⟨⟨r, rfl, hr0, hr1, hr2⟩, rfl⟩
  by_cases hneg : r < 0
  · clear hr2
    go_wp2
    go_ret
    exact ⟨rfl, Below.refl _ _⟩
  have hlen := (hr2 (by omega)).1
  clear hr2
  have C1 : Hid (∀ W : World, Below w2.heap.size w2 W → Calls Try.prog 21 #[.slice ao T.length cap] W fun e w' => ∃ ar capr, e = .returned (.slice ar T.length capr) ∧ StAt w' w'.heap.size (.slice ar T.length capr) T ∧ Below W.heap.size W w') := fun W hW => by
    refine (toTexts_any T _ W (HT.out.below hW) hlen).mono ?_
    rintro e w' ⟨r, rfl, ho, hb⟩
    have ht := StAt.own ho
    obtain ⟨ar, capr, rfl⟩ := ho.slice
    exact ⟨ar, capr, rfl, ht, hb⟩
  have C2 : Hid (∀ (W : World) (v1 v2 : Value), StAt W W.heap.size v1 T → StAt W W.heap.size v2 T → Calls Try.prog 23 #[v1, v2] W fun e w' => e = .returned (.bool true) ∧ Below W.heap.size W w') := fun W v1 v2 h1 h2 => eqTexts_same T v1 v2 W h1 h2 (by omega)
  have CS : Hid (∀ (W : World) (v : Value), StAt W W.heap.size v T → Calls Try.prog 20 #[v] W fun e w' => e = .returned (.tuple #[.int .i64 (if lok T then ((root T : Nat) : Int) else 0), .bool (lok T)]) ∧ ∃ m, w' = W.drewN m) := fun W v h => specRoot T v W h
  have CI : Hid (∀ (W : World) (v : Value), StAt W W.heap.size v T → Calls Try.prog 22 #[v] W fun e w' => e = .returned (.tuple #[.int .i64 (if lok T then ((root T : Nat) : Int) else 0), .bool (lok T)]) ∧ ∃ m, w' = W.drewN m) := fun W v h => implRoot T v W h HN.out
  generalize (if lok T then ((root T : Nat) : Int) else 0) = R at CS CI
  generalize lok T = ok at CS CI
  go_wp2_with fail
  refine (C1.out _ (Below.refl _ _)).mono ?_
  rintro e w3 ⟨a3, cap3, rfl, ht3, hb3⟩
  have HB3 : Hid (Below w2.heap.size w2 w3) := hb3
  have HT3 : Hid (StAt w3 w3.heap.size (.slice a3 T.length cap3) T) := ht3
  clear hb3 ht3
  go_wp2_with fail
  refine (CS.out _ _ HT3.out).mono ?_
  rintro e w4 ⟨rfl, m4, h4⟩
  have HB4 : Hid (Below w2.heap.size w2 w4) := by rw [h4]; exact below_drewT HB3.out
  clear h4 HT3 HB3
  go_wp2_with fail
  refine (C1.out _ HB4.out).mono ?_
  rintro e w5 ⟨a5, cap5, rfl, ht5, hb5⟩
  have HT5 : Hid (StAt w5 w5.heap.size (.slice a5 T.length cap5) T) := ht5
  have HB5 : Hid (Below w2.heap.size w2 w5) := HB4.out.trans (hb5.mono HB4.out.size)
  clear hb5 ht5 HB4
  go_wp2_with fail
  refine (CI.out _ _ HT5.out).mono ?_
  rintro e w6 ⟨rfl, m6, h6⟩
  have HB6 : Hid (Below w2.heap.size w2 w6) := by rw [h6]; exact below_drewT HB5.out
  have HT6 : Hid (StAt w6 w6.heap.size (.slice a5 T.length cap5) T) := by rw [h6]; exact StAt.drewN m6 HT5.out
  clear h6 HT5 HB5
  cases ok
  all_goals
    go_wp2_with fail
    refine (C1.out _ HB6.out).mono ?_
    rintro e w7 ⟨a7, cap7, rfl, ht7, hb7⟩
    have HT7 : Hid (StAt w7 w7.heap.size (.slice a7 T.length cap7) T) := ht7
    have HT67 : Hid (StAt w7 w7.heap.size (.slice a5 T.length cap5) T) := HT6.out.below hb7
    have HB7 : Hid (Below w2.heap.size w2 w7) := HB6.out.trans (hb7.mono HB6.out.size)
    clear hb7 ht7
    go_wp2_with fail
    refine (C2.out _ _ _ HT67.out HT7.out).mono ?_
    rintro e w8 ⟨rfl, hb8⟩
    have HB8 : Below w2.heap.size w2 w8 := HB7.out.trans (hb8.mono HB7.out.size)
    clear hb8
    go_wp2
    go_ret
    exact ⟨rfl, HB8⟩

namespace fnExactRootOf
open Go.ChangeShapes Go.WideShapes Go.ChangeAt

theorem own : ownKnob Try.prog.godebug = none := by kernel_rfl
theorem laidOut : laidOutB Try.prog = true := by kernel_rfl

set_option maxRecDepth 100000 in
theorem lifted (os : Os) (started : os.Started) (H : Type) (enc : TypeId × Value → H) :
    ReturnsInHanded {} Try.checked os 6 .any (Rows.fnExactRootOfSpec.pre6 enc Try.prog Try.f6 Rows.fnExactRootOfRow.domain false) (Rows.fnExactRootOfSpec.post enc Try.prog Try.f6 false true false false) := by
  refine returnsInHanded_of_change (C := Try.checked) own started (by kernel_rfl) Try.func6
    (ChangeSpec.witness6 (enc := enc) (C := Try.checked) false ⟨#[], #[.slice none 0 0], []⟩ 8 (by kernel_rfl) (by kernel_rfl) (by kernel_rfl) (by kernel_rfl)) ?_
  intro W base args ds gs before hval0 hW hcnd _
  have hval : ∀ (j : Nat) t v, Try.f6.params[j]? = some t → args[j]? = some v → Value.okWide Try.prog W .any base t v := hval0
  have hW' := hW
  obtain ⟨p, q, hA0, hV, rfl, hfz, hnd⟩ := hW
  have hA : DataW.TrodAll enc Try.prog W 0 (fun _ => true) true Try.f6.params.toList args.toList ds p := hA0
  rw [Try.params6] at hA hval
  obtain ⟨v0, vs0, d0, ds0, p0, q0, hargs, rfl, rfl, h0, r0⟩ := trodAll_cons hA
  obtain ⟨rfl, rfl, rfl⟩ := trodAll_nil r0
  obtain rfl : args = #[v0] := by cases args; simp_all
  obtain ⟨rfl, rfl⟩ := trodVars_none hV
  have h0k := h0
  obtain ⟨T, hT, hN⟩ := open_texts (hval 0 29 v0 rfl rfl) h0
  clear hA0 hval0
  have hlt : ∀ x ∈ p0, x.block < W.heap.size := fun x hx => by
    have := hW'.lt x (by simp_all)
    simpa using this
  refine (walkFnExactRootOf T v0 W hT hN).mono fun e W' ⟨he, hg⟩ => ?_
  subst he
  exact ⟨_, rfl, _, _, _, [], _, [], hW', trodAll_mk1 (shut_bool Try.underlying4 _), (trodAll_cons_mk (Below.trod laidOut (by kernel_rfl) (of_decide_eq_true (by kernel_rfl)) h0k hg hlt) trodAll_mk0), rfl, hg.frame _, fun h => by cases h⟩

theorem over : Rows.fnExactRootOfRow.holds Try.pinned (OpenSpec.ofChange Rows.fnExactRootOfSpec) :=
  OpenClaim.holds_of_wide 6 Try.f6 rfl rfl rfl rfl rfl rfl rfl ⟨rfl, rfl, rfl, rfl, rfl⟩ rfl rfl rfl rfl rfl (by kernel_rfl) Try.func6 (by kernel_rfl)
    (of_decide_eq_true (by kernel_rfl)) (by unfold Func.isWrapper; first | (rw [if_pos (by decide +kernel)]; kernel_rfl) | (rw [if_neg (by decide +kernel)]; exact ⟨rfl, rfl⟩))
    (fun os started H enc _ => lifted os started H enc)

end fnExactRootOf

theorem fnExactRootOf_holds : Rows.FnExactRootOfSaid := fnExactRootOf.over
#print axioms fnExactRootOf_holds
end Go.Proofs.Ytlglngmlaknmlaa
