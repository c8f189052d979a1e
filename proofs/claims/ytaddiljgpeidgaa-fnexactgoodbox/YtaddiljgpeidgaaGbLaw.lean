/- Proved here: at every box the law FnExactGoodBox answers true, that is, GoodBox answers as its model and writes into nothing.
   Conditions: none beside the row's own. -/
import Derived.Test.YtaddiljgpeidgaaBxS
import Derived.Test.YtaddiljgpeidgaaBxI
import Derived.Test.YtaddiljgpeidgaaBxW
import Derived.Test.YtaddiljgpeidgaaBxT
import Derived.Test.YtaddiljgpeidgaaBxO
namespace Go.Proofs.Ytaddiljgpeidgaa
open Go.RowKit Plain Sch Bxs

set_option maxRecDepth 100000 in
set_option maxHeartbeats 4000000 in
theorem walkGoodBox (T : List Sd) (v : Value) (w : World) (hT : SdsAt w w.heap.size v T) :
    Calls Try.prog 3 #[.agg #[v]] w fun e w' => e = .returned (.bool true) ∧ Below w.heap.size w w' := by
  have HT : Hid (SdsAt w w.heap.size v T) := hT
  obtain ⟨ao, cap, rfl, _⟩ := hT
  have hB1 : Below w.heap.size w (w.alloc (.cells #[.slice ao T.length cap] 24)) := (Below.refl _ w).alloc (Nat.le_refl _) _
  have hX1 : Hid (SdsAt (w.alloc (.cells #[.slice ao T.length cap] 24)) (w.alloc (.cells #[.slice ao T.length cap] 24)).heap.size (.slice ao T.length cap) T) := HT.out.below hB1
  go_enter Try.func3, Try.ntmps3
  go_wp2_with fail
  refine (szBox_any T _ _ hX1.out).mono ?_
  rintro e w2 ⟨⟨r, rfl, hr0, hr1, hr2⟩, hb2⟩
  have hB2 : Below w.heap.size w w2 := hB1.trans (hb2.mono (by simp))
  have hs2 : w.heap.size < w2.heap.size := by have := hb2.size; simp at this; omega
  have q2 : w2.cell? ⟨w.heap.size, 0, none⟩ = some (.slice ao T.length cap) := (hb2.cell (p := ⟨w.heap.size, 0, none⟩) (by simp)).trans (by simp)
  clear hb2 hX1
  by_cases hneg : r < 0
  · clear hr2
    go_wp2
    go_ret
    exact ⟨rfl, hB2⟩
  · have hlen := hr2 (by omega)
    clear hr2
    go_wp2_with fail
    refine (toBox_any T _ _ (HT.out.below hB2) hlen).mono ?_
    rintro e w3 ⟨r3, rfl, ho3, hb3⟩
    have hB3 : Below w.heap.size w w3 := hB2.trans (hb3.mono hB2.size)
    have hs3 : w.heap.size < w3.heap.size := by have := hb3.size; omega
    have q3 := (hb3.cell (p := ⟨w.heap.size, 0, none⟩) hs2).trans q2
    have hT3 : Hid (SdsAt w3 w3.heap.size r3 T) := SdsAt.own ho3
    clear hb3 ho3 hB2 q2 hs2
    go_wp2_with fail
    refine (specGoodB T r3 _ hT3.out).mono ?_
    rintro e w4 ⟨rfl, hb4⟩
    have hB4 : Below w.heap.size w w4 := hB3.trans (hb4.mono hB3.size)
    have hs4 : w.heap.size < w4.heap.size := by have := hb4.size; omega
    have q4 := (hb4.cell (p := ⟨w.heap.size, 0, none⟩) hs3).trans q3
    clear hb4 hT3 hB3 q3 hs3
    go_wp2_with fail
    refine (toBox_any T _ _ (HT.out.below hB4) hlen).mono ?_
    rintro e w5 ⟨r5, rfl, ho5, hb5⟩
    have hB5 : Below w.heap.size w w5 := hB4.trans (hb5.mono hB4.size)
    have hs5 : w.heap.size < w5.heap.size := by have := hb5.size; omega
    have q5 := (hb5.cell (p := ⟨w.heap.size, 0, none⟩) hs4).trans q4
    have hT5 : Hid (SdsAt w5 w5.heap.size r5 T) := SdsAt.own ho5
    obtain ⟨a5, cap5, hr5⟩ : ∃ ao cap, r5 = Value.slice ao T.length cap := by
      rcases ho5.2 with ⟨rfl, h0⟩ | ⟨g, cap, _, rfl, _⟩
      · exact ⟨none, 0, by rw [h0]⟩
      · exact ⟨_, _, rfl⟩
    subst hr5
    clear hb5 ho5 hB4 q4 hs4
    have hB6 : Below w5.heap.size w5 (w5.alloc (.cells #[.slice a5 T.length cap5] 29)) := (Below.refl _ w5).alloc (Nat.le_refl _) _
    have hT6 : Hid (SdsAt (w5.alloc (.cells #[.slice a5 T.length cap5] 29)) (w5.alloc (.cells #[.slice a5 T.length cap5] 29)).heap.size (.slice a5 T.length cap5) T) := hT5.out.below hB6
    go_wp2_with fail
    refine (implGoodB T _ _ hT6.out).mono ?_
    rintro e w7 ⟨rfl, hb7⟩
    have hB7 : Below w.heap.size w w7 := (hB5.alloc hB5.size _).trans (hb7.mono (by simp; omega))
    have hs7 : w5.heap.size < w7.heap.size := by have := hb7.size; simp at this; omega
    have hs7' : w.heap.size < w7.heap.size := by omega
    have q7 := (hb7.cell (p := ⟨w.heap.size, 0, none⟩) (by simp; omega)).trans ((hB6.cell (p := ⟨w.heap.size, 0, none⟩) hs5).trans q5)
    have x7 : w7.cell? ⟨w5.heap.size, 0, none⟩ = some (.slice a5 T.length cap5) := (hb7.cell (p := ⟨w5.heap.size, 0, none⟩) (by simp)).trans (by simp)
    have hT7 : Hid (SdsAt w7 w7.heap.size (.slice a5 T.length cap5) T) := hT6.out.below hb7
    clear hb7 hT5 hT6 hB6 q5
    generalize gb T = bb
    have C1 : Hid (∀ W : World, Below w.heap.size w W → Calls Try.prog 16 #[.agg #[.slice ao T.length cap]] W fun e w' => ∃ ar capr, e = .returned (.agg #[.slice ar T.length capr]) ∧ SdsAt w' w'.heap.size (.slice ar T.length capr) T ∧ Below W.heap.size W w') := fun W hW => by
      refine (toBox_any T _ W (HT.out.below hW) hlen).mono ?_
      rintro e w' ⟨r, rfl, ho, hb⟩
      have ht := SdsAt.own ho
      obtain ⟨ar, capr, rfl, _⟩ := id ht
      exact ⟨ar, capr, rfl, ht, hb⟩
    have C2 : Hid (∀ (W : World) (v1 v2 : Value), SdsAt W W.heap.size v1 T → SdsAt W W.heap.size v2 T → Calls Try.prog 18 #[.agg #[v1], .agg #[v2]] W fun e w' => e = .returned (.bool true) ∧ Below W.heap.size W w') := fun W v1 v2 h1 h2 => eqBox_same T v1 v2 W h1 h2 (by omega)
    have hB7d : Hid (Below w.heap.size w w7.drew) := hB7.drew
    go_wp2_with fail
    go_region_with (first
      | (go_at_call 16; refine (C1.out _ hB7d.out).mono ?_; rintro e w8 ⟨ar, capr, rfl, ht8, hb8⟩; have x8 := (hb8.cell (p := ⟨w5.heap.size, 0, none⟩) hs7).trans x7; have ht78 : SdsAt w8 w8.heap.size (.slice a5 T.length cap5) T := hT7.out.below (w' := w8) ⟨hb8.os, hb8.tape, hb8.output, hb8.size, hb8.block⟩; have hB8 : Below w.heap.size w w8 := hB7.drew.trans (hb8.mono hB7.size))
      | (go_at_call 18; refine (C2.out _ _ _ ht78 ht8).mono ?_; rintro e w9 ⟨rfl, hb9⟩; have hB9 : Below w.heap.size w w9 := hB8.trans (hb9.mono hB8.size)))
    all_goals
      go_wp2
      go_ret
      exact ⟨rfl, hB9⟩

namespace fnExactGoodBox
open Go.ChangeShapes Go.WideShapes Go.ChangeAt

theorem own : ownKnob Try.prog.godebug = none := by kernel_rfl
theorem laidOut : laidOutB Try.prog = true := by kernel_rfl

set_option maxRecDepth 100000 in
theorem lifted (os : Os) (started : os.Started) (H : Type) (enc : TypeId × Value → H) :
    ReturnsInHanded {} Try.checked os 3 .any (Rows.fnExactGoodBoxSpec.pre6 enc Try.prog Try.f3 Rows.fnExactGoodBoxRow.domain false) (Rows.fnExactGoodBoxSpec.post enc Try.prog Try.f3 false true false false) := by
  refine returnsInHanded_of_change (C := Try.checked) own started (by kernel_rfl) Try.func3
    (ChangeSpec.witness6 (enc := enc) (C := Try.checked) false ⟨#[], #[.agg #[.slice none 0 0]], []⟩ 8 (by kernel_rfl) (by kernel_rfl) (by kernel_rfl) (by kernel_rfl)) ?_
  intro W base args ds gs before hval0 hW hcnd _
  have hval : ∀ (j : Nat) t v, Try.f3.params[j]? = some t → args[j]? = some v → Value.okWide Try.prog W .any base t v := hval0
  have hW' := hW
  obtain ⟨p, q, hA0, hV, rfl, hfz, hnd⟩ := hW
  have hA : DataW.TrodAll enc Try.prog W 0 (fun _ => true) true Try.f3.params.toList args.toList ds p := hA0
  rw [Try.params3] at hA hval
  obtain ⟨v0, vs0, d0, ds0, p0, q0, hargs, rfl, rfl, h0, r0⟩ := trodAll_cons hA
  obtain ⟨rfl, rfl, rfl⟩ := trodAll_nil r0
  obtain rfl : args = #[v0] := by cases args; simp_all
  obtain ⟨rfl, rfl⟩ := trodVars_none hV
  have h0k := h0
  obtain ⟨v, T, rfl, hT⟩ := open_box (hval 0 24 v0 rfl rfl) h0
  clear hA0 hval0
  have hlt : ∀ x ∈ p0, x.block < W.heap.size := fun x hx => by
    have := hW'.lt x (by simp_all)
    simpa using this
  refine (walkGoodBox T v W hT).mono fun e W' ⟨he, hg⟩ => ?_
  subst he
  exact ⟨_, rfl, _, _, _, [], _, [], hW', trodAll_mk1 (shut_bool Try.underlying4 _), (trodAll_cons_mk (Below.trod laidOut (by kernel_rfl) (of_decide_eq_true (by kernel_rfl)) h0k hg hlt) trodAll_mk0), rfl, hg.frame _, fun h => by cases h⟩

theorem over : Rows.fnExactGoodBoxRow.holds Try.pinned (OpenSpec.ofChange Rows.fnExactGoodBoxSpec) :=
  OpenClaim.holds_of_wide 3 Try.f3 rfl rfl rfl rfl rfl rfl rfl ⟨rfl, rfl, rfl, rfl, rfl⟩ rfl rfl rfl rfl rfl (by kernel_rfl) Try.func3 (by kernel_rfl)
    (of_decide_eq_true (by kernel_rfl)) (by unfold Func.isWrapper; first | (rw [if_pos (by decide +kernel)]; kernel_rfl) | (rw [if_neg (by decide +kernel)]; exact ⟨rfl, rfl⟩))
    (fun os started H enc _ => lifted os started H enc)

end fnExactGoodBox

theorem fnExactGoodBox_holds : Rows.FnExactGoodBoxSaid := fnExactGoodBox.over
#print axioms fnExactGoodBox_holds
end Go.Proofs.Ytaddiljgpeidgaa
