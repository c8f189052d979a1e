/- Proved here: at every filter the law FnExactNosOf answers true, that is, NosOf answers as its model, its answer owns its memory, and it writes into nothing.
   Conditions: none beside the row's own. -/
import Derived.Test.YtpopjapcgcnnfaaNsB
import Derived.Test.YtpopjapcgcnnfaaNsC
import Derived.Test.YtpopjapcgcnnfaaFwK
import Derived.Test.YtpopjapcgcnnfaaFwO
import Derived.Test.YtpopjapcgcnnfaaMarkI
namespace Go.Proofs.Ytpopjapcgcnnfaa
open Go.RowKit Plain Sch Wan

theorem own_far {w w' : World} {B e size n : Nat} {v : Value} {xs : List Value} {row : Option Nat} (h : w.ownsRow B e size v n xs) (hg : w.grownBy w' row) (hne : ∀ g, v.ownBlock = some g → some g ≠ row) : w'.ownsRow B e size v n xs := by
  have hlt := h.lt
  refine ⟨h.1, ?_⟩
  rcases h.2 with hn | ⟨g, cap, cur, hv, hgB, hgg, rest⟩
  · exact .inl hn
  · refine .inr ⟨g, cap, cur, hv, hgB, (hg.block g (hlt g (by rw [hv]; rfl)).2 (hne g (by rw [hv]; rfl))).trans hgg, rest⟩

theorem own_slice {w : World} {B e size n : Nat} {v : Value} {xs : List Value} (h : w.ownsRow B e size v n xs) : ∃ ao cap, v = Value.slice ao n cap := by
  rcases h.2 with ⟨rfl, h0⟩ | ⟨g, cap, _, rfl, _⟩
  · exact ⟨none, 0, by rw [h0]⟩
  · exact ⟨_, _, rfl⟩

set_option maxRecDepth 100000 in
set_option maxHeartbeats 8000000 in
theorem walkNosOf (T : List Wa) (v : Value) (w : World) (hT : WasAt w w.heap.size v T) :
    Calls Try.prog 11 #[.agg #[v]] w fun e w' => e = .returned (.bool true) ∧ Below w.heap.size w w' := by
  have HT : Hid (WasAt w w.heap.size v T) := hT
  obtain ⟨ao, cap, rfl, _⟩ := hT
  have hB1 : Below w.heap.size w (w.alloc (.cells #[.slice ao T.length cap] 37)) := (Below.refl _ w).alloc (Nat.le_refl _) _
  have hX1 : Hid (WasAt (w.alloc (.cells #[.slice ao T.length cap] 37)) (w.alloc (.cells #[.slice ao T.length cap] 37)).heap.size (.slice ao T.length cap) T) := HT.out.below hB1
  have hfl := nosV_len T
  have CS : Hid (∀ (w : World) (v : Value), WasAt w w.heap.size v T → Calls Try.prog 42 #[.agg #[v]] w fun e w' => ONos w w' e (nosV T)) := fun w v h => specNos T v w h
  have CI : Hid (∀ (w : World) (v : Value), WasAt w w.heap.size v T → Calls Try.prog 43 #[.agg #[v]] w fun e w' => ONos w w' e (nosV T)) := fun w v h => implNos T v w h
  obtain ⟨⟨l, ok⟩, hR⟩ : ∃ R, nosV T = R := ⟨_, rfl⟩
  rw [hR] at CS CI hfl
  dsimp only at hfl
  clear hR
  go_enter Try.func11, Try.ntmps11
  go_wp2_with fail
  refine (szFilter_any T _ _ hX1.out).mono ?_
  rintro e w2 ⟨⟨r, rfl, hr0, hr1, hr2⟩, hb2⟩
  have hB2 : Below w.heap.size w w2 := hB1.trans (hb2.mono (by simp))
  have hs2 : w.heap.size < w2.heap.size := by have := hb2.size; simp at this; omega
  have q2 : w2.cell? ⟨w.heap.size, 0, none⟩ = some (.slice ao T.length cap) := (hb2.cell (p := ⟨w.heap.size, 0, none⟩) (by simp)).trans (by simp)
  clear hb2 hX1
  by_cases hneg : r < 0
  · clear hr2
    go_wp2
    go_ret
    exact ⟨rfl, hB2⟩
  · obtain ⟨hlen, hnames⟩ := hr2 (by omega)
    have HN : Hid (∀ i, i < T.length → (wa T i).text.size ≤ maxLen) := fun i hi => by have := hnames i hi; unfold maxLen; omega
    have C1 : Hid (∀ W : World, Below w.heap.size w W → Calls Try.prog 22 #[.agg #[.slice ao T.length cap]] W fun e w' => ∃ ar capr, e = .returned (.agg #[.slice ar T.length capr]) ∧ WasAt w' w'.heap.size (.slice ar T.length capr) T ∧ w'.ownsRow W.heap.size 97 6 (.slice ar T.length capr) T.length (T.flatMap Wa.cells) ∧ Below W.heap.size W w') := fun W hW => by
      refine (toFilter_any T _ W (HT.out.below hW) hlen).mono ?_
      rintro e w' ⟨r, rfl, ho, hb⟩
      have ht := WasAt.own ho HN.out
      obtain ⟨ar, capr, rfl⟩ := own_slice ho
      exact ⟨ar, capr, rfl, ht, ho, hb⟩
    have C2 : Hid (∀ (W : World) (v1 v2 : Value), WasAt W W.heap.size v1 T → WasAt W W.heap.size v2 T → Calls Try.prog 24 #[.agg #[v1], .agg #[v2]] W fun e w' => e = .returned (.bool true) ∧ Below W.heap.size W w') := fun W v1 v2 h1 h2 => eqFilter_same T v1 v2 W h1 h2 (by omega)
    clear hr2 hnames
    go_wp2_with fail
    refine (C1.out _ hB2).mono ?_
    rintro e w3 ⟨a3, cap3, rfl, ht3, ho3, hb3⟩
    have hB3 : Below w.heap.size w w3 := hB2.trans (hb3.mono hB2.size)
    have hs3 : w.heap.size < w3.heap.size := by have := hb3.size; omega
    have q3 := (hb3.cell (p := ⟨w.heap.size, 0, none⟩) hs2).trans q2
    have HT3 : Hid (WasAt w3 w3.heap.size (.slice a3 T.length cap3) T) := ht3
    clear hb3 ho3 hB2 q2 hs2 ht3
    go_wp2_with fail
    refine (CS.out _ _ HT3.out).mono ?_
    rintro e w4 ⟨v1, rfl, ho4, hb4⟩
    dsimp only
    have hB4 : Below w.heap.size w w4 := hB3.trans (hb4.mono hB3.size)
    have hs4 : w.heap.size < w4.heap.size := by have := hb4.size; omega
    have q4 := (hb4.cell (p := ⟨w.heap.size, 0, none⟩) hs3).trans q3
    have hi4 : Hid (IntsAt w4 w4.heap.size v1 l) := IntsAt.own ho4 (by unfold maxLen; show l.length ≤ _; omega)
    clear hb4 ho4 HT3 hB3 q3 hs3
    go_wp2_with fail
    refine (C1.out _ hB4).mono ?_
    rintro e w5 ⟨a5, cap5, rfl, ht5, ho5, hb5⟩
    have q5 := (hb5.cell (p := ⟨w.heap.size, 0, none⟩) hs4).trans q4
    have hs5 := hb5.size
    have HT5 : Hid (WasAt w5 w5.heap.size (.slice a5 T.length cap5) T) := ht5
    have HO5 : Hid (w5.ownsRow w4.heap.size 97 6 (.slice a5 T.length cap5) T.length (T.flatMap Wa.cells)) := ho5
    have HX5 : Hid (Below w4.heap.size w4 w5) := hb5
    have HO5b : Hid (∀ g, (Value.slice a5 T.length cap5).ownBlock = some g → w4.heap.size ≤ g ∧ g < w5.heap.size) := fun g hg => ho5.lt g hg
    clear hb5 ho5 ht5
    obtain ⟨W6, hW6⟩ : ∃ W, W = w5.alloc (.cells #[.slice a5 T.length cap5] 43) := ⟨_, rfl⟩
    have hA6 : Below w5.heap.size w5 W6 := by rw [hW6]; exact (Below.refl _ w5).alloc (Nat.le_refl _) _
    have hs6 : W6.heap.size = w5.heap.size + 1 := by rw [hW6]; simp
    have x6 : W6.cell? ⟨w5.heap.size, 0, none⟩ = some (.slice a5 T.length cap5) := by rw [hW6]; simp
    have HT6 : Hid (WasAt W6 W6.heap.size (.slice a5 T.length cap5) T) := HT5.out.below hA6
    have q6 := (hA6.cell (p := ⟨w.heap.size, 0, none⟩) (by show w.heap.size < _; omega)).trans q5
    have HX6 : Hid (Below w4.heap.size w4 W6) := HX5.out.trans (hA6.mono hs5)
    have HO6 : Hid (W6.ownsRow w4.heap.size 97 6 (.slice a5 T.length cap5) T.length (T.flatMap Wa.cells)) := own_belowFw HO5.out hA6
    go_wp2_with fail
    rw [← hW6]
    refine (CI.out _ _ HT6.out).mono ?_
    rintro e w7 ⟨v2, rfl, ho7, hb7⟩
    dsimp only
    clear hW6 hA6 HT5 HX5 HO5 q5
    have HX7 : Hid (Below w4.heap.size w4 w7) := HX6.out.trans (hb7.mono HX6.out.size)
    have HO7 : Hid (w7.ownsRow w4.heap.size 97 6 (.slice a5 T.length cap5) T.length (T.flatMap Wa.cells)) := own_belowFw HO6.out hb7
    have HV7 : Hid (w7.ownsRow W6.heap.size 3 1 v2 l.length (ints l)) := ho7
    have HY7 : Hid (Below W6.heap.size W6 w7) := hb7
    have hs7 := hb7.size
    have hi7 : Hid (IntsAt w7 w7.heap.size v2 l) := IntsAt.own ho7 (by unfold maxLen; show l.length ≤ _; omega)
    clear hb7 ho7 HX6 HO6
    go_wp2_with fail
    refine (eqIntS_same l v2 v1 _ hi7.out (hi4.out.below HX7.out) (by omega)).mono ?_
    rintro e w8 ⟨rfl, hb8⟩
    have HX8 : Hid (Below w4.heap.size w4 w8) := HX7.out.trans (hb8.mono HX7.out.size)
    have HO8 : Hid (w8.ownsRow w4.heap.size 97 6 (.slice a5 T.length cap5) T.length (T.flatMap Wa.cells)) := own_belowFw HO7.out hb8
    have HV8 : Hid (w8.ownsRow W6.heap.size 3 1 v2 l.length (ints l)) := own_belowFw HV7.out hb8
    have HY8 : Hid (Below W6.heap.size W6 w8) := HY7.out.trans (hb8.mono hs7)
    have hs8 : W6.heap.size ≤ w8.heap.size := HY8.out.size
    have x8 := (HY8.out.cell (p := ⟨w5.heap.size, 0, none⟩) (by show w5.heap.size < _; omega)).trans x6
    have q8 := (HY8.out.cell (p := ⟨w.heap.size, 0, none⟩) (by show w.heap.size < _; omega)).trans q6
    have HT8 : Hid (WasAt w8 w8.heap.size (.slice a5 T.length cap5) T) := HT6.out.below HY8.out
    have hB8d : Hid (Below w.heap.size w w8.drew) := (hB4.trans (HX8.out.mono (by omega))).drew
    have hs8' : w5.heap.size < w8.heap.size := by omega
    have hs8'' : w.heap.size < w8.heap.size := by omega
    clear hb8 HX7 HO7 HV7 HY7 hi7
    go_wp2_with fail
    go_region_with (first
      | (go_at_call 22; refine (C1.out _ hB8d.out).mono ?_; rintro e w9 ⟨ar, capr, rfl, ht9, ho9, hb9⟩; clear ho9; have x9 := (hb9.cell (p := ⟨w5.heap.size, 0, none⟩) hs8').trans x8; have hb9' : Below w8.heap.size w8 w9 := ⟨hb9.os, hb9.tape, hb9.output, hb9.size, hb9.block⟩; have ht89 : WasAt w9 w9.heap.size (.slice a5 T.length cap5) T := HT8.out.below hb9')
      | (go_at_call 24; refine (C2.out _ _ _ ht89 ht9).mono ?_; rintro e w10 ⟨rfl, hb10⟩; have HZ : Hid (Below w8.heap.size w8 w10) := hb9'.trans (hb10.mono hb9'.size); clear ht89 ht9 hb10 hb9 hb9' x9))
    all_goals
      have HX10 : Hid (Below w4.heap.size w4 w10) := HX8.out.trans (HZ.out.mono HX8.out.size)
      have HO10 : Hid (w10.ownsRow w4.heap.size 97 6 (.slice a5 T.length cap5) T.length (T.flatMap Wa.cells)) := own_belowFw HO8.out HZ.out
      have HV10 : Hid (w10.ownsRow W6.heap.size 3 1 v2 l.length (ints l)) := own_belowFw HV8.out HZ.out
      have x10 := (HZ.out.cell (p := ⟨w5.heap.size, 0, none⟩) hs8').trans x8
      have hs10 := HZ.out.size
      have hmx : l.length ≤ maxLen := by unfold maxLen; omega
      clear HX8 HO8 HV8 HZ HT8 hB8d x8 q8
      go_wp2_with fail
      refine (markFilter_any w4.heap.size T.length 1 _ _ _ HO10.out (by omega) (by omega) (by omega)).mono ?_
      rintro e w11 ⟨rfl, ⟨ys11, hy11, hm11⟩, hg11⟩
      clear hy11 hm11
      have HX11 : Hid (Below w4.heap.size w4 w11) := HX10.out.grown hg11 HX10.out.size (fun k hk => (HO5b.out k hk).1)
      have HV11 : Hid (w11.ownsRow W6.heap.size 3 1 v2 l.length (ints l)) := own_far HV10.out hg11 (fun g hg e => by have h1 := (HV10.out.lt g hg).1; have h2 := (HO5b.out g e.symm).2; omega)
      have hi11 : Hid (IntsAt w11 w11.heap.size v2 l) := IntsAt.own HV11.out hmx
      have hk11 : (0 : Int) ≤ ((1 + T.length * 6 : Nat) : Int) := by omega
      clear hg11 HX10 HO10 HV10 x10
      go_wp2_with fail
      refine (eqIntS_same l v2 v1 _ hi11.out (hi4.out.below HX11.out) (by omega)).mono ?_
      rintro e w12 ⟨rfl, hb12⟩
      have HX12 : Hid (Below w4.heap.size w4 w12) := HX11.out.trans (hb12.mono HX11.out.size)
      have HV12 : Hid (w12.ownsRow W6.heap.size 3 1 v2 l.length (ints l)) := own_belowFw HV11.out hb12
      clear hb12 HX11 HV11 hi11
      go_wp2_with fail
      refine (markIntS_any W6.heap.size l.length 1 v2 _ w12 HV12.out (by omega) (by omega)).mono ?_
      rintro e w13 ⟨rfl, ⟨ys13, ho13, hm13⟩, hb13⟩
      have HX13 : Hid (Below w4.heap.size w4 w13) := HX12.out.trans (hb13.mono (by omega))
      have HM13 : Hid (IntsAt w13 w13.heap.size v2 ((List.range l.length).map (1 + ·))) := markedInts ho13 hm13 hmx
      clear ho13 hm13 hb13 HX12 HV12
      go_wp2_with fail
      refine (heldIntS_any l.length 1 v2 _ HM13.out (by omega) (by omega)).mono ?_
      rintro e w14 ⟨rfl, hb14⟩
      have HX14 : Hid (Below w4.heap.size w4 w14) := HX13.out.trans (hb14.mono HX13.out.size)
      have HM14 : Hid (IntsAt w14 w14.heap.size v2 ((List.range l.length).map (1 + ·))) := HM13.out.below hb14
      have q14 := (HX14.out.cell (p := ⟨w.heap.size, 0, none⟩) hs4).trans q4
      clear hb14 HX13 HM13
      go_wp2_with fail
      refine (C1.out _ (hB4.trans (HX14.out.mono (by omega)))).mono ?_
      rintro e w15 ⟨a15, cap15, rfl, ht15, ho15, hb15⟩
      have HT15 : Hid (WasAt w15 w15.heap.size (.slice a15 T.length cap15) T) := ht15
      have HX15 : Hid (Below w4.heap.size w4 w15) := HX14.out.trans (hb15.mono HX14.out.size)
      have HM15 : Hid (IntsAt w15 w15.heap.size v2 ((List.range l.length).map (1 + ·))) := HM14.out.below hb15
      clear hb15 ht15 ho15 HX14 HM14
      go_wp2_with fail
      refine (CI.out _ _ HT15.out).mono ?_
      rintro e w16 ⟨v3, rfl, ho16, hb16⟩
      dsimp only
      have hi16 : Hid (IntsAt w16 w16.heap.size v3 l) := IntsAt.own ho16 hmx
      have HX16 : Hid (Below w4.heap.size w4 w16) := HX15.out.trans (hb16.mono HX15.out.size)
      have HM16 : Hid (IntsAt w16 w16.heap.size v2 ((List.range l.length).map (1 + ·))) := HM15.out.below hb16
      clear hb16 ho16 HX15 HM15 HT15
      go_wp2_with fail
      refine (eqIntS_same l v3 v1 _ hi16.out (hi4.out.below HX16.out) (by omega)).mono ?_
      rintro e w17 ⟨rfl, hb17⟩
      have HX17 : Hid (Below w4.heap.size w4 w17) := HX16.out.trans (hb17.mono HX16.out.size)
      have HM17 : Hid (IntsAt w17 w17.heap.size v2 ((List.range l.length).map (1 + ·))) := HM16.out.below hb17
      clear hb17 HX16 HM16 hi16
      go_wp2_with fail
      refine (heldIntS_any l.length 1 v2 _ HM17.out (by omega) (by omega)).mono ?_
      rintro e w18 ⟨rfl, hb18⟩
      have hB18 : Below w.heap.size w w18 := hB4.trans ((HX17.out.trans (hb18.mono HX17.out.size)).mono (by omega))
      clear hb18 HX17 HM17
      go_wp2
      go_ret
      exact ⟨rfl, hB18⟩

namespace fnExactNosOf
open Go.ChangeShapes Go.WideShapes Go.ChangeAt

theorem own : ownKnob Try.prog.godebug = none := by kernel_rfl
theorem laidOut : laidOutB Try.prog = true := by kernel_rfl

set_option maxRecDepth 100000 in
theorem lifted (os : Os) (started : os.Started) (H : Type) (enc : TypeId × Value → H) :
    ReturnsInHanded {} Try.checked os 11 .any (Rows.fnExactNosOfSpec.pre6 enc Try.prog Try.f11 Rows.fnExactNosOfRow.domain false) (Rows.fnExactNosOfSpec.post enc Try.prog Try.f11 false true false false) := by
  refine returnsInHanded_of_change (C := Try.checked) own started (by kernel_rfl) Try.func11
    (ChangeSpec.witness6 (enc := enc) (C := Try.checked) false ⟨#[], #[.agg #[.slice none 0 0]], []⟩ 8 (by kernel_rfl) (by kernel_rfl) (by kernel_rfl) (by kernel_rfl)) ?_
  intro W base args ds gs before hval0 hW hcnd _
  have hval : ∀ (j : Nat) t v, Try.f11.params[j]? = some t → args[j]? = some v → Value.okWide Try.prog W .any base t v := hval0
  have hW' := hW
  obtain ⟨p, q, hA0, hV, rfl, hfz, hnd⟩ := hW
  have hA : DataW.TrodAll enc Try.prog W 0 (fun _ => true) true Try.f11.params.toList args.toList ds p := hA0
  rw [Try.params11] at hA hval
  obtain ⟨v0, vs0, d0, ds0, p0, q0, hargs, rfl, rfl, h0, r0⟩ := trodAll_cons hA
  obtain ⟨rfl, rfl, rfl⟩ := trodAll_nil r0
  obtain rfl : args = #[v0] := by cases args; simp_all
  obtain ⟨rfl, rfl⟩ := trodVars_none hV
  have h0k := h0
  obtain ⟨v, T, rfl, hT⟩ := open_filter (hval 0 37 v0 rfl rfl) h0
  clear hA0 hval0
  have hlt : ∀ x ∈ p0, x.block < W.heap.size := fun x hx => by
    have := hW'.lt x (by simp_all)
    simpa using this
  refine (walkNosOf T v W hT).mono fun e W' ⟨he, hg⟩ => ?_
  subst he
  exact ⟨_, rfl, _, _, _, [], _, [], hW', trodAll_mk1 (shut_bool Try.underlying4 _), (trodAll_cons_mk (Below.trod laidOut (by kernel_rfl) (of_decide_eq_true (by kernel_rfl)) h0k hg hlt) trodAll_mk0), rfl, hg.frame _, fun h => by cases h⟩

theorem over : Rows.fnExactNosOfRow.holds Try.pinned (OpenSpec.ofChange Rows.fnExactNosOfSpec) :=
  OpenClaim.holds_of_wide 11 Try.f11 rfl rfl rfl rfl rfl rfl rfl ⟨rfl, rfl, rfl, rfl, rfl⟩ rfl rfl rfl rfl rfl (by kernel_rfl) Try.func11 (by kernel_rfl)
    (of_decide_eq_true (by kernel_rfl)) (by unfold Func.isWrapper; first | (rw [if_pos (by decide +kernel)]; kernel_rfl) | (rw [if_neg (by decide +kernel)]; exact ⟨rfl, rfl⟩))
    (fun os started H enc _ => lifted os started H enc)

end fnExactNosOf

theorem fnExactNosOf_holds : Rows.FnExactNosOfSaid := fnExactNosOf.over
#print axioms fnExactNosOf_holds
end Go.Proofs.Ytpopjapcgcnnfaa
