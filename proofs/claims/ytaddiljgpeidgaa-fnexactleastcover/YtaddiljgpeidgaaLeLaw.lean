/- Proved here: at every list of boxes the law FnExactLeastCover answers true, that is, LeastCover answers as its model, its answer owns its memory, and it writes into nothing.
   Conditions: none beside the row's own. -/
import Derived.Test.YtaddiljgpeidgaaByS
import Derived.Test.YtaddiljgpeidgaaByK
import Derived.Test.YtaddiljgpeidgaaByO
namespace Go.Proofs.Ytaddiljgpeidgaa
open Go.RowKit Plain Sch Bxs

theorem lco_len (M : List (List Sd)) : (lco M).length ≤ 20 := by
  unfold lco
  split
  · rename_i h
    have h1 := lst_len (M.map bx) M.length
    have h2 := (gl_get h).1
    omega
  · simp

theorem ZRow.beside9 {w w' : World} {B : Nat} {v : Value} {l : List Int} {us : List Value} (h : ZRow w B v l) (hg : RowsGr w us w') (hne : ∀ u ∈ us, ∀ g, u.ownBlock = some g → v.ownBlock ≠ some g) : ZRow w' B v l := by
  have hlt := World.ownsRow.lt h
  refine ⟨h.1, ?_⟩
  rcases h.2 with hn | ⟨g, cap, cur, hv, hgB, hgg, rest⟩
  · exact .inl hn
  · refine .inr ⟨g, cap, cur, hv, hgB, (hg.block g (hlt g (by rw [hv]; rfl)).2 (fun u hu e => hne u hu g e (by rw [hv]; rfl))).trans hgg, rest⟩

set_option maxRecDepth 100000 in
set_option maxHeartbeats 8000000 in
theorem walkFnExactLeastCover (M : List (List Sd)) (v1 : Value) (w : World) (hM : BxsAt w w.heap.size v1 M) :
    Calls Try.prog 8 #[v1] w fun e w' => e = .returned (.bool true) ∧ Below w.heap.size w w' := by
  have HM : Hid (BxsAt w w.heap.size v1 M) := hM
  obtain ⟨aa, capa, rfl, _⟩ := hM
  go_enter Try.func8, Try.ntmps8
  go_wp2_with fail
  refine (szBoxS_sum M _ _ HM.out).mono ?_
  rintro e w3 ⟨⟨r, rfl, hr0, hr1, hr2⟩, hb3⟩
  by_cases hneg : r < 0
  · clear hr2
    go_wp2
    go_ret
    exact ⟨rfl, hb3⟩
  obtain ⟨hl, hpl⟩ := hr2 (by omega)
  have HPL : Hid (pl M M.length ≤ 1048576) := hpl
  have hll : Hid (∀ i, i < M.length → (mx M i).length ≤ 1048576) := fun i hi => Nat.le_trans (pl_each hi) HPL.out
  clear hr2 hpl
  have TM : Hid (∀ W : World, Below w.heap.size w W → Calls Try.prog 33 #[.slice aa M.length capa] W fun e w' => ∃ ar capr, e = .returned (.slice ar M.length capr) ∧ (∃ us, BOwn w' W.heap.size (.slice ar M.length capr) M us) ∧ Below W.heap.size W w') := fun W hW => by
    refine (toBoxS_any M _ W (HM.out.below hW) hl hll.out).mono ?_
    rintro e w' ⟨r, rfl, ⟨us, ho⟩, hb⟩
    obtain ⟨ar, capr, rfl⟩ := ho.slice
    exact ⟨ar, capr, rfl, ⟨us, ho⟩, hb⟩
  have EM : Hid (∀ (W : World) (v1 v2 : Value), BxsAt W W.heap.size v1 M → BxsAt W W.heap.size v2 M → Calls Try.prog 35 #[v1, v2] W fun e w' => e = .returned (.bool true) ∧ Below W.heap.size W w') := fun W v1 v2 h1 h2 => eqBoxS_same M v1 v2 W h1 h2 (by omega) (fun i hi => by have := hll.out i hi; omega)
  obtain ⟨l, hL⟩ : ∃ l, l = lco M := ⟨_, rfl⟩
  have hl20 : l.length ≤ 20 := by rw [hL]; exact lco_len M
  have hmx : l.length ≤ maxLen := by unfold maxLen; omega
  obtain ⟨ok, hok⟩ : ∃ ok, ok = gl M := ⟨_, rfl⟩
  have CS : Hid (∀ (W : World) (v1 : Value), BxsAt W W.heap.size v1 M → Calls Try.prog 32 #[v1] W fun e w' => (∃ r, e = .returned (.tuple #[r, .bool ok]) ∧ ZRow w' W.heap.size r l) ∧ Below W.heap.size W w') := fun W v1 h1 => by rw [hL, hok]; exact specLeast M v1 W h1
  have CI : Hid (∀ (W : World) (v1 : Value), BxsAt W W.heap.size v1 M → Calls Try.prog 34 #[v1] W fun e w' => (∃ r, e = .returned (.tuple #[r, .bool ok]) ∧ ZRow w' W.heap.size r l) ∧ Below W.heap.size W w') := fun W v1 h1 => by rw [hL, hok]; exact implLeast M v1 W h1
  have EZ : Hid (∀ (W : World) (v1 v2 : Value), ZAt W W.heap.size v1 l → ZAt W W.heap.size v2 l → Calls Try.prog 24 #[v1, v2] W fun e w' => e = .returned (.bool true) ∧ Below W.heap.size W w') := fun W v1 v2 h1 h2 => eqZ_same l v1 v2 W h1 h2 (by omega)
  clear hL hok HM
  go_wp2_with fail
  refine (TM.out _ hb3).mono ?_
  rintro e w5 ⟨ar, car, rfl, ⟨us5, ho5⟩, hb5⟩
  have hB5 : Below w.heap.size w w5 := hb3.trans (hb5.mono hb3.size)
  have HTA : Hid (BxsAt w5 w5.heap.size (.slice ar M.length car) M) := ho5.at
  clear hb5 ho5 hb3
  go_wp2_with fail
  refine (CS.out _ _ HTA.out).mono ?_
  rintro e w7 ⟨⟨v7, rfl, hr7⟩, hb7⟩
  have hB7 : Below w.heap.size w w7 := hB5.trans (hb7.mono hB5.size)
  have HZ7 : Hid (ZAt w7 w7.heap.size v7 l) := ZAt.own hr7
  obtain ⟨a7, c7, hv7⟩ := ZRow.slice hr7
  subst hv7
  clear hb7 hB5 HTA CS hr7
  go_wp2_with fail
  refine (TM.out _ hB7).mono ?_
  rintro e w8 ⟨ar2, car2, rfl, ⟨us, ho8⟩, hb8⟩
  have HX8 : Hid (Below w7.heap.size w7 w8) := hb8
  have HO8 : Hid (BOwn w8 w7.heap.size (.slice ar2 M.length car2) M us) := ho8
  have HUS : Hid (∀ u ∈ us, ∀ g, u.ownBlock = some g → w7.heap.size ≤ g ∧ g < w8.heap.size) := fun u hu g hg => by
    obtain ⟨i, hi, he⟩ := List.getElem_of_mem hu
    have hil : i < M.length := by have := ho8.1.1; omega
    obtain ⟨u', hu', hq, _⟩ := ho8.2.1 i hil
    rw [List.getElem?_eq_getElem hi, he] at hu'
    simp at hu'
    subst hu'
    exact hq.lt g hg
  have hs8 := hb8.size
  clear hb8 ho8
  go_wp2_with fail
  refine (CI.out _ _ HO8.out.at).mono ?_
  rintro e w10 ⟨⟨v10, rfl, hr10⟩, hb10⟩
  have HV10 : Hid (ZRow w10 w8.heap.size v10 l) := hr10
  have HO10 : Hid (BOwn w10 w7.heap.size (.slice ar2 M.length car2) M us) := HO8.out.below hb10
  have HX10 : Hid (Below w7.heap.size w7 w10) := HX8.out.trans (hb10.mono hs8)
  have HVB : Hid (∀ g, v10.ownBlock = some g → w8.heap.size ≤ g) := fun g hg => (World.ownsRow.lt hr10 g hg).1
  obtain ⟨a10, c10, hv10⟩ := ZRow.slice hr10
  subst hv10
  clear hb10 hr10 HO8 HX8
  go_wp2_with fail
  refine (EZ.out _ _ _ (ZAt.own HV10.out) (HZ7.out.below HX10.out)).mono ?_
  rintro e w11 ⟨rfl, hb11⟩
  have HV11 : Hid (ZRow w11 w8.heap.size (.slice a10 l.length c10) l) := ZRow.below HV10.out hb11
  have HO11 : Hid (BOwn w11 w7.heap.size (.slice ar2 M.length car2) M us) := HO10.out.below hb11
  have HX11 : Hid (Below w7.heap.size w7 w11) := HX10.out.trans (hb11.mono HX10.out.size)
  have hB11 : Below w.heap.size w w11 := hB7.trans (HX11.out.mono hB7.size)
  clear hb11 HV10 HO10 HX10
  go_wp2_with fail
  refine (TM.out _ hB11).mono ?_
  rintro e w12 ⟨aq, caq, rfl, ⟨us12, ho12⟩, hb12⟩
  have HQ12 : Hid (BxsAt w12 w12.heap.size (.slice aq M.length caq) M) := ho12.at
  have HV12 : Hid (ZRow w12 w8.heap.size (.slice a10 l.length c10) l) := ZRow.below HV11.out hb12
  have HO12 : Hid (BOwn w12 w7.heap.size (.slice ar2 M.length car2) M us) := HO11.out.below hb12
  have HX12 : Hid (Below w7.heap.size w7 w12) := HX11.out.trans (hb12.mono HX11.out.size)
  clear hb12 ho12 HV11 HO11 HX11 hB11
  go_wp2_with fail
  refine (EM.out _ _ _ HO12.out.at HQ12.out).mono ?_
  rintro e w13 ⟨rfl, hb13⟩
  have HV13 : Hid (ZRow w13 w8.heap.size (.slice a10 l.length c10) l) := ZRow.below HV12.out hb13
  have HO13 : Hid (BOwn w13 w7.heap.size (.slice ar2 M.length car2) M us) := HO12.out.below hb13
  have HX13 : Hid (Below w7.heap.size w7 w13) := HX12.out.trans (hb13.mono HX12.out.size)
  clear hb13 HV12 HO12 HX12 HQ12
  go_wp2_with fail
  refine (markBoxS_any w7.heap.size _ M us w13 HO13.out hl HPL.out).mono ?_
  rintro e w14 ⟨rfl, hbm, hg14⟩
  clear hbm
  have HX14 : Hid (Below w7.heap.size w7 w14) := HX13.out.trans (hg14.below (fun u hu g hg => (HUS.out u hu g hg).1) HX13.out.size)
  have HV14 : Hid (ZRow w14 w8.heap.size (.slice a10 l.length c10) l) := HV13.out.beside9 hg14 (fun u hu g hg e => by have h1 := (HUS.out u hu g hg).2; have h2 := HVB.out g e; omega)
  obtain ⟨kk, hkk⟩ : ∃ kk, kk = 1 + pl M M.length * 2 := ⟨_, rfl⟩
  rw [← hkk]
  have hk14 : (0 : Int) ≤ (kk : Int) := by omega
  have hk14' : kk ≤ 100000000 := by have := HPL.out; omega
  clear hg14 HX13 HV13 HO13 hkk
  go_wp2_with fail
  refine (EZ.out _ _ _ (ZAt.own HV14.out) (HZ7.out.below HX14.out)).mono ?_
  rintro e w15 ⟨rfl, hb15⟩
  have HV15 : Hid (ZRow w15 w8.heap.size (.slice a10 l.length c10) l) := ZRow.below HV14.out hb15
  have HX15 : Hid (Below w7.heap.size w7 w15) := HX14.out.trans (hb15.mono HX14.out.size)
  clear hb15 HV14 HX14
  go_wp2_with fail
  refine (markIntS_any w8.heap.size l.length 1 _ _ w15 HV15.out (by omega) (by omega)).mono ?_
  rintro e w16 ⟨rfl, ⟨ys16, ho16, hm16⟩, hb16⟩
  have HX16 : Hid (Below w7.heap.size w7 w16) := HX15.out.trans (hb16.mono hs8)
  have HM16 : Hid (IntsAt w16 w16.heap.size (.slice a10 l.length c10) ((List.range l.length).map (1 + ·))) := markedInts ho16 hm16 hmx
  clear ho16 hm16 hb16 HX15 HV15
  go_wp2_with fail
  refine (heldIntS_any l.length 1 _ _ HM16.out (by omega) (by omega)).mono ?_
  rintro e w17 ⟨rfl, hb17⟩
  have HX17 : Hid (Below w7.heap.size w7 w17) := HX16.out.trans (hb17.mono HX16.out.size)
  have HM17 : Hid (IntsAt w17 w17.heap.size (.slice a10 l.length c10) ((List.range l.length).map (1 + ·))) := HM16.out.below hb17
  have hB17 : Below w.heap.size w w17 := hB7.trans (HX17.out.mono hB7.size)
  have hge17 : (0 : Int) ≤ ((1 + l.length : Nat) : Int) := by omega
  clear hb17 HX16 HM16
  go_wp2_with fail
  refine (TM.out _ hB17).mono ?_
  rintro e w18 ⟨a18, c18, rfl, ⟨us18, ho18⟩, hb18⟩
  have HQ18 : Hid (BxsAt w18 w18.heap.size (.slice a18 M.length c18) M) := ho18.at
  have HX18 : Hid (Below w7.heap.size w7 w18) := HX17.out.trans (hb18.mono HX17.out.size)
  have HM18 : Hid (IntsAt w18 w18.heap.size (.slice a10 l.length c10) ((List.range l.length).map (1 + ·))) := HM17.out.below hb18
  clear hb18 ho18 HX17 HM17 hB17
  go_wp2_with fail
  refine (CI.out _ _ HQ18.out).mono ?_
  rintro e w19 ⟨⟨v19, rfl, hr19⟩, hb19⟩
  have HZ19 : Hid (ZAt w19 w19.heap.size v19 l) := ZAt.own hr19
  have HX19 : Hid (Below w7.heap.size w7 w19) := HX18.out.trans (hb19.mono HX18.out.size)
  have HM19 : Hid (IntsAt w19 w19.heap.size (.slice a10 l.length c10) ((List.range l.length).map (1 + ·))) := HM18.out.below hb19
  obtain ⟨a19, c19, hv19⟩ := ZRow.slice hr19
  subst hv19
  clear hb19 hr19 HX18 HM18 HQ18
  go_wp2_with fail
  refine (EZ.out _ _ _ HZ19.out (HZ7.out.below HX19.out)).mono ?_
  rintro e w20 ⟨rfl, hb20⟩
  have HX20 : Hid (Below w7.heap.size w7 w20) := HX19.out.trans (hb20.mono HX19.out.size)
  have HM20 : Hid (IntsAt w20 w20.heap.size (.slice a10 l.length c10) ((List.range l.length).map (1 + ·))) := HM19.out.below hb20
  clear hb20 HX19 HM19 HZ19
  go_wp2_with fail
  refine (heldIntS_any l.length 1 _ _ HM20.out (by omega) (by omega)).mono ?_
  rintro e w21 ⟨rfl, hb21⟩
  have hB21 : Below w.heap.size w w21 := hB7.trans ((HX20.out.trans (hb21.mono HX20.out.size)).mono hB7.size)
  clear hb21 HX20 HM20
  go_wp2
  go_ret
  exact ⟨rfl, hB21⟩

namespace fnExactLeastCover
open Go.ChangeShapes Go.WideShapes Go.ChangeAt

theorem own : ownKnob Try.prog.godebug = none := by kernel_rfl
theorem laidOut : laidOutB Try.prog = true := by kernel_rfl

set_option maxRecDepth 100000 in
theorem lifted (os : Os) (started : os.Started) (H : Type) (enc : TypeId × Value → H) :
    ReturnsInHanded {} Try.checked os 8 .any (Rows.fnExactLeastCoverSpec.pre6 enc Try.prog Try.f8 Rows.fnExactLeastCoverRow.domain false) (Rows.fnExactLeastCoverSpec.post enc Try.prog Try.f8 false true false false) := by
  refine returnsInHanded_of_change (C := Try.checked) own started (by kernel_rfl) Try.func8
    (ChangeSpec.witness6 (enc := enc) (C := Try.checked) false ⟨#[], #[.slice none 0 0], []⟩ 8 (by kernel_rfl) (by kernel_rfl) (by kernel_rfl) (by kernel_rfl)) ?_
  intro W base args ds gs before hval0 hW hcnd _
  have hval : ∀ (j : Nat) t v, Try.f8.params[j]? = some t → args[j]? = some v → Value.okWide Try.prog W .any base t v := hval0
  have hW' := hW
  obtain ⟨p, q, hA0, hV, rfl, hfz, hnd⟩ := hW
  have hA : DataW.TrodAll enc Try.prog W 0 (fun _ => true) true Try.f8.params.toList args.toList ds p := hA0
  rw [Try.params8] at hA hval
  obtain ⟨v0, vs0, d0, ds0, p0, q0, hargs, rfl, rfl, h0, r0⟩ := trodAll_cons hA
  obtain ⟨rfl, rfl, rfl⟩ := trodAll_nil r0
  obtain rfl : args = #[v0] := by cases args; simp_all
  obtain ⟨rfl, rfl⟩ := trodVars_none hV
  have h0k := h0
  obtain ⟨T, hT⟩ := open_boxes (hval 0 44 v0 rfl rfl) h0
  clear hA0 hval0
  have hlt : ∀ x ∈ p0, x.block < W.heap.size := fun x hx => by
    have := hW'.lt x (by simp_all)
    simpa using this
  refine (walkFnExactLeastCover T v0 W hT).mono fun e W' ⟨he, hg⟩ => ?_
  subst he
  exact ⟨_, rfl, _, _, _, [], _, [], hW', trodAll_mk1 (shut_bool Try.underlying4 _), (trodAll_cons_mk (Below.trod laidOut (by kernel_rfl) (of_decide_eq_true (by kernel_rfl)) h0k hg hlt) trodAll_mk0), rfl, hg.frame _, fun h => by cases h⟩

theorem over : Rows.fnExactLeastCoverRow.holds Try.pinned (OpenSpec.ofChange Rows.fnExactLeastCoverSpec) :=
  OpenClaim.holds_of_wide 8 Try.f8 rfl rfl rfl rfl rfl rfl rfl ⟨rfl, rfl, rfl, rfl, rfl⟩ rfl rfl rfl rfl rfl (by kernel_rfl) Try.func8 (by kernel_rfl)
    (of_decide_eq_true (by kernel_rfl)) (by unfold Func.isWrapper; first | (rw [if_pos (by decide +kernel)]; kernel_rfl) | (rw [if_neg (by decide +kernel)]; exact ⟨rfl, rfl⟩))
    (fun os started H enc _ => lifted os started H enc)

end fnExactLeastCover

theorem fnExactLeastCover_holds : Rows.FnExactLeastCoverSaid := fnExactLeastCover.over
#print axioms fnExactLeastCover_holds
end Go.Proofs.Ytaddiljgpeidgaa
