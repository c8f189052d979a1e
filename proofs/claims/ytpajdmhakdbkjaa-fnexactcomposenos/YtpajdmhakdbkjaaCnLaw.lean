/- Proved here: at every two lists of ints the law FnExactComposeNos answers true, that is, ComposeNos answers as its model, its answer owns its memory, and it writes into nothing.
   Conditions: none beside the row's own. -/
import Derived.Test.YtpajdmhakdbkjaaCnB
import Derived.Test.YtpajdmhakdbkjaaMarkN
namespace Go.Proofs.Ytpajdmhakdbkjaa
open Go.RowKit

set_option maxRecDepth 100000 in
set_option maxHeartbeats 4000000 in
theorem markZ_any (B n k : Nat) (v : Value) (xs : List Value) (w : World) (hown : w.ownsRow B 3 1 v n xs) (hn : n ≤ 2097152) (hk2 : k ≤ 100000000) :
    Calls Try.prog 34 #[v, .int .i64 k] w fun e w' => e = .returned (.int .i64 ((k + n : Nat) : Int)) ∧ (∃ ys, w'.ownsRow B 3 1 v n ys ∧ ∀ j, j < n → ys[j]? = some (.int .i64 ((k + j : Nat) : Int))) ∧ w.grownBy w' v.ownBlock := by
  by_cases hn0 : n = 0
  · subst hn0
    obtain ⟨ao, cap, hv⟩ : ∃ ao cap, v = Value.slice ao 0 cap := by
      rcases hown.2 with ⟨rfl, _⟩ | ⟨g, cap, _, rfl, _⟩
      · exact ⟨_, _, rfl⟩
      · exact ⟨_, _, rfl⟩
    subst hv
    have HO : Hid (w.ownsRow B 3 1 (.slice ao 0 cap) 0 xs) := hown
    clear hown
    go_enter Try.func34, Try.ntmps34
    go_wp2
    go_loopw [1, 5] (fun vk vi wr => vk = .int .i64 (k : Int) ∧ vi = .int .i64 0 ∧ wr = w) (fun _ _ _ => 0)
    case atStart => exact ⟨rfl, rfl, rfl⟩
    case round =>
      obtain ⟨rfl, rfl, rfl⟩ := hrel
      go_wp2
      go_ret
      exact ⟨by simp, ⟨xs, HO.out, fun j hj => by omega⟩, grow_belowN (Below.refl _ _)⟩
  · obtain ⟨g, cap, hv⟩ := Joins.ownsRow_form hown (by omega)
    subst hv
    go_enter Try.func34, Try.ntmps34
    go_wp2
    go_loopw [1, 5] (fun vk vi wr => ∃ (i : Nat) (ys : List Value), i ≤ n ∧ vi = .int .i64 (i : Int) ∧ vk = .int .i64 ((k + i : Nat) : Int) ∧ wr.ownsRow B 3 1 (.slice (some ⟨g, 0, none⟩) n cap) n ys ∧ Hid (∀ j, j < i → ys[j]? = some (.int .i64 ((k + j : Nat) : Int))) ∧ w.grownBy wr (some g))
      (fun _ vi _ => n - (intOf vi).toNat)
    case atStart => exact ⟨0, xs, by omega, rfl, by simp, hown, fun j hj => by omega, grow_belowN (Below.refl _ _)⟩
    case round =>
      obtain ⟨i, ys, hi, rfl, rfl, how, hm, hbw0⟩ := hrel
      have HBW : Hid (w.grownBy wr (some g)) := hbw0
      clear hbw0
      have hyl : ys.length = n := by have := how.1; omega
      clear hown
      by_cases hlt : i < n
      · have hlt' : (i : Int) < (n : Int) := by omega
        have q0 := how.cellAt i (by omega)
        rw [List.getElem?_eq_getElem (by omega)] at q0
        have z0 := how.frozenAt i
        generalize ys[i] = a0 at q0
        have how6 := (how.stored i (.int .i64 ((k : Int) + i))).1
        have HM : Hid (∀ j, j < i + 1 → (ys.set i (.int .i64 ((k : Int) + i)))[j]? = some (.int .i64 ((k + j : Nat) : Int))) := set1_marks ys k i n hyl hlt hm.out
        generalize ys.set i (Value.int .i64 ((k : Int) + i)) = zs at how6 HM
        clear how hm
        go_wp2
        go_roundw
        case rel => exact ⟨i + 1, zs, by omega, by go_num, by go_num, how6, HM, Lib.grownBy_trans HBW.out (Lib.grownBy_setCell _ g i _)⟩
        case measure => simp [intOf]; omega
      · have hke : i = n := by omega
        subst hke
        have hge : ¬ ((i : Int) < (i : Int)) := by omega
        go_wp2
        go_ret
        exact ⟨rfl, ⟨ys, how, hm.out⟩, HBW.out⟩

theorem cno_len (a b : List Int) : (cno a b).1.length ≤ a.length := by
  unfold cno
  split
  · exact List.length_filter_le _ _
  · simp

theorem ZRow.grown {w w' : World} {B : Nat} {v : Value} {l : List Int} {row : Option Nat} (h : ZRow w B v l) (hg : w.grownBy w' row) (hne : ∀ g, v.ownBlock = some g → some g ≠ row) : ZRow w' B v l := by
  have hlt := World.ownsRow.lt h
  refine ⟨h.1, ?_⟩
  rcases h.2 with hn | ⟨g, cap, cur, hv, hgB, hgg, rest⟩
  · exact .inl hn
  · refine .inr ⟨g, cap, cur, hv, hgB, (hg.block g (hlt g (by rw [hv]; rfl)).2 (hne g (by rw [hv]; rfl))).trans hgg, rest⟩

set_option maxRecDepth 100000 in
theorem open_intsW {H : Type} {enc : TypeId × Value → H} {W : World} {base : Nat} {v0 : Value} {d0 : DataW H} {p0 : List MemPlace} (hok : Value.okWide Try.prog W .any base 59 v0)
    (h0 : DataW.Trod enc Try.prog W 0 (fun _ => true) true 59 v0 d0 p0) : ∃ l, ZAt W W.heap.size v0 l := by
  obtain ⟨a, len, cap, rfl⟩ := Go.WideShapes.okWide_slice Try.underlying59 hok
  exact open_ints h0 rfl

set_option maxRecDepth 100000 in
set_option maxHeartbeats 8000000 in
theorem walkComposeNos (A B : List Int) (va vb : Value) (w : World) (hA : ZAt w w.heap.size va A) (hB : ZAt w w.heap.size vb B) :
    Calls Try.prog 7 #[va, vb] w fun e w' => e = .returned (.bool true) ∧ Below w.heap.size w w' := by
  have HA : Hid (ZAt w w.heap.size va A) := hA
  have HB : Hid (ZAt w w.heap.size vb B) := hB
  obtain ⟨aa, capa, rfl, hlca, hcma, _⟩ := hA
  obtain ⟨ab, capb, rfl, hlcb, hcmb, _⟩ := hB
  have hcma' : capa ≤ 9223372036854775807 := by unfold maxLen at hcma; omega
  have hcmb' : capb ≤ 9223372036854775807 := by unfold maxLen at hcmb; omega
  by_cases hbigA : 1048576 < A.length
  · have hd : decide ((A.length : Int) > 1048576) = true := by simp; omega
    have hdi : (1048576 : Int) < (A.length : Int) := by omega
    go_enter Try.func7, Try.ntmps7
    go_wp2
    go_ret
    exact ⟨rfl, Below.refl _ _⟩
  have hdA : ¬ (1048576 : Int) < (A.length : Int) := by omega
  by_cases hbigB : 1048576 < B.length
  · have hdi : (1048576 : Int) < (B.length : Int) := by omega
    go_enter Try.func7, Try.ntmps7
    go_wp2
    go_ret
    exact ⟨rfl, Below.refl _ _⟩
  have hdB : ¬ (1048576 : Int) < (B.length : Int) := by omega
  have TA : Hid (∀ W : World, Below w.heap.size w W → Calls Try.prog 31 #[.slice aa A.length capa] W fun e w' => ∃ ar cr, e = .returned (.slice ar A.length cr) ∧ ZRow w' W.heap.size (.slice ar A.length cr) A ∧ Below W.heap.size W w') := fun W hW => by
    refine (toIntS_any A _ W (HA.out.below hW) (by omega)).mono ?_
    rintro e w' ⟨r, rfl, ho, hb⟩
    obtain ⟨ar, cr, rfl⟩ := ho.slice
    exact ⟨ar, cr, rfl, ho, hb⟩
  have TB : Hid (∀ W : World, Below w.heap.size w W → Calls Try.prog 31 #[.slice ab B.length capb] W fun e w' => ∃ ar cr, e = .returned (.slice ar B.length cr) ∧ ZRow w' W.heap.size (.slice ar B.length cr) B ∧ Below W.heap.size W w') := fun W hW => by
    refine (toIntS_any B _ W (HB.out.below hW) (by omega)).mono ?_
    rintro e w' ⟨r, rfl, ho, hb⟩
    obtain ⟨ar, cr, rfl⟩ := ho.slice
    exact ⟨ar, cr, rfl, ho, hb⟩
  have hcl := cno_len A B
  have CS : Hid (∀ (W : World) (v1 v2 : Value), ZAt W W.heap.size v1 A → ZAt W W.heap.size v2 B → Calls Try.prog 30 #[v1, v2] W fun e w' => OInts W w' e (cno A B)) := fun W v1 v2 h1 h2 => specCompose A B v1 v2 W h1 h2 (by omega) (by omega)
  have CI : Hid (∀ (W : World) (v1 v2 : Value), ZAt W W.heap.size v1 A → ZAt W W.heap.size v2 B → Calls Try.prog 32 #[v1, v2] W fun e w' => OInts W w' e (cno A B)) := fun W v1 v2 h1 h2 => implCompose A B v1 v2 W h1 h2 (by omega) (by omega)
  obtain ⟨⟨l, ok⟩, hR⟩ : ∃ R, cno A B = R := ⟨_, rfl⟩
  rw [hR] at CS CI hcl
  dsimp only at hcl
  have hlm : l.length ≤ 1048576 := by omega
  have hmx : l.length ≤ maxLen := by unfold maxLen; omega
  clear hR hcl
  go_enter Try.func7, Try.ntmps7
  go_wp2_with fail
  refine (TA.out w (Below.refl _ _)).mono ?_
  rintro e w1 ⟨a1, c1, rfl, ho1, hb1⟩
  have HO1 : Hid (ZRow w1 w.heap.size (.slice a1 A.length c1) A) := ho1
  clear ho1
  go_wp2_with fail
  refine (TB.out w1 hb1).mono ?_
  rintro e w2 ⟨a2, c2, rfl, ho2, hb2⟩
  have hB2 : Below w.heap.size w w2 := hb1.trans (hb2.mono hb1.size)
  have HZ1 : Hid (ZAt w2 w2.heap.size (.slice a1 A.length c1) A) := (ZAt.own HO1.out).below hb2
  have HZ2 : Hid (ZAt w2 w2.heap.size (.slice a2 B.length c2) B) := ZAt.own ho2
  clear ho2 HO1 hb1 hb2
  go_wp2_with fail
  refine (CS.out w2 _ _ HZ1.out HZ2.out).mono ?_
  rintro e w3 ⟨v1, rfl, ho3, hb3⟩
  dsimp only
  have hB3 : Below w.heap.size w w3 := hB2.trans (hb3.mono hB2.size)
  have HZ3 : Hid (ZAt w3 w3.heap.size v1 l) := ZAt.own ho3
  have hs3 := hB3.size
  clear ho3 HZ1 HZ2 hb3 hB2 CS
  go_wp2_with fail
  refine (TA.out w3 hB3).mono ?_
  rintro e w4 ⟨a4, c4, rfl, ho4, hb4⟩
  have HO4 : Hid (ZRow w4 w3.heap.size (.slice a4 A.length c4) A) := ho4
  have HB4 : Hid (∀ g, (Value.slice a4 A.length c4).ownBlock = some g → w3.heap.size ≤ g ∧ g < w4.heap.size) := fun g hg => World.ownsRow.lt ho4 g hg
  have hB4 : Below w.heap.size w w4 := hB3.trans (hb4.mono hs3)
  have HX4 : Hid (Below w3.heap.size w3 w4) := hb4
  have hs4 := hb4.size
  clear ho4 hb4
  go_wp2_with fail
  refine (TB.out w4 hB4).mono ?_
  rintro e w5 ⟨a5, c5, rfl, ho5, hb5⟩
  have HO5 : Hid (ZRow w5 w4.heap.size (.slice a5 B.length c5) B) := ho5
  have HB5 : Hid (∀ g, (Value.slice a5 B.length c5).ownBlock = some g → w4.heap.size ≤ g ∧ g < w5.heap.size) := fun g hg => World.ownsRow.lt ho5 g hg
  have HO45 : Hid (ZRow w5 w3.heap.size (.slice a4 A.length c4) A) := HO4.out.below hb5
  have hB5 : Below w.heap.size w w5 := hB4.trans (hb5.mono hB4.size)
  have HX5 : Hid (Below w3.heap.size w3 w5) := HX4.out.trans (hb5.mono hs4)
  have hs5 := hb5.size
  clear ho5 hb5 HO4 HX4 hB4
  go_wp2_with fail
  refine (CI.out w5 _ _ (ZAt.own HO45.out) (ZAt.own HO5.out)).mono ?_
  rintro e w6 ⟨v2, rfl, ho6, hb6⟩
  dsimp only
  have HV6 : Hid (ZRow w6 w5.heap.size v2 l) := ho6
  have HVB : Hid (∀ g, v2.ownBlock = some g → w5.heap.size ≤ g) := fun g hg => (World.ownsRow.lt ho6 g hg).1
  have HO46 : Hid (ZRow w6 w3.heap.size (.slice a4 A.length c4) A) := HO45.out.below hb6
  have HO56 : Hid (ZRow w6 w4.heap.size (.slice a5 B.length c5) B) := HO5.out.below hb6
  have hB6 : Below w.heap.size w w6 := hB5.trans (hb6.mono hB5.size)
  have HX6 : Hid (Below w3.heap.size w3 w6) := HX5.out.trans (hb6.mono HX5.out.size)
  clear ho6 hb6 HO45 HO5 HX5 hB5
  go_wp2_with fail
  refine (eqZ_same l v2 v1 w6 (ZAt.own HV6.out) (HZ3.out.below HX6.out) (by omega)).mono ?_
  rintro e w7 ⟨rfl, hb7⟩
  have HV7 : Hid (ZRow w7 w5.heap.size v2 l) := HV6.out.below hb7
  have HO47 : Hid (ZRow w7 w3.heap.size (.slice a4 A.length c4) A) := HO46.out.below hb7
  have HO57 : Hid (ZRow w7 w4.heap.size (.slice a5 B.length c5) B) := HO56.out.below hb7
  have hB7 : Below w.heap.size w w7 := hB6.trans (hb7.mono hB6.size)
  have HX7 : Hid (Below w3.heap.size w3 w7) := HX6.out.trans (hb7.mono HX6.out.size)
  clear hb7 HV6 HO46 HO56 HX6 hB6
  go_wp2_with fail
  refine (TA.out w7 hB7).mono ?_
  rintro e w8 ⟨a8, c8, rfl, ho8, hb8⟩
  have HZ8 : Hid (ZAt w8 w8.heap.size (.slice a8 A.length c8) A) := ZAt.own ho8
  have HV8 : Hid (ZRow w8 w5.heap.size v2 l) := HV7.out.below hb8
  have HO48 : Hid (ZRow w8 w3.heap.size (.slice a4 A.length c4) A) := HO47.out.below hb8
  have HO58 : Hid (ZRow w8 w4.heap.size (.slice a5 B.length c5) B) := HO57.out.below hb8
  have hB8 : Below w.heap.size w w8 := hB7.trans (hb8.mono hB7.size)
  have HX8 : Hid (Below w3.heap.size w3 w8) := HX7.out.trans (hb8.mono HX7.out.size)
  clear hb8 HV7 HO47 HO57 HX7 hB7 ho8
  go_wp2_with fail
  refine (eqZ_same A _ _ w8 (ZAt.own HO48.out) HZ8.out (by omega)).mono ?_
  rintro e w9 ⟨rfl, hb9⟩
  have HV9 : Hid (ZRow w9 w5.heap.size v2 l) := HV8.out.below hb9
  have HO49 : Hid (ZRow w9 w3.heap.size (.slice a4 A.length c4) A) := HO48.out.below hb9
  have HO59 : Hid (ZRow w9 w4.heap.size (.slice a5 B.length c5) B) := HO58.out.below hb9
  have hB9 : Below w.heap.size w w9 := hB8.trans (hb9.mono hB8.size)
  have HX9 : Hid (Below w3.heap.size w3 w9) := HX8.out.trans (hb9.mono HX8.out.size)
  clear hb9 HV8 HO48 HO58 HX8 hB8 HZ8
  go_wp2_with fail
  refine (TB.out w9 hB9).mono ?_
  rintro e w10 ⟨a10, c10, rfl, ho10, hb10⟩
  have HZ10 : Hid (ZAt w10 w10.heap.size (.slice a10 B.length c10) B) := ZAt.own ho10
  have HV10 : Hid (ZRow w10 w5.heap.size v2 l) := HV9.out.below hb10
  have HO410 : Hid (ZRow w10 w3.heap.size (.slice a4 A.length c4) A) := HO49.out.below hb10
  have HO510 : Hid (ZRow w10 w4.heap.size (.slice a5 B.length c5) B) := HO59.out.below hb10
  have HX10 : Hid (Below w3.heap.size w3 w10) := HX9.out.trans (hb10.mono HX9.out.size)
  clear hb10 HV9 HO49 HO59 HX9 hB9 ho10
  go_wp2_with fail
  refine (eqZ_same B _ _ w10 (ZAt.own HO510.out) HZ10.out (by omega)).mono ?_
  rintro e w11 ⟨rfl, hb11⟩
  have HV11 : Hid (ZRow w11 w5.heap.size v2 l) := HV10.out.below hb11
  have HO411 : Hid (ZRow w11 w3.heap.size (.slice a4 A.length c4) A) := HO410.out.below hb11
  have HO511 : Hid (ZRow w11 w4.heap.size (.slice a5 B.length c5) B) := HO510.out.below hb11
  have HX11 : Hid (Below w3.heap.size w3 w11) := HX10.out.trans (hb11.mono HX10.out.size)
  clear hb11 HV10 HO410 HO510 HX10 HZ10
  go_wp2_with fail
  refine (markZ_any w3.heap.size A.length 1 _ _ w11 HO411.out (by omega) (by omega)).mono ?_
  rintro e w12 ⟨rfl, ⟨ys12, hy12, hm12⟩, hg12⟩
  clear hy12 hm12
  have HX12 : Hid (Below w3.heap.size w3 w12) := HX11.out.grown hg12 HX11.out.size (fun k hk => (HB4.out k hk).1)
  have HV12 : Hid (ZRow w12 w5.heap.size v2 l) := HV11.out.grown hg12 (fun g hg e => by have h1 := HVB.out g hg; have h2 := (HB4.out g e.symm).2; omega)
  have HO512 : Hid (ZRow w12 w4.heap.size (.slice a5 B.length c5) B) := HO511.out.grown hg12 (fun g hg e => by have h1 := (HB5.out g hg).1; have h2 := (HB4.out g e.symm).2; omega)
  clear hg12 HX11 HV11 HO411 HO511
  go_wp2_with fail
  refine (markZ_any w4.heap.size B.length (1 + A.length) _ _ w12 HO512.out (by omega) (by omega)).mono ?_
  rintro e w13 ⟨rfl, ⟨ys13, hy13, hm13⟩, hg13⟩
  clear hy13 hm13
  have HX13 : Hid (Below w3.heap.size w3 w13) := HX12.out.grown hg13 HX12.out.size (fun k hk => by have := (HB5.out k hk).1; omega)
  have HV13 : Hid (ZRow w13 w5.heap.size v2 l) := HV12.out.grown hg13 (fun g hg e => by have h1 := HVB.out g hg; have h2 := (HB5.out g e.symm).2; omega)
  have hk13 : (0 : Int) ≤ ((1 + A.length + B.length : Nat) : Int) := by omega
  clear hg13 HX12 HV12 HO512
  go_wp2_with fail
  refine (eqZ_same l v2 v1 w13 (ZAt.own HV13.out) (HZ3.out.below HX13.out) (by omega)).mono ?_
  rintro e w14 ⟨rfl, hb14⟩
  have HV14 : Hid (ZRow w14 w5.heap.size v2 l) := HV13.out.below hb14
  have HX14 : Hid (Below w3.heap.size w3 w14) := HX13.out.trans (hb14.mono HX13.out.size)
  clear hb14 HV13 HX13
  go_wp2_with fail
  refine (markIntS_any w5.heap.size l.length 1 v2 _ w14 HV14.out (by omega) (by omega)).mono ?_
  rintro e w15 ⟨rfl, ⟨ys15, ho15, hm15⟩, hb15⟩
  have HX15 : Hid (Below w3.heap.size w3 w15) := HX14.out.trans (hb15.mono (by omega))
  have HM15 : Hid (IntsAt w15 w15.heap.size v2 ((List.range l.length).map (1 + ·))) := markedInts ho15 hm15 hmx
  clear ho15 hm15 hb15 HX14 HV14
  go_wp2_with fail
  refine (heldIntS_any l.length 1 v2 _ HM15.out (by omega) (by omega)).mono ?_
  rintro e w16 ⟨rfl, hb16⟩
  have HX16 : Hid (Below w3.heap.size w3 w16) := HX15.out.trans (hb16.mono HX15.out.size)
  have HM16 : Hid (IntsAt w16 w16.heap.size v2 ((List.range l.length).map (1 + ·))) := HM15.out.below hb16
  have hB16 : Below w.heap.size w w16 := hB3.trans (HX16.out.mono hs3)
  have hge16 : (0 : Int) ≤ ((1 + l.length : Nat) : Int) := by omega
  clear hb16 HX15 HM15
  go_wp2_with fail
  refine (TA.out w16 hB16).mono ?_
  rintro e w17 ⟨a17, c17, rfl, ho17, hb17⟩
  have HZ17 : Hid (ZAt w17 w17.heap.size (.slice a17 A.length c17) A) := ZAt.own ho17
  have HX17 : Hid (Below w3.heap.size w3 w17) := HX16.out.trans (hb17.mono HX16.out.size)
  have HM17 : Hid (IntsAt w17 w17.heap.size v2 ((List.range l.length).map (1 + ·))) := HM16.out.below hb17
  have hB17 : Below w.heap.size w w17 := hB16.trans (hb17.mono hB16.size)
  clear hb17 HX16 HM16 ho17 hB16
  go_wp2_with fail
  refine (TB.out w17 hB17).mono ?_
  rintro e w18 ⟨a18, c18, rfl, ho18, hb18⟩
  have HZ18 : Hid (ZAt w18 w18.heap.size (.slice a18 B.length c18) B) := ZAt.own ho18
  have HZ178 : Hid (ZAt w18 w18.heap.size (.slice a17 A.length c17) A) := HZ17.out.below hb18
  have HX18 : Hid (Below w3.heap.size w3 w18) := HX17.out.trans (hb18.mono HX17.out.size)
  have HM18 : Hid (IntsAt w18 w18.heap.size v2 ((List.range l.length).map (1 + ·))) := HM17.out.below hb18
  clear hb18 HX17 HM17 ho18 hB17 HZ17
  go_wp2_with fail
  refine (CI.out w18 _ _ HZ178.out HZ18.out).mono ?_
  rintro e w19 ⟨v3, rfl, ho19, hb19⟩
  dsimp only
  have HZ19 : Hid (ZAt w19 w19.heap.size v3 l) := ZAt.own ho19
  have HX19 : Hid (Below w3.heap.size w3 w19) := HX18.out.trans (hb19.mono HX18.out.size)
  have HM19 : Hid (IntsAt w19 w19.heap.size v2 ((List.range l.length).map (1 + ·))) := HM18.out.below hb19
  clear hb19 HX18 HM18 ho19 HZ178 HZ18
  go_wp2_with fail
  refine (eqZ_same l v3 v1 w19 HZ19.out (HZ3.out.below HX19.out) (by omega)).mono ?_
  rintro e w20 ⟨rfl, hb20⟩
  have HX20 : Hid (Below w3.heap.size w3 w20) := HX19.out.trans (hb20.mono HX19.out.size)
  have HM20 : Hid (IntsAt w20 w20.heap.size v2 ((List.range l.length).map (1 + ·))) := HM19.out.below hb20
  clear hb20 HX19 HM19 HZ19
  go_wp2_with fail
  refine (heldIntS_any l.length 1 v2 _ HM20.out (by omega) (by omega)).mono ?_
  rintro e w21 ⟨rfl, hb21⟩
  have HX21 : Hid (Below w3.heap.size w3 w21) := HX20.out.trans (hb21.mono HX20.out.size)
  have hB21 : Below w.heap.size w w21 := hB3.trans (HX21.out.mono hs3)
  clear hb21 HX20 HM20
  go_wp2
  go_ret
  exact ⟨rfl, hB21⟩

namespace fnExactComposeNos
open Go.ChangeShapes Go.WideShapes Go.ChangeAt

theorem own : ownKnob Try.prog.godebug = none := by kernel_rfl
theorem laidOut : laidOutB Try.prog = true := by kernel_rfl

set_option maxRecDepth 100000 in
theorem lifted (os : Os) (started : os.Started) (H : Type) (enc : TypeId × Value → H) :
    ReturnsInHanded {} Try.checked os 7 .any (Rows.fnExactComposeNosSpec.pre6 enc Try.prog Try.f7 Rows.fnExactComposeNosRow.domain false) (Rows.fnExactComposeNosSpec.post enc Try.prog Try.f7 false true false false) := by
  refine returnsInHanded_of_change (C := Try.checked) own started (by kernel_rfl) Try.func7
    (ChangeSpec.witness6 (enc := enc) (C := Try.checked) false ⟨#[], #[.slice none 0 0, .slice none 0 0], []⟩ 8 (by kernel_rfl) (by kernel_rfl) (by kernel_rfl) (by kernel_rfl)) ?_
  intro W base args ds gs before hval0 hW hcnd _
  have hval : ∀ (j : Nat) t v, Try.f7.params[j]? = some t → args[j]? = some v → Value.okWide Try.prog W .any base t v := hval0
  have hW' := hW
  obtain ⟨p, q, hA0, hV, rfl, hfz, hnd⟩ := hW
  have hA : DataW.TrodAll enc Try.prog W 0 (fun _ => true) true Try.f7.params.toList args.toList ds p := hA0
  rw [Try.params7] at hA hval
  obtain ⟨v0, vs0, d0, ds0, p0, q0, hargs, rfl, rfl, h0, r0⟩ := trodAll_cons hA
  obtain ⟨v1, vs1, d1, ds1, p1, q1, rfl, rfl, rfl, h1, r1⟩ := trodAll_cons r0
  obtain ⟨rfl, rfl, rfl⟩ := trodAll_nil r1
  obtain rfl : args = #[v0, v1] := by cases args; simp_all
  obtain ⟨rfl, rfl⟩ := trodVars_none hV
  have h0k := h0
  have h1k := h1
  obtain ⟨T, hT⟩ := open_intsW (hval 0 59 v0 rfl rfl) h0
  obtain ⟨T', hT'⟩ := open_intsW (hval 1 59 v1 rfl rfl) h1
  clear hA0 hval0
  have hlt : ∀ x ∈ p0, x.block < W.heap.size := fun x hx => by
    have := hW'.lt x (by simp_all)
    simpa using this
  have hlt1 : ∀ x ∈ p1, x.block < W.heap.size := fun x hx => by
    have := hW'.lt x (by simp_all)
    simpa using this
  refine (walkComposeNos T T' v0 v1 W hT hT').mono fun e W' ⟨he, hg⟩ => ?_
  subst he
  exact ⟨_, rfl, _, _, _, [], _, [], hW', trodAll_mk1 (shut_bool Try.underlying4 _), (trodAll_cons_mk (Below.trod laidOut (by kernel_rfl) (of_decide_eq_true (by kernel_rfl)) h0k hg hlt) (trodAll_cons_mk (Below.trod laidOut (by kernel_rfl) (of_decide_eq_true (by kernel_rfl)) h1k hg hlt1) trodAll_mk0)), rfl, hg.frame _, fun h => by cases h⟩

theorem over : Rows.fnExactComposeNosRow.holds Try.pinned (OpenSpec.ofChange Rows.fnExactComposeNosSpec) :=
  OpenClaim.holds_of_wide 7 Try.f7 rfl rfl rfl rfl rfl rfl rfl ⟨rfl, rfl, rfl, rfl, rfl⟩ rfl rfl rfl rfl rfl (by kernel_rfl) Try.func7 (by kernel_rfl)
    (of_decide_eq_true (by kernel_rfl)) (by unfold Func.isWrapper; first | (rw [if_pos (by decide +kernel)]; kernel_rfl) | (rw [if_neg (by decide +kernel)]; exact ⟨rfl, rfl⟩))
    (fun os started H enc _ => lifted os started H enc)

end fnExactComposeNos

theorem fnExactComposeNos_holds : Rows.FnExactComposeNosSaid := fnExactComposeNos.over
#print axioms fnExactComposeNos_holds
end Go.Proofs.Ytpajdmhakdbkjaa
