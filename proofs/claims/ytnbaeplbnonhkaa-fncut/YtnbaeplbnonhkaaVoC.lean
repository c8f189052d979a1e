/- How many points a box has that others have not: the program's pointsLeft. -/
import Derived.Test.YtnbaeplbnonhkaaVoB
import Derived.Test.YtnbaeplbnonhkaaApB
namespace Go.Proofs.Ytnbaeplbnonhkaa
open Go.RowKit Plain Sch Bxs

theorem take_xb {X : List Bx} {i : Nat} (h : i < X.length) : X.take (i + 1) = X.take i ++ [xb X i] := by
  rw [List.take_add_one, List.getElem?_eq_getElem h]
  unfold xb
  rw [List.getD, List.getElem?_eq_getElem h]
  rfl

theorem xb_mem {X : List Bx} {i : Nat} (h : i < X.length) : xb X i ∈ X := by
  unfold xb
  rw [List.getD, List.getElem?_eq_getElem h]
  exact List.getElem_mem h

theorem lft_0 (x : Bx) (O : List Bx) : lft x (O.take 0) = [x] := rfl
theorem lft_step (x : Bx) {O : List Bx} {i : Nat} (h : i < O.length) : lft x (O.take (i + 1)) = cutAll (lft x (O.take i)) (xb O i) := by
  rw [take_xb h]
  unfold lft
  rw [List.foldl_append]
  rfl

theorem cutAll_step {P : List Bx} {o : Bx} {j : Nat} (h : j < P.length) : cutAll (P.take (j + 1)) o = cutAll (P.take j) o ++ cut (xb P j) o := by
  rw [take_xb h]
  unfold cutAll
  rw [List.flatMap_append]
  simp

theorem lft_ok {x : Bx} {O : List Bx} (hx : okB x = true) (hO : ∀ q ∈ O, okB q = true) : ∀ i, i ≤ O.length → (∀ q ∈ lft x (O.take i), okB q = true) ∧ sumP (lft x (O.take i)) ≤ pts x := by
  intro i
  induction i with
  | zero =>
    intro _
    rw [lft_0]
    refine ⟨fun q hq => by simp at hq; rw [hq]; exact hx, ?_⟩
    rw [sumP_cons, sumP_nil]
    omega
  | succ i ih =>
    intro hi
    obtain ⟨h1, h2⟩ := ih (by omega)
    rw [lft_step x (by omega)]
    have ho := hO _ (xb_mem (X := O) (i := i) (by omega))
    exact ⟨cutAll_ok h1 ho, Int.le_trans (cutAll_sum h1 ho) h2⟩

theorem sumP_take_le {P : List Bx} (hp : ∀ q ∈ P, okB q = true) (j : Nat) : 0 ≤ sumP (P.take j) ∧ sumP (P.take j) ≤ sumP P := by
  have e : sumP P = sumP (P.take j) + sumP (P.drop j) := by rw [← sumP_append, List.take_append_drop]
  have h1 := len_sum (ps := P.take j) (fun q hq => hp q (List.mem_of_mem_take hq))
  have h2 := len_sum (ps := P.drop j) (fun q hq => hp q (List.mem_of_mem_drop hq))
  omega

theorem arow_news {w : World} {B : Nat} {ao : Option Addr} {c : Nat} {X : List Bx} (h : ARow w B (.slice ao X.length c) X) : ∀ j u, (X.flatMap Bx.cells)[j]? = some u → ∃ ad, ao = some ad ∧ w.cell? (ad.add j) = some u := by
  intro j u hj
  have hjl : j < X.length * 6 := by
    have := (List.getElem?_eq_some_iff.1 hj).1
    rw [flat6B_len] at this
    exact this
  rcases h.2 with ⟨hv, hn⟩ | ⟨g, cap, cur, hv, _⟩
  · omega
  · simp only [Value.slice.injEq, true_and] at hv
    obtain ⟨rfl, rfl⟩ := hv
    refine ⟨_, rfl, ?_⟩
    have hc := World.ownsRow.cellAt h j (by omega)
    have e : Addr.add ⟨g, 0, none⟩ j = ⟨g, j, none⟩ := by
      unfold Addr.add
      by_cases h0 : j = 0
      · simp [h0]
      · simp [h0]
    rw [e, hc]
    exact hj

theorem one6L (X : List Bx) : ∀ u ∈ X.flatMap Bx.cells, u.oneCell' = true := by
  intro u hu
  rw [List.mem_flatMap] at hu
  obtain ⟨s, _, hs⟩ := hu
  exact one6B _ _ _ _ _ _ u hs

theorem grown_belowC {w w9 : World} {B e size n : Nat} {v : Value} {xs : List Value} (h : w.ownsRow B e size v n xs) (hgrow : w.grownBy w9 v.ownBlock) (hB : B ≤ w.heap.size) : Below B w w9 := by
  have hlt := h.lt
  refine ⟨hgrow.os, hgrow.tape, hgrow.output, hgrow.size, fun j hj => ?_⟩
  exact hgrow.block j (by omega) (fun e => by have := (hlt j e.symm).1; omega)

set_option maxRecDepth 100000 in
set_option maxHeartbeats 16000000 in
theorem pointsLeft_any (x : Bx) (O : List Bx) (v : Value) (w : World) (hv : AsAt w w.heap.size v O) (hx : okB x = true) (hO : ∀ q ∈ O, okB q = true) (h20 : O.length ≤ 20) :
    Calls Try.prog 51 #[x.val, v] w fun e w' => e = .returned (.int .i64 (sumP (lft x O))) ∧ Below w.heap.size w w' := by
  obtain ⟨i0, hi0, hz0, hz1', hz2⟩ := info_parts Try.infoArr
  have HLK : Hid (∀ i, i ≤ O.length → (∀ q ∈ lft x (O.take i), okB q = true) ∧ sumP (lft x (O.take i)) ≤ pts x) := lft_ok hx hO
  have HPX : Hid (pts x ≤ 8012006001) := pts_le hx
  have HOO : Hid (∀ q ∈ O, okB q = true) := hO
  have HST : Hid (∀ i, i < O.length → lft x (O.take (i + 1)) = cutAll (lft x (O.take i)) (xb O i)) := fun i hi => lft_step x hi
  have HL0 : Hid (lft x (O.take 0) = [x]) := rfl
  obtain ⟨R, hR⟩ : ∃ R, R = sumP (lft x O) := ⟨_, rfl⟩
  rw [← hR]
  have HR : Hid (R = sumP (lft x (O.take O.length))) := by show _ = _; rw [hR, List.take_length]
  clear hR hx hO
  obtain ⟨ao, cap, rfl, hlc, hcm, hrow⟩ := hv
  unfold maxLen at hcm
  have HROW : Hid (∀ i, i < O.length → ∃ g o, ao = some ⟨g, o, none⟩ ∧ g < w.heap.size ∧ ArrIn w g (o + i * 6) (xb O i)) := hrow
  clear hrow
  obtain ⟨FF, hFF⟩ : ∃ FF : Nat → List Bx, FF = fun i => lft x (O.take i) := ⟨_, rfl⟩
  have HF0 : Hid (FF 0 = [x]) := by rw [hFF]; rfl
  have HFS : Hid (∀ i, i < O.length → FF (i + 1) = cutAll (FF i) (xb O i)) := fun i hi => by rw [hFF]; exact HST.out i hi
  have HFK : Hid (∀ i, i ≤ O.length → (∀ q ∈ FF i, okB q = true) ∧ sumP (FF i) ≤ 8012006001) := fun i hi => by rw [hFF]; exact ⟨(HLK.out i hi).1, Int.le_trans (HLK.out i hi).2 HPX.out⟩
  have HRF : Hid (R = sumP (FF O.length)) := by rw [hFF]; exact HR.out
  clear hFF HLK HST HL0 HR HPX
  obtain ⟨W1, hW1⟩ : ∃ W, W = w.alloc x.obj := ⟨_, rfl⟩
  have hB1 : Below w.heap.size w W1 := by rw [hW1]; exact (Below.refl _ w).alloc (Nat.le_refl _) _
  have hA2 : Hid (ArrAt W1 w.heap.size x) := by rw [hW1]; exact ArrAt.made w x
  obtain ⟨W2, hW2⟩ : ∃ W, W = W1.alloc x.obj := ⟨_, rfl⟩
  have hB12 : Below W1.heap.size W1 W2 := by rw [hW2]; exact (Below.refl _ W1).alloc (Nat.le_refl _) _
  have HB2 : Hid (Below w.heap.size w W2) := hB1.trans (hB12.mono hB1.size)
  have HP2 : Hid (AsAt W2 W2.heap.size (.slice (some ⟨W1.heap.size, 0, none⟩) 1 1) (FF 0)) := by
    rw [HF0.out, hW2]
    exact ARow.at (B := W1.heap.size) (X := [x]) ⟨rfl, .inr ⟨W1.heap.size, 1, _, rfl, Nat.le_refl _, heap_alloc_new W1 _, Nat.le_refl _, by unfold maxLen; omega, rfl, rfl⟩⟩
  obtain ⟨_, ⟨c0, c1, c2, c3, c4, c5⟩, _⟩ := hA2.out
  obtain ⟨⟨x0, x1⟩, ⟨x2, x3⟩, ⟨x4, x5⟩⟩ := x
  unfold Bx.val
  dsimp only [Bx.obj, Nat.zero_add] at hW1 hW2 c0 c1 c2 c3 c4 c5
  go_enter Try.func51, Try.ntmps51
  go_upto_region 1 with fail
  rw [← hW1]
  clear hW1
  go_upto_region 2 with fail
  rw [← hW2]
  clear hW2 c0 c1 c2 c3 c4 c5 hA2 hB12 hB1 HF0
  go_wp2
  go_loopw [5, 18] (fun vl vi wr => ∃ i : Nat, i ≤ O.length ∧ vi = .int .i64 (i : Int) ∧ Hid (AsAt wr wr.heap.size vl (FF i)) ∧ Hid (Below w.heap.size w wr))
    (fun _ vi _ => O.length - (intOf vi).toNat)
  case atStart => exact ⟨0, by omega, rfl, HP2, HB2⟩
  case round =>
    clear HP2 HB2
    obtain ⟨i, hi, rfl, hPi, hBi⟩ := hrel
    have hsz : w.heap.size ≤ wr.heap.size := hBi.out.size
    obtain ⟨P, hP⟩ : ∃ P, P = FF i := ⟨_, rfl⟩
    rw [← hP] at hPi
    obtain ⟨hPok, hPs⟩ := HFK.out i hi
    rw [← hP] at hPok hPs
    have HPOK : Hid (∀ q ∈ P, okB q = true) := hPok
    have HPS : Hid (sumP P ≤ 8012006001) := hPs
    have hPl : P.length ≤ 8012006001 := by have := len_sum hPok; omega
    have HPE : Hid (P = FF i) := hP
    clear hP hPok hPs
    obtain ⟨ap, cp, hvp, hlp, hcp, hrp⟩ := hPi.out
    subst hvp
    unfold maxLen at hcp
    have HRP : Hid (∀ j, j < P.length → ∃ g o, ap = some ⟨g, o, none⟩ ∧ g < wr.heap.size ∧ ArrIn wr g (o + j * 6) (xb P j)) := hrp
    clear hrp hPi
    by_cases hlt : i < O.length
    · have hlt' : (i : Int) < (O.length : Int) := by omega
      obtain ⟨g, o, rfl, hg, hc⟩ := HROW.out i hlt
      have hci := hc.below hBi.out hg
      have hyok : okB (xb O i) = true := HOO.out _ (xb_mem hlt)
      have HNX : Hid (FF (i + 1) = cutAll P (xb O i)) := by show _ = _; rw [HFS.out i hlt, HPE.out]
      obtain ⟨y, hy⟩ : ∃ y, y = xb O i := ⟨_, rfl⟩
      rw [← hy] at hci hyok HNX
      have HYOK : Hid (okB y = true) := hyok
      clear hy hyok hc
      obtain ⟨W3, hW3⟩ : ∃ W, W = wr.alloc y.obj := ⟨_, rfl⟩
      have hA7 : Hid (ArrAt W3 wr.heap.size y) := by rw [hW3]; exact ArrAt.made wr y
      have hB3 : Below wr.heap.size wr W3 := by rw [hW3]; exact (Below.refl _ wr).alloc (Nat.le_refl _) _
      have HB3 : Hid (Below w.heap.size w W3) := hBi.out.trans (hB3.mono hsz)
      have HRP3 : Hid (∀ j, j < P.length → ∃ g o, ap = some ⟨g, o, none⟩ ∧ g < W3.heap.size ∧ ArrIn W3 g (o + j * 6) (xb P j)) := fun j hj => by
        obtain ⟨g, o, h1, h2, h3⟩ := HRP.out j hj
        exact ⟨g, o, h1, by have := hB3.size; omega, h3.below hB3 h2⟩
      have hs3 : wr.heap.size < W3.heap.size := hA7.out.1
      have HCL : Hid (∀ j, j ≤ P.length → (cutAll (P.take j) y).length ≤ 8012006001) := fun j hj => by
        have h1 := len_sum (cutAll_ok (ps := P.take j) (o := y) (fun q hq => HPOK.out q (List.mem_of_mem_take hq)) HYOK.out)
        have h2 := cutAll_sum (ps := P.take j) (o := y) (fun q hq => HPOK.out q (List.mem_of_mem_take hq)) HYOK.out
        have h3 := (sumP_take_le HPOK.out j).2
        have h4 := HPS.out
        omega
      obtain ⟨⟨y0, y1⟩, ⟨y2, y3⟩, ⟨y4, y5⟩⟩ := y
      obtain ⟨e0, e1, e2, e3, e4, e5⟩ := hci
      dsimp only [Bx.obj] at hW3
      dsimp only at e0 e1 e2 e3 e4 e5
      go_upto_region 5 with fail
      rw [← hW3]
      clear hW3 e0 e1 e2 e3 e4 e5 hB3 HRP hBi
      go_wp2
      obtain ⟨wo, rfl⟩ : ∃ W, W = wr := ⟨_, rfl⟩
      go_loopw [8, 24] (fun vl vi wr => ∃ j : Nat, j ≤ P.length ∧ vi = .int .i64 (j : Int) ∧ Hid (ARow wr W3.heap.size vl (cutAll (P.take j) ⟨⟨y0, y1⟩, ⟨y2, y3⟩, ⟨y4, y5⟩⟩)) ∧ Hid (Below W3.heap.size W3 wr))
        (fun _ vi _ => P.length - (intOf vi).toNat)
      case atStart => exact ⟨0, by omega, rfl, ARow.nil _ _, Below.refl _ _⟩
      case round =>
        obtain ⟨j, hj, rfl, hLj, hBj⟩ := hrel
        obtain ⟨L, hL⟩ : ∃ L, L = cutAll (P.take j) ⟨⟨y0, y1⟩, ⟨y2, y3⟩, ⟨y4, y5⟩⟩ := ⟨_, rfl⟩
        have HL : Hid (L = cutAll (P.take j) ⟨⟨y0, y1⟩, ⟨y2, y3⟩, ⟨y4, y5⟩⟩) := hL
        rw [← hL] at hLj
        clear hL
        obtain ⟨av, cv, hv0⟩ := hLj.out.slice
        subst hv0
        have hszj : W3.heap.size ≤ wr.heap.size := hBj.out.size
        by_cases hltj : j < P.length
        · have hltj' : (j : Int) < (P.length : Int) := by omega
          obtain ⟨g2, o2, rfl, hg2, hc2⟩ := HRP3.out j hltj
          have hci2 := hc2.below hBj.out hg2
          have hpok : okB (xb P j) = true := HPOK.out _ (xb_mem hltj)
          have HNL : Hid (cutAll (P.take (j + 1)) ⟨⟨y0, y1⟩, ⟨y2, y3⟩, ⟨y4, y5⟩⟩ = L ++ cut (xb P j) ⟨⟨y0, y1⟩, ⟨y2, y3⟩, ⟨y4, y5⟩⟩) := by show _ = _; rw [HL.out]; exact cutAll_step hltj
          have hbd : (L ++ cut (xb P j) ⟨⟨y0, y1⟩, ⟨y2, y3⟩, ⟨y4, y5⟩⟩).length ≤ 8012006001 := by rw [← HNL.out]; exact HCL.out (j + 1) (by omega)
          obtain ⟨p, hp⟩ : ∃ p, p = xb P j := ⟨_, rfl⟩
          rw [← hp] at hci2 hpok HNL hbd
          clear hp hc2
          obtain ⟨W5, hW5⟩ : ∃ W, W = wr.alloc p.obj := ⟨_, rfl⟩
          have hA10 : Hid (ArrAt W5 wr.heap.size p) := by rw [hW5]; exact ArrAt.made wr p
          have hB5 : Below wr.heap.size wr W5 := by rw [hW5]; exact (Below.refl _ wr).alloc (Nat.le_refl _) _
          have hA75 : Hid (ArrAt W5 wo.heap.size ⟨⟨y0, y1⟩, ⟨y2, y3⟩, ⟨y4, y5⟩⟩) := (hA7.out.below hBj.out hs3).below hB5 (by omega)
          have CW : Hid (Calls Try.prog 49 #[p.val, .agg #[.int .i64 y0, .int .i64 y1, .int .i64 y2, .int .i64 y3, .int .i64 y4, .int .i64 y5]] W5 fun e w' => ∃ r, e = .returned r ∧ ARow w' W5.heap.size r (cut p ⟨⟨y0, y1⟩, ⟨y2, y3⟩, ⟨y4, y5⟩⟩) ∧ Below W5.heap.size W5 w') := without_any p ⟨⟨y0, y1⟩, ⟨y2, y3⟩, ⟨y4, y5⟩⟩ W5 hpok HYOK.out
          obtain ⟨X, hX⟩ : ∃ X, X = cut p ⟨⟨y0, y1⟩, ⟨y2, y3⟩, ⟨y4, y5⟩⟩ := ⟨_, rfl⟩
          rw [← hX] at CW HNL hbd
          rw [List.length_append] at hbd
          clear hX hpok
          obtain ⟨_, ⟨f0, f1, f2, f3, f4, f5⟩, _⟩ := hA10.out
          obtain ⟨_, ⟨h0, h1, h2, h3, h4, h5⟩, _⟩ := hA75.out
          obtain ⟨⟨p0, p1⟩, ⟨p2, p3⟩, ⟨p4, p5⟩⟩ := p
          obtain ⟨e0, e1, e2, e3, e4, e5⟩ := hci2
          unfold Bx.val at CW
          dsimp only [Bx.obj] at hW5
          dsimp only [Nat.zero_add] at e0 e1 e2 e3 e4 e5 f0 f1 f2 f3 f4 f5 h0 h1 h2 h3 h4 h5 CW
          go_upto_region 9 with fail
          rw [← hW5]
          clear hW5 e0 e1 e2 e3 e4 e5
          go_wp2_with fail
          refine CW.out.mono ?_
          rintro e w6 ⟨r6, rfl, hr6, hb6⟩
          have hB6 : Below wr.heap.size wr w6 := hB5.trans (hb6.mono hB5.size)
          have HL6 : Hid (ARow w6 W3.heap.size (.slice av L.length cv) L) := hLj.out.below hB6
          have HB6 : Hid (Below W3.heap.size W3 w6) := hBj.out.trans (hB6.mono hszj)
          obtain ⟨ar, cr, hvr⟩ := hr6.slice
          subst hvr
          have HR6 : Hid (ARow w6 W5.heap.size (.slice ar X.length cr) X) := hr6
          have hs6 : W3.heap.size ≤ w6.heap.size := HB6.out.size
          clear hr6 hb6 hB5 hB6 CW hA10 hA75 hLj hBj f0 f1 f2 f3 f4 f5 h0 h1 h2 h3 h4 h5
          go_wp2_with (at_builtin; refine wpList_append_may w6 rfl _ _ 71 rfl W3.heap.size 60 i0 (.agg #[.int .i64 0, .int .i64 0, .int .i64 0, .int .i64 0, .int .i64 0, .int .i64 0]) 6 48 Try.underlying71 hi0 hz0 hz1' hz2 rfl (by decide) _ L.length _ rfl HL6.out ar X.length cr (X.flatMap Bx.cells) rfl (flat6B_len X) (arow_news HR6.out) (one6L X) (by unfold maxLen; omega) (by omega) hs6 ?_)
          intro a9 cap9 w9 hown9 hgrow9 hat9
          have HA9 : Hid (ARow w9 W3.heap.size (.slice a9 (L.length + X.length) cap9) (L ++ X)) := by
            show World.ownsRow _ _ _ _ _ _ _
            rw [List.length_append, List.flatMap_append]
            exact hown9
          have HB9 : Hid (Below W3.heap.size W3 w9) := HB6.out.trans (grown_belowC HL6.out hgrow9 hs6)
          clear hown9 hgrow9 hat9 HL6 HB6 HR6
          go_wp2
          go_roundw
          case rel => first | exact ⟨j + 1, by omega, by go_num, by show ARow _ _ _ _; rw [HNL.out]; exact HA9.out, HB9⟩ | ((repeat apply Exists.intro); exact ⟨⟨j + 1, by omega, by go_num, by show ARow _ _ _ _; rw [HNL.out]; exact HA9.out, HB9⟩, rfl⟩)
          case measure => simp [intOf]; omega
        · have hke : j = P.length := by omega
          subst hke
          have hge : ¬ ((P.length : Int) < (P.length : Int)) := by omega
          have HPN : Hid (AsAt wr wr.heap.size (.slice av L.length cv) (FF (i + 1))) := by
            have e : L = FF (i + 1) := by rw [HL.out, HNX.out, List.take_length]
            rw [← e]
            exact hLj.out.at
          have HBN : Hid (Below w.heap.size w wr) := HB3.out.trans (hBj.out.mono (by omega))
          clear hLj hBj
          go_wp2
          go_roundw
          case rel => first | exact ⟨i + 1, by omega, by go_num, HPN, HBN⟩ | ((repeat apply Exists.intro); exact ⟨⟨i + 1, by omega, by go_num, HPN, HBN⟩, rfl⟩)
          case measure => simp [intOf]; omega
    · have hke : i = O.length := by omega
      subst hke
      have hge : ¬ ((O.length : Int) < (O.length : Int)) := by omega
      have HRP9 : Hid (R = sumP (P.take P.length)) := by show _ = _; rw [HRF.out, ← HPE.out, List.take_length]
      go_wp2
      obtain ⟨wo, rfl⟩ : ∃ W, W = wr := ⟨_, rfl⟩
      go_loopw [11, 38] (fun vm vi wr => ∃ j : Nat, j ≤ P.length ∧ vi = .int .i64 (j : Int) ∧ vm = .int .i64 (sumP (P.take j)) ∧ Hid (Below wo.heap.size wo wr))
        (fun _ vi _ => P.length - (intOf vi).toNat)
      case atStart => exact ⟨0, by omega, rfl, rfl, Below.refl _ _⟩
      case round =>
        obtain ⟨j, hj, rfl, rfl, hBj⟩ := hrel
        by_cases hltj : j < P.length
        · have hltj' : (j : Int) < (P.length : Int) := by omega
          obtain ⟨g2, o2, rfl, hg2, hc2⟩ := HRP.out j hltj
          have hci2 := hc2.below hBj.out hg2
          have hpok : okB (xb P j) = true := HPOK.out _ (xb_mem hltj)
          have hst : sumP (P.take (j + 1)) = sumP (P.take j) + pts (xb P j) := by rw [take_xb hltj, sumP_append, sumP_cons, sumP_nil]; omega
          have hb0 := (sumP_take_le HPOK.out j).1
          have hb1 := (sumP_take_le HPOK.out (j + 1)).2
          have hb2 := HPS.out
          have hb3 := pts_pos hpok
          obtain ⟨p, hp⟩ : ∃ p, p = xb P j := ⟨_, rfl⟩
          rw [← hp] at hci2 hpok hst hb3
          clear hp hc2
          obtain ⟨S, hS⟩ : ∃ S, S = sumP (P.take j) := ⟨_, rfl⟩
          obtain ⟨Q, hQ⟩ : ∃ Q, Q = pts p := ⟨_, rfl⟩
          rw [← hS] at hst hb0 ⊢
          have CP : Hid (∀ W : World, Calls Try.prog 59 #[p.val] W fun e w' => e = .returned (.int .i64 Q) ∧ Below W.heap.size W w') := fun W => by rw [hQ]; exact points_any p W hpok
          rw [← hQ] at hst hb3
          have HST : Hid (sumP (P.take (j + 1)) = S + Q) := hst
          have hq1 : S + Q ≤ 8012006001 := by omega
          clear hS hQ hpok hst hb1 hb2
          obtain ⟨W5, hW5⟩ : ∃ W, W = wr.alloc p.obj := ⟨_, rfl⟩
          have hA13 : Hid (ArrAt W5 wr.heap.size p) := by rw [hW5]; exact ArrAt.made wr p
          have hB5 : Below wr.heap.size wr W5 := by rw [hW5]; exact (Below.refl _ wr).alloc (Nat.le_refl _) _
          have HB5 : Hid (Below wo.heap.size wo W5) := hBj.out.trans (hB5.mono hBj.out.size)
          obtain ⟨_, ⟨f0, f1, f2, f3, f4, f5⟩, _⟩ := hA13.out
          obtain ⟨⟨p0, p1⟩, ⟨p2, p3⟩, ⟨p4, p5⟩⟩ := p
          obtain ⟨e0, e1, e2, e3, e4, e5⟩ := hci2
          unfold Bx.val at CP
          dsimp only [Bx.obj] at hW5
          dsimp only [Nat.zero_add] at e0 e1 e2 e3 e4 e5 f0 f1 f2 f3 f4 f5 CP
          go_upto_region 17 with fail
          rw [← hW5]
          clear hW5 e0 e1 e2 e3 e4 e5 hB5 hBj
          go_wp2_with fail
          refine (CP.out _).mono ?_
          rintro e w6 ⟨rfl, hb6⟩
          have HB6 : Hid (Below wo.heap.size wo w6) := HB5.out.trans (hb6.mono HB5.out.size)
          clear hb6 HB5 hA13 f0 f1 f2 f3 f4 f5 CP
          go_wp2
          go_roundw
          case rel => first | exact ⟨j + 1, by omega, by go_num, by rw [HST.out], HB6⟩ | ((repeat apply Exists.intro); exact ⟨⟨j + 1, by omega, by go_num, by rw [HST.out], HB6⟩, rfl⟩)
          case measure => simp [intOf]; omega
        · have hkj : j = P.length := by omega
          subst hkj
          have hgj : ¬ ((P.length : Int) < (P.length : Int)) := by omega
          have HE : Hid (R = sumP (P.take P.length)) := HRP9
          have HBE : Hid (Below w.heap.size w wr) := hBi.out.trans (hBj.out.mono hsz)
          go_wp2
          go_ret
          exact ⟨by rw [HE.out, List.take_length]; rfl, HBE.out⟩

end Go.Proofs.Ytnbaeplbnonhkaa
