/- The model's VolumeOf, walked. -/
import Derived.Test.YtnbaeplbnonhkaaByZ
namespace Go.Proofs.Ytnbaeplbnonhkaa
open Go.RowKit Plain Sch Bxs

theorem xb_mapV {M : List (List Sd)} {i : Nat} (h : i < M.length) : xb (M.map bx) i = bx (mx M i) := by
  unfold xb mx
  rw [List.getD, List.getD, List.getElem?_map, List.getElem?_eq_getElem h]
  rfl

set_option maxRecDepth 100000 in
set_option maxHeartbeats 16000000 in
theorem specVol (M : List (List Sd)) (v : Value) (w : World) (hT : BxsAt w w.heap.size v M) :
    Calls Try.prog 28 #[v] w fun e w' => e = .returned (.tuple #[.int .i64 (volM M), .bool (gl M)]) ∧ Below w.heap.size w w' := by
  obtain ⟨i0, hi0, hz0, hz1', hz2⟩ := info_parts Try.infoBx
  have HT : Hid (BxsAt w w.heap.size v M) := hT
  obtain ⟨ao, cap, rfl, hlc, hcm, hrow⟩ := hT
  unfold maxLen at hcm
  have HROW0 : Hid (∀ i, i < M.length → ∃ g o u, ao = some ⟨g, o, none⟩ ∧ g < w.heap.size ∧ w.cell? ⟨g, o + i, none⟩ = some u ∧ SdsAt w w.heap.size u (mx M i)) := hrow
  clear hrow
  obtain ⟨R, hR⟩ : ∃ R, R = volM M := ⟨_, rfl⟩
  rw [← hR]
  have HR : Hid (R = volM M) := hR
  clear hR
  go_enter Try.func28, Try.ntmps28
  go_wp2_with fail
  refine (l9Boxes_any M _ _ HT.out).mono ?_
  rintro e w2 ⟨rfl, hb2⟩
  by_cases h1 : gl M = true
  case neg =>
    have h1' : gl M = false := by simpa using h1
    have hF : Hid (R = 0 ∧ gl M = false) := ⟨by rw [HR.out]; unfold volM; rw [h1']; rfl, h1'⟩
    rw [h1']
    clear h1 h1' HR
    go_wp2
    go_ret2
    exact ⟨by rw [hF.out.1, hF.out.2]; rfl, hb2⟩
  obtain ⟨X, hX⟩ : ∃ X, X = M.map bx := ⟨_, rfl⟩
  have hXl : X.length = M.length := by rw [hX, List.length_map]
  have h20 : X.length ≤ 20 := by rw [hXl]; exact (gl_get h1).1
  have HF : Hid (R = vsum X X.length ∧ gl M = true) := ⟨by rw [HR.out, hXl, hX]; unfold volM; rw [h1]; rfl, h1⟩
  have HOK : Hid (∀ q ∈ X, okB q = true) := by rw [hX]; exact sal_ok h1
  have HROW : Hid (∀ i, i < X.length → ∃ g o u c, ao = some ⟨g, o, none⟩ ∧ g < w.heap.size ∧ w.cell? ⟨g, o + i, none⟩ = some (.slice u 3 c) ∧ SdsAt w w.heap.size (.slice u 3 c) (xb X i).list) := fun i hi => by
    obtain ⟨g, o, u, ha, hg, hc, hs⟩ := HROW0.out i (by omega)
    have e : mx M i = (xb X i).list := by rw [hX, xb_mapV (by omega)]; exact (gb_good ((gl_get h1).2 i (by omega))).1
    rw [e] at hs
    obtain ⟨su, cu, hu, _⟩ := id hs
    subst hu
    exact ⟨g, o, su, cu, ha, hg, hc, hs⟩
  have hlcX : X.length ≤ cap := by omega
  rw [h1]
  rw [← hXl] at *
  clear h1 hX HR HROW0 HT hXl
  go_wp2
  go_loopw [4, 23] (fun vn vi wr => ∃ i : Nat, i ≤ X.length ∧ vi = .int .i64 (i : Int) ∧ vn = .int .i64 (vsum X i) ∧ Hid (Below w.heap.size w wr))
    (fun _ vi _ => X.length - (intOf vi).toNat)
  case atStart => exact ⟨0, by omega, rfl, rfl, hb2⟩
  case round =>
    clear hb2
    obtain ⟨i, hi, rfl, rfl, hBi⟩ := hrel
    by_cases hlt : i < X.length
    case neg =>
      have hke : i = X.length := by omega
      subst hke
      have hge : ¬ ((X.length : Int) < (X.length : Int)) := by omega
      obtain ⟨V, hV⟩ : ∃ V, V = vsum X X.length := ⟨_, rfl⟩
      have HE : Hid (R = V) := by show _ = _; rw [HF.out.1, hV]
      rw [← hV]
      clear hV
      go_wp2
      go_ret2
      exact ⟨by rw [HE.out, HF.out.2]; rfl, hBi.out⟩
    have hlt' : (i : Int) < (X.length : Int) := by omega
    have hic : (i : Int) ≤ (cap : Int) := by omega
    have hicn : i ≤ cap := by omega
    obtain ⟨g, o, su, cu, rfl, hg, hc, hs⟩ := HROW.out i hlt
    have c0 := (hBi.out.cell (p := ⟨g, o + i, none⟩) hg).trans hc
    have hsi := hs.below hBi.out
    have hxok : okB (xb X i) = true := HOK.out _ (xb_mem hlt)
    have HVS : Hid (vsum X (i + 1) = vsum X i + sumP (lft (xb X i) (X.take i))) := vsum_step X i
    have hvb := vsum_bound HOK.out i hi
    have hvc : (8012006001 : Int) * i ≤ 8012006001 * 20 := by omega
    obtain ⟨V, hV⟩ : ∃ V, V = vsum X i := ⟨_, rfl⟩
    have hV0 : 0 ≤ V := by rw [hV]; omega
    have hV1 : V ≤ 200000000000 := by rw [hV]; omega
    obtain ⟨x, hx⟩ : ∃ x, x = xb X i := ⟨_, rfl⟩
    have hlk := lft_ok (x := x) (O := X.take i) (by rw [hx]; exact hxok) (fun q hq => HOK.out q (List.mem_of_mem_take hq))
    have hxl : (X.take i).length = i := by rw [List.length_take]; omega
    have htt : ∀ k, k ≤ i → (X.take i).take k = X.take k := fun k hk => by rw [List.take_take, Nat.min_eq_left hk]
    obtain ⟨FF, hFF⟩ : ∃ FF : Nat → List Bx, FF = fun k => lft x (X.take k) := ⟨_, rfl⟩
    have hpx : pts x ≤ 8012006001 := by rw [hx]; exact pts_le hxok
    have HFK : Hid (∀ k, k ≤ i → (∀ q ∈ FF k, okB q = true) ∧ sumP (FF k) ≤ 8012006001) := fun k hk => by
      have h := hlk k (by omega)
      rw [htt k hk] at h
      rw [hFF]
      exact ⟨h.1, Int.le_trans h.2 hpx⟩
    have HF0 : Hid (FF 0 = [x]) := by rw [hFF]; rfl
    have HFS : Hid (∀ k, k < X.length → FF (k + 1) = cutAll (FF k) (xb X k)) := fun k hk => by rw [hFF]; exact lft_step x hk
    have HVN : Hid (vsum X (i + 1) = V + sumP (FF i)) := by show _ = _; rw [HVS.out, hV, hFF, hx]
    rw [← hx] at hsi
    rw [← hV]
    clear hFF hV hlk hxl htt hpx hvb hvc HVS hxok hx hs hc
    obtain ⟨W3, hW3⟩ : ∃ W, W = wr.alloc (.cells #[.slice su 3 cu] 25) := ⟨_, rfl⟩
    have hB3 : Below wr.heap.size wr W3 := by rw [hW3]; exact (Below.refl _ wr).alloc (Nat.le_refl _) _
    have z6 : W3.cell? ⟨wr.heap.size, 0, none⟩ = some (.slice su 3 cu) := by rw [hW3]; go_simp
    have hl3 : wr.heap.size < W3.heap.size := by rw [hW3]; simp
    obtain ⟨W4, hW4⟩ : ∃ W, W = W3.alloc (.cells #[.slice su 3 cu] 25) := ⟨_, rfl⟩
    have hB34 : Below W3.heap.size W3 W4 := by rw [hW4]; exact (Below.refl _ W3).alloc (Nat.le_refl _) _
    have hB4 : Below wr.heap.size wr W4 := hB3.trans (hB34.mono (by omega))
    have HB4 : Hid (Below w.heap.size w W4) := hBi.out.trans (hB4.mono hBi.out.size)
    have HP0 : Hid (PAt W4 (.slice (some ⟨W3.heap.size, 0, none⟩) 1 1) (FF 0)) := by
      rw [HF0.out]
      refine ⟨some ⟨W3.heap.size, 0, none⟩, 1, rfl, by simp, by unfold maxLen; omega, fun j hj => ?_⟩
      have e : j = 0 := by simp at hj; omega
      subst e
      refine ⟨W3.heap.size, 0, su, cu, rfl, by rw [hW4]; simp, by rw [hW4]; go_simp, hsi.below hB4⟩
    go_upto_region 7 with fail
    rw [← hW3]
    clear hW3 c0
    go_upto_region 8 with fail
    rw [← hW4]
    clear hW4 z6 hB3 hB34 hB4 hsi hBi
    go_wp2
    obtain ⟨wo, rfl⟩ : ∃ W, W = wr := ⟨_, rfl⟩
    go_loopw [7, 34] (fun vp vk wr => ∃ k : Nat, k ≤ i ∧ vk = .int .i64 (k : Int) ∧ Hid (PAt wr vp (FF k)) ∧ Hid (Below w.heap.size w wr))
      (fun _ vk _ => i - (intOf vk).toNat)
    case atStart => exact ⟨0, by omega, rfl, HP0, HB4⟩
    case round =>
      clear HP0 HB4
      obtain ⟨k, hk, rfl, hPk, hBk⟩ := hrel
      obtain ⟨P, hP⟩ : ∃ P, P = FF k := ⟨_, rfl⟩
      have hPK := HFK.out k hk
      rw [← hP] at hPk hPK
      have HPOK : Hid (∀ q ∈ P, okB q = true) := hPK.1
      have HPS : Hid (sumP P ≤ 8012006001) := hPK.2
      have hPl : P.length ≤ 8012006001 := by have h1 := len_sum HPOK.out; have h2 := HPS.out; omega
      have HPE : Hid (P = FF k) := hP
      clear hP hPK
      obtain ⟨ap, cp, hvp, hlp, hcp, hrp⟩ := hPk.out
      subst hvp
      unfold maxLen at hcp
      have HRP : Hid (∀ j, j < P.length → ∃ g o su cu, ap = some ⟨g, o, none⟩ ∧ g < wr.heap.size ∧ wr.cell? ⟨g, o + j, none⟩ = some (.slice su 3 cu) ∧ SdsAt wr wr.heap.size (.slice su 3 cu) (xb P j).list) := hrp
      clear hrp hPk
      by_cases hltk : k < i
      · have hltk' : (k : Int) < (i : Int) := by omega
        obtain ⟨g2, o2, su2, cu2, hao, hg2, hc2, hs2⟩ := HROW.out k (by omega)
        simp only [Option.some.injEq, Addr.mk.injEq, and_true] at hao
        obtain ⟨rfl, rfl⟩ := hao
        have c0 := (hBk.out.cell (p := ⟨g, o + k, none⟩) hg2).trans hc2
        have hyok : okB (xb X k) = true := HOK.out _ (xb_mem (by omega))
        have HNX : Hid (FF (k + 1) = cutAll P (xb X k)) := by show _ = _; rw [HFS.out k (by omega), HPE.out]
        obtain ⟨y, hy⟩ : ∃ y, y = xb X k := ⟨_, rfl⟩
        rw [← hy] at hyok HNX hs2
        have HYOK : Hid (okB y = true) := hyok
        clear hy hyok hc2
        obtain ⟨W5, hW5⟩ : ∃ W, W = wr.alloc (.cells #[.slice su2 3 cu2] 25) := ⟨_, rfl⟩
        have hB5 : Below wr.heap.size wr W5 := by rw [hW5]; exact (Below.refl _ wr).alloc (Nat.le_refl _) _
        have HB5 : Hid (Below w.heap.size w W5) := hBk.out.trans (hB5.mono hBk.out.size)
        have Z9 : Hid (W5.cell? ⟨wr.heap.size, 0, none⟩ = some (.slice su2 3 cu2)) := by show _ = _; rw [hW5]; go_simp
        have hl5 : wr.heap.size < W5.heap.size := by rw [hW5]; simp
        have HSY : Hid (∀ W, Below w.heap.size w W → SdsAt W W.heap.size (.slice su2 3 cu2) y.list) := fun W h => hs2.below h
        have HRP5 : Hid (∀ j, j < P.length → ∃ g o su cu, ap = some ⟨g, o, none⟩ ∧ g < W5.heap.size ∧ W5.cell? ⟨g, o + j, none⟩ = some (.slice su 3 cu) ∧ SdsAt W5 W5.heap.size (.slice su 3 cu) (xb P j).list) := fun j hj => by
          obtain ⟨g, o, su, cu, h1, h2, h3, h4⟩ := HRP.out j hj
          exact ⟨g, o, su, cu, h1, by omega, (hB5.cell (p := ⟨g, o + j, none⟩) h2).trans h3, h4.below hB5⟩
        have HCL : Hid (∀ j, j ≤ P.length → (cutAll (P.take j) y).length ≤ 8012006001) := fun j hj => by
          have h1 := len_sum (cutAll_ok (ps := P.take j) (o := y) (fun q hq => HPOK.out q (List.mem_of_mem_take hq)) HYOK.out)
          have h2 := cutAll_sum (ps := P.take j) (o := y) (fun q hq => HPOK.out q (List.mem_of_mem_take hq)) HYOK.out
          have h3 := (sumP_take_le HPOK.out j).2
          have h4 := HPS.out
          omega
        go_upto_region 11 with fail
        rw [← hW5]
        clear hW5 c0 hB5 HRP hBk hs2
        go_wp2
        obtain ⟨wp, rfl⟩ : ∃ W, W = wr := ⟨_, rfl⟩
        go_loopw [10, 40] (fun vl vj wr => ∃ j : Nat, j ≤ P.length ∧ vj = .int .i64 (j : Int) ∧ Hid (∃ us, BOwn wr W5.heap.size vl ((cutAll (P.take j) y).map Bx.list) us) ∧ Hid (Below W5.heap.size W5 wr))
          (fun _ vj _ => P.length - (intOf vj).toNat)
        case atStart => exact ⟨0, by omega, rfl, ⟨[], BOwn.nil _ _⟩, Below.refl _ _⟩
        case round =>
          obtain ⟨j, hj, rfl, hLj, hBj⟩ := hrel
          obtain ⟨us, ho⟩ := hLj.out
          obtain ⟨L, hL⟩ : ∃ L, L = (cutAll (P.take j) y).map Bx.list := ⟨_, rfl⟩
          have HL : Hid (L = (cutAll (P.take j) y).map Bx.list) := hL
          rw [← hL] at ho
          clear hL hLj
          obtain ⟨av, cv, hv0⟩ := ho.slice
          subst hv0
          have HO : Hid (BOwn wr W5.heap.size (.slice av L.length cv) L us) := ho
          clear ho
          have hszj : W5.heap.size ≤ wr.heap.size := hBj.out.size
          by_cases hltj : j < P.length
          · have hltj' : (j : Int) < (P.length : Int) := by omega
            obtain ⟨g3, o3, su3, cu3, rfl, hg3, hc3, hs3⟩ := HRP5.out j hltj
            have c3 := (hBj.out.cell (p := ⟨g3, o3 + j, none⟩) hg3).trans hc3
            have hs3' := hs3.below hBj.out
            have HNL : Hid ((cutAll (P.take (j + 1)) y).map Bx.list = L ++ (cut (xb P j) y).map Bx.list) := by show _ = _; rw [cutAll_step hltj, List.map_append, HL.out]
            have hbd : (L ++ (cut (xb P j) y).map Bx.list).length ≤ 8012006001 := by rw [← HNL.out, List.length_map]; exact HCL.out (j + 1) (by omega)
            obtain ⟨p, hp⟩ : ∃ p, p = xb P j := ⟨_, rfl⟩
            rw [← hp] at hs3' HNL hbd
            clear hp hc3 hs3
            obtain ⟨W6, hW6⟩ : ∃ W, W = wr.alloc (.cells #[.slice su3 3 cu3] 25) := ⟨_, rfl⟩
            have hB6 : Below wr.heap.size wr W6 := by rw [hW6]; exact (Below.refl _ wr).alloc (Nat.le_refl _) _
            have z12 : W6.cell? ⟨wr.heap.size, 0, none⟩ = some (.slice su3 3 cu3) := by rw [hW6]; go_simp
            have hB56 : Below W5.heap.size W5 W6 := hBj.out.trans (hB6.mono hszj)
            have z9 : W6.cell? ⟨wp.heap.size, 0, none⟩ = some (.slice su2 3 cu2) := (hB56.cell (p := ⟨wp.heap.size, 0, none⟩) hl5).trans Z9.out
            have hl6 : wr.heap.size < W6.heap.size := by rw [hW6]; simp
            have hl69 : wp.heap.size < W6.heap.size := by omega
            have HBW6 : Hid (Below w.heap.size w W6) := HB5.out.trans (hB56.mono HB5.out.size)
            have CL : Hid (Calls Try.prog 50 #[.agg #[.slice su3 3 cu3], .agg #[.slice su2 3 cu2]] W6 fun e w' => ∃ r, e = .returned r ∧ (∃ us, BOwn w' W6.heap.size r ((cut p y).map Bx.list) us) ∧ Below W6.heap.size W6 w') := l9Cut_any p y _ _ W6 (hs3'.below hB6) (HSY.out _ HBW6.out) HYOK.out
            obtain ⟨N, hN⟩ : ∃ N, N = (cut p y).map Bx.list := ⟨_, rfl⟩
            rw [← hN] at CL HNL hbd
            rw [List.length_append] at hbd
            clear hN hs3'
            go_upto_region 15 with fail
            rw [← hW6]
            clear hW6 c3
            go_wp2_with fail
            refine CL.out.mono ?_
            rintro e w7 ⟨r7, rfl, ⟨ns, hr7⟩, hb7⟩
            have hB7 : Below wr.heap.size wr w7 := hB6.trans (hb7.mono (by omega))
            have HO7 : Hid (BOwn w7 W5.heap.size (.slice av L.length cv) L us) := HO.out.below hB7
            have HB7 : Hid (Below W5.heap.size W5 w7) := hBj.out.trans (hB7.mono hszj)
            obtain ⟨ar, cr, hvr⟩ := hr7.slice
            subst hvr
            have HR7 : Hid (BOwn w7 W6.heap.size (.slice ar N.length cr) N ns) := hr7
            have HR7w : Hid (BOwn w7 wr.heap.size (.slice ar N.length cr) N ns) := ⟨own_lower hr7.1 (by omega), fun m hm => by obtain ⟨u, h1, h2, h3⟩ := hr7.2.1 m hm; exact ⟨u, h1, h2.lower (by omega), h3⟩, hr7.2.2⟩
            have hs7 : W5.heap.size ≤ w7.heap.size := HB7.out.size
            have hnl : ns.length = N.length := by have := hr7.1.1; omega
            have HNN : Hid (ns.length = N.length * 1) := by show _ = _; omega
            clear hr7 hb7 hnl CL z9 z12 hB6 hB56 hBj
            go_wp2_with (at_builtin; refine wpList_append_may w7 rfl _ _ 37 rfl W5.heap.size 25 i0 (.agg #[.slice none 0 0]) 1 24 Try.underlying37 hi0 hz0 hz1' hz2 rfl (by decide) _ L.length _ rfl HO7.out.1 ar N.length cr ns rfl HNN.out (bown_news HR7.out) (bown_one HR7.out) (by unfold maxLen; omega) (by omega) hs7 ?_)
            intro a9 cap9 w9 hown9 hgrow9 hat9
            have HA9 : Hid (∃ us, BOwn w9 W5.heap.size (.slice a9 (L.length + N.length) cap9) (L ++ N) us) := ⟨_, HO.out.many hB7 HR7w.out hown9 hgrow9 hat9 hszj⟩
            have HB9 : Hid (Below W5.heap.size W5 w9) := HB7.out.trans (grown_belowC HO7.out.1 hgrow9 hs7)
            clear hown9 hgrow9 hat9 HO7 HB7 HR7 HR7w HO hB7
            go_wp2
            go_roundw
            case rel => first | exact ⟨j + 1, by omega, by go_num, by rw [HNL.out]; exact HA9, HB9⟩ | ((repeat apply Exists.intro); exact ⟨⟨j + 1, by omega, by go_num, by rw [HNL.out]; exact HA9, HB9⟩, rfl⟩)
            case measure => simp [intOf]; omega
          · have hkj : j = P.length := by omega
            subst hkj
            have hgj : ¬ ((P.length : Int) < (P.length : Int)) := by omega
            have HPN : Hid (PAt wr (.slice av L.length cv) (FF (k + 1))) := by
              have e : L = (FF (k + 1)).map Bx.list := by rw [HL.out, HNX.out, List.take_length]
              have h := HO.out.at
              refine BxsAt.pat ?_
              rw [← e]
              exact h
            have HBN : Hid (Below w.heap.size w wr) := HB5.out.trans (hBj.out.mono HB5.out.size)
            clear hBj HO
            go_wp2
            go_roundw
            case rel => first | exact ⟨k + 1, by omega, by go_num, HPN, HBN⟩ | ((repeat apply Exists.intro); exact ⟨⟨k + 1, by omega, by go_num, HPN, HBN⟩, rfl⟩)
            case measure => simp [intOf]; omega
      · have hke : k = i := by omega
        subst hke
        have hge : ¬ ((k : Int) < (k : Int)) := by omega
        have HVP : Hid (vsum X (k + 1) = V + sumP (P.take P.length)) := by show _ = _; rw [HVN.out, ← HPE.out, List.take_length]
        go_wp2
        obtain ⟨wp, rfl⟩ : ∃ W, W = wr := ⟨_, rfl⟩
        go_loopw [4, 54] (fun vn vj wr => ∃ j : Nat, j ≤ P.length ∧ vj = .int .i64 (j : Int) ∧ vn = .int .i64 (V + sumP (P.take j)) ∧ Hid (Below wp.heap.size wp wr))
          (fun _ vj _ => P.length - (intOf vj).toNat)
        case atStart => exact ⟨0, by omega, rfl, by show _ = Value.int _ (V + 0); rw [Int.add_zero], Below.refl _ _⟩
        case round =>
          obtain ⟨j, hj, rfl, rfl, hBj⟩ := hrel
          by_cases hltj : j < P.length
          · have hltj' : (j : Int) < (P.length : Int) := by omega
            obtain ⟨g3, o3, su3, cu3, rfl, hg3, hc3, hs3⟩ := HRP.out j hltj
            have c3 := (hBj.out.cell (p := ⟨g3, o3 + j, none⟩) hg3).trans hc3
            have hs3' := hs3.below hBj.out
            have hpok : okB (xb P j) = true := HPOK.out _ (xb_mem hltj)
            have hst : sumP (P.take (j + 1)) = sumP (P.take j) + pts (xb P j) := by rw [take_xb hltj, sumP_append, sumP_cons, sumP_nil]; omega
            have hb0 := (sumP_take_le HPOK.out j).1
            have hb1 := (sumP_take_le HPOK.out j).2
            have hb2 := HPS.out
            obtain ⟨p, hp⟩ : ∃ p, p = xb P j := ⟨_, rfl⟩
            rw [← hp] at hs3' hpok hst
            obtain ⟨S, hS⟩ : ∃ S, S = V + sumP (P.take j) := ⟨_, rfl⟩
            have HST : Hid (V + sumP (P.take (j + 1)) = S + pts p) := by show _ = _; rw [hst, hS]; omega
            have hS0 : 0 ≤ S := by omega
            have hS1 : S ≤ 300000000000 := by omega
            rw [← hS]
            have HPOKp : Hid (okB p = true) := hpok
            clear hp hS hst hb0 hb1 hb2 hpok hc3 hs3
            obtain ⟨W6, hW6⟩ : ∃ W, W = wr.alloc (.cells #[.slice su3 3 cu3] 25) := ⟨_, rfl⟩
            have hB6 : Below wr.heap.size wr W6 := by rw [hW6]; exact (Below.refl _ wr).alloc (Nat.le_refl _) _
            have z14 : W6.cell? ⟨wr.heap.size, 0, none⟩ = some (.slice su3 3 cu3) := by rw [hW6]; go_simp
            have HB6 : Hid (Below wp.heap.size wp W6) := hBj.out.trans (hB6.mono hBj.out.size)
            obtain ⟨ap3, cap3, hv3, hlc3, hcm3, hr3⟩ := hs3'.below hB6
            simp only [Value.slice.injEq, len_list, true_and] at hv3
            obtain ⟨rfl, rfl⟩ := hv3
            simp only [len_list] at hlc3 hr3
            unfold maxLen at hcm3
            have HR3 : Hid (∀ m, m < 3 → ∃ g o, su3 = some ⟨g, o, none⟩ ∧ g < W6.heap.size ∧ SdIn W6 g (o + m * 2) (sd p.list m)) := hr3
            clear hr3 hs3'
            go_upto_region 22 with fail
            rw [← hW6]
            clear hW6 c3 hB6 hBj
            go_wp2
            clear z14
            obtain ⟨wq, rfl⟩ : ∃ W, W = wr := ⟨_, rfl⟩
            go_loopw [15, 61] (fun vv vm wr => ∃ m : Nat, m ≤ 3 ∧ vm = .int .i64 (m : Int) ∧ vv = .int .i64 (ppx p m) ∧ Hid (Below W6.heap.size W6 wr))
              (fun _ vm _ => 3 - (intOf vm).toNat)
            case atStart => exact ⟨0, by omega, rfl, rfl, Below.refl _ _⟩
            case round =>
              obtain ⟨m, hm, rfl, rfl, hBm⟩ := hrel
              by_cases hltm : m < 3
              · have hltm' : (m : Int) < 3 := by omega
                obtain ⟨g4, o4, rfl, hg4, hty4⟩ := HR3.out m hltm
                have hci := hty4.below hBm.out hg4
                have hsb := side_bound HPOKp.out hltm
                have hpn := ppx_step p hltm
                have hpb := ppx_bound HPOKp.out (j := m + 1) (by omega)
                obtain ⟨s, hs⟩ : ∃ s, s = sd p.list m := ⟨_, rfl⟩
                rw [← hs] at hci hsb hpn
                clear hs hty4
                obtain ⟨sl, sh⟩ := s
                obtain ⟨d0, d1⟩ := hci
                dsimp only at d0 d1 hsb hpn
                obtain ⟨Y, hY⟩ : ∃ Y, Y = ppx p m := ⟨_, rfl⟩
                rw [← hY] at hpn ⊢
                have hm1 : (-9223372036854775808 : Int) ≤ Y * (sh - sl + 1) := by rw [← hpn]; omega
                have hm2 : Y * (sh - sl + 1) ≤ 9223372036854775807 := by rw [← hpn]; omega
                have HN : Hid (ppx p (m + 1) = Y * (sh - sl + 1)) := hpn
                clear hpn hpb hY
                obtain ⟨W8, hW8⟩ : ∃ W, W = wr.alloc (.cells #[.int .i64 sl, .int .i64 sh] 58) := ⟨_, rfl⟩
                have hB8 : Below wr.heap.size wr W8 := by rw [hW8]; exact (Below.refl _ wr).alloc (Nat.le_refl _) _
                have z0 : W8.cell? ⟨wr.heap.size, 0, none⟩ = some (.int .i64 sl) := by rw [hW8]; go_simp
                have z1 : W8.cell? ⟨wr.heap.size, 1, none⟩ = some (.int .i64 sh) := by rw [hW8]; go_simp
                have HB8 : Hid (Below W6.heap.size W6 W8) := hBm.out.trans (hB8.mono hBm.out.size)
                go_upto_region 26 with fail
                rw [← hW8]
                clear hW8 d0 d1 hB8 hBm
                go_wp2
                go_roundw
                case rel => first | exact ⟨m + 1, by omega, by go_num, by rw [HN.out], HB8⟩ | ((repeat apply Exists.intro); exact ⟨⟨m + 1, by omega, by go_num, by rw [HN.out], HB8⟩, rfl⟩)
                case measure => simp [intOf]; omega
              · have hkm : m = 3 := by omega
                subst hkm
                have hp3 : ppx p 3 = pts p := rfl
                rw [hp3]
                have hq0 := pts_pos HPOKp.out
                have hq1 := pts_le HPOKp.out
                obtain ⟨Q, hQ⟩ : ∃ Q, Q = pts p := ⟨_, rfl⟩
                rw [← hQ] at HST hq0 hq1 ⊢
                have HBE : Hid (Below wp.heap.size wp wr) := HB6.out.trans (hBm.out.mono HB6.out.size)
                clear hQ hBm hp3
                go_wp2
                go_roundw
                case rel => first | exact ⟨j + 1, by omega, by go_num, by rw [HST.out], HBE⟩ | ((repeat apply Exists.intro); exact ⟨⟨j + 1, by omega, by go_num, by rw [HST.out], HBE⟩, rfl⟩)
                case measure => simp [intOf]; omega
          · have hkj : j = P.length := by omega
            subst hkj
            have hgj : ¬ ((P.length : Int) < (P.length : Int)) := by omega
            obtain ⟨S, hS⟩ : ∃ S, S = V + sumP (P.take P.length) := ⟨_, rfl⟩
            have HSV : Hid (vsum X (k + 1) = S) := by show _ = _; rw [HVP.out, hS]
            rw [← hS]
            have HBE : Hid (Below w.heap.size w wr) := hBk.out.trans (hBj.out.mono hBk.out.size)
            clear hS hBj
            go_wp2
            go_roundw
            case rel => first | exact ⟨k + 1, by omega, by go_num, by rw [HSV.out], HBE⟩ | ((repeat apply Exists.intro); exact ⟨⟨k + 1, by omega, by go_num, by rw [HSV.out], HBE⟩, rfl⟩)
            case measure => simp [intOf]; omega

end Go.Proofs.Ytnbaeplbnonhkaa
