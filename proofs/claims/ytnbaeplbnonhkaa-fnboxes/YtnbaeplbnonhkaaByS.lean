/- The model's LeastCover. -/
import Derived.Test.YtnbaeplbnonhkaaByN
import Derived.Test.YtnbaeplbnonhkaaByV
namespace Go.Proofs.Ytnbaeplbnonhkaa
open Go.RowKit Plain Sch Bxs

theorem cov_refl (x : Bx) : cov x x = true := by
  unfold cov cov1
  simp

theorem cov_anti {x y : Bx} (h1 : cov x y = true) (h2 : cov y x = true) : x = y := by
  obtain ⟨⟨a, b⟩, ⟨c, d⟩, ⟨e, f⟩⟩ := x
  obtain ⟨⟨a', b'⟩, ⟨c', d'⟩, ⟨e', f'⟩⟩ := y
  unfold cov cov1 at h1 h2
  simp at h1 h2
  simp only [Bx.mk.injEq, Sd.mk.injEq]
  omega

theorem ndd_same (X : List Bx) (i : Nat) : ndd X i i = false := by
  unfold ndd beq9
  simp

theorem ndd_no {X : List Bx} {i k : Nat} (h : cov (xb X k) (xb X i) = false) : ndd X i k = false := by
  unfold ndd
  rw [h]
  rfl

theorem ndd_lt {X : List Bx} {i k : Nat} (h : cov (xb X k) (xb X i) = true) (hk : k < i) : ndd X i k = true := by
  unfold ndd
  rw [h]
  simp [hk]

theorem ndd_other {X : List Bx} {i k : Nat} (h : cov (xb X k) (xb X i) = true) (hk : ¬ k < i) : ndd X i k = !cov (xb X i) (xb X k) := by
  unfold ndd beq9
  rw [h]
  cases h2 : cov (xb X i) (xb X k) with
  | true =>
    have e := cov_anti h h2
    simp [e, hk]
  | false =>
    have e : xb X k ≠ xb X i := fun e => by rw [e, cov_refl] at h2; cases h2
    simp [e]

theorem xb_map {M : List (List Sd)} {i : Nat} (h : i < M.length) : xb (M.map bx) i = bx (mx M i) := by
  unfold xb mx
  rw [List.getD, List.getD, List.getElem?_map, List.getElem?_eq_getElem h]
  rfl

set_option maxRecDepth 100000 in
set_option maxHeartbeats 8000000 in
theorem specLeast (M : List (List Sd)) (v : Value) (w : World) (hT : BxsAt w w.heap.size v M) :
    Calls Try.prog 19 #[v] w fun e w' => (∃ r, e = .returned (.tuple #[r, .bool (gl M)]) ∧ ZRow w' w.heap.size r (lco M)) ∧ Below w.heap.size w w' := by
  obtain ⟨i0, hi0, hz0, hz1', hz2⟩ := info_parts Try.infoIntN
  have HT : Hid (BxsAt w w.heap.size v M) := hT
  obtain ⟨ao, cap, rfl, hlc, hcm, hrow⟩ := hT
  unfold maxLen at hcm
  have HROW0 : Hid (∀ i, i < M.length → ∃ g o u, ao = some ⟨g, o, none⟩ ∧ g < w.heap.size ∧ w.cell? ⟨g, o + i, none⟩ = some u ∧ SdsAt w w.heap.size u (mx M i)) := hrow
  clear hrow
  obtain ⟨R, hR⟩ : ∃ R, R = lco M := ⟨_, rfl⟩
  rw [← hR]
  have HR : Hid (R = lco M) := hR
  clear hR
  go_enter Try.func19, Try.ntmps19
  go_wp2_with fail
  refine (l9Boxes_any M _ _ HT.out).mono ?_
  rintro e w2 ⟨rfl, hb2⟩
  by_cases h1 : gl M = true
  case neg =>
    have h1' : gl M = false := by simpa using h1
    have hF : Hid (R = [] ∧ gl M = false) := ⟨by rw [HR.out]; unfold lco; rw [h1']; rfl, h1'⟩
    rw [h1']
    clear h1 h1' HR
    go_wp2
    go_ret2
    exact ⟨⟨_, by rw [hF.out.2]; rfl, by rw [hF.out.1]; exact ZRow.nil9 _ _⟩, hb2⟩
  obtain ⟨X, hX⟩ : ∃ X, X = M.map bx := ⟨_, rfl⟩
  have hXl : X.length = M.length := by rw [hX, List.length_map]
  have h20 : X.length ≤ 20 := by rw [hXl]; exact (gl_get h1).1
  have HF : Hid (R = lst X X.length ∧ gl M = true) := ⟨by rw [HR.out, hXl, hX]; unfold lco; rw [h1]; rfl, h1⟩
  have HROW : Hid (∀ i, i < X.length → ∃ g o u n c, ao = some ⟨g, o, none⟩ ∧ g < w.heap.size ∧ w.cell? ⟨g, o + i, none⟩ = some (.slice u n c) ∧ SdsAt w w.heap.size (.slice u n c) (xb X i).list) := fun i hi => by
    obtain ⟨g, o, u, ha, hg, hc, hs⟩ := HROW0.out i (by omega)
    obtain ⟨su, cu, rfl, _⟩ := id hs
    refine ⟨g, o, su, _, cu, ha, hg, hc, ?_⟩
    rw [hX, xb_map (by omega)]
    rw [← (gb_good ((gl_get h1).2 i (by omega))).1]
    exact hs
  rw [h1]
  rw [← hXl] at *
  clear h1 hX HR HROW0 HT hXl
  go_wp2
  go_loopw [4, 15] (fun vl vi wr => ∃ i : Nat, i ≤ X.length ∧ vi = .int .i64 (i : Int) ∧ Hid (ZRow wr w.heap.size vl (lst X i)) ∧ Hid (Below w.heap.size w wr))
    (fun _ vi _ => X.length - (intOf vi).toNat)
  case atStart => exact ⟨0, by omega, rfl, by rw [lst_zero]; exact ZRow.nil9 _ _, hb2⟩
  case round =>
    clear hb2
    obtain ⟨i, hi, rfl, hZ, hBw⟩ := hrel
    obtain ⟨L, hL⟩ : ∃ L, L = lst X i := ⟨_, rfl⟩
    have HL : Hid (L = lst X i) := hL
    rw [← hL] at hZ
    have hLl : L.length ≤ 20 := by rw [hL]; have := lst_len X i; omega
    clear hL
    obtain ⟨av, cv, hv0⟩ := ZRow.slice hZ.out
    subst hv0
    have hsz : w.heap.size ≤ wr.heap.size := hBw.out.size
    by_cases hlt : i < X.length
    · have hlt' : (i : Int) < (X.length : Int) := by omega
      have hi20 : (i : Int) ≤ 20 := by omega
      obtain ⟨g, o, su, n1, cu, rfl, hg, hc, hs⟩ := HROW.out i hlt
      have c0 := (hBw.out.cell (p := ⟨g, o + i, none⟩) hg).trans hc
      obtain ⟨W3, hW3⟩ : ∃ W, W = wr.alloc (.cells #[.slice su n1 cu] 25) := ⟨_, rfl⟩
      have hB13 : Below wr.heap.size wr W3 := by rw [hW3]; exact (Below.refl _ wr).alloc (Nat.le_refl _) _
      have z6 : Hid (W3.cell? ⟨wr.heap.size, 0, none⟩ = some (.slice su n1 cu)) := by show _ = _; rw [hW3]; go_simp
      have hl3 : wr.heap.size < W3.heap.size := by rw [hW3]; simp
      have HB3 : Hid (Below w.heap.size w W3) := hBw.out.trans (hB13.mono hsz)
      have HZ3 : Hid (ZRow W3 w.heap.size (.slice av L.length cv) L) := ZRow.below hZ.out hB13
      have HSI : Hid (∀ W, Below w.heap.size w W → SdsAt W W.heap.size (.slice su n1 cu) (xb X i).list) := fun W hW => hs.below hW
      clear hc hs
      go_upto_region 7 with fail
      rw [← hW3]
      clear hW3 c0 hB13 hZ hBw
      go_wp2
      obtain ⟨wo, rfl⟩ : ∃ W, W = wr := ⟨_, rfl⟩
      go_loopw [7, 22] (fun vn vi wr => ∃ k : Nat, k ≤ X.length ∧ vi = .int .i64 (k : Int) ∧ vn = .bool (nd X i k) ∧ Hid (Below W3.heap.size W3 wr))
        (fun _ vi _ => X.length - (intOf vi).toNat)
      case atStart => exact ⟨0, by omega, rfl, rfl, Below.refl _ _⟩
      case round =>
        obtain ⟨k, hk, rfl, rfl, hBk⟩ := hrel
        have hB0 : Below w.heap.size w wr := HB3.out.trans (hBk.out.mono (by omega))
        have hszk : W3.heap.size ≤ wr.heap.size := hBk.out.size
        by_cases hltk : k < X.length
        · have hltk' : (k : Int) < (X.length : Int) := by omega
          obtain ⟨g2, o2, su2, n2, cu2, hao, hg2, hc2, hs2⟩ := HROW.out k hltk
          simp only [Option.some.injEq, Addr.mk.injEq, and_true] at hao
          obtain ⟨rfl, rfl⟩ := hao
          have e0 := (hB0.cell (p := ⟨g, o + k, none⟩) hg2).trans hc2
          obtain ⟨W5, hW5⟩ : ∃ W, W = wr.alloc (.cells #[.slice su2 n2 cu2] 25) := ⟨_, rfl⟩
          have hB5 : Below wr.heap.size wr W5 := by rw [hW5]; exact (Below.refl _ wr).alloc (Nat.le_refl _) _
          have HB35 : Hid (Below W3.heap.size W3 W5) := hBk.out.trans (hB5.mono hszk)
          have HB5 : Below w.heap.size w W5 := hB0.trans (hB5.mono hB0.size)
          have z9 : W5.cell? ⟨wr.heap.size, 0, none⟩ = some (.slice su2 n2 cu2) := by rw [hW5]; go_simp
          have z65 : W5.cell? ⟨wo.heap.size, 0, none⟩ = some (.slice su n1 cu) := (HB35.out.cell (p := ⟨wo.heap.size, 0, none⟩) hl3).trans z6.out
          have hl5 : wr.heap.size < W5.heap.size := by rw [hW5]; simp
          have hl57 : wo.heap.size < W5.heap.size := by omega
          have HSK : Hid (∀ W, Below w.heap.size w W → SdsAt W W.heap.size (.slice su2 n2 cu2) (xb X k).list) := fun W hW => hs2.below hW
          obtain ⟨nk, hnk⟩ : ∃ n, n = nd X i k := ⟨_, rfl⟩
          have HND : Hid (nd X i (k + 1) = (nk && !ndd X i k)) := by show _ = _; rw [nd_step, hnk]
          rw [← hnk]
          go_upto_region 11 with fail
          rw [← hW5]
          clear hW5 e0 hB5 hBk hB0 hc2 hs2 hnk
          by_cases hki : k = i
          · have hE : Hid (nd X i (k + 1) = nk) := by show _ = _; rw [HND.out, hki, ndd_same]; cases nk <;> rfl
            have hne : ((k : Int) != (i : Int)) = false := by simp [hki]
            clear HND hki
            go_wp2
            go_roundw
            case rel => exact ⟨k + 1, by omega, by go_num, by rw [hE.out], HB35⟩
            case measure => simp [intOf]; omega
          · have hne : ((k : Int) != (i : Int)) = true := by simp; omega
            go_wp2_with fail
            refine (l9Covers_any (xb X k) (xb X i) _ _ _ (HSK.out _ HB5) (HSI.out _ HB5)).mono ?_
            rintro e w6 ⟨rfl, hb6⟩
            have HB36 : Hid (Below W3.heap.size W3 w6) := HB35.out.trans (hb6.mono (by have := HB35.out.size; omega))
            have HB6 : Below w.heap.size w w6 := HB5.trans (hb6.mono HB5.size)
            have z9 := (hb6.cell (p := ⟨wr.heap.size, 0, none⟩) hl5).trans z9
            have z65 := (hb6.cell (p := ⟨wo.heap.size, 0, none⟩) hl57).trans z65
            clear hb6 HB35 HB5
            obtain ⟨c1, hc1⟩ : ∃ c, c = cov (xb X k) (xb X i) := ⟨_, rfl⟩
            have HC1 : Hid (cov (xb X k) (xb X i) = c1) := hc1.symm
            rw [← hc1]
            clear hc1
            cases c1 with
            | false =>
              have hE : Hid (nd X i (k + 1) = nk) := by show _ = _; rw [HND.out, ndd_no HC1.out]; cases nk <;> rfl
              clear HND
              go_wp2
              go_roundw
              case rel => exact ⟨k + 1, by omega, by go_num, by rw [hE.out], HB36⟩
              case measure => simp [intOf]; omega
            | true =>
              by_cases hlk : k < i
              · have hE : Hid (nd X i (k + 1) = false) := by show _ = _; rw [HND.out, ndd_lt HC1.out hlk]; cases nk <;> rfl
                have hlk' : (k : Int) < (i : Int) := by omega
                clear HND
                go_wp2
                go_roundw
                case rel => exact ⟨k + 1, by omega, by go_num, by rw [hE.out], HB36⟩
                case measure => simp [intOf]; omega
              · have hlk' : ¬ (k : Int) < (i : Int) := by omega
                go_wp2_with fail
                refine (l9Covers_any (xb X i) (xb X k) _ _ _ (HSI.out _ HB6) (HSK.out _ HB6)).mono ?_
                rintro e w7 ⟨rfl, hb7⟩
                have HB37 : Hid (Below W3.heap.size W3 w7) := HB36.out.trans (hb7.mono (by have := HB36.out.size; omega))
                clear hb7 HB36 HB6
                obtain ⟨c2, hc2⟩ : ∃ c, c = cov (xb X i) (xb X k) := ⟨_, rfl⟩
                have HC2 : Hid (cov (xb X i) (xb X k) = c2) := hc2.symm
                rw [← hc2]
                clear hc2
                have hE : Hid (nd X i (k + 1) = (nk && c2)) := by show _ = _; rw [HND.out, ndd_other HC1.out hlk, HC2.out]; cases nk <;> cases c2 <;> rfl
                clear HND
                cases c2 with
                | false =>
                  go_wp2
                  go_roundw
                  case rel => exact ⟨k + 1, by omega, by go_num, by rw [hE.out]; cases nk <;> rfl, HB37⟩
                  case measure => simp [intOf]; omega
                | true =>
                  go_wp2
                  go_roundw
                  case rel => exact ⟨k + 1, by omega, by go_num, by rw [hE.out]; cases nk <;> rfl, HB37⟩
                  case measure => simp [intOf]; omega
        · have hke : k = X.length := by omega
          subst hke
          have hge : ¬ ((X.length : Int) < (X.length : Int)) := by omega
          obtain ⟨nk, hnk⟩ : ∃ n, n = nd X i X.length := ⟨_, rfl⟩
          have HNK : Hid (nk = nd X i X.length) := hnk
          rw [← hnk]
          clear hnk
          have HZk : Hid (ZRow wr w.heap.size (.slice av L.length cv) L) := ZRow.below HZ3.out hBk.out
          have HB0 : Hid (Below w.heap.size w wr) := hB0
          clear hB0 hBk
          cases nk with
          | false =>
            have hE : Hid (lst X (i + 1) = L) := by rw [HL.out]; exact lst_no X i HNK.out.symm
            go_wp2
            go_roundw
            case rel => exact ⟨i + 1, by omega, by go_num, by show ZRow _ _ _ _; rw [hE.out]; exact HZk.out, HB0⟩
            case measure => simp [intOf]; omega
          | true =>
            have hE : Hid (lst X (i + 1) = L ++ [(i : Int)]) := by rw [HL.out]; exact lst_yes X i HNK.out.symm
            have hBz : w.heap.size ≤ wr.heap.size := HB0.out.size
            go_wp2_with (at_builtin; refine wpList_append_lies _ rfl _ _ 34 rfl w.heap.size 3 i0 (.int .i64 0) 1 8 Try.underlying34 hi0 hz0 hz1' hz2 rfl (by decide) _ L.length _ rfl (World.ownsRow.alloc HZk.out _) ⟨wr.heap.size, 0, none⟩ 1 1 [.int .i64 (i : Int)] rfl rfl (World.news_of_block (heap_alloc_new wr _)) (one1Z _) (by omega) (by unfold maxLen; omega) (by omega) (by simp; omega) (wr.heap.size + 1) (by simp) ?_)
            intro g9 cap9 w9 hown9 hgrow9 hat9 hlt9
            have HZ9 : Hid (ZRow w9 w.heap.size (.slice (some ⟨g9, 0, none⟩) (L.length + 1) cap9) (L ++ [(i : Int)])) := ZRow.snoc9 hown9
            have HB9 : Hid (Below w.heap.size w w9) := HB0.out.trans (grown_belowB HZk.out hgrow9 hBz)
            clear hown9 hgrow9 hat9 hlt9 HZk HB0
            go_wp2
            go_roundw
            case rel => exact ⟨i + 1, by omega, by go_num, by show ZRow _ _ _ _; rw [hE.out]; exact HZ9.out, HB9⟩
            case measure => simp [intOf]; omega
    · have hke : i = X.length := by omega
      subst hke
      have hge : ¬ ((X.length : Int) < (X.length : Int)) := by omega
      have HZ9 : Hid (ZRow wr w.heap.size (.slice av L.length cv) R) := by rw [HF.out.1, ← HL.out]; exact hZ.out
      clear hZ
      go_wp2
      go_ret2
      exact ⟨⟨_, by rw [HF.out.2]; rfl, HZ9.out⟩, hBw.out⟩

end Go.Proofs.Ytnbaeplbnonhkaa
