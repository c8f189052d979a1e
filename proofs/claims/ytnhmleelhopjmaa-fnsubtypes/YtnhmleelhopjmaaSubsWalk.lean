/- The law FnSubtypes: its walk. -/
import Derived.Test.YtnhmleelhopjmaaBntB
import Derived.Test.YtnhmleelhopjmaaGm
import Derived.Test.YtnhmleelhopjmaaSameA
import Derived.Test.YtnhmleelhopjmaaFlK
import Derived.Test.YtnhmleelhopjmaaDeepO
import Derived.Test.YtnhmleelhopjmaaCodeB
import Derived.Deep.RegionWith
namespace Go.Proofs.Ytnhmleelhopjmaa
open Go.RowKit Plain Sch

theorem fof_small (T : List Ty) (k : Int) (h : T.length ≤ 30) : (fof T k).1.length ≤ 2097152 := by
  unfold fof
  split
  · have : (kids T k.toNat).length ≤ T.length := kidsTo_len T k.toNat T.length
    show (kids T k.toNat).length ≤ _
    omega
  · simp

theorem SmallSch.all {w w2 w3 : World} {a : Option Addr} {c : Nat} {L : List Ty} (h : SmallSch w w2 (.slice a L.length c) L) (hb : Below w2.heap.size w2 w3) : ∀ W, Below w3.heap.size w3 W → TysAt W W.heap.size (.slice a L.length c) L := fun W hW =>
  (((h.1.at h.2.2.2.1).below hb).below hW)

set_option maxRecDepth 100000 in
set_option maxHeartbeats 8000000 in
theorem walkFnSubtypes (a0 : Option Addr) (len0 cap0 : Nat) (a1 : Option Addr) (len1 cap1 : Nat) (w : World) (w0 : len0 ≤ 1048576 → CodeAt w a0 len0) (w1 : len1 ≤ 1048576 → CodeAt w a1 len1) (_y0 : len0 ≤ 140737488351232) (_y1 : len1 ≤ 140737488351232) :
    Calls Try.prog 3 #[.slice a0 len0 cap0, .slice a1 len1 cap1] w fun e w' => e = .returned (.bool true) ∧ Below w.heap.size w w' := by
  by_cases hbig : 1048576 < (len0 : Int) + (len1 : Int)
  · clear w0 w1
    go_enter Try.func3, Try.ntmps3
    go_wp2
    go_ret
    exact ⟨rfl, Below.refl _ _⟩
  have hbig' : (len0 : Int) + (len1 : Int) ≤ 1048576 := by omega
  have hk0 : Hid (CodeAt w a0 len0) := w0 (by omega)
  have hk1 : Hid (CodeAt w a1 len1) := w1 (by omega)
  clear hbig w0 w1
  go_enter Try.func3, Try.ntmps3
  go_wp2_with fail
  refine (drawIsSubtype_any a0 len0 cap0 _ hk0.out).mono ?_
  rintro e w2 ⟨a, ca, A, b, cb, B, rfl, hA, hB⟩
  have hb2 := hA.2.2.2.2
  have hla := hA.2.2.1
  have hlb := hB.2.2.1
  obtain ⟨W3, hW3⟩ : ∃ W, W = (w2.alloc (.cells #[.slice (some ⟨a, 0, none⟩) A.length ca] 25)).alloc (.cells #[.slice (some ⟨b, 0, none⟩) B.length cb] 25) := ⟨_, rfl⟩
  have hB3 : Below w2.heap.size w2 W3 := by rw [hW3]; exact ((Below.refl _ w2).alloc (Nat.le_refl _) _).alloc (by simp) _
  have HS3 : Hid (W3.heap.size = w2.heap.size + 2) := by show _ = _; rw [hW3]; simp
  have HC3 : Hid (∀ W : World, Below W3.heap.size W3 W → W.cell? ⟨w2.heap.size, 0, none⟩ = some (.slice (some ⟨a, 0, none⟩) A.length ca) ∧ W.cell? ⟨w2.heap.size + 1, 0, none⟩ = some (.slice (some ⟨b, 0, none⟩) B.length cb) ∧ w2.heap.size < W.heap.size ∧ w2.heap.size + 1 < W.heap.size) := fun W hW => by
    have hs := HS3.out
    have h2 := hW.size
    refine ⟨(hW.cell (p := ⟨w2.heap.size, 0, none⟩) (by show w2.heap.size < _; omega)).trans ?_, (hW.cell (p := ⟨w2.heap.size + 1, 0, none⟩) (by show w2.heap.size + 1 < _; omega)).trans ?_, by omega, by omega⟩
    · rw [hW3]; go_simp
    · rw [hW3]; go_simp
  have HTA : Hid (∀ W, Below W3.heap.size W3 W → TysAt W W.heap.size (.slice (some ⟨a, 0, none⟩) A.length ca) A) := hA.all hB3
  have HTB : Hid (∀ W, Below W3.heap.size W3 W → TysAt W W.heap.size (.slice (some ⟨b, 0, none⟩) B.length cb) B) := hB.all hB3
  have HB3 : Hid (Below w.heap.size w W3) := hb2.trans (hB3.mono hb2.size)
  clear hA hB hb2 hB3
  go_wp2_with fail
  rw [← hW3]
  clear hW3
  refine (implSub A B _ _ W3 (HTA.out _ (Below.refl _ _)) (HTB.out _ (Below.refl _ _))).mono ?_
  rintro e w4 ⟨rfl, hb4⟩
  have c4 := HC3.out _ hb4
  obtain ⟨qa4, qb4, za4, zb4⟩ := c4
  go_wp2_with fail
  refine (specSub A B _ _ w4 (HTA.out _ hb4) (HTB.out _ hb4)).mono ?_
  rintro e w5 ⟨rfl, hb5⟩
  have hB5 : Below W3.heap.size W3 w5 := hb4.trans (hb5.mono hb4.size)
  obtain ⟨qa5, qb5, za5, zb5⟩ := HC3.out _ hB5
  clear hb4 hb5 qa4 qb4 za4 zb4
  have HOK : Hid ((sof A B).2 = (gs A && gs B)) := sof_ok A B
  have HTR : Hid (∀ C, (sof A B).1 = true → (sof A B).2 = true → sof B C = (true, true) → (sof A C).1 = true) := fun C h1 h2 h3 => sof_trans A B C (Prod.ext h1 h2) h3
  generalize sof A B = R at HOK HTR ⊢
  obtain ⟨is, ok⟩ := R
  dsimp only at HOK HTR ⊢
  have hn1 : (ok != ok) = false := by simp
  have hn2 : (is != is) = false := by simp
  have hB5d : Below W3.heap.size W3 w5.drew := hB5.drew
  have GI : Hid (∀ W : World, Below W3.heap.size W3 W → Calls Try.prog 7 #[.agg #[.slice (some ⟨a, 0, none⟩) A.length ca]] W fun e w' => e = .returned (.bool (gs A)) ∧ Below W.heap.size W w') := fun W hW => by rw [← gs_eq]; exact implGood_any A _ W (HTA.out W hW)
  have GS : Hid (∀ W : World, Below W3.heap.size W3 W → Calls Try.prog 8 #[.agg #[.slice (some ⟨a, 0, none⟩) A.length ca]] W fun e w' => e = .returned (.bool (gs A)) ∧ Below W.heap.size W w') := fun W hW => specGood_any A _ W (HTA.out W hW)
  have HGA : Hid (ok = true → gs A = true) := fun h => by have := HOK.out; rw [h] at this; cases hg : gs A with | true => rfl | false => rw [hg] at this; simp at this
  have SELF : Hid (ok = true → sof A A = (true, true)) := fun h => sof_self A (HGA.out h)
  generalize gs A = ga at GI GS
  have hn3 : (ga != ga) = false := by simp
  clear HOK HGA
  go_upto_region 6 with fail
  go_cut [70] (fun s70 wx => s70 = .bool false ∧ Below W3.heap.size W3 wx)
  case first =>
    go_region_with (first
      | (go_at_call 8; refine (GS.out _ hB6).mono ?_; rintro e w7 ⟨rfl, hb7⟩; have hB7 : Below W3.heap.size W3 w7 := hB6.trans (hb7.mono hB6.size))
      | (go_at_call 7; refine (GI.out _ hB5d).mono ?_; rintro e w6 ⟨rfl, hb6⟩; have hB6 : Below W3.heap.size W3 w6 := hB5d.trans (hb6.mono hB5d.size); obtain ⟨qa6, qb6, za6, zb6⟩ := HC3.out _ hB6))
    all_goals
      go_wp2_with fail
      go_meet
      exact ⟨rfl, hB7⟩
  case rest =>
    obtain ⟨rfl, hbc⟩ := hcut
    obtain ⟨qac, qbc, zac, zbc⟩ := HC3.out _ hbc
    clear GS GI hn1 hn2 hn3 qa5 qb5 za5 zb5 hB5 hB5d
    go_upto_if 71 with fail
    go_cut [71] (fun s71 wx => s71 = .bool ok ∧ Below W3.heap.size W3 wx)
    case first =>
      cases ok
      · go_wp2_with fail
        go_meet
        exact ⟨rfl, hbc⟩
      · have hself := SELF.out rfl
        have AA : Hid (Calls Try.prog 5 #[.agg #[.slice (some ⟨a, 0, none⟩) A.length ca], .agg #[.slice (some ⟨a, 0, none⟩) A.length ca]] wc fun e w' => e = .returned (.tuple #[.bool true, .bool true]) ∧ Below wc.heap.size wc w') := by
          have h := implSub A A _ _ wc (HTA.out _ hbc) (HTA.out _ hbc)
          rw [hself] at h
          exact h
        clear hself SELF
        go_wp2_with fail
        refine AA.out.mono ?_
        rintro e w7 ⟨rfl, hb7⟩
        have hB7 : Below W3.heap.size W3 w7 := hbc.trans (hb7.mono hbc.size)
        have hBw7 : Below w.heap.size w w7 := HB3.out.trans (hB7.mono HB3.out.size)
        clear hb7 qac qbc zac zbc AA
        go_wp2_with fail
        refine (drawIsSubtype_any a1 len1 cap1 _ (hk1.out.below hBw7)).mono ?_
        rintro e w8 ⟨c, cc, C, d, cd, D, rfl, hC, hD⟩
        have hb8 := hC.2.2.2.2
        obtain ⟨W9, hW9⟩ : ∃ W, W = (w8.alloc (.cells #[.slice (some ⟨c, 0, none⟩) C.length cc] 25)).alloc (.cells #[.slice (some ⟨d, 0, none⟩) D.length cd] 25) := ⟨_, rfl⟩
        have hB9 : Below w8.heap.size w8 W9 := by rw [hW9]; exact ((Below.refl _ w8).alloc (Nat.le_refl _) _).alloc (by simp) _
        have HS9 : Hid (W9.heap.size = w8.heap.size + 2) := by show _ = _; rw [hW9]; simp
        have HC9 : Hid (∀ W : World, Below W9.heap.size W9 W → W.cell? ⟨w8.heap.size, 0, none⟩ = some (.slice (some ⟨c, 0, none⟩) C.length cc) ∧ w8.heap.size < W.heap.size) := fun W hW => by
          have hs := HS9.out
          have h2 := hW.size
          refine ⟨(hW.cell (p := ⟨w8.heap.size, 0, none⟩) (by show w8.heap.size < _; omega)).trans ?_, by omega⟩
          rw [hW9]; go_simp
        have HTC : Hid (∀ W, Below W9.heap.size W9 W → TysAt W W.heap.size (.slice (some ⟨c, 0, none⟩) C.length cc) C) := hC.all hB9
        have hBW9 : Below W3.heap.size W3 W9 := (hB7.trans (hb8.mono hB7.size)).trans (hB9.mono (by have h1 := hB7.size; have h2 := hb8.size; omega))
        obtain ⟨qa8, qb8, za8, zb8⟩ := HC3.out w8 (hB7.trans (hb8.mono hB7.size))
        obtain ⟨qa9, qb9, za9, zb9⟩ := HC3.out _ hBW9
        obtain ⟨qc9, zc9⟩ := HC9.out _ (Below.refl _ _)
        clear hC hD hb8 hB9 hB7 hBw7
        go_wp2_with fail
        rw [← hW9]
        clear hW9
        refine (implSub B C _ _ W9 (HTB.out _ hBW9) (HTC.out _ (Below.refl _ _))).mono ?_
        rintro e w10 ⟨rfl, hb10⟩
        have hBW10 : Below W3.heap.size W3 w10 := hBW9.trans (hb10.mono hBW9.size)
        obtain ⟨qa10, qb10, za10, zb10⟩ := HC3.out _ hBW10
        obtain ⟨qc10, zc10⟩ := HC9.out _ hb10
        clear qa8 qb8 za8 zb8 qa9 qb9 za9 zb9 qc9 zc9
        go_wp2_with fail
        refine (implSub A C _ _ w10 (HTA.out _ hBW10) (HTC.out _ hb10)).mono ?_
        rintro e w11 ⟨rfl, hb11⟩
        have HBL : Hid (Below W3.heap.size W3 w11) := hBW10.trans (hb11.mono hBW10.size)
        have HT2 := HTR.out C
        generalize sof B C = RB at HT2 ⊢
        generalize sof A C = RA at HT2 ⊢
        obtain ⟨x, two⟩ := RB
        obtain ⟨y, three⟩ := RA
        dsimp only at HT2 ⊢
        clear qa10 qb10 za10 zb10 qc10 zc10 hb10 hb11 HTR HTC HC9 hBW9 hBW10
        cases two
        · clear HT2
          go_wp2_with fail
          go_meet
          exact ⟨rfl, HBL.out⟩
        cases three
        · clear HT2
          go_wp2_with fail
          go_meet
          exact ⟨rfl, HBL.out⟩
        cases is
        · clear HT2
          go_wp2_with fail
          go_meet
          exact ⟨rfl, HBL.out⟩
        cases x
        · clear HT2
          go_wp2_with fail
          go_meet
          exact ⟨rfl, HBL.out⟩
        obtain rfl : y = true := by simpa using HT2
        clear HT2
        go_wp2_with fail
        go_meet
        exact ⟨rfl, HBL.out⟩
    case rest =>
      obtain ⟨_, hbe⟩ := hcut
      have hBwe : Below w.heap.size w wc := HB3.out.trans (hbe.mono HB3.out.size)
      clear HC3 HTA HTB SELF HTR qac qbc zac zbc hbc hbe
      go_wp2_with fail
      refine (drawSubSchema_any a1 len1 cap1 _ (hk1.out.below hBwe)).mono ?_
      rintro e w20 ⟨ar, cr, L, k, rfl, hL⟩
      have hb20 := hL.2.2.2.2
      have hl30 := hL.2.2.1
      obtain ⟨W21, hW21⟩ : ∃ W, W = w20.alloc (.cells #[.slice ar L.length cr] 25) := ⟨_, rfl⟩
      have hB21 : Below w20.heap.size w20 W21 := by rw [hW21]; exact (Below.refl _ w20).alloc (Nat.le_refl _) _
      have HS21 : Hid (W21.heap.size = w20.heap.size + 1) := by show _ = _; rw [hW21]; simp
      have HC21 : Hid (∀ W : World, Below W21.heap.size W21 W → W.cell? ⟨w20.heap.size, 0, none⟩ = some (.slice ar L.length cr) ∧ w20.heap.size < W.heap.size) := fun W hW => by
        have hs := HS21.out
        have h2 := hW.size
        refine ⟨(hW.cell (p := ⟨w20.heap.size, 0, none⟩) (by show w20.heap.size < _; omega)).trans ?_, by omega⟩
        rw [hW21]; go_simp
      have HTL : Hid (∀ W, Below W21.heap.size W21 W → TysAt W W.heap.size (.slice ar L.length cr) L) := hL.all hB21
      have HB21 : Hid (Below w.heap.size w W21) := (hBwe.trans (hb20.mono hBwe.size)).trans (hB21.mono (by have h1 := hBwe.size; have h2 := hb20.size; omega))
      clear hL hb20 hB21
      go_wp2_with fail
      rw [← hW21]
      clear hW21
      refine (implSubS L _ k W21 (HTL.out _ (Below.refl _ _))).mono ?_
      rintro e w22 ⟨rv, rfl, hrow22, hb22⟩
      have hok := ssof_ok L k
      have HTT := TyRow.at hrow22 hok.2
      obtain ⟨at22, ct22, rfl, _⟩ := id HTT
      obtain ⟨W23, hW23⟩ : ∃ W, W = w22.alloc (.cells #[.slice at22 (ssof L k).1.length ct22] 25) := ⟨_, rfl⟩
      have hB23 : Below w22.heap.size w22 W23 := by rw [hW23]; exact (Below.refl _ w22).alloc (Nat.le_refl _) _
      have HS23 : Hid (W23.heap.size = w22.heap.size + 1) := by show _ = _; rw [hW23]; simp
      have HC23 : Hid (∀ W : World, Below W23.heap.size W23 W → W.cell? ⟨w22.heap.size, 0, none⟩ = some (.slice at22 (ssof L k).1.length ct22) ∧ w22.heap.size < W.heap.size) := fun W hW => by
        have hs := HS23.out
        have h2 := hW.size
        refine ⟨(hW.cell (p := ⟨w22.heap.size, 0, none⟩) (by show w22.heap.size < _; omega)).trans ?_, by omega⟩
        rw [hW23]; go_simp
      have HT23 : Hid (∀ W, Below W23.heap.size W23 W → TysAt W W.heap.size (.slice at22 (ssof L k).1.length ct22) (ssof L k).1) := fun W hW => (HTT.below hB23).below hW
      have hB2123 : Below W21.heap.size W21 W23 := hb22.trans (hB23.mono hb22.size)
      obtain ⟨ql22, zl22⟩ := HC21.out _ hb22
      obtain ⟨ql23, zl23⟩ := HC21.out _ hB2123
      clear HTT hrow22 hb22 hB23
      go_wp2_with fail
      rw [← hW23]
      clear hW23
      refine (specSubS L _ k W23 (HTL.out _ hB2123)).mono ?_
      rintro e w24 ⟨rv, rfl, hrow24, hb24⟩
      have HTT := TyRow.at hrow24 hok.2
      obtain ⟨at24, ct24, rfl, _⟩ := id HTT
      obtain ⟨W25, hW25⟩ : ∃ W, W = w24.alloc (.cells #[.slice at24 (ssof L k).1.length ct24] 25) := ⟨_, rfl⟩
      have hB25 : Below w24.heap.size w24 W25 := by rw [hW25]; exact (Below.refl _ w24).alloc (Nat.le_refl _) _
      have HS25 : Hid (W25.heap.size = w24.heap.size + 1) := by show _ = _; rw [hW25]; simp
      have HC25 : Hid (∀ W : World, Below W25.heap.size W25 W → W.cell? ⟨w24.heap.size, 0, none⟩ = some (.slice at24 (ssof L k).1.length ct24) ∧ w24.heap.size < W.heap.size) := fun W hW => by
        have hs := HS25.out
        have h2 := hW.size
        refine ⟨(hW.cell (p := ⟨w24.heap.size, 0, none⟩) (by show w24.heap.size < _; omega)).trans ?_, by omega⟩
        rw [hW25]; go_simp
      have HT25 : Hid (∀ W, Below W25.heap.size W25 W → TysAt W W.heap.size (.slice at24 (ssof L k).1.length ct24) (ssof L k).1) := fun W hW => (HTT.below hB25).below hW
      have hB2325 : Below W23.heap.size W23 W25 := hb24.trans (hB25.mono hb24.size)
      have hB2125 : Below W21.heap.size W21 W25 := hB2123.trans (hB2325.mono hB2123.size)
      obtain ⟨ql24, zl24⟩ := HC21.out w24 (hB2123.trans (hb24.mono hB2123.size))
      obtain ⟨ql25, zl25⟩ := HC21.out _ hB2125
      clear HTT hrow24 hb24 hB25 ql22 zl22 ql23 zl23
      go_wp2_with fail
      rw [← hW25]
      clear hW25
      refine (implFields L _ k W25 (HTL.out _ hB2125)).mono ?_
      rintro e w26 ⟨r1, rfl, hown26, hb26⟩
      have HI26 : Hid (IntsIn w26 r1 (fof L k).1) := IntsIn.own hown26
      obtain ⟨ql26, zl26⟩ := HC21.out w26 (hB2125.trans (hb26.mono hB2125.size))
      clear hown26 ql24 zl24 ql25 zl25
      go_wp2_with fail
      refine (specFields L _ k w26 (HTL.out _ (hB2125.trans (hb26.mono hB2125.size)))).mono ?_
      rintro e w27 ⟨r2, rfl, hown27, hb27⟩
      have hB27 : Below W25.heap.size W25 w27 := hb26.trans (hb27.mono hb26.size)
      have hBa27 : Below W21.heap.size W21 w27 := hB2125.trans (hB27.mono hB2125.size)
      have HI27 : Hid (IntsIn w27 r2 (fof L k).1) := IntsIn.own hown27
      have HJ27 : Hid (IntsIn w27 r1 (fof L k).1) := HI26.out.below hb27
      obtain ⟨ql27, zl27⟩ := HC21.out w27 hBa27
      clear hown27 hb26 hb27 HI26 ql26 zl26
      go_wp2_with fail
      refine (implDeep L _ w27 (HTL.out _ hBa27)).mono ?_
      rintro e w28 ⟨rfl, hb28⟩
      obtain ⟨ql28, zl28⟩ := HC21.out w28 (hBa27.trans (hb28.mono hBa27.size))
      go_wp2_with fail
      refine (specDeep L _ w28 (HTL.out _ (hBa27.trans (hb28.mono hBa27.size)))).mono ?_
      rintro e w29 ⟨rfl, hb29⟩
      have hB29 : Below w27.heap.size w27 w29 := hb28.trans (hb29.mono hb28.size)
      have hBb29 : Below W25.heap.size W25 w29 := hB27.trans (hB29.mono hB27.size)
      have hBc29 : Below W23.heap.size W23 w29 := hB2325.trans (hBb29.mono hB2325.size)
      have HBw29 : Hid (Below w.heap.size w w29) := HB21.out.trans ((hBa27.trans (hB29.mono hBa27.size)).mono HB21.out.size)
      have HI29 : Hid (IntsIn w29 r2 (fof L k).1) := HI27.out.below hB29
      have HJ29 : Hid (IntsIn w29 r1 (fof L k).1) := HJ27.out.below hB29
      obtain ⟨qt29, zt29⟩ := HC23.out w29 hBc29
      obtain ⟨qu29, zu29⟩ := HC25.out w29 hBb29
      have hfl := fof_small L k hl30
      have HGD : Hid ((ssof L k).2 = true → gs (ssof L k).1 = true) := ssof_good L k
      clear ql27 zl27 ql28 zl28 hb28 hb29 HI27 HJ27 hB29 hB27 hBa27 hB2125 hB2123 HC21 HTL
      obtain ⟨ok1, h1⟩ : ∃ o, (ssof L k).2 = o := ⟨_, rfl⟩
      obtain ⟨ok2, h2⟩ : ∃ o, (fof L k).2 = o := ⟨_, rfl⟩
      obtain ⟨ok3, h3⟩ : ∃ o, (dof L).2 = o := ⟨_, rfl⟩
      obtain ⟨dd, h4⟩ : ∃ o, ((dof L).1 : Int) = o := ⟨_, rfl⟩
      rw [h1] at HGD
      rw [h1, h2, h3, h4]
      clear h1 h2 h3 h4
      have n1 : (ok1 != ok1) = false := by simp
      have n2 : (ok2 != ok2) = false := by simp
      have n3 : (ok3 != ok3) = false := by simp
      have n4 : (dd != dd) = false := by simp
      go_wp2_with fail
      refine (sameSchemas_same _ _ _ w29 (HT23.out _ hBc29) (HT25.out _ hBb29) (by omega)).mono ?_
      rintro e w30 ⟨rfl, hb30⟩
      have hBc30 : Below W23.heap.size W23 w30 := hBc29.trans (hb30.mono hBc29.size)
      go_wp2_with fail
      refine (sameInts_same _ _ _ w30 (HJ29.out.below hb30) (HI29.out.below hb30) hfl).mono ?_
      rintro e w31 ⟨rfl, hb31⟩
      have hBc31 : Below W23.heap.size W23 w31 := hBc30.trans (hb31.mono hBc30.size)
      have HBw31 : Hid (Below w.heap.size w w31) := HBw29.out.trans ((hb30.trans (hb31.mono hb30.size)).mono HBw29.out.size)
      obtain ⟨qt31, zt31⟩ := HC23.out w31 hBc31
      clear hb30 hb31 qt29 zt29 qu29 zu29 HBw29 hBc30 hBc29 hBb29
      cases ok1
      · go_wp2
        go_ret
        exact ⟨rfl, HBw31.out⟩
      · have GI : Hid (Calls Try.prog 7 #[.agg #[.slice at22 (ssof L k).1.length ct22]] w31 fun e w' => e = .returned (.bool true) ∧ Below w31.heap.size w31 w') := by
          have h := implGood_any (ssof L k).1 _ w31 (HT23.out w31 hBc31)
          rw [gs_eq, HGD.out rfl] at h
          exact h
        go_wp2_with fail
        refine GI.out.mono ?_
        rintro e w32 ⟨rfl, hb32⟩
        have HBw32 : Hid (Below w.heap.size w w32) := HBw31.out.trans (hb32.mono HBw31.out.size)
        clear hb32
        go_wp2
        go_ret
        exact ⟨rfl, HBw32.out⟩

end Go.Proofs.Ytnhmleelhopjmaa
