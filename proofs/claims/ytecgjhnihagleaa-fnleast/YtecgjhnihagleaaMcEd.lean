/- The program's LeastOf. -/
import Derived.Test.YtecgjhnihagleaaHb
import Derived.Test.YtecgjhnihagleaaXo
import Derived.Deep.RegionHeld3
namespace Go.Proofs.Ytecgjhnihagleaa
open Go.RowKit Plain Mch Tpc

set_option maxRecDepth 100000 in
set_option maxHeartbeats 8000000 in
theorem implLeastM (A : List (List Int)) (E : List Bool) (va ea : Value) (w : World) (hA : MAt w w.heap.size va A) (hEA : EAt w w.heap.size ea E) :
    Calls Try.prog 17 #[.agg #[va, ea]] w fun x w' => (∃ r q, x = .returned (.tuple #[.agg #[r, q], .bool (gm A E)]) ∧ ∃ us, MaOwn w' w.heap.size r q (leM A E) (leE A E) us) ∧ Below w.heap.size w w' := by
  have HA : Hid (MAt w w.heap.size va A) := hA
  have HE : Hid (EAt w w.heap.size ea E) := hEA
  obtain ⟨aA, cA, rfl, hlcA, hcmA, _⟩ := hA
  obtain ⟨aE, cE, rfl, hlcE, hcmE, _⟩ := hEA
  unfold maxLen at hcmA hcmE
  have rc := fun (tmps : Array Value) (P : Program) (w : World) => results_cell_tmpM2 (fn := Try.f17) (p := 2) (u := 3) (ty := 30) rfl tmps P w
  obtain ⟨W1, hW1⟩ : ∃ W, W = (w.alloc (.cells #[.slice aA A.length cA, .slice aE E.length cE] 30)).alloc (.cells #[.slice none 0 0, .slice none 0 0] 30) := ⟨_, rfl⟩
  have hB1 : Below w.heap.size w W1 := by rw [hW1]; exact ((Below.refl _ w).alloc (Nat.le_refl _) _).alloc (by simp) _
  have q0 : W1.cell? ⟨w.heap.size, 0, none⟩ = some (.slice aA A.length cA) := by rw [hW1]; go_simp
  have q1 : W1.cell? ⟨w.heap.size, 1, none⟩ = some (.slice aE E.length cE) := by rw [hW1]; go_simp
  have p0 : W1.cell? ⟨w.heap.size + 1, 0, none⟩ = some (.slice none 0 0) := by rw [hW1]; go_simp
  have p1 : W1.cell? ⟨w.heap.size + 1, 1, none⟩ = some (.slice none 0 0) := by rw [hW1]; go_simp
  have y0 : W1.frozen? ⟨w.heap.size + 1, 0, none⟩ = false := by rw [hW1]; go_simp
  have y1 : W1.frozen? ⟨w.heap.size + 1, 1, none⟩ = false := by rw [hW1]; go_simp
  have hl1 : w.heap.size + 1 < W1.heap.size := by rw [hW1]; simp
  have hl0 : w.heap.size < W1.heap.size := by omega
  obtain ⟨G, hG⟩ : ∃ G, G = gm A E := ⟨_, rfl⟩
  obtain ⟨RM, hRM⟩ : ∃ R, R = leM A E := ⟨_, rfl⟩
  obtain ⟨RE, hRE⟩ : ∃ R, R = leE A E := ⟨_, rfl⟩
  have HG : Hid (G = gm A E) := hG
  have HRM : Hid (RM = leM A E) := hRM
  have HRE : Hid (RE = leE A E) := hRE
  rw [← hG, ← hRM, ← hRE]
  clear hG hRM hRE
  have HFF : Hid (gm A E = false → G = false ∧ RM = [] ∧ RE = []) := fun h => by
    refine ⟨HG.out.trans h, ?_, ?_⟩
    · rw [HRM.out]; unfold leM; rw [h]; rfl
    · rw [HRE.out]; unfold leE; rw [h]; rfl
  have HTT : Hid (gm A E = true → G = true ∧ RM = NR (mgc A E) (mgc A E) (prs (mgc A E) (mgc A E)).length ∧ RE = (prs (mgc A E) (mgc A E)).map (ben E E)) := fun h => by
    refine ⟨HG.out.trans h, ?_, ?_⟩
    · rw [HRM.out]; unfold leM; rw [h]; rfl
    · rw [HRE.out]; unfold leE; rw [h]; rfl
  clear HG HRM HRE
  go_enter Try.func17, Try.ntmps17
  go_wp2_with fail
  rw [← hW1]
  clear hW1
  refine (implGoodM A E _ _ _ (HA.out.below hB1) (HE.out.below hB1)).mono ?_
  rintro x w2 ⟨rfl, hb2⟩
  replace q0 := (hb2.cell (p := ⟨w.heap.size, 0, none⟩) hl0).trans q0
  replace q1 := (hb2.cell (p := ⟨w.heap.size, 1, none⟩) hl0).trans q1
  replace p0 := (hb2.cell (p := ⟨w.heap.size + 1, 0, none⟩) hl1).trans p0
  replace p1 := (hb2.cell (p := ⟨w.heap.size + 1, 1, none⟩) hl1).trans p1
  replace y0 := (hb2.frozen (p := ⟨w.heap.size + 1, 0, none⟩) hl1).trans y0
  replace y1 := (hb2.frozen (p := ⟨w.heap.size + 1, 1, none⟩) hl1).trans y1
  have hB2 : Below w.heap.size w w2 := hB1.trans (hb2.mono hB1.size)
  replace hl1 : w.heap.size + 1 < w2.heap.size := by have := hb2.size; omega
  replace hl0 : w.heap.size < w2.heap.size := by omega
  clear hb2 hB1
  cases hgA : gm A E with
  | false =>
    have hF : Hid (G = false ∧ RM = [] ∧ RE = []) := HFF.out hgA
    clear hgA HFF HTT
    go_wp2
    (try simp only [Exit.inBlock, Exit.then])
    refine bodyPost_ret (v := .tuple #[.agg #[.slice none 0 0, .slice none 0 0], .bool false]) ?_ rfl ⟨⟨_, _, by rw [hF.out.1], [], by rw [hF.out.2.1, hF.out.2.2]; exact MaOwn.nil _ _⟩, ?_⟩
    · rw [rc]
      go_simp
    · exact (hB2.setCell (by simp <;> omega) _).setCell (by simp <;> omega) _
  | true =>
  have hF : Hid (G = true ∧ RM = NR (mgc A E) (mgc A E) (prs (mgc A E) (mgc A E)).length ∧ RE = (prs (mgc A E) (mgc A E)).map (ben E E)) := HTT.out hgA
  have HGA : Hid (gm A E = true) := hgA
  have HGM : Hid (gm (mgc A E) E = true) := gm_mgc hgA
  clear hgA HFF HTT
  go_wp2_with fail
  refine (classesOf_any A E _ _ _ (HA.out.below hB2) (HE.out.below hB2) HGA.out).mono ?_
  rintro x w3 ⟨⟨r3, rfl, ho3⟩, hb3⟩
  replace q0 := (hb3.cell (p := ⟨w.heap.size, 0, none⟩) hl0).trans q0
  replace q1 := (hb3.cell (p := ⟨w.heap.size, 1, none⟩) hl0).trans q1
  replace p0 := (hb3.cell (p := ⟨w.heap.size + 1, 0, none⟩) hl1).trans p0
  replace p1 := (hb3.cell (p := ⟨w.heap.size + 1, 1, none⟩) hl1).trans p1
  replace y0 := (hb3.frozen (p := ⟨w.heap.size + 1, 0, none⟩) hl1).trans y0
  replace y1 := (hb3.frozen (p := ⟨w.heap.size + 1, 1, none⟩) hl1).trans y1
  have hB3 : Below w.heap.size w w3 := hB2.trans (hb3.mono hB2.size)
  replace hl1 : w.heap.size + 1 < w3.heap.size := by have := hb3.size; omega
  replace hl0 : w.heap.size < w3.heap.size := by omega
  obtain ⟨a3, c3, hv3⟩ := ZRow.slice ho3
  subst hv3
  have HO3 : Hid (ZAt w3 w3.heap.size (.slice a3 (zn (cls A E)).length c3) (zn (cls A E))) := ZAt.own ho3
  clear hb3 hB2 ho3
  go_wp2_with fail
  refine (mergeClasses_any A E (cls A E) _ _ _ _ (HA.out.below hB3) (HE.out.below hB3) HO3.out HGA.out (by rw [cls_len]; exact (gm_iff.1 HGA.out).1.2.2)).mono ?_
  rintro x w4 ⟨⟨r4, s4, rfl, hr4, hs4⟩, hb4⟩
  replace q0 := (hb4.cell (p := ⟨w.heap.size, 0, none⟩) hl0).trans q0
  replace q1 := (hb4.cell (p := ⟨w.heap.size, 1, none⟩) hl0).trans q1
  replace p0 := (hb4.cell (p := ⟨w.heap.size + 1, 0, none⟩) hl1).trans p0
  replace p1 := (hb4.cell (p := ⟨w.heap.size + 1, 1, none⟩) hl1).trans p1
  replace y0 := (hb4.frozen (p := ⟨w.heap.size + 1, 0, none⟩) hl1).trans y0
  replace y1 := (hb4.frozen (p := ⟨w.heap.size + 1, 1, none⟩) hl1).trans y1
  have hB4 : Below w.heap.size w w4 := hB3.trans (hb4.mono hB3.size)
  replace hl1 : w.heap.size + 1 < w4.heap.size := by have := hb4.size; omega
  replace hl0 : w.heap.size < w4.heap.size := by omega
  have HR4 : Hid (MAt w4 w4.heap.size r4 (mg A (cls A E))) := hr4
  have HS4 : Hid (EAt w4 w4.heap.size s4 E) := hs4
  obtain ⟨a4, c4, hv4, _⟩ := hr4
  subst hv4
  obtain ⟨b4, d4, hv4, _⟩ := hs4
  subst hv4
  clear hb4 hB3 HO3
  obtain ⟨C, hC⟩ : ∃ C, C = mg A (cls A E) := ⟨_, rfl⟩
  have hCm : mgc A E = C := hC.symm
  have HCL : Hid (C.length = E.length) := by show _ = _; rw [hC]; exact mgc_len
  rw [hCm] at hF HGM
  rw [← hC] at HR4 ⊢
  clear hCm
  clear hC
  have HNW : Hid (w.heap.size + 1 < w4.heap.size) := hl1
  obtain ⟨W5, hW5⟩ : ∃ W, W = w4.alloc (.cells #[.slice a4 C.length c4, .slice b4 E.length d4] 30) := ⟨_, rfl⟩
  have hb5 : Below w4.heap.size w4 W5 := by rw [hW5]; exact (Below.refl _ w4).alloc (Nat.le_refl _) _
  have m0 : W5.cell? ⟨w4.heap.size, 0, none⟩ = some (.slice a4 C.length c4) := by rw [hW5]; go_simp
  have m1 : W5.cell? ⟨w4.heap.size, 1, none⟩ = some (.slice b4 E.length d4) := by rw [hW5]; go_simp
  have hm5 : w4.heap.size < W5.heap.size := by rw [hW5]; simp
  replace q0 := (hb5.cell (p := ⟨w.heap.size, 0, none⟩) hl0).trans q0
  replace q1 := (hb5.cell (p := ⟨w.heap.size, 1, none⟩) hl0).trans q1
  replace p0 := (hb5.cell (p := ⟨w.heap.size + 1, 0, none⟩) hl1).trans p0
  replace p1 := (hb5.cell (p := ⟨w.heap.size + 1, 1, none⟩) hl1).trans p1
  replace y0 := (hb5.frozen (p := ⟨w.heap.size + 1, 0, none⟩) hl1).trans y0
  replace y1 := (hb5.frozen (p := ⟨w.heap.size + 1, 1, none⟩) hl1).trans y1
  have hB5 : Below w.heap.size w W5 := hB4.trans (hb5.mono hB4.size)
  replace hl1 : w.heap.size + 1 < W5.heap.size := by have := hb5.size; omega
  replace hl0 : w.heap.size < W5.heap.size := by omega
  have HM5 : Hid (MAt W5 W5.heap.size (.slice a4 C.length c4) C) := HR4.out.below hb5
  have HE5 : Hid (EAt W5 W5.heap.size (.slice b4 E.length d4) E) := HS4.out.below hb5
  have HMET : Hid (Mch.Met C.length C.length (prs C C)) := prs_met HGM.out HGM.out
  have hnw : w.heap.size + 1 < w4.heap.size := HNW.out
  clear hb5 hB4 HR4 HS4
  have CW : Hid (∀ W : World, Below W5.heap.size W5 W → Calls Try.prog 50 #[.agg #[.slice a4 C.length c4, .slice b4 E.length d4], .agg #[.slice a4 C.length c4, .slice b4 E.length d4]] W (WalkR C C W)) := fun W hW => walkPairs_any C C E E _ _ _ _ _ (HM5.out.below hW) (HM5.out.below hW) (HE5.out.below hW) (HE5.out.below hW) HGM.out HGM.out
  have hd5 : Below W5.heap.size W5 W5.drew := (Below.refl _ W5).drew
  go_upto_region 5 with fail
  rw [← hW5]
  clear hW5
  have HS : Hid (∀ w', Below W5.heap.size W5 w' → w'.cell? ⟨w4.heap.size, 0, none⟩ = some (.slice a4 C.length c4) ∧ w'.cell? ⟨w4.heap.size, 1, none⟩ = some (.slice b4 E.length d4)) := fun w' h => ⟨(h.cell (p := ⟨w4.heap.size, 0, none⟩) hm5).trans m0, (h.cell (p := ⟨w4.heap.size, 1, none⟩) hm5).trans m1⟩
  have hSd := HS.out _ hd5
  have S8 : Hid (∀ (w' : World) (x y : Value), (w'.cell? ⟨w4.heap.size, 0, none⟩ = some (.slice a4 C.length c4) ∧ w'.cell? ⟨w4.heap.size, 1, none⟩ = some (.slice b4 E.length d4)) → ((w'.setCell ⟨w.heap.size + 1, 0, none⟩ x).setCell ⟨w.heap.size + 1, 1, none⟩ y).cell? ⟨w4.heap.size, 0, none⟩ = some (.slice a4 C.length c4) ∧ ((w'.setCell ⟨w.heap.size + 1, 0, none⟩ x).setCell ⟨w.heap.size + 1, 1, none⟩ y).cell? ⟨w4.heap.size, 1, none⟩ = some (.slice b4 E.length d4)) := fun w' x y h => by
    refine ⟨?_, ?_⟩
    · rw [World.cell?_setCell_other _ _ _ _ (by first | (simp; done) | (simp; omega)), World.cell?_setCell_other _ _ _ _ (by first | (simp; done) | (simp; omega))]; exact h.1
    · rw [World.cell?_setCell_other _ _ _ _ (by first | (simp; done) | (simp; omega)), World.cell?_setCell_other _ _ _ _ (by first | (simp; done) | (simp; omega))]; exact h.2
  go_region_held3 (fun w' => w'.cell? ⟨w4.heap.size, 0, none⟩ = some (.slice a4 C.length c4) ∧ w'.cell? ⟨w4.heap.size, 1, none⟩ = some (.slice b4 E.length d4))
    (first
      | with_reducible exact hS8
      | with_reducible exact hS7
      | with_reducible exact hS6
      | with_reducible exact hSd
      | exact HS.out _ (Below.refl _ _))
    (first
      | (have hway := is6; go_at_call 51; (with_reducible refine (met_any E E _ _ _ _ _ _ _ _ _ _ _ _ _ C C _ HP6.out (HM5.out.below hB6) (HE5.out.below hB6) (HM5.out.below hB6) (HE5.out.below hB6) (fun i hi => by have h1 := HMET.out.lo i hi; have h2 := HCL.out; omega) (HMET.out.le HGM.out HGM.out)).mono ?_); rintro x w7 ⟨⟨e7, rfl, he7⟩, hb7⟩; have hB7 : Below W5.heap.size W5 w7 := hB6.trans (hb7.mono hB6.size); have HOWN : Hid (MaOwn w7 W5.heap.size vn e7 RM RE us) := (by show MaOwn _ _ _ _ _ _ _; rw [hF.out.2.1, hF.out.2.2]; exact MaOwn.join HP6.out.rn he7 hb7 hB6.size); obtain ⟨an, cn, hvn⟩ := HOWN.out.1.slice; obtain ⟨ev, dv, hev⟩ := ERow.slice HOWN.out.2.1; subst hvn; subst hev; have t0 := (hB7.cell (p := ⟨w.heap.size + 1, 0, none⟩) hl1).trans p0; have t1 := (hB7.cell (p := ⟨w.heap.size + 1, 1, none⟩) hl1).trans p1; have z0 := (hB7.frozen (p := ⟨w.heap.size + 1, 0, none⟩) hl1).trans y0; have z1 := (hB7.frozen (p := ⟨w.heap.size + 1, 1, none⟩) hl1).trans y1; have hl7 : w.heap.size + 1 < w7.heap.size := (by have := hB7.size; omega); have hS7 := HS.out _ hB7; have hS8 := S8.out w7 (.slice an RM.length cn) (.slice ev RE.length dv) hS7)
      | (go_at_call 50; (with_reducible refine (CW.out _ hd5).mono ?_); rintro x w6 ⟨b, vp, vn, vt, us, rfl, hP6, hb6⟩; have is6 : True := trivial; have hB6 : Below W5.heap.size W5 w6 := hd5.trans hb6; have HP6 : Hid (PWa w6 W5.heap.size b vp vn vt (prs C C) ((prs C C).map Pq.s) (NR C C (prs C C).length) us) := hP6; have hS6 := HS.out _ hB6))
  all_goals
    have hBe : Below w.heap.size w w7 := hB5.trans (hB7.mono hB5.size)
    go_wp2
    (try simp only [Exit.inBlock, Exit.then])
    refine bodyPost_ret (v := .tuple #[.agg #[.slice an RM.length cn, .slice ev RE.length dv], .bool true]) ?_ rfl ⟨⟨_, _, by rw [hF.out.1], us, ?_⟩, ?_⟩
    · rw [rc]
      go_simp
    · exact ((HOWN.out.setCell (a := ⟨w.heap.size + 1, 0, none⟩) hl1 _).setCell (a := ⟨w.heap.size + 1, 1, none⟩) hl1 _).lower (by omega)
    · exact (hBe.setCell (by simp <;> omega) _).setCell (by simp <;> omega) _

end Go.Proofs.Ytecgjhnihagleaa
