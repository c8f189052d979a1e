/- The program's MeetMachines. -/
import Derived.Test.YtecgjhnihagleaaMcY
import Derived.Test.YtecgjhnihagleaaMcMt
import Derived.Test.YtecgjhnihagleaaMcMj
namespace Go.Proofs.Ytecgjhnihagleaa
open Go.RowKit Plain Mch Tpc

set_option maxRecDepth 100000 in
set_option maxHeartbeats 8000000 in
theorem implMeet (A : List (List Int)) (E : List Bool) (va ea : Value) (B : List (List Int)) (F : List Bool) (vb eb : Value) (w : World) (hA : MAt w w.heap.size va A) (hEA : EAt w w.heap.size ea E) (hB : MAt w w.heap.size vb B) (hEB : EAt w w.heap.size eb F) :
    Calls Try.prog 26 #[.agg #[va, ea], .agg #[vb, eb]] w fun x w' => (∃ r q, x = .returned (.tuple #[.agg #[r, q], .bool (mok A E B F)]) ∧ ∃ us, MaOwn w' w.heap.size r q (meM A E B F) (meE A E B F) us) ∧ Below w.heap.size w w' := by
  have HA : Hid (MAt w w.heap.size va A) := hA
  have HB : Hid (MAt w w.heap.size vb B) := hB
  have HE : Hid (EAt w w.heap.size ea E) := hEA
  have HF : Hid (EAt w w.heap.size eb F) := hEB
  obtain ⟨aA, cA, rfl, hlcA, hcmA, _⟩ := hA
  obtain ⟨aB, cB, rfl, hlcB, hcmB, _⟩ := hB
  obtain ⟨aE, cE, rfl, hlcE, hcmE, _⟩ := hEA
  obtain ⟨aF, cF, rfl, hlcF, hcmF, _⟩ := hEB
  unfold maxLen at hcmA hcmB hcmE hcmF
  have rc := fun (tmps : Array Value) (P : Program) (w : World) => results_cell_tmpM2 (fn := Try.f26) (p := 4) (u := 5) (ty := 30) rfl tmps P w
  obtain ⟨W1, hW1⟩ : ∃ W, W = ((w.alloc (.cells #[.slice aA A.length cA, .slice aE E.length cE] 30)).alloc (.cells #[.slice aB B.length cB, .slice aF F.length cF] 30)).alloc (.cells #[.slice none 0 0, .slice none 0 0] 30) := ⟨_, rfl⟩
  have hB1 : Below w.heap.size w W1 := by rw [hW1]; exact (((Below.refl _ w).alloc (Nat.le_refl _) _).alloc (by simp) _).alloc (by simp; omega) _
  have q0 : W1.cell? ⟨w.heap.size, 0, none⟩ = some (.slice aA A.length cA) := by rw [hW1]; go_simp
  have q1 : W1.cell? ⟨w.heap.size, 1, none⟩ = some (.slice aE E.length cE) := by rw [hW1]; go_simp
  have q2 : W1.cell? ⟨w.heap.size + 1, 0, none⟩ = some (.slice aB B.length cB) := by rw [hW1]; go_simp
  have q3 : W1.cell? ⟨w.heap.size + 1, 1, none⟩ = some (.slice aF F.length cF) := by rw [hW1]; go_simp
  have p0 : W1.cell? ⟨w.heap.size + 2, 0, none⟩ = some (.slice none 0 0) := by rw [hW1]; go_simp
  have p1 : W1.cell? ⟨w.heap.size + 2, 1, none⟩ = some (.slice none 0 0) := by rw [hW1]; go_simp
  have y0 : W1.frozen? ⟨w.heap.size + 2, 0, none⟩ = false := by rw [hW1]; go_simp
  have y1 : W1.frozen? ⟨w.heap.size + 2, 1, none⟩ = false := by rw [hW1]; go_simp
  have hl2 : w.heap.size + 2 < W1.heap.size := by rw [hW1]; simp
  have hl1 : w.heap.size + 1 < W1.heap.size := by omega
  have hl0 : w.heap.size < W1.heap.size := by omega
  obtain ⟨G, hG⟩ : ∃ G, G = mok A E B F := ⟨_, rfl⟩
  obtain ⟨RM, hRM⟩ : ∃ R, R = meM A E B F := ⟨_, rfl⟩
  obtain ⟨RE, hRE⟩ : ∃ R, R = meE A E B F := ⟨_, rfl⟩
  have HG : Hid (G = mok A E B F) := hG
  have HRM : Hid (RM = meM A E B F) := hRM
  have HRE : Hid (RE = meE A E B F) := hRE
  rw [← hG, ← hRM, ← hRE]
  clear hG hRM hRE
  have HFF : Hid (mok A E B F = false → G = false ∧ RM = [] ∧ RE = []) := fun h => by
    refine ⟨HG.out.trans h, ?_, ?_⟩
    · rw [HRM.out]; unfold meM; rw [h]; rfl
    · rw [HRE.out]; unfold meE; rw [h]; rfl
  have HTT : Hid (mok A E B F = true → G = true ∧ RM = NR A B (prs A B).length ∧ RE = (prs A B).map (ben E F)) := fun h => by
    refine ⟨HG.out.trans h, ?_, ?_⟩
    · rw [HRM.out]; unfold meM; rw [h]; rfl
    · rw [HRE.out]; unfold meE; rw [h]; rfl
  clear HG HRM HRE
  go_enter Try.func26, Try.ntmps26
  go_wp2_with fail
  rw [← hW1]
  clear hW1
  refine (implGoodM A E _ _ _ (HA.out.below hB1) (HE.out.below hB1)).mono ?_
  rintro x w2 ⟨rfl, hb2⟩
  replace q0 := (hb2.cell (p := ⟨w.heap.size, 0, none⟩) hl0).trans q0
  replace q1 := (hb2.cell (p := ⟨w.heap.size, 1, none⟩) hl0).trans q1
  replace q2 := (hb2.cell (p := ⟨w.heap.size + 1, 0, none⟩) hl1).trans q2
  replace q3 := (hb2.cell (p := ⟨w.heap.size + 1, 1, none⟩) hl1).trans q3
  replace p0 := (hb2.cell (p := ⟨w.heap.size + 2, 0, none⟩) hl2).trans p0
  replace p1 := (hb2.cell (p := ⟨w.heap.size + 2, 1, none⟩) hl2).trans p1
  replace y0 := (hb2.frozen (p := ⟨w.heap.size + 2, 0, none⟩) hl2).trans y0
  replace y1 := (hb2.frozen (p := ⟨w.heap.size + 2, 1, none⟩) hl2).trans y1
  have hB2 : Below w.heap.size w w2 := hB1.trans (hb2.mono hB1.size)
  replace hl2 : w.heap.size + 2 < w2.heap.size := by have := hb2.size; omega
  replace hl1 : w.heap.size + 1 < w2.heap.size := by omega
  replace hl0 : w.heap.size < w2.heap.size := by omega
  clear hb2 hB1
  cases hgA : gm A E with
  | false =>
    have hF : Hid (G = false ∧ RM = [] ∧ RE = []) := HFF.out (by unfold mok; rw [hgA]; rfl)
    clear hgA HFF HTT
    go_wp2
    (try simp only [Exit.inBlock, Exit.then])
    refine bodyPost_ret (v := .tuple #[.agg #[.slice none 0 0, .slice none 0 0], .bool false]) ?_ rfl ⟨⟨_, _, by rw [hF.out.1], [], by rw [hF.out.2.1, hF.out.2.2]; exact MaOwn.nil _ _⟩, ?_⟩
    · rw [rc]
      go_simp
    · exact (hB2.setCell (by simp <;> omega) _).setCell (by simp <;> omega) _
  | true =>
  have HGA : Hid (gm A E = true) := hgA
  clear hgA
  go_wp2_with fail
  refine (implGoodM B F _ _ _ (HB.out.below hB2) (HF.out.below hB2)).mono ?_
  rintro x w3 ⟨rfl, hb3⟩
  replace q0 := (hb3.cell (p := ⟨w.heap.size, 0, none⟩) hl0).trans q0
  replace q1 := (hb3.cell (p := ⟨w.heap.size, 1, none⟩) hl0).trans q1
  replace q2 := (hb3.cell (p := ⟨w.heap.size + 1, 0, none⟩) hl1).trans q2
  replace q3 := (hb3.cell (p := ⟨w.heap.size + 1, 1, none⟩) hl1).trans q3
  replace p0 := (hb3.cell (p := ⟨w.heap.size + 2, 0, none⟩) hl2).trans p0
  replace p1 := (hb3.cell (p := ⟨w.heap.size + 2, 1, none⟩) hl2).trans p1
  replace y0 := (hb3.frozen (p := ⟨w.heap.size + 2, 0, none⟩) hl2).trans y0
  replace y1 := (hb3.frozen (p := ⟨w.heap.size + 2, 1, none⟩) hl2).trans y1
  have hB3 : Below w.heap.size w w3 := hB2.trans (hb3.mono hB2.size)
  replace hl2 : w.heap.size + 2 < w3.heap.size := by have := hb3.size; omega
  replace hl1 : w.heap.size + 1 < w3.heap.size := by omega
  replace hl0 : w.heap.size < w3.heap.size := by omega
  clear hb3 hB2
  cases hgB : gm B F with
  | false =>
    have hF : Hid (G = false ∧ RM = [] ∧ RE = []) := HFF.out (by unfold mok; rw [HGA.out, hgB]; rfl)
    clear hgB HFF HTT
    go_wp2
    (try simp only [Exit.inBlock, Exit.then])
    refine bodyPost_ret (v := .tuple #[.agg #[.slice none 0 0, .slice none 0 0], .bool false]) ?_ rfl ⟨⟨_, _, by rw [hF.out.1], [], by rw [hF.out.2.1, hF.out.2.2]; exact MaOwn.nil _ _⟩, ?_⟩
    · rw [rc]
      go_simp
    · exact (hB3.setCell (by simp <;> omega) _).setCell (by simp <;> omega) _
  | true =>
  have HGB : Hid (gm B F = true) := hgB
  clear hgB
  have HL3 : Hid (w.heap.size + 2 < w3.heap.size) := hl2
  go_wp2_with fail
  refine (walkPairs_any A B E F _ _ _ _ _ (HA.out.below hB3) (HB.out.below hB3) (HE.out.below hB3) (HF.out.below hB3) HGA.out HGB.out).mono ?_
  rintro x w4 ⟨b, vp, vn, vt, us, rfl, hP4, hb4⟩
  replace q0 := (hb4.cell (p := ⟨w.heap.size, 0, none⟩) hl0).trans q0
  replace q1 := (hb4.cell (p := ⟨w.heap.size, 1, none⟩) hl0).trans q1
  replace q2 := (hb4.cell (p := ⟨w.heap.size + 1, 0, none⟩) hl1).trans q2
  replace q3 := (hb4.cell (p := ⟨w.heap.size + 1, 1, none⟩) hl1).trans q3
  replace p0 := (hb4.cell (p := ⟨w.heap.size + 2, 0, none⟩) hl2).trans p0
  replace p1 := (hb4.cell (p := ⟨w.heap.size + 2, 1, none⟩) hl2).trans p1
  replace y0 := (hb4.frozen (p := ⟨w.heap.size + 2, 0, none⟩) hl2).trans y0
  replace y1 := (hb4.frozen (p := ⟨w.heap.size + 2, 1, none⟩) hl2).trans y1
  have hB4 : Below w.heap.size w w4 := hB3.trans (hb4.mono hB3.size)
  replace hl2 : w.heap.size + 2 < w4.heap.size := by have := hb4.size; omega
  replace hl1 : w.heap.size + 1 < w4.heap.size := by omega
  replace hl0 : w.heap.size < w4.heap.size := by omega
  have HP4 : Hid (PWa w4 w3.heap.size b vp vn vt (prs A B) ((prs A B).map Pq.s) (NR A B (prs A B).length) us) := hP4
  have HMET : Hid (Mch.Met A.length B.length (prs A B)) := prs_met HGA.out HGB.out
  have HL34 : Hid (w3.heap.size ≤ w4.heap.size) := hb4.size
  obtain ⟨ap, cp, hvp, hcp⟩ := hP4.rp.slice
  subst hvp
  have k0 := hP4.c0
  have hbl := hP4.lb
  obtain ⟨n, hn⟩ : ∃ n, n = (prs A B).length := ⟨_, rfl⟩
  have HN : Hid (n = (prs A B).length) := hn
  rw [← hn] at k0
  have hn144 : n ≤ 144 := by rw [hn]; exact HMET.out.le HGA.out HGB.out
  clear hn hP4 hb4 hB3
  by_cases h12 : 12 < n
  · have h12' : (12 : Int) < (n : Int) := by omega
    have hF : Hid (G = false ∧ RM = [] ∧ RE = []) := HFF.out (by unfold mok; rw [HGA.out, HGB.out, ← HN.out]; simp; omega)
    clear HFF HTT
    go_wp2
    (try simp only [Exit.inBlock, Exit.then])
    refine bodyPost_ret (v := .tuple #[.agg #[.slice none 0 0, .slice none 0 0], .bool false]) ?_ rfl ⟨⟨_, _, by rw [hF.out.1], [], by rw [hF.out.2.1, hF.out.2.2]; exact MaOwn.nil _ _⟩, ?_⟩
    · rw [rc]
      go_simp
    · exact (hB4.setCell (by simp <;> omega) _).setCell (by simp <;> omega) _
  · have h12' : ¬ ((12 : Int) < (n : Int)) := by omega
    have hF : Hid (G = true ∧ RM = NR A B (prs A B).length ∧ RE = (prs A B).map (ben E F)) := HTT.out (by unfold mok; rw [HGA.out, HGB.out, ← HN.out]; simp; omega)
    clear HFF HTT
    have hLE : Hid (E.length = A.length) := (gm_iff.1 HGA.out).1.2.2
    have hLF : Hid (F.length = B.length) := (gm_iff.1 HGB.out).1.2.2
    go_wp2_with fail
    refine (met_any E F _ _ _ _ _ _ _ _ _ _ _ _ _ A B _ HP4.out (HA.out.below hB4) (HE.out.below hB4) (HB.out.below hB4) (HF.out.below hB4) (fun i hi => by have h1 := HMET.out.lo i hi; have h2 := hLE.out; have h3 := hLF.out; omega) (by rw [← HN.out]; exact hn144)).mono ?_
    rintro x w5 ⟨⟨e5, rfl, he5⟩, hb5⟩
    replace q0 := (hb5.cell (p := ⟨w.heap.size, 0, none⟩) hl0).trans q0
    replace q1 := (hb5.cell (p := ⟨w.heap.size, 1, none⟩) hl0).trans q1
    replace q2 := (hb5.cell (p := ⟨w.heap.size + 1, 0, none⟩) hl1).trans q2
    replace q3 := (hb5.cell (p := ⟨w.heap.size + 1, 1, none⟩) hl1).trans q3
    replace p0 := (hb5.cell (p := ⟨w.heap.size + 2, 0, none⟩) hl2).trans p0
    replace p1 := (hb5.cell (p := ⟨w.heap.size + 2, 1, none⟩) hl2).trans p1
    replace y0 := (hb5.frozen (p := ⟨w.heap.size + 2, 0, none⟩) hl2).trans y0
    replace y1 := (hb5.frozen (p := ⟨w.heap.size + 2, 1, none⟩) hl2).trans y1
    have hB5 : Below w.heap.size w w5 := hB4.trans (hb5.mono hB4.size)
    replace hl2 : w.heap.size + 2 < w5.heap.size := by have := hb5.size; omega
    replace hl1 : w.heap.size + 1 < w5.heap.size := by omega
    replace hl0 : w.heap.size < w5.heap.size := by omega
    have HOWN : Hid (MaOwn w5 w3.heap.size vn e5 RM RE us) := by
      show MaOwn _ _ _ _ _ _ _
      rw [hF.out.2.1, hF.out.2.2]
      exact MaOwn.join HP4.out.rn he5 hb5 HL34.out
    obtain ⟨an, cn, hvn⟩ := HOWN.out.1.slice
    obtain ⟨ev, dv, hev⟩ := ERow.slice HOWN.out.2.1
    subst hvn hev
    clear he5 hb5 hB4 k0
    go_wp2
    (try simp only [Exit.inBlock, Exit.then])
    refine bodyPost_ret (v := .tuple #[.agg #[.slice an RM.length cn, .slice ev RE.length dv], .bool true]) ?_ rfl ⟨⟨_, _, by rw [hF.out.1], us, ?_⟩, ?_⟩
    · rw [rc]
      go_simp
    · have hL := HL3.out
      exact ((HOWN.out.setCell (a := ⟨w.heap.size + 2, 0, none⟩) (by show w.heap.size + 2 < _; omega) _).setCell (a := ⟨w.heap.size + 2, 1, none⟩) (by show w.heap.size + 2 < _; omega) _).lower (by omega)
    · exact (hB5.setCell (by simp <;> omega) _).setCell (by simp <;> omega) _

end Go.Proofs.Ytecgjhnihagleaa
