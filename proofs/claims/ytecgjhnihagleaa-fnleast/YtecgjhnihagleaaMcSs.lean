/- The model's SameLanguage. -/
import Derived.Test.YtecgjhnihagleaaXp
import Derived.Test.YtecgjhnihagleaaMcSa
namespace Go.Proofs.Ytecgjhnihagleaa
open Go.RowKit Plain Mch Tpc

set_option maxRecDepth 100000 in
set_option maxHeartbeats 8000000 in
theorem specSame (A : List (List Int)) (E : List Bool) (va ea : Value) (B : List (List Int)) (F : List Bool) (vb eb : Value) (w : World) (hA : MAt w w.heap.size va A) (hEA : EAt w w.heap.size ea E) (hB : MAt w w.heap.size vb B) (hEB : EAt w w.heap.size eb F) :
    Calls Try.prog 36 #[.agg #[va, ea], .agg #[vb, eb]] w fun x w' => x = .returned (.tuple #[.string (smt A E B F), .bool (smb A E B F), .bool (gm A E && gm B F)]) ∧ Below w.heap.size w w' := by
  have HA : Hid (MAt w w.heap.size va A) := hA
  have HB : Hid (MAt w w.heap.size vb B) := hB
  have HE : Hid (EAt w w.heap.size ea E) := hEA
  have HF : Hid (EAt w w.heap.size eb F) := hEB
  obtain ⟨aA, cA, rfl, hlcA, hcmA, _⟩ := hA
  obtain ⟨aB, cB, rfl, hlcB, hcmB, _⟩ := hB
  obtain ⟨aE, cE, rfl, hlcE, hcmE, _⟩ := hEA
  obtain ⟨aF, cF, rfl, hlcF, hcmF, _⟩ := hEB
  unfold maxLen at hcmA hcmB hcmE hcmF
  obtain ⟨W1, hW1⟩ : ∃ W, W = (w.alloc (.cells #[.slice aA A.length cA, .slice aE E.length cE] 30)).alloc (.cells #[.slice aB B.length cB, .slice aF F.length cF] 30) := ⟨_, rfl⟩
  have hB1 : Below w.heap.size w W1 := by rw [hW1]; exact ((Below.refl _ w).alloc (Nat.le_refl _) _).alloc (by simp) _
  have q0 : W1.cell? ⟨w.heap.size, 0, none⟩ = some (.slice aA A.length cA) := by rw [hW1]; go_simp
  have q1 : W1.cell? ⟨w.heap.size, 1, none⟩ = some (.slice aE E.length cE) := by rw [hW1]; go_simp
  have q2 : W1.cell? ⟨w.heap.size + 1, 0, none⟩ = some (.slice aB B.length cB) := by rw [hW1]; go_simp
  have q3 : W1.cell? ⟨w.heap.size + 1, 1, none⟩ = some (.slice aF F.length cF) := by rw [hW1]; go_simp
  have hl1 : w.heap.size + 1 < W1.heap.size := by rw [hW1]; simp
  have hl0 : w.heap.size < W1.heap.size := by omega
  obtain ⟨T, hT⟩ : ∃ T, T = smt A E B F := ⟨_, rfl⟩
  obtain ⟨S, hS⟩ : ∃ S, S = smb A E B F := ⟨_, rfl⟩
  obtain ⟨G, hG⟩ : ∃ G, G = (gm A E && gm B F) := ⟨_, rfl⟩
  have HT : Hid (T = smt A E B F) := hT
  have HS : Hid (S = smb A E B F) := hS
  have HG : Hid (G = (gm A E && gm B F)) := hG
  rw [← hT, ← hS, ← hG]
  clear hT hS hG
  have HFF : Hid ((gm A E && gm B F) = false → T = ⟨#[]⟩ ∧ S = false ∧ G = false) := fun h => by
    refine ⟨?_, ?_, HG.out.trans h⟩
    · rw [HT.out]; unfold smt; rw [if_neg (by rw [h]; simp)]; rfl
    · rw [HS.out]; unfold smb; rw [h]; rfl
  go_enter Try.func36, Try.ntmps36
  go_wp2_with fail
  rw [← hW1]
  clear hW1
  refine (specGoodM A E _ _ _ (HA.out.below hB1) (HE.out.below hB1)).mono ?_
  rintro x w2 ⟨rfl, hb2⟩
  replace q0 := (hb2.cell (p := ⟨w.heap.size, 0, none⟩) hl0).trans q0
  replace q1 := (hb2.cell (p := ⟨w.heap.size, 1, none⟩) hl0).trans q1
  replace q2 := (hb2.cell (p := ⟨w.heap.size + 1, 0, none⟩) hl1).trans q2
  replace q3 := (hb2.cell (p := ⟨w.heap.size + 1, 1, none⟩) hl1).trans q3
  have hB2 : Below w.heap.size w w2 := hB1.trans (hb2.mono hB1.size)
  replace hl1 : w.heap.size + 1 < w2.heap.size := by have := hb2.size; omega
  replace hl0 : w.heap.size < w2.heap.size := by omega
  clear hb2 hB1
  cases hgA : gm A E with
  | false =>
    have hF : Hid (T = ⟨#[]⟩ ∧ S = false ∧ G = false) := HFF.out (by rw [hgA]; rfl)
    clear hgA HFF
    go_wp2
    go_ret3
    exact ⟨by rw [hF.out.1, hF.out.2.1, hF.out.2.2]; rfl, hB2⟩
  | true =>
  have HGA : Hid (gm A E = true) := hgA
  clear hgA
  go_wp2_with fail
  refine (specGoodM B F _ _ _ (HB.out.below hB2) (HF.out.below hB2)).mono ?_
  rintro x w3 ⟨rfl, hb3⟩
  replace q0 := (hb3.cell (p := ⟨w.heap.size, 0, none⟩) hl0).trans q0
  replace q1 := (hb3.cell (p := ⟨w.heap.size, 1, none⟩) hl0).trans q1
  replace q2 := (hb3.cell (p := ⟨w.heap.size + 1, 0, none⟩) hl1).trans q2
  replace q3 := (hb3.cell (p := ⟨w.heap.size + 1, 1, none⟩) hl1).trans q3
  have hB3 : Below w.heap.size w w3 := hB2.trans (hb3.mono hB2.size)
  replace hl1 : w.heap.size + 1 < w3.heap.size := by have := hb3.size; omega
  replace hl0 : w.heap.size < w3.heap.size := by omega
  clear hb3 hB2
  cases hgB : gm B F with
  | false =>
    have hF : Hid (T = ⟨#[]⟩ ∧ S = false ∧ G = false) := HFF.out (by rw [HGA.out, hgB]; rfl)
    clear hgB HFF
    go_wp2
    go_ret3
    exact ⟨by rw [hF.out.1, hF.out.2.1, hF.out.2.2]; rfl, hB3⟩
  | true =>
  have HGB : Hid (gm B F = true) := hgB
  clear hgB HFF
  have HGG : Hid ((gm A E && gm B F) = true) := by show _ = _; rw [HGA.out, HGB.out]; rfl
  go_wp2_with fail
  refine (l12Pairs_any A B E F _ _ _ _ _ (HA.out.below hB3) (HB.out.below hB3) (HE.out.below hB3) (HF.out.below hB3) HGA.out HGB.out).mono ?_
  rintro x w4 ⟨r, rfl, hP4, hb4⟩
  replace q0 := (hb4.cell (p := ⟨w.heap.size, 0, none⟩) hl0).trans q0
  replace q1 := (hb4.cell (p := ⟨w.heap.size, 1, none⟩) hl0).trans q1
  replace q2 := (hb4.cell (p := ⟨w.heap.size + 1, 0, none⟩) hl1).trans q2
  replace q3 := (hb4.cell (p := ⟨w.heap.size + 1, 1, none⟩) hl1).trans q3
  have hB4 : Below w.heap.size w w4 := hB3.trans (hb4.mono hB3.size)
  replace hl1 : w.heap.size + 1 < w4.heap.size := by have := hb4.size; omega
  replace hl0 : w.heap.size < w4.heap.size := by omega
  have HP4 : Hid (TRow w4 w3.heap.size r (prs A B)) := hP4
  have HMET : Hid (Mch.Met A.length B.length (prs A B)) := prs_met HGA.out HGB.out
  obtain ⟨ap, cp, hvp, hcp⟩ := hP4.slice
  subst hvp
  obtain ⟨n, hn⟩ : ∃ n, n = (prs A B).length := ⟨_, rfl⟩
  have HN : Hid (n = (prs A B).length) := hn
  rw [← hn]
  have hn144 : n ≤ 144 := by rw [hn]; exact HMET.out.le HGA.out HGB.out
  clear hn hP4 hb4 hB3
  go_wp2
  go_loopw [21] (fun vi wr => ∃ i : Nat, i ≤ n ∧ vi = .int .i64 (i : Int) ∧ Hid (i ≤ fdx A E B F) ∧ Hid (Below w4.heap.size w4 wr))
    (fun vi _ => n - (intOf vi).toNat)
  case atStart => exact ⟨0, by omega, rfl, Nat.zero_le _, Below.refl _ _⟩
  case round =>
    obtain ⟨i, hin, rfl, hix, hbw⟩ := hrel
    have hBr : Below w.heap.size w wr := hB4.trans (hbw.out.mono hB4.size)
    have q1r := (hbw.out.cell (p := ⟨w.heap.size, 1, none⟩) hl0).trans q1
    have q3r := (hbw.out.cell (p := ⟨w.heap.size + 1, 1, none⟩) hl1).trans q3
    have hszr := hbw.out.size
    by_cases hlt : i < n
    · have hlt' : (i : Int) < (n : Int) := by omega
      have hltp : i < (prs A B).length := by rw [← HN.out]; exact hlt
      have HPr : Hid (TRow wr w3.heap.size (.slice ap (prs A B).length cp) (prs A B)) := own_belowM HP4.out hbw.out
      obtain ⟨g, hap, hgl, _, k0, k1, k2⟩ := HPr.out.cells hltp
      subst hap
      have hlo := HMET.out.lo i hltp
      have HD0 : Hid ((en E (pq (prs A B) i).a != en F (pq (prs A B) i).b) = true → T = (pq (prs A B) i).s ∧ S = false ∧ G = true) := fun hd => by
        have e := fdx_at hltp hix.out hd
        refine ⟨?_, ?_, HG.out.trans HGG.out⟩
        · rw [HT.out]; unfold smt; rw [if_pos ⟨HGG.out, by rw [e]; exact hltp⟩, e]
        · rw [HS.out]; unfold smb; rw [HGG.out, e]; simp [hltp]
      have HD1 : Hid ((en E (pq (prs A B) i).a != en F (pq (prs A B) i).b) = false → i + 1 ≤ fdx A E B F) := fun hd => fdx_past hltp hix.out hd
      obtain ⟨p, hp⟩ : ∃ p, pq (prs A B) i = p := ⟨_, rfl⟩
      rw [hp] at k0 k1 k2 hlo HD0 HD1
      clear hp
      have hLE : E.length = A.length := (gm_iff.1 HGA.out).1.2.2
      have hLF : F.length = B.length := (gm_iff.1 HGB.out).1.2.2
      have hpa : (p.a : Int) < (E.length : Int) := by omega
      have hpb : (p.b : Int) < (F.length : Int) := by omega
      obtain ⟨W5, hW5⟩ : ∃ W, W = wr.alloc (.cells #[.int .i64 (p.a : Int), .int .i64 (p.b : Int), .string p.s] 83) := ⟨_, rfl⟩
      have hb5 : Below wr.heap.size wr W5 := by rw [hW5]; exact (Below.refl _ wr).alloc (Nat.le_refl _) _
      have x0 : W5.cell? ⟨wr.heap.size, 0, none⟩ = some (.int .i64 (p.a : Int)) := by rw [hW5]; go_simp
      have x1 : W5.cell? ⟨wr.heap.size, 1, none⟩ = some (.int .i64 (p.b : Int)) := by rw [hW5]; go_simp
      have x2 : W5.cell? ⟨wr.heap.size, 2, none⟩ = some (.string p.s) := by rw [hW5]; go_simp
      have hB5 : Below w.heap.size w W5 := hBr.trans (hb5.mono hBr.size)
      have q15 := (hb5.cell (p := ⟨w.heap.size, 1, none⟩) (by show w.heap.size < _; omega)).trans q1r
      have q35 := (hb5.cell (p := ⟨w.heap.size + 1, 1, none⟩) (by show w.heap.size + 1 < _; omega)).trans q3r
      obtain ⟨gE, oE, hvE, hgE, cE5⟩ := (HE.out.below hB5).to (i := p.a) (by omega)
      obtain ⟨gF, oF, hvF, hgF, cF5⟩ := (HF.out.below hB5).to (i := p.b) (by omega)
      subst hvE hvF
      have HBW5 : Hid (Below w4.heap.size w4 W5) := hbw.out.trans (hb5.mono hszr)
      have hl5 : wr.heap.size < W5.heap.size := by rw [hW5]; simp
      generalize en E p.a = x at cE5 HD0 HD1
      generalize en F p.b = y at cF5 HD0 HD1
      clear hLE hLF hlo q1r q3r q0 q1 q2 q3
      go_upto_region 6 with fail
      rw [← hW5]
      clear hW5
      by_cases hxy : x = y
      · subst hxy
        have hN : Hid (i + 1 ≤ fdx A E B F) := HD1.out (by simp)
        have hne : (x != x) = false := by simp
        clear HD0 HD1
        go_quiet (fail)
        go_wp2
        go_roundw
        case rel => exact ⟨i + 1, by omega, by go_num, hN, below_drewT HBW5.out⟩
        case measure => simp [intOf]; omega
      · have hF : Hid (T = p.s ∧ S = false ∧ G = true) := HD0.out (by cases x <;> cases y <;> simp_all)
        have hcase : (x = true ∧ y = false) ∨ (x = false ∧ y = true) := by cases x <;> cases y <;> simp_all
        clear HD0 HD1 hxy
        rcases hcase with ⟨rfl, rfl⟩ | ⟨rfl, rfl⟩
        · go_quiet (fail)
          go_wp2
          go_ret3
          exact ⟨by rw [hF.out.1, hF.out.2.1, hF.out.2.2]; rfl, below_drewT hB5⟩
        · go_quiet (fail)
          go_wp2
          go_ret3
          exact ⟨by rw [hF.out.1, hF.out.2.1, hF.out.2.2]; rfl, below_drewT hB5⟩
    · have hke : i = n := by omega
      have hge : ¬ ((i : Int) < (n : Int)) := by omega
      have hF : Hid (T = ⟨#[]⟩ ∧ S = true ∧ G = true) := by
        have h1 := hix.out
        have h2 : ¬ fdx A E B F < (prs A B).length := by rw [← HN.out]; omega
        refine ⟨?_, ?_, HG.out.trans HGG.out⟩
        · rw [HT.out]; unfold smt; rw [if_neg (fun h => h2 h.2)]; rfl
        · rw [HS.out]; unfold smb; rw [HGG.out]; simp; omega
      clear hke hix
      go_wp2
      go_ret3
      exact ⟨by rw [hF.out.1, hF.out.2.1, hF.out.2.2]; rfl, hBr⟩

end Go.Proofs.Ytecgjhnihagleaa
