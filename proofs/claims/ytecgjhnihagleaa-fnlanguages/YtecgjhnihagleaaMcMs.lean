/- The model's MeetMachines. -/
import Derived.Test.YtecgjhnihagleaaXp
import Derived.Test.YtecgjhnihagleaaXi
import Derived.Deep.Upon
namespace Go.Proofs.Ytecgjhnihagleaa
open Go.RowKit Plain Mch Tpc

set_option maxRecDepth 100000 in
set_option maxHeartbeats 8000000 in
theorem specMeet (A : List (List Int)) (E : List Bool) (va ea : Value) (B : List (List Int)) (F : List Bool) (vb eb : Value) (w : World) (hA : MAt w w.heap.size va A) (hEA : EAt w w.heap.size ea E) (hB : MAt w w.heap.size vb B) (hEB : EAt w w.heap.size eb F) :
    Calls Try.prog 27 #[.agg #[va, ea], .agg #[vb, eb]] w fun x w' => (∃ r q, x = .returned (.tuple #[.agg #[r, q], .bool (mok A E B F)]) ∧ ∃ us, MaOwn w' w.heap.size r q (meM A E B F) (meE A E B F) us) ∧ Below w.heap.size w w' := by
  obtain ⟨i0, hi, hz0, hz1, hz2⟩ := info_parts Try.infoZs
  obtain ⟨j0, hj, jz0, jz1, jz2⟩ := info_parts Try.infoBo
  obtain ⟨k0, hk, kz0, kz1, kz2⟩ := info_parts Try.infoInt
  have HA : Hid (MAt w w.heap.size va A) := hA
  have HB : Hid (MAt w w.heap.size vb B) := hB
  have HE : Hid (EAt w w.heap.size ea E) := hEA
  have HF : Hid (EAt w w.heap.size eb F) := hEB
  obtain ⟨aA, cA, rfl, hlcA, hcmA, _⟩ := hA
  obtain ⟨aB, cB, rfl, hlcB, hcmB, _⟩ := hB
  obtain ⟨aE, cE, rfl, hlcE, hcmE, _⟩ := hEA
  obtain ⟨aF, cF, rfl, hlcF, hcmF, _⟩ := hEB
  unfold maxLen at hcmA hcmB hcmE hcmF
  have rc := fun (tmps : Array Value) (P : Program) (w : World) => results_cell_tmpM2 (fn := Try.f27) (p := 4) (u := 5) (ty := 30) rfl tmps P w
  obtain ⟨W1, hW1⟩ : ∃ W, W = ((w.alloc (.cells #[.slice aA A.length cA, .slice aE E.length cE] 30)).alloc (.cells #[.slice aB B.length cB, .slice aF F.length cF] 30)).alloc (.cells #[.slice none 0 0, .slice none 0 0] 30) := ⟨_, rfl⟩
  have hB1 : Below w.heap.size w W1 := by rw [hW1]; exact (((Below.refl _ w).alloc (Nat.le_refl _) _).alloc (by simp) _).alloc (by simp; omega) _
  have q0 : W1.cell? ⟨w.heap.size, 0, none⟩ = some (.slice aA A.length cA) := by rw [hW1]; go_simp
  have q1 : W1.cell? ⟨w.heap.size, 1, none⟩ = some (.slice aE E.length cE) := by rw [hW1]; go_simp
  have q2 : W1.cell? ⟨w.heap.size + 1, 0, none⟩ = some (.slice aB B.length cB) := by rw [hW1]; go_simp
  have q3 : W1.cell? ⟨w.heap.size + 1, 1, none⟩ = some (.slice aF F.length cF) := by rw [hW1]; go_simp
  have p0 : W1.cell? ⟨w.heap.size + 2, 0, none⟩ = some (.slice none 0 0) := by rw [hW1]; go_simp
  have p1 : W1.cell? ⟨w.heap.size + 2, 1, none⟩ = some (.slice none 0 0) := by rw [hW1]; go_simp
  have y0 : W1.frozen? ⟨w.heap.size + 2, 0, none⟩ = false := by rw [hW1]; go_simp
  have y1 : W1.frozen? ⟨w.heap.size + 2, 1, none⟩ = false := by rw [hW1]; go_simp
  have hl2 : w.heap.size + 2 < W1.heap.size := by rw [hW1]; simp
  have hl1 : w.heap.size + 1 < W1.heap.size := by omega
  have hl0 : w.heap.size < W1.heap.size := by omega
  obtain ⟨G, hG⟩ : ∃ G, G = mok A E B F := ⟨_, rfl⟩
  obtain ⟨RM, hRM⟩ : ∃ R, R = meM A E B F := ⟨_, rfl⟩
  obtain ⟨RE, hRE⟩ : ∃ R, R = meE A E B F := ⟨_, rfl⟩
  have HG : Hid (G = mok A E B F) := hG
  have HRM : Hid (RM = meM A E B F) := hRM
  have HRE : Hid (RE = meE A E B F) := hRE
  rw [← hG, ← hRM, ← hRE]
  clear hG hRM hRE
  have HFF : Hid (mok A E B F = false → G = false ∧ RM = [] ∧ RE = []) := fun h => by
    refine ⟨HG.out.trans h, ?_, ?_⟩
    · rw [HRM.out]; unfold meM; rw [h]; rfl
    · rw [HRE.out]; unfold meE; rw [h]; rfl
  have HTT : Hid (mok A E B F = true → G = true ∧ RM = NR A B (prs A B).length ∧ RE = (prs A B).map (ben E F)) := fun h => by
    refine ⟨HG.out.trans h, ?_, ?_⟩
    · rw [HRM.out]; unfold meM; rw [h]; rfl
    · rw [HRE.out]; unfold meE; rw [h]; rfl
  clear HG HRM HRE
  go_enter Try.func27, Try.ntmps27
  go_wp2_with fail
  rw [← hW1]
  clear hW1
  refine (specGoodM A E _ _ _ (HA.out.below hB1) (HE.out.below hB1)).mono ?_
  rintro x w2 ⟨rfl, hb2⟩
  replace q0 := (hb2.cell (p := ⟨w.heap.size, 0, none⟩) hl0).trans q0
  replace q1 := (hb2.cell (p := ⟨w.heap.size, 1, none⟩) hl0).trans q1
  replace q2 := (hb2.cell (p := ⟨w.heap.size + 1, 0, none⟩) hl1).trans q2
  replace q3 := (hb2.cell (p := ⟨w.heap.size + 1, 1, none⟩) hl1).trans q3
  replace p0 := (hb2.cell (p := ⟨w.heap.size + 2, 0, none⟩) hl2).trans p0
  replace p1 := (hb2.cell (p := ⟨w.heap.size + 2, 1, none⟩) hl2).trans p1
  replace y0 := (hb2.frozen (p := ⟨w.heap.size + 2, 0, none⟩) hl2).trans y0
  replace y1 := (hb2.frozen (p := ⟨w.heap.size + 2, 1, none⟩) hl2).trans y1
  have hB2 : Below w.heap.size w w2 := hB1.trans (hb2.mono hB1.size)
  replace hl2 : w.heap.size + 2 < w2.heap.size := by have := hb2.size; omega
  replace hl1 : w.heap.size + 1 < w2.heap.size := by omega
  replace hl0 : w.heap.size < w2.heap.size := by omega
  clear hb2 hB1
  cases hgA : gm A E with
  | false =>
    have hF : Hid (G = false ∧ RM = [] ∧ RE = []) := HFF.out (by unfold mok; rw [hgA]; rfl)
    clear hgA HFF HTT
    go_wp2
    (try simp only [Exit.inBlock, Exit.then])
    refine bodyPost_ret (v := .tuple #[.agg #[.slice none 0 0, .slice none 0 0], .bool false]) ?_ rfl ⟨⟨_, _, by rw [hF.out.1], [], by rw [hF.out.2.1, hF.out.2.2]; exact MaOwn.nil _ _⟩, ?_⟩
    · rw [rc]
      go_simp
    · exact (hB2.setCell (by simp <;> omega) _).setCell (by simp <;> omega) _
  | true =>
  have HGA : Hid (gm A E = true) := hgA
  clear hgA
  go_wp2_with fail
  refine (specGoodM B F _ _ _ (HB.out.below hB2) (HF.out.below hB2)).mono ?_
  rintro x w3 ⟨rfl, hb3⟩
  replace q0 := (hb3.cell (p := ⟨w.heap.size, 0, none⟩) hl0).trans q0
  replace q1 := (hb3.cell (p := ⟨w.heap.size, 1, none⟩) hl0).trans q1
  replace q2 := (hb3.cell (p := ⟨w.heap.size + 1, 0, none⟩) hl1).trans q2
  replace q3 := (hb3.cell (p := ⟨w.heap.size + 1, 1, none⟩) hl1).trans q3
  replace p0 := (hb3.cell (p := ⟨w.heap.size + 2, 0, none⟩) hl2).trans p0
  replace p1 := (hb3.cell (p := ⟨w.heap.size + 2, 1, none⟩) hl2).trans p1
  replace y0 := (hb3.frozen (p := ⟨w.heap.size + 2, 0, none⟩) hl2).trans y0
  replace y1 := (hb3.frozen (p := ⟨w.heap.size + 2, 1, none⟩) hl2).trans y1
  have hB3 : Below w.heap.size w w3 := hB2.trans (hb3.mono hB2.size)
  replace hl2 : w.heap.size + 2 < w3.heap.size := by have := hb3.size; omega
  replace hl1 : w.heap.size + 1 < w3.heap.size := by omega
  replace hl0 : w.heap.size < w3.heap.size := by omega
  clear hb3 hB2
  cases hgB : gm B F with
  | false =>
    have hF : Hid (G = false ∧ RM = [] ∧ RE = []) := HFF.out (by unfold mok; rw [HGA.out, hgB]; rfl)
    clear hgB HFF HTT
    go_wp2
    (try simp only [Exit.inBlock, Exit.then])
    refine bodyPost_ret (v := .tuple #[.agg #[.slice none 0 0, .slice none 0 0], .bool false]) ?_ rfl ⟨⟨_, _, by rw [hF.out.1], [], by rw [hF.out.2.1, hF.out.2.2]; exact MaOwn.nil _ _⟩, ?_⟩
    · rw [rc]
      go_simp
    · exact (hB3.setCell (by simp <;> omega) _).setCell (by simp <;> omega) _
  | true =>
  have HGB : Hid (gm B F = true) := hgB
  clear hgB
  have HL3 : Hid (w.heap.size + 2 < w3.heap.size) := hl2
  go_wp2_with fail
  refine (l12Pairs_any A B E F _ _ _ _ _ (HA.out.below hB3) (HB.out.below hB3) (HE.out.below hB3) (HF.out.below hB3) HGA.out HGB.out).mono ?_
  rintro x w4 ⟨r, rfl, hP4, hb4⟩
  replace q0 := (hb4.cell (p := ⟨w.heap.size, 0, none⟩) hl0).trans q0
  replace q1 := (hb4.cell (p := ⟨w.heap.size, 1, none⟩) hl0).trans q1
  replace q2 := (hb4.cell (p := ⟨w.heap.size + 1, 0, none⟩) hl1).trans q2
  replace q3 := (hb4.cell (p := ⟨w.heap.size + 1, 1, none⟩) hl1).trans q3
  replace p0 := (hb4.cell (p := ⟨w.heap.size + 2, 0, none⟩) hl2).trans p0
  replace p1 := (hb4.cell (p := ⟨w.heap.size + 2, 1, none⟩) hl2).trans p1
  replace y0 := (hb4.frozen (p := ⟨w.heap.size + 2, 0, none⟩) hl2).trans y0
  replace y1 := (hb4.frozen (p := ⟨w.heap.size + 2, 1, none⟩) hl2).trans y1
  have hB4 : Below w.heap.size w w4 := hB3.trans (hb4.mono hB3.size)
  replace hl2 : w.heap.size + 2 < w4.heap.size := by have := hb4.size; omega
  replace hl1 : w.heap.size + 1 < w4.heap.size := by omega
  replace hl0 : w.heap.size < w4.heap.size := by omega
  have HP4 : Hid (TRow w4 w3.heap.size r (prs A B)) := hP4
  have HMET : Hid (Mch.Met A.length B.length (prs A B)) := prs_met HGA.out HGB.out
  have HL34 : Hid (w3.heap.size ≤ w4.heap.size) := hb4.size
  obtain ⟨ap, cp, hvp, hcp⟩ := hP4.slice
  subst hvp
  unfold maxLen at hcp
  obtain ⟨n, hn⟩ : ∃ n, n = (prs A B).length := ⟨_, rfl⟩
  have HN : Hid (n = (prs A B).length) := hn
  rw [← hn]
  have hn144 : n ≤ 144 := by rw [hn]; exact HMET.out.le HGA.out HGB.out
  have HPN : Hid (TRow w4 w3.heap.size (.slice ap n cp) (prs A B)) := by rw [hn]; exact hP4
  clear hn hP4 hb4 hB3 HP4
  by_cases h12 : 12 < n
  · have h12' : (12 : Int) < (n : Int) := by omega
    have hF : Hid (G = false ∧ RM = [] ∧ RE = []) := HFF.out (by unfold mok; rw [HGA.out, HGB.out, ← HN.out]; simp; omega)
    clear HFF HTT
    go_wp2
    (try simp only [Exit.inBlock, Exit.then])
    refine bodyPost_ret (v := .tuple #[.agg #[.slice none 0 0, .slice none 0 0], .bool false]) ?_ rfl ⟨⟨_, _, by rw [hF.out.1], [], by rw [hF.out.2.1, hF.out.2.2]; exact MaOwn.nil _ _⟩, ?_⟩
    · rw [rc]
      go_simp
    · exact (hB4.setCell (by simp <;> omega) _).setCell (by simp <;> omega) _
  · have h12' : ¬ ((12 : Int) < (n : Int)) := by omega
    have hF : Hid (G = true ∧ RM = NR A B (prs A B).length ∧ RE = (prs A B).map (ben E F)) := HTT.out (by unfold mok; rw [HGA.out, HGB.out, ← HN.out]; simp; omega)
    clear HFF HTT
    have hLE : Hid (E.length = A.length) := (gm_iff.1 HGA.out).1.2.2
    have hLF : Hid (F.length = B.length) := (gm_iff.1 HGB.out).1.2.2
    have Q4 : Hid (w4.cell? ⟨w.heap.size, 0, none⟩ = some (.slice aA A.length cA) ∧ w4.cell? ⟨w.heap.size, 1, none⟩ = some (.slice aE E.length cE) ∧ w4.cell? ⟨w.heap.size + 1, 0, none⟩ = some (.slice aB B.length cB) ∧ w4.cell? ⟨w.heap.size + 1, 1, none⟩ = some (.slice aF F.length cF)) := ⟨q0, q1, q2, q3⟩
    have PV4 : Hid (w4.cell? ⟨w.heap.size + 2, 0, none⟩ = some (.slice none 0 0) ∧ w4.cell? ⟨w.heap.size + 2, 1, none⟩ = some (.slice none 0 0) ∧ w4.frozen? ⟨w.heap.size + 2, 0, none⟩ = false ∧ w4.frozen? ⟨w.heap.size + 2, 1, none⟩ = false) := ⟨p0, p1, y0, y1⟩
    obtain ⟨W5, hW5⟩ : ∃ W, W = w4.alloc (.cells #[.slice none 0 0, .slice none 0 0] 30) := ⟨_, rfl⟩
    have hb5 : Below w4.heap.size w4 W5 := by rw [hW5]; exact (Below.refl _ w4).alloc (Nat.le_refl _) _
    have HT5 : Hid (TSt W5 w4.heap.size (.slice none 0 0) (.slice none 0 0) [] [] []) := by
      refine ⟨by rw [hW5]; simp, by rw [hW5]; go_simp, by rw [hW5]; go_simp, by rw [hW5]; go_simp, by rw [hW5]; go_simp, MaOwn.nil _ _⟩
    have HB5 : Hid (Below w4.heap.size w4 W5) := hb5
    clear hb5
    go_upto_region 7 with fail
    rw [← hW5]
    clear hW5 p0 p1 y0 y1 q0 q1 q2 q3
    go_wp2
    go_loopw [31] (fun vi wr => ∃ (i : Nat) (tv te : Value) (us : List Value), i ≤ n ∧ vi = .int .i64 (i : Int) ∧ Hid (TSt wr w4.heap.size tv te (NR A B i) (((prs A B).map (ben E F)).take i) us) ∧ Hid (Below w4.heap.size w4 wr))
      (fun vi _ => n - (intOf vi).toNat)
    case atStart => exact ⟨0, _, _, _, by omega, rfl, HT5, HB5⟩
    case round =>
      obtain ⟨i, tv, te, us, hin, rfl, hT, hbw⟩ := hrel
      clear HT5 HB5
      have hBr : Below w.heap.size w wr := hB4.trans (hbw.out.mono hB4.size)
      have hszr : w4.heap.size < wr.heap.size := hT.out.lb
      by_cases hlt : i < n
      · have hlt' : (i : Int) < (n : Int) := by omega
        have hltp : i < (prs A B).length := by rw [← HN.out]; exact hlt
        have HPr : Hid (TRow wr w3.heap.size (.slice ap n cp) (prs A B)) := own_belowM HPN.out hbw.out
        obtain ⟨g, hap, hgl, _, e0, e1, e2⟩ := HPr.out.cells hltp
        subst hap
        have hlo := HMET.out.lo i hltp
        have HNE : Hid (((prs A B).map (ben E F)).take (i + 1) = ((prs A B).map (ben E F)).take i ++ [ben E F (pq (prs A B) i)]) := ben_at hltp
        have HCL : Hid (∀ k, k < 3 → (nri A B i)[k]? = some ((ix (prs A B) (nt A (pq (prs A B) i).a k) (nt B (pq (prs A B) i).b k) : Nat) : Int) ∧ ix (prs A B) (nt A (pq (prs A B) i).a k) (nt B (pq (prs A B) i).b k) < (prs A B).length) := fun k hk => ⟨nri_at A B i hk, prs_closed HGA.out HGB.out hltp hk⟩
        obtain ⟨p, hp⟩ : ∃ p, pq (prs A B) i = p := ⟨_, rfl⟩
        rw [hp] at e0 e1 e2 hlo HNE HCL
        clear hp
        have HNL : Hid (NR A B (i + 1) = NR A B i ++ [nri A B i]) := NR_succ A B i
        have HTL : Hid ((NR A B i).length = i) := NR_len A B i
        have HGL : Hid ((((prs A B).map (ben E F)).take i).length = i) := by show _ = _; rw [List.length_take, List.length_map]; omega
        have HN3 : Hid ((nri A B i).length = 3) := nri_len A B i
        have hT' := hT.out
        generalize nri A B i = N3 at HNL HCL HN3
        generalize NR A B i = L at hT' HNL HTL
        generalize ((prs A B).map (ben E F)).take i = D at hT' HNE HGL
        clear hT
        obtain ⟨av, cv, hav⟩ := hT'.own.1.slice
        obtain ⟨ev, dv, hev⟩ := ERow.slice hT'.own.2.1
        subst hav hev
        have hpa : (p.a : Int) < (A.length : Int) := by omega
        have hpb : (p.b : Int) < (B.length : Int) := by omega
        have hpaE : (p.a : Int) < (E.length : Int) := by have := hLE.out; omega
        have hpbF : (p.b : Int) < (F.length : Int) := by have := hLF.out; omega
        obtain ⟨W6, hW6⟩ : ∃ W, W = wr.alloc (.cells #[.int .i64 (p.a : Int), .int .i64 (p.b : Int), .string p.s] 83) := ⟨_, rfl⟩
        have hb6 : Below wr.heap.size wr W6 := by rw [hW6]; exact (Below.refl _ wr).alloc (Nat.le_refl _) _
        have x0 : Hid (W6.cell? ⟨wr.heap.size, 0, none⟩ = some (.int .i64 (p.a : Int)) ∧ W6.cell? ⟨wr.heap.size, 1, none⟩ = some (.int .i64 (p.b : Int))) := by refine ⟨?_, ?_⟩ <;> rw [hW6] <;> go_simp
        have HS6 : Hid (W6.heap.size = wr.heap.size + 1) := by show _ = _; rw [hW6]; simp
        have HT6 : Hid (TSt W6 w4.heap.size (.slice av L.length cv) (.slice ev D.length dv) L D us) := hT'.below hb6
        have HROW : Hid (∀ j, (j < w4.heap.size + 1 ∨ j = wr.heap.size) → some j ≠ (Value.slice av L.length cv).ownBlock ∧ some j ≠ (Value.slice ev D.length dv).ownBlock) := fun j h => ⟨fun e => by
          have := World.ownsRow.lt hT'.own.1.1 j e.symm
          omega, fun e => by
          have := World.ownsRow.lt hT'.own.2.1 j e.symm
          omega⟩
        have HB6 : Hid (Below w4.heap.size w4 W6) := hbw.out.trans (hb6.mono (by omega))
        have HP6 : Hid (TRow W6 w3.heap.size (.slice (some ⟨g, 0, none⟩) n cp) (prs A B)) := own_belowM HPr.out hb6
        have HB6w : Hid (Below w.heap.size w W6) := hBr.trans (hb6.mono hBr.size)
        clear hT' HPr hb6
        go_upto_region 10 with fail
        rw [← hW6]
        clear hW6 e0 e1 e2
        go_wp2
        obtain ⟨wo, hwo⟩ : ∃ W, W = wr := ⟨_, rfl⟩
        rw [← hwo] at HS6 x0 HROW hszr
        rw [← hwo]
        clear hwo hbw hgl hBr
        have HQ0 : Hid (ZRow W6 W6.heap.size (.slice none 0 0) (N3.take 0)) := ⟨rfl, .inl ⟨rfl, rfl⟩⟩
        go_loopw [10, 11] (fun vq vk wr => ∃ k : Nat, k ≤ 3 ∧ vk = .int .i64 (k : Int) ∧ Hid (ZRow wr W6.heap.size vq (N3.take k)) ∧ Hid (Below W6.heap.size W6 wr))
          (fun _ vk _ => 3 - (intOf vk).toNat)
        case atStart => exact ⟨0, by omega, rfl, HQ0, Below.refl _ _⟩
        case round =>

          obtain ⟨k, hk3, rfl, hQ, hbk⟩ := hrel
          clear HQ0
          have hszk : W6.heap.size ≤ wr.heap.size := hbk.out.size
          have hsz6 : wo.heap.size < W6.heap.size := by rw [HS6.out]; omega
          by_cases hlk : k < 3
          · have hlk' : (k : Int) < 3 := by omega
            obtain ⟨aq, cq, hvq⟩ := hQ.out.slice
            subst hvq
            have HKL : Hid ((N3.take k).length = k) := by show _ = _; rw [List.length_take]; have := HN3.out; omega
            have HNK : Hid (N3.take (k + 1) = N3.take k ++ [((ix (prs A B) (nt A p.a k) (nt B p.b k) : Nat) : Int)]) := by
              show _ = _
              rw [List.take_add_one, (HCL.out k hlk).1]
              rfl
            have HX : Hid (ix (prs A B) (nt A p.a k) (nt B p.b k) < (prs A B).length) := (HCL.out k hlk).2
            have hXn : ix (prs A B) (nt A p.a k) (nt B p.b k) ≤ 144 := by have := HX.out; have := HN.out; omega
            have CA : Hid (∀ W : World, Below W6.heap.size W6 W → Calls Try.prog 61 #[.slice (some ⟨g, 0, none⟩) n cp, .int .i64 ((nt A p.a k : Nat) : Int), .int .i64 ((nt B p.b k : Nat) : Int)] W fun e w' => e = .returned (.int .i64 ((ix (prs A B) (nt A p.a k) (nt B p.b k) : Nat) : Int)) ∧ Below W.heap.size W w') := fun W hW => by
              have h := l12At_any _ _ (prs A B) (nt A p.a k) (nt B p.b k) W (own_belowM HP6.out hW)
              rw [if_pos HX.out] at h
              exact h
            have hQ' := hQ.out
            generalize ix (prs A B) (nt A p.a k) (nt B p.b k) = X at HNK hXn CA
            generalize N3.take k = K at hQ' HKL HNK
            clear hQ HX
            obtain ⟨gA, oA, guA, ouA, cuA, hA1, hA2, hA3, hA4, hA5⟩ := HA.out.to HGA.out hlo.1 hlk
            obtain ⟨gB, oB, guB, ouB, cuB, hB1', hB2, hB3, hB4', hB5⟩ := HB.out.to HGB.out hlo.2 hlk
            subst hA1 hB1'
            have s1 := (HB6.out.cell (p := ⟨w.heap.size, 0, none⟩) hl0).trans Q4.out.1
            have s2 := (HB6.out.cell (p := ⟨w.heap.size + 1, 0, none⟩) hl1).trans Q4.out.2.2.1
            obtain ⟨s3, s4⟩ := x0.out
            have s5 := (HB6w.out.cell (p := ⟨gA, oA + p.a, none⟩) hA2).trans hA3
            have s6 := (HB6w.out.cell (p := ⟨guA, ouA + k, none⟩) hA4).trans hA5
            have s7 := (HB6w.out.cell (p := ⟨gB, oB + p.b, none⟩) hB2).trans hB3
            have s8 := (HB6w.out.cell (p := ⟨guB, ouB + k, none⟩) hB4').trans hB5
            have HSX : Hid (∀ w' : World, Below W6.heap.size W6 w' → w'.cell? ⟨w.heap.size, 0, none⟩ = some (.slice (some ⟨gA, oA, none⟩) A.length cA) ∧ w'.cell? ⟨w.heap.size + 1, 0, none⟩ = some (.slice (some ⟨gB, oB, none⟩) B.length cB) ∧ w'.cell? ⟨wo.heap.size, 0, none⟩ = some (.int .i64 (p.a : Int)) ∧ w'.cell? ⟨wo.heap.size, 1, none⟩ = some (.int .i64 (p.b : Int)) ∧ w'.cell? ⟨gA, oA + p.a, none⟩ = some (.slice (some ⟨guA, ouA, none⟩) 3 cuA) ∧ w'.cell? ⟨guA, ouA + k, none⟩ = some (.int .i64 ((nt A p.a k : Nat) : Int)) ∧ w'.cell? ⟨gB, oB + p.b, none⟩ = some (.slice (some ⟨guB, ouB, none⟩) 3 cuB) ∧ w'.cell? ⟨guB, ouB + k, none⟩ = some (.int .i64 ((nt B p.b k : Nat) : Int))) := fun w' h => ⟨(h.cell (p := ⟨w.heap.size, 0, none⟩) (by show w.heap.size < _; omega)).trans s1, (h.cell (p := ⟨w.heap.size + 1, 0, none⟩) (by show w.heap.size + 1 < _; omega)).trans s2, (h.cell (p := ⟨wo.heap.size, 0, none⟩) hsz6).trans s3, (h.cell (p := ⟨wo.heap.size, 1, none⟩) hsz6).trans s4, (h.cell (p := ⟨gA, oA + p.a, none⟩) (by show gA < _; omega)).trans s5, (h.cell (p := ⟨guA, ouA + k, none⟩) (by show guA < _; omega)).trans s6, (h.cell (p := ⟨gB, oB + p.b, none⟩) (by show gB < _; omega)).trans s7, (h.cell (p := ⟨guB, ouB + k, none⟩) (by show guB < _; omega)).trans s8⟩
            have hbkd : Hid (Below W6.heap.size W6 wr.drew) := hbk.out.drew
            have sd := HSX.out _ hbkd.out
            have HQ6 : Hid (ZRow wr.drew W6.heap.size (.slice aq K.length cq) K) := ZRow.below hQ' ((Below.refl _ wr).drew)
            clear s1 s2 s3 s4 s5 s6 s7 s8 hA3 hA5 hB3 hB5 hQ'
            go_upto_region 14 with fail
            refine wp_region_held_drew (S := fun w' => w'.cell? ⟨w.heap.size, 0, none⟩ = some (.slice (some ⟨gA, oA, none⟩) A.length cA) ∧ w'.cell? ⟨w.heap.size + 1, 0, none⟩ = some (.slice (some ⟨gB, oB, none⟩) B.length cB) ∧ w'.cell? ⟨wo.heap.size, 0, none⟩ = some (.int .i64 (p.a : Int)) ∧ w'.cell? ⟨wo.heap.size, 1, none⟩ = some (.int .i64 (p.b : Int)) ∧ w'.cell? ⟨gA, oA + p.a, none⟩ = some (.slice (some ⟨guA, ouA, none⟩) 3 cuA) ∧ w'.cell? ⟨guA, ouA + k, none⟩ = some (.int .i64 ((nt A p.a k : Nat) : Int)) ∧ w'.cell? ⟨gB, oB + p.b, none⟩ = some (.slice (some ⟨guB, ouB, none⟩) 3 cuB) ∧ w'.cell? ⟨guB, ouB + k, none⟩ = some (.int .i64 ((nt B p.b k : Nat) : Int))) (by kernel_rfl) ?_ (fun hHeld => ?_)
            · exact sd
            refine wpAnyH_take (i := 0) (oi := { dst := some 39, op := Op.move (Operand.tmp 10), type := 27, pos := "l12_machine.go:217", after := #[], guard := none }) (v := ?vq1) rfl (by kernel_rfl) (by kernel_rfl) (by kernel_rfl) (fun _ _ _ h => h) (Or.inl ⟨by rfl, ?hy1⟩) (by assumption) ?rest1
            case hy1 =>
              first
                | (intro w hSw; (try dsimp only at hSw); go_simp; done)
                | (intro w hSw; (try dsimp only at hSw); go_simp; with_reducible rfl)
            try simp only [Act.put, List.setIfInBounds_toArray, List.set_cons_zero, List.set_cons_succ]
            refine wpAnyH_take (i := 1) (oi := { dst := some 40, op := Op.move (Operand.tmp 6), type := 80, pos := "l12_machine.go:217", after := #[], guard := none }) (v := ?vq2) rfl (by kernel_rfl) (by kernel_rfl) (by kernel_rfl) (fun _ _ _ h => h) (Or.inl ⟨by rfl, ?hy2⟩) (by assumption) ?rest2
            case hy2 =>
              first
                | (intro w hSw; (try dsimp only at hSw); go_simp; done)
                | (intro w hSw; (try dsimp only at hSw); go_simp; with_reducible rfl)
            try simp only [Act.put, List.setIfInBounds_toArray, List.set_cons_zero, List.set_cons_succ]
            refine wpAnyH_take (i := 2) (oi := { dst := some 41, op := Op.fieldAddr 30 (Operand.tmp 2) 0, type := 0, pos := "l12_machine.go:217", after := #[], guard := none }) (v := ?vq3) rfl (by kernel_rfl) (by kernel_rfl) (by kernel_rfl) (fun _ _ _ h => h) (Or.inl ⟨by rfl, ?hy3⟩) (by assumption) ?rest3
            case hy3 =>
              first
                | (intro w hSw; (try dsimp only at hSw); go_simp; done)
                | (intro w hSw; (try dsimp only at hSw); go_simp; with_reducible rfl)
            try simp only [Act.put, List.setIfInBounds_toArray, List.set_cons_zero, List.set_cons_succ]
            refine wpAnyH_take (i := 3) (oi := { dst := some 42, op := Op.load 22 (Operand.tmp 41), type := 22, pos := "l12_machine.go:217", after := #[{ on := 2, ground := Ground.data }], guard := none }) (v := ?vq4) rfl (by kernel_rfl) (by kernel_rfl) (by kernel_rfl) (fun _ _ _ h => h) (Or.inl ⟨by rfl, ?hy4⟩) (by assumption) ?rest4
            case hy4 =>
              first
                | (intro w hSw; (try dsimp only at hSw); go_simp; done)
                | (intro w hSw; (try dsimp only at hSw); go_simp; with_reducible rfl)
            try simp only [Act.put, List.setIfInBounds_toArray, List.set_cons_zero, List.set_cons_succ]
            refine wpAnyH_take (i := 4) (oi := { dst := some 43, op := Op.fieldAddr 83 (Operand.tmp 9) 0, type := 0, pos := "l12_machine.go:217", after := #[], guard := none }) (v := ?vq5) rfl (by kernel_rfl) (by kernel_rfl) (by kernel_rfl) (fun _ _ _ h => h) (Or.inl ⟨by rfl, ?hy5⟩) (by assumption) ?rest5
            case hy5 =>
              first
                | (intro w hSw; (try dsimp only at hSw); go_simp; done)
                | (intro w hSw; (try dsimp only at hSw); go_simp; with_reducible rfl)
            try simp only [Act.put, List.setIfInBounds_toArray, List.set_cons_zero, List.set_cons_succ]
            refine wpAnyH_take (i := 5) (oi := { dst := some 44, op := Op.load 3 (Operand.tmp 43), type := 3, pos := "l12_machine.go:217", after := #[{ on := 4, ground := Ground.data }], guard := none }) (v := ?vq6) rfl (by kernel_rfl) (by kernel_rfl) (by kernel_rfl) (fun _ _ _ h => h) (Or.inl ⟨by rfl, ?hy6⟩) (by assumption) ?rest6
            case hy6 =>
              first
                | (intro w hSw; (try dsimp only at hSw); go_simp; done)
                | (intro w hSw; (try dsimp only at hSw); go_simp; with_reducible rfl)
            try simp only [Act.put, List.setIfInBounds_toArray, List.set_cons_zero, List.set_cons_succ]
            refine wpAnyH_take (i := 6) (oi := { dst := some 45, op := Op.indexAddr 22 (Operand.tmp 42) (Operand.tmp 44), type := 0, pos := "l12_machine.go:217", after := #[{ on := 3, ground := Ground.data }, { on := 5, ground := Ground.data }], guard := none }) (v := ?vq7) rfl (by kernel_rfl) (by kernel_rfl) (by kernel_rfl) (fun _ _ _ h => h) (Or.inl ⟨by rfl, ?hy7⟩) (by assumption) ?rest7
            case hy7 =>
              first
                | (intro w hSw; (try dsimp only at hSw); go_simp; done)
                | (intro w hSw; (try dsimp only at hSw); go_simp; with_reducible rfl)
            try simp only [Act.put, List.setIfInBounds_toArray, List.set_cons_zero, List.set_cons_succ]
            refine wpAnyH_take (i := 7) (oi := { dst := some 46, op := Op.load 27 (Operand.tmp 45), type := 27, pos := "l12_machine.go:217", after := #[{ on := 6, ground := Ground.data }], guard := none }) (v := ?vq8) rfl (by kernel_rfl) (by kernel_rfl) (by kernel_rfl) (fun _ _ _ h => h) (Or.inl ⟨by rfl, ?hy8⟩) (by assumption) ?rest8
            case hy8 =>
              first
                | (intro w hSw; (try dsimp only at hSw); go_simp; done)
                | (intro w hSw; (try dsimp only at hSw); go_simp; with_reducible rfl)
            try simp only [Act.put, List.setIfInBounds_toArray, List.set_cons_zero, List.set_cons_succ]
            refine wpAnyH_take (i := 8) (oi := { dst := some 47, op := Op.move (Operand.tmp 11), type := 3, pos := "l12_machine.go:217", after := #[], guard := none }) (v := ?vq9) rfl (by kernel_rfl) (by kernel_rfl) (by kernel_rfl) (fun _ _ _ h => h) (Or.inl ⟨by rfl, ?hy9⟩) (by assumption) ?rest9
            case hy9 =>
              first
                | (intro w hSw; (try dsimp only at hSw); go_simp; done)
                | (intro w hSw; (try dsimp only at hSw); go_simp; with_reducible rfl)
            try simp only [Act.put, List.setIfInBounds_toArray, List.set_cons_zero, List.set_cons_succ]
            refine wpAnyH_take (i := 9) (oi := { dst := some 48, op := Op.indexAddr 27 (Operand.tmp 46) (Operand.tmp 47), type := 0, pos := "l12_machine.go:217", after := #[{ on := 7, ground := Ground.data }, { on := 8, ground := Ground.data }], guard := none }) (v := ?vq10) rfl (by kernel_rfl) (by kernel_rfl) (by kernel_rfl) (fun _ _ _ h => h) (Or.inl ⟨by rfl, ?hy10⟩) (by assumption) ?rest10
            case hy10 =>
              first
                | (intro w hSw; (try dsimp only at hSw); go_simp; done)
                | (intro w hSw; (try dsimp only at hSw); go_simp; with_reducible rfl)
            try simp only [Act.put, List.setIfInBounds_toArray, List.set_cons_zero, List.set_cons_succ]
            refine wpAnyH_take (i := 10) (oi := { dst := some 49, op := Op.load 3 (Operand.tmp 48), type := 3, pos := "l12_machine.go:217", after := #[{ on := 9, ground := Ground.data }], guard := none }) (v := ?vq11) rfl (by kernel_rfl) (by kernel_rfl) (by kernel_rfl) (fun _ _ _ h => h) (Or.inl ⟨by rfl, ?hy11⟩) (by assumption) ?rest11
            case hy11 =>
              first
                | (intro w hSw; (try dsimp only at hSw); go_simp; done)
                | (intro w hSw; (try dsimp only at hSw); go_simp; with_reducible rfl)
            try simp only [Act.put, List.setIfInBounds_toArray, List.set_cons_zero, List.set_cons_succ]
            refine wpAnyH_take (i := 11) (oi := { dst := some 50, op := Op.fieldAddr 30 (Operand.tmp 3) 0, type := 0, pos := "l12_machine.go:217", after := #[], guard := none }) (v := ?vq12) rfl (by kernel_rfl) (by kernel_rfl) (by kernel_rfl) (fun _ _ _ h => h) (Or.inl ⟨by rfl, ?hy12⟩) (by assumption) ?rest12
            case hy12 =>
              first
                | (intro w hSw; (try dsimp only at hSw); go_simp; done)
                | (intro w hSw; (try dsimp only at hSw); go_simp; with_reducible rfl)
            try simp only [Act.put, List.setIfInBounds_toArray, List.set_cons_zero, List.set_cons_succ]
            refine wpAnyH_take (i := 12) (oi := { dst := some 51, op := Op.load 22 (Operand.tmp 50), type := 22, pos := "l12_machine.go:217", after := #[{ on := 11, ground := Ground.data }], guard := none }) (v := ?vq13) rfl (by kernel_rfl) (by kernel_rfl) (by kernel_rfl) (fun _ _ _ h => h) (Or.inl ⟨by rfl, ?hy13⟩) (by assumption) ?rest13
            case hy13 =>
              first
                | (intro w hSw; (try dsimp only at hSw); go_simp; done)
                | (intro w hSw; (try dsimp only at hSw); go_simp; with_reducible rfl)
            try simp only [Act.put, List.setIfInBounds_toArray, List.set_cons_zero, List.set_cons_succ]
            refine wpAnyH_take (i := 13) (oi := { dst := some 52, op := Op.fieldAddr 83 (Operand.tmp 9) 1, type := 0, pos := "l12_machine.go:217", after := #[], guard := none }) (v := ?vq14) rfl (by kernel_rfl) (by kernel_rfl) (by kernel_rfl) (fun _ _ _ h => h) (Or.inl ⟨by rfl, ?hy14⟩) (by assumption) ?rest14
            case hy14 =>
              first
                | (intro w hSw; (try dsimp only at hSw); go_simp; done)
                | (intro w hSw; (try dsimp only at hSw); go_simp; with_reducible rfl)
            try simp only [Act.put, List.setIfInBounds_toArray, List.set_cons_zero, List.set_cons_succ]
            refine wpAnyH_take (i := 14) (oi := { dst := some 53, op := Op.load 3 (Operand.tmp 52), type := 3, pos := "l12_machine.go:217", after := #[{ on := 13, ground := Ground.data }], guard := none }) (v := ?vq15) rfl (by kernel_rfl) (by kernel_rfl) (by kernel_rfl) (fun _ _ _ h => h) (Or.inl ⟨by rfl, ?hy15⟩) (by assumption) ?rest15
            case hy15 =>
              first
                | (intro w hSw; (try dsimp only at hSw); go_simp; done)
                | (intro w hSw; (try dsimp only at hSw); go_simp; with_reducible rfl)
            try simp only [Act.put, List.setIfInBounds_toArray, List.set_cons_zero, List.set_cons_succ]
            refine wpAnyH_take (i := 15) (oi := { dst := some 54, op := Op.indexAddr 22 (Operand.tmp 51) (Operand.tmp 53), type := 0, pos := "l12_machine.go:217", after := #[{ on := 12, ground := Ground.data }, { on := 14, ground := Ground.data }], guard := none }) (v := ?vq16) rfl (by kernel_rfl) (by kernel_rfl) (by kernel_rfl) (fun _ _ _ h => h) (Or.inl ⟨by rfl, ?hy16⟩) (by assumption) ?rest16
            case hy16 =>
              first
                | (intro w hSw; (try dsimp only at hSw); go_simp; done)
                | (intro w hSw; (try dsimp only at hSw); go_simp; with_reducible rfl)
            try simp only [Act.put, List.setIfInBounds_toArray, List.set_cons_zero, List.set_cons_succ]
            refine wpAnyH_take (i := 16) (oi := { dst := some 55, op := Op.load 27 (Operand.tmp 54), type := 27, pos := "l12_machine.go:217", after := #[{ on := 15, ground := Ground.data }], guard := none }) (v := ?vq17) rfl (by kernel_rfl) (by kernel_rfl) (by kernel_rfl) (fun _ _ _ h => h) (Or.inl ⟨by rfl, ?hy17⟩) (by assumption) ?rest17
            case hy17 =>
              first
                | (intro w hSw; (try dsimp only at hSw); go_simp; done)
                | (intro w hSw; (try dsimp only at hSw); go_simp; with_reducible rfl)
            try simp only [Act.put, List.setIfInBounds_toArray, List.set_cons_zero, List.set_cons_succ]
            refine wpAnyH_take (i := 17) (oi := { dst := some 56, op := Op.move (Operand.tmp 11), type := 3, pos := "l12_machine.go:217", after := #[], guard := none }) (v := ?vq18) rfl (by kernel_rfl) (by kernel_rfl) (by kernel_rfl) (fun _ _ _ h => h) (Or.inl ⟨by rfl, ?hy18⟩) (by assumption) ?rest18
            case hy18 =>
              first
                | (intro w hSw; (try dsimp only at hSw); go_simp; done)
                | (intro w hSw; (try dsimp only at hSw); go_simp; with_reducible rfl)
            try simp only [Act.put, List.setIfInBounds_toArray, List.set_cons_zero, List.set_cons_succ]
            refine wpAnyH_take (i := 18) (oi := { dst := some 57, op := Op.indexAddr 27 (Operand.tmp 55) (Operand.tmp 56), type := 0, pos := "l12_machine.go:217", after := #[{ on := 16, ground := Ground.data }, { on := 17, ground := Ground.data }], guard := none }) (v := ?vq19) rfl (by kernel_rfl) (by kernel_rfl) (by kernel_rfl) (fun _ _ _ h => h) (Or.inl ⟨by rfl, ?hy19⟩) (by assumption) ?rest19
            case hy19 =>
              first
                | (intro w hSw; (try dsimp only at hSw); go_simp; done)
                | (intro w hSw; (try dsimp only at hSw); go_simp; with_reducible rfl)
            try simp only [Act.put, List.setIfInBounds_toArray, List.set_cons_zero, List.set_cons_succ]
            refine wpAnyH_take (i := 19) (oi := { dst := some 58, op := Op.load 3 (Operand.tmp 57), type := 3, pos := "l12_machine.go:217", after := #[{ on := 18, ground := Ground.data }], guard := none }) (v := ?vq20) rfl (by kernel_rfl) (by kernel_rfl) (by kernel_rfl) (fun _ _ _ h => h) (Or.inl ⟨by rfl, ?hy20⟩) (by assumption) ?rest20
            case hy20 =>
              first
                | (intro w hSw; (try dsimp only at hSw); go_simp; done)
                | (intro w hSw; (try dsimp only at hSw); go_simp; with_reducible rfl)
            try simp only [Act.put, List.setIfInBounds_toArray, List.set_cons_zero, List.set_cons_succ]
            refine wpAnyH_ready (rs := [20]) (by kernel_rfl) (by simp) ?_
            refine AllReadyH.cons (o := { dst := some 59, op := Op.call { callee := Callee.value (Operand.func 61), args := #[Operand.tmp 40, Operand.tmp 49, Operand.tmp 58], argTypes := #[80, 3, 3] }, type := 3, pos := "l12_machine.go:217", after := #[{ on := 1, ground := Ground.data }, { on := 10, ground := Ground.data }, { on := 19, ground := Ground.data }], guard := none }) rfl (fun K' hK => ?_) AllReadyH.nil
            go_simp
            refine (CA.out _ hbkd.out).mono ?_
            rintro e w7 ⟨rfl, hb7⟩
            have HB7 : Hid (Below W6.heap.size W6 w7) := hbkd.out.trans (hb7.mono (by show _ ≤ wr.heap.size; omega))
            have s7 := HSX.out _ HB7.out
            have hs7 : W6.heap.size ≤ w7.heap.size := HB7.out.size
            have HQ7 : Hid (ZRow w7 W6.heap.size (.slice aq K.length cq) K) := ZRow.below HQ6.out hb7
            go_wp2_with fail
            refine hK.out _ _ ?_ (fun hHeld => ?_)
            · exact s7
            clear hK K'
            try simp only [Act.put, List.setIfInBounds_toArray, List.set_cons_zero, List.set_cons_succ]
            refine wpAnyH_ready (rs := [21]) (by kernel_rfl) (by simp) ?_
            refine AllReadyH.cons (o := { dst := some 60, op := Op.buildSlice 27 1 #[(0, Operand.tmp 59)], type := 27, pos := "l12_machine.go:217", after := #[{ on := 20, ground := Ground.data }], guard := none }) rfl (fun K' hK => ?_) AllReadyH.nil
            go_simp
            refine hK.out _ _ ?_ (fun hHeld => ?_)
            · exact HSX.out _ (HB7.out.alloc hs7 _)
            clear hK K'
            try simp only [Act.put, List.setIfInBounds_toArray, List.set_cons_zero, List.set_cons_succ]
            refine wpAnyH_ready (rs := [22]) (by kernel_rfl) (by simp) ?_
            refine AllReadyH.cons (o := { dst := some 61, op := Op.call { callee := Callee.builtin Builtin.append, args := #[Operand.tmp 39, Operand.tmp 60], argTypes := #[27, 27] }, type := 27, pos := "l12_machine.go:217", after := #[{ on := 0, ground := Ground.data }, { on := 21, ground := Ground.data }, { on := 20, ground := Ground.chain }], guard := none }) rfl (fun K' hK => ?_) AllReadyH.nil
            refine step_append_lies _ (by rfl) _ _ _ (by rfl) W6.heap.size 3 k0 (.int .i64 0) 1 8 Try.underlying27 hk kz0 kz1 kz2 rfl (by decide) _ K.length _ (by rfl) (World.ownsRow.alloc HQ7.out _) ⟨w7.heap.size, 0, none⟩ 1 1 [.int .i64 (X : Int)] (by rfl) rfl (World.news_of_block (heap_alloc_new w7 _)) (onezJ _) (by omega) (by unfold maxLen; have := HKL.out; omega) (by have := HKL.out; omega) (by simp; omega) (w7.heap.size + 1) (by simp) ?_
            intro g9 cap9 w9 hown9 hgrow9 hat9 hlt9
            have HB9 : Hid (Below W6.heap.size W6 w9) := below_grown HB7.out hs7 hgrow9 (fun g hg => (World.ownsRow.lt HQ7.out g hg).1)
            refine hK.out _ _ ?_ (fun hHeld => ?_)
            · exact HSX.out _ HB9.out
            clear hK K'
            try simp only [Act.put, List.setIfInBounds_toArray, List.set_cons_zero, List.set_cons_succ]
            refine wpAnyH_take (i := 23) (oi := { dst := some 10, op := Op.assign (Operand.tmp 61), type := 27, pos := "l12_machine.go:217", after := #[{ on := 22, ground := Ground.data }, { on := 22, ground := Ground.chain }, { on := 0, ground := Ground.phase }, { on := 1, ground := Ground.phase }, { on := 2, ground := Ground.phase }, { on := 3, ground := Ground.phase }, { on := 4, ground := Ground.phase }, { on := 5, ground := Ground.phase }, { on := 6, ground := Ground.phase }, { on := 7, ground := Ground.phase }, { on := 8, ground := Ground.phase }, { on := 9, ground := Ground.phase }, { on := 10, ground := Ground.phase }, { on := 11, ground := Ground.phase }, { on := 12, ground := Ground.phase }, { on := 13, ground := Ground.phase }, { on := 14, ground := Ground.phase }, { on := 15, ground := Ground.phase }, { on := 16, ground := Ground.phase }, { on := 17, ground := Ground.phase }, { on := 18, ground := Ground.phase }, { on := 19, ground := Ground.phase }, { on := 20, ground := Ground.phase }, { on := 21, ground := Ground.phase }, { on := 22, ground := Ground.phase }], guard := none }) (v := ?vq21) rfl (by kernel_rfl) (by kernel_rfl) (by kernel_rfl) (fun _ _ _ h => h) (Or.inl ⟨by rfl, ?hy21⟩) (by assumption) ?rest21
            case hy21 =>
              first
                | (intro w hSw; (try dsimp only at hSw); go_simp; done)
                | (intro w hSw; (try dsimp only at hSw); go_simp; with_reducible rfl)
            try simp only [Act.put, List.setIfInBounds_toArray, List.set_cons_zero, List.set_cons_succ]
            refine wpAnyH_done (by kernel_rfl) ?_ _
            have HQ9 : Hid (ZRow w9 W6.heap.size (.slice (some ⟨g9, 0, none⟩) (K.length + 1) cap9) (N3.take (k + 1))) := by rw [HNK.out]; exact ZRow.snocM hown9
            clear hown9 hgrow9 hat9 hlt9 HQ7 HB7 s7 sd
            go_wp2
            go_roundw
            case rel => exact ⟨k + 1, by omega, by go_num, HQ9, HB9⟩
            case measure => simp [intOf]; omega
          · have hk3' : k = 3 := by omega
            subst hk3'
            have hge : ¬ ((3 : Int) < 3) := by omega
            have hQ' := hQ.out
            rw [List.take_of_length_le (by have := HN3.out; omega)] at hQ'
            have HQ : Hid (ZRow wr W6.heap.size _ N3) := hQ'
            obtain ⟨aq, cq, hvq⟩ := hQ'.slice
            subst hvq
            clear hQ hQ'
            have HTk : Hid (TSt wr w4.heap.size (.slice av L.length cv) (.slice ev D.length dv) L D us) := HT6.out.below hbk.out
            have t0 := HTk.out.c0
            have hlL : L.length ≤ 12 := by have := HTL.out; omega
            have hlD : D.length ≤ 12 := by have := HGL.out; omega
            have hszk4 : w4.heap.size < wr.heap.size := by omega
            go_wp2_with (at_builtin; refine wpList_append_lies _ rfl _ _ 22 rfl (w4.heap.size + 1) 27 i0 (.slice none 0 0) 1 24 Try.underlying22 hi hz0 hz1 hz2 rfl (by decide) _ L.length _ rfl (World.ownsRow.alloc HTk.out.own.1.1 _) ⟨wr.heap.size, 0, none⟩ 1 1 [.slice aq N3.length cq] rfl rfl (World.news_of_block (heap_alloc_new wr _)) (one1M _ _ _) (by omega) (by unfold maxLen; omega) (by omega) (by simp; omega) (wr.heap.size + 1) (by simp) ?_)
            intro g9 cap9 w9 hown9 hgrow9 hat9 hlt9
            obtain ⟨⟨q9, f9, k9⟩, hT9, hB9⟩ := HT6.out.next hbk.out HQ.out hown9 hgrow9 hat9
            obtain ⟨W7, hW7⟩ : ∃ W, W = w9.setCell ⟨w4.heap.size, 0, none⟩ (.slice (some ⟨g9, 0, none⟩) (L.length + 1) cap9) := ⟨_, rfl⟩
            have hblk : w9.heap[wo.heap.size]? = wr.heap[wo.heap.size]? := by rw [hgrow9.block _ (by simp; omega) (HROW.out _ (Or.inr rfl)).1, Below.heap_alloc _ _ _ (by omega)]
            have x07 : W7.cell? ⟨wo.heap.size, 0, none⟩ = some (.int .i64 (p.a : Int)) := by
              rw [hW7, World.cell?_setCell_other _ _ _ _ (by intro e; injection e with e; omega)]
              exact (World.cell?_of_block (w := wr) hblk).trans ((hbk.out.cell (p := ⟨wo.heap.size, 0, none⟩) hsz6).trans x0.out.1)
            have x17 : W7.cell? ⟨wo.heap.size, 1, none⟩ = some (.int .i64 (p.b : Int)) := by
              rw [hW7, World.cell?_setCell_other _ _ _ _ (by intro e; injection e with e; omega)]
              exact (World.cell?_of_block (w := wr) hblk).trans ((hbk.out.cell (p := ⟨wo.heap.size, 1, none⟩) hsz6).trans x0.out.2)
            rw [← hW7] at hT9 hB9
            have hs7 : wo.heap.size < W7.heap.size := by have := hB9.size; omega
            have HB7 : Hid (Below w4.heap.size w4 W7) := HB6.out.trans hB9
            have HB7w : Below w.heap.size w W7 := hB4.trans (HB7.out.mono hB4.size)
            have q17 := (HB7.out.cell (p := ⟨w.heap.size, 1, none⟩) hl0).trans Q4.out.2.1
            have q37 := (HB7.out.cell (p := ⟨w.heap.size + 1, 1, none⟩) hl1).trans Q4.out.2.2.2
            obtain ⟨gE, oE, hvE, hgE, cE0⟩ := HE.out.to (i := p.a) (by have := hLE.out; omega)
            have cE7 := (HB7w.cell (p := ⟨gE, oE + p.a, none⟩) hgE).trans cE0
            obtain ⟨gF, oF, hvF, hgF, cF0⟩ := HF.out.to (i := p.b) (by have := hLF.out; omega)
            have cF7 := (HB7w.cell (p := ⟨gF, oF + p.b, none⟩) hgF).trans cF0
            subst hvE hvF
            have HT7 : Hid (TSt W7.drew w4.heap.size (.slice (some ⟨g9, 0, none⟩) (L.length + 1) cap9) (.slice ev D.length dv) (L ++ [N3]) D (us ++ [.slice aq N3.length cq])) := hT9.drew
            have m7 : W7.cell? ⟨w4.heap.size, 1, none⟩ = some (.slice ev D.length dv) := hT9.c1
            have m7d : W7.drew.cell? ⟨w4.heap.size, 1, none⟩ = some (.slice ev D.length dv) := m7
            have m7a : ∀ o, (W7.alloc o).cell? ⟨w4.heap.size, 1, none⟩ = some (.slice ev D.length dv) := fun o => (hT9.below ((Below.refl _ W7).alloc (Nat.le_refl _) o)).c1
            have hl47 : w4.heap.size + 1 ≤ W7.heap.size := hT9.lb
            have HBN : Hid (ben E F p = (en E p.a && en F p.b)) := rfl
            rw [HBN.out] at HNE
            clear HBN cE0 cF0 hT9 hB9 hown9 hgrow9 hat9 hlt9 hblk HB7w HTk
            generalize en E p.a = x at cE7 HNE
            generalize en F p.b = y at cF7 HNE
            go_upto_region 16 with fail
            rw [← hW7]
            clear hW7 q9 f9 k9 t0
            have HSY : Hid (∀ w' : World, Below W7.heap.size W7 w' → w'.cell? ⟨w.heap.size, 1, none⟩ = some (.slice (some ⟨gE, oE, none⟩) E.length cE) ∧ w'.cell? ⟨w.heap.size + 1, 1, none⟩ = some (.slice (some ⟨gF, oF, none⟩) F.length cF) ∧ w'.cell? ⟨wo.heap.size, 0, none⟩ = some (.int .i64 (p.a : Int)) ∧ w'.cell? ⟨wo.heap.size, 1, none⟩ = some (.int .i64 (p.b : Int)) ∧ w'.cell? ⟨gE, oE + p.a, none⟩ = some (.bool x) ∧ w'.cell? ⟨gF, oF + p.b, none⟩ = some (.bool y)) := fun w' h => ⟨(h.cell (p := ⟨w.heap.size, 1, none⟩) (by show w.heap.size < _; omega)).trans q17, (h.cell (p := ⟨w.heap.size + 1, 1, none⟩) (by show w.heap.size + 1 < _; omega)).trans q37, (h.cell (p := ⟨wo.heap.size, 0, none⟩) hs7).trans x07, (h.cell (p := ⟨wo.heap.size, 1, none⟩) hs7).trans x17, (h.cell (p := ⟨gE, oE + p.a, none⟩) (by show gE < _; omega)).trans cE7, (h.cell (p := ⟨gF, oF + p.b, none⟩) (by show gF < _; omega)).trans cF7⟩
            have sd := HSY.out _ ((Below.refl _ W7).drew)
            have sa := fun (o : Obj) => HSY.out _ (((Below.refl _ W7).drew).alloc (Nat.le_refl _) o)
            have SK : Hid (∀ (w' : World) (o : Obj), (W7.drew.alloc o).grownBy w' (Value.slice ev D.length dv).ownBlock → w'.cell? ⟨w.heap.size, 1, none⟩ = some (.slice (some ⟨gE, oE, none⟩) E.length cE) ∧ w'.cell? ⟨w.heap.size + 1, 1, none⟩ = some (.slice (some ⟨gF, oF, none⟩) F.length cF) ∧ w'.cell? ⟨wo.heap.size, 0, none⟩ = some (.int .i64 (p.a : Int)) ∧ w'.cell? ⟨wo.heap.size, 1, none⟩ = some (.int .i64 (p.b : Int)) ∧ w'.cell? ⟨gE, oE + p.a, none⟩ = some (.bool x) ∧ w'.cell? ⟨gF, oF + p.b, none⟩ = some (.bool y)) := fun w' o h => by
              have blk : ∀ j, j < W7.heap.size → some j ≠ (Value.slice ev D.length dv).ownBlock → w'.heap[j]? = W7.heap[j]? := fun j h1 h2 => by
                rw [h.block j (by simp; omega) h2, Below.heap_alloc _ _ _ (by simpa using h1)]; rfl
              refine ⟨(World.cell?_of_block (w := W7) (blk _ (by show w.heap.size < _; omega) (HROW.out _ (Or.inl (by show w.heap.size < _; omega))).2)).trans q17, (World.cell?_of_block (w := W7) (blk _ (by show w.heap.size + 1 < _; omega) (HROW.out _ (Or.inl (by show w.heap.size + 1 < _; omega))).2)).trans q37, (World.cell?_of_block (w := W7) (blk _ hs7 (HROW.out _ (Or.inr rfl)).2)).trans x07, (World.cell?_of_block (w := W7) (blk _ hs7 (HROW.out _ (Or.inr rfl)).2)).trans x17, (World.cell?_of_block (w := W7) (blk _ (by show gE < _; omega) (HROW.out _ (Or.inl (by show gE < _; omega))).2)).trans cE7, (World.cell?_of_block (w := W7) (blk _ (by show gF < _; omega) (HROW.out _ (Or.inl (by show gF < _; omega))).2)).trans cF7⟩
            have SKS : Hid (∀ (w' : World) (v : Value), (w'.cell? ⟨w.heap.size, 1, none⟩ = some (.slice (some ⟨gE, oE, none⟩) E.length cE) ∧ w'.cell? ⟨w.heap.size + 1, 1, none⟩ = some (.slice (some ⟨gF, oF, none⟩) F.length cF) ∧ w'.cell? ⟨wo.heap.size, 0, none⟩ = some (.int .i64 (p.a : Int)) ∧ w'.cell? ⟨wo.heap.size, 1, none⟩ = some (.int .i64 (p.b : Int)) ∧ w'.cell? ⟨gE, oE + p.a, none⟩ = some (.bool x) ∧ w'.cell? ⟨gF, oF + p.b, none⟩ = some (.bool y)) → (w'.setCell ⟨w4.heap.size, 1, none⟩ v).cell? ⟨w.heap.size, 1, none⟩ = some (.slice (some ⟨gE, oE, none⟩) E.length cE) ∧ (w'.setCell ⟨w4.heap.size, 1, none⟩ v).cell? ⟨w.heap.size + 1, 1, none⟩ = some (.slice (some ⟨gF, oF, none⟩) F.length cF) ∧ (w'.setCell ⟨w4.heap.size, 1, none⟩ v).cell? ⟨wo.heap.size, 0, none⟩ = some (.int .i64 (p.a : Int)) ∧ (w'.setCell ⟨w4.heap.size, 1, none⟩ v).cell? ⟨wo.heap.size, 1, none⟩ = some (.int .i64 (p.b : Int)) ∧ (w'.setCell ⟨w4.heap.size, 1, none⟩ v).cell? ⟨gE, oE + p.a, none⟩ = some (.bool x) ∧ (w'.setCell ⟨w4.heap.size, 1, none⟩ v).cell? ⟨gF, oF + p.b, none⟩ = some (.bool y)) := fun w' v ⟨a0, a1, a2, a3, a4, a5⟩ => by
              refine ⟨?_, ?_, ?_, ?_, ?_, ?_⟩
              · rw [World.cell?_setCell_other _ _ _ _ (by intro e; injection e with e; omega)]; exact a0
              · rw [World.cell?_setCell_other _ _ _ _ (by intro e; injection e with e; omega)]; exact a1
              · rw [World.cell?_setCell_other _ _ _ _ (by intro e; injection e with e; omega)]; exact a2
              · rw [World.cell?_setCell_other _ _ _ _ (by intro e; injection e with e; omega)]; exact a3
              · rw [World.cell?_setCell_other _ _ _ _ (by intro e; injection e with e; omega)]; exact a4
              · rw [World.cell?_setCell_other _ _ _ _ (by intro e; injection e with e; omega)]; exact a5
            clear q17 q37 x07 x17 cE7 cF7
            cases x with
            | false =>
              refine wp_region_held_drew (S := fun w' => w'.cell? ⟨w.heap.size, 1, none⟩ = some (.slice (some ⟨gE, oE, none⟩) E.length cE) ∧ w'.cell? ⟨w.heap.size + 1, 1, none⟩ = some (.slice (some ⟨gF, oF, none⟩) F.length cF) ∧ w'.cell? ⟨wo.heap.size, 0, none⟩ = some (.int .i64 (p.a : Int)) ∧ w'.cell? ⟨wo.heap.size, 1, none⟩ = some (.int .i64 (p.b : Int)) ∧ w'.cell? ⟨gE, oE + p.a, none⟩ = some (.bool false) ∧ w'.cell? ⟨gF, oF + p.b, none⟩ = some (.bool y)) (by kernel_rfl) ?_ (fun hHeld => ?_)
              · exact sd
              refine wpAnyH_take (i := 0) (oi := { dst := some 68, op := Op.fieldAddr 30 (Operand.tmp 7) 1, type := 0, pos := "l12_machine.go:220", after := #[], guard := none }) (v := ?vq22) rfl (by kernel_rfl) (by kernel_rfl) (by kernel_rfl) (fun _ _ _ h => h) (Or.inl ⟨by rfl, ?hy22⟩) (by assumption) ?rest22
              case hy22 =>
                first
                  | (intro w hSw; (try dsimp only at hSw); go_simp; done)
                  | (intro w hSw; (try dsimp only at hSw); go_simp; with_reducible rfl)
              try simp only [Act.put, List.setIfInBounds_toArray, List.set_cons_zero, List.set_cons_succ]
              refine wpAnyH_take (i := 2) (oi := { dst := some 70, op := Op.fieldAddr 30 (Operand.tmp 2) 1, type := 0, pos := "l12_machine.go:220", after := #[], guard := none }) (v := ?vq23) rfl (by kernel_rfl) (by kernel_rfl) (by kernel_rfl) (fun _ _ _ h => h) (Or.inl ⟨by rfl, ?hy23⟩) (by assumption) ?rest23
              case hy23 =>
                first
                  | (intro w hSw; (try dsimp only at hSw); go_simp; done)
                  | (intro w hSw; (try dsimp only at hSw); go_simp; with_reducible rfl)
              try simp only [Act.put, List.setIfInBounds_toArray, List.set_cons_zero, List.set_cons_succ]
              refine wpAnyH_take (i := 3) (oi := { dst := some 71, op := Op.load 23 (Operand.tmp 70), type := 23, pos := "l12_machine.go:220", after := #[{ on := 2, ground := Ground.data }], guard := none }) (v := ?vq24) rfl (by kernel_rfl) (by kernel_rfl) (by kernel_rfl) (fun _ _ _ h => h) (Or.inl ⟨by rfl, ?hy24⟩) (by assumption) ?rest24
              case hy24 =>
                first
                  | (intro w hSw; (try dsimp only at hSw); go_simp; done)
                  | (intro w hSw; (try dsimp only at hSw); go_simp; with_reducible rfl)
              try simp only [Act.put, List.setIfInBounds_toArray, List.set_cons_zero, List.set_cons_succ]
              refine wpAnyH_take (i := 4) (oi := { dst := some 72, op := Op.fieldAddr 83 (Operand.tmp 9) 0, type := 0, pos := "l12_machine.go:220", after := #[], guard := none }) (v := ?vq25) rfl (by kernel_rfl) (by kernel_rfl) (by kernel_rfl) (fun _ _ _ h => h) (Or.inl ⟨by rfl, ?hy25⟩) (by assumption) ?rest25
              case hy25 =>
                first
                  | (intro w hSw; (try dsimp only at hSw); go_simp; done)
                  | (intro w hSw; (try dsimp only at hSw); go_simp; with_reducible rfl)
              try simp only [Act.put, List.setIfInBounds_toArray, List.set_cons_zero, List.set_cons_succ]
              refine wpAnyH_take (i := 5) (oi := { dst := some 73, op := Op.load 3 (Operand.tmp 72), type := 3, pos := "l12_machine.go:220", after := #[{ on := 4, ground := Ground.data }], guard := none }) (v := ?vq26) rfl (by kernel_rfl) (by kernel_rfl) (by kernel_rfl) (fun _ _ _ h => h) (Or.inl ⟨by rfl, ?hy26⟩) (by assumption) ?rest26
              case hy26 =>
                first
                  | (intro w hSw; (try dsimp only at hSw); go_simp; done)
                  | (intro w hSw; (try dsimp only at hSw); go_simp; with_reducible rfl)
              try simp only [Act.put, List.setIfInBounds_toArray, List.set_cons_zero, List.set_cons_succ]
              refine wpAnyH_take (i := 6) (oi := { dst := some 74, op := Op.indexAddr 23 (Operand.tmp 71) (Operand.tmp 73), type := 0, pos := "l12_machine.go:220", after := #[{ on := 3, ground := Ground.data }, { on := 5, ground := Ground.data }], guard := none }) (v := ?vq27) rfl (by kernel_rfl) (by kernel_rfl) (by kernel_rfl) (fun _ _ _ h => h) (Or.inl ⟨by rfl, ?hy27⟩) (by assumption) ?rest27
              case hy27 =>
                first
                  | (intro w hSw; (try dsimp only at hSw); go_simp; done)
                  | (intro w hSw; (try dsimp only at hSw); go_simp; with_reducible rfl)
              try simp only [Act.put, List.setIfInBounds_toArray, List.set_cons_zero, List.set_cons_succ]
              refine wpAnyH_take (i := 7) (oi := { dst := some 75, op := Op.load 4 (Operand.tmp 74), type := 4, pos := "l12_machine.go:220", after := #[{ on := 6, ground := Ground.data }], guard := none }) (v := ?vq28) rfl (by kernel_rfl) (by kernel_rfl) (by kernel_rfl) (fun _ _ _ h => h) (Or.inl ⟨by rfl, ?hy28⟩) (by assumption) ?rest28
              case hy28 =>
                first
                  | (intro w hSw; (try dsimp only at hSw); go_simp; done)
                  | (intro w hSw; (try dsimp only at hSw); go_simp; with_reducible rfl)
              try simp only [Act.put, List.setIfInBounds_toArray, List.set_cons_zero, List.set_cons_succ]
              refine wpAnyH_take (i := 8) (oi := { dst := some 76, op := Op.move (Operand.tmp 75), type := 4, pos := "l12_machine.go:220", after := #[{ on := 7, ground := Ground.data }], guard := none }) (v := ?vq29) rfl (by kernel_rfl) (by kernel_rfl) (by kernel_rfl) (fun _ _ _ h => h) (Or.inl ⟨by rfl, ?hy29⟩) (by assumption) ?rest29
              case hy29 =>
                first
                  | (intro w hSw; (try dsimp only at hSw); go_simp; done)
                  | (intro w hSw; (try dsimp only at hSw); go_simp; with_reducible rfl)
              try simp only [Act.put, List.setIfInBounds_toArray, List.set_cons_zero, List.set_cons_succ]
              refine wpAnyH_take (i := 9) (oi := { dst := some 77, op := Op.fieldAddr 30 (Operand.tmp 3) 1, type := 0, pos := "l12_machine.go:220", after := #[{ on := 8, ground := Ground.guard }], guard := some (8, true) }) (v := undef) rfl (by kernel_rfl) (by kernel_rfl) (by kernel_rfl) (fun _ _ _ h => h) (Or.inr ⟨by rfl, rfl⟩) (by assumption) ?_
              try simp only [Act.put, List.setIfInBounds_toArray, List.set_cons_zero, List.set_cons_succ]
              refine wpAnyH_take (i := 10) (oi := { dst := some 78, op := Op.load 23 (Operand.tmp 77), type := 23, pos := "l12_machine.go:220", after := #[{ on := 9, ground := Ground.data }, { on := 8, ground := Ground.guard }], guard := some (8, true) }) (v := undef) rfl (by kernel_rfl) (by kernel_rfl) (by kernel_rfl) (fun _ _ _ h => h) (Or.inr ⟨by rfl, rfl⟩) (by assumption) ?_
              try simp only [Act.put, List.setIfInBounds_toArray, List.set_cons_zero, List.set_cons_succ]
              refine wpAnyH_take (i := 11) (oi := { dst := some 79, op := Op.fieldAddr 83 (Operand.tmp 9) 1, type := 0, pos := "l12_machine.go:220", after := #[{ on := 8, ground := Ground.guard }], guard := some (8, true) }) (v := undef) rfl (by kernel_rfl) (by kernel_rfl) (by kernel_rfl) (fun _ _ _ h => h) (Or.inr ⟨by rfl, rfl⟩) (by assumption) ?_
              try simp only [Act.put, List.setIfInBounds_toArray, List.set_cons_zero, List.set_cons_succ]
              refine wpAnyH_take (i := 12) (oi := { dst := some 80, op := Op.load 3 (Operand.tmp 79), type := 3, pos := "l12_machine.go:220", after := #[{ on := 11, ground := Ground.data }, { on := 8, ground := Ground.guard }], guard := some (8, true) }) (v := undef) rfl (by kernel_rfl) (by kernel_rfl) (by kernel_rfl) (fun _ _ _ h => h) (Or.inr ⟨by rfl, rfl⟩) (by assumption) ?_
              try simp only [Act.put, List.setIfInBounds_toArray, List.set_cons_zero, List.set_cons_succ]
              refine wpAnyH_take (i := 13) (oi := { dst := some 81, op := Op.indexAddr 23 (Operand.tmp 78) (Operand.tmp 80), type := 0, pos := "l12_machine.go:220", after := #[{ on := 10, ground := Ground.data }, { on := 12, ground := Ground.data }, { on := 8, ground := Ground.guard }], guard := some (8, true) }) (v := undef) rfl (by kernel_rfl) (by kernel_rfl) (by kernel_rfl) (fun _ _ _ h => h) (Or.inr ⟨by rfl, rfl⟩) (by assumption) ?_
              try simp only [Act.put, List.setIfInBounds_toArray, List.set_cons_zero, List.set_cons_succ]
              refine wpAnyH_take (i := 14) (oi := { dst := some 82, op := Op.load 4 (Operand.tmp 81), type := 4, pos := "l12_machine.go:220", after := #[{ on := 13, ground := Ground.data }, { on := 8, ground := Ground.guard }], guard := some (8, true) }) (v := undef) rfl (by kernel_rfl) (by kernel_rfl) (by kernel_rfl) (fun _ _ _ h => h) (Or.inr ⟨by rfl, rfl⟩) (by assumption) ?_
              try simp only [Act.put, List.setIfInBounds_toArray, List.set_cons_zero, List.set_cons_succ]
              refine wpAnyH_take (i := 15) (oi := { dst := some 83, op := Op.pick (Operand.tmp 76) (Operand.tmp 82) (Operand.const (Value.bool false)), type := 4, pos := "l12_machine.go:220", after := #[{ on := 8, ground := Ground.data }, { on := 14, ground := Ground.data }], guard := none }) (v := ?vq30) rfl (by kernel_rfl) (by kernel_rfl) (by kernel_rfl) (fun _ _ _ h => h) (Or.inl ⟨by rfl, ?hy30⟩) (by assumption) ?rest30
              case hy30 =>
                first
                  | (intro w hSw; (try dsimp only at hSw); go_simp; done)
                  | (intro w hSw; (try dsimp only at hSw); go_simp; with_reducible rfl)
              try simp only [Act.put, List.setIfInBounds_toArray, List.set_cons_zero, List.set_cons_succ]
              refine wpAnyH_ready (rs := [1, 16]) (by kernel_rfl) (by simp) ?_
              refine AllReadyH.cons (o := { dst := some 69, op := Op.load 23 (Operand.tmp 68), type := 23, pos := "l12_machine.go:220", after := #[{ on := 0, ground := Ground.data }], guard := none }) rfl (fun K hK => ?_) (AllReadyH.cons (o := { dst := some 84, op := Op.buildSlice 23 1 #[(0, Operand.tmp 83)], type := 23, pos := "l12_machine.go:220", after := #[{ on := 15, ground := Ground.data }], guard := none }) rfl (fun K hK => ?_) AllReadyH.nil)
              · skip
                go_simp
                refine hK.out _ _ ?_ (fun hHeld => ?_)
                · exact sd
                clear hK K
                try simp only [Act.put, List.setIfInBounds_toArray, List.set_cons_zero, List.set_cons_succ]
                refine wpAnyH_ready (rs := [16]) (by kernel_rfl) (by simp) ?_
                refine AllReadyH.cons (o := { dst := some 84, op := Op.buildSlice 23 1 #[(0, Operand.tmp 83)], type := 23, pos := "l12_machine.go:220", after := #[{ on := 15, ground := Ground.data }], guard := none }) rfl (fun K hK => ?_) AllReadyH.nil
                go_simp
                refine hK.out _ _ ?_ (fun hHeld => ?_)
                · exact sa _
                clear hK K
                try simp only [Act.put, List.setIfInBounds_toArray, List.set_cons_zero, List.set_cons_succ]
                refine wpAnyH_ready (rs := [17]) (by kernel_rfl) (by simp) ?_
                refine AllReadyH.cons (o := { dst := some 85, op := Op.call { callee := Callee.builtin Builtin.append, args := #[Operand.tmp 69, Operand.tmp 84], argTypes := #[23, 23] }, type := 23, pos := "l12_machine.go:220", after := #[{ on := 1, ground := Ground.data }, { on := 16, ground := Ground.data }, { on := 8, ground := Ground.chain }], guard := none }) rfl (fun K hK => ?_) AllReadyH.nil
                refine step_append_lies _ (by rfl) _ _ _ (by rfl) (w4.heap.size + 1) 4 j0 (.bool false) 1 1 Try.underlying23 hj jz0 jz1 jz2 rfl (by decide) _ D.length _ (by rfl) (World.ownsRow.alloc HT7.out.own.2.1 _) ⟨W7.heap.size, 0, none⟩ 1 1 [.bool false] (by rfl) rfl (World.news_of_block (heap_alloc_new W7.drew _)) (onebM _) (by omega) (by unfold maxLen; omega) (by omega) (by simp; omega) (W7.heap.size + 1) (by simp) ?_
                intro g8 cap8 w8 hown8 hgrow8 hat8 hlt8
                obtain ⟨⟨q8, f8, k8⟩, hT8, hB8⟩ := HT7.out.ends hown8 hgrow8 hat8
                have s8 := SK.out _ _ hgrow8
                refine hK.out _ _ ?_ (fun hHeld => ?_)
                · exact s8
                clear hK K
                try simp only [Act.put, List.setIfInBounds_toArray, List.set_cons_zero, List.set_cons_succ]
                refine wpAnyH_take (i := 18) (oi := { dst := some 86, op := Op.fieldAddr 30 (Operand.tmp 7) 1, type := 0, pos := "l12_machine.go:220", after := #[{ on := 0, ground := Ground.phase }, { on := 1, ground := Ground.phase }, { on := 2, ground := Ground.phase }, { on := 3, ground := Ground.phase }, { on := 4, ground := Ground.phase }, { on := 5, ground := Ground.phase }, { on := 6, ground := Ground.phase }, { on := 7, ground := Ground.phase }, { on := 8, ground := Ground.phase }, { on := 9, ground := Ground.phase }, { on := 10, ground := Ground.phase }, { on := 11, ground := Ground.phase }, { on := 12, ground := Ground.phase }, { on := 13, ground := Ground.phase }, { on := 14, ground := Ground.phase }, { on := 15, ground := Ground.phase }, { on := 16, ground := Ground.phase }, { on := 17, ground := Ground.phase }], guard := none }) (v := ?vq31) rfl (by kernel_rfl) (by kernel_rfl) (by kernel_rfl) (fun _ _ _ h => h) (Or.inl ⟨by rfl, ?hy31⟩) (by assumption) ?rest31
                case hy31 =>
                  first
                    | (intro w hSw; (try dsimp only at hSw); go_simp; done)
                    | (intro w hSw; (try dsimp only at hSw); go_simp; with_reducible rfl)
                try simp only [Act.put, List.setIfInBounds_toArray, List.set_cons_zero, List.set_cons_succ]
                refine wpAnyH_ready (rs := [19]) (by kernel_rfl) (by simp) ?_
                refine AllReadyH.cons (o := _) rfl (fun K hK => ?_) AllReadyH.nil
                go_simp
                refine hK.out _ _ ?_ (fun hHeld => ?_)
                · exact SKS.out _ _ s8
                clear hK K
                try simp only [Act.put, List.setIfInBounds_toArray, List.set_cons_zero, List.set_cons_succ]
                refine wpAnyH_done (by kernel_rfl) ?_ _
                have HT8 : Hid (TSt (w8.setCell ⟨w4.heap.size, 1, none⟩ (.slice (some ⟨g8, 0, none⟩) (D.length + 1) cap8)) w4.heap.size (.slice (some ⟨g9, 0, none⟩) (L.length + 1) cap9) (.slice (some ⟨g8, 0, none⟩) (D.length + 1) cap8) (NR A B (i + 1)) (((prs A B).map (ben E F)).take (i + 1)) (us ++ [.slice aq N3.length cq])) := by rw [HNL.out, HNE.out]; exact hT8
                have HB8 : Hid (Below w4.heap.size w4 (w8.setCell ⟨w4.heap.size, 1, none⟩ (.slice (some ⟨g8, 0, none⟩) (D.length + 1) cap8))) := HB7.out.trans ⟨hB8.os, hB8.tape, hB8.output, hB8.size, hB8.block⟩
                clear hown8 hgrow8 hat8 hT8 hB8 s8
                go_wp2
                go_roundw
                case rel => exact ⟨i + 1, _, _, _, by omega, by go_num, HT8, HB8⟩
                case measure => simp [intOf]; omega
              · skip
                go_simp
                refine hK.out _ _ ?_ (fun hHeld => ?_)
                · exact sa _
                clear hK K
                try simp only [Act.put, List.setIfInBounds_toArray, List.set_cons_zero, List.set_cons_succ]
                refine wpAnyH_ready (rs := [1]) (by kernel_rfl) (by simp) ?_
                refine AllReadyH.cons (o := { dst := some 69, op := Op.load 23 (Operand.tmp 68), type := 23, pos := "l12_machine.go:220", after := #[{ on := 0, ground := Ground.data }], guard := none }) rfl (fun K hK => ?_) AllReadyH.nil
                go_simp
                refine hK.out _ _ ?_ (fun hHeld => ?_)
                · exact sa _
                clear hK K
                try simp only [Act.put, List.setIfInBounds_toArray, List.set_cons_zero, List.set_cons_succ]
                refine wpAnyH_ready (rs := [17]) (by kernel_rfl) (by simp) ?_
                refine AllReadyH.cons (o := { dst := some 85, op := Op.call { callee := Callee.builtin Builtin.append, args := #[Operand.tmp 69, Operand.tmp 84], argTypes := #[23, 23] }, type := 23, pos := "l12_machine.go:220", after := #[{ on := 1, ground := Ground.data }, { on := 16, ground := Ground.data }, { on := 8, ground := Ground.chain }], guard := none }) rfl (fun K hK => ?_) AllReadyH.nil
                refine step_append_lies _ (by rfl) _ _ _ (by rfl) (w4.heap.size + 1) 4 j0 (.bool false) 1 1 Try.underlying23 hj jz0 jz1 jz2 rfl (by decide) _ D.length _ (by rfl) (World.ownsRow.alloc HT7.out.own.2.1 _) ⟨W7.heap.size, 0, none⟩ 1 1 [.bool false] (by rfl) rfl (World.news_of_block (heap_alloc_new W7.drew _)) (onebM _) (by omega) (by unfold maxLen; omega) (by omega) (by simp; omega) (W7.heap.size + 1) (by simp) ?_
                intro g8 cap8 w8 hown8 hgrow8 hat8 hlt8
                obtain ⟨⟨q8, f8, k8⟩, hT8, hB8⟩ := HT7.out.ends hown8 hgrow8 hat8
                have s8 := SK.out _ _ hgrow8
                refine hK.out _ _ ?_ (fun hHeld => ?_)
                · exact s8
                clear hK K
                try simp only [Act.put, List.setIfInBounds_toArray, List.set_cons_zero, List.set_cons_succ]
                refine wpAnyH_take (i := 18) (oi := { dst := some 86, op := Op.fieldAddr 30 (Operand.tmp 7) 1, type := 0, pos := "l12_machine.go:220", after := #[{ on := 0, ground := Ground.phase }, { on := 1, ground := Ground.phase }, { on := 2, ground := Ground.phase }, { on := 3, ground := Ground.phase }, { on := 4, ground := Ground.phase }, { on := 5, ground := Ground.phase }, { on := 6, ground := Ground.phase }, { on := 7, ground := Ground.phase }, { on := 8, ground := Ground.phase }, { on := 9, ground := Ground.phase }, { on := 10, ground := Ground.phase }, { on := 11, ground := Ground.phase }, { on := 12, ground := Ground.phase }, { on := 13, ground := Ground.phase }, { on := 14, ground := Ground.phase }, { on := 15, ground := Ground.phase }, { on := 16, ground := Ground.phase }, { on := 17, ground := Ground.phase }], guard := none }) (v := ?vq32) rfl (by kernel_rfl) (by kernel_rfl) (by kernel_rfl) (fun _ _ _ h => h) (Or.inl ⟨by rfl, ?hy32⟩) (by assumption) ?rest32
                case hy32 =>
                  first
                    | (intro w hSw; (try dsimp only at hSw); go_simp; done)
                    | (intro w hSw; (try dsimp only at hSw); go_simp; with_reducible rfl)
                try simp only [Act.put, List.setIfInBounds_toArray, List.set_cons_zero, List.set_cons_succ]
                refine wpAnyH_ready (rs := [19]) (by kernel_rfl) (by simp) ?_
                refine AllReadyH.cons (o := _) rfl (fun K hK => ?_) AllReadyH.nil
                go_simp
                refine hK.out _ _ ?_ (fun hHeld => ?_)
                · exact SKS.out _ _ s8
                clear hK K
                try simp only [Act.put, List.setIfInBounds_toArray, List.set_cons_zero, List.set_cons_succ]
                refine wpAnyH_done (by kernel_rfl) ?_ _
                have HT8 : Hid (TSt (w8.setCell ⟨w4.heap.size, 1, none⟩ (.slice (some ⟨g8, 0, none⟩) (D.length + 1) cap8)) w4.heap.size (.slice (some ⟨g9, 0, none⟩) (L.length + 1) cap9) (.slice (some ⟨g8, 0, none⟩) (D.length + 1) cap8) (NR A B (i + 1)) (((prs A B).map (ben E F)).take (i + 1)) (us ++ [.slice aq N3.length cq])) := by rw [HNL.out, HNE.out]; exact hT8
                have HB8 : Hid (Below w4.heap.size w4 (w8.setCell ⟨w4.heap.size, 1, none⟩ (.slice (some ⟨g8, 0, none⟩) (D.length + 1) cap8))) := HB7.out.trans ⟨hB8.os, hB8.tape, hB8.output, hB8.size, hB8.block⟩
                clear hown8 hgrow8 hat8 hT8 hB8 s8
                go_wp2
                go_roundw
                case rel => exact ⟨i + 1, _, _, _, by omega, by go_num, HT8, HB8⟩
                case measure => simp [intOf]; omega
            | true =>
              refine wp_region_held_drew (S := fun w' => w'.cell? ⟨w.heap.size, 1, none⟩ = some (.slice (some ⟨gE, oE, none⟩) E.length cE) ∧ w'.cell? ⟨w.heap.size + 1, 1, none⟩ = some (.slice (some ⟨gF, oF, none⟩) F.length cF) ∧ w'.cell? ⟨wo.heap.size, 0, none⟩ = some (.int .i64 (p.a : Int)) ∧ w'.cell? ⟨wo.heap.size, 1, none⟩ = some (.int .i64 (p.b : Int)) ∧ w'.cell? ⟨gE, oE + p.a, none⟩ = some (.bool true) ∧ w'.cell? ⟨gF, oF + p.b, none⟩ = some (.bool y)) (by kernel_rfl) ?_ (fun hHeld => ?_)
              · exact sd
              refine wpAnyH_take (i := 0) (oi := { dst := some 68, op := Op.fieldAddr 30 (Operand.tmp 7) 1, type := 0, pos := "l12_machine.go:220", after := #[], guard := none }) (v := ?vq33) rfl (by kernel_rfl) (by kernel_rfl) (by kernel_rfl) (fun _ _ _ h => h) (Or.inl ⟨by rfl, ?hy33⟩) (by assumption) ?rest33
              case hy33 =>
                first
                  | (intro w hSw; (try dsimp only at hSw); go_simp; done)
                  | (intro w hSw; (try dsimp only at hSw); go_simp; with_reducible rfl)
              try simp only [Act.put, List.setIfInBounds_toArray, List.set_cons_zero, List.set_cons_succ]
              refine wpAnyH_take (i := 2) (oi := { dst := some 70, op := Op.fieldAddr 30 (Operand.tmp 2) 1, type := 0, pos := "l12_machine.go:220", after := #[], guard := none }) (v := ?vq34) rfl (by kernel_rfl) (by kernel_rfl) (by kernel_rfl) (fun _ _ _ h => h) (Or.inl ⟨by rfl, ?hy34⟩) (by assumption) ?rest34
              case hy34 =>
                first
                  | (intro w hSw; (try dsimp only at hSw); go_simp; done)
                  | (intro w hSw; (try dsimp only at hSw); go_simp; with_reducible rfl)
              try simp only [Act.put, List.setIfInBounds_toArray, List.set_cons_zero, List.set_cons_succ]
              refine wpAnyH_take (i := 3) (oi := { dst := some 71, op := Op.load 23 (Operand.tmp 70), type := 23, pos := "l12_machine.go:220", after := #[{ on := 2, ground := Ground.data }], guard := none }) (v := ?vq35) rfl (by kernel_rfl) (by kernel_rfl) (by kernel_rfl) (fun _ _ _ h => h) (Or.inl ⟨by rfl, ?hy35⟩) (by assumption) ?rest35
              case hy35 =>
                first
                  | (intro w hSw; (try dsimp only at hSw); go_simp; done)
                  | (intro w hSw; (try dsimp only at hSw); go_simp; with_reducible rfl)
              try simp only [Act.put, List.setIfInBounds_toArray, List.set_cons_zero, List.set_cons_succ]
              refine wpAnyH_take (i := 4) (oi := { dst := some 72, op := Op.fieldAddr 83 (Operand.tmp 9) 0, type := 0, pos := "l12_machine.go:220", after := #[], guard := none }) (v := ?vq36) rfl (by kernel_rfl) (by kernel_rfl) (by kernel_rfl) (fun _ _ _ h => h) (Or.inl ⟨by rfl, ?hy36⟩) (by assumption) ?rest36
              case hy36 =>
                first
                  | (intro w hSw; (try dsimp only at hSw); go_simp; done)
                  | (intro w hSw; (try dsimp only at hSw); go_simp; with_reducible rfl)
              try simp only [Act.put, List.setIfInBounds_toArray, List.set_cons_zero, List.set_cons_succ]
              refine wpAnyH_take (i := 5) (oi := { dst := some 73, op := Op.load 3 (Operand.tmp 72), type := 3, pos := "l12_machine.go:220", after := #[{ on := 4, ground := Ground.data }], guard := none }) (v := ?vq37) rfl (by kernel_rfl) (by kernel_rfl) (by kernel_rfl) (fun _ _ _ h => h) (Or.inl ⟨by rfl, ?hy37⟩) (by assumption) ?rest37
              case hy37 =>
                first
                  | (intro w hSw; (try dsimp only at hSw); go_simp; done)
                  | (intro w hSw; (try dsimp only at hSw); go_simp; with_reducible rfl)
              try simp only [Act.put, List.setIfInBounds_toArray, List.set_cons_zero, List.set_cons_succ]
              refine wpAnyH_take (i := 6) (oi := { dst := some 74, op := Op.indexAddr 23 (Operand.tmp 71) (Operand.tmp 73), type := 0, pos := "l12_machine.go:220", after := #[{ on := 3, ground := Ground.data }, { on := 5, ground := Ground.data }], guard := none }) (v := ?vq38) rfl (by kernel_rfl) (by kernel_rfl) (by kernel_rfl) (fun _ _ _ h => h) (Or.inl ⟨by rfl, ?hy38⟩) (by assumption) ?rest38
              case hy38 =>
                first
                  | (intro w hSw; (try dsimp only at hSw); go_simp; done)
                  | (intro w hSw; (try dsimp only at hSw); go_simp; with_reducible rfl)
              try simp only [Act.put, List.setIfInBounds_toArray, List.set_cons_zero, List.set_cons_succ]
              refine wpAnyH_take (i := 7) (oi := { dst := some 75, op := Op.load 4 (Operand.tmp 74), type := 4, pos := "l12_machine.go:220", after := #[{ on := 6, ground := Ground.data }], guard := none }) (v := ?vq39) rfl (by kernel_rfl) (by kernel_rfl) (by kernel_rfl) (fun _ _ _ h => h) (Or.inl ⟨by rfl, ?hy39⟩) (by assumption) ?rest39
              case hy39 =>
                first
                  | (intro w hSw; (try dsimp only at hSw); go_simp; done)
                  | (intro w hSw; (try dsimp only at hSw); go_simp; with_reducible rfl)
              try simp only [Act.put, List.setIfInBounds_toArray, List.set_cons_zero, List.set_cons_succ]
              refine wpAnyH_take (i := 8) (oi := { dst := some 76, op := Op.move (Operand.tmp 75), type := 4, pos := "l12_machine.go:220", after := #[{ on := 7, ground := Ground.data }], guard := none }) (v := ?vq40) rfl (by kernel_rfl) (by kernel_rfl) (by kernel_rfl) (fun _ _ _ h => h) (Or.inl ⟨by rfl, ?hy40⟩) (by assumption) ?rest40
              case hy40 =>
                first
                  | (intro w hSw; (try dsimp only at hSw); go_simp; done)
                  | (intro w hSw; (try dsimp only at hSw); go_simp; with_reducible rfl)
              try simp only [Act.put, List.setIfInBounds_toArray, List.set_cons_zero, List.set_cons_succ]
              refine wpAnyH_take (i := 9) (oi := { dst := some 77, op := Op.fieldAddr 30 (Operand.tmp 3) 1, type := 0, pos := "l12_machine.go:220", after := #[{ on := 8, ground := Ground.guard }], guard := some (8, true) }) (v := ?vq41) rfl (by kernel_rfl) (by kernel_rfl) (by kernel_rfl) (fun _ _ _ h => h) (Or.inl ⟨by rfl, ?hy41⟩) (by assumption) ?rest41
              case hy41 =>
                first
                  | (intro w hSw; (try dsimp only at hSw); go_simp; done)
                  | (intro w hSw; (try dsimp only at hSw); go_simp; with_reducible rfl)
              try simp only [Act.put, List.setIfInBounds_toArray, List.set_cons_zero, List.set_cons_succ]
              refine wpAnyH_take (i := 10) (oi := { dst := some 78, op := Op.load 23 (Operand.tmp 77), type := 23, pos := "l12_machine.go:220", after := #[{ on := 9, ground := Ground.data }, { on := 8, ground := Ground.guard }], guard := some (8, true) }) (v := ?vq42) rfl (by kernel_rfl) (by kernel_rfl) (by kernel_rfl) (fun _ _ _ h => h) (Or.inl ⟨by rfl, ?hy42⟩) (by assumption) ?rest42
              case hy42 =>
                first
                  | (intro w hSw; (try dsimp only at hSw); go_simp; done)
                  | (intro w hSw; (try dsimp only at hSw); go_simp; with_reducible rfl)
              try simp only [Act.put, List.setIfInBounds_toArray, List.set_cons_zero, List.set_cons_succ]
              refine wpAnyH_take (i := 11) (oi := { dst := some 79, op := Op.fieldAddr 83 (Operand.tmp 9) 1, type := 0, pos := "l12_machine.go:220", after := #[{ on := 8, ground := Ground.guard }], guard := some (8, true) }) (v := ?vq43) rfl (by kernel_rfl) (by kernel_rfl) (by kernel_rfl) (fun _ _ _ h => h) (Or.inl ⟨by rfl, ?hy43⟩) (by assumption) ?rest43
              case hy43 =>
                first
                  | (intro w hSw; (try dsimp only at hSw); go_simp; done)
                  | (intro w hSw; (try dsimp only at hSw); go_simp; with_reducible rfl)
              try simp only [Act.put, List.setIfInBounds_toArray, List.set_cons_zero, List.set_cons_succ]
              refine wpAnyH_take (i := 12) (oi := { dst := some 80, op := Op.load 3 (Operand.tmp 79), type := 3, pos := "l12_machine.go:220", after := #[{ on := 11, ground := Ground.data }, { on := 8, ground := Ground.guard }], guard := some (8, true) }) (v := ?vq44) rfl (by kernel_rfl) (by kernel_rfl) (by kernel_rfl) (fun _ _ _ h => h) (Or.inl ⟨by rfl, ?hy44⟩) (by assumption) ?rest44
              case hy44 =>
                first
                  | (intro w hSw; (try dsimp only at hSw); go_simp; done)
                  | (intro w hSw; (try dsimp only at hSw); go_simp; with_reducible rfl)
              try simp only [Act.put, List.setIfInBounds_toArray, List.set_cons_zero, List.set_cons_succ]
              refine wpAnyH_take (i := 13) (oi := { dst := some 81, op := Op.indexAddr 23 (Operand.tmp 78) (Operand.tmp 80), type := 0, pos := "l12_machine.go:220", after := #[{ on := 10, ground := Ground.data }, { on := 12, ground := Ground.data }, { on := 8, ground := Ground.guard }], guard := some (8, true) }) (v := ?vq45) rfl (by kernel_rfl) (by kernel_rfl) (by kernel_rfl) (fun _ _ _ h => h) (Or.inl ⟨by rfl, ?hy45⟩) (by assumption) ?rest45
              case hy45 =>
                first
                  | (intro w hSw; (try dsimp only at hSw); go_simp; done)
                  | (intro w hSw; (try dsimp only at hSw); go_simp; with_reducible rfl)
              try simp only [Act.put, List.setIfInBounds_toArray, List.set_cons_zero, List.set_cons_succ]
              refine wpAnyH_take (i := 14) (oi := { dst := some 82, op := Op.load 4 (Operand.tmp 81), type := 4, pos := "l12_machine.go:220", after := #[{ on := 13, ground := Ground.data }, { on := 8, ground := Ground.guard }], guard := some (8, true) }) (v := ?vq46) rfl (by kernel_rfl) (by kernel_rfl) (by kernel_rfl) (fun _ _ _ h => h) (Or.inl ⟨by rfl, ?hy46⟩) (by assumption) ?rest46
              case hy46 =>
                first
                  | (intro w hSw; (try dsimp only at hSw); go_simp; done)
                  | (intro w hSw; (try dsimp only at hSw); go_simp; with_reducible rfl)
              try simp only [Act.put, List.setIfInBounds_toArray, List.set_cons_zero, List.set_cons_succ]
              refine wpAnyH_take (i := 15) (oi := { dst := some 83, op := Op.pick (Operand.tmp 76) (Operand.tmp 82) (Operand.const (Value.bool false)), type := 4, pos := "l12_machine.go:220", after := #[{ on := 8, ground := Ground.data }, { on := 14, ground := Ground.data }], guard := none }) (v := ?vq47) rfl (by kernel_rfl) (by kernel_rfl) (by kernel_rfl) (fun _ _ _ h => h) (Or.inl ⟨by rfl, ?hy47⟩) (by assumption) ?rest47
              case hy47 =>
                first
                  | (intro w hSw; (try dsimp only at hSw); go_simp; done)
                  | (intro w hSw; (try dsimp only at hSw); go_simp; with_reducible rfl)
              try simp only [Act.put, List.setIfInBounds_toArray, List.set_cons_zero, List.set_cons_succ]
              refine wpAnyH_ready (rs := [1, 16]) (by kernel_rfl) (by simp) ?_
              refine AllReadyH.cons (o := { dst := some 69, op := Op.load 23 (Operand.tmp 68), type := 23, pos := "l12_machine.go:220", after := #[{ on := 0, ground := Ground.data }], guard := none }) rfl (fun K hK => ?_) (AllReadyH.cons (o := { dst := some 84, op := Op.buildSlice 23 1 #[(0, Operand.tmp 83)], type := 23, pos := "l12_machine.go:220", after := #[{ on := 15, ground := Ground.data }], guard := none }) rfl (fun K hK => ?_) AllReadyH.nil)
              · skip
                go_simp
                refine hK.out _ _ ?_ (fun hHeld => ?_)
                · exact sd
                clear hK K
                try simp only [Act.put, List.setIfInBounds_toArray, List.set_cons_zero, List.set_cons_succ]
                refine wpAnyH_ready (rs := [16]) (by kernel_rfl) (by simp) ?_
                refine AllReadyH.cons (o := { dst := some 84, op := Op.buildSlice 23 1 #[(0, Operand.tmp 83)], type := 23, pos := "l12_machine.go:220", after := #[{ on := 15, ground := Ground.data }], guard := none }) rfl (fun K hK => ?_) AllReadyH.nil
                go_simp
                refine hK.out _ _ ?_ (fun hHeld => ?_)
                · exact sa _
                clear hK K
                try simp only [Act.put, List.setIfInBounds_toArray, List.set_cons_zero, List.set_cons_succ]
                refine wpAnyH_ready (rs := [17]) (by kernel_rfl) (by simp) ?_
                refine AllReadyH.cons (o := { dst := some 85, op := Op.call { callee := Callee.builtin Builtin.append, args := #[Operand.tmp 69, Operand.tmp 84], argTypes := #[23, 23] }, type := 23, pos := "l12_machine.go:220", after := #[{ on := 1, ground := Ground.data }, { on := 16, ground := Ground.data }, { on := 8, ground := Ground.chain }], guard := none }) rfl (fun K hK => ?_) AllReadyH.nil
                refine step_append_lies _ (by rfl) _ _ _ (by rfl) (w4.heap.size + 1) 4 j0 (.bool false) 1 1 Try.underlying23 hj jz0 jz1 jz2 rfl (by decide) _ D.length _ (by rfl) (World.ownsRow.alloc HT7.out.own.2.1 _) ⟨W7.heap.size, 0, none⟩ 1 1 [.bool y] (by rfl) rfl (World.news_of_block (heap_alloc_new W7.drew _)) (onebM _) (by omega) (by unfold maxLen; omega) (by omega) (by simp; omega) (W7.heap.size + 1) (by simp) ?_
                intro g8 cap8 w8 hown8 hgrow8 hat8 hlt8
                obtain ⟨⟨q8, f8, k8⟩, hT8, hB8⟩ := HT7.out.ends hown8 hgrow8 hat8
                have s8 := SK.out _ _ hgrow8
                refine hK.out _ _ ?_ (fun hHeld => ?_)
                · exact s8
                clear hK K
                try simp only [Act.put, List.setIfInBounds_toArray, List.set_cons_zero, List.set_cons_succ]
                refine wpAnyH_take (i := 18) (oi := { dst := some 86, op := Op.fieldAddr 30 (Operand.tmp 7) 1, type := 0, pos := "l12_machine.go:220", after := #[{ on := 0, ground := Ground.phase }, { on := 1, ground := Ground.phase }, { on := 2, ground := Ground.phase }, { on := 3, ground := Ground.phase }, { on := 4, ground := Ground.phase }, { on := 5, ground := Ground.phase }, { on := 6, ground := Ground.phase }, { on := 7, ground := Ground.phase }, { on := 8, ground := Ground.phase }, { on := 9, ground := Ground.phase }, { on := 10, ground := Ground.phase }, { on := 11, ground := Ground.phase }, { on := 12, ground := Ground.phase }, { on := 13, ground := Ground.phase }, { on := 14, ground := Ground.phase }, { on := 15, ground := Ground.phase }, { on := 16, ground := Ground.phase }, { on := 17, ground := Ground.phase }], guard := none }) (v := ?vq48) rfl (by kernel_rfl) (by kernel_rfl) (by kernel_rfl) (fun _ _ _ h => h) (Or.inl ⟨by rfl, ?hy48⟩) (by assumption) ?rest48
                case hy48 =>
                  first
                    | (intro w hSw; (try dsimp only at hSw); go_simp; done)
                    | (intro w hSw; (try dsimp only at hSw); go_simp; with_reducible rfl)
                try simp only [Act.put, List.setIfInBounds_toArray, List.set_cons_zero, List.set_cons_succ]
                refine wpAnyH_ready (rs := [19]) (by kernel_rfl) (by simp) ?_
                refine AllReadyH.cons (o := _) rfl (fun K hK => ?_) AllReadyH.nil
                go_simp
                refine hK.out _ _ ?_ (fun hHeld => ?_)
                · exact SKS.out _ _ s8
                clear hK K
                try simp only [Act.put, List.setIfInBounds_toArray, List.set_cons_zero, List.set_cons_succ]
                refine wpAnyH_done (by kernel_rfl) ?_ _
                have HT8 : Hid (TSt (w8.setCell ⟨w4.heap.size, 1, none⟩ (.slice (some ⟨g8, 0, none⟩) (D.length + 1) cap8)) w4.heap.size (.slice (some ⟨g9, 0, none⟩) (L.length + 1) cap9) (.slice (some ⟨g8, 0, none⟩) (D.length + 1) cap8) (NR A B (i + 1)) (((prs A B).map (ben E F)).take (i + 1)) (us ++ [.slice aq N3.length cq])) := by rw [HNL.out, HNE.out]; exact hT8
                have HB8 : Hid (Below w4.heap.size w4 (w8.setCell ⟨w4.heap.size, 1, none⟩ (.slice (some ⟨g8, 0, none⟩) (D.length + 1) cap8))) := HB7.out.trans ⟨hB8.os, hB8.tape, hB8.output, hB8.size, hB8.block⟩
                clear hown8 hgrow8 hat8 hT8 hB8 s8
                go_wp2
                go_roundw
                case rel => exact ⟨i + 1, _, _, _, by omega, by go_num, HT8, HB8⟩
                case measure => simp [intOf]; omega
              · skip
                go_simp
                refine hK.out _ _ ?_ (fun hHeld => ?_)
                · exact sa _
                clear hK K
                try simp only [Act.put, List.setIfInBounds_toArray, List.set_cons_zero, List.set_cons_succ]
                refine wpAnyH_ready (rs := [1]) (by kernel_rfl) (by simp) ?_
                refine AllReadyH.cons (o := { dst := some 69, op := Op.load 23 (Operand.tmp 68), type := 23, pos := "l12_machine.go:220", after := #[{ on := 0, ground := Ground.data }], guard := none }) rfl (fun K hK => ?_) AllReadyH.nil
                go_simp
                refine hK.out _ _ ?_ (fun hHeld => ?_)
                · exact sa _
                clear hK K
                try simp only [Act.put, List.setIfInBounds_toArray, List.set_cons_zero, List.set_cons_succ]
                refine wpAnyH_ready (rs := [17]) (by kernel_rfl) (by simp) ?_
                refine AllReadyH.cons (o := { dst := some 85, op := Op.call { callee := Callee.builtin Builtin.append, args := #[Operand.tmp 69, Operand.tmp 84], argTypes := #[23, 23] }, type := 23, pos := "l12_machine.go:220", after := #[{ on := 1, ground := Ground.data }, { on := 16, ground := Ground.data }, { on := 8, ground := Ground.chain }], guard := none }) rfl (fun K hK => ?_) AllReadyH.nil
                refine step_append_lies _ (by rfl) _ _ _ (by rfl) (w4.heap.size + 1) 4 j0 (.bool false) 1 1 Try.underlying23 hj jz0 jz1 jz2 rfl (by decide) _ D.length _ (by rfl) (World.ownsRow.alloc HT7.out.own.2.1 _) ⟨W7.heap.size, 0, none⟩ 1 1 [.bool y] (by rfl) rfl (World.news_of_block (heap_alloc_new W7.drew _)) (onebM _) (by omega) (by unfold maxLen; omega) (by omega) (by simp; omega) (W7.heap.size + 1) (by simp) ?_
                intro g8 cap8 w8 hown8 hgrow8 hat8 hlt8
                obtain ⟨⟨q8, f8, k8⟩, hT8, hB8⟩ := HT7.out.ends hown8 hgrow8 hat8
                have s8 := SK.out _ _ hgrow8
                refine hK.out _ _ ?_ (fun hHeld => ?_)
                · exact s8
                clear hK K
                try simp only [Act.put, List.setIfInBounds_toArray, List.set_cons_zero, List.set_cons_succ]
                refine wpAnyH_take (i := 18) (oi := { dst := some 86, op := Op.fieldAddr 30 (Operand.tmp 7) 1, type := 0, pos := "l12_machine.go:220", after := #[{ on := 0, ground := Ground.phase }, { on := 1, ground := Ground.phase }, { on := 2, ground := Ground.phase }, { on := 3, ground := Ground.phase }, { on := 4, ground := Ground.phase }, { on := 5, ground := Ground.phase }, { on := 6, ground := Ground.phase }, { on := 7, ground := Ground.phase }, { on := 8, ground := Ground.phase }, { on := 9, ground := Ground.phase }, { on := 10, ground := Ground.phase }, { on := 11, ground := Ground.phase }, { on := 12, ground := Ground.phase }, { on := 13, ground := Ground.phase }, { on := 14, ground := Ground.phase }, { on := 15, ground := Ground.phase }, { on := 16, ground := Ground.phase }, { on := 17, ground := Ground.phase }], guard := none }) (v := ?vq49) rfl (by kernel_rfl) (by kernel_rfl) (by kernel_rfl) (fun _ _ _ h => h) (Or.inl ⟨by rfl, ?hy49⟩) (by assumption) ?rest49
                case hy49 =>
                  first
                    | (intro w hSw; (try dsimp only at hSw); go_simp; done)
                    | (intro w hSw; (try dsimp only at hSw); go_simp; with_reducible rfl)
                try simp only [Act.put, List.setIfInBounds_toArray, List.set_cons_zero, List.set_cons_succ]
                refine wpAnyH_ready (rs := [19]) (by kernel_rfl) (by simp) ?_
                refine AllReadyH.cons (o := _) rfl (fun K hK => ?_) AllReadyH.nil
                go_simp
                refine hK.out _ _ ?_ (fun hHeld => ?_)
                · exact SKS.out _ _ s8
                clear hK K
                try simp only [Act.put, List.setIfInBounds_toArray, List.set_cons_zero, List.set_cons_succ]
                refine wpAnyH_done (by kernel_rfl) ?_ _
                have HT8 : Hid (TSt (w8.setCell ⟨w4.heap.size, 1, none⟩ (.slice (some ⟨g8, 0, none⟩) (D.length + 1) cap8)) w4.heap.size (.slice (some ⟨g9, 0, none⟩) (L.length + 1) cap9) (.slice (some ⟨g8, 0, none⟩) (D.length + 1) cap8) (NR A B (i + 1)) (((prs A B).map (ben E F)).take (i + 1)) (us ++ [.slice aq N3.length cq])) := by rw [HNL.out, HNE.out]; exact hT8
                have HB8 : Hid (Below w4.heap.size w4 (w8.setCell ⟨w4.heap.size, 1, none⟩ (.slice (some ⟨g8, 0, none⟩) (D.length + 1) cap8))) := HB7.out.trans ⟨hB8.os, hB8.tape, hB8.output, hB8.size, hB8.block⟩
                clear hown8 hgrow8 hat8 hT8 hB8 s8
                go_wp2
                go_roundw
                case rel => exact ⟨i + 1, _, _, _, by omega, by go_num, HT8, HB8⟩
                case measure => simp [intOf]; omega
      · have hke : i = n := by omega
        have hge : ¬ ((i : Int) < (n : Int)) := by omega
        have HEND : Hid (TSt wr w4.heap.size tv te RM RE us) := by
          have h := hT.out
          rw [hke, List.take_of_length_le (by rw [List.length_map, ← HN.out]; exact Nat.le_refl _)] at h
          show TSt _ _ _ _ _ _ _
          rw [hF.out.2.1, hF.out.2.2, ← HN.out]
          exact h
        obtain ⟨av, cv, hav⟩ := HEND.out.own.1.slice
        obtain ⟨ev, dv, hev⟩ := ERow.slice HEND.out.own.2.1
        subst hav hev
        have t0 := HEND.out.c0
        have t1 := HEND.out.c1
        have hTlb := HEND.out.lb
        obtain ⟨p0, p1, y0, y1⟩ := PV4.out
        have p0r := (hbw.out.cell (p := ⟨w.heap.size + 2, 0, none⟩) hl2).trans p0
        have p1r := (hbw.out.cell (p := ⟨w.heap.size + 2, 1, none⟩) hl2).trans p1
        have y0r := (hbw.out.frozen (p := ⟨w.heap.size + 2, 0, none⟩) hl2).trans y0
        have y1r := (hbw.out.frozen (p := ⟨w.heap.size + 2, 1, none⟩) hl2).trans y1
        have hs2 : w.heap.size ≤ w4.heap.size := hB4.size
        clear hT hke p0 p1 y0 y1
        go_wp2
        (try simp only [Exit.inBlock, Exit.then])
        refine bodyPost_ret (v := .tuple #[.agg #[.slice av RM.length cv, .slice ev RE.length dv], .bool true]) ?_ rfl ⟨⟨_, _, by rw [hF.out.1], us, ?_⟩, ?_⟩
        · rw [rc]
          go_simp
        · exact ((HEND.out.own.setCell (a := ⟨w.heap.size + 2, 0, none⟩) (by show w.heap.size + 2 < _; omega) _).setCell (a := ⟨w.heap.size + 2, 1, none⟩) (by show w.heap.size + 2 < _; omega) _).lower (by omega)
        · exact (hBr.setCell (by simp <;> omega) _).setCell (by simp <;> omega) _

end Go.Proofs.Ytecgjhnihagleaa
