/- The model's IsInstance, whole. -/
import Derived.Test.YtlmhjkcollohnaaInF
import Derived.Test.YtlmhjkcollohnaaVrD
import Derived.Deep.RegionHeld3
namespace Go.Proofs.Ytlmhjkcollohnaa
open Go.RowKit Plain Sch Trm

set_option maxRecDepth 100000 in
set_option maxHeartbeats 8000000 in
theorem matchC_step (e : Nat) (ih0 : ∀ e', e = e' + 1 → MatchC e') : MatchC e := by
  intro d a b aa la ca ab lb cb N H K w S s hA hS hB hok hst
  have ih : Hid (∀ e', e = e' + 1 → MatchC e') := ih0
  clear ih0
  obtain ⟨bv, bn, bks⟩ := b
  have hc := hok ⟨bv, bn, (bks.length : Int)⟩ (by simp [fl])
  by_cases hv : 0 < bv
  · obtain ⟨h1, h6, hn, hm⟩ := okCe_pos hc hv
    dsimp only at h1 h6 hn hm
    subst hn
    have hk : bks = [] := List.length_eq_zero_iff.1 (by omega)
    subst hk
    obtain ⟨m, rfl⟩ : ∃ m : Nat, bv = (m : Int) + 1 := ⟨(bv - 1).toNat, by omega⟩
    exact match_var d a m aa la ca ab lb cb N H K w S s (by omega) hA hS hst
  · have h0 := okCe_neg hc hv
    dsimp only at h0
    subst h0
    obtain ⟨av, an, aks⟩ := a
    obtain ⟨hla, hca⟩ := hA.len
    obtain ⟨hlb, hcb⟩ := hB.len
    replace hla : la = aks.length := hla
    replace hlb : lb = bks.length := hlb
    subst hla hlb
    have hca' : ca ≤ 9223372036854775807 := by unfold maxLen at hca; omega
    have hcb' : cb ≤ 9223372036854775807 := by unfold maxLen at hcb; omega
    have HA : Hid (TKids d w S (.slice aa aks.length ca) aks) := hA
    have HB : Hid (TKids e w S (.slice ab bks.length cb) bks) := hB
    have HS : Hid (∀ g, S g → g < N) := hS
    have HST : Hid (StM w N H K S s) := hst
    have HOK : Hid (∀ c ∈ fl (.mk 0 bn bks), okCe c = true) := hok
    obtain ⟨hNH, hNK, hHK, hHw, hKw, _⟩ := id hst
    have HF := mt2_fn (.mk av an aks) 0 bn bks s hv
    obtain ⟨O, hO⟩ : ∃ O, Hid (O = mt2 (.mk av an aks) (.mk 0 bn bks) s) := ⟨_, rfl⟩
    rw [← hO.out] at HF ⊢
    have HF : Hid (O = if av = 0 ∧ an = bn ∧ aks.length = bks.length then mtL aks bks s else none) := HF
    clear hA hB hS hst hok hc hv hO
    show Calls Try.prog 32 #[.agg #[.int .i64 av, .string an, .slice aa aks.length ca], .agg #[.int .i64 0, .string bn, .slice ab bks.length cb], .slice (some ⟨H, 0, none⟩) 6 6, .slice (some ⟨K, 0, none⟩) 6 6] w _
    obtain ⟨Q, hQ⟩ : ∃ Q, Hid (Q = MOut N H K S O w) := ⟨_, rfl⟩
    rw [← hQ.out]
    have hB2 : ∀ o1 o2, Below w.heap.size w ((w.alloc o1).alloc o2) := fun o1 o2 => ((Below.refl _ w).alloc (Nat.le_refl _) o1).alloc (by simp) o2
    have BAD : Hid (∀ w', O = none → Below w.heap.size w w' → Q (.returned (.bool false)) w') := fun w' h hb => by
      rw [hQ.out]
      exact ⟨by rw [h]; rfl, FrM.below hb (by omega), fun s' hs' => by rw [h] at hs'; cases hs'⟩
    by_cases hv : av = 0
    · subst hv
      by_cases hn : an = bn
      · subst hn
        by_cases hl : aks.length = bks.length
        · have HL : Hid (aks.length = bks.length) := hl
          have HO : Hid (O = mtL (aks.drop 0) (bks.drop 0) s) := by show _ = _; rw [HF.out, if_pos ⟨rfl, rfl, hl⟩]; rfl
          rw [← hl]
          clear hl HF BAD
          obtain ⟨W2, hW2⟩ : ∃ W, W = (w.alloc (.cells #[.int .i64 0, .string an, .slice aa aks.length ca] 48)).alloc (.cells #[.int .i64 0, .string an, .slice ab aks.length cb] 48) := ⟨_, rfl⟩
          have hBW : Below w.heap.size w W2 := by rw [hW2]; exact hB2 _ _
          have HS2 : Hid (W2.heap.size = w.heap.size + 2) := by show _ = _; rw [hW2]; simp
          have x0 : W2.cell? ⟨w.heap.size, 0, none⟩ = some (.int .i64 0) := by rw [hW2]; go_simp
          have x1 : W2.cell? ⟨w.heap.size, 1, none⟩ = some (.string an) := by rw [hW2]; go_simp
          have x2 : W2.cell? ⟨w.heap.size, 2, none⟩ = some (.slice aa aks.length ca) := by rw [hW2]; go_simp
          have y0 : W2.cell? ⟨w.heap.size + 1, 0, none⟩ = some (.int .i64 0) := by rw [hW2]; go_simp
          have y1 : W2.cell? ⟨w.heap.size + 1, 1, none⟩ = some (.string an) := by rw [hW2]; go_simp
          have y2 : W2.cell? ⟨w.heap.size + 1, 2, none⟩ = some (.slice ab aks.length cb) := by rw [hW2]; go_simp
          have HST2 : Hid (StM W2 N H K S s) := HST.out.kept hBW.size (hBW.block H hHw) (hBW.block K hKw) (fun g hg => hBW.block g (by have := HS.out g hg; omega))
          go_enter Try.func32, Try.ntmps32
          go_upto_region 1 with fail
          rw [← hW2]
          clear hW2
          go_wp2
          go_loopw [62] (fun vi wr => ∃ (i : Nat) (s' : Nat → Option TT), i ≤ aks.length ∧ vi = .int .i64 (i : Int) ∧ Hid (O = mtL (aks.drop i) (bks.drop i) s') ∧ Hid (StM wr N H K S s') ∧ Hid (FrM N H K W2 wr))
            (fun vi _ => aks.length - (intOf vi).toNat)
          case atStart => exact ⟨0, s, by omega, rfl, HO, HST2, FrM.refl _ _ _ _⟩
          case round =>
            obtain ⟨i, s', hi, rfl, hr, hst, hfr⟩ := hrel
            clear HO HST2
            have hfrw : Hid (FrM N H K w wr) := (FrM.below hBW (by omega)).trans hfr.out
            have hszr : Hid (w.heap.size + 2 ≤ wr.heap.size) := by show _ ≤ _; have := hfr.out.1.size; have := HS2.out; omega
            have hs2 : w.heap.size < W2.heap.size := by have := HS2.out; omega
            have hs3 : w.heap.size + 1 < W2.heap.size := by have := HS2.out; omega
            have x2 := (hfr.out.cell (g := w.heap.size) (o := 2) hs2 (by omega) (by omega)).trans x2
            have y2 := (hfr.out.cell (g := w.heap.size + 1) (o := 2) hs3 (by omega) (by omega)).trans y2
            have HSW : Hid (∀ W : World, FrM N H K w W → ∀ g, S g → W.heap[g]? = w.heap[g]?) := fun W hW g hg => hW.1.block g (HS.out g hg)
            by_cases hlt : i < aks.length
            · have hlt' : (i : Int) < (aks.length : Int) := by omega
              obtain ⟨t, ht⟩ : ∃ t, aks[i]? = some t := ⟨_, List.getElem?_eq_getElem hlt⟩
              obtain ⟨u, hu⟩ : ∃ u, bks[i]? = some u := ⟨_, List.getElem?_eq_getElem (by rw [← HL.out]; exact hlt)⟩
              obtain ⟨d', g, o, at_, lt, ct, hd', hao, hSg, hnc, hnd, hkt⟩ := HA.out.kid i t ht
              obtain ⟨e', g', o', au, lu, cu, he', hbo, hSg', hnc', hnd', hku⟩ := HB.out.kid i u hu
              rw [← HL.out] at hnc'
              subst hao hbo
              obtain ⟨c0, c1, c2⟩ := hnd.kept (HSW.out wr hfrw.out g hSg)
              obtain ⟨d0, d1, d2⟩ := hnd'.kept (HSW.out wr hfrw.out g' hSg')
              have hg : g < wr.heap.size := by have := HS.out g hSg; have := hszr.out; omega
              have hg' : g' < wr.heap.size := by have := HS.out g' hSg'; have := hszr.out; omega
              have hku2 := fl_kid (x := .mk 0 an bks) (i := i) hu
              have hstep : Hid (O = (mt2 t u s').bind fun s'' => mtL (aks.drop (i + 1)) (bks.drop (i + 1)) s'') := by
                show _ = _
                have h1 : aks.drop i = t :: aks.drop (i + 1) := by
                  rw [List.drop_eq_getElem_cons hlt]
                  rw [List.getElem?_eq_getElem hlt] at ht
                  cases ht
                  rfl
                have hlt2 : i < bks.length := by rw [← HL.out]; exact hlt
                have h2 : bks.drop i = u :: bks.drop (i + 1) := by
                  rw [List.drop_eq_getElem_cons hlt2]
                  rw [List.getElem?_eq_getElem hlt2] at hu
                  cases hu
                  rfl
                rw [hr.out, h1, h2, mtL_cons]
              have HC : Hid (Calls Try.prog 32 #[.agg #[.int .i64 t.v, .string t.name, .slice at_ lt ct], .agg #[.int .i64 u.v, .string u.name, .slice au lu cu], .slice (some ⟨H, 0, none⟩) 6 6, .slice (some ⟨K, 0, none⟩) 6 6] wr.drew (MOut N H K S (mt2 t u s') wr.drew)) := by
                refine ih.out e' he' d' t u at_ lt ct au lu cu N H K wr.drew S s' (hkt.kept (w' := wr.drew) (fun g hg => HSW.out wr hfrw.out g hg) (fun g hg => hg)) HS.out (hku.kept (w' := wr.drew) (fun g hg => HSW.out wr hfrw.out g hg) (fun g hg => hg)) (fun c hc => HOK.out c (hku2 c hc)) (hst.out.kept (w' := wr.drew) (Nat.le_refl _) rfl rfl (fun _ _ => rfl))
              clear hnd hnd' hkt hku ht hu hr hku2
              obtain ⟨P, hP⟩ : ∃ P, Hid (P = mt2 t u s') := ⟨_, rfl⟩
              rw [← hP.out] at HC hstep
              clear hP
              obtain ⟨pb, hpb⟩ : ∃ b, Hid (b = P.isSome) := ⟨_, rfl⟩
              replace HC : Hid (Calls Try.prog 32 #[.agg #[.int .i64 t.v, .string t.name, .slice at_ lt ct], .agg #[.int .i64 u.v, .string u.name, .slice au lu cu], .slice (some ⟨H, 0, none⟩) 6 6, .slice (some ⟨K, 0, none⟩) 6 6] wr.drew fun r w' => r = .returned (.bool pb) ∧ FrM N H K wr.drew w' ∧ ∀ s', P = some s' → StM w' N H K S s') := by
                rw [hpb.out]
                exact HC
              go_wp2_with fail
              go_region_with (go_at_call 32; refine HC.out.mono ?_; rintro e w2 ⟨rfl, hfr2, hst2⟩; have hfr2 : Hid (FrM N H K wr w2) := ⟨⟨hfr2.1.os, hfr2.1.tape, hfr2.1.output, hfr2.1.size, hfr2.1.block⟩, hfr2.2⟩; have hst2 : Hid (∀ s', P = some s' → StM w2 N H K S s') := hst2)
              all_goals
                cases pb with
                | true =>
                  obtain ⟨s2, hs2'⟩ : ∃ s2, P = some s2 := Option.isSome_iff_exists.1 hpb.out.symm
                  subst hs2'
                  have hstep2 : Hid (O = mtL (aks.drop (i + 1)) (bks.drop (i + 1)) s2) := hstep.out
                  have hst3 : Hid (StM w2 N H K S s2) := hst2.out s2 rfl
                  have hfr3 : Hid (FrM N H K W2 w2) := hfr.out.trans hfr2.out
                  clear hstep c0 c1 c2 d0 d1 d2 hst2 hst hfr hfr2 hfrw
                  go_wp2
                  go_roundw
                  case rel => exact ⟨i + 1, s2, by omega, by go_num, hstep2, hst3, hfr3⟩
                  case measure => simp [intOf]; omega
                | false =>
                  have hP0 : P = none := by
                    have := hpb.out
                    cases P with
                    | none => rfl
                    | some _ => cases this
                  subst hP0
                  have hn : Hid (O = none) := hstep.out
                  clear hstep c0 c1 c2 d0 d1 d2
                  go_wp2
                  (try go_ret)
                  rw [hQ.out]
                  exact ⟨by rw [hn.out]; rfl, hfrw.out.trans hfr2.out, fun s' hs' => by rw [hn.out] at hs'; cases hs'⟩
            · have hke : i = aks.length := by omega
              have hn : Hid (O = some s') := by
                show _ = _
                rw [hr.out, hke, List.drop_length, HL.out, List.drop_length, mtL]
              subst hke
              have hge : ¬ ((aks.length : Int) < (aks.length : Int)) := by omega
              clear hr
              go_wp2
              (try go_ret)
              rw [hQ.out]
              exact ⟨by rw [hn.out]; rfl, hfrw.out, fun s'' hs' => by rw [hn.out] at hs'; cases hs'; exact hst.out⟩
        · have hn : Hid (O = none) := by show _ = _; rw [HF.out, if_neg (fun h => hl h.2.2)]
          have hl' : ((aks.length : Int) == (bks.length : Int)) = false := by simp; omega
          have hln : (aks.length == bks.length) = false := by simpa using hl
          clear HF hl
          go_enter Try.func32, Try.ntmps32
          go_wp2
          (try go_ret)
          exact BAD.out _ hn.out (hB2 _ _)
      · have hn' : (an.toList == bn.toList) = false := str_neB hn
        have hn2 : Hid (O = none) := by show _ = _; rw [HF.out, if_neg (fun h => hn h.2.1)]
        clear HF hn
        go_enter Try.func32, Try.ntmps32
        go_wp2
        (try go_ret)
        exact BAD.out _ hn2.out (hB2 _ _)
    · have hv' : (av == 0) = false := by simpa using hv
      have hv2 : (av != 0) = true := by simpa using hv
      have hn2 : Hid (O = none) := by show _ = _; rw [HF.out, if_neg (fun h => hv h.1)]
      clear HF hv
      go_enter Try.func32, Try.ntmps32
      go_wp2
      (try go_ret)
      exact BAD.out _ hn2.out (hB2 _ _)

theorem matchC_all : ∀ e, MatchC e := by
  intro e
  induction e with
  | zero => exact matchC_step 0 (fun d' h => by omega)
  | succ e ih => exact matchC_step (e + 1) (fun d' h => by obtain rfl : e = d' := by omega
                                                           exact ih)

end Go.Proofs.Ytlmhjkcollohnaa
