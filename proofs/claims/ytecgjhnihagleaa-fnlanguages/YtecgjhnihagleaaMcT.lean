/- TurnMachine, the program's and the model's. -/
import Derived.Test.YtecgjhnihagleaaXf
namespace Go.Proofs.Ytecgjhnihagleaa
open Go.RowKit Plain Mch

def Mch.tuM (M : List (List Int)) (E : List Bool) : List (List Int) := if gm M E then M else []
def Mch.tuE (M : List (List Int)) (E : List Bool) : List Bool := if gm M E then E.map (!·) else []

theorem tu_len (M : List (List Int)) (E : List Bool) : (tuM M E).length ≤ 12 ∧ (tuE M E).length ≤ 12 ∧ ∀ i, i < (tuM M E).length → (rx (tuM M E) i).length ≤ 3 := by
  unfold tuM tuE
  cases hg : gm M E with
  | false => exact ⟨by simp, by simp, fun i hi => by simp at hi⟩
  | true =>
    have h := (gm_iff.1 hg)
    refine ⟨h.1.2.1, by simp; omega, fun i hi => ?_⟩
    simp only [if_true] at hi ⊢
    have := (okR_iff.1 (h.2 i hi)).1
    omega

theorem take_snoc {α : Type} {l : List α} {i : Nat} {x : α} (h : l[i]? = some x) : l.take (i + 1) = l.take i ++ [x] := by
  rw [List.take_add_one, h]
  rfl

theorem rx_at {M : List (List Int)} {i : Nat} (h : i < M.length) : M[i]? = some (rx M i) := by
  unfold rx
  rw [List.getD, List.getElem?_eq_getElem h]
  rfl

theorem results_cell_tmpM2 {fn : Func} {p u : Tmp} {ty : TypeId} (h : fn.results = #[.cell p ty, .tmp u]) (tmps : Array Value) (P : Program) (w : World) :
    (results fn tmps).run P w =
      ((asAddr (tmps.getD p undef)).run P w).andThen fun a w₁ => ((loadVar ty a).run P w₁).andThen fun x w₂ => .ok (.tuple #[x, tmps.getD u undef]) w₂ := results_cell_tmpM h tmps P w

set_option maxRecDepth 100000 in
set_option maxHeartbeats 8000000 in
theorem implTurn (M : List (List Int)) (E : List Bool) (v e : Value) (w : World) (hM : MAt w w.heap.size v M) (hE : EAt w w.heap.size e E) :
    Calls Try.prog 22 #[.agg #[v, e]] w fun x w' => (∃ r q, x = .returned (.tuple #[.agg #[r, q], .bool (gm M E)]) ∧ ∃ us, MaOwn w' w.heap.size r q (tuM M E) (tuE M E) us) ∧ Below w.heap.size w w' := by
  obtain ⟨i0, hi, hz0, hz1, hz2⟩ := info_parts Try.infoZs
  obtain ⟨j0, hj, jz0, jz1, jz2⟩ := info_parts Try.infoBo
  have HM : Hid (MAt w w.heap.size v M) := hM
  have HE : Hid (EAt w w.heap.size e E) := hE
  obtain ⟨ao, cap, rfl, hlc, hcm, _⟩ := hM
  obtain ⟨ae, cape, rfl, hlc2, hcm2, _⟩ := hE
  unfold maxLen at hcm hcm2
  have rc := fun (tmps : Array Value) (P : Program) (w : World) => results_cell_tmpM2 (fn := Try.f22) (p := 2) (u := 3) (ty := 30) rfl tmps P w
  obtain ⟨W1, hW1⟩ : ∃ W, W = (w.alloc (.cells #[.slice ao M.length cap, .slice ae E.length cape] 30)).alloc (.cells #[.slice none 0 0, .slice none 0 0] 30) := ⟨_, rfl⟩
  have hB1 : Below w.heap.size w W1 := by rw [hW1]; exact ((Below.refl _ w).alloc (Nat.le_refl _) _).alloc (by simp) _
  have q0 : W1.cell? ⟨w.heap.size, 0, none⟩ = some (.slice ao M.length cap) := by rw [hW1]; go_simp
  have q1 : W1.cell? ⟨w.heap.size, 1, none⟩ = some (.slice ae E.length cape) := by rw [hW1]; go_simp
  have p0 : W1.cell? ⟨w.heap.size + 1, 0, none⟩ = some (.slice none 0 0) := by rw [hW1]; go_simp
  have p1 : W1.cell? ⟨w.heap.size + 1, 1, none⟩ = some (.slice none 0 0) := by rw [hW1]; go_simp
  have y0 : W1.frozen? ⟨w.heap.size + 1, 0, none⟩ = false := by rw [hW1]; go_simp
  have y1 : W1.frozen? ⟨w.heap.size + 1, 1, none⟩ = false := by rw [hW1]; go_simp
  have hl1 : w.heap.size + 1 < W1.heap.size := by rw [hW1]; simp
  have hl1b : w.heap.size < W1.heap.size := by omega
  obtain ⟨G, hG⟩ : ∃ G, G = gm M E := ⟨_, rfl⟩
  obtain ⟨RM, hRM⟩ : ∃ R, R = tuM M E := ⟨_, rfl⟩
  obtain ⟨RE, hRE⟩ : ∃ R, R = tuE M E := ⟨_, rfl⟩
  have HG : Hid (G = gm M E) := hG
  have HRM : Hid (RM = tuM M E) := hRM
  have HRE : Hid (RE = tuE M E) := hRE
  rw [← hG, ← hRM, ← hRE]
  clear hG hRM hRE
  go_enter Try.func22, Try.ntmps22
  go_wp2_with fail
  rw [← hW1]
  clear hW1
  refine (implGoodM M E _ _ _ (HM.out.below hB1) (HE.out.below hB1)).mono ?_
  rintro x w2 ⟨rfl, hb2⟩
  replace q0 := (hb2.cell (p := ⟨w.heap.size, 0, none⟩) hl1b).trans q0
  replace q1 := (hb2.cell (p := ⟨w.heap.size, 1, none⟩) hl1b).trans q1
  replace p0 := (hb2.cell (p := ⟨w.heap.size + 1, 0, none⟩) hl1).trans p0
  replace p1 := (hb2.cell (p := ⟨w.heap.size + 1, 1, none⟩) hl1).trans p1
  replace y0 := (hb2.frozen (p := ⟨w.heap.size + 1, 0, none⟩) hl1).trans y0
  replace y1 := (hb2.frozen (p := ⟨w.heap.size + 1, 1, none⟩) hl1).trans y1
  have hB2 : Below w.heap.size w w2 := hB1.trans (hb2.mono hB1.size)
  have hl2 : w.heap.size + 1 < w2.heap.size := by have := hb2.size; omega
  have q1w := q1
  clear hb2 hB1 hl1 hl1b
  cases hg : gm M E with
  | false =>
    have hF : Hid (G = false ∧ RM = [] ∧ RE = []) := ⟨HG.out.trans hg, by rw [HRM.out]; unfold tuM; rw [hg]; rfl, by rw [HRE.out]; unfold tuE; rw [hg]; rfl⟩
    clear hg
    go_wp2
    (try simp only [Exit.inBlock, Exit.then])
    refine bodyPost_ret (v := .tuple #[.agg #[.slice none 0 0, .slice none 0 0], .bool false]) ?_ rfl ⟨⟨_, _, by rw [hF.out.1], [], by rw [hF.out.2.1, hF.out.2.2]; exact MaOwn.nil _ _⟩, ?_⟩
    · rw [rc]
      go_simp
    · exact (hB2.setCell (by simp) _).setCell (by simp) _
  | true =>
  have HGT : Hid (gm M E = true) := hg
  have hF : Hid (G = true ∧ RM = M ∧ RE = E.map (!·)) := ⟨HG.out.trans hg, by rw [HRM.out]; unfold tuM; rw [hg]; rfl, by rw [HRE.out]; unfold tuE; rw [hg]; rfl⟩
  clear hg HG HRM HRE
  obtain ⟨W3, hW3⟩ : ∃ W, W = w2.alloc (.cells #[.slice none 0 0, .slice none 0 0] 30) := ⟨_, rfl⟩
  have hb3 : Below w2.heap.size w2 W3 := by rw [hW3]; exact (Below.refl _ w2).alloc (Nat.le_refl _) _
  have HT3 : Hid (TSt W3 w2.heap.size (.slice none 0 0) (.slice none 0 0) [] [] []) := by
    refine ⟨by rw [hW3]; simp, by rw [hW3]; go_simp, by rw [hW3]; go_simp, by rw [hW3]; go_simp, by rw [hW3]; go_simp, MaOwn.nil _ _⟩
  replace q0 := (hb3.cell (p := ⟨w.heap.size, 0, none⟩) (by show w.heap.size < _; omega)).trans q0
  replace q1 := (hb3.cell (p := ⟨w.heap.size, 1, none⟩) (by show w.heap.size < _; omega)).trans q1
  have hB3 : Below w.heap.size w W3 := hB2.trans (hb3.mono hB2.size)
  have QE1 : Hid (w2.cell? ⟨w.heap.size, 1, none⟩ = some (.slice ae E.length cape)) := q1w
  go_upto_region 4 with fail
  rw [← hW3]
  clear hW3
  go_wp2
  go_loopw [14] (fun vi wr => ∃ (i : Nat) (tv te : Value) (us : List Value), i ≤ M.length ∧ vi = .int .i64 (i : Int) ∧ Hid (TSt wr w2.heap.size tv te (M.take i) ((E.take i).map (!·)) us) ∧ Hid (Below w2.heap.size w2 wr))
    (fun vi _ => M.length - (intOf vi).toNat)
  case atStart => exact ⟨0, _, _, _, by omega, rfl, HT3, hb3⟩
  case round =>
    obtain ⟨i, tv, te, us, hi', rfl, hT, hbw⟩ := hrel
    have hLE : E.length = M.length := (gm_iff.1 HGT.out).1.2.2
    have HLE : Hid (E.length = M.length) := hLE
    clear hLE
    have hM12 : M.length ≤ 12 := (gm_iff.1 HGT.out).1.2.1
    have hBr : Below w.heap.size w wr := hB2.trans (hbw.out.mono hB2.size)
    clear q0 q1 HT3
    by_cases hlt : i < M.length
    · have hlt' : (i : Int) < (M.length : Int) := by omega
      have hltE : (i : Int) < (E.length : Int) := by have := HLE.out; omega
      obtain ⟨a', c', hv', _, _, hrow⟩ := HM.out.below hBr
      simp only [Value.slice.injEq, true_and] at hv'
      obtain ⟨rfl, rfl⟩ := hv'
      obtain ⟨g, o, u, rfl, hg, hc, hs⟩ := hrow i hlt
      have HS : Hid (ZAt wr wr.heap.size u (rx M i)) := hs
      obtain ⟨su, cu, rfl, hlu, hcu, _⟩ := hs
      clear hrow
      have k3 : (rx M i).length = 3 := (okR_iff.1 ((gm_iff.1 HGT.out).2 i hlt)).1
      have K3 : Hid ((rx M i).length = 3) := k3
      have hTK : (M.take i).length = i := by rw [List.length_take]; omega
      have hEK : ((E.take i).map (!·)).length = i := by rw [List.length_map, List.length_take]; have := HLE.out; omega
      obtain ⟨L, hL⟩ : ∃ L, L = M.take i := ⟨_, rfl⟩
      obtain ⟨F, hF'⟩ : ∃ F, F = (E.take i).map (!·) := ⟨_, rfl⟩
      rw [← hL] at hTK
      rw [← hF'] at hEK
      have HTL : Hid (L.length = i) := hTK
      have HFL : Hid (F.length = i) := hEK
      have hT' : TSt wr w2.heap.size tv te L F us := by rw [hL, hF']; exact hT.out
      have HNL : Hid (M.take (i + 1) = L ++ [rx M i]) := by show _ = _; rw [take_snoc (rx_at hlt), hL]
      have HNF : Hid ((E.take (i + 1)).map (!·) = F ++ [!(en E i)]) := by show _ = _; rw [take_snoc (en_at (by have := HLE.out; omega)), List.map_append, hF']; rfl
      obtain ⟨av, cv, hav⟩ := hT'.own.1.slice
      obtain ⟨ev, dv, hev⟩ := ERow.slice hT'.own.2.1
      subst hav hev
      have HT : Hid (TSt wr w2.heap.size (.slice av L.length cv) (.slice ev F.length dv) L F us) := hT'
      have t0 := hT'.c0
      have t0d : wr.drew.cell? ⟨w2.heap.size, 0, none⟩ = some (.slice av L.length cv) := t0
      have hlL : L.length ≤ 12 := by omega
      have hlF : F.length ≤ 12 := by omega
      have hTlb := hT'.lb
      have CL : Hid (∀ W, Below wr.heap.size wr W → Calls Try.prog 58 #[.slice su (rx M i).length cu] W fun e w' => ∃ r, e = .returned r ∧ ZRow w' W.heap.size r (rx M i) ∧ Below W.heap.size W w') := fun W hW => cloneZ_any (rx M i) _ W (HS.out.below hW) (by have := K3.out; omega) (by have := K3.out; omega)
      clear hTK hEK hL hF' hT' hT k3 HS
      go_upto_region 7 with fail
      go_region_law
        (first
          | (go_simp; go_at_call 58; refine (CL.out _ ((Below.refl _ wr).drew)).mono ?_; rintro e w5 ⟨r5, rfl, hr5, hb5⟩; obtain ⟨a5, c5, hs5⟩ := ZRow.slice hr5; subst hs5; have hT5 : TSt w5 w2.heap.size (.slice av L.length cv) (.slice ev F.length dv) L F us := HT.out.drew.below hb5; have t5 := hT5.c0; have t5a := fun o => (hT5.below ((Below.refl _ w5).alloc (Nat.le_refl _) o)).c0; have hs5 : w2.heap.size + 1 ≤ w5.heap.size := hT5.lb)
          | (refine step_append_lies _ (by rfl) _ _ _ (by rfl) (w2.heap.size + 1) 27 i0 (.slice none 0 0) 1 24 Try.underlying22 hi hz0 hz1 hz2 rfl (by decide) _ L.length _ (by rfl) (World.ownsRow.alloc hT5.own.1.1 _) ⟨w5.heap.size, 0, none⟩ 1 1 [.slice a5 (rx M i).length c5] (by rfl) rfl (World.news_of_block (heap_alloc_new w5 _)) (one1M _ _ _) (by omega) (by unfold maxLen; omega) (by omega) (by simp; omega) (w5.heap.size + 1) (by simp) ?_; intro g9 cap9 w9 hown9 hgrow9 hat9 hlt9; obtain ⟨⟨q9, f9, k9⟩, hT9, hB9⟩ := HT.out.drew.next hb5 hr5 hown9 hgrow9 hat9))
      all_goals
        replace hB9 : Below w2.heap.size wr (w9.setCell ⟨w2.heap.size, 0, none⟩ (.slice (some ⟨g9, 0, none⟩) (L.length + 1) cap9)) := ⟨hB9.os, hB9.tape, hB9.output, hB9.size, hB9.block⟩
        have hBe : Below w.heap.size w (w9.setCell ⟨w2.heap.size, 0, none⟩ (.slice (some ⟨g9, 0, none⟩) (L.length + 1) cap9)) := (hB2.trans (hbw.out.mono hB2.size)).trans (hB9.mono hB2.size)
        have HBE : Hid (Below w2.heap.size w2 (w9.setCell ⟨w2.heap.size, 0, none⟩ (.slice (some ⟨g9, 0, none⟩) (L.length + 1) cap9))) := hbw.out.trans hB9
        have QE : Hid (∀ W, Below w2.heap.size w2 W → W.cell? ⟨w.heap.size, 1, none⟩ = some (.slice ae E.length cape)) := fun W hW => (hW.cell (p := ⟨w.heap.size, 1, none⟩) (by show w.heap.size < _; omega)).trans QE1.out
        obtain ⟨W6, hW6⟩ : ∃ W, W = w9.setCell ⟨w2.heap.size, 0, none⟩ (.slice (some ⟨g9, 0, none⟩) (L.length + 1) cap9) := ⟨_, rfl⟩
        rw [← hW6] at hT9 hBe HBE
        have q6 := QE.out _ HBE.out
        have q6d : W6.drew.cell? ⟨w.heap.size, 1, none⟩ = some (.slice ae E.length cape) := q6
        obtain ⟨ge, oe, hae, hge, hce⟩ := (HE.out.below hBe).to (i := i) (by have := HLE.out; omega)
        subst hae
        have t6 := hT9.c1
        have t6d : W6.drew.cell? ⟨w2.heap.size, 1, none⟩ = some (.slice ev F.length dv) := t6
        have hce_d : W6.drew.cell? ⟨ge, oe + i, none⟩ = some (.bool (en E i)) := hce
        have HT6 : Hid (TSt W6.drew w2.heap.size (.slice (some ⟨g9, 0, none⟩) (L.length + 1) cap9) (.slice ev F.length dv) (L ++ [rx M i]) F (us ++ [.slice a5 (rx M i).length c5])) := hT9.drew
        have t6a : ∀ o, (W6.alloc o).cell? ⟨w2.heap.size, 1, none⟩ = some (.slice ev F.length dv) := fun o => (hT9.below ((Below.refl _ W6).alloc (Nat.le_refl _) o)).c1
        have hs6 : w2.heap.size + 1 ≤ W6.heap.size := hT9.lb
        clear hT9 hown9 hgrow9 hat9 hlt9 hT5 t5 t5a hr5 hb5 hs5 q9 f9 k9 hB9 t0 t0d CL
        go_upto_region 8 with fail
        rw [← hW6]
        clear hW6
        go_region_law
          (refine step_append_lies _ (by rfl) _ _ _ (by rfl) (w2.heap.size + 1) 4 j0 (.bool false) 1 1 Try.underlying23 hj jz0 jz1 jz2 rfl (by decide) _ F.length _ (by rfl) (World.ownsRow.alloc HT6.out.own.2.1 _) ⟨W6.heap.size, 0, none⟩ 1 1 [.bool (!(en E i))] (by rfl) rfl (World.news_of_block (heap_alloc_new W6.drew _)) (onebM _) (by omega) (by unfold maxLen; omega) (by omega) (by simp; omega) (W6.heap.size + 1) (by simp) ?_; intro g8 cap8 w8 hown8 hgrow8 hat8 hlt8; obtain ⟨⟨q8, f8, k8⟩, hT8, hB8⟩ := HT6.out.ends hown8 hgrow8 hat8)
        all_goals
          have HT8 : Hid (TSt (w8.setCell ⟨w2.heap.size, 1, none⟩ (.slice (some ⟨g8, 0, none⟩) (F.length + 1) cap8)) w2.heap.size (.slice (some ⟨g9, 0, none⟩) (L.length + 1) cap9) (.slice (some ⟨g8, 0, none⟩) (F.length + 1) cap8) (M.take (i + 1)) ((E.take (i + 1)).map (!·)) (us ++ [.slice a5 (rx M i).length c5])) := by rw [HNL.out, HNF.out]; exact hT8
          have HB8 : Hid (Below w2.heap.size w2 (w8.setCell ⟨w2.heap.size, 1, none⟩ (.slice (some ⟨g8, 0, none⟩) (F.length + 1) cap8))) := HBE.out.trans ⟨hB8.os, hB8.tape, hB8.output, hB8.size, hB8.block⟩
          clear hT8 hB8 hown8 hgrow8 hat8 hlt8 HT6 t6 t6d t6a q6 q6d hce hce_d QE HBE
          go_wp2
          go_roundw
          case rel => exact ⟨i + 1, _, _, _, by omega, by go_num, HT8, HB8⟩
          case measure => simp [intOf]; omega
    · have hke : i = M.length := by omega
      have hge : ¬ ((i : Int) < (M.length : Int)) := by omega
      have HEND : Hid (TSt wr w2.heap.size tv te RM RE us) := by
        have h := hT.out
        rw [hke, List.take_length, ← HLE.out, List.take_length] at h
        show TSt _ _ _ _ _ _ _
        rw [hF.out.2.1, hF.out.2.2]
        exact h
      obtain ⟨av, cv, hav⟩ := HEND.out.own.1.slice
      obtain ⟨ev, dv, hev⟩ := ERow.slice HEND.out.own.2.1
      subst hav hev
      have t0 := HEND.out.c0
      have t1 := HEND.out.c1
      have hTlb := HEND.out.lb
      have p0r := (hbw.out.cell (p := ⟨w.heap.size + 1, 0, none⟩) hl2).trans p0
      have p1r := (hbw.out.cell (p := ⟨w.heap.size + 1, 1, none⟩) hl2).trans p1
      have y0r := (hbw.out.frozen (p := ⟨w.heap.size + 1, 0, none⟩) hl2).trans y0
      have y1r := (hbw.out.frozen (p := ⟨w.heap.size + 1, 1, none⟩) hl2).trans y1
      have hs2 : w.heap.size ≤ w2.heap.size := hB2.size
      clear hT hke p0 p1 y0 y1
      go_wp2
      (try simp only [Exit.inBlock, Exit.then])
      refine bodyPost_ret (v := .tuple #[.agg #[.slice av RM.length cv, .slice ev RE.length dv], .bool true]) ?_ rfl ⟨⟨_, _, by rw [hF.out.1], us, ?_⟩, ?_⟩
      · rw [rc]
        go_simp
      · exact ((HEND.out.own.setCell (a := ⟨w.heap.size + 1, 0, none⟩) (by show w.heap.size + 1 < _; omega) _).setCell (a := ⟨w.heap.size + 1, 1, none⟩) (by show w.heap.size + 1 < _; omega) _).lower (by omega)
      · exact (hBr.setCell (by simp) _).setCell (by simp) _

end Go.Proofs.Ytecgjhnihagleaa
