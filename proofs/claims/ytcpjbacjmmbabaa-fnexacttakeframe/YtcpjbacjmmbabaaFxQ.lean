/- The first text taken: the program's TakeFrame. -/
import Derived.Test.YtcpjbacjmmbabaaFxS
namespace Go.Proofs.Ytcpjbacjmmbabaa
open Go.RowKit Plain Tpc Frm
attribute [local go_sem ↓] Go.wp_at_zero Go.wp_at_succ

theorem Hid.intro5 {v : Value} {B n b : Nat} (h : ∀ g, v.ownBlock = some g → B ≤ g ∧ g < n) (hb : b < B) : Hid (∀ g, v.ownBlock = some g → g ≠ b) := fun g hg => by have := (h g hg).1; omega
theorem Hid.intro6 {v : Value} {b : Nat} (h : ∀ g, v.ownBlock = some g → g < b) : Hid (∀ g, v.ownBlock = some g → g ≠ b) := fun g hg => by have := h g hg; omega

set_option maxRecDepth 100000 in
set_option maxHeartbeats 16000000 in
theorem implTake (r : Rdr) (v : Value) (w : World) (hT : StAt w w.heap.size v r.got) (hN : ∀ i, i < r.got.length → (lq r.got i).size ≤ 9223372036854775807) (hR : r.rest.size ≤ 2000000) :
    Calls Try.prog 34 #[r.val v] w fun e w' => TfO w w' e r := by
  have rc := fun (tmps : Array Value) (P : Program) (w : World) => results_cell2F (fn := Try.f34) (p := 2) (u := 3) (v := 4) (ty := 33) rfl tmps P w
  have HNO : Hid (tfK r = false → ∀ w', Below w.heap.size w w' → TfO w w' (.returned (.tuple #[.agg #[.string ⟨#[]⟩, .slice none 0 0, .bool false], .string ⟨#[]⟩, .bool false])) r) := fun h w' hb => TfO.no h hb
  have HYES : Hid (tfK r = true → ∀ w' v, StRow w' w.heap.size v (r.got.drop 1) → Below w.heap.size w w' → TfO w w' (.returned (.tuple #[.agg #[.string r.rest, v, .bool r.bad], .string (lq r.got 0), .bool true])) r) := fun h w' v hr hb => TfO.yes h hr hb
  have HGP : Hid (gdr r = true → r.got.length ≤ 40 ∧ ∀ i, i < r.got.length → (lq r.got i).size ≤ 60) := fun h => ⟨(gdr_parts h).1, (gdr_parts h).2.1⟩
  have hK : Hid (tfK r = (gdr r && decide (0 < r.got.length))) := rfl
  obtain ⟨W0, hW0⟩ : ∃ W, W = (w.alloc (.cells #[.string r.rest, v, .bool r.bad] 33)).alloc (.cells #[.string ⟨#[]⟩, .slice none 0 0, .bool false] 33) := ⟨_, rfl⟩
  have hB0 : Below w.heap.size w W0 := by rw [hW0]; exact ((Below.refl _ w).alloc (Nat.le_refl _) _).alloc (by simp) _
  have hb1 := Rv.fresh w (.string r.rest) v (.bool r.bad) 33
  have V1 : Rv W0 w.heap.size (.string r.rest) v (.bool r.bad) := by rw [hW0]; exact hb1.below ((Below.refl _ _).alloc (Nat.le_refl _) _)
  have V2 : Rv W0 (w.heap.size + 1) (.string ⟨#[]⟩) (.slice none 0 0) (.bool false) := by
    have h := Rv.fresh (w.alloc (.cells #[.string r.rest, v, .bool r.bad] 33)) (.string ⟨#[]⟩) (.slice none 0 0) (.bool false) 33
    rw [hW0]
    simpa using h
  have CG : Hid (Calls Try.prog 30 #[r.val v] W0 fun e w' => e = .returned (.bool (gdr r)) ∧ Below W0.heap.size W0 w') := implGood r v W0 (hT.below hB0) hN (by unfold maxLen; omega)
  have hTT := hT
  obtain ⟨ao, cap, rfl, hlc, hcm, hrow⟩ := hT
  unfold maxLen at hcm
  have HB0 : Hid (Below w.heap.size w W0) := hB0
  have HT : Hid (StAt w w.heap.size (.slice ao r.got.length cap) r.got) := hTT
  unfold Rdr.val at CG ⊢
  obtain ⟨q, L, bad⟩ := r
  dsimp only at *
  have HV1 : Hid (Rv W0 w.heap.size (.string q) (.slice ao L.length cap) (.bool bad)) := V1
  have HV2 : Hid (Rv W0 (w.heap.size + 1) (.string ⟨#[]⟩) (.slice none 0 0) (.bool false)) := V2
  have y0 := V1.c0
  have y1 := V1.c1
  have y2 := V1.c2
  clear hTT hrow hN V1 V2 hb1 hB0
  generalize gdr ⟨q, L, bad⟩ = gd at CG hK HGP
  generalize tfK ⟨q, L, bad⟩ = K at HNO HYES hK
  go_enter Try.func34, Try.ntmps34
  go_upto_region 1 with fail
  rw [← hW0]
  clear hW0
  go_wp2_with fail
  go_at_call 30
  refine CG.out.mono ?_
  rintro e w2 ⟨rfl, hb2⟩
  have HB2 : Hid (Below w.heap.size w w2) := HB0.out.trans (hb2.mono HB0.out.size)
  have V1 := HV1.out.below hb2
  have V2 := HV2.out.below hb2
  have hs2 := HB2.out.size
  clear y0 y1 y2 CG hb2 HB0 HV1 HV2
  have y0 := V1.c0
  have y1 := V1.c1
  have y2 := V1.c2
  have x0 := V2.c0
  have x1 := V2.c1
  have x2 := V2.c2
  have u0 := V2.f0
  have u1 := V2.f1
  have u2 := V2.f2
  cases gd with
  | false =>
    have hF := HNO.out hK.out
    have HF : Hid (type_of% hF) := hF
    clear hF HNO HYES hK
    go_wp2_with fail
    (try simp only [Exit.inBlock, Exit.then])
    refine bodyPost_ret (v := .tuple #[.agg #[.string ⟨#[]⟩, .slice none 0 0, .bool false], .string ⟨#[]⟩, .bool false]) ?_ rfl (HF.out _ ?_)
    · rw [rc]
      go_simp
    · exact ((HB2.out.setCell (p := ⟨w.heap.size + 1, 0, none⟩) (by simp) _).setCell (p := ⟨w.heap.size + 1, 1, none⟩) (by simp) _).setCell (p := ⟨w.heap.size + 1, 2, none⟩) (by simp) _
  | true =>
    by_cases h0 : L.length = 0
    · have hF := HNO.out (by rw [hK.out, h0]; rfl)
      have HF : Hid (type_of% hF) := hF
      have h0I : (L.length : Int) = 0 := by omega
      clear hF HNO HYES hK
      go_wp2_with fail
      (try simp only [Exit.inBlock, Exit.then])
      refine bodyPost_ret (v := .tuple #[.agg #[.string ⟨#[]⟩, .slice none 0 0, .bool false], .string ⟨#[]⟩, .bool false]) ?_ rfl (HF.out _ ?_)
      · rw [rc]
        go_simp
      · exact ((HB2.out.setCell (p := ⟨w.heap.size + 1, 0, none⟩) (by simp) _).setCell (p := ⟨w.heap.size + 1, 1, none⟩) (by simp) _).setCell (p := ⟨w.heap.size + 1, 2, none⟩) (by simp) _
    · have hY := HYES.out (by rw [hK.out]; simp; omega)
      have HY : Hid (type_of% hY) := hY
      have hE0 : ((L.length : Int) == 0) = false := by simpa using h0
      clear hY HNO HYES hK
      obtain ⟨g, o, rfl, hg, c0⟩ : ∃ g o, ao = some ⟨g, o, none⟩ ∧ g < w.heap.size ∧ w.cell? ⟨g, o, none⟩ = some (.string (lq L 0)) := by
        obtain ⟨a', c', hv, _, _, hr⟩ := HT.out
        simp only [Value.slice.injEq] at hv
        obtain ⟨rfl, _, rfl⟩ := hv
        exact hr 0 (by omega)
      obtain ⟨aq, haq⟩ : ∃ a : Option Addr, a = if cap = 1 then some ⟨g, o, none⟩ else some ⟨g, o + 1, none⟩ := ⟨_, rfl⟩
      have hD := StAt.drop HT.out (k := 1) (by omega) aq (fun hlt g' o' e => by
        simp only [Option.some.injEq, Addr.mk.injEq] at e
        obtain ⟨rfl, rfl, _⟩ := e
        rw [haq, if_neg (by omega)])
      have HD : Hid (StAt w w.heap.size (.slice aq (L.length - 1) (cap - 1)) (L.drop 1)) := hD
      obtain ⟨hl40, hl60⟩ := HGP.out rfl
      have h60 := hl60 0 (by omega)
      have hd60 : ∀ i, i < (L.drop 1).length → (lq (L.drop 1) i).size ≤ 1048576 := fun i hi => by
        rw [List.length_drop] at hi
        have e : lq (L.drop 1) i = lq L (1 + i) := by
          unfold lq
          rw [List.getD_eq_getElem?_getD, List.getD_eq_getElem?_getD, List.getElem?_drop]
        rw [e]
        have := hl60 (1 + i) (by omega)
        omega
      have CC : Hid (∀ W, Calls Try.prog 55 #[.string q] W fun e w' => e = .returned (.string q) ∧ Below W.heap.size W w') := fun W => clone_any q W (by omega)
      have CX : Hid (∀ W, Calls Try.prog 55 #[.string (lq L 0)] W fun e w' => e = .returned (.string (lq L 0)) ∧ Below W.heap.size W w') := fun W => clone_any (lq L 0) W (by omega)
      obtain ⟨cq, hcq⟩ : ∃ cq, cq = cap - 1 := ⟨_, rfl⟩
      obtain ⟨ln, hln⟩ : ∃ ln, ln = L.length - 1 := ⟨_, rfl⟩
      have CP : Hid (∀ W, Below w2.heap.size w2 W → Calls Try.prog 54 #[.slice aq ln cq] W fun e w' => (∃ a c, e = .returned (.slice a ln c) ∧ StRow w' W.heap.size (.slice a ln c) (L.drop 1)) ∧ Below W.heap.size W w') := fun W hW => by
        have hbw := HB2.out.trans (hW.mono hs2)
        have hD' : StAt w w.heap.size (.slice aq ln cq) (L.drop 1) := by rw [hln, hcq]; exact hD
        refine (copyTexts_any (L.drop 1) _ W (hD'.below hbw) hd60 (by rw [List.length_drop]; omega)).mono ?_
        rintro e w' ⟨v', rfl, hr, hb⟩
        obtain ⟨a, c, hv⟩ := hr.slice
        rw [List.length_drop, ← hln] at hv
        subst hv
        exact ⟨⟨a, c, rfl, hr⟩, hb⟩
      have hsz2 : w.heap.size + 1 < w2.heap.size := V2.low
      have KW : Hid (∀ W, Below w2.heap.size w2 W → Below w.heap.size w W ∧ (W.cell? ⟨w.heap.size, 0, none⟩ = some (.string q) ∧ W.cell? ⟨w.heap.size, 1, none⟩ = some (.slice (some ⟨g, o, none⟩) L.length cap) ∧ W.cell? ⟨w.heap.size, 2, none⟩ = some (.bool bad) ∧ W.cell? ⟨g, o, none⟩ = some (.string (lq L 0))) ∧ Rv W (w.heap.size + 1) (.string ⟨#[]⟩) (.slice none 0 0) (.bool false)) := fun W hW => by
        have h1 := V1.below hW
        have h2 := HB2.out.trans (hW.mono hs2)
        exact ⟨h2, ⟨h1.c0, h1.c1, h1.c2, (h2.cell (p := ⟨g, o, none⟩) hg).trans c0⟩, V2.below hW⟩
      have KS : Hid (∀ W, Below w2.heap.size w2 W → W.cell? ⟨w.heap.size, 0, none⟩ = some (.string q) ∧ W.cell? ⟨w.heap.size, 1, none⟩ = some (.slice (some ⟨g, o, none⟩) L.length cap) ∧ W.cell? ⟨w.heap.size, 2, none⟩ = some (.bool bad)) := fun W hW => ⟨(KW.out W hW).2.1.1, (KW.out W hW).2.1.2.1, (KW.out W hW).2.1.2.2.1⟩
      have B1 : Hid (Below w2.heap.size w2 w2.drew) := (Below.refl _ w2).drew
      have B2 : Hid (Below w2.heap.size w2 ((w2.alloc (.cells #[.string ⟨#[]⟩, .slice none 0 0, .bool false] 33)).drew)) := ((Below.refl _ w2).alloc (Nat.le_refl _) _).drew
      have HF2 : Hid (Rv ((w2.alloc (.cells #[.string ⟨#[]⟩, .slice none 0 0, .bool false] 33)).drew) w2.heap.size (.string ⟨#[]⟩) (.slice none 0 0) (.bool false)) := (Rv.fresh w2 (.string ⟨#[]⟩) (.slice none 0 0) (.bool false) 33).below (Below.refl _ _).drew
      have HS2 : Hid (w2.heap.size < ((w2.alloc (.cells #[.string ⟨#[]⟩, .slice none 0 0, .bool false] 33)).drew).heap.size) := HF2.out.low
      have hl1 : (1 : Int) ≤ (L.length : Int) := by omega
      have hl2 : (1 : Int) ≤ (cap : Int) := by omega
      have hl0 : (0 : Int) < (L.length : Int) := by omega
      have hl0N : 0 < L.length := by omega
      have hcapI : (L.length : Int) ≤ (cap : Int) := by omega
      generalize lq L 0 = x at c0 KW HY CX
      generalize L.drop 1 = LD at CP HY
      clear y0 y1 y2 x0 x1 x2 u0 u1 u2 V1 V2 hD c0 HT HD hl60 hd60 h60 HGP
      have y0 := (KW.out w2 (Below.refl _ _)).2.1.1
      have y1 := (KW.out w2 (Below.refl _ _)).2.1.2.1
      go_upto_region 3 with fail
      go_cut [5] from 16 to 26 (fun s5 wx => ∃ (b5 : Nat) (a : Option Addr) (c : Nat), s5 = .pointer (some ⟨b5, 0, none⟩) ∧ Fed w w2 wx b5 q (.slice a ln c) LD bad)
      case first =>
        by_cases hc1 : cap = 1
        · subst hc1
          rw [if_pos rfl] at haq
          have hcq0 : cq = 0 := hcq
          clear hcq
          subst hcq0
          have hln0 : ln = 0 := by omega
          clear hln
          subst hln0
          subst haq
          go_region_held3 (fun W => W.cell? ⟨w.heap.size, 0, none⟩ = some (.string q) ∧ W.cell? ⟨w.heap.size, 1, none⟩ = some (.slice (some ⟨g, o, none⟩) L.length 1) ∧ W.cell? ⟨w.heap.size, 2, none⟩ = some (.bool bad))
            (first | with_reducible exact KS.out _ B1.out | with_reducible exact KS.out _ B2.out | with_reducible exact KS.out _ hbC | with_reducible exact KS.out _ (hbC.alloc hbC.size _) | with_reducible exact KS.out _ hbP | with_reducible exact KS.out _ (hbP.alloc hbP.size _) | exact KS.out _ (((hbP.setCell (p := ⟨w2.heap.size, 0, none⟩) (Nat.le_refl _) _).setCell (p := ⟨w2.heap.size, 1, none⟩) (Nat.le_refl _) _).setCell (p := ⟨w2.heap.size, 2, none⟩) (Nat.le_refl _) _) | exact KS.out _ (((hbC.setCell (p := ⟨w2.heap.size, 0, none⟩) (Nat.le_refl _) _).setCell (p := ⟨w2.heap.size, 1, none⟩) (Nat.le_refl _) _).setCell (p := ⟨w2.heap.size, 2, none⟩) (Nat.le_refl _) _) | exact KS.out _ (((hbP.setCell (p := ⟨wC.heap.size, 0, none⟩) hbC.size _).setCell (p := ⟨wC.heap.size, 1, none⟩) hbC.size _).setCell (p := ⟨wC.heap.size, 2, none⟩) hbC.size _) | exact KS.out _ (((hbC.setCell (p := ⟨wP.heap.size, 0, none⟩) hbP.size _).setCell (p := ⟨wP.heap.size, 1, none⟩) hbP.size _).setCell (p := ⟨wP.heap.size, 2, none⟩) hbP.size _))
            (first
              | (go_at_call 54; (with_reducible refine (CP.out _ ?_).mono ?_); (first | with_reducible exact B1.out | with_reducible exact B2.out | with_reducible exact hbC | with_reducible exact (hbC.alloc hbC.size _) | with_reducible exact hbP | with_reducible exact (hbP.alloc hbP.size _) | exact B1.out | exact B2.out); rintro e wP ⟨⟨ap, cp, rfl, hrP⟩, hP0⟩; first
                | (have V5P := V5C.below hP0; have hbP : Below w2.heap.size w2 wP := hbC.trans (hP0.mono hbC.size); have HRP : Hid (StRow wP w2.heap.size (.slice ap 0 cp) LD) := lower_rowS hrP (hbC.size); have HN5 := Hid.intro5 (World.ownsRow.lt hrP) V5C.low; have z0 := V5P.c0; have z1 := V5P.c1; have z2 := V5P.c2; have zf0 := V5P.f0; have zf1 := V5P.f1; have zf2 := V5P.f2)
                | (have V5P := (Rv.fresh wC (.string ⟨#[]⟩) (.slice none 0 0) (.bool false) 33).below hP0; have hbP : Below w2.heap.size w2 wP := (hbC.alloc hbC.size _).trans (hP0.mono (Nat.le_trans hbC.size (alc wC _))); have HRP : Hid (StRow wP w2.heap.size (.slice ap 0 cp) LD) := lower_rowS hrP (Nat.le_trans hbC.size (alc wC _)); have HN5 := Hid.intro5 (b := wC.heap.size) (World.ownsRow.lt hrP) (by simp); have z0 := V5P.c0; have z1 := V5P.c1; have z2 := V5P.c2; have zf0 := V5P.f0; have zf1 := V5P.f1; have zf2 := V5P.f2)
                | (have V5P := HF2.out.below hP0; have hbP : Below w2.heap.size w2 wP := B2.out.trans (hP0.mono B2.out.size); have HRP : Hid (StRow wP w2.heap.size (.slice ap 0 cp) LD) := lower_rowS hrP (B2.out.size); have HN5 := Hid.intro5 (World.ownsRow.lt hrP) HS2.out; have z0 := V5P.c0; have z1 := V5P.c1; have z2 := V5P.c2; have zf0 := V5P.f0; have zf1 := V5P.f1; have zf2 := V5P.f2)
                | (have hbP : Below w2.heap.size w2 wP := B1.out.trans (hP0.mono B1.out.size); have HRP : Hid (StRow wP w2.heap.size (.slice ap 0 cp) LD) := lower_rowS hrP (B1.out.size); have HNP : Hid (∀ g, (Value.slice ap 0 cp).ownBlock = some g → g < wP.heap.size) := fun g hg => (World.ownsRow.lt hrP g hg).2)
                | (have hbP : Below w2.heap.size w2 wP := hbC.trans (hP0.mono hbC.size); have HRP : Hid (StRow wP w2.heap.size (.slice ap 0 cp) LD) := lower_rowS hrP (hbC.size); have HNP : Hid (∀ g, (Value.slice ap 0 cp).ownBlock = some g → g < wP.heap.size) := fun g hg => (World.ownsRow.lt hrP g hg).2))
              | (go_at_call 55; (with_reducible refine (CC.out _).mono ?_); rintro e wC ⟨rfl, hC0⟩; first
                | (have V5C := V5P.below hC0; have hbC : Below w2.heap.size w2 wC := hbP.trans (hC0.mono hbP.size); have HRC : Hid (StRow wC w2.heap.size (.slice ap 0 cp) LD) := HRP.out.below hC0; have z0 := V5C.c0; have z1 := V5C.c1; have z2 := V5C.c2; have zf0 := V5C.f0; have zf1 := V5C.f1; have zf2 := V5C.f2)
                | (have V5C := (Rv.fresh wP (.string ⟨#[]⟩) (.slice none 0 0) (.bool false) 33).below hC0; have hbC : Below w2.heap.size w2 wC := (hbP.alloc hbP.size _).trans (hC0.mono (Nat.le_trans hbP.size (alc wP _))); have HRC : Hid (StRow wC w2.heap.size (.slice ap 0 cp) LD) := (HRP.out.below ((Below.refl _ wP).alloc (Nat.le_refl _) _)).below hC0; have HN5 := Hid.intro6 HNP.out; have z0 := V5C.c0; have z1 := V5C.c1; have z2 := V5C.c2; have zf0 := V5C.f0; have zf1 := V5C.f1; have zf2 := V5C.f2)
                | (have V5C := HF2.out.below hC0; have hbC : Below w2.heap.size w2 wC := B2.out.trans (hC0.mono B2.out.size); have z0 := V5C.c0; have z1 := V5C.c1; have z2 := V5C.c2; have zf0 := V5C.f0; have zf1 := V5C.f1; have zf2 := V5C.f2)
                | (have hbC : Below w2.heap.size w2 wC := B1.out.trans (hC0.mono B1.out.size))
                | (have hbC : Below w2.heap.size w2 wC := hbP.trans (hC0.mono hbP.size); have HRC : Hid (StRow wC w2.heap.size (.slice ap 0 cp) LD) := HRP.out.below hC0)))
          all_goals
            (try clear V5)
            go_wp2_with fail
            go_meet
            first
              | exact ⟨_, ap, cp, rfl, Fed.mk1 hbP HRP.out⟩
              | exact ⟨_, ap, cp, rfl, Fed.mk1 hbC HRC.out⟩
              | exact ⟨_, ap, cp, rfl, Fed.mk2 hbC HRC.out V5C (Nat.le_refl _) HN5.out⟩
              | exact ⟨_, ap, cp, rfl, Fed.mk2 hbP HRP.out V5P (Nat.le_refl _) HN5.out⟩
              | exact ⟨_, ap, cp, rfl, Fed.mk2 hbC HRC.out V5C hbP.size HN5.out⟩
              | exact ⟨_, ap, cp, rfl, Fed.mk2 hbP HRP.out V5P hbC.size HN5.out⟩
        · rw [if_neg hc1] at haq
          subst hcq
          subst hln
          subst haq
          go_region_held3 (fun W => W.cell? ⟨w.heap.size, 0, none⟩ = some (.string q) ∧ W.cell? ⟨w.heap.size, 1, none⟩ = some (.slice (some ⟨g, o, none⟩) L.length cap) ∧ W.cell? ⟨w.heap.size, 2, none⟩ = some (.bool bad))
            (first | with_reducible exact KS.out _ B1.out | with_reducible exact KS.out _ B2.out | with_reducible exact KS.out _ hbC | with_reducible exact KS.out _ (hbC.alloc hbC.size _) | with_reducible exact KS.out _ hbP | with_reducible exact KS.out _ (hbP.alloc hbP.size _) | exact KS.out _ (((hbP.setCell (p := ⟨w2.heap.size, 0, none⟩) (Nat.le_refl _) _).setCell (p := ⟨w2.heap.size, 1, none⟩) (Nat.le_refl _) _).setCell (p := ⟨w2.heap.size, 2, none⟩) (Nat.le_refl _) _) | exact KS.out _ (((hbC.setCell (p := ⟨w2.heap.size, 0, none⟩) (Nat.le_refl _) _).setCell (p := ⟨w2.heap.size, 1, none⟩) (Nat.le_refl _) _).setCell (p := ⟨w2.heap.size, 2, none⟩) (Nat.le_refl _) _) | exact KS.out _ (((hbP.setCell (p := ⟨wC.heap.size, 0, none⟩) hbC.size _).setCell (p := ⟨wC.heap.size, 1, none⟩) hbC.size _).setCell (p := ⟨wC.heap.size, 2, none⟩) hbC.size _) | exact KS.out _ (((hbC.setCell (p := ⟨wP.heap.size, 0, none⟩) hbP.size _).setCell (p := ⟨wP.heap.size, 1, none⟩) hbP.size _).setCell (p := ⟨wP.heap.size, 2, none⟩) hbP.size _))
            (first
              | (go_at_call 54; (with_reducible refine (CP.out _ ?_).mono ?_); (first | with_reducible exact B1.out | with_reducible exact B2.out | with_reducible exact hbC | with_reducible exact (hbC.alloc hbC.size _) | with_reducible exact hbP | with_reducible exact (hbP.alloc hbP.size _) | exact B1.out | exact B2.out); rintro e wP ⟨⟨ap, cp, rfl, hrP⟩, hP0⟩; first
                | (have V5P := V5C.below hP0; have hbP : Below w2.heap.size w2 wP := hbC.trans (hP0.mono hbC.size); have HRP : Hid (StRow wP w2.heap.size (.slice ap (L.length - 1) cp) LD) := lower_rowS hrP (hbC.size); have HN5 := Hid.intro5 (World.ownsRow.lt hrP) V5C.low; have z0 := V5P.c0; have z1 := V5P.c1; have z2 := V5P.c2; have zf0 := V5P.f0; have zf1 := V5P.f1; have zf2 := V5P.f2)
                | (have V5P := (Rv.fresh wC (.string ⟨#[]⟩) (.slice none 0 0) (.bool false) 33).below hP0; have hbP : Below w2.heap.size w2 wP := (hbC.alloc hbC.size _).trans (hP0.mono (Nat.le_trans hbC.size (alc wC _))); have HRP : Hid (StRow wP w2.heap.size (.slice ap (L.length - 1) cp) LD) := lower_rowS hrP (Nat.le_trans hbC.size (alc wC _)); have HN5 := Hid.intro5 (b := wC.heap.size) (World.ownsRow.lt hrP) (by simp); have z0 := V5P.c0; have z1 := V5P.c1; have z2 := V5P.c2; have zf0 := V5P.f0; have zf1 := V5P.f1; have zf2 := V5P.f2)
                | (have V5P := HF2.out.below hP0; have hbP : Below w2.heap.size w2 wP := B2.out.trans (hP0.mono B2.out.size); have HRP : Hid (StRow wP w2.heap.size (.slice ap (L.length - 1) cp) LD) := lower_rowS hrP (B2.out.size); have HN5 := Hid.intro5 (World.ownsRow.lt hrP) HS2.out; have z0 := V5P.c0; have z1 := V5P.c1; have z2 := V5P.c2; have zf0 := V5P.f0; have zf1 := V5P.f1; have zf2 := V5P.f2)
                | (have hbP : Below w2.heap.size w2 wP := B1.out.trans (hP0.mono B1.out.size); have HRP : Hid (StRow wP w2.heap.size (.slice ap (L.length - 1) cp) LD) := lower_rowS hrP (B1.out.size); have HNP : Hid (∀ g, (Value.slice ap (L.length - 1) cp).ownBlock = some g → g < wP.heap.size) := fun g hg => (World.ownsRow.lt hrP g hg).2)
                | (have hbP : Below w2.heap.size w2 wP := hbC.trans (hP0.mono hbC.size); have HRP : Hid (StRow wP w2.heap.size (.slice ap (L.length - 1) cp) LD) := lower_rowS hrP (hbC.size); have HNP : Hid (∀ g, (Value.slice ap (L.length - 1) cp).ownBlock = some g → g < wP.heap.size) := fun g hg => (World.ownsRow.lt hrP g hg).2))
              | (go_at_call 55; (with_reducible refine (CC.out _).mono ?_); rintro e wC ⟨rfl, hC0⟩; first
                | (have V5C := V5P.below hC0; have hbC : Below w2.heap.size w2 wC := hbP.trans (hC0.mono hbP.size); have HRC : Hid (StRow wC w2.heap.size (.slice ap (L.length - 1) cp) LD) := HRP.out.below hC0; have z0 := V5C.c0; have z1 := V5C.c1; have z2 := V5C.c2; have zf0 := V5C.f0; have zf1 := V5C.f1; have zf2 := V5C.f2)
                | (have V5C := (Rv.fresh wP (.string ⟨#[]⟩) (.slice none 0 0) (.bool false) 33).below hC0; have hbC : Below w2.heap.size w2 wC := (hbP.alloc hbP.size _).trans (hC0.mono (Nat.le_trans hbP.size (alc wP _))); have HRC : Hid (StRow wC w2.heap.size (.slice ap (L.length - 1) cp) LD) := (HRP.out.below ((Below.refl _ wP).alloc (Nat.le_refl _) _)).below hC0; have HN5 := Hid.intro6 HNP.out; have z0 := V5C.c0; have z1 := V5C.c1; have z2 := V5C.c2; have zf0 := V5C.f0; have zf1 := V5C.f1; have zf2 := V5C.f2)
                | (have V5C := HF2.out.below hC0; have hbC : Below w2.heap.size w2 wC := B2.out.trans (hC0.mono B2.out.size); have z0 := V5C.c0; have z1 := V5C.c1; have z2 := V5C.c2; have zf0 := V5C.f0; have zf1 := V5C.f1; have zf2 := V5C.f2)
                | (have hbC : Below w2.heap.size w2 wC := B1.out.trans (hC0.mono B1.out.size))
                | (have hbC : Below w2.heap.size w2 wC := hbP.trans (hC0.mono hbP.size); have HRC : Hid (StRow wC w2.heap.size (.slice ap (L.length - 1) cp) LD) := HRP.out.below hC0)))
          all_goals
            (try clear V5)
            go_wp2_with fail
            go_meet
            first
              | exact ⟨_, ap, cp, rfl, Fed.mk1 hbP HRP.out⟩
              | exact ⟨_, ap, cp, rfl, Fed.mk1 hbC HRC.out⟩
              | exact ⟨_, ap, cp, rfl, Fed.mk2 hbC HRC.out V5C (Nat.le_refl _) HN5.out⟩
              | exact ⟨_, ap, cp, rfl, Fed.mk2 hbP HRP.out V5P (Nat.le_refl _) HN5.out⟩
              | exact ⟨_, ap, cp, rfl, Fed.mk2 hbC HRC.out V5C hbP.size HN5.out⟩
              | exact ⟨_, ap, cp, rfl, Fed.mk2 hbP HRP.out V5P hbC.size HN5.out⟩
      case rest =>
        obtain ⟨b5, a5, c5, rfl, hF⟩ := hcut
        have hbw := hF.blw
        have hsx := hbw.size
        have hV5l := hF.var.low
        have hfar := hF.far
        have HRx : Hid (StRow wc w.heap.size (.slice a5 ln c5) LD) := lower_rowS hF.row hs2
        have HNB : Hid (∀ g', (Value.slice a5 ln c5).ownBlock = some g' → g' ≠ w.heap.size + 1) := fun g' hg' => by have := (World.ownsRow.lt hF.row g' hg').1; omega
        have HBw : Hid (Below w.heap.size w wc) := (KW.out _ hbw).1
        have HV2 : Hid (Rv wc (w.heap.size + 1) (.string ⟨#[]⟩) (.slice none 0 0) (.bool false)) := (KW.out _ hbw).2.2
        have hSc : (wc.cell? ⟨w.heap.size, 1, none⟩ = some (.slice (some ⟨g, o, none⟩) L.length cap) ∧ wc.cell? ⟨g, o, none⟩ = some (.string x) ∧ wc.cell? ⟨b5, 0, none⟩ = some (.string q) ∧ wc.cell? ⟨b5, 1, none⟩ = some (.slice a5 ln c5) ∧ wc.cell? ⟨b5, 2, none⟩ = some (.bool bad)) := ⟨(KW.out _ hbw).2.1.2.1, (KW.out _ hbw).2.1.2.2.2, hF.var.c0, hF.var.c1, hF.var.c2⟩
        have K6 : Hid (∀ W W' : World, wc.heap.size ≤ W.heap.size → (W.cell? ⟨w.heap.size, 1, none⟩ = some (.slice (some ⟨g, o, none⟩) L.length cap) ∧ W.cell? ⟨g, o, none⟩ = some (.string x) ∧ W.cell? ⟨b5, 0, none⟩ = some (.string q) ∧ W.cell? ⟨b5, 1, none⟩ = some (.slice a5 ln c5) ∧ W.cell? ⟨b5, 2, none⟩ = some (.bool bad)) → Below W.heap.size W W' → (W'.cell? ⟨w.heap.size, 1, none⟩ = some (.slice (some ⟨g, o, none⟩) L.length cap) ∧ W'.cell? ⟨g, o, none⟩ = some (.string x) ∧ W'.cell? ⟨b5, 0, none⟩ = some (.string q) ∧ W'.cell? ⟨b5, 1, none⟩ = some (.slice a5 ln c5) ∧ W'.cell? ⟨b5, 2, none⟩ = some (.bool bad))) := fun W W' hW hS hb =>
          ⟨(hb.cell (p := ⟨w.heap.size, 1, none⟩) (by show w.heap.size < _; omega)).trans hS.1, (hb.cell (p := ⟨g, o, none⟩) (by show g < _; omega)).trans hS.2.1, (hb.cell (p := ⟨b5, 0, none⟩) (by show b5 < _; omega)).trans hS.2.2.1, (hb.cell (p := ⟨b5, 1, none⟩) (by show b5 < _; omega)).trans hS.2.2.2.1, (hb.cell (p := ⟨b5, 2, none⟩) (by show b5 < _; omega)).trans hS.2.2.2.2⟩
        have K5 : Hid (∀ (W : World) a b c, (W.cell? ⟨w.heap.size, 1, none⟩ = some (.slice (some ⟨g, o, none⟩) L.length cap) ∧ W.cell? ⟨g, o, none⟩ = some (.string x) ∧ W.cell? ⟨b5, 0, none⟩ = some (.string q) ∧ W.cell? ⟨b5, 1, none⟩ = some (.slice a5 ln c5) ∧ W.cell? ⟨b5, 2, none⟩ = some (.bool bad)) → ((((W.setCell ⟨w.heap.size + 1, 0, none⟩ a).setCell ⟨w.heap.size + 1, 1, none⟩ b).setCell ⟨w.heap.size + 1, 2, none⟩ c).cell? ⟨w.heap.size, 1, none⟩ = some (.slice (some ⟨g, o, none⟩) L.length cap) ∧ (((W.setCell ⟨w.heap.size + 1, 0, none⟩ a).setCell ⟨w.heap.size + 1, 1, none⟩ b).setCell ⟨w.heap.size + 1, 2, none⟩ c).cell? ⟨g, o, none⟩ = some (.string x) ∧ (((W.setCell ⟨w.heap.size + 1, 0, none⟩ a).setCell ⟨w.heap.size + 1, 1, none⟩ b).setCell ⟨w.heap.size + 1, 2, none⟩ c).cell? ⟨b5, 0, none⟩ = some (.string q) ∧ (((W.setCell ⟨w.heap.size + 1, 0, none⟩ a).setCell ⟨w.heap.size + 1, 1, none⟩ b).setCell ⟨w.heap.size + 1, 2, none⟩ c).cell? ⟨b5, 1, none⟩ = some (.slice a5 ln c5) ∧ (((W.setCell ⟨w.heap.size + 1, 0, none⟩ a).setCell ⟨w.heap.size + 1, 1, none⟩ b).setCell ⟨w.heap.size + 1, 2, none⟩ c).cell? ⟨b5, 2, none⟩ = some (.bool bad))) := fun W a b c hS => by
          have nw : w.heap.size ≠ w.heap.size + 1 := by omega
          have ng : g ≠ w.heap.size + 1 := by omega
          have n5 : b5 ≠ w.heap.size + 1 := by omega
          refine ⟨?_, ?_, ?_, ?_, ?_⟩
          all_goals
            rw [World.cell?_setCell_other _ _ _ _ (by simp [*]), World.cell?_setCell_other _ _ _ _ (by simp [*]), World.cell?_setCell_other _ _ _ _ (by simp [*])]
          · exact hS.1
          · exact hS.2.1
          · exact hS.2.2.1
          · exact hS.2.2.2.1
          · exact hS.2.2.2.2
        have D1 : Hid (Below wc.heap.size wc wc.drew) := (Below.refl _ wc).drew
        have HS0 : Hid (wc.drew.cell? ⟨w.heap.size, 1, none⟩ = some (.slice (some ⟨g, o, none⟩) L.length cap) ∧ wc.drew.cell? ⟨g, o, none⟩ = some (.string x) ∧ wc.drew.cell? ⟨b5, 0, none⟩ = some (.string q) ∧ wc.drew.cell? ⟨b5, 1, none⟩ = some (.slice a5 ln c5) ∧ wc.drew.cell? ⟨b5, 2, none⟩ = some (.bool bad)) := K6.out _ _ (Nat.le_refl _) hSc D1.out
        have HS1 : Hid ((((wc.setCell ⟨w.heap.size + 1, 0, none⟩ (.string q)).setCell ⟨w.heap.size + 1, 1, none⟩ (.slice a5 ln c5)).setCell ⟨w.heap.size + 1, 2, none⟩ (.bool bad)).drew.cell? ⟨w.heap.size, 1, none⟩ = some (.slice (some ⟨g, o, none⟩) L.length cap) ∧ (((wc.setCell ⟨w.heap.size + 1, 0, none⟩ (.string q)).setCell ⟨w.heap.size + 1, 1, none⟩ (.slice a5 ln c5)).setCell ⟨w.heap.size + 1, 2, none⟩ (.bool bad)).drew.cell? ⟨g, o, none⟩ = some (.string x) ∧ (((wc.setCell ⟨w.heap.size + 1, 0, none⟩ (.string q)).setCell ⟨w.heap.size + 1, 1, none⟩ (.slice a5 ln c5)).setCell ⟨w.heap.size + 1, 2, none⟩ (.bool bad)).drew.cell? ⟨b5, 0, none⟩ = some (.string q) ∧ (((wc.setCell ⟨w.heap.size + 1, 0, none⟩ (.string q)).setCell ⟨w.heap.size + 1, 1, none⟩ (.slice a5 ln c5)).setCell ⟨w.heap.size + 1, 2, none⟩ (.bool bad)).drew.cell? ⟨b5, 1, none⟩ = some (.slice a5 ln c5) ∧ (((wc.setCell ⟨w.heap.size + 1, 0, none⟩ (.string q)).setCell ⟨w.heap.size + 1, 1, none⟩ (.slice a5 ln c5)).setCell ⟨w.heap.size + 1, 2, none⟩ (.bool bad)).drew.cell? ⟨b5, 2, none⟩ = some (.bool bad)) := K6.out _ _ (by simp) (K5.out _ _ _ _ hSc) (Below.refl _ _).drew
        have HVE : Hid (Rv ((((wc.setCell ⟨w.heap.size + 1, 0, none⟩ (.string q)).setCell ⟨w.heap.size + 1, 1, none⟩ (.slice a5 ln c5)).setCell ⟨w.heap.size + 1, 2, none⟩ (.bool bad)).drew) (w.heap.size + 1) (.string q) (.slice a5 ln c5) (.bool bad)) := (HV2.out.set _ _ _).below (Below.refl _ _).drew
        have HR1 : Hid (StRow ((((wc.setCell ⟨w.heap.size + 1, 0, none⟩ (.string q)).setCell ⟨w.heap.size + 1, 1, none⟩ (.slice a5 ln c5)).setCell ⟨w.heap.size + 1, 2, none⟩ (.bool bad)).drew) w.heap.size (.slice a5 ln c5) LD) := StRow.below (own_setCell (own_setCell (own_setCell HRx.out _ 0 _ HNB.out) _ 1 _ HNB.out) _ 2 _ HNB.out) (Below.refl _ _).drew
        have HB1 : Hid (Below w.heap.size w ((((wc.setCell ⟨w.heap.size + 1, 0, none⟩ (.string q)).setCell ⟨w.heap.size + 1, 1, none⟩ (.slice a5 ln c5)).setCell ⟨w.heap.size + 1, 2, none⟩ (.bool bad)).drew)) := (((HBw.out.setCell (p := ⟨w.heap.size + 1, 0, none⟩) (by simp) _).setCell (p := ⟨w.heap.size + 1, 1, none⟩) (by simp) _).setCell (p := ⟨w.heap.size + 1, 2, none⟩) (by simp) _).drew
        have HZ1 : Hid (wc.heap.size ≤ ((((wc.setCell ⟨w.heap.size + 1, 0, none⟩ (.string q)).setCell ⟨w.heap.size + 1, 1, none⟩ (.slice a5 ln c5)).setCell ⟨w.heap.size + 1, 2, none⟩ (.bool bad)).drew).heap.size ∧ w.heap.size ≤ ((((wc.setCell ⟨w.heap.size + 1, 0, none⟩ (.string q)).setCell ⟨w.heap.size + 1, 1, none⟩ (.slice a5 ln c5)).setCell ⟨w.heap.size + 1, 2, none⟩ (.bool bad)).drew).heap.size) := ⟨by simp, HB1.out.size⟩
        have x0 := HV2.out.c0
        have x1 := HV2.out.c1
        have x2 := HV2.out.c2
        have u0 := HV2.out.f0
        have u1 := HV2.out.f1
        have u2 := HV2.out.f2
        have q1 := hSc.1
        have q2 := hSc.2.1
        have d0 := hSc.2.2.1
        have d1 := hSc.2.2.2.1
        have d2 := hSc.2.2.2.2
        clear y0 y1 haq hcq hln CP hF hbw hSc KW KS B1 B2 HF2 HS2 CC
        go_upto_region 4 with fail
        go_region_held3 (fun W => W.cell? ⟨w.heap.size, 1, none⟩ = some (.slice (some ⟨g, o, none⟩) L.length cap) ∧ W.cell? ⟨g, o, none⟩ = some (.string x) ∧ W.cell? ⟨b5, 0, none⟩ = some (.string q) ∧ W.cell? ⟨b5, 1, none⟩ = some (.slice a5 ln c5) ∧ W.cell? ⟨b5, 2, none⟩ = some (.bool bad))
          (first | with_reducible exact HS0.out | with_reducible exact HS1.out | with_reducible exact hSD.out | with_reducible exact hSE.out | exact HS0.out | exact HS1.out | exact K5.out _ _ _ _ hSD.out)
          ((go_at_call 55; (with_reducible refine (CX.out _).mono ?_); rintro e wD ⟨rfl, hD0⟩; first
            | (have hbD : Below wc.heap.size wc wD := D1.out.trans (hD0.mono D1.out.size); have hSD : Hid (wD.cell? ⟨w.heap.size, 1, none⟩ = some (.slice (some ⟨g, o, none⟩) L.length cap) ∧ wD.cell? ⟨g, o, none⟩ = some (.string x) ∧ wD.cell? ⟨b5, 0, none⟩ = some (.string q) ∧ wD.cell? ⟨b5, 1, none⟩ = some (.slice a5 ln c5) ∧ wD.cell? ⟨b5, 2, none⟩ = some (.bool bad)) := K6.out _ _ D1.out.size HS0.out hD0; have V2 := HV2.out.below hbD; have x0 := V2.c0; have x1 := V2.c1; have x2 := V2.c2; have u0 := V2.f0; have u1 := V2.f1; have u2 := V2.f2)
            | (have hSE : Hid (wD.cell? ⟨w.heap.size, 1, none⟩ = some (.slice (some ⟨g, o, none⟩) L.length cap) ∧ wD.cell? ⟨g, o, none⟩ = some (.string x) ∧ wD.cell? ⟨b5, 0, none⟩ = some (.string q) ∧ wD.cell? ⟨b5, 1, none⟩ = some (.slice a5 ln c5) ∧ wD.cell? ⟨b5, 2, none⟩ = some (.bool bad)) := K6.out _ _ HZ1.out.1 HS1.out hD0; have HRE : Hid (StRow wD w.heap.size (.slice a5 ln c5) LD) := HR1.out.below hD0; have HBE : Hid (Below w.heap.size w wD) := HB1.out.trans (hD0.mono HZ1.out.2); have V2 := HVE.out.below hD0; have x0 := V2.c0; have x1 := V2.c1; have x2 := V2.c2; have u0 := V2.f0; have u1 := V2.f1; have u2 := V2.f2)))
        all_goals
          go_wp2_with fail
          (try simp only [Exit.inBlock, Exit.then])
          refine bodyPost_ret (v := .tuple #[.agg #[.string q, .slice a5 ln c5, .bool bad], .string x, .bool true]) ?_ rfl (HY.out _ _ ?_ ?_)
          · rw [rc]
            go_simp
          · first
              | exact HRE.out
              | exact own_setCell (own_setCell (own_setCell (HRx.out.below hbD) _ 0 _ HNB.out) _ 1 _ HNB.out) _ 2 _ HNB.out
          · first
              | exact HBE.out
              | exact ((((HBw.out.trans (hbD.mono HBw.out.size)).setCell (p := ⟨w.heap.size + 1, 0, none⟩) (by simp) _).setCell (p := ⟨w.heap.size + 1, 1, none⟩) (by simp) _).setCell (p := ⟨w.heap.size + 1, 2, none⟩) (by simp) _)

end Go.Proofs.Ytcpjbacjmmbabaa
