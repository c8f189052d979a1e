/- The program's MeetOf. -/
import Derived.Test.YtbkdpcfghaiimaaMeC
import Derived.Test.YtbkdpcfghaiimaaMeD
import Derived.Test.YtbkdpcfghaiimaaGl
import Derived.Deep.RegionWith
import Derived.Deep.RegionHeld3
import Derived.Deep.DrawnRows
import Derived.Deep.DeepCutAuto
namespace Go.Proofs.Ytbkdpcfghaiimaa
open Go.RowKit Plain Sch
attribute [local go_sem ↓] Go.wp_at_zero Go.wp_at_succ

/-- what holds behind the meeting of the parts -/
def MCut (MR : Option (List Tr)) (W3 : World) (s6 s7 : Value) (wx : World) : Prop :=
  ((∃ L ao cap, MR = some L ∧ s6 = .slice ao L.length cap ∧ s7 = .bool true ∧ PartsIn 40 wx (fun g => g < wx.heap.size) (.slice ao L.length cap) L) ∨ (MR = none ∧ s6 = .slice none 0 0 ∧ s7 = .bool false)) ∧ Below W3.heap.size W3 wx

theorem mcut_of {MR : Option (List Tr)} {W3 wx : World} {ao : Option Addr} {l cap : Nat} {ok : Bool} (h : (ok = true ∧ ∃ L, MR = some L ∧ l = L.length ∧ PartsIn 40 wx (fun g => g < wx.heap.size) (.slice ao l cap) L) ∨ (ok = false ∧ MR = none ∧ ao = none ∧ l = 0 ∧ cap = 0)) (hb : Below W3.heap.size W3 wx) : MCut MR W3 (.slice ao l cap) (.bool ok) wx := by
  refine ⟨?_, hb⟩
  rcases h with ⟨rfl, L, h1, rfl, h2⟩ | ⟨rfl, h1, rfl, rfl, rfl⟩
  · exact .inl ⟨L, ao, cap, h1, rfl, rfl, h2⟩
  · exact .inr ⟨h1, rfl, rfl⟩

set_option maxRecDepth 100000 in
set_option maxHeartbeats 4000000 in
theorem implMeet (A B : List Ty) (v1 v2 : Value) (w : World) (hA : TysAt w w.heap.size v1 A) (hB : TysAt w w.heap.size v2 B) :
    Calls Try.prog 12 #[.agg #[v1], .agg #[v2]] w fun e w' => OSchema w w' e (mof A B) := by
  have HA : Hid (TysAt w w.heap.size v1 A) := hA
  have HB : Hid (TysAt w w.heap.size v2 B) := hB
  obtain ⟨R, hR⟩ : ∃ R, R = mof A B := ⟨_, rfl⟩
  rw [← hR]
  have HR : Hid (R = mof A B) := hR
  clear hR
  obtain ⟨aa, capa, rfl, _⟩ := hA
  obtain ⟨ab, capb, rfl, _⟩ := hB
  obtain ⟨W3, hW3⟩ : ∃ W, W = ((w.alloc (.cells #[.slice aa A.length capa] 25)).alloc (.cells #[.slice ab B.length capb] 25)).alloc (.cells #[.slice none 0 0] 25) := ⟨_, rfl⟩
  have hB3 : Below w.heap.size w W3 := by rw [hW3]; exact (((Below.refl _ w).alloc (Nat.le_refl _) _).alloc (by simp) _).alloc (by simp; omega) _
  have HS3 : Hid (W3.heap.size = w.heap.size + 3) := by show _ = _; rw [hW3]; simp
  have HC3 : Hid (∀ W : World, Below W3.heap.size W3 W → (W.cell? ⟨w.heap.size, 0, none⟩ = some (.slice aa A.length capa) ∧ W.cell? ⟨w.heap.size + 1, 0, none⟩ = some (.slice ab B.length capb) ∧ W.cell? ⟨w.heap.size + 1 + 1, 0, none⟩ = some (.slice none 0 0) ∧ W.frozen? ⟨w.heap.size + 1 + 1, 0, none⟩ = false ∧ w.heap.size + 1 + 1 < W.heap.size) ∧ Below w.heap.size w W) := fun W hW => by
    have hs := HS3.out
    have h2 := hW.size
    refine ⟨⟨(hW.cell (p := ⟨w.heap.size, 0, none⟩) (by show w.heap.size < _; omega)).trans ?_, (hW.cell (p := ⟨w.heap.size + 1, 0, none⟩) (by show w.heap.size + 1 < _; omega)).trans ?_, (hW.cell (p := ⟨w.heap.size + 1 + 1, 0, none⟩) (by show w.heap.size + 1 + 1 < _; omega)).trans ?_, (hW.frozen (p := ⟨w.heap.size + 1 + 1, 0, none⟩) (by show w.heap.size + 1 + 1 < _; omega)).trans ?_, by omega⟩, hB3.trans (hW.mono hB3.size)⟩
    · rw [hW3]; go_simp
    · rw [hW3]; go_simp
    · rw [hW3]; go_simp
    · rw [hW3]; go_simp
  have hle : w.heap.size ≤ w.heap.size + 1 + 1 := by omega
  unfold OSchema
  go_enter Try.func12, Try.ntmps12
  go_wp2_with fail
  rw [← hW3]
  clear hW3
  refine (implGoodT A _ _ (HA.out.below hB3)).mono ?_
  rintro e w4 ⟨rfl, hb4⟩
  obtain ⟨⟨qa4, qb4, x4, z4, hz4⟩, hB4⟩ := HC3.out _ hb4
  by_cases hga : gs A = true
  · rw [hga]
    go_wp2_with fail
    refine (implGoodT B _ _ (HB.out.below hB4)).mono ?_
    rintro e w5 ⟨rfl, hb5⟩
    have hb35 : Below W3.heap.size W3 w5 := hb4.trans (hb5.mono hb4.size)
    obtain ⟨⟨qa5, qb5, x5, z5, hz5⟩, hB5⟩ := HC3.out _ hb35
    clear qa4 qb4 x4 z4 hz4 hb4 hb5 hB4
    by_cases hgb : gs B = true
    · rw [hgb]
      obtain ⟨MR, hMR⟩ : ∃ M, M = meetTo (meetT 40) ((kids A 0).map (tree A 40)) ((kids B 0).map (tree B 40)) 30 := ⟨_, rfl⟩
      have HROOT : Hid (meetRoot A B = MR.map mkRoot) := by rw [hMR]; rfl
      have a1 := gs_types A hga
      have b1 := gs_types B hgb
      have HSOME : Hid (∀ L, MR = some L → R = tell (mkRoot L) ∧ Keeps (mkRoot L) (tree A 41 0) (tree B 41 0) ∧ (mkRoot L).size ≤ 60) := fun L hL => by
        have h : meetRoot A B = some (mkRoot L) := by rw [HROOT.out, hL]; rfl
        exact ⟨HR.out.trans (mof_some A B hga hgb h), meet_root_keeps A B hga hgb h, meet_root_size A B hga hgb h⟩
      have HNONE : Hid (MR = none → R = ([], false)) := fun h => HR.out.trans (mof_none A B (by rw [HROOT.out, h]; rfl))
      have OA : Hid (∀ W, Below W3.heap.size W3 W → Calls Try.prog 43 #[.slice aa A.length capa, .int .i64 0] W fun e w' => ∃ c, e = .returned c ∧ PartsIn 40 w' (fun g => W.heap.size ≤ g ∧ g < w'.heap.size) c ((kids A 0).map (tree A 40)) ∧ Below W.heap.size W w') := fun W hW => ownParts_any A _ hga 40 0 W (HA.out.below (HC3.out W hW).2) (by omega) (by omega)
      have OB : Hid (∀ W, Below W3.heap.size W3 W → Calls Try.prog 43 #[.slice ab B.length capb, .int .i64 0] W fun e w' => ∃ c, e = .returned c ∧ PartsIn 40 w' (fun g => W.heap.size ≤ g ∧ g < w'.heap.size) c ((kids B 0).map (tree B 40)) ∧ Below W.heap.size W w') := fun W hW => ownParts_any B _ hgb 40 0 W (HB.out.below (HC3.out W hW).2) (by omega) (by omega)
      have JP : Hid (∀ (W : World) (ca cb : Value) (Sa Sb : Nat → Prop), PartsIn 40 W Sa ca ((kids A 0).map (tree A 40)) → PartsIn 40 W Sb cb ((kids B 0).map (tree B 40)) → (∀ g, Sa g → g < W.heap.size) → (∀ g, Sb g → g < W.heap.size) → Calls Try.prog 42 #[ca, cb] W fun e w' => ∃ ao l cap ok, e = .returned (.tuple #[.slice ao l cap, .bool ok]) ∧ ((ok = true ∧ ∃ L, MR = some L ∧ l = L.length ∧ PartsIn 40 w' (fun g => g < w'.heap.size) (.slice ao l cap) L) ∨ (ok = false ∧ MR = none ∧ ao = none ∧ l = 0 ∧ cap = 0)) ∧ Below W.heap.size W w') := fun W ca cb Sa Sb h1 h2 h3 h4 => by
        refine (meetParts_of 40 (meetSh_any 40) _ _ ca cb Sa Sb W h1 h2 h3 h4).mono ?_
        rintro e w' ⟨h | ⟨h, rfl⟩, hb⟩
        · obtain ⟨L, rv, hL, rfl, hp⟩ := h
          obtain ⟨ao, cap, rfl, hq⟩ := id hp
          exact ⟨ao, L.length, cap, true, rfl, .inl ⟨rfl, L, by rw [hMR]; exact hL, rfl, hp.kept (fun _ _ => rfl) (fun g hg => hg.2)⟩, hb⟩
        · exact ⟨none, 0, 0, false, rfl, .inr ⟨rfl, by rw [hMR]; exact h, rfl, rfl, rfl⟩, hb⟩
      have WS : Hid (∀ (L : List Tr), MR = some L → ∀ (W : World) (c : Value) (S : Nat → Prop), PartsIn 40 W S c L → (∀ g, S g → g < W.heap.size) → Calls Try.prog 44 #[c] W fun e w' => ∃ ar capr, e = .returned (.agg #[.slice ar (flat (mkRoot L) (-1) 0).length capr]) ∧ TyRow w' W.heap.size (.slice ar (flat (mkRoot L) (-1) 0).length capr) (flat (mkRoot L) (-1) 0) ∧ Below W.heap.size W w') := fun L hL W c S h1 h2 => by
        obtain ⟨_, hk, hz⟩ := HSOME.out L hL
        have hz' : sizeL L + 1 ≤ 60 := by have h := hz; rw [Tr.size_eq] at h; exact h
        refine (wholeSchema_any 40 L c S W h1 h2 (by omega) (fun x hx => ⟨((NmT_iff _).1 hk.nm).2 x hx, ((FG_iff _).1 hk.fg).2.2 x hx⟩)).mono ?_
        rintro e w' ⟨rv, rfl, hr, hb⟩
        obtain ⟨ar, capr, rfl, _⟩ := ownSlice hr
        exact ⟨ar, capr, rfl, hr, hb⟩
      clear hMR HROOT a1 b1 HA HB
      generalize (kids A 0).map (tree A 40) = KA at *
      generalize (kids B 0).map (tree B 40) = KB at *
      clear hga hgb
      have hb35d : Below W3.heap.size W3 w5.drew := hb35.drew
      have hqd : w5.drew.cell? ⟨w.heap.size, 0, none⟩ = some (.slice aa A.length capa) ∧ w5.drew.cell? ⟨w.heap.size + 1, 0, none⟩ = some (.slice ab B.length capb) := ⟨qa5, qb5⟩
      go_upto_region 3 with fail
      go_cut [6, 7] from 18 to 27 (fun s6 s7 wx => MCut MR W3 s6 s7 wx)
      case first =>
        clear x5 z5 hz5 WS HSOME HNONE
        go_region_held3 (fun w' => w'.cell? ⟨w.heap.size, 0, none⟩ = some (.slice aa A.length capa) ∧ w'.cell? ⟨w.heap.size + 1, 0, none⟩ = some (.slice ab B.length capb))
          (first
            | with_reducible exact hqd
            | with_reducible exact ⟨hq8.1.1, hq8.1.2.1⟩
            | with_reducible exact ⟨hq7.1.1, hq7.1.2.1⟩
            | with_reducible exact ⟨hq6.1.1, hq6.1.2.1⟩
            | exact ⟨qa5, qb5⟩)
          (first
            | (go_at_call 42; refine (JP.out _ _ _ _ _ hpa7 hpb7 (fun g hg => by have h1 := hb7.size; have h2 := hg.2; omega) (fun g hg => hg.2)).mono ?_; rintro e w8 ⟨a8, l8, c8, ok8, rfl, hr8, hb8⟩; have hb38 : Below W3.heap.size W3 w8 := hb37.trans (hb8.mono hb37.size); have hq8 := HC3.out _ hb38)
            | (go_at_call 43; refine (OB.out _ hb36).mono ?_; rintro e w7 ⟨cb7, rfl, hpb7, hb7⟩; have hb37 : Below W3.heap.size W3 w7 := hb36.trans (hb7.mono hb36.size); have hq7 := HC3.out _ hb37; have hpa7 := hpa6.kept (fun g hg => hb7.block g hg.2) (fun _ h => h))
            | (go_at_call 43; refine (OA.out _ hb35d).mono ?_; rintro e w6 ⟨ca6, rfl, hpa6, hb6⟩; have hb36 : Below W3.heap.size W3 w6 := hb35d.trans (hb6.mono hb35d.size); have hq6 := HC3.out _ hb36))
        all_goals
          go_wp2_with fail
          go_meet
          exact mcut_of hr8 hb38
      case rest =>
        obtain ⟨hres, hb38⟩ := hcut
        clear OA OB JP hqd hb35d x5 z5 hz5 qa5 qb5
        obtain ⟨⟨qa8, qb8, x8, z8, hz8⟩, hB8⟩ := HC3.out _ hb38
        rcases hres with ⟨L, ao, cap, hL, rfl, rfl, hp⟩ | ⟨hL, rfl, rfl⟩
        · obtain ⟨hRt, hkp, _⟩ := HSOME.out L hL
          have WSL : Hid (Calls Try.prog 44 #[.slice ao L.length cap] wc fun e w' => ∃ ar capr, e = .returned (.agg #[.slice ar (flat (mkRoot L) (-1) 0).length capr]) ∧ TyRow w' wc.heap.size (.slice ar (flat (mkRoot L) (-1) 0).length capr) (flat (mkRoot L) (-1) 0) ∧ Below wc.heap.size wc w') := WS.out L hL wc _ _ hp (fun _ h => h)
          have HRT : Hid (R = tell (mkRoot L)) := hRt
          have HNM : Hid (∀ x ∈ flat (mkRoot L) (-1) 0, x.name.size ≤ 10) := flat_names _ _ _ hkp.nm
          have HTY : Hid (∀ (h : gs (flat (mkRoot L) (-1) 0) = true), R = (flat (mkRoot L) (-1) 0, true)) := fun h => HRT.out.trans (tell_yes _ h)
          have HTN : Hid (∀ (h : gs (flat (mkRoot L) (-1) 0) = false), R = ([], false)) := fun h => HRT.out.trans (tell_no _ h)
          clear WS HSOME HNONE hkp hRt HRT hp
          generalize flat (mkRoot L) (-1) 0 = F at *
          go_wp2_with fail
          refine WSL.out.mono ?_
          rintro e w9 ⟨ar, capr, rfl, hrow9, hb9⟩
          have hb39 : Below W3.heap.size W3 w9 := hb38.trans (hb9.mono hb38.size)
          obtain ⟨W9, hW9⟩ : ∃ W, W = w9.alloc (.cells #[.slice ar F.length capr] 25) := ⟨_, rfl⟩
          have hb99 : Below w9.heap.size w9 W9 := by rw [hW9]; exact (Below.refl _ w9).alloc (Nat.le_refl _) _
          have HS9 : Hid (W9.heap.size = w9.heap.size + 1) := by show _ = _; rw [hW9]; simp
          have HM9 : Hid (W9.cell? ⟨w9.heap.size, 0, none⟩ = some (.slice ar F.length capr)) := by show _ = _; rw [hW9]; go_simp
          have HRW9 : Hid (TyRow W9 wc.heap.size (.slice ar F.length capr) F) := hrow9.below hb99
          have hb39' : Below W3.heap.size W3 W9 := hb39.trans (hb99.mono hb39.size)
          clear hrow9 qa8 qb8 x8 z8
          go_wp2_with fail
          rw [← hW9]
          clear hW9
          refine (implGoodT F _ _ (HRW9.out.at HNM.out)).mono ?_
          rintro e w10 ⟨rfl, hb10⟩
          have hb310 : Below W3.heap.size W3 w10 := hb39'.trans (hb10.mono hb39'.size)
          obtain ⟨⟨_, _, x10, z10, hz10⟩, hB10⟩ := HC3.out _ hb310
          have m10 : w10.cell? ⟨w9.heap.size, 0, none⟩ = some (.slice ar F.length capr) := (hb10.cell (p := ⟨w9.heap.size, 0, none⟩) (by have := HS9.out; show w9.heap.size < _; omega)).trans HM9.out
          have hz910 : w9.heap.size < w10.heap.size := by have h1 := HS9.out; have h2 := hb10.size; omega
          have HROW : Hid (TyRow (w10.setCell ⟨w.heap.size + 1 + 1, 0, none⟩ (.slice ar F.length capr)) w.heap.size (.slice ar F.length capr) F) := (TyRow.setCell (HRW9.out.below hb10) (a := ⟨w.heap.size + 1 + 1, 0, none⟩) (by show w.heap.size + 1 + 1 < _; omega) _).lower (by have := hB8.size; omega)
          clear hb10 hb39' hb310 hb99
          cases hg : gs F with
          | true =>
            have hn : Hid (R = (F, true)) := HTY.out hg
            clear hg
            go_wp2
            (try simp only [Exit.inBlock, Exit.then])
            refine bodyPost_ret (v := .tuple #[.agg #[.slice ar F.length capr], .bool true]) ?_ rfl ⟨.slice ar F.length capr, by rw [hn.out], ?_, ?_⟩
            · rw [results_cell_tmp rfl]
              go_simp
            · rw [hn.out]
              exact HROW.out
            · exact hB10.setCell (p := ⟨w.heap.size + 1 + 1, 0, none⟩) hle _
          | false =>
            have hn : Hid (R = ([], false)) := HTN.out hg
            clear hg
            go_wp2
            (try simp only [Exit.inBlock, Exit.then])
            refine bodyPost_ret (v := .tuple #[.agg #[.slice none 0 0], .bool false]) ?_ rfl ⟨.slice none 0 0, by rw [hn.out], ?_, ?_⟩
            · rw [results_cell_tmp rfl]
              go_simp
            · rw [hn.out]
              exact World.ownsRow_nil _ _ _ _
            · exact hB10.setCell (p := ⟨w.heap.size + 1 + 1, 0, none⟩) hle _
        · have hn : Hid (R = ([], false)) := HNONE.out hL
          clear hL WS HSOME HNONE
          go_wp2
          (try simp only [Exit.inBlock, Exit.then])
          refine bodyPost_ret (v := .tuple #[.agg #[.slice none 0 0], .bool false]) ?_ rfl ⟨.slice none 0 0, by rw [hn.out], ?_, ?_⟩
          · rw [results_cell_tmp rfl]
            go_simp
          · rw [hn.out]
            exact World.ownsRow_nil _ _ _ _
          · exact hB8.setCell (p := ⟨w.heap.size + 1 + 1, 0, none⟩) hle _
    · have hg' : gs B = false := by simpa using hgb
      have hn : Hid (R = ([], false)) := HR.out.trans (mof_no A B (fun h => hgb h.2))
      rw [hg']
      clear hgb hg' hga
      go_wp2
      (try simp only [Exit.inBlock, Exit.then])
      refine bodyPost_ret (v := .tuple #[.agg #[.slice none 0 0], .bool false]) ?_ rfl ⟨.slice none 0 0, by rw [hn.out], ?_, ?_⟩
      · rw [results_cell_tmp rfl]
        go_simp
      · rw [hn.out]
        exact World.ownsRow_nil _ _ _ _
      · exact hB5.setCell (p := ⟨w.heap.size + 1 + 1, 0, none⟩) hle _
  · have hg' : gs A = false := by simpa using hga
    have hn : Hid (R = ([], false)) := HR.out.trans (mof_no A B (fun h => hga h.1))
    rw [hg']
    clear hg' hga
    go_wp2
    (try simp only [Exit.inBlock, Exit.then])
    refine bodyPost_ret (v := .tuple #[.agg #[.slice none 0 0], .bool false]) ?_ rfl ⟨.slice none 0 0, by rw [hn.out], ?_, ?_⟩
    · rw [results_cell_tmp rfl]
      go_simp
    · rw [hn.out]
      exact World.ownsRow_nil _ _ _ _
    · exact hB4.setCell (p := ⟨w.heap.size + 1 + 1, 0, none⟩) hle _

end Go.Proofs.Ytbkdpcfghaiimaa
