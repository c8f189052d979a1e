/- The program's JoinOf. -/
import Derived.Test.YtbkdpcfghaiimaaJoC
import Derived.Test.YtbkdpcfghaiimaaGm
import Derived.Test.YtbkdpcfghaiimaaGl
import Derived.Deep.RegionWith
import Derived.Deep.RegionHeld3
import Derived.Deep.DrawnRows
namespace Go.Proofs.Ytbkdpcfghaiimaa
open Go.RowKit Plain Sch
attribute [local go_sem ↓] Go.wp_at_zero Go.wp_at_succ

set_option maxRecDepth 100000 in
set_option maxHeartbeats 4000000 in
theorem implJoin (A B : List Ty) (v1 v2 : Value) (w : World) (hA : TysAt w w.heap.size v1 A) (hB : TysAt w w.heap.size v2 B) :
    Calls Try.prog 14 #[.agg #[v1], .agg #[v2]] w fun e w' => OSchema w w' e (jof A B) := by
  have HA : Hid (TysAt w w.heap.size v1 A) := hA
  have HB : Hid (TysAt w w.heap.size v2 B) := hB
  obtain ⟨R, hR⟩ : ∃ R, R = jof A B := ⟨_, rfl⟩
  rw [← hR]
  have HR : Hid (R = jof A B) := hR
  clear hR
  obtain ⟨aa, capa, rfl, _⟩ := hA
  obtain ⟨ab, capb, rfl, _⟩ := hB
  obtain ⟨W3, hW3⟩ : ∃ W, W = ((w.alloc (.cells #[.slice aa A.length capa] 25)).alloc (.cells #[.slice ab B.length capb] 25)).alloc (.cells #[.slice none 0 0] 25) := ⟨_, rfl⟩
  have hB3 : Below w.heap.size w W3 := by rw [hW3]; exact (((Below.refl _ w).alloc (Nat.le_refl _) _).alloc (by simp) _).alloc (by simp; omega) _
  have HS3 : Hid (W3.heap.size = w.heap.size + 3) := by show _ = _; rw [hW3]; simp
  have HC3 : Hid (∀ W : World, Below W3.heap.size W3 W → (W.cell? ⟨w.heap.size, 0, none⟩ = some (.slice aa A.length capa) ∧ W.cell? ⟨w.heap.size + 1, 0, none⟩ = some (.slice ab B.length capb) ∧ W.cell? ⟨w.heap.size + 1 + 1, 0, none⟩ = some (.slice none 0 0) ∧ W.frozen? ⟨w.heap.size + 1 + 1, 0, none⟩ = false ∧ w.heap.size + 1 + 1 < W.heap.size) ∧ Below w.heap.size w W) := fun W hW => by
    have hs := HS3.out
    have h2 := hW.size
    refine ⟨⟨(hW.cell (p := ⟨w.heap.size, 0, none⟩) (by show w.heap.size < _; omega)).trans ?_, (hW.cell (p := ⟨w.heap.size + 1, 0, none⟩) (by show w.heap.size + 1 < _; omega)).trans ?_, (hW.cell (p := ⟨w.heap.size + 1 + 1, 0, none⟩) (by show w.heap.size + 1 + 1 < _; omega)).trans ?_, (hW.frozen (p := ⟨w.heap.size + 1 + 1, 0, none⟩) (by show w.heap.size + 1 + 1 < _; omega)).trans ?_, by omega⟩, hB3.trans (hW.mono hB3.size)⟩
    · rw [hW3]; go_simp
    · rw [hW3]; go_simp
    · rw [hW3]; go_simp
    · rw [hW3]; go_simp
  have hle : w.heap.size ≤ w.heap.size + 1 + 1 := by omega
  unfold OSchema
  go_enter Try.func14, Try.ntmps14
  go_wp2_with fail
  rw [← hW3]
  clear hW3
  refine (implGoodT A _ _ (HA.out.below hB3)).mono ?_
  rintro e w4 ⟨rfl, hb4⟩
  obtain ⟨⟨qa4, qb4, x4, z4, hz4⟩, hB4⟩ := HC3.out _ hb4
  by_cases hga : gs A = true
  · rw [hga]
    go_wp2_with fail
    refine (implGoodT B _ _ (HB.out.below hB4)).mono ?_
    rintro e w5 ⟨rfl, hb5⟩
    have hb35 : Below W3.heap.size W3 w5 := hb4.trans (hb5.mono hb4.size)
    obtain ⟨⟨qa5, qb5, x5, z5, hz5⟩, hB5⟩ := HC3.out _ hb35
    clear qa4 qb4 x4 z4 hz4 hb4 hb5 hB4
    by_cases hgb : gs B = true
    · rw [hgb]
      have hn : Hid (R = (flat (joinRoot A B) (-1) 0, true)) := HR.out.trans (jof_yes A B hga hgb)
      have a1 := gs_types A hga
      have b1 := gs_types B hgb
      have HL : Hid (Like (joinRoot A B) (tree A 41 0)) := join_root_like A B hga hgb
      have hts := tree_size A hga 41 0 (by omega) (by omega)
      have HSZ : Hid (sizeL ((kids A 0).map (tree A 40)) ≤ 1000) := by
        have h := hts
        rw [Tr.size_eq] at h
        show sizeL (tree A 41 0).kids ≤ 1000
        omega
      have OA : Hid (∀ W, Below W3.heap.size W3 W → Calls Try.prog 43 #[.slice aa A.length capa, .int .i64 0] W fun e w' => ∃ c, e = .returned c ∧ PartsIn 40 w' (fun g => W.heap.size ≤ g ∧ g < w'.heap.size) c ((kids A 0).map (tree A 40)) ∧ Below W.heap.size W w') := fun W hW => ownParts_any A _ hga 40 0 W (HA.out.below (HC3.out W hW).2) (by omega) (by omega)
      have OB : Hid (∀ W, Below W3.heap.size W3 W → Calls Try.prog 43 #[.slice ab B.length capb, .int .i64 0] W fun e w' => ∃ c, e = .returned c ∧ PartsIn 40 w' (fun g => W.heap.size ≤ g ∧ g < w'.heap.size) c ((kids B 0).map (tree B 40)) ∧ Below W.heap.size W w') := fun W hW => ownParts_any B _ hgb 40 0 W (HB.out.below (HC3.out W hW).2) (by omega) (by omega)
      have JP : Hid (∀ (W : World) (ca cb : Value) (Sa Sb : Nat → Prop), PartsIn 40 W Sa ca ((kids A 0).map (tree A 40)) → PartsIn 40 W Sb cb ((kids B 0).map (tree B 40)) → (∀ g, Sa g → g < W.heap.size) → (∀ g, Sb g → g < W.heap.size) → Calls Try.prog 49 #[ca, cb] W fun e w' => ∃ rv, e = .returned rv ∧ PartsIn 40 w' (fun g => ((Sa g ∨ Sb g) ∨ W.heap.size ≤ g) ∧ g < w'.heap.size) rv (joinRoot A B).kids ∧ Below W.heap.size W w') := fun W ca cb Sa Sb h1 h2 h3 h4 => joinParts_of 40 (joinSh_any 40) _ _ ca cb Sa Sb W h1 h2 h3 h4 HSZ.out
      have WS : Hid (∀ (W : World) (c : Value) (S : Nat → Prop), PartsIn 40 W S c (joinRoot A B).kids → (∀ g, S g → g < W.heap.size) → Calls Try.prog 44 #[c] W fun e w' => ∃ rv, e = .returned (.agg #[rv]) ∧ TyRow w' W.heap.size rv (flat (joinRoot A B) (-1) 0) ∧ Below W.heap.size W w') := fun W c S h1 h2 => wholeSchema_any 40 (joinRoot A B).kids c S W h1 h2 (by have h := HL.out.size; rw [Tr.size_eq (joinRoot A B)] at h; show sizeL (joinRoot A B).kids + 1 ≤ _; omega) (fun x hx => ⟨((NmT_iff _).1 (join_names A B hga hgb)).2 x hx, ((FG_iff _).1 (gt_fg _ HL.out.good)).2.2 x hx⟩)
      clear HSZ hts HL a1 b1 HA HB
      generalize flat (joinRoot A B) (-1) 0 = F at *
      generalize (joinRoot A B).kids = JK at *
      generalize (kids A 0).map (tree A 40) = KA at *
      generalize (kids B 0).map (tree B 40) = KB at *
      clear hga hgb
      have hb35d : Below W3.heap.size W3 w5.drew := hb35.drew
      have hqd : w5.drew.cell? ⟨w.heap.size, 0, none⟩ = some (.slice aa A.length capa) ∧ w5.drew.cell? ⟨w.heap.size + 1, 0, none⟩ = some (.slice ab B.length capb) := ⟨qa5, qb5⟩
      go_upto_region 3 with fail
      go_region_held3 (fun w' => w'.cell? ⟨w.heap.size, 0, none⟩ = some (.slice aa A.length capa) ∧ w'.cell? ⟨w.heap.size + 1, 0, none⟩ = some (.slice ab B.length capb))
        (first
          | exact ⟨(World.cell?_setCell_other _ _ _ _ (fun e => by have h := congrArg Addr.block e; dsimp only at h; omega)).trans hq9.1.1, (World.cell?_setCell_other _ _ _ _ (fun e => by have h := congrArg Addr.block e; dsimp only at h; omega)).trans hq9.1.2.1⟩
          | exact ⟨hq9.1.1, hq9.1.2.1⟩ | exact ⟨hq8.1.1, hq8.1.2.1⟩ | exact ⟨hq7.1.1, hq7.1.2.1⟩ | exact ⟨hq6.1.1, hq6.1.2.1⟩ | exact hqd | exact ⟨qa5, qb5⟩)
        (first
          | (go_at_call 44; refine (WS.out _ _ _ hp8 (fun g hg => hg.2)).mono ?_; rintro e w9 ⟨rv, rfl, hrow9, hb9⟩; have hb39 : Below W3.heap.size W3 w9 := hb38.trans (hb9.mono hb38.size); have hq9 := HC3.out _ hb39; have hbs8 := hb38.size; have x9 := hq9.1.2.2.1; have z9 := hq9.1.2.2.2.1; have hz9 := hq9.1.2.2.2.2; have hs3 := HS3.out; have HROW : Hid (TyRow (w9.setCell ⟨w.heap.size + 1 + 1, 0, none⟩ rv) w.heap.size rv F) := (TyRow.setCell hrow9 (a := ⟨w.heap.size + 1 + 1, 0, none⟩) (by show w.heap.size + 1 + 1 < _; omega) rv).lower (by omega); obtain ⟨ar, capr, rfl, _⟩ := ownSlice hrow9; clear hs3)
          | (go_at_call 49; refine (JP.out _ _ _ _ _ hpa7 hpb7 (fun g hg => by have h1 := hb7.size; have h2 := hg.2; omega) (fun g hg => hg.2)).mono ?_; rintro e w8 ⟨c8, rfl, hp8, hb8⟩; have hb38 : Below W3.heap.size W3 w8 := hb37.trans (hb8.mono hb37.size); have hq8 := HC3.out _ hb38)
          | (go_at_call 43; refine (OB.out _ hb36).mono ?_; rintro e w7 ⟨cb7, rfl, hpb7, hb7⟩; have hb37 : Below W3.heap.size W3 w7 := hb36.trans (hb7.mono hb36.size); have hq7 := HC3.out _ hb37; have hpa7 := hpa6.kept (fun g hg => hb7.block g hg.2) (fun _ h => h))
          | (go_at_call 43; refine (OA.out _ hb35d).mono ?_; rintro e w6 ⟨ca6, rfl, hpa6, hb6⟩; have hb36 : Below W3.heap.size W3 w6 := hb35d.trans (hb6.mono hb35d.size); have hq6 := HC3.out _ hb36))
      have hB9 := hq9.2
      go_wp2
      (try simp only [Exit.inBlock, Exit.then])
      refine bodyPost_ret (v := .tuple #[.agg #[.slice ar F.length capr], .bool true]) ?_ rfl ⟨.slice ar F.length capr, by rw [hn.out], ?_, ?_⟩
      · rw [results_cell_tmp rfl]
        go_simp
      · rw [hn.out]
        exact HROW.out
      · exact hB9.setCell (p := ⟨w.heap.size + 1 + 1, 0, none⟩) hle _
    · have hg' : gs B = false := by simpa using hgb
      have hn : Hid (R = ([], false)) := HR.out.trans (jof_no A B (fun h => hgb h.2))
      rw [hg']
      clear hgb hg' hga
      go_wp2
      (try simp only [Exit.inBlock, Exit.then])
      refine bodyPost_ret (v := .tuple #[.agg #[.slice none 0 0], .bool false]) ?_ rfl ⟨.slice none 0 0, by rw [hn.out], ?_, ?_⟩
      · rw [results_cell_tmp rfl]
        go_simp
      · rw [hn.out]
        exact World.ownsRow_nil _ _ _ _
      · exact hB5.setCell (p := ⟨w.heap.size + 1 + 1, 0, none⟩) hle _
  · have hg' : gs A = false := by simpa using hga
    have hn : Hid (R = ([], false)) := HR.out.trans (jof_no A B (fun h => hga h.1))
    rw [hg']
    clear hg' hga
    go_wp2
    (try simp only [Exit.inBlock, Exit.then])
    refine bodyPost_ret (v := .tuple #[.agg #[.slice none 0 0], .bool false]) ?_ rfl ⟨.slice none 0 0, by rw [hn.out], ?_, ?_⟩
    · rw [results_cell_tmp rfl]
      go_simp
    · rw [hn.out]
      exact World.ownsRow_nil _ _ _ _
    · exact hB4.setCell (p := ⟨w.heap.size + 1 + 1, 0, none⟩) hle _

end Go.Proofs.Ytbkdpcfghaiimaa
