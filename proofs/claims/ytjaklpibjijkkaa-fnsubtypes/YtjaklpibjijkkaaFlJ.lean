/- A message of a schema as a schema of its own: the program's and the model's SubSchema at every argument. -/
import Derived.Test.YtjaklpibjijkkaaFlI
namespace Go.Proofs.Ytjaklpibjijkkaa
open Go.RowKit Plain Sch

set_option maxRecDepth 100000 in
set_option maxHeartbeats 4000000 in
theorem implSubS (T : List Ty) (v : Value) (k : Int) (w : World) (hT : TysAt w w.heap.size v T) :
    Calls Try.prog 15 #[.agg #[v], .int .i64 k] w fun e w' => OSchema w w' e (ssof T k) := by
  have HT : Hid (TysAt w w.heap.size v T) := hT
  obtain ⟨R, hR⟩ : ∃ R, R = ssof T k := ⟨_, rfl⟩
  rw [← hR]
  have HR : Hid (R = ssof T k) := hR
  clear hR
  obtain ⟨ao, cap, rfl, hlc, hcm, hrow, _⟩ := hT
  have HROW : Hid (∀ i, i < T.length → ∃ g o, ao = some ⟨g, o, none⟩ ∧ g < w.heap.size ∧ TyIn w g (o + i * 6) (ty T i)) := hrow
  clear hrow
  have hcm' : (cap : Int) ≤ 9223372036854775807 := by unfold maxLen at hcm; omega
  have hlm : (T.length : Int) ≤ 9223372036854775807 := by omega
  obtain ⟨W2, hW2⟩ : ∃ W, W = (w.alloc (.cells #[.slice ao T.length cap] 30)).alloc (.cells #[.slice none 0 0] 30) := ⟨_, rfl⟩
  have hB1 : Below w.heap.size w W2 := by rw [hW2]; exact ((Below.refl _ w).alloc (Nat.le_refl _) _).alloc (by simp) _
  have HS2 : Hid (W2.heap.size = w.heap.size + 2) := by show _ = _; rw [hW2]; simp
  have q0 : W2.cell? ⟨w.heap.size, 0, none⟩ = some (.slice ao T.length cap) := by rw [hW2]; go_simp
  have x0 : W2.cell? ⟨w.heap.size + 1, 0, none⟩ = some (.slice none 0 0) := by rw [hW2]; go_simp
  have z0 : W2.frozen? ⟨w.heap.size + 1, 0, none⟩ = false := by rw [hW2]; go_simp
  unfold OSchema
  go_enter Try.func15, Try.ntmps15
  go_wp2_with fail
  rw [← hW2]
  clear hW2
  refine (implGoodT T _ _ (HT.out.below hB1)).mono ?_
  rintro e w2 ⟨rfl, hb2⟩
  have hB2 : Below w.heap.size w w2 := hB1.trans (hb2.mono hB1.size)
  have hz2 : w.heap.size + 1 < w2.heap.size := by have := hb2.size; have := HS2.out; omega
  have q2 := (hb2.cell (p := ⟨w.heap.size, 0, none⟩) (by have := HS2.out; show w.heap.size < _; omega)).trans q0
  have x2 := (hb2.cell (p := ⟨w.heap.size + 1, 0, none⟩) (by have := HS2.out; show w.heap.size + 1 < _; omega)).trans x0
  have z2 := (hb2.frozen (p := ⟨w.heap.size + 1, 0, none⟩) (by have := HS2.out; show w.heap.size + 1 < _; omega)).trans z0
  have hle : w.heap.size ≤ w.heap.size + 1 := by omega
  clear hb2 q0 x0 z0
  by_cases hg : gs T = true
  · rw [hg]
    by_cases h0 : k < 0
    · have hn : Hid (R = ([], false)) := HR.out.trans (ssof_no T k (fun h => by omega))
      clear hg
      go_wp2
      (try simp only [Exit.inBlock, Exit.then])
      refine bodyPost_ret (v := .tuple #[.agg #[.slice none 0 0], .bool false]) ?_ rfl ⟨.slice none 0 0, by rw [hn.out], ?_, ?_⟩
      · rw [results_cell_tmp rfl]
        go_simp
      · rw [hn.out]
        exact World.ownsRow_nil _ _ _ _
      · exact hB2.setCell (p := ⟨w.heap.size + 1, 0, none⟩) hle _
    · by_cases h1 : (T.length : Int) ≤ k
      · have hn : Hid (R = ([], false)) := HR.out.trans (ssof_no T k (fun h => by omega))
        have h0' : decide (k < 0) = false := by simpa using h0
        clear hg h0
        go_wp2
        (try simp only [Exit.inBlock, Exit.then])
        refine bodyPost_ret (v := .tuple #[.agg #[.slice none 0 0], .bool false]) ?_ rfl ⟨.slice none 0 0, by rw [hn.out], ?_, ?_⟩
        · rw [results_cell_tmp rfl]
          go_simp
        · rw [hn.out]
          exact World.ownsRow_nil _ _ _ _
        · exact hB2.setCell (p := ⟨w.heap.size + 1, 0, none⟩) hle _
      · obtain ⟨n, rfl⟩ := Int.eq_ofNat_of_zero_le (show 0 ≤ k by omega)
        have HG : Hid (gs T = true) := hg
        have h30 := (gs_types T hg).2.1
        obtain ⟨g, o, rfl, hgb, hty⟩ := HROW.out n (by omega)
        have c0 := (hty.below hB2 hgb).1
        have h1' : decide ((T.length : Int) ≤ (n : Int)) = false := by simpa using h1
        have hn' : (n : Int) < (T.length : Int) := by omega
        have hn0' : (0 : Int) ≤ (n : Int) := by omega
        have HT2 : Hid (TysAt w2 w2.heap.size (.slice (some ⟨g, o, none⟩) T.length cap) T) := HT.out.below hB2
        clear hg h0 hty
        by_cases h5 : (ty T n).kind = 5
        · have hn : Hid (R = (flat (bareT (tree T 41 n)) (-1) 0, true)) := HR.out.trans (ssof_yes T n HG.out (by omega) h5)
          have HH5 : Hid ((ty T n).kind = 5) := h5
          have HTELL : Hid (tell (bareT (tree T 41 n)) = (flat (bareT (tree T 41 n)) (-1) 0, true)) := tell_yes _ (sub_good T HG.out 41 n (by omega) (by omega) h5)
          have HNMB : Hid (NmT (bareT (tree T 41 n))) := gt_names _ (by show ByteArray.size ⟨#[]⟩ ≤ 10; simp [ByteArray.size]) (bare_good _ (tree_good T HG.out 41 n (by omega) (by omega)))
          rw [h5] at c0
          clear h5
          have OP : Hid (Calls Try.prog 38 #[.slice (some ⟨g, o, none⟩) T.length cap, .int .i64 n] w2 (OwnPartsR T 40 n w2)) := ownParts_any T _ HG.out 40 n w2 HT2.out (by omega) (by omega)
          unfold OwnPartsR at OP
          have HBM : Hid (bareT (tree T 41 n) = .mk 5 ⟨#[]⟩ 0 false 0 ((kids T n).map (tree T 40))) := bare_message T HG.out n (by omega) HH5.out
          rw [HBM.out] at hn HNMB
          have HFG : Hid (FG (.mk 5 ⟨#[]⟩ 0 false 0 ((kids T n).map (tree T 40)))) := by
            rw [← HBM.out]
            exact gt_fg _ (bare_good _ (tree_good T HG.out 41 n (by omega) (by omega)))
          have HSZ : Hid (sizeL ((kids T n).map (tree T 40)) + 1 ≤ 30) := by
            have h1 := tree_size T HG.out 41 n (by omega) (by omega)
            rw [← bare_size, HBM.out] at h1
            show _ ≤ _
            rw [Tr.size] at h1
            omega
          generalize (kids T n).map (tree T 40) = ks at *
          have HKS : Hid (∀ x ∈ ks, NmT x ∧ FG x) := fun x hx => ⟨((NmT_iff _).1 HNMB.out).2 x hx, ((FG_iff _).1 HFG.out).2.2 x hx⟩
          go_wp2_with fail
          refine OP.out.mono ?_
          rintro e w5 ⟨c, rfl, hpk, hb5⟩
          have hB5 : Below w.heap.size w w5 := hB2.trans (hb5.mono hB2.size)
          have hz5 : w.heap.size + 1 < w5.heap.size := by have := hb5.size; omega
          have x5 := (hb5.cell (p := ⟨w.heap.size + 1, 0, none⟩) hz2).trans x2
          have z5 := (hb5.frozen (p := ⟨w.heap.size + 1, 0, none⟩) hz2).trans z2
          have WH : Hid (Calls Try.prog 41 #[c] w5 fun e w' => ∃ rv, e = .returned (.agg #[rv]) ∧ TyRow w' w5.heap.size rv (flat (.mk 5 ⟨#[]⟩ 0 false 0 ks) (-1) 0) ∧ Below w5.heap.size w5 w') := wholeSchema_any 40 ks c _ w5 hpk (fun g hg => hg.2) (by have := HSZ.out; omega) HKS.out
          clear hpk hb5 OP
          generalize flat (.mk 5 ⟨#[]⟩ 0 false 0 ks) (-1) 0 = F at *
          go_wp2_with fail
          refine WH.out.mono ?_
          rintro e w6 ⟨rv, rfl, hrow, hb6⟩
          have hB6 : Below w.heap.size w w6 := hB5.trans (hb6.mono hB5.size)
          have x6 := (hb6.cell (p := ⟨w.heap.size + 1, 0, none⟩) hz5).trans x5
          have z6 := (hb6.frozen (p := ⟨w.heap.size + 1, 0, none⟩) hz5).trans z5
          have hz6 : w.heap.size + 1 < w6.heap.size := by have := hb6.size; omega
          have HROW : Hid (TyRow (w6.setCell ⟨w.heap.size + 1, 0, none⟩ rv) w.heap.size rv F) := (hrow.setCell (a := ⟨w.heap.size + 1, 0, none⟩) hz5 rv).lower hB5.size
          obtain ⟨ar, capr, rfl, _⟩ := ownSlice hrow
          clear hrow hb6 WH x5 z5
          go_wp2
          (try simp only [Exit.inBlock, Exit.then])
          refine bodyPost_ret (v := .tuple #[.agg #[.slice ar F.length capr], .bool true]) ?_ rfl ⟨.slice ar F.length capr, by rw [hn.out], ?_, ?_⟩
          · rw [results_cell_tmp rfl]
            go_simp
          · rw [hn.out]
            exact HROW.out
          · exact hB6.setCell (p := ⟨w.heap.size + 1, 0, none⟩) hle _
        · have hn : Hid (R = ([], false)) := HR.out.trans (ssof_no T n (fun h => h5 (by have := h.2.2.2; rwa [Int.toNat_natCast] at this)))
          have h5' : ((ty T n).kind != 5) = true := by simpa using h5
          have h5'' : ((ty T n).kind == 5) = false := by simpa using h5
          clear h5
          go_wp2
          (try simp only [Exit.inBlock, Exit.then])
          refine bodyPost_ret (v := .tuple #[.agg #[.slice none 0 0], .bool false]) ?_ rfl ⟨.slice none 0 0, by rw [hn.out], ?_, ?_⟩
          · rw [results_cell_tmp rfl]
            go_simp
          · rw [hn.out]
            exact World.ownsRow_nil _ _ _ _
          · exact hB2.setCell (p := ⟨w.heap.size + 1, 0, none⟩) hle _
  · have hg' : gs T = false := by simpa using hg
    have hn : Hid (R = ([], false)) := HR.out.trans (ssof_no T k (fun h => hg h.1))
    rw [hg']
    clear hg hg'
    go_wp2
    (try simp only [Exit.inBlock, Exit.then])
    refine bodyPost_ret (v := .tuple #[.agg #[.slice none 0 0], .bool false]) ?_ rfl ⟨.slice none 0 0, by rw [hn.out], ?_, ?_⟩
    · rw [results_cell_tmp rfl]
      go_simp
    · rw [hn.out]
      exact World.ownsRow_nil _ _ _ _
    · exact hB2.setCell (p := ⟨w.heap.size + 1, 0, none⟩) hle _


set_option maxRecDepth 100000 in
set_option maxHeartbeats 4000000 in
theorem specSubS (T : List Ty) (v : Value) (k : Int) (w : World) (hT : TysAt w w.heap.size v T) :
    Calls Try.prog 14 #[.agg #[v], .int .i64 k] w fun e w' => OSchema w w' e (ssof T k) := by
  have HT : Hid (TysAt w w.heap.size v T) := hT
  obtain ⟨R, hR⟩ : ∃ R, R = ssof T k := ⟨_, rfl⟩
  rw [← hR]
  have HR : Hid (R = ssof T k) := hR
  clear hR
  obtain ⟨ao, cap, rfl, hlc, hcm, hrow, _⟩ := hT
  have HROW : Hid (∀ i, i < T.length → ∃ g o, ao = some ⟨g, o, none⟩ ∧ g < w.heap.size ∧ TyIn w g (o + i * 6) (ty T i)) := hrow
  clear hrow
  have hcm' : (cap : Int) ≤ 9223372036854775807 := by unfold maxLen at hcm; omega
  have hlm : (T.length : Int) ≤ 9223372036854775807 := by omega
  obtain ⟨W2, hW2⟩ : ∃ W, W = (w.alloc (.cells #[.slice ao T.length cap] 30)).alloc (.cells #[.slice none 0 0] 30) := ⟨_, rfl⟩
  have hB1 : Below w.heap.size w W2 := by rw [hW2]; exact ((Below.refl _ w).alloc (Nat.le_refl _) _).alloc (by simp) _
  have HS2 : Hid (W2.heap.size = w.heap.size + 2) := by show _ = _; rw [hW2]; simp
  have q0 : W2.cell? ⟨w.heap.size, 0, none⟩ = some (.slice ao T.length cap) := by rw [hW2]; go_simp
  have x0 : W2.cell? ⟨w.heap.size + 1, 0, none⟩ = some (.slice none 0 0) := by rw [hW2]; go_simp
  have z0 : W2.frozen? ⟨w.heap.size + 1, 0, none⟩ = false := by rw [hW2]; go_simp
  unfold OSchema
  go_enter Try.func14, Try.ntmps14
  go_wp2_with fail
  rw [← hW2]
  clear hW2
  refine (specGood_any T _ _ (HT.out.below hB1)).mono ?_
  rintro e w2 ⟨rfl, hb2⟩
  have hB2 : Below w.heap.size w w2 := hB1.trans (hb2.mono hB1.size)
  have hz2 : w.heap.size + 1 < w2.heap.size := by have := hb2.size; have := HS2.out; omega
  have q2 := (hb2.cell (p := ⟨w.heap.size, 0, none⟩) (by have := HS2.out; show w.heap.size < _; omega)).trans q0
  have x2 := (hb2.cell (p := ⟨w.heap.size + 1, 0, none⟩) (by have := HS2.out; show w.heap.size + 1 < _; omega)).trans x0
  have z2 := (hb2.frozen (p := ⟨w.heap.size + 1, 0, none⟩) (by have := HS2.out; show w.heap.size + 1 < _; omega)).trans z0
  have hle : w.heap.size ≤ w.heap.size + 1 := by omega
  clear hb2 q0 x0 z0
  by_cases hg : gs T = true
  · rw [hg]
    by_cases h0 : k < 0
    · have hn : Hid (R = ([], false)) := HR.out.trans (ssof_no T k (fun h => by omega))
      clear hg
      go_wp2
      (try simp only [Exit.inBlock, Exit.then])
      refine bodyPost_ret (v := .tuple #[.agg #[.slice none 0 0], .bool false]) ?_ rfl ⟨.slice none 0 0, by rw [hn.out], ?_, ?_⟩
      · rw [results_cell_tmp rfl]
        go_simp
      · rw [hn.out]
        exact World.ownsRow_nil _ _ _ _
      · exact hB2.setCell (p := ⟨w.heap.size + 1, 0, none⟩) hle _
    · by_cases h1 : (T.length : Int) ≤ k
      · have hn : Hid (R = ([], false)) := HR.out.trans (ssof_no T k (fun h => by omega))
        have h0' : decide (k < 0) = false := by simpa using h0
        clear hg h0
        go_wp2
        (try simp only [Exit.inBlock, Exit.then])
        refine bodyPost_ret (v := .tuple #[.agg #[.slice none 0 0], .bool false]) ?_ rfl ⟨.slice none 0 0, by rw [hn.out], ?_, ?_⟩
        · rw [results_cell_tmp rfl]
          go_simp
        · rw [hn.out]
          exact World.ownsRow_nil _ _ _ _
        · exact hB2.setCell (p := ⟨w.heap.size + 1, 0, none⟩) hle _
      · obtain ⟨n, rfl⟩ := Int.eq_ofNat_of_zero_le (show 0 ≤ k by omega)
        have HG : Hid (gs T = true) := hg
        have h30 := (gs_types T hg).2.1
        obtain ⟨g, o, rfl, hgb, hty⟩ := HROW.out n (by omega)
        have c0 := (hty.below hB2 hgb).1
        have h1' : decide ((T.length : Int) ≤ (n : Int)) = false := by simpa using h1
        have hn' : (n : Int) < (T.length : Int) := by omega
        have hn0' : (0 : Int) ≤ (n : Int) := by omega
        have HT2 : Hid (TysAt w2 w2.heap.size (.slice (some ⟨g, o, none⟩) T.length cap) T) := HT.out.below hB2
        clear hg h0 hty
        by_cases h5 : (ty T n).kind = 5
        · have hn : Hid (R = (flat (bareT (tree T 41 n)) (-1) 0, true)) := HR.out.trans (ssof_yes T n HG.out (by omega) h5)
          have HH5 : Hid ((ty T n).kind = 5) := h5
          have HTELL : Hid (tell (bareT (tree T 41 n)) = (flat (bareT (tree T 41 n)) (-1) 0, true)) := tell_yes _ (sub_good T HG.out 41 n (by omega) (by omega) h5)
          have HNMB : Hid (NmT (bareT (tree T 41 n))) := gt_names _ (by show ByteArray.size ⟨#[]⟩ ≤ 10; simp [ByteArray.size]) (bare_good _ (tree_good T HG.out 41 n (by omega) (by omega)))
          rw [h5] at c0
          clear h5
          go_wp2_with fail
          refine (l2Tree_any T _ (by omega) 41 n _ HT2.out (by omega) (by omega)).mono ?_
          rintro e w5 ⟨c, rfl, hkk, hb5⟩
          have hB5 : Below w.heap.size w w5 := hB2.trans (hb5.mono hB2.size)
          have hz5 : w.heap.size + 1 < w5.heap.size := by have := hb5.size; omega
          have x5 := (hb5.cell (p := ⟨w.heap.size + 1, 0, none⟩) hz2).trans x2
          have z5 := (hb5.frozen (p := ⟨w.heap.size + 1, 0, none⟩) hz2).trans z2
          obtain ⟨ac, cc, rfl, _⟩ := hkk.form
          have hB6 : ∀ ob, Below w5.heap.size w5 (w5.alloc ob) := fun ob => (Below.refl _ w5).alloc (Nat.le_refl _) ob
          have TL : Hid (∀ ob, Calls Try.prog 40 #[tv (bareT (tree T 41 n)) ac (tree T 41 n).kids.length cc] (w5.alloc ob) fun e w' => ∃ rv, e = .returned (.tuple #[.agg #[rv], .bool (tell (bareT (tree T 41 n))).2]) ∧ TyRow w' (w5.alloc ob).heap.size rv (tell (bareT (tree T 41 n))).1 ∧ Below (w5.alloc ob).heap.size (w5.alloc ob) w') := fun ob =>
            l2Tell_any 41 (bareT (tree T 41 n)) ac (tree T 41 n).kids.length cc (fun g => w2.heap.size ≤ g ∧ g < w5.heap.size) (w5.alloc ob) (hkk.kept (fun g hg => (hB6 ob).block g hg.2) (fun _ h => h)) (fun g hg => by have := (hB6 ob).size; omega) (by rw [bare_size]; have := tree_size T HG.out 41 n (by omega) (by omega); omega) (HNMB.out)
          rw [HTELL.out] at TL
          unfold tv bareT trVal at *
          dsimp only [Tr.kind, Tr.name, Tr.no, Tr.must, Tr.most] at TL
          clear hkk hb5
          generalize tree T 41 n = tt at *
          obtain ⟨tk, tn, tno, tmu, tmo, tks⟩ := tt
          dsimp only [Tr.kind, Tr.name, Tr.no, Tr.must, Tr.most, Tr.kids] at *
          go_wp2_with fail
          refine (TL.out _).mono ?_
          rintro e w7 ⟨rv, rfl, hrow, hb7⟩
          have hb7' := hb7.mono (show w5.heap.size ≤ _ by simp)
          have hB7 : Below w.heap.size w w7 := (hB5.alloc hB5.size _).trans (hb7.mono (by simp; omega))
          have x7 := (hb7.cell (p := ⟨w.heap.size + 1, 0, none⟩) (by simp; omega)).trans (((hB6 _).cell (p := ⟨w.heap.size + 1, 0, none⟩) hz5).trans x5)
          have z7 := (hb7.frozen (p := ⟨w.heap.size + 1, 0, none⟩) (by simp; omega)).trans (((hB6 _).frozen (p := ⟨w.heap.size + 1, 0, none⟩) hz5).trans z5)
          have hz7 : w.heap.size + 1 < w7.heap.size := by have := hb7.size; simp at this; omega
          have HROW : Hid (TyRow (w7.setCell ⟨w.heap.size + 1, 0, none⟩ rv) w.heap.size rv _) := (hrow.setCell (a := ⟨w.heap.size + 1, 0, none⟩) (by simp; omega) rv).lower (by have := hB5.size; simp; omega)
          generalize flat (.mk tk ⟨#[]⟩ 0 false tmo tks) (-1) 0 = F at *
          obtain ⟨ar, capr, rfl, _⟩ := ownSlice hrow
          clear hrow hb7 hb7' TL x5 z5
          go_wp2
          (try simp only [Exit.inBlock, Exit.then])
          refine bodyPost_ret (v := .tuple #[.agg #[.slice ar F.length capr], .bool true]) ?_ rfl ⟨.slice ar F.length capr, by rw [hn.out], ?_, ?_⟩
          · rw [results_cell_tmp rfl]
            go_simp
          · rw [hn.out]
            exact HROW.out
          · exact hB7.setCell (p := ⟨w.heap.size + 1, 0, none⟩) hle _
        · have hn : Hid (R = ([], false)) := HR.out.trans (ssof_no T n (fun h => h5 (by have := h.2.2.2; rwa [Int.toNat_natCast] at this)))
          have h5' : ((ty T n).kind != 5) = true := by simpa using h5
          have h5'' : ((ty T n).kind == 5) = false := by simpa using h5
          clear h5
          go_wp2
          (try simp only [Exit.inBlock, Exit.then])
          refine bodyPost_ret (v := .tuple #[.agg #[.slice none 0 0], .bool false]) ?_ rfl ⟨.slice none 0 0, by rw [hn.out], ?_, ?_⟩
          · rw [results_cell_tmp rfl]
            go_simp
          · rw [hn.out]
            exact World.ownsRow_nil _ _ _ _
          · exact hB2.setCell (p := ⟨w.heap.size + 1, 0, none⟩) hle _
  · have hg' : gs T = false := by simpa using hg
    have hn : Hid (R = ([], false)) := HR.out.trans (ssof_no T k (fun h => hg h.1))
    rw [hg']
    clear hg hg'
    go_wp2
    (try simp only [Exit.inBlock, Exit.then])
    refine bodyPost_ret (v := .tuple #[.agg #[.slice none 0 0], .bool false]) ?_ rfl ⟨.slice none 0 0, by rw [hn.out], ?_, ?_⟩
    · rw [results_cell_tmp rfl]
      go_simp
    · rw [hn.out]
      exact World.ownsRow_nil _ _ _ _
    · exact hB2.setCell (p := ⟨w.heap.size + 1, 0, none⟩) hle _


end Go.Proofs.Ytjaklpibjijkkaa
