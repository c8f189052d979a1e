/- The program's appendWants. -/
import Derived.Test.YtpopjapcgcnnfabDoorWfB
import Derived.Test.YtpopjapcgcnnfabDoorFwB
import Derived.Test.YtpopjapcgcnnfabDoorClnA
import Derived.Deep.AppendLies
import Derived.Deep.DeepCutAuto
namespace Go.Proofs.YtpopjapcgcnnfabDoor
open Go.RowKit Plain Sch Wan

attribute [local go_sem] storeJ storeF

/-- a row of wants of the call's own -/
def WRow (w : World) (B : Nat) (v : Value) (L : List Wa) : Prop := w.ownsRow B 72 6 v L.length (L.flatMap Wa.cells)

theorem WRow.slice {w : World} {B : Nat} {v : Value} {L : List Wa} (h : WRow w B v L) : ∃ ao cap, v = Value.slice ao L.length cap := by
  rcases h.2 with ⟨rfl, h0⟩ | ⟨g, cap, _, rfl, _⟩
  · exact ⟨none, 0, by rw [h0]⟩
  · exact ⟨_, _, rfl⟩

theorem WRow.below {w w' : World} {B : Nat} {v : Value} {L : List Wa} (h : WRow w B v L) (hb : Below w.heap.size w w') : WRow w' B v L := own_belowFw h hb

theorem one6W (k n m : Int) (t : ByteArray) (a b : Int) : ∀ u ∈ [Value.int .i64 k, .int .i64 n, .int .i64 m, .string t, .int .i64 a, .int .i64 b], u.oneCell' = true := by
  intro u hu
  simp at hu
  rcases hu with rfl | rfl | rfl | rfl | rfl | rfl <;> rfl

theorem okW_text {x : Wa} {i : Nat} (h : okW x i = true) : x.text.size ≤ 30 := by
  unfold okW at h
  by_cases h1 : isAsk x.kind = true
  · rw [if_pos h1] at h
    simp only [okAsk, Bool.and_eq_true, decide_eq_true_eq] at h
    exact h.2
  · rw [if_neg h1] at h
    by_cases h2 : isBin x.kind = true
    · rw [if_pos h2] at h
      simp only [okBin, Bool.and_eq_true, decide_eq_true_eq] at h
      have := congrArg (fun x : Wa => x.text.size) h.1.1.1
      dsimp only at this
      rw [this]; decide
    · rw [if_neg h2] at h
      by_cases h3 : isNot x.kind = true
      · rw [if_pos h3] at h
        simp only [okNot, Bool.and_eq_true, decide_eq_true_eq] at h
        have := congrArg (fun x : Wa => x.text.size) h.1.1
        dsimp only at this
        rw [this]; decide
      · rw [if_neg h3] at h; cases h

theorem okW_binG {x : Wa} {i : Nat} (h : okW x i = true) (hb : isBin x.kind = true) : 0 ≤ x.a ∧ x.a < x.b ∧ x.b < i := by
  unfold okW at h
  rw [if_neg (by intro e; have := ask_bounds e; have := bin_bounds hb; omega), if_pos hb] at h
  simp only [okBin, Bool.and_eq_true, decide_eq_true_eq] at h
  omega

theorem okW_notG {x : Wa} {i : Nat} (h : okW x i = true) (hb : isNot x.kind = true) : 0 ≤ x.a ∧ x.a < i := by
  unfold okW at h
  rw [if_neg (by intro e; have := ask_bounds e; have := not_bounds hb; omega), if_neg (by intro e; have := bin_bounds e; have := not_bounds hb; omega), if_pos hb] at h
  simp only [okNot, Bool.and_eq_true, decide_eq_true_eq] at h
  omega

theorem infoWaG : (Tryd.prog.info? 72).map (fun i => (i.zero, i.size, i.bytes)) = some (some (.agg #[.int .i64 0, .int .i64 0, .int .i64 0, .string ⟨#[]⟩, .int .i64 0, .int .i64 0]), 6, 56) := by kernel_rfl

set_option maxRecDepth 100000 in
set_option maxHeartbeats 8000000 in
theorem appendWants_any (L M : List Wa) (rv mv : Value) (B : Nat) (w : World) (hown : WRow w B rv L) (hM : WasAt w B mv M) (hBw : B ≤ w.heap.size) (hL : L.length ≤ 20) (hML : M.length ≤ 20) (hok : ∀ i, i < M.length → okW (wa M i) i = true) :
    Calls Tryd.prog 51 #[rv, mv] w fun e w' => ∃ rv', e = .returned rv' ∧ WRow w' B rv' (L ++ M.map (sh L.length)) ∧ Below B w w' := by
  obtain ⟨i0, hi, hz0, hz1, hz2⟩ := info_parts infoWaG
  obtain ⟨ar, capr, rfl⟩ := hown.slice
  obtain ⟨ao, cap, rfl, hlc, hcm, hrow, _⟩ := hM
  have HROW : Hid (∀ i, i < M.length → ∃ g o, ao = some ⟨g, o, none⟩ ∧ g < B ∧ WaIn w g (o + i * 6) (wa M i)) := hrow
  have HOK : Hid (∀ i, i < M.length → okW (wa M i) i = true) := hok
  have HOWN : Hid (WRow w B (.slice ar L.length capr) L) := hown
  clear hrow hok hown
  unfold maxLen at hcm
  go_enter Tryd.func51, Tryd.ntmps51
  go_wp2
  go_loopw [0, 14] (fun vl vi wr => ∃ i : Nat, i ≤ M.length ∧ vi = .int .i64 (i : Int) ∧ Hid (WRow wr B vl (L ++ (M.take i).map (sh L.length))) ∧ Hid (Below B w wr))
    (fun _ vi _ => M.length - (intOf vi).toNat)
  case atStart => exact ⟨0, by omega, rfl, by show WRow _ _ _ _; simpa using HOWN.out, Below.refl _ _⟩
  case round =>
    obtain ⟨i, hi', rfl, hZ, hBw2⟩ := hrel
    have hsz : B ≤ wr.heap.size := Nat.le_trans hBw hBw2.out.size
    by_cases hlt : i < M.length
    · have hlt' : (i : Int) < (M.length : Int) := by omega
      obtain ⟨g, o, rfl, hg, hty⟩ := HROW.out i hlt
      have hci := hty.below hBw2.out hg
      have hgw : g < wr.heap.size := by omega
      have hKC := Wan.kind_cases (HOK.out i hlt)
      have hTX := okW_text (HOK.out i hlt)
      have hOB : Hid (isBin (wa M i).kind = true → 0 ≤ (wa M i).a ∧ (wa M i).a < (wa M i).b ∧ (wa M i).b < i) := okW_binG (HOK.out i hlt)
      have hON : Hid (isNot (wa M i).kind = true → 0 ≤ (wa M i).a ∧ (wa M i).a < i) := okW_notG (HOK.out i hlt)
      have hST : Hid (L ++ (M.take (i + 1)).map (sh L.length) = (L ++ (M.take i).map (sh L.length)) ++ [sh L.length (wa M i)]) := by
        show _ = _
        rw [take_snoc M i hlt, List.map_append, List.append_assoc]; rfl
      have hDL : Hid ((L ++ (M.take i).map (sh L.length)).length = L.length + i) := by
        show _ = _
        rw [List.length_append, List.length_map, List.length_take, Nat.min_eq_left hi']
      generalize L ++ (M.take i).map (sh L.length) = D at hST hDL hZ
      generalize wa M i = x at hci hKC hTX hOB hON hST
      obtain ⟨k, no, m, t, a, b⟩ := x
      dsimp only at hci hKC hTX hOB hON
      obtain ⟨c0, c1, c2, c3, c4, c5⟩ := hci
      dsimp only at c0 c1 c2 c3 c4 c5
      clear hty
      obtain ⟨W3, hW3⟩ : ∃ W, W = wr.alloc (.cells #[.int .i64 k, .int .i64 no, .int .i64 m, .string t, .int .i64 a, .int .i64 b] 72) := ⟨_, rfl⟩
      have hA3 : Below wr.heap.size wr W3 := by rw [hW3]; exact (Below.refl _ wr).alloc (Nat.le_refl _) _
      have hl3 : wr.heap.size < W3.heap.size := by rw [hW3]; simp
      have z0 : W3.cell? ⟨wr.heap.size, 0, none⟩ = some (.int .i64 k) := by rw [hW3]; go_simp
      have z1 : W3.cell? ⟨wr.heap.size, 1, none⟩ = some (.int .i64 no) := by rw [hW3]; go_simp
      have z2 : W3.cell? ⟨wr.heap.size, 2, none⟩ = some (.int .i64 m) := by rw [hW3]; go_simp
      have z3 : W3.cell? ⟨wr.heap.size, 3, none⟩ = some (.string t) := by rw [hW3]; go_simp
      have z4 : W3.cell? ⟨wr.heap.size, 4, none⟩ = some (.int .i64 a) := by rw [hW3]; go_simp
      have z5 : W3.cell? ⟨wr.heap.size, 5, none⟩ = some (.int .i64 b) := by rw [hW3]; go_simp
      have y3 : W3.frozen? ⟨wr.heap.size, 3, none⟩ = false := by rw [hW3]; go_simp
      have y4 : W3.frozen? ⟨wr.heap.size, 4, none⟩ = false := by rw [hW3]; go_simp
      have y5 : W3.frozen? ⟨wr.heap.size, 5, none⟩ = false := by rw [hW3]; go_simp
      go_wp2_with fail
      rw [← hW3]
      clear hW3 c0 c1 c2 c3 c4 c5
      refine (clone_any t _ (by omega)).mono ?_
      rintro e w4 ⟨rfl, hb4⟩
      have hA4 : Below wr.heap.size wr w4 := hA3.trans (hb4.mono (by omega))
      have hl4 : wr.heap.size < w4.heap.size := by have := hb4.size; omega
      have z0 := (hb4.cell (p := ⟨wr.heap.size, 0, none⟩) hl3).trans z0
      have z1 := (hb4.cell (p := ⟨wr.heap.size, 1, none⟩) hl3).trans z1
      have z2 := (hb4.cell (p := ⟨wr.heap.size, 2, none⟩) hl3).trans z2
      have z3 := (hb4.cell (p := ⟨wr.heap.size, 3, none⟩) hl3).trans z3
      have z4 := (hb4.cell (p := ⟨wr.heap.size, 4, none⟩) hl3).trans z4
      have z5 := (hb4.cell (p := ⟨wr.heap.size, 5, none⟩) hl3).trans z5
      have y3 := (hb4.frozen (p := ⟨wr.heap.size, 3, none⟩) hl3).trans y3
      have y4 := (hb4.frozen (p := ⟨wr.heap.size, 4, none⟩) hl3).trans y4
      have y5 := (hb4.frozen (p := ⟨wr.heap.size, 5, none⟩) hl3).trans y5
      clear hb4 hA3 hl3
      obtain ⟨W5, hW5⟩ : ∃ W, W = w4.setCell ⟨wr.heap.size, 3, none⟩ (.string t) := ⟨_, rfl⟩
      have hA5 : Below wr.heap.size wr W5 := by rw [hW5]; exact hA4.setCell (Nat.le_refl _) _
      have hl5 : wr.heap.size < W5.heap.size := by rw [hW5]; simpa [World.setCell] using hl4
      have x0 : W5.cell? ⟨wr.heap.size, 0, none⟩ = some (.int .i64 k) := by rw [hW5, World.cell?_setCell_other _ _ _ _ (by simp)]; exact z0
      have x1 : W5.cell? ⟨wr.heap.size, 1, none⟩ = some (.int .i64 no) := by rw [hW5, World.cell?_setCell_other _ _ _ _ (by simp)]; exact z1
      have x2 : W5.cell? ⟨wr.heap.size, 2, none⟩ = some (.int .i64 m) := by rw [hW5, World.cell?_setCell_other _ _ _ _ (by simp)]; exact z2
      have x3 : W5.cell? ⟨wr.heap.size, 3, none⟩ = some (.string t) := by rw [hW5]; exact World.cell?_setCell_same _ _ _ z3
      have x4 : W5.cell? ⟨wr.heap.size, 4, none⟩ = some (.int .i64 a) := by rw [hW5, World.cell?_setCell_other _ _ _ _ (by simp)]; exact z4
      have x5 : W5.cell? ⟨wr.heap.size, 5, none⟩ = some (.int .i64 b) := by rw [hW5, World.cell?_setCell_other _ _ _ _ (by simp)]; exact z5
      have u4 : W5.frozen? ⟨wr.heap.size, 4, none⟩ = false := by rw [hW5, World.frozen?_setCell]; exact y4
      have u5 : W5.frozen? ⟨wr.heap.size, 5, none⟩ = false := by rw [hW5, World.frozen?_setCell]; exact y5
      go_wp2_with fail
      rw [← hW5]
      clear hW5 z0 z1 z2 z3 z4 z5 y3 y4 y5 hA4 hl4
      refine (wantJoinOf_any k _).mono ?_
      rintro e w6 ⟨rfl, hb6⟩
      have hA6 : Below wr.heap.size wr w6 := hA5.trans (hb6.mono (by omega))
      have hl6 : wr.heap.size < w6.heap.size := by have := hb6.size; omega
      have x0 := (hb6.cell (p := ⟨wr.heap.size, 0, none⟩) hl5).trans x0
      have x1 := (hb6.cell (p := ⟨wr.heap.size, 1, none⟩) hl5).trans x1
      have x2 := (hb6.cell (p := ⟨wr.heap.size, 2, none⟩) hl5).trans x2
      have x3 := (hb6.cell (p := ⟨wr.heap.size, 3, none⟩) hl5).trans x3
      have x4 := (hb6.cell (p := ⟨wr.heap.size, 4, none⟩) hl5).trans x4
      have x5 := (hb6.cell (p := ⟨wr.heap.size, 5, none⟩) hl5).trans x5
      have u4 := (hb6.frozen (p := ⟨wr.heap.size, 4, none⟩) hl5).trans u4
      have u5 := (hb6.frozen (p := ⟨wr.heap.size, 5, none⟩) hl5).trans u5
      clear hb6 hA5 hl5
      obtain ⟨W7, hW7⟩ : ∃ W, W = w6.alloc (.cells #[.bool (isBin k), fnJ k] 110) := ⟨_, rfl⟩
      have hA7 : Below wr.heap.size wr W7 := by rw [hW7]; exact hA6.alloc (by omega) _
      have hl7 : wr.heap.size < W7.heap.size := by rw [hW7]; simp; omega
      have hA67 : Below w6.heap.size w6 W7 := by rw [hW7]; exact (Below.refl _ w6).alloc (Nat.le_refl _) _
      have j0 : W7.cell? ⟨w6.heap.size, 0, none⟩ = some (.bool (isBin k)) := by rw [hW7]; go_simp
      have hne67 : wr.heap.size ≠ w6.heap.size := by omega
      have x0 := (hA67.cell (p := ⟨wr.heap.size, 0, none⟩) hl6).trans x0
      have x1 := (hA67.cell (p := ⟨wr.heap.size, 1, none⟩) hl6).trans x1
      have x2 := (hA67.cell (p := ⟨wr.heap.size, 2, none⟩) hl6).trans x2
      have x3 := (hA67.cell (p := ⟨wr.heap.size, 3, none⟩) hl6).trans x3
      have x4 := (hA67.cell (p := ⟨wr.heap.size, 4, none⟩) hl6).trans x4
      have x5 := (hA67.cell (p := ⟨wr.heap.size, 5, none⟩) hl6).trans x5
      have u4 := (hA67.frozen (p := ⟨wr.heap.size, 4, none⟩) hl6).trans u4
      have u5 := (hA67.frozen (p := ⟨wr.heap.size, 5, none⟩) hl6).trans u5
      have hdl : D.length ≤ 40 := by rw [hDL.out]; omega
      have hz8 : ∀ W8 : World, Below wr.heap.size wr W8 → W8.ownsRow B 72 6 u0 D.length (D.flatMap Wa.cells) := fun W8 h => hZ.out.below h
      have HZ8 : Hid (∀ W8 : World, Below wr.heap.size wr W8 → W8.ownsRow B 72 6 u0 D.length (D.flatMap Wa.cells)) := hz8
      have hlt0 : Hid (∀ g, u0.ownBlock = some g → B ≤ g ∧ g < wr.heap.size) := fun g hg => hZ.out.lt g hg
      clear hz8 hA67 hZ
      go_upto_region 7 with fail
      rw [← hW7]
      clear hW7 hA6 hl6
      rcases hKC with h | h | h
      · have hb := ask_bounds h
        have e1 : isBin k = false := by cases q : isBin k; rfl; have := bin_bounds q; omega
        have e2 : isJoin k = false := by unfold isJoin; rw [e1]; cases q : isNot k; rfl; have := not_bounds q; omega
        have hsh : Hid (sh L.length ⟨k, no, m, t, a, b⟩ = ⟨k, no, m, t, a, b⟩) := by show _ = _; unfold sh; dsimp only; rw [e1]; rw [if_neg (by decide), if_neg (by intro q; have := not_bounds q; omega)]
        rw [e2]
        clear hOB hON e2 e1 h hb
        have hown8 := HZ8.out W7 hA7
        go_wp2_with (at_builtin; refine wpList_append_lies _ rfl _ _ 23 rfl B 72 i0 (.agg #[.int .i64 0, .int .i64 0, .int .i64 0, .string ⟨#[]⟩, .int .i64 0, .int .i64 0]) 6 56 Tryd.underlying23 hi hz0 hz1 hz2 rfl (by decide) _ D.length _ rfl (hown8.alloc _) ⟨W7.heap.size, 0, none⟩ 1 1 [.int .i64 k, .int .i64 no, .int .i64 m, .string t, .int .i64 a, .int .i64 b] rfl rfl (World.news_of_block (heap_alloc_new W7 _)) (one6W _ _ _ _ _ _) (by omega) (by unfold maxLen; omega) (by omega) (by have := hA7.size; simp; omega) (W7.heap.size + 1) (by simp) ?_)
        intro g9 cap9 w9 hown9 hgrow9 hat9 hlt9
        have hB9 : Hid (Below B w w9) := ((hBw2.out.trans (hA7.mono hsz)).alloc (by have := hA7.size; omega) _).grown hgrow9 (by have := hA7.size; simp; omega) (fun k hk => (hlt0.out k hk).1)
        have hZ9 : Hid (WRow w9 B (.slice (some ⟨g9, 0, none⟩) (D.length + 1) cap9) (L ++ (M.take (i + 1)).map (sh L.length))) := by
          show WRow _ _ _ _
          rw [hST.out]
          unfold WRow
          rw [List.length_append, List.length_singleton, List.flatMap_append]
          rw [hsh.out]
          simpa [Wa.cells] using hown9
        clear hown9 hgrow9 hat9 hlt9 hown8
        go_wp2
        go_roundw
        case rel => first | exact ⟨i + 1, by omega, by go_num, hZ9, hB9⟩ | ((repeat apply Exists.intro); exact ⟨⟨i + 1, by omega, by go_num, hZ9, hB9⟩, rfl⟩)
        case measure => simp [intOf]; omega
      · have hb := bin_bounds h
        have e2 : isJoin k = true := by unfold isJoin; rw [h]; rfl
        obtain ⟨ha0, hab, hbi⟩ := hOB.out h
        have hsh : Hid (sh L.length ⟨k, no, m, t, a, b⟩ = ⟨k, no, m, t, a + L.length, b + L.length⟩) := by show _ = _; unfold sh; dsimp only; rw [if_pos h]
        rw [h] at j0
        rw [e2]
        clear hOB hON e2 h hb
        obtain ⟨W8, hW8⟩ : ∃ W, W = W7.setCell ⟨wr.heap.size, 4, none⟩ (.int .i64 (a + L.length)) := ⟨_, rfl⟩
        have hA8 : Below wr.heap.size wr W8 := by rw [hW8]; exact hA7.setCell (Nat.le_refl _) _
        have j8 : W8.cell? ⟨w6.heap.size, 0, none⟩ = some (.bool true) := by rw [hW8, World.cell?_setCell_other _ _ _ _ (by intro q; injection q; omega)]; exact j0
        have p0 : W8.cell? ⟨wr.heap.size, 0, none⟩ = some (.int .i64 k) := by rw [hW8, World.cell?_setCell_other _ _ _ _ (by simp)]; exact x0
        have p1 : W8.cell? ⟨wr.heap.size, 1, none⟩ = some (.int .i64 no) := by rw [hW8, World.cell?_setCell_other _ _ _ _ (by simp)]; exact x1
        have p2 : W8.cell? ⟨wr.heap.size, 2, none⟩ = some (.int .i64 m) := by rw [hW8, World.cell?_setCell_other _ _ _ _ (by simp)]; exact x2
        have p3 : W8.cell? ⟨wr.heap.size, 3, none⟩ = some (.string t) := by rw [hW8, World.cell?_setCell_other _ _ _ _ (by simp)]; exact x3
        have p4 : W8.cell? ⟨wr.heap.size, 4, none⟩ = some (.int .i64 (a + L.length)) := by rw [hW8]; exact World.cell?_setCell_same _ _ _ x4
        have p5 : W8.cell? ⟨wr.heap.size, 5, none⟩ = some (.int .i64 b) := by rw [hW8, World.cell?_setCell_other _ _ _ _ (by simp)]; exact x5
        have v5 : W8.frozen? ⟨wr.heap.size, 5, none⟩ = false := by rw [hW8, World.frozen?_setCell]; exact u5
        go_upto_region 9 with fail
        rw [← hW8]
        clear hW8 x0 x1 x2 x3 x4 x5 u4 u5 j0 hA7 hl7
        obtain ⟨W9, hW9⟩ : ∃ W, W = W8.setCell ⟨wr.heap.size, 5, none⟩ (.int .i64 (b + L.length)) := ⟨_, rfl⟩
        have hA9 : Below wr.heap.size wr W9 := by rw [hW9]; exact hA8.setCell (Nat.le_refl _) _
        have s0 : W9.cell? ⟨wr.heap.size, 0, none⟩ = some (.int .i64 k) := by rw [hW9, World.cell?_setCell_other _ _ _ _ (by simp)]; exact p0
        have s1 : W9.cell? ⟨wr.heap.size, 1, none⟩ = some (.int .i64 no) := by rw [hW9, World.cell?_setCell_other _ _ _ _ (by simp)]; exact p1
        have s2 : W9.cell? ⟨wr.heap.size, 2, none⟩ = some (.int .i64 m) := by rw [hW9, World.cell?_setCell_other _ _ _ _ (by simp)]; exact p2
        have s3 : W9.cell? ⟨wr.heap.size, 3, none⟩ = some (.string t) := by rw [hW9, World.cell?_setCell_other _ _ _ _ (by simp)]; exact p3
        have s4 : W9.cell? ⟨wr.heap.size, 4, none⟩ = some (.int .i64 (a + L.length)) := by rw [hW9, World.cell?_setCell_other _ _ _ _ (by simp)]; exact p4
        have s5 : W9.cell? ⟨wr.heap.size, 5, none⟩ = some (.int .i64 (b + L.length)) := by rw [hW9]; exact World.cell?_setCell_same _ _ _ p5
        go_upto_region 11 with fail
        rw [← hW9]
        clear hW9 p0 p1 p2 p3 p4 p5 v5 j8 hA8
        have hown8 := HZ8.out W9 hA9
        go_wp2_with (at_builtin; refine wpList_append_lies _ rfl _ _ 23 rfl B 72 i0 (.agg #[.int .i64 0, .int .i64 0, .int .i64 0, .string ⟨#[]⟩, .int .i64 0, .int .i64 0]) 6 56 Tryd.underlying23 hi hz0 hz1 hz2 rfl (by decide) _ D.length _ rfl (hown8.alloc _) ⟨W9.heap.size, 0, none⟩ 1 1 [.int .i64 k, .int .i64 no, .int .i64 m, .string t, .int .i64 (a + L.length), .int .i64 (b + L.length)] rfl rfl (World.news_of_block (heap_alloc_new W9 _)) (one6W _ _ _ _ _ _) (by omega) (by unfold maxLen; omega) (by omega) (by have := hA9.size; simp; omega) (W9.heap.size + 1) (by simp) ?_)
        intro g9 cap9 w9 hown9 hgrow9 hat9 hlt9
        have hB9 : Hid (Below B w w9) := ((hBw2.out.trans (hA9.mono hsz)).alloc (by have := hA9.size; omega) _).grown hgrow9 (by have := hA9.size; simp; omega) (fun k hk => (hlt0.out k hk).1)
        have hZ9 : Hid (WRow w9 B (.slice (some ⟨g9, 0, none⟩) (D.length + 1) cap9) (L ++ (M.take (i + 1)).map (sh L.length))) := by
          show WRow _ _ _ _
          rw [hST.out]
          unfold WRow
          rw [List.length_append, List.length_singleton, List.flatMap_append]
          rw [hsh.out]
          simpa [Wa.cells] using hown9
        clear hown9 hgrow9 hat9 hlt9 hown8
        go_wp2
        go_roundw
        case rel => first | exact ⟨i + 1, by omega, by go_num, hZ9, hB9⟩ | ((repeat apply Exists.intro); exact ⟨⟨i + 1, by omega, by go_num, hZ9, hB9⟩, rfl⟩)
        case measure => simp [intOf]; omega
      · have hb := not_bounds h
        have e1 : isBin k = false := by cases q : isBin k; rfl; have := bin_bounds q; omega
        have e2 : isJoin k = true := by unfold isJoin; rw [h, e1]; rfl
        obtain ⟨ha0, hai⟩ := hON.out h
        have hsh : Hid (sh L.length ⟨k, no, m, t, a, b⟩ = ⟨k, no, m, t, a + L.length, b⟩) := by show _ = _; unfold sh; dsimp only; rw [e1]; rw [if_neg (by decide), if_pos h]
        rw [e1] at j0
        rw [e2]
        clear hOB hON e2 h hb e1
        obtain ⟨W8, hW8⟩ : ∃ W, W = W7.setCell ⟨wr.heap.size, 4, none⟩ (.int .i64 (a + L.length)) := ⟨_, rfl⟩
        have hA8 : Below wr.heap.size wr W8 := by rw [hW8]; exact hA7.setCell (Nat.le_refl _) _
        have j8 : W8.cell? ⟨w6.heap.size, 0, none⟩ = some (.bool false) := by rw [hW8, World.cell?_setCell_other _ _ _ _ (by intro q; injection q; omega)]; exact j0
        have p0 : W8.cell? ⟨wr.heap.size, 0, none⟩ = some (.int .i64 k) := by rw [hW8, World.cell?_setCell_other _ _ _ _ (by simp)]; exact x0
        have p1 : W8.cell? ⟨wr.heap.size, 1, none⟩ = some (.int .i64 no) := by rw [hW8, World.cell?_setCell_other _ _ _ _ (by simp)]; exact x1
        have p2 : W8.cell? ⟨wr.heap.size, 2, none⟩ = some (.int .i64 m) := by rw [hW8, World.cell?_setCell_other _ _ _ _ (by simp)]; exact x2
        have p3 : W8.cell? ⟨wr.heap.size, 3, none⟩ = some (.string t) := by rw [hW8, World.cell?_setCell_other _ _ _ _ (by simp)]; exact x3
        have p4 : W8.cell? ⟨wr.heap.size, 4, none⟩ = some (.int .i64 (a + L.length)) := by rw [hW8]; exact World.cell?_setCell_same _ _ _ x4
        have p5 : W8.cell? ⟨wr.heap.size, 5, none⟩ = some (.int .i64 b) := by rw [hW8, World.cell?_setCell_other _ _ _ _ (by simp)]; exact x5
        go_upto_region 9 with fail
        rw [← hW8]
        clear hW8 x0 x1 x2 x3 x4 x5 u4 u5 j0 hA7 hl7
        have hown8 := HZ8.out W8 hA8
        go_wp2_with (at_builtin; refine wpList_append_lies _ rfl _ _ 23 rfl B 72 i0 (.agg #[.int .i64 0, .int .i64 0, .int .i64 0, .string ⟨#[]⟩, .int .i64 0, .int .i64 0]) 6 56 Tryd.underlying23 hi hz0 hz1 hz2 rfl (by decide) _ D.length _ rfl (hown8.alloc _) ⟨W8.heap.size, 0, none⟩ 1 1 [.int .i64 k, .int .i64 no, .int .i64 m, .string t, .int .i64 (a + L.length), .int .i64 b] rfl rfl (World.news_of_block (heap_alloc_new W8 _)) (one6W _ _ _ _ _ _) (by omega) (by unfold maxLen; omega) (by omega) (by have := hA8.size; simp; omega) (W8.heap.size + 1) (by simp) ?_)
        intro g9 cap9 w9 hown9 hgrow9 hat9 hlt9
        have hB9 : Hid (Below B w w9) := ((hBw2.out.trans (hA8.mono hsz)).alloc (by have := hA8.size; omega) _).grown hgrow9 (by have := hA8.size; simp; omega) (fun k hk => (hlt0.out k hk).1)
        have hZ9 : Hid (WRow w9 B (.slice (some ⟨g9, 0, none⟩) (D.length + 1) cap9) (L ++ (M.take (i + 1)).map (sh L.length))) := by
          show WRow _ _ _ _
          rw [hST.out]
          unfold WRow
          rw [List.length_append, List.length_singleton, List.flatMap_append]
          rw [hsh.out]
          simpa [Wa.cells] using hown9
        clear hown9 hgrow9 hat9 hlt9 hown8
        go_wp2
        go_roundw
        case rel => first | exact ⟨i + 1, by omega, by go_num, hZ9, hB9⟩ | ((repeat apply Exists.intro); exact ⟨⟨i + 1, by omega, by go_num, hZ9, hB9⟩, rfl⟩)
        case measure => simp [intOf]; omega
    · have hke : i = M.length := by omega
      subst hke
      have hge : ¬ ((M.length : Int) < (M.length : Int)) := by omega
      have hZe : Hid (WRow wr B u0 (L ++ M.map (sh L.length))) := by have := hZ.out; rw [List.take_length] at this; exact this
      clear hZ
      go_wp2
      go_ret
      exact ⟨_, rfl, hZe.out, hBw2.out⟩

end Go.Proofs.YtpopjapcgcnnfabDoor
