/- The model's l8Led and l8Cut. The program's looks at the instructions that are made better: hasCodes, isLedTo. slices.Delete at instructions; the program's drop. -/
import Derived.Test.YtmjpmmkjfimopaaDoorHb
import Derived.Test.YtmjpmmkjfimopaaDoorCsA
import Derived.Laws.CopyRow
import Derived.Laws.Tables
namespace Go.Proofs.YtmjpmmkjfimopaaDoor
open Go.RowKit Plain Sch Wan Prg

theorem led_yes {T : List Ins} {k : Int} {i : Nat} (hi : i < T.length) (hc : (ins T i).code = 3) (hd : (ins T i).dst = k) : led T k = true := by
  unfold led
  rw [List.any_eq_true]
  exact ⟨ins T i, List.mem_of_getElem? (ins_get hi), by simp [hc, hd]⟩

theorem led_none {T : List Ins} {k : Int} (h : ∀ j, j < T.length → ¬ ((ins T j).code = 3 ∧ (ins T j).dst = k)) : led T k = false := by
  unfold led
  rw [List.any_eq_false]
  intro x hx
  obtain ⟨j, hj, rfl⟩ := List.getElem_of_mem hx
  have e : ins T j = T[j] := by unfold ins; rw [List.getD, List.getElem?_eq_getElem hj]; rfl
  have := h j hj
  rw [e] at this
  simp
  intro h1 h2
  exact this ⟨h1, h2⟩

set_option maxRecDepth 100000 in
set_option maxHeartbeats 4000000 in
theorem l8Led_any (T : List Ins) (v : Value) (q : Int) (w : World) (hT : InsAt w w.heap.size v T) (h60 : T.length ≤ 60) :
    Calls Tryd.prog 67 #[v, .int .i64 q] w fun e w' => e = .returned (.bool (led T q)) ∧ Below w.heap.size w w' := by
  obtain ⟨ao, cap, rfl, hlc, hcm, hrow, _⟩ := hT
  have HROW : Hid (∀ i, i < T.length → ∃ g o, ao = some ⟨g, o, none⟩ ∧ g < w.heap.size ∧ InsIn w g (o + i * 6) (ins T i)) := hrow
  clear hrow
  unfold maxLen at hcm
  go_enter Tryd.func67, Tryd.ntmps67
  go_wp2
  go_loopw [9] (fun vi wr => ∃ i : Nat, i ≤ T.length ∧ vi = .int .i64 (i : Int) ∧ Hid (∀ j, j < i → ¬ ((ins T j).code = 3 ∧ (ins T j).dst = q)) ∧ Hid (Below w.heap.size w wr))
    (fun vi _ => T.length - (intOf vi).toNat)
  case atStart => exact ⟨0, by omega, rfl, fun j hj => by omega, Below.refl _ _⟩
  case round =>
    obtain ⟨i, hi, rfl, hall, hB⟩ := hrel
    by_cases hlt : i < T.length
    · have hlt' : (i : Int) < (T.length : Int) := by omega
      obtain ⟨g, o, rfl, hg, hty⟩ := HROW.out i hlt
      have hci := hty.below hB.out hg
      have hgw : g < wr.heap.size := by have := hB.out.size; omega
      have hYes : Hid ((ins T i).code = 3 → (ins T i).dst = q → led T q = true) := fun h1 h2 => led_yes hlt h1 h2
      have hNx : Hid (¬ ((ins T i).code = 3 ∧ (ins T i).dst = q) → ∀ j, j < i + 1 → ¬ ((ins T j).code = 3 ∧ (ins T j).dst = q)) := fun h j hj => by
        by_cases e : j = i
        · rw [e]; exact h
        · exact hall.out j (by omega)
      have hB2 : ∀ o, Below w.heap.size w (wr.alloc o) := fun o => hB.out.alloc hB.out.size o
      generalize ins T i = x at hci hYes hNx
      obtain ⟨c, k, n, m, t, jt⟩ := x
      obtain ⟨c0, c1, c2, c3, c4, c5⟩ := hci
      dsimp only at c0 c1 c2 c3 c4 c5 hYes hNx
      clear hty hall
      by_cases h3 : c = 3
      · subst h3
        by_cases hq : jt = q
        · subst hq
          have hF : Hid (led T jt = true) := hYes.out rfl rfl
          clear hYes hNx
          go_wp2
          go_ret
          exact ⟨by rw [hF.out]; rfl, hB2 _⟩
        · have hq' : (jt == q) = false := by simp [hq]
          have hN : Hid (∀ j, j < i + 1 → ¬ ((ins T j).code = 3 ∧ (ins T j).dst = q)) := hNx.out (by simp [hq])
          clear hYes hNx hq
          go_wp2
          go_roundw
          case rel => exact ⟨i + 1, by omega, by go_num, hN, hB2 _⟩
          case measure => simp [intOf]; omega
      · have h3' : (c == 3) = false := by simp [h3]
        have hN : Hid (∀ j, j < i + 1 → ¬ ((ins T j).code = 3 ∧ (ins T j).dst = q)) := hNx.out (by simp [h3])
        clear hYes hNx h3
        go_wp2
        go_roundw
        case rel => exact ⟨i + 1, by omega, by go_num, hN, hB2 _⟩
        case measure => simp [intOf]; omega
    · have hlt' : ¬ (i : Int) < (T.length : Int) := by omega
      have hF : Hid (led T q = false) := led_none (fun j hj => hall.out j (by omega))
      clear hall
      go_wp2
      go_ret
      exact ⟨by rw [hF.out]; rfl, hB.out⟩

theorem take_snocI (T : List Ins) (i : Nat) (h : i < T.length) : T.take (i + 1) = T.take i ++ [ins T i] := by
  rw [List.take_add_one, ins_get h]; rfl

theorem cut_in {T : List Ins} {f m i : Nat} (h1 : f ≤ i) (h2 : i < f + m) (hi : i < T.length) : cutP (T.take (i + 1)) f m = cutP (T.take i) f m := by
  unfold cutP
  rw [List.take_take, List.take_take, Nat.min_eq_left (by omega), Nat.min_eq_left (by omega), List.drop_eq_nil_of_le (by simp; omega), List.drop_eq_nil_of_le (by simp; omega)]

theorem cut_lo {T : List Ins} {f m i : Nat} (h1 : i < f) (hi : i < T.length) : cutP (T.take (i + 1)) f m = cutP (T.take i) f m ++ [dwn f m (ins T i)] := by
  unfold cutP
  rw [List.take_take, List.take_take, Nat.min_eq_right (by omega), Nat.min_eq_right (by omega), List.drop_eq_nil_of_le (by simp; omega), List.drop_eq_nil_of_le (by simp; omega), List.append_nil, List.append_nil, take_snocI T i hi, List.map_append]
  rfl

theorem cut_hi {T : List Ins} {f m i : Nat} (h1 : f + m ≤ i) (hi : i < T.length) : cutP (T.take (i + 1)) f m = cutP (T.take i) f m ++ [dwn f m (ins T i)] := by
  unfold cutP
  rw [List.take_take, List.take_take, Nat.min_eq_left (by omega), Nat.min_eq_left (by omega), take_snocI T i hi, List.drop_append_of_le_length (by simp; omega)]
  simp

theorem cutP_len_le (T : List Ins) (f m : Nat) : (cutP T f m).length ≤ T.length := by
  unfold cutP; simp; omega

set_option maxRecDepth 100000 in
set_option maxHeartbeats 8000000 in
theorem l8Cut_any (T : List Ins) (v : Value) (f m : Nat) (w : World) (hT : InsAt w w.heap.size v T) (h60 : T.length ≤ 60) (hfm : f + m ≤ 60) (hdst : ∀ i, i < T.length → (ins T i).code = 3 → 0 ≤ (ins T i).dst ∧ (ins T i).dst ≤ 60) (hled : ∀ i, i < T.length → (ins T i).code = 3 → (f : Int) < (ins T i).dst → (f : Int) + m ≤ (ins T i).dst) :
    Calls Tryd.prog 68 #[v, .int .i64 f, .int .i64 m] w fun e w' => ∃ v', e = .returned v' ∧ IRow w' w.heap.size v' (cutP T f m) ∧ Below w.heap.size w w' := by
  obtain ⟨i0, hi0, hz0, hz1, hz2⟩ := info_parts Tryd.infoIns
  obtain ⟨ao, cap, rfl, hlc, hcm, hrow, _⟩ := hT
  have HROW : Hid (∀ i, i < T.length → ∃ g o, ao = some ⟨g, o, none⟩ ∧ g < w.heap.size ∧ InsIn w g (o + i * 6) (ins T i)) := hrow
  have HLED : Hid (∀ i, i < T.length → (ins T i).code = 3 → (f : Int) < (ins T i).dst → (f : Int) + m ≤ (ins T i).dst) := hled
  have HDST : Hid (∀ i, i < T.length → (ins T i).code = 3 → 0 ≤ (ins T i).dst ∧ (ins T i).dst ≤ 60) := hdst
  clear hrow hled hdst
  unfold maxLen at hcm
  have hf60 : (f : Int) + (m : Int) ≤ 60 := by omega
  go_enter Tryd.func68, Tryd.ntmps68
  go_wp2
  go_loopw [7, 12] (fun vl vi wr => ∃ i : Nat, i ≤ T.length ∧ vi = .int .i64 (i : Int) ∧ Hid (IRow wr w.heap.size vl (cutP (T.take i) f m)) ∧ Hid (Below w.heap.size w wr))
    (fun _ vi _ => T.length - (intOf vi).toNat)
  case atStart => exact ⟨0, by omega, rfl, by show IRow _ _ _ _; simp only [List.take_zero, cutP, List.take_nil, List.drop_nil, List.append_nil, List.map_nil]; exact World.ownsRow_nil _ _ _ _, Below.refl _ _⟩
  case round =>
    obtain ⟨i, hi, rfl, HR, hB⟩ := hrel
    have hsz := hB.out.size
    by_cases hlt : i < T.length
    · have hlt' : (i : Int) < (T.length : Int) := by omega
      obtain ⟨g, o, rfl, hg, hty⟩ := HROW.out i hlt
      have hci := hty.below hB.out hg
      have hgw : g < wr.heap.size := by omega
      have hDl : Hid ((cutP (T.take i) f m).length ≤ 60) := by show _ ≤ _; have := cutP_len_le (T.take i) f m; simp at this; omega
      have hL := HLED.out i hlt
      have hD := HDST.out i hlt
      have hIn : Hid (f ≤ i → i < f + m → cutP (T.take (i + 1)) f m = cutP (T.take i) f m) := fun h1 h2 => cut_in h1 h2 hlt
      have hOut : Hid (¬ (f ≤ i ∧ i < f + m) → cutP (T.take (i + 1)) f m = cutP (T.take i) f m ++ [dwn f m (ins T i)]) := fun h => by
        by_cases h1 : i < f
        · exact cut_lo h1 hlt
        · exact cut_hi (by omega) hlt
      obtain ⟨D1, hD1⟩ : ∃ D1, cutP (T.take (i + 1)) f m = D1 := ⟨_, rfl⟩
      rw [hD1] at hIn hOut
      have HD1 : Hid (cutP (T.take (i + 1)) f m = D1) := hD1
      clear hD1
      generalize cutP (T.take i) f m = D at HR hDl hIn hOut
      generalize ins T i = x at hci hL hD hOut
      obtain ⟨c, k, n, mm, t, jt⟩ := x
      obtain ⟨c0, c1, c2, c3, c4, c5⟩ := hci
      dsimp only at c0 c1 c2 c3 c4 c5 hL hD hOut
      clear hty
      obtain ⟨ar, capr, rfl, hnr, hcmr⟩ := HR.out.slice
      have hcmr' : capr ≤ 9223372036854775807 := by unfold maxLen at hcmr; omega
      have HLT0 : Hid (∀ g, (Value.slice ar D.length capr).ownBlock = some g → g < wr.heap.size) := fun g hg => (World.ownsRow.lt HR.out g hg).2
      have hDl' : D.length ≤ 60 := hDl.out
      obtain ⟨W3, hW3⟩ : ∃ W, W = wr.alloc (.cells #[.int .i64 c, .int .i64 k, .int .i64 n, .int .i64 mm, .string t, .int .i64 jt] 59) := ⟨_, rfl⟩
      have hA3 : Below wr.heap.size wr W3 := by rw [hW3]; exact (Below.refl _ wr).alloc (Nat.le_refl _) _
      have hl3 : wr.heap.size < W3.heap.size := by rw [hW3]; simp
      have x0 : W3.cell? ⟨wr.heap.size, 0, none⟩ = some (.int .i64 c) := by rw [hW3]; go_simp
      have x1 : W3.cell? ⟨wr.heap.size, 1, none⟩ = some (.int .i64 k) := by rw [hW3]; go_simp
      have x2 : W3.cell? ⟨wr.heap.size, 2, none⟩ = some (.int .i64 n) := by rw [hW3]; go_simp
      have x3 : W3.cell? ⟨wr.heap.size, 3, none⟩ = some (.int .i64 mm) := by rw [hW3]; go_simp
      have x4 : W3.cell? ⟨wr.heap.size, 4, none⟩ = some (.string t) := by rw [hW3]; go_simp
      have x5 : W3.cell? ⟨wr.heap.size, 5, none⟩ = some (.int .i64 jt) := by rw [hW3]; go_simp
      have e5 : W3.frozen? ⟨wr.heap.size, 5, none⟩ = false := by rw [hW3]; go_simp
      have HR3 : Hid (IRow W3 w.heap.size (.slice ar D.length capr) D) := HR.out.below hA3
      have hB3 : Hid (Below w.heap.size w W3) := hB.out.trans (hA3.mono hsz)
      go_upto_region 5 with fail
      rw [← hW3]
      clear hW3 c0 c1 c2 c3 c4 c5 HR
      by_cases hin : f ≤ i ∧ i < f + m
      · have hi1 : (f : Int) ≤ (i : Int) := by omega
        have hi2 : (i : Int) < (f : Int) + (m : Int) := by omega
        have hEq : Hid (D1 = D) := hIn.out hin.1 hin.2
        clear hIn hOut hin
        go_wp2
        go_roundw
        case rel => exact ⟨i + 1, by omega, by go_num, by show IRow _ _ _ _; rw [HD1.out, hEq.out]; exact HR3.out, hB3⟩
        case measure => simp [intOf]; omega
      · have hO : Hid (D1 = D ++ [dwn f m ⟨c, k, n, mm, t, jt⟩]) := hOut.out hin
        have HLT : Hid (∀ g, (Value.slice ar D.length capr).ownBlock = some g → g < wr.heap.size) := HLT0.out
        have hs3 : w.heap.size ≤ W3.heap.size := by omega
        clear hIn hOut
        by_cases hfi : f ≤ i
        · have hi1 : (f : Int) ≤ (i : Int) := by omega
          have hi2 : decide ((i : Int) < (f : Int) + (m : Int)) = false := by simp; omega
          clear hin
          by_cases h3 : c = 3
          · subst h3
            by_cases hfj : (f : Int) < jt
            · have hL2 := hL rfl hfj
              have hD2 := hD rfl
              have hnl : ¬ jt - (m : Int) < (f : Int) := by omega
              have hEq : Hid (D1 = D ++ [⟨3, k, n, mm, t, jt - (m : Int)⟩]) := by show D1 = _; rw [hO.out]; simp [dwn, hfj]
              clear hO
              obtain ⟨W4, hW4⟩ : ∃ W, W = W3.setCell ⟨wr.heap.size, 5, none⟩ (.int .i64 (jt - (m : Int))) := ⟨_, rfl⟩
              have y0 : W4.cell? ⟨wr.heap.size, 0, none⟩ = some (.int .i64 3) := by rw [hW4, World.cell?_setCell_other _ _ _ _ (by simp)]; exact x0
              have y1 : W4.cell? ⟨wr.heap.size, 1, none⟩ = some (.int .i64 k) := by rw [hW4, World.cell?_setCell_other _ _ _ _ (by simp)]; exact x1
              have y2 : W4.cell? ⟨wr.heap.size, 2, none⟩ = some (.int .i64 n) := by rw [hW4, World.cell?_setCell_other _ _ _ _ (by simp)]; exact x2
              have y3 : W4.cell? ⟨wr.heap.size, 3, none⟩ = some (.int .i64 mm) := by rw [hW4, World.cell?_setCell_other _ _ _ _ (by simp)]; exact x3
              have y4 : W4.cell? ⟨wr.heap.size, 4, none⟩ = some (.string t) := by rw [hW4, World.cell?_setCell_other _ _ _ _ (by simp)]; exact x4
              have y5 : W4.cell? ⟨wr.heap.size, 5, none⟩ = some (.int .i64 (jt - (m : Int))) := by rw [hW4]; exact World.cell?_setCell_same _ _ _ x5
              have hlr : ∀ g, (Value.slice ar D.length capr).ownBlock = some g → g < wr.heap.size := HLT.out
              have HR4 : Hid (IRow W4 w.heap.size (.slice ar D.length capr) D) := by
                show IRow _ _ _ _
                rw [hW4]
                exact ownsRow_setCell_other (a := ⟨wr.heap.size, 5, none⟩) HR3.out (fun e => absurd (hlr wr.heap.size e) (Nat.lt_irrefl _)) _
              have hB4 : Hid (Below w.heap.size w W4) := by show Below _ _ _; rw [hW4]; exact hB3.out.setCell (by show w.heap.size ≤ wr.heap.size; omega) _
              have hs4 : w.heap.size ≤ W4.heap.size := hB4.out.size
              have hl4 : wr.heap.size < W4.heap.size := by rw [hW4]; simpa [World.setCell] using hl3
              go_upto_region 8 with fail
              rw [← hW4]
              clear hW4 hlr
              go_wp2_with (at_builtin; refine wpList_append_lies _ rfl _ _ 28 rfl w.heap.size 59 i0 (.agg #[.int .i64 0, .int .i64 0, .int .i64 0, .int .i64 0, .string ⟨#[]⟩, .int .i64 0]) 6 56 Tryd.underlying28 hi0 hz0 hz1 hz2 rfl (by decide) _ D.length _ rfl (World.ownsRow.alloc HR4.out _) ⟨W4.heap.size, 0, none⟩ 1 1 [.int .i64 3, .int .i64 k, .int .i64 n, .int .i64 mm, .string t, .int .i64 (jt - (m : Int))] rfl rfl (World.news_of_block (heap_alloc_new W4 _)) (one6I _ _ _ _ _ _) (by omega) (by unfold maxLen; omega) (by omega) (by simp; omega) (W4.heap.size + 1) (by simp) ?_)
              intro g9 cap9 w9 hown9 hgrow9 hat9 hlt9
              have hE9 := app_end (L := D) (x := ⟨3, k, n, mm, t, (jt - (m : Int))⟩) hown9 hgrow9 hat9
              have HR9 : Hid (IRow w9 w.heap.size (.slice (some ⟨g9, 0, none⟩) (D.length + 1) cap9) (cutP (T.take (i + 1)) f m)) := by
                show IRow _ _ _ _
                rw [HD1.out, hEq.out]
                simpa using hE9.1
              have HB9 : Hid (Below w.heap.size w w9) := hB4.out.trans (IRow.keeps HR4.out (by have := hB4.out.size; omega) hE9.2)
              clear hown9 hgrow9 hat9 hE9
              go_wp2
              go_roundw
              case rel => exact ⟨i + 1, by omega, by go_num, HR9, HB9⟩
              case measure => simp [intOf]; omega
            · have hfj' : decide ((f : Int) < jt) = false := by simpa using hfj
              have hEq : Hid (D1 = D ++ [⟨3, k, n, mm, t, jt⟩]) := by show D1 = _; rw [hO.out]; simp [dwn, hfj]
              clear hO hfj
              go_wp2_with (at_builtin; refine wpList_append_lies _ rfl _ _ 28 rfl w.heap.size 59 i0 (.agg #[.int .i64 0, .int .i64 0, .int .i64 0, .int .i64 0, .string ⟨#[]⟩, .int .i64 0]) 6 56 Tryd.underlying28 hi0 hz0 hz1 hz2 rfl (by decide) _ D.length _ rfl (World.ownsRow.alloc HR3.out _) ⟨W3.heap.size, 0, none⟩ 1 1 [.int .i64 3, .int .i64 k, .int .i64 n, .int .i64 mm, .string t, .int .i64 jt] rfl rfl (World.news_of_block (heap_alloc_new W3 _)) (one6I _ _ _ _ _ _) (by omega) (by unfold maxLen; omega) (by omega) (by simp; omega) (W3.heap.size + 1) (by simp) ?_)
              intro g9 cap9 w9 hown9 hgrow9 hat9 hlt9
              have hE9 := app_end (L := D) (x := ⟨3, k, n, mm, t, jt⟩) hown9 hgrow9 hat9
              have HR9 : Hid (IRow w9 w.heap.size (.slice (some ⟨g9, 0, none⟩) (D.length + 1) cap9) (cutP (T.take (i + 1)) f m)) := by
                show IRow _ _ _ _
                rw [HD1.out, hEq.out]
                simpa using hE9.1
              have HB9 : Hid (Below w.heap.size w w9) := hB3.out.trans (IRow.keeps HR3.out (by have := hB3.out.size; omega) hE9.2)
              clear hown9 hgrow9 hat9 hE9
              go_wp2
              go_roundw
              case rel => exact ⟨i + 1, by omega, by go_num, HR9, HB9⟩
              case measure => simp [intOf]; omega
          · have h3' : (c == 3) = false := by simp [h3]
            have hEq : Hid (D1 = D ++ [⟨c, k, n, mm, t, jt⟩]) := by show D1 = _; rw [hO.out]; simp [dwn, h3]
            clear hO h3
            go_upto_region 10 with fail
            go_wp2_with (at_builtin; refine wpList_append_lies _ rfl _ _ 28 rfl w.heap.size 59 i0 (.agg #[.int .i64 0, .int .i64 0, .int .i64 0, .int .i64 0, .string ⟨#[]⟩, .int .i64 0]) 6 56 Tryd.underlying28 hi0 hz0 hz1 hz2 rfl (by decide) _ D.length _ rfl (World.ownsRow.alloc HR3.out _) ⟨W3.heap.size, 0, none⟩ 1 1 [.int .i64 c, .int .i64 k, .int .i64 n, .int .i64 mm, .string t, .int .i64 jt] rfl rfl (World.news_of_block (heap_alloc_new W3 _)) (one6I _ _ _ _ _ _) (by omega) (by unfold maxLen; omega) (by omega) (by simp; omega) (W3.heap.size + 1) (by simp) ?_)
            intro g9 cap9 w9 hown9 hgrow9 hat9 hlt9
            have hE9 := app_end (L := D) (x := ⟨c, k, n, mm, t, jt⟩) hown9 hgrow9 hat9
            have HR9 : Hid (IRow w9 w.heap.size (.slice (some ⟨g9, 0, none⟩) (D.length + 1) cap9) (cutP (T.take (i + 1)) f m)) := by
              show IRow _ _ _ _
              rw [HD1.out, hEq.out]
              simpa using hE9.1
            have HB9 : Hid (Below w.heap.size w w9) := hB3.out.trans (IRow.keeps HR3.out (by have := hB3.out.size; omega) hE9.2)
            clear hown9 hgrow9 hat9 hE9
            go_wp2
            go_roundw
            case rel => exact ⟨i + 1, by omega, by go_num, HR9, HB9⟩
            case measure => simp [intOf]; omega
        · have hi1 : decide ((f : Int) ≤ (i : Int)) = false := by simp; omega
          have hi1n : decide (f ≤ i) = false := by simpa using hfi
          have hi1b : ¬ (f : Int) ≤ (i : Int) := by omega
          clear hin
          by_cases h3 : c = 3
          · subst h3
            by_cases hfj : (f : Int) < jt
            · have hL2 := hL rfl hfj
              have hD2 := hD rfl
              have hnl : ¬ jt - (m : Int) < (f : Int) := by omega
              have hEq : Hid (D1 = D ++ [⟨3, k, n, mm, t, jt - (m : Int)⟩]) := by show D1 = _; rw [hO.out]; simp [dwn, hfj]
              clear hO
              obtain ⟨W4, hW4⟩ : ∃ W, W = W3.setCell ⟨wr.heap.size, 5, none⟩ (.int .i64 (jt - (m : Int))) := ⟨_, rfl⟩
              have y0 : W4.cell? ⟨wr.heap.size, 0, none⟩ = some (.int .i64 3) := by rw [hW4, World.cell?_setCell_other _ _ _ _ (by simp)]; exact x0
              have y1 : W4.cell? ⟨wr.heap.size, 1, none⟩ = some (.int .i64 k) := by rw [hW4, World.cell?_setCell_other _ _ _ _ (by simp)]; exact x1
              have y2 : W4.cell? ⟨wr.heap.size, 2, none⟩ = some (.int .i64 n) := by rw [hW4, World.cell?_setCell_other _ _ _ _ (by simp)]; exact x2
              have y3 : W4.cell? ⟨wr.heap.size, 3, none⟩ = some (.int .i64 mm) := by rw [hW4, World.cell?_setCell_other _ _ _ _ (by simp)]; exact x3
              have y4 : W4.cell? ⟨wr.heap.size, 4, none⟩ = some (.string t) := by rw [hW4, World.cell?_setCell_other _ _ _ _ (by simp)]; exact x4
              have y5 : W4.cell? ⟨wr.heap.size, 5, none⟩ = some (.int .i64 (jt - (m : Int))) := by rw [hW4]; exact World.cell?_setCell_same _ _ _ x5
              have hlr : ∀ g, (Value.slice ar D.length capr).ownBlock = some g → g < wr.heap.size := HLT.out
              have HR4 : Hid (IRow W4 w.heap.size (.slice ar D.length capr) D) := by
                show IRow _ _ _ _
                rw [hW4]
                exact ownsRow_setCell_other (a := ⟨wr.heap.size, 5, none⟩) HR3.out (fun e => absurd (hlr wr.heap.size e) (Nat.lt_irrefl _)) _
              have hB4 : Hid (Below w.heap.size w W4) := by show Below _ _ _; rw [hW4]; exact hB3.out.setCell (by show w.heap.size ≤ wr.heap.size; omega) _
              have hs4 : w.heap.size ≤ W4.heap.size := hB4.out.size
              have hl4 : wr.heap.size < W4.heap.size := by rw [hW4]; simpa [World.setCell] using hl3
              go_upto_region 8 with fail
              rw [← hW4]
              clear hW4 hlr
              go_wp2_with (at_builtin; refine wpList_append_lies _ rfl _ _ 28 rfl w.heap.size 59 i0 (.agg #[.int .i64 0, .int .i64 0, .int .i64 0, .int .i64 0, .string ⟨#[]⟩, .int .i64 0]) 6 56 Tryd.underlying28 hi0 hz0 hz1 hz2 rfl (by decide) _ D.length _ rfl (World.ownsRow.alloc HR4.out _) ⟨W4.heap.size, 0, none⟩ 1 1 [.int .i64 3, .int .i64 k, .int .i64 n, .int .i64 mm, .string t, .int .i64 (jt - (m : Int))] rfl rfl (World.news_of_block (heap_alloc_new W4 _)) (one6I _ _ _ _ _ _) (by omega) (by unfold maxLen; omega) (by omega) (by simp; omega) (W4.heap.size + 1) (by simp) ?_)
              intro g9 cap9 w9 hown9 hgrow9 hat9 hlt9
              have hE9 := app_end (L := D) (x := ⟨3, k, n, mm, t, (jt - (m : Int))⟩) hown9 hgrow9 hat9
              have HR9 : Hid (IRow w9 w.heap.size (.slice (some ⟨g9, 0, none⟩) (D.length + 1) cap9) (cutP (T.take (i + 1)) f m)) := by
                show IRow _ _ _ _
                rw [HD1.out, hEq.out]
                simpa using hE9.1
              have HB9 : Hid (Below w.heap.size w w9) := hB4.out.trans (IRow.keeps HR4.out (by have := hB4.out.size; omega) hE9.2)
              clear hown9 hgrow9 hat9 hE9
              go_wp2
              go_roundw
              case rel => exact ⟨i + 1, by omega, by go_num, HR9, HB9⟩
              case measure => simp [intOf]; omega
            · have hfj' : decide ((f : Int) < jt) = false := by simpa using hfj
              have hEq : Hid (D1 = D ++ [⟨3, k, n, mm, t, jt⟩]) := by show D1 = _; rw [hO.out]; simp [dwn, hfj]
              clear hO hfj
              go_wp2_with (at_builtin; refine wpList_append_lies _ rfl _ _ 28 rfl w.heap.size 59 i0 (.agg #[.int .i64 0, .int .i64 0, .int .i64 0, .int .i64 0, .string ⟨#[]⟩, .int .i64 0]) 6 56 Tryd.underlying28 hi0 hz0 hz1 hz2 rfl (by decide) _ D.length _ rfl (World.ownsRow.alloc HR3.out _) ⟨W3.heap.size, 0, none⟩ 1 1 [.int .i64 3, .int .i64 k, .int .i64 n, .int .i64 mm, .string t, .int .i64 jt] rfl rfl (World.news_of_block (heap_alloc_new W3 _)) (one6I _ _ _ _ _ _) (by omega) (by unfold maxLen; omega) (by omega) (by simp; omega) (W3.heap.size + 1) (by simp) ?_)
              intro g9 cap9 w9 hown9 hgrow9 hat9 hlt9
              have hE9 := app_end (L := D) (x := ⟨3, k, n, mm, t, jt⟩) hown9 hgrow9 hat9
              have HR9 : Hid (IRow w9 w.heap.size (.slice (some ⟨g9, 0, none⟩) (D.length + 1) cap9) (cutP (T.take (i + 1)) f m)) := by
                show IRow _ _ _ _
                rw [HD1.out, hEq.out]
                simpa using hE9.1
              have HB9 : Hid (Below w.heap.size w w9) := hB3.out.trans (IRow.keeps HR3.out (by have := hB3.out.size; omega) hE9.2)
              clear hown9 hgrow9 hat9 hE9
              go_wp2
              go_roundw
              case rel => exact ⟨i + 1, by omega, by go_num, HR9, HB9⟩
              case measure => simp [intOf]; omega
          · have h3' : (c == 3) = false := by simp [h3]
            have hEq : Hid (D1 = D ++ [⟨c, k, n, mm, t, jt⟩]) := by show D1 = _; rw [hO.out]; simp [dwn, h3]
            clear hO h3
            go_upto_region 10 with fail
            go_wp2_with (at_builtin; refine wpList_append_lies _ rfl _ _ 28 rfl w.heap.size 59 i0 (.agg #[.int .i64 0, .int .i64 0, .int .i64 0, .int .i64 0, .string ⟨#[]⟩, .int .i64 0]) 6 56 Tryd.underlying28 hi0 hz0 hz1 hz2 rfl (by decide) _ D.length _ rfl (World.ownsRow.alloc HR3.out _) ⟨W3.heap.size, 0, none⟩ 1 1 [.int .i64 c, .int .i64 k, .int .i64 n, .int .i64 mm, .string t, .int .i64 jt] rfl rfl (World.news_of_block (heap_alloc_new W3 _)) (one6I _ _ _ _ _ _) (by omega) (by unfold maxLen; omega) (by omega) (by simp; omega) (W3.heap.size + 1) (by simp) ?_)
            intro g9 cap9 w9 hown9 hgrow9 hat9 hlt9
            have hE9 := app_end (L := D) (x := ⟨c, k, n, mm, t, jt⟩) hown9 hgrow9 hat9
            have HR9 : Hid (IRow w9 w.heap.size (.slice (some ⟨g9, 0, none⟩) (D.length + 1) cap9) (cutP (T.take (i + 1)) f m)) := by
              show IRow _ _ _ _
              rw [HD1.out, hEq.out]
              simpa using hE9.1
            have HB9 : Hid (Below w.heap.size w w9) := hB3.out.trans (IRow.keeps HR3.out (by have := hB3.out.size; omega) hE9.2)
            clear hown9 hgrow9 hat9 hE9
            go_wp2
            go_roundw
            case rel => exact ⟨i + 1, by omega, by go_num, HR9, HB9⟩
            case measure => simp [intOf]; omega
    · have hlt' : ¬ (i : Int) < (T.length : Int) := by omega
      have hie : i = T.length := by omega
      subst hie
      rw [List.take_length] at HR
      go_wp2
      go_ret
      exact ⟨_, rfl, HR.out, hB.out⟩

end Go.Proofs.YtmjpmmkjfimopaaDoor

namespace Go.Proofs.YtmjpmmkjfimopaaDoor
open Go.RowKit Plain Sch Wan Prg

/-- how a peephole lies in memory -/
def HSt (w : World) (hb : Nat) (v : Value) (L : List Ins) : Prop :=
  hb < w.heap.size ∧ w.cell? ⟨hb, 0, none⟩ = some v ∧ w.frozen? ⟨hb, 0, none⟩ = false ∧ IRow w (hb + 1) v L

theorem HSt.below {w w' : World} {hb : Nat} {v : Value} {L : List Ins} (h : HSt w hb v L) (hb' : Below w.heap.size w w') : HSt w' hb v L := by
  obtain ⟨h1, h2, h3, h4⟩ := h
  exact ⟨Nat.lt_of_lt_of_le h1 hb'.size, (hb'.cell (p := ⟨hb, 0, none⟩) h1).trans h2, (hb'.frozen (p := ⟨hb, 0, none⟩) h1).trans h3, h4.below hb'⟩

theorem HSt.ins {w : World} {hb g cap : Nat} {L : List Ins} (h : HSt w hb (.slice (some ⟨g, 0, none⟩) L.length cap) L) {k : Nat} (hk : k < L.length) : InsIn w g (k * 6) (ins L k) := by
  have h0 := h.2.2.2
  unfold IRow at h0
  have c : ∀ j, j < 6 → w.cell? ⟨g, k * 6 + j, none⟩ = (Prg.ins L k).cells[j]? := fun j hj => by
    rw [h0.cellAt (k * 6 + j) (by omega)]
    exact flat6Ins L k j hk hj
  exact ⟨c 0 (by omega), c 1 (by omega), c 2 (by omega), c 3 (by omega), c 4 (by omega), c 5 (by omega)⟩

theorem HSt.form {w : World} {hb : Nat} {v : Value} {L : List Ins} (h : HSt w hb v L) (h0 : 0 < L.length) : ∃ g cap, v = .slice (some ⟨g, 0, none⟩) L.length cap ∧ hb < g ∧ g < w.heap.size ∧ L.length ≤ cap ∧ cap ≤ maxLen := by
  rcases h.2.2.2.2 with ⟨_, hn⟩ | ⟨g, cap, cur, rfl, hB, hg, h1, h2, _⟩
  · omega
  · exact ⟨g, cap, rfl, by omega, (Array.getElem?_eq_some_iff.1 hg).1, h1, h2⟩

/-- do these codes stand there -/
def hasC (L : List Ins) (i : Nat) (cs : List Int) : Bool := decide (i + cs.length ≤ L.length) && decide (∀ j, j < cs.length → (ins L (i + j)).code = cs.getD j 0)

set_option maxRecDepth 100000 in
set_option maxHeartbeats 4000000 in
theorem hasCodes_any (L : List Ins) (i : Nat) (cs : List Int) (hb cb ccap : Nat) (v : Value) (w : World) (hH : HSt w hb v L) (h0 : 0 < L.length) (h60 : L.length ≤ 60) (hi : i ≤ L.length) (hcs : cs.length ≤ 3) (hcb : cb < w.heap.size) (hcc : ∀ j, j < cs.length → w.cell? ⟨cb, j, none⟩ = some (.int .i64 (cs.getD j 0))) (hcl : cs.length ≤ ccap) (hcm : ccap ≤ 100) :
    Calls Tryd.prog 91 #[.pointer (some ⟨hb, 0, none⟩), .int .i64 i, .slice (some ⟨cb, 0, none⟩) cs.length ccap] w fun e w' => e = .returned (.bool (hasC L i cs)) ∧ w' = w := by
  obtain ⟨g, cap, rfl, hhg, hgw, hlc, hcm2⟩ := hH.form h0
  have HI : Hid (∀ k, k < L.length → InsIn w g (k * 6) (ins L k)) := fun k hk => hH.ins hk
  have HC : Hid (∀ j, j < cs.length → w.cell? ⟨cb, j, none⟩ = some (.int .i64 (cs.getD j 0))) := hcc
  obtain ⟨h1, h2, h3, _⟩ := hH
  have hcm3 : cap ≤ 9223372036854775807 := by unfold maxLen at hcm2; omega
  clear hcc
  by_cases hle : i + cs.length ≤ L.length
  · have hle' : ¬ (L.length : Int) - (i : Int) < (cs.length : Int) := by omega
    go_enter Tryd.func91, Tryd.ntmps91
    go_wp2
    go_loopw [21] (fun vj wr => ∃ j : Nat, j ≤ cs.length ∧ vj = .int .i64 (j : Int) ∧ wr = w ∧ Hid (∀ q, q < j → (ins L (i + q)).code = cs.getD q 0))
      (fun vj _ => cs.length - (intOf vj).toNat)
    case atStart => exact ⟨0, by omega, rfl, rfl, fun q hq => by omega⟩
    case round =>
      obtain ⟨j, hj, rfl, rfl, hall⟩ := hrel
      by_cases hlt : j < cs.length
      · have hlt' : (j : Int) < (cs.length : Int) := by omega
        have cj := HC.out j hlt
        obtain ⟨c0, _⟩ := HI.out (i + j) (by omega)
        have hij : (i : Int) + (j : Int) < (L.length : Int) := by omega
        have hij0 : (0 : Int) ≤ (i : Int) + (j : Int) := by omega
        have hNx : Hid ((ins L (i + j)).code = cs.getD j 0 → ∀ q, q < j + 1 → (ins L (i + q)).code = cs.getD q 0) := fun h q hq => by
          by_cases e : q = j
          · rw [e]; exact h
          · exact hall.out q (by omega)
        have hNo : Hid (¬ (ins L (i + j)).code = cs.getD j 0 → hasC L i cs = false) := fun h => by
          unfold hasC
          rw [Bool.and_eq_false_iff]
          right
          simp only [decide_eq_false_iff_not]
          exact fun hq => h (hq j hlt)
        generalize (ins L (i + j)).code = a at c0 hNx hNo
        generalize cs.getD j 0 = b at cj hNx hNo
        clear hall
        by_cases hab : a = b
        · subst hab
          have hN : Hid (∀ q, q < j + 1 → (ins L (i + q)).code = cs.getD q 0) := hNx.out rfl
          clear hNx hNo
          go_wp2
          go_roundw
          case rel => exact ⟨j + 1, by omega, by go_num, by first | rfl | trivial, hN⟩
          case measure => simp [intOf]; omega
        · have hab' : (a != b) = true := by simp [hab]
          have hF : Hid (hasC L i cs = false) := hNo.out hab
          clear hNx hNo hab
          go_wp2
          go_ret
          exact ⟨by rw [hF.out]; rfl, rfl⟩
      · have hlt' : ¬ (j : Int) < (cs.length : Int) := by omega
        have hF : Hid (hasC L i cs = true) := by
          show hasC L i cs = true
          unfold hasC
          simp only [Bool.and_eq_true, decide_eq_true_eq]
          exact ⟨hle, fun q hq => hall.out q (by omega)⟩
        clear hall
        go_wp2
        go_ret
        exact ⟨by rw [hF.out]; rfl, rfl⟩
  · have hle' : (L.length : Int) - (i : Int) < (cs.length : Int) := by omega
    have hF : Hid (hasC L i cs = false) := by
      show hasC L i cs = false
      unfold hasC
      simp [hle]
    go_enter Tryd.func91, Tryd.ntmps91
    go_wp2
    go_ret
    exact ⟨by rw [hF.out]; rfl, rfl⟩

set_option maxRecDepth 100000 in
set_option maxHeartbeats 2000000 in
theorem ledC_any (x : Ins) (q : Int) (b : Nat) (w : World) (hb : b < w.heap.size) (hc : w.cell? ⟨b, 0, none⟩ = some (.int .i64 q)) :
    Calls Tryd.prog 106 #[.agg #[.int .i64 x.code, .int .i64 x.kind, .int .i64 x.no, .int .i64 x.num, .string x.text, .int .i64 x.dst], .pointer (some ⟨b, 0, none⟩)] w fun e w' => e = .returned (.bool (decide (x.code = 3) && decide (x.dst = q))) ∧ Below w.heap.size w w' := by
  obtain ⟨c, k, n, m, t, jt⟩ := x
  dsimp only
  have hB : ∀ o, Below w.heap.size w (w.alloc o) := fun o => (Below.refl _ w).alloc (Nat.le_refl _) o
  by_cases h3 : c = 3
  · subst h3
    by_cases hq : jt = q
    · subst hq
      have hF : (decide ((3 : Int) = 3) && decide (jt = jt)) = true := by simp
      rw [hF]
      go_enter Tryd.func106, Tryd.ntmps106
      go_wp2
      go_ret
      exact ⟨rfl, hB _⟩
    · have hq' : (jt == q) = false := by simp [hq]
      have hF : (decide ((3 : Int) = 3) && decide (jt = q)) = false := by simp [hq]
      rw [hF]
      clear hq hF
      go_enter Tryd.func106, Tryd.ntmps106
      go_wp2
      go_ret
      exact ⟨rfl, hB _⟩
  · have h3' : (c == 3) = false := by simp [h3]
    have hF : (decide (c = 3) && decide (jt = q)) = false := by simp [h3]
    rw [hF]
    clear h3 hF
    go_enter Tryd.func106, Tryd.ntmps106
    go_wp2
    go_ret
    exact ⟨rfl, hB _⟩

set_option maxRecDepth 100000 in
set_option maxHeartbeats 4000000 in
theorem indexFunc_any (T : List Ins) (v : Value) (q : Int) (b : Nat) (w : World) (hT : InsAt w w.heap.size v T) (h60 : T.length ≤ 60) (hb : b < w.heap.size) (hc : w.cell? ⟨b, 0, none⟩ = some (.int .i64 q)) :
    Calls Tryd.prog 110 #[v, .func (.func 106) #[] #[.pointer (some ⟨b, 0, none⟩)]] w fun e w' => (∃ r : Int, e = .returned (.int .i64 r) ∧ -1 ≤ r ∧ r ≤ 60 ∧ (decide (0 ≤ r)) = led T q) ∧ Below w.heap.size w w' := by
  obtain ⟨ao, cap, rfl, hlc, hcm, hrow, _⟩ := hT
  have HROW : Hid (∀ i, i < T.length → ∃ g o, ao = some ⟨g, o, none⟩ ∧ g < w.heap.size ∧ InsIn w g (o + i * 6) (ins T i)) := hrow
  clear hrow
  unfold maxLen at hcm
  go_enter Tryd.func110, Tryd.ntmps110
  go_wp2
  go_loopw [8] (fun vi wr => ∃ i : Nat, i ≤ T.length ∧ vi = .int .i64 (i : Int) ∧ Hid (∀ j, j < i → ¬ ((ins T j).code = 3 ∧ (ins T j).dst = q)) ∧ Hid (Below w.heap.size w wr))
    (fun vi _ => T.length - (intOf vi).toNat)
  case atStart => exact ⟨0, by omega, rfl, fun j hj => by omega, Below.refl _ _⟩
  case round =>
    obtain ⟨i, hi, rfl, hall, hB⟩ := hrel
    by_cases hlt : i < T.length
    · have hlt' : (i : Int) < (T.length : Int) := by omega
      obtain ⟨g, o, rfl, hg, hty⟩ := HROW.out i hlt
      have hci := hty.below hB.out hg
      have hbr : b < wr.heap.size := by have := hB.out.size; omega
      have hcr := (hB.out.cell (p := ⟨b, 0, none⟩) hb).trans hc
      have hYes : Hid ((ins T i).code = 3 → (ins T i).dst = q → led T q = true) := fun h1 h2 => led_yes hlt h1 h2
      have hNx : Hid (¬ ((ins T i).code = 3 ∧ (ins T i).dst = q) → ∀ j, j < i + 1 → ¬ ((ins T j).code = 3 ∧ (ins T j).dst = q)) := fun h j hj => by
        by_cases e : j = i
        · rw [e]; exact h
        · exact hall.out j (by omega)
      have CC : Hid (∀ W : World, Below w.heap.size w W → Calls Tryd.prog 106 #[.agg #[.int .i64 (ins T i).code, .int .i64 (ins T i).kind, .int .i64 (ins T i).no, .int .i64 (ins T i).num, .string (ins T i).text, .int .i64 (ins T i).dst], .pointer (some ⟨b, 0, none⟩)] W fun e w' => e = .returned (.bool (decide ((ins T i).code = 3) && decide ((ins T i).dst = q))) ∧ Below W.heap.size W w') := fun W hW => ledC_any (ins T i) q b W (by have := hW.size; omega) ((hW.cell (p := ⟨b, 0, none⟩) hb).trans hc)
      generalize ins T i = x at hci hYes hNx CC
      obtain ⟨c, k, n, m, t, jt⟩ := x
      obtain ⟨c0, c1, c2, c3, c4, c5⟩ := hci
      dsimp only at c0 c1 c2 c3 c4 c5 hYes hNx CC
      clear hty hall
      by_cases h3 : c = 3 ∧ jt = q
      · have hF : Hid (led T q = true) := hYes.out h3.1 h3.2
        have hd : (decide (c = 3) && decide (jt = q)) = true := by simp [h3]
        rw [hd] at CC
        clear hYes hNx h3 hd
        go_wp2_with fail
        refine (CC.out _ hB.out).mono ?_
        rintro e w4 ⟨rfl, hb4⟩
        have hB4 : Below w.heap.size w w4 := hB.out.trans (hb4.mono hB.out.size)
        clear hb4
        go_wp2
        go_ret
        exact ⟨⟨(i : Int), rfl, by omega, by omega, by rw [hF.out]; simp⟩, hB4⟩
      · have hd : (decide (c = 3) && decide (jt = q)) = false := by
          by_cases h : c = 3
          · have : ¬ jt = q := fun e => h3 ⟨h, e⟩
            simp [this]
          · simp [h]
        have hN : Hid (∀ j, j < i + 1 → ¬ ((ins T j).code = 3 ∧ (ins T j).dst = q)) := hNx.out h3
        rw [hd] at CC
        clear hYes hNx h3 hd
        go_wp2_with fail
        refine (CC.out _ hB.out).mono ?_
        rintro e w4 ⟨rfl, hb4⟩
        have hB4 : Hid (Below w.heap.size w w4) := hB.out.trans (hb4.mono hB.out.size)
        clear hb4
        go_wp2
        go_roundw
        case rel => exact ⟨i + 1, by omega, by go_num, hN, hB4⟩
        case measure => simp [intOf]; omega
    · have hlt' : ¬ (i : Int) < (T.length : Int) := by omega
      have hF : Hid (led T q = false) := led_none (fun j hj => hall.out j (by omega))
      clear hall
      go_wp2
      go_ret
      exact ⟨⟨-1, rfl, by omega, by omega, by rw [hF.out]; decide⟩, hB.out⟩

set_option maxRecDepth 100000 in
set_option maxHeartbeats 2000000 in
theorem containsFunc_any (T : List Ins) (v : Value) (q : Int) (b : Nat) (w : World) (hT : InsAt w w.heap.size v T) (h60 : T.length ≤ 60) (hb : b < w.heap.size) (hc : w.cell? ⟨b, 0, none⟩ = some (.int .i64 q)) :
    Calls Tryd.prog 105 #[v, .func (.func 106) #[] #[.pointer (some ⟨b, 0, none⟩)]] w fun e w' => e = .returned (.bool (led T q)) ∧ Below w.heap.size w w' := by
  have CI : Hid (Calls Tryd.prog 110 #[v, .func (.func 106) #[] #[.pointer (some ⟨b, 0, none⟩)]] w fun e w' => (∃ r : Int, e = .returned (.int .i64 r) ∧ -1 ≤ r ∧ r ≤ 60 ∧ (decide (0 ≤ r)) = led T q) ∧ Below w.heap.size w w') := indexFunc_any T v q b w hT h60 hb hc
  obtain ⟨ao, cap, rfl, _⟩ := hT
  go_enter Tryd.func105, Tryd.ntmps105
  go_wp2_with fail
  refine CI.out.mono ?_
  rintro e w2 ⟨⟨r, rfl, hr1, hr2, hr3⟩, hb2⟩
  go_wp2
  go_ret
  exact ⟨by rw [← hr3]; rfl, hb2⟩

set_option maxRecDepth 100000 in
set_option maxHeartbeats 2000000 in
theorem isLedTo_any (L : List Ins) (q : Int) (hb : Nat) (v : Value) (w : World) (hH : HSt w hb v L) (h60 : L.length ≤ 60) (hT : ∀ x ∈ L, x.text.size ≤ 30) :
    Calls Tryd.prog 92 #[.pointer (some ⟨hb, 0, none⟩), .int .i64 q] w fun e w' => e = .returned (.bool (led L q)) ∧ Below w.heap.size w w' := by
  have hB1 : Below w.heap.size w (w.alloc (.cells #[.int .i64 q] 3)) := (Below.refl _ w).alloc (Nat.le_refl _) _
  have CI : Hid (Calls Tryd.prog 105 #[v, .func (.func 106) #[] #[.pointer (some ⟨w.heap.size, 0, none⟩)]] (w.alloc (.cells #[.int .i64 q] 3)) fun e w' => e = .returned (.bool (led L q)) ∧ Below (w.alloc (.cells #[.int .i64 q] 3)).heap.size (w.alloc (.cells #[.int .i64 q] 3)) w') := containsFunc_any L v q w.heap.size _ ((hH.below hB1).2.2.2.at hT) h60 (by simp) (by go_simp)
  obtain ⟨ao, cap, rfl, _⟩ := hH.2.2.2.slice
  obtain ⟨h1, h2, h3, _⟩ := hH
  go_enter Tryd.func92, Tryd.ntmps92
  go_wp2_with fail
  refine CI.out.mono ?_
  rintro e w2 ⟨rfl, hb2⟩
  go_wp2
  go_ret
  exact ⟨rfl, hB1.trans (hb2.mono (by simp))⟩

end Go.Proofs.YtmjpmmkjfimopaaDoor

namespace Go.Proofs.YtmjpmmkjfimopaaDoor
open Go.RowKit Plain Sch Wan Prg

theorem step_append_fits {P : Program} {ops : Array Oper} {o : Oper} {a : Act} {w : World} {K : Act → World → Prop} {Q : Exit → Act → World → Prop} {E : Prop} (hgd : o.guard = none) (s x : Operand) (t : TypeId)
    (ho : o.op = .call { callee := .builtin .append, args := #[s, x], argTypes := #[t, t] })
    (base : Nat) (e : TypeId) (i : TypeInfo) (size : Nat) (ht : P.underlying t = some (.slice e)) (hi : P.info? e = some i) (hsize : i.size = size)
    (g n cap : Nat) (xs : List Value) (hs : a.eval s = .slice (some ⟨g, 0, none⟩) n cap) (hown : w.ownsRow base e size (.slice (some ⟨g, 0, none⟩) n cap) n xs)
    (ad : Addr) (m c : Nat) (news : List Value) (hx : a.eval x = .slice (some ad) m c) (hl : news.length = m * size) (hnews : ∀ j u, news[j]? = some u → w.cell? (ad.add j) = some u) (h1 : ∀ u ∈ news, u.oneCell' = true)
    (hroom : n + m ≤ cap)
    (h : ∀ w', w'.ownsRow base e size (.slice (some ⟨g, 0, none⟩) (n + m) cap) (n + m) (xs ++ news) → w.grownBy w' (some g) → K (a.put o.dst (.slice (some ⟨g, 0, none⟩) (n + m) cap)) w') :
    if Region.wanted o (yielded ops a.tmps) = true then Oper.wp P o a w K Q else E := by
  have hw : Region.wanted o (yielded ops a.tmps) = true := by simp [Region.wanted, hgd]
  rw [if_pos hw]
  obtain ⟨w', hr, h2, h3⟩ := run_append_fits (P := P) w base t o.type e i size ht hi hsize g n cap xs hown ad m c news hl hnews h1 hroom
  unfold Oper.wp execOp
  simp only [ho, resolve, invoke, builtin, Sem.run_bind, Sem.run_pure, Result.andThen_ok, List.map_toArray, List.map_cons, List.map_nil, hs, hx, hr]
  exact h w' h2 h3

theorem zc_len (z : Array Value) (n : Nat) : (Builtin.zeroCells z n).toList.length = n * z.size := by simp [Builtin.zeroCells]

theorem zc_one (n : Nat) : ∀ u ∈ (Builtin.zeroCells #[Value.int .i64 0, .int .i64 0, .int .i64 0, .int .i64 0, .string ⟨#[]⟩, .int .i64 0] n).toList, u.oneCell' = true := by
  intro u hu
  simp only [Builtin.zeroCells, Array.toList_map, List.mem_map] at hu
  obtain ⟨i, _, rfl⟩ := hu
  have hz : (#[Value.int .i64 0, .int .i64 0, .int .i64 0, .int .i64 0, .string ⟨#[]⟩, .int .i64 0] : Array Value).size = 6 := rfl
  rw [hz]
  have h6 : i % 6 < 6 := Nat.mod_lt _ (by omega)
  generalize i % 6 = r at h6 ⊢
  match r, h6 with
  | 0, _ | 1, _ | 2, _ | 3, _ | 4, _ | 5, _ => rfl
  | n + 6, h => exact absurd h (by omega)

theorem run_clear_row (w : World) (B g n cap m c : Nat) (xs : List Value) (ty : TypeId) (hown : w.ownsRow B 59 6 (.slice (some ⟨g, 0, none⟩) n cap) n xs) (hm : 0 < m) (hroom : n + m ≤ cap) :
    ∃ w', (Builtin.clear_ #[28] ty #[.slice (some ⟨g, n * 6, none⟩) m c]).run Tryd.prog w = .ok (.tuple #[]) w' ∧ w'.ownsRow B 59 6 (.slice (some ⟨g, 0, none⟩) n cap) n xs ∧ w.grownBy w' (some g) := by
  obtain ⟨hxl, h⟩ := hown
  rcases h with ⟨h, _⟩ | ⟨g', cap', cur, h, hbg, hg, hnc, hcm, hcs, htake⟩
  · simp at h
  · simp only [Value.slice.injEq, Option.some.injEq, Addr.mk.injEq, and_true, true_and] at h
    obtain ⟨rfl, rfl⟩ := h
    obtain ⟨zs, hzs⟩ : ∃ zs, zs = (Builtin.zeroCells #[Value.int .i64 0, .int .i64 0, .int .i64 0, .int .i64 0, .string ⟨#[]⟩, .int .i64 0] m).toList := ⟨_, rfl⟩
    have hl : zs.length = m * 6 := by rw [hzs, zc_len]; rfl
    have h1 : ∀ u ∈ zs, u.oneCell' = true := by rw [hzs]; exact zc_one m
    have hst := run_storeCells_at (P := Tryd.prog) g (n * 6) 59 zs 0 cur w hg (by rw [hl]; simp; omega) h1
    simp only [Nat.add_zero] at hst
    obtain ⟨m', rfl⟩ : ∃ m', m = m' + 1 := ⟨m - 1, by omega⟩
    refine ⟨w.setRow g (cur.toList.take (n * 6) ++ zs ++ cur.toList.drop (n * 6 + zs.length)).toArray, ?_, ⟨hxl, .inr ⟨g, cap, _, rfl, hbg, setRow_heap w g cur _ 59 _ hg, hnc, hcm, ?_, ?_⟩⟩, ⟨rfl, rfl, rfl, by simp, fun k _ hk => setRow_other w g k _ (fun e => hk (by simp [e]))⟩⟩
    · simp [Builtin.clear_, run_underlying Tryd.underlying28, Tryd.zeroValue59, Value.cells, ← hzs, hst]
    · simp only [List.size_toArray, List.length_append, List.length_take, List.length_drop, Array.length_toList, hl]
      omega
    · rw [← htake]
      show List.take (n * 6) (cur.toList.take (n * 6) ++ zs ++ cur.toList.drop (n * 6 + zs.length)) = _
      rw [List.append_assoc, List.take_append_of_le_length (by simp; omega), List.take_take, Nat.min_self]

end Go.Proofs.YtmjpmmkjfimopaaDoor
