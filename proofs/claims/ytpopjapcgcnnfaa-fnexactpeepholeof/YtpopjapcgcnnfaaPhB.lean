/- The model's l8Led and l8Cut. -/
import Derived.Test.YtpopjapcgcnnfaaPhA
import Derived.Test.YtpopjapcgcnnfaaCsA
namespace Go.Proofs.Ytpopjapcgcnnfaa
open Go.RowKit Plain Sch Wan Prg

theorem led_yes {T : List Ins} {k : Int} {i : Nat} (hi : i < T.length) (hc : (ins T i).code = 3) (hd : (ins T i).dst = k) : led T k = true := by
  unfold led
  rw [List.any_eq_true]
  exact ⟨ins T i, List.mem_of_getElem? (ins_get hi), by simp [hc, hd]⟩

theorem led_none {T : List Ins} {k : Int} (h : ∀ j, j < T.length → ¬ ((ins T j).code = 3 ∧ (ins T j).dst = k)) : led T k = false := by
  unfold led
  rw [List.any_eq_false]
  intro x hx
  obtain ⟨j, hj, rfl⟩ := List.getElem_of_mem hx
  have e : ins T j = T[j] := by unfold ins; rw [List.getD, List.getElem?_eq_getElem hj]; rfl
  have := h j hj
  rw [e] at this
  simp
  intro h1 h2
  exact this ⟨h1, h2⟩

set_option maxRecDepth 100000 in
set_option maxHeartbeats 4000000 in
theorem l8Led_any (T : List Ins) (v : Value) (q : Int) (w : World) (hT : InsAt w w.heap.size v T) (h60 : T.length ≤ 60) :
    Calls Try.prog 96 #[v, .int .i64 q] w fun e w' => e = .returned (.bool (led T q)) ∧ Below w.heap.size w w' := by
  obtain ⟨ao, cap, rfl, hlc, hcm, hrow, _⟩ := hT
  have HROW : Hid (∀ i, i < T.length → ∃ g o, ao = some ⟨g, o, none⟩ ∧ g < w.heap.size ∧ InsIn w g (o + i * 6) (ins T i)) := hrow
  clear hrow
  unfold maxLen at hcm
  go_enter Try.func96, Try.ntmps96
  go_wp2
  go_loopw [9] (fun vi wr => ∃ i : Nat, i ≤ T.length ∧ vi = .int .i64 (i : Int) ∧ Hid (∀ j, j < i → ¬ ((ins T j).code = 3 ∧ (ins T j).dst = q)) ∧ Hid (Below w.heap.size w wr))
    (fun vi _ => T.length - (intOf vi).toNat)
  case atStart => exact ⟨0, by omega, rfl, fun j hj => by omega, Below.refl _ _⟩
  case round =>
    obtain ⟨i, hi, rfl, hall, hB⟩ := hrel
    by_cases hlt : i < T.length
    · have hlt' : (i : Int) < (T.length : Int) := by omega
      obtain ⟨g, o, rfl, hg, hty⟩ := HROW.out i hlt
      have hci := hty.below hB.out hg
      have hgw : g < wr.heap.size := by have := hB.out.size; omega
      have hYes : Hid ((ins T i).code = 3 → (ins T i).dst = q → led T q = true) := fun h1 h2 => led_yes hlt h1 h2
      have hNx : Hid (¬ ((ins T i).code = 3 ∧ (ins T i).dst = q) → ∀ j, j < i + 1 → ¬ ((ins T j).code = 3 ∧ (ins T j).dst = q)) := fun h j hj => by
        by_cases e : j = i
        · rw [e]; exact h
        · exact hall.out j (by omega)
      have hB2 : ∀ o, Below w.heap.size w (wr.alloc o) := fun o => hB.out.alloc hB.out.size o
      generalize ins T i = x at hci hYes hNx
      obtain ⟨c, k, n, m, t, jt⟩ := x
      obtain ⟨c0, c1, c2, c3, c4, c5⟩ := hci
      dsimp only at c0 c1 c2 c3 c4 c5 hYes hNx
      clear hty hall
      by_cases h3 : c = 3
      · subst h3
        by_cases hq : jt = q
        · subst hq
          have hF : Hid (led T jt = true) := hYes.out rfl rfl
          clear hYes hNx
          go_wp2
          go_ret
          exact ⟨by rw [hF.out]; rfl, hB2 _⟩
        · have hq' : (jt == q) = false := by simp [hq]
          have hN : Hid (∀ j, j < i + 1 → ¬ ((ins T j).code = 3 ∧ (ins T j).dst = q)) := hNx.out (by simp [hq])
          clear hYes hNx hq
          go_wp2
          go_roundw
          case rel => exact ⟨i + 1, by omega, by go_num, hN, hB2 _⟩
          case measure => simp [intOf]; omega
      · have h3' : (c == 3) = false := by simp [h3]
        have hN : Hid (∀ j, j < i + 1 → ¬ ((ins T j).code = 3 ∧ (ins T j).dst = q)) := hNx.out (by simp [h3])
        clear hYes hNx h3
        go_wp2
        go_roundw
        case rel => exact ⟨i + 1, by omega, by go_num, hN, hB2 _⟩
        case measure => simp [intOf]; omega
    · have hlt' : ¬ (i : Int) < (T.length : Int) := by omega
      have hF : Hid (led T q = false) := led_none (fun j hj => hall.out j (by omega))
      clear hall
      go_wp2
      go_ret
      exact ⟨by rw [hF.out]; rfl, hB.out⟩

theorem take_snocI (T : List Ins) (i : Nat) (h : i < T.length) : T.take (i + 1) = T.take i ++ [ins T i] := by
  rw [List.take_add_one, ins_get h]; rfl

theorem cut_in {T : List Ins} {f m i : Nat} (h1 : f ≤ i) (h2 : i < f + m) (hi : i < T.length) : cutP (T.take (i + 1)) f m = cutP (T.take i) f m := by
  unfold cutP
  rw [List.take_take, List.take_take, Nat.min_eq_left (by omega), Nat.min_eq_left (by omega), List.drop_eq_nil_of_le (by simp; omega), List.drop_eq_nil_of_le (by simp; omega)]

theorem cut_lo {T : List Ins} {f m i : Nat} (h1 : i < f) (hi : i < T.length) : cutP (T.take (i + 1)) f m = cutP (T.take i) f m ++ [dwn f m (ins T i)] := by
  unfold cutP
  rw [List.take_take, List.take_take, Nat.min_eq_right (by omega), Nat.min_eq_right (by omega), List.drop_eq_nil_of_le (by simp; omega), List.drop_eq_nil_of_le (by simp; omega), List.append_nil, List.append_nil, take_snocI T i hi, List.map_append]
  rfl

theorem cut_hi {T : List Ins} {f m i : Nat} (h1 : f + m ≤ i) (hi : i < T.length) : cutP (T.take (i + 1)) f m = cutP (T.take i) f m ++ [dwn f m (ins T i)] := by
  unfold cutP
  rw [List.take_take, List.take_take, Nat.min_eq_left (by omega), Nat.min_eq_left (by omega), take_snocI T i hi, List.drop_append_of_le_length (by simp; omega)]
  simp

theorem cutP_len_le (T : List Ins) (f m : Nat) : (cutP T f m).length ≤ T.length := by
  unfold cutP; simp; omega

set_option maxRecDepth 100000 in
set_option maxHeartbeats 8000000 in
theorem l8Cut_any (T : List Ins) (v : Value) (f m : Nat) (w : World) (hT : InsAt w w.heap.size v T) (h60 : T.length ≤ 60) (hfm : f + m ≤ 60) (hdst : ∀ i, i < T.length → (ins T i).code = 3 → 0 ≤ (ins T i).dst ∧ (ins T i).dst ≤ 60) (hled : ∀ i, i < T.length → (ins T i).code = 3 → (f : Int) < (ins T i).dst → (f : Int) + m ≤ (ins T i).dst) :
    Calls Try.prog 97 #[v, .int .i64 f, .int .i64 m] w fun e w' => ∃ v', e = .returned v' ∧ IRow w' w.heap.size v' (cutP T f m) ∧ Below w.heap.size w w' := by
  obtain ⟨i0, hi0, hz0, hz1, hz2⟩ := info_parts Try.infoIns
  obtain ⟨ao, cap, rfl, hlc, hcm, hrow, _⟩ := hT
  have HROW : Hid (∀ i, i < T.length → ∃ g o, ao = some ⟨g, o, none⟩ ∧ g < w.heap.size ∧ InsIn w g (o + i * 6) (ins T i)) := hrow
  have HLED : Hid (∀ i, i < T.length → (ins T i).code = 3 → (f : Int) < (ins T i).dst → (f : Int) + m ≤ (ins T i).dst) := hled
  have HDST : Hid (∀ i, i < T.length → (ins T i).code = 3 → 0 ≤ (ins T i).dst ∧ (ins T i).dst ≤ 60) := hdst
  clear hrow hled hdst
  unfold maxLen at hcm
  have hf60 : (f : Int) + (m : Int) ≤ 60 := by omega
  go_enter Try.func97, Try.ntmps97
  go_wp2
  go_loopw [7, 12] (fun vl vi wr => ∃ i : Nat, i ≤ T.length ∧ vi = .int .i64 (i : Int) ∧ Hid (IRow wr w.heap.size vl (cutP (T.take i) f m)) ∧ Hid (Below w.heap.size w wr))
    (fun _ vi _ => T.length - (intOf vi).toNat)
  case atStart => exact ⟨0, by omega, rfl, by show IRow _ _ _ _; simp only [List.take_zero, cutP, List.take_nil, List.drop_nil, List.append_nil, List.map_nil]; exact World.ownsRow_nil _ _ _ _, Below.refl _ _⟩
  case round =>
    obtain ⟨i, hi, rfl, HR, hB⟩ := hrel
    have hsz := hB.out.size
    by_cases hlt : i < T.length
    · have hlt' : (i : Int) < (T.length : Int) := by omega
      obtain ⟨g, o, rfl, hg, hty⟩ := HROW.out i hlt
      have hci := hty.below hB.out hg
      have hgw : g < wr.heap.size := by omega
      have hDl : Hid ((cutP (T.take i) f m).length ≤ 60) := by show _ ≤ _; have := cutP_len_le (T.take i) f m; simp at this; omega
      have hL := HLED.out i hlt
      have hD := HDST.out i hlt
      have hIn : Hid (f ≤ i → i < f + m → cutP (T.take (i + 1)) f m = cutP (T.take i) f m) := fun h1 h2 => cut_in h1 h2 hlt
      have hOut : Hid (¬ (f ≤ i ∧ i < f + m) → cutP (T.take (i + 1)) f m = cutP (T.take i) f m ++ [dwn f m (ins T i)]) := fun h => by
        by_cases h1 : i < f
        · exact cut_lo h1 hlt
        · exact cut_hi (by omega) hlt
      obtain ⟨D1, hD1⟩ : ∃ D1, cutP (T.take (i + 1)) f m = D1 := ⟨_, rfl⟩
      rw [hD1] at hIn hOut
      have HD1 : Hid (cutP (T.take (i + 1)) f m = D1) := hD1
      clear hD1
      generalize cutP (T.take i) f m = D at HR hDl hIn hOut
      generalize ins T i = x at hci hL hD hOut
      obtain ⟨c, k, n, mm, t, jt⟩ := x
      obtain ⟨c0, c1, c2, c3, c4, c5⟩ := hci
      dsimp only at c0 c1 c2 c3 c4 c5 hL hD hOut
      clear hty
      obtain ⟨ar, capr, rfl, hnr, hcmr⟩ := HR.out.slice
      have hcmr' : capr ≤ 9223372036854775807 := by unfold maxLen at hcmr; omega
      have HLT0 : Hid (∀ g, (Value.slice ar D.length capr).ownBlock = some g → g < wr.heap.size) := fun g hg => (World.ownsRow.lt HR.out g hg).2
      have hDl' : D.length ≤ 60 := hDl.out
      obtain ⟨W3, hW3⟩ : ∃ W, W = wr.alloc (.cells #[.int .i64 c, .int .i64 k, .int .i64 n, .int .i64 mm, .string t, .int .i64 jt] 76) := ⟨_, rfl⟩
      have hA3 : Below wr.heap.size wr W3 := by rw [hW3]; exact (Below.refl _ wr).alloc (Nat.le_refl _) _
      have hl3 : wr.heap.size < W3.heap.size := by rw [hW3]; simp
      have x0 : W3.cell? ⟨wr.heap.size, 0, none⟩ = some (.int .i64 c) := by rw [hW3]; go_simp
      have x1 : W3.cell? ⟨wr.heap.size, 1, none⟩ = some (.int .i64 k) := by rw [hW3]; go_simp
      have x2 : W3.cell? ⟨wr.heap.size, 2, none⟩ = some (.int .i64 n) := by rw [hW3]; go_simp
      have x3 : W3.cell? ⟨wr.heap.size, 3, none⟩ = some (.int .i64 mm) := by rw [hW3]; go_simp
      have x4 : W3.cell? ⟨wr.heap.size, 4, none⟩ = some (.string t) := by rw [hW3]; go_simp
      have x5 : W3.cell? ⟨wr.heap.size, 5, none⟩ = some (.int .i64 jt) := by rw [hW3]; go_simp
      have e5 : W3.frozen? ⟨wr.heap.size, 5, none⟩ = false := by rw [hW3]; go_simp
      have HR3 : Hid (IRow W3 w.heap.size (.slice ar D.length capr) D) := HR.out.below hA3
      have hB3 : Hid (Below w.heap.size w W3) := hB.out.trans (hA3.mono hsz)
      go_upto_region 5 with fail
      rw [← hW3]
      clear hW3 c0 c1 c2 c3 c4 c5 HR
      by_cases hin : f ≤ i ∧ i < f + m
      · have hi1 : (f : Int) ≤ (i : Int) := by omega
        have hi2 : (i : Int) < (f : Int) + (m : Int) := by omega
        have hEq : Hid (D1 = D) := hIn.out hin.1 hin.2
        clear hIn hOut hin
        go_wp2
        go_roundw
        case rel => exact ⟨i + 1, by omega, by go_num, by show IRow _ _ _ _; rw [HD1.out, hEq.out]; exact HR3.out, hB3⟩
        case measure => simp [intOf]; omega
      · have hO : Hid (D1 = D ++ [dwn f m ⟨c, k, n, mm, t, jt⟩]) := hOut.out hin
        have HLT : Hid (∀ g, (Value.slice ar D.length capr).ownBlock = some g → g < wr.heap.size) := HLT0.out
        have hs3 : w.heap.size ≤ W3.heap.size := by omega
        clear hIn hOut
        by_cases hfi : f ≤ i
        · have hi1 : (f : Int) ≤ (i : Int) := by omega
          have hi2 : decide ((i : Int) < (f : Int) + (m : Int)) = false := by simp; omega
          clear hin
          by_cases h3 : c = 3
          · subst h3
            by_cases hfj : (f : Int) < jt
            · have hL2 := hL rfl hfj
              have hD2 := hD rfl
              have hnl : ¬ jt - (m : Int) < (f : Int) := by omega
              have hEq : Hid (D1 = D ++ [⟨3, k, n, mm, t, jt - (m : Int)⟩]) := by show D1 = _; rw [hO.out]; simp [dwn, hfj]
              clear hO
              obtain ⟨W4, hW4⟩ : ∃ W, W = W3.setCell ⟨wr.heap.size, 5, none⟩ (.int .i64 (jt - (m : Int))) := ⟨_, rfl⟩
              have y0 : W4.cell? ⟨wr.heap.size, 0, none⟩ = some (.int .i64 3) := by rw [hW4, World.cell?_setCell_other _ _ _ _ (by simp)]; exact x0
              have y1 : W4.cell? ⟨wr.heap.size, 1, none⟩ = some (.int .i64 k) := by rw [hW4, World.cell?_setCell_other _ _ _ _ (by simp)]; exact x1
              have y2 : W4.cell? ⟨wr.heap.size, 2, none⟩ = some (.int .i64 n) := by rw [hW4, World.cell?_setCell_other _ _ _ _ (by simp)]; exact x2
              have y3 : W4.cell? ⟨wr.heap.size, 3, none⟩ = some (.int .i64 mm) := by rw [hW4, World.cell?_setCell_other _ _ _ _ (by simp)]; exact x3
              have y4 : W4.cell? ⟨wr.heap.size, 4, none⟩ = some (.string t) := by rw [hW4, World.cell?_setCell_other _ _ _ _ (by simp)]; exact x4
              have y5 : W4.cell? ⟨wr.heap.size, 5, none⟩ = some (.int .i64 (jt - (m : Int))) := by rw [hW4]; exact World.cell?_setCell_same _ _ _ x5
              have hlr : ∀ g, (Value.slice ar D.length capr).ownBlock = some g → g < wr.heap.size := HLT.out
              have HR4 : Hid (IRow W4 w.heap.size (.slice ar D.length capr) D) := by
                show IRow _ _ _ _
                rw [hW4]
                exact ownsRow_setCell_other (a := ⟨wr.heap.size, 5, none⟩) HR3.out (fun e => absurd (hlr wr.heap.size e) (Nat.lt_irrefl _)) _
              have hB4 : Hid (Below w.heap.size w W4) := by show Below _ _ _; rw [hW4]; exact hB3.out.setCell (by show w.heap.size ≤ wr.heap.size; omega) _
              have hs4 : w.heap.size ≤ W4.heap.size := hB4.out.size
              have hl4 : wr.heap.size < W4.heap.size := by rw [hW4]; simpa [World.setCell] using hl3
              go_upto_region 8 with fail
              rw [← hW4]
              clear hW4 hlr
              go_wp2_with (at_builtin; refine wpList_append_lies _ rfl _ _ 27 rfl w.heap.size 76 i0 (.agg #[.int .i64 0, .int .i64 0, .int .i64 0, .int .i64 0, .string ⟨#[]⟩, .int .i64 0]) 6 56 Try.underlying27 hi0 hz0 hz1 hz2 rfl (by decide) _ D.length _ rfl (World.ownsRow.alloc HR4.out _) ⟨W4.heap.size, 0, none⟩ 1 1 [.int .i64 3, .int .i64 k, .int .i64 n, .int .i64 mm, .string t, .int .i64 (jt - (m : Int))] rfl rfl (World.news_of_block (heap_alloc_new W4 _)) (one6I _ _ _ _ _ _) (by omega) (by unfold maxLen; omega) (by omega) (by simp; omega) (W4.heap.size + 1) (by simp) ?_)
              intro g9 cap9 w9 hown9 hgrow9 hat9 hlt9
              have hE9 := app_end (L := D) (x := ⟨3, k, n, mm, t, (jt - (m : Int))⟩) hown9 hgrow9 hat9
              have HR9 : Hid (IRow w9 w.heap.size (.slice (some ⟨g9, 0, none⟩) (D.length + 1) cap9) (cutP (T.take (i + 1)) f m)) := by
                show IRow _ _ _ _
                rw [HD1.out, hEq.out]
                simpa using hE9.1
              have HB9 : Hid (Below w.heap.size w w9) := hB4.out.trans (IRow.keeps HR4.out (by have := hB4.out.size; omega) hE9.2)
              clear hown9 hgrow9 hat9 hE9
              go_wp2
              go_roundw
              case rel => exact ⟨i + 1, by omega, by go_num, HR9, HB9⟩
              case measure => simp [intOf]; omega
            · have hfj' : decide ((f : Int) < jt) = false := by simpa using hfj
              have hEq : Hid (D1 = D ++ [⟨3, k, n, mm, t, jt⟩]) := by show D1 = _; rw [hO.out]; simp [dwn, hfj]
              clear hO hfj
              go_wp2_with (at_builtin; refine wpList_append_lies _ rfl _ _ 27 rfl w.heap.size 76 i0 (.agg #[.int .i64 0, .int .i64 0, .int .i64 0, .int .i64 0, .string ⟨#[]⟩, .int .i64 0]) 6 56 Try.underlying27 hi0 hz0 hz1 hz2 rfl (by decide) _ D.length _ rfl (World.ownsRow.alloc HR3.out _) ⟨W3.heap.size, 0, none⟩ 1 1 [.int .i64 3, .int .i64 k, .int .i64 n, .int .i64 mm, .string t, .int .i64 jt] rfl rfl (World.news_of_block (heap_alloc_new W3 _)) (one6I _ _ _ _ _ _) (by omega) (by unfold maxLen; omega) (by omega) (by simp; omega) (W3.heap.size + 1) (by simp) ?_)
              intro g9 cap9 w9 hown9 hgrow9 hat9 hlt9
              have hE9 := app_end (L := D) (x := ⟨3, k, n, mm, t, jt⟩) hown9 hgrow9 hat9
              have HR9 : Hid (IRow w9 w.heap.size (.slice (some ⟨g9, 0, none⟩) (D.length + 1) cap9) (cutP (T.take (i + 1)) f m)) := by
                show IRow _ _ _ _
                rw [HD1.out, hEq.out]
                simpa using hE9.1
              have HB9 : Hid (Below w.heap.size w w9) := hB3.out.trans (IRow.keeps HR3.out (by have := hB3.out.size; omega) hE9.2)
              clear hown9 hgrow9 hat9 hE9
              go_wp2
              go_roundw
              case rel => exact ⟨i + 1, by omega, by go_num, HR9, HB9⟩
              case measure => simp [intOf]; omega
          · have h3' : (c == 3) = false := by simp [h3]
            have hEq : Hid (D1 = D ++ [⟨c, k, n, mm, t, jt⟩]) := by show D1 = _; rw [hO.out]; simp [dwn, h3]
            clear hO h3
            go_upto_region 10 with fail
            go_wp2_with (at_builtin; refine wpList_append_lies _ rfl _ _ 27 rfl w.heap.size 76 i0 (.agg #[.int .i64 0, .int .i64 0, .int .i64 0, .int .i64 0, .string ⟨#[]⟩, .int .i64 0]) 6 56 Try.underlying27 hi0 hz0 hz1 hz2 rfl (by decide) _ D.length _ rfl (World.ownsRow.alloc HR3.out _) ⟨W3.heap.size, 0, none⟩ 1 1 [.int .i64 c, .int .i64 k, .int .i64 n, .int .i64 mm, .string t, .int .i64 jt] rfl rfl (World.news_of_block (heap_alloc_new W3 _)) (one6I _ _ _ _ _ _) (by omega) (by unfold maxLen; omega) (by omega) (by simp; omega) (W3.heap.size + 1) (by simp) ?_)
            intro g9 cap9 w9 hown9 hgrow9 hat9 hlt9
            have hE9 := app_end (L := D) (x := ⟨c, k, n, mm, t, jt⟩) hown9 hgrow9 hat9
            have HR9 : Hid (IRow w9 w.heap.size (.slice (some ⟨g9, 0, none⟩) (D.length + 1) cap9) (cutP (T.take (i + 1)) f m)) := by
              show IRow _ _ _ _
              rw [HD1.out, hEq.out]
              simpa using hE9.1
            have HB9 : Hid (Below w.heap.size w w9) := hB3.out.trans (IRow.keeps HR3.out (by have := hB3.out.size; omega) hE9.2)
            clear hown9 hgrow9 hat9 hE9
            go_wp2
            go_roundw
            case rel => exact ⟨i + 1, by omega, by go_num, HR9, HB9⟩
            case measure => simp [intOf]; omega
        · have hi1 : decide ((f : Int) ≤ (i : Int)) = false := by simp; omega
          have hi1n : decide (f ≤ i) = false := by simpa using hfi
          have hi1b : ¬ (f : Int) ≤ (i : Int) := by omega
          clear hin
          by_cases h3 : c = 3
          · subst h3
            by_cases hfj : (f : Int) < jt
            · have hL2 := hL rfl hfj
              have hD2 := hD rfl
              have hnl : ¬ jt - (m : Int) < (f : Int) := by omega
              have hEq : Hid (D1 = D ++ [⟨3, k, n, mm, t, jt - (m : Int)⟩]) := by show D1 = _; rw [hO.out]; simp [dwn, hfj]
              clear hO
              obtain ⟨W4, hW4⟩ : ∃ W, W = W3.setCell ⟨wr.heap.size, 5, none⟩ (.int .i64 (jt - (m : Int))) := ⟨_, rfl⟩
              have y0 : W4.cell? ⟨wr.heap.size, 0, none⟩ = some (.int .i64 3) := by rw [hW4, World.cell?_setCell_other _ _ _ _ (by simp)]; exact x0
              have y1 : W4.cell? ⟨wr.heap.size, 1, none⟩ = some (.int .i64 k) := by rw [hW4, World.cell?_setCell_other _ _ _ _ (by simp)]; exact x1
              have y2 : W4.cell? ⟨wr.heap.size, 2, none⟩ = some (.int .i64 n) := by rw [hW4, World.cell?_setCell_other _ _ _ _ (by simp)]; exact x2
              have y3 : W4.cell? ⟨wr.heap.size, 3, none⟩ = some (.int .i64 mm) := by rw [hW4, World.cell?_setCell_other _ _ _ _ (by simp)]; exact x3
              have y4 : W4.cell? ⟨wr.heap.size, 4, none⟩ = some (.string t) := by rw [hW4, World.cell?_setCell_other _ _ _ _ (by simp)]; exact x4
              have y5 : W4.cell? ⟨wr.heap.size, 5, none⟩ = some (.int .i64 (jt - (m : Int))) := by rw [hW4]; exact World.cell?_setCell_same _ _ _ x5
              have hlr : ∀ g, (Value.slice ar D.length capr).ownBlock = some g → g < wr.heap.size := HLT.out
              have HR4 : Hid (IRow W4 w.heap.size (.slice ar D.length capr) D) := by
                show IRow _ _ _ _
                rw [hW4]
                exact ownsRow_setCell_other (a := ⟨wr.heap.size, 5, none⟩) HR3.out (fun e => absurd (hlr wr.heap.size e) (Nat.lt_irrefl _)) _
              have hB4 : Hid (Below w.heap.size w W4) := by show Below _ _ _; rw [hW4]; exact hB3.out.setCell (by show w.heap.size ≤ wr.heap.size; omega) _
              have hs4 : w.heap.size ≤ W4.heap.size := hB4.out.size
              have hl4 : wr.heap.size < W4.heap.size := by rw [hW4]; simpa [World.setCell] using hl3
              go_upto_region 8 with fail
              rw [← hW4]
              clear hW4 hlr
              go_wp2_with (at_builtin; refine wpList_append_lies _ rfl _ _ 27 rfl w.heap.size 76 i0 (.agg #[.int .i64 0, .int .i64 0, .int .i64 0, .int .i64 0, .string ⟨#[]⟩, .int .i64 0]) 6 56 Try.underlying27 hi0 hz0 hz1 hz2 rfl (by decide) _ D.length _ rfl (World.ownsRow.alloc HR4.out _) ⟨W4.heap.size, 0, none⟩ 1 1 [.int .i64 3, .int .i64 k, .int .i64 n, .int .i64 mm, .string t, .int .i64 (jt - (m : Int))] rfl rfl (World.news_of_block (heap_alloc_new W4 _)) (one6I _ _ _ _ _ _) (by omega) (by unfold maxLen; omega) (by omega) (by simp; omega) (W4.heap.size + 1) (by simp) ?_)
              intro g9 cap9 w9 hown9 hgrow9 hat9 hlt9
              have hE9 := app_end (L := D) (x := ⟨3, k, n, mm, t, (jt - (m : Int))⟩) hown9 hgrow9 hat9
              have HR9 : Hid (IRow w9 w.heap.size (.slice (some ⟨g9, 0, none⟩) (D.length + 1) cap9) (cutP (T.take (i + 1)) f m)) := by
                show IRow _ _ _ _
                rw [HD1.out, hEq.out]
                simpa using hE9.1
              have HB9 : Hid (Below w.heap.size w w9) := hB4.out.trans (IRow.keeps HR4.out (by have := hB4.out.size; omega) hE9.2)
              clear hown9 hgrow9 hat9 hE9
              go_wp2
              go_roundw
              case rel => exact ⟨i + 1, by omega, by go_num, HR9, HB9⟩
              case measure => simp [intOf]; omega
            · have hfj' : decide ((f : Int) < jt) = false := by simpa using hfj
              have hEq : Hid (D1 = D ++ [⟨3, k, n, mm, t, jt⟩]) := by show D1 = _; rw [hO.out]; simp [dwn, hfj]
              clear hO hfj
              go_wp2_with (at_builtin; refine wpList_append_lies _ rfl _ _ 27 rfl w.heap.size 76 i0 (.agg #[.int .i64 0, .int .i64 0, .int .i64 0, .int .i64 0, .string ⟨#[]⟩, .int .i64 0]) 6 56 Try.underlying27 hi0 hz0 hz1 hz2 rfl (by decide) _ D.length _ rfl (World.ownsRow.alloc HR3.out _) ⟨W3.heap.size, 0, none⟩ 1 1 [.int .i64 3, .int .i64 k, .int .i64 n, .int .i64 mm, .string t, .int .i64 jt] rfl rfl (World.news_of_block (heap_alloc_new W3 _)) (one6I _ _ _ _ _ _) (by omega) (by unfold maxLen; omega) (by omega) (by simp; omega) (W3.heap.size + 1) (by simp) ?_)
              intro g9 cap9 w9 hown9 hgrow9 hat9 hlt9
              have hE9 := app_end (L := D) (x := ⟨3, k, n, mm, t, jt⟩) hown9 hgrow9 hat9
              have HR9 : Hid (IRow w9 w.heap.size (.slice (some ⟨g9, 0, none⟩) (D.length + 1) cap9) (cutP (T.take (i + 1)) f m)) := by
                show IRow _ _ _ _
                rw [HD1.out, hEq.out]
                simpa using hE9.1
              have HB9 : Hid (Below w.heap.size w w9) := hB3.out.trans (IRow.keeps HR3.out (by have := hB3.out.size; omega) hE9.2)
              clear hown9 hgrow9 hat9 hE9
              go_wp2
              go_roundw
              case rel => exact ⟨i + 1, by omega, by go_num, HR9, HB9⟩
              case measure => simp [intOf]; omega
          · have h3' : (c == 3) = false := by simp [h3]
            have hEq : Hid (D1 = D ++ [⟨c, k, n, mm, t, jt⟩]) := by show D1 = _; rw [hO.out]; simp [dwn, h3]
            clear hO h3
            go_upto_region 10 with fail
            go_wp2_with (at_builtin; refine wpList_append_lies _ rfl _ _ 27 rfl w.heap.size 76 i0 (.agg #[.int .i64 0, .int .i64 0, .int .i64 0, .int .i64 0, .string ⟨#[]⟩, .int .i64 0]) 6 56 Try.underlying27 hi0 hz0 hz1 hz2 rfl (by decide) _ D.length _ rfl (World.ownsRow.alloc HR3.out _) ⟨W3.heap.size, 0, none⟩ 1 1 [.int .i64 c, .int .i64 k, .int .i64 n, .int .i64 mm, .string t, .int .i64 jt] rfl rfl (World.news_of_block (heap_alloc_new W3 _)) (one6I _ _ _ _ _ _) (by omega) (by unfold maxLen; omega) (by omega) (by simp; omega) (W3.heap.size + 1) (by simp) ?_)
            intro g9 cap9 w9 hown9 hgrow9 hat9 hlt9
            have hE9 := app_end (L := D) (x := ⟨c, k, n, mm, t, jt⟩) hown9 hgrow9 hat9
            have HR9 : Hid (IRow w9 w.heap.size (.slice (some ⟨g9, 0, none⟩) (D.length + 1) cap9) (cutP (T.take (i + 1)) f m)) := by
              show IRow _ _ _ _
              rw [HD1.out, hEq.out]
              simpa using hE9.1
            have HB9 : Hid (Below w.heap.size w w9) := hB3.out.trans (IRow.keeps HR3.out (by have := hB3.out.size; omega) hE9.2)
            clear hown9 hgrow9 hat9 hE9
            go_wp2
            go_roundw
            case rel => exact ⟨i + 1, by omega, by go_num, HR9, HB9⟩
            case measure => simp [intOf]; omega
    · have hlt' : ¬ (i : Int) < (T.length : Int) := by omega
      have hie : i = T.length := by omega
      subst hie
      rw [List.take_length] at HR
      go_wp2
      go_ret
      exact ⟨_, rfl, HR.out, hB.out⟩

end Go.Proofs.Ytpopjapcgcnnfaa
