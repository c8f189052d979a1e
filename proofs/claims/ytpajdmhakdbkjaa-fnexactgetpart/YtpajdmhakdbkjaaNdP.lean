/- The model's l4Fits at one value and one list. -/
import Derived.Test.YtpajdmhakdbkjaaNdO
namespace Go.Proofs.Ytpajdmhakdbkjaa
open Go.RowKit Plain Sch

set_option maxRecDepth 100000 in
set_option maxHeartbeats 4000000 in
theorem l4Fits_list (d : Nat) (F : Tr → Tr → Bool) (v t : Tr) (av : Option Addr) (lv cv : Nat) (ta : Option Addr) (lt ct : Nat) (Sv St : Nat → Prop) (w : World) (hv : VKids (d + 1) w Sv (.slice av lv cv) v.kids) (ht : KidsIn (d + 1) w St (.slice ta lt ct) t.kids) (hSv : ∀ g, Sv g → g < w.heap.size) (hSt : ∀ g, St g → g < w.heap.size) (h4 : t.kind = 4 → t.kids ≠ []) (hK0 : t.kind = 4)
    (ih0 : ∀ (x y : Tr) (ax ay : Option Addr) (lx cx ly cy : Nat) (W : World), x ∈ v.kids → y ∈ t.kids → VKids d W Sv (.slice ax lx cx) x.kids → KidsIn d W St (.slice ay ly cy) y.kids → (∀ g, Sv g → g < W.heap.size) → (∀ g, St g → g < W.heap.size) → Calls Try.prog 60 #[vv x ax lx cx, tv y ay ly cy] W fun e w' => e = .returned (.bool (F x y)) ∧ Below W.heap.size W w') :
    Calls Try.prog 60 #[vv v av lv cv, tv t ta lt ct] w fun e w' => e = .returned (.bool (fitR F v t)) ∧ Below w.heap.size w w' := by
  have ih : Hid (∀ (x y : Tr) (ax ay : Option Addr) (lx cx ly cy : Nat) (W : World), x ∈ v.kids → y ∈ t.kids → VKids d W Sv (.slice ax lx cx) x.kids → KidsIn d W St (.slice ay ly cy) y.kids → (∀ g, Sv g → g < W.heap.size) → (∀ g, St g → g < W.heap.size) → Calls Try.prog 60 #[vv x ax lx cx, tv y ay ly cy] W fun e w' => e = .returned (.bool (F x y)) ∧ Below W.heap.size W w') := ih0
  clear ih0
  have HK0 : Hid (t.kind = 4) := hK0
  clear hK0
  have HVK : Hid (VKids (d + 1) w Sv (.slice av lv cv) v.kids) := hv
  have HTK : Hid (KidsIn (d + 1) w St (.slice ta lt ct) t.kids) := ht
  obtain ⟨av', cv', hcc, hlv, hcmv, hrv⟩ := hv
  simp only [Value.slice.injEq] at hcc
  obtain ⟨rfl, hnv, rfl⟩ := hcc
  obtain ⟨ta', ct', hcc, hlt, hcmt, hrt⟩ := ht
  simp only [Value.slice.injEq] at hcc
  obtain ⟨rfl, hnt, rfl⟩ := hcc
  have HV : Hid (∀ i x, v.kids[i]? = some x → ∃ g o c', av = some ⟨g, o, none⟩ ∧ Sv g ∧ VdIn w g (o + i * 5) x c' ∧ VKids d w Sv c' x.kids) := hrv
  have HT : Hid (∀ i x, t.kids[i]? = some x → ∃ g o c', ta = some ⟨g, o, none⟩ ∧ St g ∧ NdIn w g (o + i * 6) x c' ∧ KidsIn d w St c' x.kids) := hrt
  have HSV : Hid (∀ g, Sv g → g < w.heap.size) := hSv
  have HST : Hid (∀ g, St g → g < w.heap.size) := hSt
  have HNV : Hid (lv = v.kids.length) := hnv
  have HNT : Hid (lt = t.kids.length) := hnt
  have H4 : Hid (t.kind = 4 → t.kids ≠ []) := h4
  have hcv : cv ≤ 9223372036854775807 := by unfold maxLen at hcmv; omega
  have hct : ct ≤ 9223372036854775807 := by unfold maxLen at hcmt; omega
  have hlv' : lv ≤ cv := by omega
  have hlt' : lt ≤ ct := by omega
  clear hrv hrt hSv hSt hnv hnt hlv hlt h4
  obtain ⟨R, hR⟩ : ∃ R, R = fitR F v t := ⟨_, rfl⟩
  rw [← hR]
  have HR : Hid (R = fitR F v t) := hR
  clear hR
  unfold vv tv
  obtain ⟨W2, hW2⟩ : ∃ W, W = (w.alloc (.cells #[.int .i64 v.most, .string v.name, .int .i64 v.no, .bool v.must, .slice av lv cv] 78)).alloc (.cells #[.int .i64 t.kind, .string t.name, .int .i64 t.no, .bool t.must, .int .i64 t.most, .slice ta lt ct] 82) := ⟨_, rfl⟩
  have hB2 : Below w.heap.size w W2 := by rw [hW2]; exact ((Below.refl _ w).alloc (Nat.le_refl _) _).alloc (by simp) _
  have HS2 : Hid (W2.heap.size = w.heap.size + 2) := by show _ = _; rw [hW2]; simp
  have HCV : Hid (∀ W : World, Below W2.heap.size W2 W → (W.cell? ⟨w.heap.size, 0, none⟩ = some (.int .i64 v.most) ∧ W.cell? ⟨w.heap.size, 1, none⟩ = some (.string v.name) ∧ W.cell? ⟨w.heap.size, 2, none⟩ = some (.int .i64 v.no) ∧ W.cell? ⟨w.heap.size, 3, none⟩ = some (.bool v.must) ∧ W.cell? ⟨w.heap.size, 4, none⟩ = some (.slice av lv cv)) ∧
      (W.cell? ⟨w.heap.size + 1, 0, none⟩ = some (.int .i64 t.kind) ∧ W.cell? ⟨w.heap.size + 1, 1, none⟩ = some (.string t.name) ∧ W.cell? ⟨w.heap.size + 1, 2, none⟩ = some (.int .i64 t.no) ∧ W.cell? ⟨w.heap.size + 1, 3, none⟩ = some (.bool t.must) ∧ W.cell? ⟨w.heap.size + 1, 4, none⟩ = some (.int .i64 t.most) ∧ W.cell? ⟨w.heap.size + 1, 5, none⟩ = some (.slice ta lt ct)) ∧ w.heap.size + 1 < W.heap.size ∧ w.heap.size < W.heap.size ∧ Below w.heap.size w W) := fun W hW => by
    have hs := HS2.out
    have h2 := hW.size
    have l0 : ∀ j, W.cell? ⟨w.heap.size, j, none⟩ = W2.cell? ⟨w.heap.size, j, none⟩ := fun j => hW.cell (p := ⟨w.heap.size, j, none⟩) (by show w.heap.size < _; omega)
    have l1 : ∀ j, W.cell? ⟨w.heap.size + 1, j, none⟩ = W2.cell? ⟨w.heap.size + 1, j, none⟩ := fun j => hW.cell (p := ⟨w.heap.size + 1, j, none⟩) (by show w.heap.size + 1 < _; omega)
    refine ⟨⟨(l0 0).trans ?_, (l0 1).trans ?_, (l0 2).trans ?_, (l0 3).trans ?_, (l0 4).trans ?_⟩, ⟨(l1 0).trans ?_, (l1 1).trans ?_, (l1 2).trans ?_, (l1 3).trans ?_, (l1 4).trans ?_, (l1 5).trans ?_⟩, by omega, by omega, hB2.trans (hW.mono hB2.size)⟩ <;> (rw [hW2]; go_simp)
  obtain ⟨⟨a0, a1, a2, a3, a4⟩, ⟨b0, b1, b2, b3, b4, b5⟩, hz2, hz2', _⟩ := HCV.out _ (Below.refl _ W2)
  go_enter Try.func60, Try.ntmps60
  go_upto_region 1 with fail
  rw [← hW2]
  clear hW2
  go_cut [40] from 11 to 40 (fun s40 wx => s40 = .bool (!headOk v t) ∧ Below W2.heap.size W2 wx)
  case first =>
    obtain ⟨hb, hhb⟩ : ∃ b, b = holds t.kind := ⟨_, rfl⟩
    have HLD : Hid (∀ W : World, Calls Try.prog 83 #[.int .i64 t.kind] W fun e w' => e = .returned (.bool hb) ∧ ∃ n, w' = W.drewN n) := fun W => by
      rw [hhb]
      refine (l2Holds_any t.kind W).mono ?_
      rintro e w' ⟨rfl, rfl⟩
      exact ⟨rfl, 0, rfl⟩
    have HHB : Hid (hb = holds t.kind) := hhb
    obtain ⟨vm, hvm⟩ : ∃ b, b = v.must := ⟨_, rfl⟩
    have HVM : Hid (vm = v.must) := hvm
    rw [← hvm] at a3
    clear hhb hvm HR HV HT HVK HTK ih HCV a2 a4 b1 b2 b3 b4 b5
    by_cases hm : vm = hb
    · have hmh : Hid (v.must = holds t.kind) := HVM.out.symm.trans (hm.trans HHB.out)
      subst hm
      by_cases hk2 : t.kind = 2
      · have hk2b : (t.kind == 2) = true := by simpa using hk2
        have hk2a : (t.kind != 2) = false := by simpa using hk2
        by_cases hn0 : v.most = 0
        · have hn0' : (v.most != 0) = false := by simpa using hn0
          cases vm
          all_goals
            have he : Hid (headOk v t = true) := by
              show _ = _
              rw [headOk_iff]; exact ⟨hmh.out, fun h => absurd hk2 h, fun _ => hn0⟩
            clear hk2 hn0
            go_quiet ((go_at_call 83; exact Calls.quiet_of (HLD.out _)))
            go_wp2_with fail
            go_meet
            exact ⟨by rw [he.out]; rfl, below_drewN (Below.refl _ _)⟩
        · have hn0' : (v.most != 0) = true := by simpa using hn0
          cases vm
          all_goals
            have he : Hid (headOk v t = false) := by
              show _ = _
              rw [Bool.eq_false_iff]; intro hh; rw [headOk_iff] at hh; exact hn0 (hh.2.2 (.inl hk2))
            clear hk2 hn0
            go_quiet ((go_at_call 83; exact Calls.quiet_of (HLD.out _)))
            go_wp2_with fail
            go_meet
            exact ⟨by rw [he.out]; rfl, below_drewN (Below.refl _ _)⟩
      · have hk2b : (t.kind == 2) = false := by simpa using hk2
        have hk2a : (t.kind != 2) = true := by simpa using hk2
        by_cases hnm : v.name = ⟨#[]⟩
        · cases vm
          · have hmx : v.must = false := HVM.out.symm
            have he : Hid (headOk v t = true) := by
              show _ = _
              rw [headOk_iff]; exact ⟨hmh.out, fun _ => hnm, fun h => (by rcases h with h | h; exact absurd h hk2; rw [hmx] at h; cases h)⟩
            rw [hnm] at a1
            clear hk2 hnm hmx
            go_quiet ((go_at_call 83; exact Calls.quiet_of (HLD.out _)))
            go_wp2_with fail
            go_meet
            exact ⟨by rw [he.out]; rfl, below_drewN (Below.refl _ _)⟩
          · by_cases hn0 : v.most = 0
            · have hn0' : (v.most != 0) = false := by simpa using hn0
              have he : Hid (headOk v t = true) := by
                show _ = _
                rw [headOk_iff]; exact ⟨hmh.out, fun _ => hnm, fun _ => hn0⟩
              rw [hnm] at a1
              clear hk2 hnm hn0
              go_quiet ((go_at_call 83; exact Calls.quiet_of (HLD.out _)))
              go_wp2_with fail
              go_meet
              exact ⟨by rw [he.out]; rfl, below_drewN (Below.refl _ _)⟩
            · have hn0' : (v.most != 0) = true := by simpa using hn0
              have he : Hid (headOk v t = false) := by
                show _ = _
                rw [Bool.eq_false_iff]; intro hh; rw [headOk_iff] at hh; exact hn0 (hh.2.2 (.inr HVM.out.symm))
              rw [hnm] at a1
              clear hk2 hnm hn0
              go_quiet ((go_at_call 83; exact Calls.quiet_of (HLD.out _)))
              go_wp2_with fail
              go_meet
              exact ⟨by rw [he.out]; rfl, below_drewN (Below.refl _ _)⟩
        · have hnm' : v.name.toList.isEmpty = false := by have := mt (toList_nil' v.name).1 hnm; simpa using this
          have hnm2 : ¬ v.name.toList = [] := mt (toList_nil' v.name).1 hnm
          have hnm3 : (v.name.toList == []) = false := by simpa using hnm2
          cases vm
          all_goals
            have he : Hid (headOk v t = false) := by
              show _ = _
              rw [Bool.eq_false_iff]; intro hh; rw [headOk_iff] at hh; exact hnm (hh.2.1 hk2)
            clear hk2 hnm
            go_quiet ((go_at_call 83; exact Calls.quiet_of (HLD.out _)))
            go_wp2_with fail
            go_meet
            exact ⟨by rw [he.out]; rfl, below_drewN (Below.refl _ _)⟩
    · have hno : Hid (¬ v.must = holds t.kind) := fun e => hm (HVM.out.trans (e.trans HHB.out.symm))
      cases vm <;> cases hb
      all_goals first | exact absurd rfl hm | skip
      all_goals
        have he : Hid (headOk v t = false) := by
          show _ = _
          rw [Bool.eq_false_iff]; intro hh; rw [headOk_iff] at hh; exact hno.out hh.1
        clear hm
        go_quiet ((go_at_call 83; exact Calls.quiet_of (HLD.out _)))
        go_wp2_with fail
        go_meet
        exact ⟨by rw [he.out]; rfl, below_drewN (Below.refl _ _)⟩
  case rest =>
    obtain ⟨wb, rfl⟩ : ∃ W, W = wc := ⟨_, rfl⟩
    obtain ⟨rfl, hbc⟩ := hcut
    obtain ⟨⟨c0, c1, c2, c3, c4⟩, ⟨d0, d1, d2, d3, d4, d5⟩, hzb, hzb', hBb⟩ := HCV.out _ hbc
    clear a0 a1 a2 a3 a4 b0 b1 b2 b3 b4 b5 hz2 hz2'
    rcases hho : headOk v t with _ | _
    · have hn : Hid (R = false) := HR.out.trans (by unfold fitR; rw [hho]; rfl)
      clear hho HR
      go_wp2
      go_ret
      exact ⟨by rw [hn.out]; rfl, hBb⟩
    · have HR1 : Hid (R = (if isLeaf t then leafOk v t
  else if t.kind = 4 then v.kids.all fun x => decide (x.no = 0) && (match t.kids with | y :: _ => F x y | [] => false)
  else (v.kids.all fun x => match byNo t.kids x.no with | some y => F x y | none => false) && riseL v.kids && musts v.kids t.kids)) := HR.out.trans (by unfold fitR; rw [hho, Bool.true_and]; rfl)
      clear hho HR
      have hk4 : t.kind = 4 := HK0.out
      have hk1 : ¬ t.kind = 1 := by omega
      have hk2 : ¬ t.kind = 2 := by omega
      have hk3 : ¬ t.kind = 3 := by omega
      have hleaf : isLeaf t = false := by unfold isLeaf; simp [hk1, hk2, hk3]
      obtain ⟨y, l, hyl⟩ : ∃ y l, t.kids = y :: l := by
        cases h : t.kids with
        | nil => exact absurd h (H4.out hk4)
        | cons y l => exact ⟨y, l, rfl⟩
      have HR2 : Hid (R = v.kids.all fun x => decide (x.no = 0) && F x y) := HR1.out.trans (by rw [hleaf, hyl]; simp [hk4])
      obtain ⟨g2, o2, cy, hta, hSy, hndy, hky⟩ := HT.out 0 y (by rw [hyl]; rfl)
      subst hta
      have hg2 := HST.out g2 hSy
      rw [Nat.zero_mul, Nat.add_zero] at hndy
      obtain ⟨ay, cy', rfl, _⟩ := hky.form
      have hym : Hid (y ∈ t.kids) := by show y ∈ t.kids; rw [hyl]; simp
      have hlt0 : 0 < lt := by have := HNT.out; rw [hyl] at this; simp at this; omega
      have hlt0' : (0 : Int) < (lt : Int) := by omega
      have HNDY : Hid (NdIn w g2 o2 y (.slice ay y.kids.length cy')) := hndy
      have HKY : Hid (KidsIn d w St (.slice ay y.kids.length cy') y.kids) := hky
      have HF : Hid (∀ x ∈ v.kids, (decide (x.no = 0) && F x y) = false → R = false) := fun x hx h => by
        rw [HR2.out, List.all_eq_false]
        exact ⟨x, hx, by rw [h]; simp⟩
      rw [hk4] at d0
      clear hk1 hk2 hk3 hk4 hleaf HR1 hyl hndy hky
      go_wp2
      go_loopw [66] (fun vi wr => ∃ i : Nat, i ≤ lv ∧ vi = .int .i64 (i : Int) ∧ Hid (∀ j x, j < i → v.kids[j]? = some x → (decide (x.no = 0) && F x y) = true) ∧ Below wb.heap.size wb wr)
        (fun vi _ => lv - (intOf vi).toNat)
      case atStart => exact ⟨0, by omega, rfl, fun j x hj => by omega, Below.refl _ _⟩
      case round =>
        obtain ⟨wo, rfl⟩ : ∃ W, W = wr := ⟨_, rfl⟩
        obtain ⟨i, hil, rfl, hall, hbw⟩ := hrel
        have hb2w : Below W2.heap.size W2 wo := hbc.trans (hbw.mono hbc.size)
        have hBo : Below w.heap.size w wo := hBb.trans (hbw.mono hBb.size)
        have hsr := hbw.size
        by_cases hlt : i < lv
        · have hltI : (i : Int) < (lv : Int) := by omega
          obtain ⟨x, hx⟩ : ∃ x, v.kids[i]? = some x := ⟨_, List.getElem?_eq_getElem (by have := HNV.out; omega)⟩
          obtain ⟨g, o, cx, hav, hSg, hnd, hkx⟩ := HV.out i x hx
          subst hav
          have hg := HSV.out g hSg
          obtain ⟨ax, cx', rfl, _⟩ := hkx.form
          have hxm := List.mem_of_getElem? hx
          obtain ⟨e0, e1, e2, e3, e4⟩ := hnd.kept (hBo.block g hg)
          have hgo : g < wo.heap.size := by have := hBo.size; omega
          obtain ⟨Wx, hWx⟩ : ∃ W, W = wo.alloc (.cells #[.int .i64 x.most, .string x.name, .int .i64 x.no, .bool x.must, .slice ax x.kids.length cx'] 78) := ⟨_, rfl⟩
          have hBx : Below wo.heap.size wo Wx := by rw [hWx]; exact (Below.refl _ wo).alloc (Nat.le_refl _) _
          have HSX : Hid (Wx.heap.size = wo.heap.size + 1) := by show _ = _; rw [hWx]; simp
          have x0 : Wx.cell? ⟨wo.heap.size, 0, none⟩ = some (.int .i64 x.most) := by rw [hWx]; go_simp
          have x1 : Wx.cell? ⟨wo.heap.size, 1, none⟩ = some (.string x.name) := by rw [hWx]; go_simp
          have x2 : Wx.cell? ⟨wo.heap.size, 2, none⟩ = some (.int .i64 x.no) := by rw [hWx]; go_simp
          have x3 : Wx.cell? ⟨wo.heap.size, 3, none⟩ = some (.bool x.must) := by rw [hWx]; go_simp
          have x4 : Wx.cell? ⟨wo.heap.size, 4, none⟩ = some (.slice ax x.kids.length cx') := by rw [hWx]; go_simp
          have hb2x : Below W2.heap.size W2 Wx := hb2w.trans (hBx.mono hb2w.size)
          have hBwx : Below w.heap.size w Wx := hBo.trans (hBx.mono hBo.size)
          have hbwx : Below wb.heap.size wb Wx := hbw.trans (hBx.mono hsr)
          have hzx : wo.heap.size < Wx.heap.size := by have := HSX.out; omega
          obtain ⟨_, ⟨_, _, _, _, _, d5x⟩, hz5x, _, _⟩ := HCV.out _ hb2x
          obtain ⟨y0, y1, y2, y3, y4, y5⟩ := HNDY.out.kept (hBwx.block g2 hg2)
          have hg2x : g2 < Wx.heap.size := by have := hBwx.size; omega
          have IC : Hid (∀ W : World, Below w.heap.size w W → Calls Try.prog 60 #[.agg #[.int .i64 x.most, .string x.name, .int .i64 x.no, .bool x.must, .slice ax x.kids.length cx'], .agg #[.int .i64 y.kind, .string y.name, .int .i64 y.no, .bool y.must, .int .i64 y.most, .slice ay y.kids.length cy']] W fun e w' => e = .returned (.bool (F x y)) ∧ Below W.heap.size W w') := fun W hW => ih.out x y ax ay x.kids.length cx' y.kids.length cy' W hxm hym.out (hkx.kept (fun g hg => hW.block g (HSV.out g hg)) (fun _ h => h)) (HKY.out.kept (fun g hg => hW.block g (HST.out g hg)) (fun _ h => h)) (fun g hg => by have := HSV.out g hg; have := hW.size; omega) (fun g hg => by have := HST.out g hg; have := hW.size; omega)
          clear hnd hkx
          go_upto_region 14 with fail
          rw [← hWx]
          clear hWx e0 e1 e2 e3 e4
          by_cases hno : x.no = 0
          · have hno' : (x.no != 0) = false := by simpa using hno
            have hd : Hid (Below w.heap.size w Wx.drew) := hBwx.drew
            have HP : Hid ((decide (x.no = 0) && F x y) = F x y) := by show _ = _; simp [hno]
            clear hno
            go_cut [81] from 70 to 81 (fun s81 wx => s81 = .bool (!F x y) ∧ Below Wx.heap.size Wx wx)
            case first =>
              go_region_with (go_at_call 60; refine (IC.out _ hd.out).mono ?_; rintro e w5 ⟨rfl, hb5⟩; have hB5 : Below Wx.heap.size Wx w5 := (Below.refl _ Wx).drew.trans hb5)
              all_goals
                go_wp2_with fail
                go_meet
                exact ⟨rfl, hB5⟩
            case rest =>
              obtain ⟨rfl, hbe⟩ := hcut
              have hBe : Below w.heap.size w wc := hBwx.trans (hbe.mono hBwx.size)
              have hbe2 : Below wb.heap.size wb wc := hbwx.trans (hbe.mono hbwx.size)
              clear x0 x1 x2 x3 x4 y0 y1 y2 y3 y4 y5 d5x IC hd
              rcases hF : F x y with _ | _
              · have hn : Hid (R = false) := HF.out x hxm (by rw [HP.out, hF])
                clear hF hall
                go_wp2
                go_ret
                exact ⟨by rw [hn.out]; rfl, hBe⟩
              · have hall2 : Hid (∀ j z, j < i + 1 → v.kids[j]? = some z → (decide (z.no = 0) && F z y) = true) := fun j z hj hz => by
                  by_cases hji : j = i
                  · subst hji; rw [hx] at hz; cases hz; rw [HP.out, hF]
                  · exact hall.out j z (by omega) hz
                clear hF hall hx
                go_wp2
                go_roundw
                case rel => exact ⟨i + 1, by omega, by go_num, hall2, hbe2⟩
                case measure => simp [intOf]; omega
          · have hno' : (x.no != 0) = true := by simpa using hno
            have hn : Hid (R = false) := HF.out x hxm (by simp [hno])
            clear hno hall IC
            go_wp2_with fail
            go_quiet (fail)
            go_wp2
            go_ret
            exact ⟨by rw [hn.out]; rfl, below_drewN hBwx⟩
        · have hke : i = lv := by omega
          have hge : ¬ ((i : Int) < (lv : Int)) := by omega
          have hn : Hid (R = true) := by
            show R = _
            rw [HR2.out, List.all_eq_true]
            intro x hx
            obtain ⟨j, hj, rfl⟩ := List.getElem_of_mem hx
            exact hall.out j _ (by have := HNV.out; omega) (List.getElem?_eq_getElem hj)
          clear hall hke
          go_wp2
          go_ret
          exact ⟨by rw [hn.out]; rfl, hBo⟩

end Go.Proofs.Ytpajdmhakdbkjaa
