/- The model's l4Fits at one value and one message. -/
import Derived.Test.YtpajdmhakdbkjaaNdO
namespace Go.Proofs.Ytpajdmhakdbkjaa
open Go.RowKit Plain Sch

set_option maxRecDepth 100000 in
set_option maxHeartbeats 8000000 in
theorem l4Fits_msg (d : Nat) (F : Tr → Tr → Bool) (v t : Tr) (av : Option Addr) (lv cv : Nat) (ta : Option Addr) (lt ct : Nat) (Sv St : Nat → Prop) (w : World) (hv : VKids (d + 1) w Sv (.slice av lv cv) v.kids) (ht : KidsIn (d + 1) w St (.slice ta lt ct) t.kids) (hSv : ∀ g, Sv g → g < w.heap.size) (hSt : ∀ g, St g → g < w.heap.size) (h4 : t.kind = 4 → t.kids ≠ []) (hK0 : t.kind = 5)
    (ih0 : ∀ (x y : Tr) (ax ay : Option Addr) (lx cx ly cy : Nat) (W : World), x ∈ v.kids → y ∈ t.kids → VKids d W Sv (.slice ax lx cx) x.kids → KidsIn d W St (.slice ay ly cy) y.kids → (∀ g, Sv g → g < W.heap.size) → (∀ g, St g → g < W.heap.size) → Calls Try.prog 60 #[vv x ax lx cx, tv y ay ly cy] W fun e w' => e = .returned (.bool (F x y)) ∧ Below W.heap.size W w') :
    Calls Try.prog 60 #[vv v av lv cv, tv t ta lt ct] w fun e w' => e = .returned (.bool (fitR F v t)) ∧ Below w.heap.size w w' := by
  have ih : Hid (∀ (x y : Tr) (ax ay : Option Addr) (lx cx ly cy : Nat) (W : World), x ∈ v.kids → y ∈ t.kids → VKids d W Sv (.slice ax lx cx) x.kids → KidsIn d W St (.slice ay ly cy) y.kids → (∀ g, Sv g → g < W.heap.size) → (∀ g, St g → g < W.heap.size) → Calls Try.prog 60 #[vv x ax lx cx, tv y ay ly cy] W fun e w' => e = .returned (.bool (F x y)) ∧ Below W.heap.size W w') := ih0
  clear ih0
  have HK0 : Hid (t.kind = 5) := hK0
  clear hK0
  have HVK : Hid (VKids (d + 1) w Sv (.slice av lv cv) v.kids) := hv
  have HTK : Hid (KidsIn (d + 1) w St (.slice ta lt ct) t.kids) := ht
  obtain ⟨av', cv', hcc, hlv, hcmv, hrv⟩ := hv
  simp only [Value.slice.injEq] at hcc
  obtain ⟨rfl, hnv, rfl⟩ := hcc
  obtain ⟨ta', ct', hcc, hlt, hcmt, hrt⟩ := ht
  simp only [Value.slice.injEq] at hcc
  obtain ⟨rfl, hnt, rfl⟩ := hcc
  have HV : Hid (∀ i x, v.kids[i]? = some x → ∃ g o c', av = some ⟨g, o, none⟩ ∧ Sv g ∧ VdIn w g (o + i * 5) x c' ∧ VKids d w Sv c' x.kids) := hrv
  have HT : Hid (∀ i x, t.kids[i]? = some x → ∃ g o c', ta = some ⟨g, o, none⟩ ∧ St g ∧ NdIn w g (o + i * 6) x c' ∧ KidsIn d w St c' x.kids) := hrt
  have HSV : Hid (∀ g, Sv g → g < w.heap.size) := hSv
  have HST : Hid (∀ g, St g → g < w.heap.size) := hSt
  have HNV : Hid (lv = v.kids.length) := hnv
  have HNT : Hid (lt = t.kids.length) := hnt
  have H4 : Hid (t.kind = 4 → t.kids ≠ []) := h4
  have hcv : cv ≤ 9223372036854775807 := by unfold maxLen at hcmv; omega
  have hct : ct ≤ 9223372036854775807 := by unfold maxLen at hcmt; omega
  have hlv' : lv ≤ cv := by omega
  have hlt' : lt ≤ ct := by omega
  clear hrv hrt hSv hSt hnv hnt hlv hlt h4
  obtain ⟨R, hR⟩ : ∃ R, R = fitR F v t := ⟨_, rfl⟩
  rw [← hR]
  have HR : Hid (R = fitR F v t) := hR
  clear hR
  unfold vv tv
  obtain ⟨W2, hW2⟩ : ∃ W, W = (w.alloc (.cells #[.int .i64 v.most, .string v.name, .int .i64 v.no, .bool v.must, .slice av lv cv] 78)).alloc (.cells #[.int .i64 t.kind, .string t.name, .int .i64 t.no, .bool t.must, .int .i64 t.most, .slice ta lt ct] 82) := ⟨_, rfl⟩
  have hB2 : Below w.heap.size w W2 := by rw [hW2]; exact ((Below.refl _ w).alloc (Nat.le_refl _) _).alloc (by simp) _
  have HS2 : Hid (W2.heap.size = w.heap.size + 2) := by show _ = _; rw [hW2]; simp
  have HCV : Hid (∀ W : World, Below W2.heap.size W2 W → (W.cell? ⟨w.heap.size, 0, none⟩ = some (.int .i64 v.most) ∧ W.cell? ⟨w.heap.size, 1, none⟩ = some (.string v.name) ∧ W.cell? ⟨w.heap.size, 2, none⟩ = some (.int .i64 v.no) ∧ W.cell? ⟨w.heap.size, 3, none⟩ = some (.bool v.must) ∧ W.cell? ⟨w.heap.size, 4, none⟩ = some (.slice av lv cv)) ∧
      (W.cell? ⟨w.heap.size + 1, 0, none⟩ = some (.int .i64 t.kind) ∧ W.cell? ⟨w.heap.size + 1, 1, none⟩ = some (.string t.name) ∧ W.cell? ⟨w.heap.size + 1, 2, none⟩ = some (.int .i64 t.no) ∧ W.cell? ⟨w.heap.size + 1, 3, none⟩ = some (.bool t.must) ∧ W.cell? ⟨w.heap.size + 1, 4, none⟩ = some (.int .i64 t.most) ∧ W.cell? ⟨w.heap.size + 1, 5, none⟩ = some (.slice ta lt ct)) ∧ w.heap.size + 1 < W.heap.size ∧ w.heap.size < W.heap.size ∧ Below w.heap.size w W) := fun W hW => by
    have hs := HS2.out
    have h2 := hW.size
    have l0 : ∀ j, W.cell? ⟨w.heap.size, j, none⟩ = W2.cell? ⟨w.heap.size, j, none⟩ := fun j => hW.cell (p := ⟨w.heap.size, j, none⟩) (by show w.heap.size < _; omega)
    have l1 : ∀ j, W.cell? ⟨w.heap.size + 1, j, none⟩ = W2.cell? ⟨w.heap.size + 1, j, none⟩ := fun j => hW.cell (p := ⟨w.heap.size + 1, j, none⟩) (by show w.heap.size + 1 < _; omega)
    refine ⟨⟨(l0 0).trans ?_, (l0 1).trans ?_, (l0 2).trans ?_, (l0 3).trans ?_, (l0 4).trans ?_⟩, ⟨(l1 0).trans ?_, (l1 1).trans ?_, (l1 2).trans ?_, (l1 3).trans ?_, (l1 4).trans ?_, (l1 5).trans ?_⟩, by omega, by omega, hB2.trans (hW.mono hB2.size)⟩ <;> (rw [hW2]; go_simp)
  obtain ⟨⟨a0, a1, a2, a3, a4⟩, ⟨b0, b1, b2, b3, b4, b5⟩, hz2, hz2', _⟩ := HCV.out _ (Below.refl _ W2)
  go_enter Try.func60, Try.ntmps60
  go_upto_region 1 with fail
  rw [← hW2]
  clear hW2
  go_cut [40] from 11 to 40 (fun s40 wx => s40 = .bool (!headOk v t) ∧ Below W2.heap.size W2 wx)
  case first =>
    obtain ⟨hb, hhb⟩ : ∃ b, b = holds t.kind := ⟨_, rfl⟩
    have HLD : Hid (∀ W : World, Calls Try.prog 83 #[.int .i64 t.kind] W fun e w' => e = .returned (.bool hb) ∧ ∃ n, w' = W.drewN n) := fun W => by
      rw [hhb]
      refine (l2Holds_any t.kind W).mono ?_
      rintro e w' ⟨rfl, rfl⟩
      exact ⟨rfl, 0, rfl⟩
    have HHB : Hid (hb = holds t.kind) := hhb
    obtain ⟨vm, hvm⟩ : ∃ b, b = v.must := ⟨_, rfl⟩
    have HVM : Hid (vm = v.must) := hvm
    rw [← hvm] at a3
    clear hhb hvm HR HV HT HVK HTK ih HCV a2 a4 b1 b2 b3 b4 b5
    by_cases hm : vm = hb
    · have hmh : Hid (v.must = holds t.kind) := HVM.out.symm.trans (hm.trans HHB.out)
      subst hm
      by_cases hk2 : t.kind = 2
      · have hk2b : (t.kind == 2) = true := by simpa using hk2
        have hk2a : (t.kind != 2) = false := by simpa using hk2
        by_cases hn0 : v.most = 0
        · have hn0' : (v.most != 0) = false := by simpa using hn0
          cases vm
          all_goals
            have he : Hid (headOk v t = true) := by
              show _ = _
              rw [headOk_iff]; exact ⟨hmh.out, fun h => absurd hk2 h, fun _ => hn0⟩
            clear hk2 hn0
            go_quiet ((go_at_call 83; exact Calls.quiet_of (HLD.out _)))
            go_wp2_with fail
            go_meet
            exact ⟨by rw [he.out]; rfl, below_drewN (Below.refl _ _)⟩
        · have hn0' : (v.most != 0) = true := by simpa using hn0
          cases vm
          all_goals
            have he : Hid (headOk v t = false) := by
              show _ = _
              rw [Bool.eq_false_iff]; intro hh; rw [headOk_iff] at hh; exact hn0 (hh.2.2 (.inl hk2))
            clear hk2 hn0
            go_quiet ((go_at_call 83; exact Calls.quiet_of (HLD.out _)))
            go_wp2_with fail
            go_meet
            exact ⟨by rw [he.out]; rfl, below_drewN (Below.refl _ _)⟩
      · have hk2b : (t.kind == 2) = false := by simpa using hk2
        have hk2a : (t.kind != 2) = true := by simpa using hk2
        by_cases hnm : v.name = ⟨#[]⟩
        · cases vm
          · have hmx : v.must = false := HVM.out.symm
            have he : Hid (headOk v t = true) := by
              show _ = _
              rw [headOk_iff]; exact ⟨hmh.out, fun _ => hnm, fun h => (by rcases h with h | h; exact absurd h hk2; rw [hmx] at h; cases h)⟩
            rw [hnm] at a1
            clear hk2 hnm hmx
            go_quiet ((go_at_call 83; exact Calls.quiet_of (HLD.out _)))
            go_wp2_with fail
            go_meet
            exact ⟨by rw [he.out]; rfl, below_drewN (Below.refl _ _)⟩
          · by_cases hn0 : v.most = 0
            · have hn0' : (v.most != 0) = false := by simpa using hn0
              have he : Hid (headOk v t = true) := by
                show _ = _
                rw [headOk_iff]; exact ⟨hmh.out, fun _ => hnm, fun _ => hn0⟩
              rw [hnm] at a1
              clear hk2 hnm hn0
              go_quiet ((go_at_call 83; exact Calls.quiet_of (HLD.out _)))
              go_wp2_with fail
              go_meet
              exact ⟨by rw [he.out]; rfl, below_drewN (Below.refl _ _)⟩
            · have hn0' : (v.most != 0) = true := by simpa using hn0
              have he : Hid (headOk v t = false) := by
                show _ = _
                rw [Bool.eq_false_iff]; intro hh; rw [headOk_iff] at hh; exact hn0 (hh.2.2 (.inr HVM.out.symm))
              rw [hnm] at a1
              clear hk2 hnm hn0
              go_quiet ((go_at_call 83; exact Calls.quiet_of (HLD.out _)))
              go_wp2_with fail
              go_meet
              exact ⟨by rw [he.out]; rfl, below_drewN (Below.refl _ _)⟩
        · have hnm' : v.name.toList.isEmpty = false := by have := mt (toList_nil' v.name).1 hnm; simpa using this
          have hnm2 : ¬ v.name.toList = [] := mt (toList_nil' v.name).1 hnm
          have hnm3 : (v.name.toList == []) = false := by simpa using hnm2
          cases vm
          all_goals
            have he : Hid (headOk v t = false) := by
              show _ = _
              rw [Bool.eq_false_iff]; intro hh; rw [headOk_iff] at hh; exact hnm (hh.2.1 hk2)
            clear hk2 hnm
            go_quiet ((go_at_call 83; exact Calls.quiet_of (HLD.out _)))
            go_wp2_with fail
            go_meet
            exact ⟨by rw [he.out]; rfl, below_drewN (Below.refl _ _)⟩
    · have hno : Hid (¬ v.must = holds t.kind) := fun e => hm (HVM.out.trans (e.trans HHB.out.symm))
      cases vm <;> cases hb
      all_goals first | exact absurd rfl hm | skip
      all_goals
        have he : Hid (headOk v t = false) := by
          show _ = _
          rw [Bool.eq_false_iff]; intro hh; rw [headOk_iff] at hh; exact hno.out hh.1
        clear hm
        go_quiet ((go_at_call 83; exact Calls.quiet_of (HLD.out _)))
        go_wp2_with fail
        go_meet
        exact ⟨by rw [he.out]; rfl, below_drewN (Below.refl _ _)⟩
  case rest =>
    obtain ⟨wb, rfl⟩ : ∃ W, W = wc := ⟨_, rfl⟩
    obtain ⟨rfl, hbc⟩ := hcut
    obtain ⟨⟨c0, c1, c2, c3, c4⟩, ⟨d0, d1, d2, d3, d4, d5⟩, hzb, hzb', hBb⟩ := HCV.out _ hbc
    clear a0 a1 a2 a3 a4 b0 b1 b2 b3 b4 b5 hz2 hz2'
    rcases hho : headOk v t with _ | _
    · have hn : Hid (R = false) := HR.out.trans (by unfold fitR; rw [hho]; rfl)
      clear hho HR
      go_wp2
      go_ret
      exact ⟨by rw [hn.out]; rfl, hBb⟩
    · have HR1 : Hid (R = (if isLeaf t then leafOk v t
  else if t.kind = 4 then v.kids.all fun x => decide (x.no = 0) && (match t.kids with | y :: _ => F x y | [] => false)
  else (v.kids.all fun x => match byNo t.kids x.no with | some y => F x y | none => false) && riseL v.kids && musts v.kids t.kids)) := HR.out.trans (by unfold fitR; rw [hho, Bool.true_and]; rfl)
      clear hho HR
      have hk5' : t.kind = 5 := HK0.out
      have hk1 : ¬ t.kind = 1 := by omega
      have hk2 : ¬ t.kind = 2 := by omega
      have hk3 : ¬ t.kind = 3 := by omega
      have hk4 : ¬ t.kind = 4 := by omega
      have hleaf : isLeaf t = false := by unfold isLeaf; simp [hk1, hk2, hk3]
      have HR2 : Hid (R = ((v.kids.all fun x => match byNo t.kids x.no with | some y => F x y | none => false) && riseL v.kids && musts v.kids t.kids)) := HR1.out.trans (by rw [hleaf]; simp [hk4])
      obtain ⟨P, hP⟩ : ∃ P : Tr → Bool, P = fun x => match byNo t.kids x.no with | some y => F x y | none => false := ⟨_, rfl⟩
      have HR3 : Hid (R = (v.kids.all P && riseL v.kids && musts v.kids t.kids)) := by show _ = _; rw [HR2.out, hP]
      have HP0 : Hid (∀ x, byNo t.kids x.no = none → P x = false) := fun x h => by rw [hP]; dsimp only; rw [h]
      have HP1 : Hid (∀ x y, byNo t.kids x.no = some y → P x = F x y) := fun x y h => by rw [hP]; dsimp only; rw [h]
      have HF : Hid (∀ x ∈ v.kids, P x = false → R = false) := fun x hx h => by
        have : v.kids.all P = false := by rw [List.all_eq_false]; exact ⟨x, hx, by rw [h]; simp⟩
        rw [HR3.out, this]
        rfl
      have HFR : Hid (∀ j x z, v.kids[j]? = some z → v.kids[j + 1]? = some x → x.no ≤ z.no → R = false) := fun j x z hz hx h => by
        rw [HR3.out, rise_no hz hx h]
        simp
      have HBY : Hid (∀ (no : Int) (W : World), Below w.heap.size w W → Calls Try.prog 54 #[.agg #[.int .i64 t.kind, .string t.name, .int .i64 t.no, .bool t.must, .int .i64 t.most, .slice ta lt ct], .int .i64 no] W fun e w' => ByR d w' St t.kids no e ∧ Below W.heap.size W w') := fun no W hW => by
        have hkk := HTK.out.kept (fun g hg => hW.block g (HST.out g hg)) (fun _ h => h)
        rw [HNT.out] at hkk ⊢
        exact l2By_any d t.kind t.name t.no t.must t.most t.kids ta ct no St W hkk (fun g hg => by have := HST.out g hg; have := hW.size; omega)
      have HMU : Hid (∀ W : World, Below w.heap.size w W → Calls Try.prog 98 #[.agg #[.int .i64 v.most, .string v.name, .int .i64 v.no, .bool v.must, .slice av lv cv], .agg #[.int .i64 t.kind, .string t.name, .int .i64 t.no, .bool t.must, .int .i64 t.most, .slice ta lt ct]] W fun e w' => e = .returned (.bool (musts v.kids t.kids)) ∧ Below W.heap.size W w') := fun W hW => by
        have h1 := HVK.out.kept (fun g hg => hW.block g (HSV.out g hg)) (fun _ h => h)
        have h2 := HTK.out.kept (fun g hg => hW.block g (HST.out g hg)) (fun _ h => h)
        have h3 := l4Musts_any d d v t av lv cv ta lt ct Sv St W h1 h2 (fun g hg => by have := HSV.out g hg; have := hW.size; omega) (fun g hg => by have := HST.out g hg; have := hW.size; omega)
        unfold vv tv at h3
        exact h3
      rw [hk5'] at d0
      clear hk1 hk2 hk3 hk4 hleaf HR1 HR2 hP hk5'
      go_wp2
      go_loopw [86] (fun vi wr => ∃ i : Nat, i ≤ lv ∧ vi = .int .i64 (i : Int) ∧ Hid ((∀ j x, j < i → v.kids[j]? = some x → P x = true) ∧ ∀ j x z, j + 1 < i → v.kids[j]? = some z → v.kids[j + 1]? = some x → z.no < x.no) ∧ Below wb.heap.size wb wr)
        (fun vi _ => lv - (intOf vi).toNat)
      case atStart => exact ⟨0, by omega, rfl, ⟨fun j x hj => by omega, fun j x z hj => by omega⟩, Below.refl _ _⟩
      case round =>
        obtain ⟨wo, rfl⟩ : ∃ W, W = wr := ⟨_, rfl⟩
        obtain ⟨i, hil, rfl, hall, hbw⟩ := hrel
        have hb2w : Below W2.heap.size W2 wo := hbc.trans (hbw.mono hbc.size)
        have hBo : Below w.heap.size w wo := hBb.trans (hbw.mono hBb.size)
        have hsr := hbw.size
        by_cases hlt : i < lv
        · have hltI : (i : Int) < (lv : Int) := by omega
          obtain ⟨x, hx⟩ : ∃ x, v.kids[i]? = some x := ⟨_, List.getElem?_eq_getElem (by have := HNV.out; omega)⟩
          obtain ⟨g, o, cx, hav, hSg, hnd, hkx⟩ := HV.out i x hx
          subst hav
          have hg := HSV.out g hSg
          obtain ⟨ax, cx', rfl, _⟩ := hkx.form
          have hxm := List.mem_of_getElem? hx
          obtain ⟨e0, e1, e2, e3, e4⟩ := hnd.kept (hBo.block g hg)
          have hgo : g < wo.heap.size := by have := hBo.size; omega
          obtain ⟨Wx, hWx⟩ : ∃ W, W = wo.alloc (.cells #[.int .i64 x.most, .string x.name, .int .i64 x.no, .bool x.must, .slice ax x.kids.length cx'] 78) := ⟨_, rfl⟩
          have hBx : Below wo.heap.size wo Wx := by rw [hWx]; exact (Below.refl _ wo).alloc (Nat.le_refl _) _
          have HSX : Hid (Wx.heap.size = wo.heap.size + 1) := by show _ = _; rw [hWx]; simp
          have x0 : Wx.cell? ⟨wo.heap.size, 0, none⟩ = some (.int .i64 x.most) := by rw [hWx]; go_simp
          have x1 : Wx.cell? ⟨wo.heap.size, 1, none⟩ = some (.string x.name) := by rw [hWx]; go_simp
          have x2 : Wx.cell? ⟨wo.heap.size, 2, none⟩ = some (.int .i64 x.no) := by rw [hWx]; go_simp
          have x3 : Wx.cell? ⟨wo.heap.size, 3, none⟩ = some (.bool x.must) := by rw [hWx]; go_simp
          have x4 : Wx.cell? ⟨wo.heap.size, 4, none⟩ = some (.slice ax x.kids.length cx') := by rw [hWx]; go_simp
          have hb2x : Below W2.heap.size W2 Wx := hb2w.trans (hBx.mono hb2w.size)
          have hBwx : Below w.heap.size w Wx := hBo.trans (hBx.mono hBo.size)
          have hbwx : Below wb.heap.size wb Wx := hbw.trans (hBx.mono hsr)
          have hzx : wo.heap.size < Wx.heap.size := by have := HSX.out; omega
          obtain ⟨_, ⟨d0x, d1x, d2x, d3x, d4x, d5x⟩, hz5x, _, _⟩ := HCV.out _ hb2x
          have HKX : Hid (VKids d w Sv (.slice ax x.kids.length cx') x.kids) := hkx
          clear hnd hkx
          go_upto_region 21 with fail
          rw [← hWx]
          clear hWx e0 e1 e2 e3 e4
          go_wp2_with fail
          refine (HBY.out x.no Wx hBwx).mono ?_
          rintro e w3 ⟨hby, hb3⟩
          have hb23 : Below W2.heap.size W2 w3 := hb2x.trans (hb3.mono hb2x.size)
          have hx3z : wo.heap.size < w3.heap.size := Nat.lt_of_lt_of_le hzx hb3.size
          have x03 := (hb3.cell (p := ⟨wo.heap.size, 0, none⟩) hzx).trans x0
          have x13 := (hb3.cell (p := ⟨wo.heap.size, 1, none⟩) hzx).trans x1
          have x23 := (hb3.cell (p := ⟨wo.heap.size, 2, none⟩) hzx).trans x2
          have x33 := (hb3.cell (p := ⟨wo.heap.size, 3, none⟩) hzx).trans x3
          have x43 := (hb3.cell (p := ⟨wo.heap.size, 4, none⟩) hzx).trans x4
          have hbw3 : Below wb.heap.size wb w3 := hbwx.trans (hb3.mono hbwx.size)
          have hBw3 : Below w.heap.size w w3 := hBwx.trans (hb3.mono hBwx.size)
          clear x0 x1 x2 x3 x4 d0x d1x d2x d3x d4x d5x hb3 c0 c1 c2 c3 c4 d0 d1 d2 d3 d4 d5
          rcases hby with ⟨y, ay, ly, cy, hfy, rfl, hky⟩ | ⟨hfy, rfl⟩
          · have HPX : Hid (P x = F x y) := HP1.out x y hfy
            have hym : Hid (y ∈ t.kids) := byNo_mem t.kids x.no y hfy
            obtain ⟨Wy, hWy⟩ : ∃ W, W = w3.alloc (.cells #[.int .i64 y.kind, .string y.name, .int .i64 y.no, .bool y.must, .int .i64 y.most, .slice ay ly cy] 82) := ⟨_, rfl⟩
            have hBy : Below w3.heap.size w3 Wy := by rw [hWy]; exact (Below.refl _ w3).alloc (Nat.le_refl _) _
            have HSY : Hid (Wy.heap.size = w3.heap.size + 1) := by show _ = _; rw [hWy]; simp
            have y0 : Wy.cell? ⟨w3.heap.size, 0, none⟩ = some (.int .i64 y.kind) := by rw [hWy]; go_simp
            have y1 : Wy.cell? ⟨w3.heap.size, 1, none⟩ = some (.string y.name) := by rw [hWy]; go_simp
            have y2 : Wy.cell? ⟨w3.heap.size, 2, none⟩ = some (.int .i64 y.no) := by rw [hWy]; go_simp
            have y3 : Wy.cell? ⟨w3.heap.size, 3, none⟩ = some (.bool y.must) := by rw [hWy]; go_simp
            have y4 : Wy.cell? ⟨w3.heap.size, 4, none⟩ = some (.int .i64 y.most) := by rw [hWy]; go_simp
            have y5 : Wy.cell? ⟨w3.heap.size, 5, none⟩ = some (.slice ay ly cy) := by rw [hWy]; go_simp
            have hzy : w3.heap.size < Wy.heap.size := by have := HSY.out; omega
            have hxy : wo.heap.size < Wy.heap.size := by omega
            have x0y := (hBy.cell (p := ⟨wo.heap.size, 0, none⟩) hx3z).trans x03
            have x1y := (hBy.cell (p := ⟨wo.heap.size, 1, none⟩) hx3z).trans x13
            have x2y := (hBy.cell (p := ⟨wo.heap.size, 2, none⟩) hx3z).trans x23
            have x3y := (hBy.cell (p := ⟨wo.heap.size, 3, none⟩) hx3z).trans x33
            have x4y := (hBy.cell (p := ⟨wo.heap.size, 4, none⟩) hx3z).trans x43
            have hb2y : Below W2.heap.size W2 Wy := hb23.trans (hBy.mono hb23.size)
            have hBwy : Below w.heap.size w Wy := hBw3.trans (hBy.mono hBw3.size)
            have hbwy : Below wb.heap.size wb Wy := hbw3.trans (hBy.mono hbw3.size)
            have hdy : Hid (Below w.heap.size w Wy.drew) := hBwy.drew
            have ICF : Hid (∀ W : World, Below Wy.heap.size Wy W → Calls Try.prog 60 #[.agg #[.int .i64 x.most, .string x.name, .int .i64 x.no, .bool x.must, .slice ax x.kids.length cx'], .agg #[.int .i64 y.kind, .string y.name, .int .i64 y.no, .bool y.must, .int .i64 y.most, .slice ay ly cy]] W fun e w' => e = .returned (.bool (F x y)) ∧ Below W.heap.size W w') := fun W hWW => by
              have hW : Below w.heap.size w W := hBwy.trans (hWW.mono hBwy.size)
              have hW3 : Below w3.heap.size w3 W := hBy.trans (hWW.mono hBy.size)
              exact ih.out x y ax ay x.kids.length cx' ly cy W hxm hym.out (HKX.out.kept (fun g hg => hW.block g (HSV.out g hg)) (fun _ h => h)) (hky.kept (fun g hg => hW3.block g (by have := HST.out g hg; have := hBw3.size; omega)) (fun _ h => h)) (fun g hg => by have := HSV.out g hg; have := hW.size; omega) (fun g hg => by have := HST.out g hg; have := hW.size; omega)
            have hdyy : Hid (Below Wy.heap.size Wy Wy.drew) := (Below.refl _ Wy).drew
            clear hfy hky x03 x13 x23 x33 x43
            go_upto_region 22 with fail
            rw [← hWy]
            clear hWy
            rcases hF : F x y with _ | _
            · have hn : Hid (R = false) := HF.out x hxm (by rw [HPX.out, hF])
              rw [hF] at ICF
              have s0 : Wy.cell? ⟨wo.heap.size, 0, none⟩ = some (.int .i64 x.most) ∧ Wy.cell? ⟨wo.heap.size, 1, none⟩ = some (.string x.name) ∧ Wy.cell? ⟨wo.heap.size, 2, none⟩ = some (.int .i64 x.no) ∧ Wy.cell? ⟨wo.heap.size, 3, none⟩ = some (.bool x.must) ∧ Wy.cell? ⟨wo.heap.size, 4, none⟩ = some (.slice ax x.kids.length cx') ∧ Wy.cell? ⟨w3.heap.size, 0, none⟩ = some (.int .i64 y.kind) ∧ Wy.cell? ⟨w3.heap.size, 1, none⟩ = some (.string y.name) ∧ Wy.cell? ⟨w3.heap.size, 2, none⟩ = some (.int .i64 y.no) ∧ Wy.cell? ⟨w3.heap.size, 3, none⟩ = some (.bool y.must) ∧ Wy.cell? ⟨w3.heap.size, 4, none⟩ = some (.int .i64 y.most) ∧ Wy.cell? ⟨w3.heap.size, 5, none⟩ = some (.slice ay ly cy) := ⟨x0y, x1y, x2y, x3y, x4y, y0, y1, y2, y3, y4, y5⟩
              have s0d : Wy.drew.cell? ⟨wo.heap.size, 0, none⟩ = some (.int .i64 x.most) ∧ Wy.drew.cell? ⟨wo.heap.size, 1, none⟩ = some (.string x.name) ∧ Wy.drew.cell? ⟨wo.heap.size, 2, none⟩ = some (.int .i64 x.no) ∧ Wy.drew.cell? ⟨wo.heap.size, 3, none⟩ = some (.bool x.must) ∧ Wy.drew.cell? ⟨wo.heap.size, 4, none⟩ = some (.slice ax x.kids.length cx') ∧ Wy.drew.cell? ⟨w3.heap.size, 0, none⟩ = some (.int .i64 y.kind) ∧ Wy.drew.cell? ⟨w3.heap.size, 1, none⟩ = some (.string y.name) ∧ Wy.drew.cell? ⟨w3.heap.size, 2, none⟩ = some (.int .i64 y.no) ∧ Wy.drew.cell? ⟨w3.heap.size, 3, none⟩ = some (.bool y.must) ∧ Wy.drew.cell? ⟨w3.heap.size, 4, none⟩ = some (.int .i64 y.most) ∧ Wy.drew.cell? ⟨w3.heap.size, 5, none⟩ = some (.slice ay ly cy) := s0
              have HSS5 : Hid (∀ W : World, Below Wy.heap.size Wy W → W.cell? ⟨wo.heap.size, 0, none⟩ = some (.int .i64 x.most) ∧ W.cell? ⟨wo.heap.size, 1, none⟩ = some (.string x.name) ∧ W.cell? ⟨wo.heap.size, 2, none⟩ = some (.int .i64 x.no) ∧ W.cell? ⟨wo.heap.size, 3, none⟩ = some (.bool x.must) ∧ W.cell? ⟨wo.heap.size, 4, none⟩ = some (.slice ax x.kids.length cx') ∧ W.cell? ⟨w3.heap.size, 0, none⟩ = some (.int .i64 y.kind) ∧ W.cell? ⟨w3.heap.size, 1, none⟩ = some (.string y.name) ∧ W.cell? ⟨w3.heap.size, 2, none⟩ = some (.int .i64 y.no) ∧ W.cell? ⟨w3.heap.size, 3, none⟩ = some (.bool y.must) ∧ W.cell? ⟨w3.heap.size, 4, none⟩ = some (.int .i64 y.most) ∧ W.cell? ⟨w3.heap.size, 5, none⟩ = some (.slice ay ly cy)) := fun W hW => ⟨(hW.cell (p := ⟨wo.heap.size, 0, none⟩) hxy).trans x0y, (hW.cell (p := ⟨wo.heap.size, 1, none⟩) hxy).trans x1y, (hW.cell (p := ⟨wo.heap.size, 2, none⟩) hxy).trans x2y, (hW.cell (p := ⟨wo.heap.size, 3, none⟩) hxy).trans x3y, (hW.cell (p := ⟨wo.heap.size, 4, none⟩) hxy).trans x4y, (hW.cell (p := ⟨w3.heap.size, 0, none⟩) hzy).trans y0, (hW.cell (p := ⟨w3.heap.size, 1, none⟩) hzy).trans y1, (hW.cell (p := ⟨w3.heap.size, 2, none⟩) hzy).trans y2, (hW.cell (p := ⟨w3.heap.size, 3, none⟩) hzy).trans y3, (hW.cell (p := ⟨w3.heap.size, 4, none⟩) hzy).trans y4, (hW.cell (p := ⟨w3.heap.size, 5, none⟩) hzy).trans y5⟩
              clear x0y x1y x2y x3y x4y y0 y1 y2 y3 y4 y5
              clear s0
              refine wp_region_held_drew (S := fun w' => w'.cell? ⟨wo.heap.size, 0, none⟩ = some (.int .i64 x.most) ∧ w'.cell? ⟨wo.heap.size, 1, none⟩ = some (.string x.name) ∧ w'.cell? ⟨wo.heap.size, 2, none⟩ = some (.int .i64 x.no) ∧ w'.cell? ⟨wo.heap.size, 3, none⟩ = some (.bool x.must) ∧ w'.cell? ⟨wo.heap.size, 4, none⟩ = some (.slice ax x.kids.length cx') ∧ w'.cell? ⟨w3.heap.size, 0, none⟩ = some (.int .i64 y.kind) ∧ w'.cell? ⟨w3.heap.size, 1, none⟩ = some (.string y.name) ∧ w'.cell? ⟨w3.heap.size, 2, none⟩ = some (.int .i64 y.no) ∧ w'.cell? ⟨w3.heap.size, 3, none⟩ = some (.bool y.must) ∧ w'.cell? ⟨w3.heap.size, 4, none⟩ = some (.int .i64 y.most) ∧ w'.cell? ⟨w3.heap.size, 5, none⟩ = some (.slice ay ly cy)) (by kernel_rfl) ?_ (fun hHeld => ?_)
              · exact s0d
              refine wpAnyH_take (i := 0) (oi := { dst := some 98, op := Op.move (Operand.tmp 10), type := 4, pos := "l4_codec.go:88", after := #[], guard := none }) (v := ?vq1) rfl (by kernel_rfl) (by kernel_rfl) (by kernel_rfl) (fun _ _ _ h => h) (Or.inl ⟨by rfl, ?hy1⟩) (by assumption) ?rest1
              case hy1 =>
                first
                  | (intro w hSw; (try dsimp only at hSw); go_simp; done)
                  | (intro w hSw; (try dsimp only at hSw); go_simp; with_reducible rfl)
              try simp only [Act.put, List.setIfInBounds_toArray, List.set_cons_zero, List.set_cons_succ]
              refine wpAnyH_take (i := 1) (oi := { dst := some 99, op := Op.unOp UnOp.not 4 (Operand.tmp 98), type := 4, pos := "l4_codec.go:88", after := #[{ on := 0, ground := Ground.data }], guard := none }) (v := ?vq2) rfl (by kernel_rfl) (by kernel_rfl) (by kernel_rfl) (fun _ _ _ h => h) (Or.inl ⟨by rfl, ?hy2⟩) (by assumption) ?rest2
              case hy2 =>
                first
                  | (intro w hSw; (try dsimp only at hSw); go_simp; done)
                  | (intro w hSw; (try dsimp only at hSw); go_simp; with_reducible rfl)
              try simp only [Act.put, List.setIfInBounds_toArray, List.set_cons_zero, List.set_cons_succ]
              refine wpAnyH_take (i := 2) (oi := { dst := some 100, op := Op.move (Operand.tmp 99), type := 4, pos := "l4_codec.go:88", after := #[{ on := 1, ground := Ground.data }], guard := none }) (v := ?vq3) rfl (by kernel_rfl) (by kernel_rfl) (by kernel_rfl) (fun _ _ _ h => h) (Or.inl ⟨by rfl, ?hy3⟩) (by assumption) ?rest3
              case hy3 =>
                first
                  | (intro w hSw; (try dsimp only at hSw); go_simp; done)
                  | (intro w hSw; (try dsimp only at hSw); go_simp; with_reducible rfl)
              try simp only [Act.put, List.setIfInBounds_toArray, List.set_cons_zero, List.set_cons_succ]
              refine wpAnyH_take (i := 3) (oi := { dst := some 101, op := Op.load 78 (Operand.tmp 8), type := 78, pos := "l4_codec.go:88", after := #[{ on := 2, ground := Ground.guard }], guard := some (2, false) }) (v := ?vq4) rfl (by kernel_rfl) (by kernel_rfl) (by kernel_rfl) (fun _ _ _ h => h) (Or.inl ⟨by rfl, ?hy4⟩) (by assumption) ?rest4
              case hy4 =>
                first
                  | (intro w hSw; (try dsimp only at hSw); go_simp; done)
                  | (intro w hSw; (try dsimp only at hSw); go_simp; with_reducible rfl)
              try simp only [Act.put, List.setIfInBounds_toArray, List.set_cons_zero, List.set_cons_succ]
              refine wpAnyH_take (i := 4) (oi := { dst := some 102, op := Op.load 82 (Operand.tmp 9), type := 82, pos := "l4_codec.go:88", after := #[{ on := 2, ground := Ground.guard }], guard := some (2, false) }) (v := ?vq5) rfl (by kernel_rfl) (by kernel_rfl) (by kernel_rfl) (fun _ _ _ h => h) (Or.inl ⟨by rfl, ?hy5⟩) (by assumption) ?rest5
              case hy5 =>
                first
                  | (intro w hSw; (try dsimp only at hSw); go_simp; done)
                  | (intro w hSw; (try dsimp only at hSw); go_simp; with_reducible rfl)
              try simp only [Act.put, List.setIfInBounds_toArray, List.set_cons_zero, List.set_cons_succ]
              refine wpAnyH_ready (rs := [5]) (by kernel_rfl) (by simp) ?_
              refine AllReadyH.cons (o := { dst := some 103, op := Op.call { callee := Callee.value (Operand.func 60), args := #[Operand.tmp 101, Operand.tmp 102], argTypes := #[78, 82] }, type := 4, pos := "l4_codec.go:88", after := #[{ on := 3, ground := Ground.data }, { on := 4, ground := Ground.data }, { on := 2, ground := Ground.chain }, { on := 2, ground := Ground.guard }], guard := some (2, false) }) rfl (fun K hK => ?_) AllReadyH.nil
              go_simp
              refine (ICF.out _ hdyy.out).mono ?_
              rintro e w5 ⟨rfl, hb5⟩
              have hY5 : Below Wy.heap.size Wy w5 := hdyy.out.trans hb5
              have s5 := HSS5.out _ hY5
              have hB5 : Below w.heap.size w w5 := hBwy.trans (hY5.mono hBwy.size)
              go_wp2_with fail
              refine hK.out _ _ ?_ (fun hHeld => ?_)
              · exact s5
              clear hK K
              try simp only [Act.put, List.setIfInBounds_toArray, List.set_cons_zero, List.set_cons_succ]
              refine wpAnyH_take (i := 6) (oi := { dst := some 104, op := Op.unOp UnOp.not 4 (Operand.tmp 103), type := 4, pos := "l4_codec.go:88", after := #[{ on := 5, ground := Ground.data }, { on := 2, ground := Ground.guard }], guard := some (2, false) }) (v := ?vq6) rfl (by kernel_rfl) (by kernel_rfl) (by kernel_rfl) (fun _ _ _ h => h) (Or.inl ⟨by rfl, ?hy6⟩) (by assumption) ?rest6
              case hy6 =>
                first
                  | (intro w hSw; (try dsimp only at hSw); go_simp; done)
                  | (intro w hSw; (try dsimp only at hSw); go_simp; with_reducible rfl)
              try simp only [Act.put, List.setIfInBounds_toArray, List.set_cons_zero, List.set_cons_succ]
              refine wpAnyH_take (i := 7) (oi := { dst := some 105, op := Op.pick (Operand.tmp 100) (Operand.const (Value.bool true)) (Operand.tmp 104), type := 4, pos := "l4_codec.go:88", after := #[{ on := 2, ground := Ground.data }, { on := 6, ground := Ground.data }], guard := none }) (v := ?vq7) rfl (by kernel_rfl) (by kernel_rfl) (by kernel_rfl) (fun _ _ _ h => h) (Or.inl ⟨by rfl, ?hy7⟩) (by assumption) ?rest7
              case hy7 =>
                first
                  | (intro w hSw; (try dsimp only at hSw); go_simp; done)
                  | (intro w hSw; (try dsimp only at hSw); go_simp; with_reducible rfl)
              try simp only [Act.put, List.setIfInBounds_toArray, List.set_cons_zero, List.set_cons_succ]
              refine wpAnyH_take (i := 8) (oi := { dst := some 106, op := Op.move (Operand.tmp 105), type := 4, pos := "l4_codec.go:88", after := #[{ on := 7, ground := Ground.data }, { on := 5, ground := Ground.chain }], guard := none }) (v := ?vq8) rfl (by kernel_rfl) (by kernel_rfl) (by kernel_rfl) (fun _ _ _ h => h) (Or.inl ⟨by rfl, ?hy8⟩) (by assumption) ?rest8
              case hy8 =>
                first
                  | (intro w hSw; (try dsimp only at hSw); go_simp; done)
                  | (intro w hSw; (try dsimp only at hSw); go_simp; with_reducible rfl)
              try simp only [Act.put, List.setIfInBounds_toArray, List.set_cons_zero, List.set_cons_succ]
              refine wpAnyH_take (i := 9) (oi := { dst := some 107, op := Op.move (Operand.tmp 7), type := 3, pos := "l4_codec.go:88", after := #[{ on := 8, ground := Ground.guard }], guard := some (8, false) }) (v := undef) rfl (by kernel_rfl) (by kernel_rfl) (by kernel_rfl) (fun _ _ _ h => h) (Or.inr ⟨by rfl, rfl⟩) (by assumption) ?_
              try simp only [Act.put, List.setIfInBounds_toArray, List.set_cons_zero, List.set_cons_succ]
              refine wpAnyH_take (i := 10) (oi := { dst := some 108, op := Op.binOp BinOp.gtr 3 (Operand.tmp 107) (Operand.const (Value.int IntKind.i64 0)) 3, type := 4, pos := "l4_codec.go:88", after := #[{ on := 9, ground := Ground.data }, { on := 8, ground := Ground.guard }], guard := some (8, false) }) (v := undef) rfl (by kernel_rfl) (by kernel_rfl) (by kernel_rfl) (fun _ _ _ h => h) (Or.inr ⟨by rfl, rfl⟩) (by assumption) ?_
              try simp only [Act.put, List.setIfInBounds_toArray, List.set_cons_zero, List.set_cons_succ]
              refine wpAnyH_take (i := 11) (oi := { dst := some 109, op := Op.move (Operand.tmp 108), type := 4, pos := "l4_codec.go:88", after := #[{ on := 10, ground := Ground.data }, { on := 8, ground := Ground.chain }, { on := 8, ground := Ground.guard }], guard := some (8, false) }) (v := undef) rfl (by kernel_rfl) (by kernel_rfl) (by kernel_rfl) (fun _ _ _ h => h) (Or.inr ⟨by rfl, rfl⟩) (by assumption) ?_
              try simp only [Act.put, List.setIfInBounds_toArray, List.set_cons_zero, List.set_cons_succ]
              refine wpAnyH_take (i := 12) (oi := { dst := some 110, op := Op.fieldAddr 78 (Operand.tmp 2) 4, type := 0, pos := "l4_codec.go:88", after := #[{ on := 11, ground := Ground.guard }], guard := some (11, true) }) (v := undef) rfl (by kernel_rfl) (by kernel_rfl) (by kernel_rfl) (fun _ _ _ h => h) (Or.inr ⟨by rfl, rfl⟩) (by assumption) ?_
              try simp only [Act.put, List.setIfInBounds_toArray, List.set_cons_zero, List.set_cons_succ]
              refine wpAnyH_take (i := 13) (oi := { dst := some 111, op := Op.load 76 (Operand.tmp 110), type := 76, pos := "l4_codec.go:88", after := #[{ on := 12, ground := Ground.data }, { on := 11, ground := Ground.guard }], guard := some (11, true) }) (v := undef) rfl (by kernel_rfl) (by kernel_rfl) (by kernel_rfl) (fun _ _ _ h => h) (Or.inr ⟨by rfl, rfl⟩) (by assumption) ?_
              try simp only [Act.put, List.setIfInBounds_toArray, List.set_cons_zero, List.set_cons_succ]
              refine wpAnyH_take (i := 14) (oi := { dst := some 112, op := Op.move (Operand.tmp 7), type := 3, pos := "l4_codec.go:88", after := #[{ on := 11, ground := Ground.guard }], guard := some (11, true) }) (v := undef) rfl (by kernel_rfl) (by kernel_rfl) (by kernel_rfl) (fun _ _ _ h => h) (Or.inr ⟨by rfl, rfl⟩) (by assumption) ?_
              try simp only [Act.put, List.setIfInBounds_toArray, List.set_cons_zero, List.set_cons_succ]
              refine wpAnyH_take (i := 15) (oi := { dst := some 113, op := Op.binOp BinOp.sub 3 (Operand.tmp 112) (Operand.const (Value.int IntKind.i64 1)) 3, type := 3, pos := "l4_codec.go:88", after := #[{ on := 14, ground := Ground.data }, { on := 11, ground := Ground.guard }], guard := some (11, true) }) (v := undef) rfl (by kernel_rfl) (by kernel_rfl) (by kernel_rfl) (fun _ _ _ h => h) (Or.inr ⟨by rfl, rfl⟩) (by assumption) ?_
              try simp only [Act.put, List.setIfInBounds_toArray, List.set_cons_zero, List.set_cons_succ]
              refine wpAnyH_take (i := 16) (oi := { dst := some 114, op := Op.indexAddr 76 (Operand.tmp 111) (Operand.tmp 113), type := 0, pos := "l4_codec.go:88", after := #[{ on := 13, ground := Ground.data }, { on := 15, ground := Ground.data }, { on := 11, ground := Ground.guard }], guard := some (11, true) }) (v := undef) rfl (by kernel_rfl) (by kernel_rfl) (by kernel_rfl) (fun _ _ _ h => h) (Or.inr ⟨by rfl, rfl⟩) (by assumption) ?_
              try simp only [Act.put, List.setIfInBounds_toArray, List.set_cons_zero, List.set_cons_succ]
              refine wpAnyH_take (i := 17) (oi := { dst := some 115, op := Op.fieldAddr 78 (Operand.tmp 114) 2, type := 0, pos := "l4_codec.go:88", after := #[{ on := 16, ground := Ground.data }, { on := 11, ground := Ground.guard }], guard := some (11, true) }) (v := undef) rfl (by kernel_rfl) (by kernel_rfl) (by kernel_rfl) (fun _ _ _ h => h) (Or.inr ⟨by rfl, rfl⟩) (by assumption) ?_
              try simp only [Act.put, List.setIfInBounds_toArray, List.set_cons_zero, List.set_cons_succ]
              refine wpAnyH_take (i := 18) (oi := { dst := some 116, op := Op.load 3 (Operand.tmp 115), type := 3, pos := "l4_codec.go:88", after := #[{ on := 17, ground := Ground.data }, { on := 11, ground := Ground.guard }], guard := some (11, true) }) (v := undef) rfl (by kernel_rfl) (by kernel_rfl) (by kernel_rfl) (fun _ _ _ h => h) (Or.inr ⟨by rfl, rfl⟩) (by assumption) ?_
              try simp only [Act.put, List.setIfInBounds_toArray, List.set_cons_zero, List.set_cons_succ]
              refine wpAnyH_take (i := 19) (oi := { dst := some 117, op := Op.fieldAddr 78 (Operand.tmp 8) 2, type := 0, pos := "l4_codec.go:88", after := #[{ on := 11, ground := Ground.guard }], guard := some (11, true) }) (v := undef) rfl (by kernel_rfl) (by kernel_rfl) (by kernel_rfl) (fun _ _ _ h => h) (Or.inr ⟨by rfl, rfl⟩) (by assumption) ?_
              try simp only [Act.put, List.setIfInBounds_toArray, List.set_cons_zero, List.set_cons_succ]
              refine wpAnyH_take (i := 20) (oi := { dst := some 118, op := Op.load 3 (Operand.tmp 117), type := 3, pos := "l4_codec.go:88", after := #[{ on := 19, ground := Ground.data }, { on := 11, ground := Ground.guard }], guard := some (11, true) }) (v := undef) rfl (by kernel_rfl) (by kernel_rfl) (by kernel_rfl) (fun _ _ _ h => h) (Or.inr ⟨by rfl, rfl⟩) (by assumption) ?_
              try simp only [Act.put, List.setIfInBounds_toArray, List.set_cons_zero, List.set_cons_succ]
              refine wpAnyH_take (i := 21) (oi := { dst := some 119, op := Op.binOp BinOp.geq 3 (Operand.tmp 116) (Operand.tmp 118) 3, type := 4, pos := "l4_codec.go:88", after := #[{ on := 18, ground := Ground.data }, { on := 20, ground := Ground.data }, { on := 11, ground := Ground.guard }], guard := some (11, true) }) (v := undef) rfl (by kernel_rfl) (by kernel_rfl) (by kernel_rfl) (fun _ _ _ h => h) (Or.inr ⟨by rfl, rfl⟩) (by assumption) ?_
              try simp only [Act.put, List.setIfInBounds_toArray, List.set_cons_zero, List.set_cons_succ]
              refine wpAnyH_take (i := 22) (oi := { dst := some 120, op := Op.pick (Operand.tmp 109) (Operand.tmp 119) (Operand.const (Value.bool false)), type := 4, pos := "l4_codec.go:88", after := #[{ on := 11, ground := Ground.data }, { on := 21, ground := Ground.data }, { on := 8, ground := Ground.guard }], guard := some (8, false) }) (v := undef) rfl (by kernel_rfl) (by kernel_rfl) (by kernel_rfl) (fun _ _ _ h => h) (Or.inr ⟨by rfl, rfl⟩) (by assumption) ?_
              try simp only [Act.put, List.setIfInBounds_toArray, List.set_cons_zero, List.set_cons_succ]
              refine wpAnyH_take (i := 23) (oi := { dst := some 121, op := Op.pick (Operand.tmp 106) (Operand.const (Value.bool true)) (Operand.tmp 120), type := 4, pos := "l4_codec.go:88", after := #[{ on := 8, ground := Ground.data }, { on := 22, ground := Ground.data }], guard := none }) (v := ?vq9) rfl (by kernel_rfl) (by kernel_rfl) (by kernel_rfl) (fun _ _ _ h => h) (Or.inl ⟨by rfl, ?hy9⟩) (by assumption) ?rest9
              case hy9 =>
                first
                  | (intro w hSw; (try dsimp only at hSw); go_simp; done)
                  | (intro w hSw; (try dsimp only at hSw); go_simp; with_reducible rfl)
              try simp only [Act.put, List.setIfInBounds_toArray, List.set_cons_zero, List.set_cons_succ]
              refine wpAnyH_done (by kernel_rfl) ?_ _
              all_goals
                go_wp2
                go_ret
                exact ⟨by rw [hn.out]; rfl, hB5⟩
            · rw [hF] at ICF
              have HPT : Hid (P x = true) := HPX.out.trans hF
              clear hF HPX
              by_cases hi0 : i = 0
              · have hall2 : Hid ((∀ j z, j < 0 + 1 → v.kids[j]? = some z → P z = true) ∧ ∀ j a b, j + 1 < 0 + 1 → v.kids[j]? = some b → v.kids[j + 1]? = some a → b.no < a.no) := ⟨fun j z hj hz => by
                    obtain rfl : j = 0 := by omega
                    rw [hi0] at hx
                    rw [hx] at hz; cases hz; exact HPT.out, fun j a b hj => by omega⟩
                have hi0' : decide ((0 : Int) < (i : Int)) = false := by simp; omega
                subst hi0
                go_cut [121] from 98 to 121 (fun s121 wx => s121 = .bool false ∧ Below Wy.heap.size Wy wx)
                case first =>
                  have s0 : Wy.cell? ⟨wo.heap.size, 0, none⟩ = some (.int .i64 x.most) ∧ Wy.cell? ⟨wo.heap.size, 1, none⟩ = some (.string x.name) ∧ Wy.cell? ⟨wo.heap.size, 2, none⟩ = some (.int .i64 x.no) ∧ Wy.cell? ⟨wo.heap.size, 3, none⟩ = some (.bool x.must) ∧ Wy.cell? ⟨wo.heap.size, 4, none⟩ = some (.slice ax x.kids.length cx') ∧ Wy.cell? ⟨w3.heap.size, 0, none⟩ = some (.int .i64 y.kind) ∧ Wy.cell? ⟨w3.heap.size, 1, none⟩ = some (.string y.name) ∧ Wy.cell? ⟨w3.heap.size, 2, none⟩ = some (.int .i64 y.no) ∧ Wy.cell? ⟨w3.heap.size, 3, none⟩ = some (.bool y.must) ∧ Wy.cell? ⟨w3.heap.size, 4, none⟩ = some (.int .i64 y.most) ∧ Wy.cell? ⟨w3.heap.size, 5, none⟩ = some (.slice ay ly cy) := ⟨x0y, x1y, x2y, x3y, x4y, y0, y1, y2, y3, y4, y5⟩
                  have s0d : Wy.drew.cell? ⟨wo.heap.size, 0, none⟩ = some (.int .i64 x.most) ∧ Wy.drew.cell? ⟨wo.heap.size, 1, none⟩ = some (.string x.name) ∧ Wy.drew.cell? ⟨wo.heap.size, 2, none⟩ = some (.int .i64 x.no) ∧ Wy.drew.cell? ⟨wo.heap.size, 3, none⟩ = some (.bool x.must) ∧ Wy.drew.cell? ⟨wo.heap.size, 4, none⟩ = some (.slice ax x.kids.length cx') ∧ Wy.drew.cell? ⟨w3.heap.size, 0, none⟩ = some (.int .i64 y.kind) ∧ Wy.drew.cell? ⟨w3.heap.size, 1, none⟩ = some (.string y.name) ∧ Wy.drew.cell? ⟨w3.heap.size, 2, none⟩ = some (.int .i64 y.no) ∧ Wy.drew.cell? ⟨w3.heap.size, 3, none⟩ = some (.bool y.must) ∧ Wy.drew.cell? ⟨w3.heap.size, 4, none⟩ = some (.int .i64 y.most) ∧ Wy.drew.cell? ⟨w3.heap.size, 5, none⟩ = some (.slice ay ly cy) := s0
                  have HSS5 : Hid (∀ W : World, Below Wy.heap.size Wy W → W.cell? ⟨wo.heap.size, 0, none⟩ = some (.int .i64 x.most) ∧ W.cell? ⟨wo.heap.size, 1, none⟩ = some (.string x.name) ∧ W.cell? ⟨wo.heap.size, 2, none⟩ = some (.int .i64 x.no) ∧ W.cell? ⟨wo.heap.size, 3, none⟩ = some (.bool x.must) ∧ W.cell? ⟨wo.heap.size, 4, none⟩ = some (.slice ax x.kids.length cx') ∧ W.cell? ⟨w3.heap.size, 0, none⟩ = some (.int .i64 y.kind) ∧ W.cell? ⟨w3.heap.size, 1, none⟩ = some (.string y.name) ∧ W.cell? ⟨w3.heap.size, 2, none⟩ = some (.int .i64 y.no) ∧ W.cell? ⟨w3.heap.size, 3, none⟩ = some (.bool y.must) ∧ W.cell? ⟨w3.heap.size, 4, none⟩ = some (.int .i64 y.most) ∧ W.cell? ⟨w3.heap.size, 5, none⟩ = some (.slice ay ly cy)) := fun W hW => ⟨(hW.cell (p := ⟨wo.heap.size, 0, none⟩) hxy).trans x0y, (hW.cell (p := ⟨wo.heap.size, 1, none⟩) hxy).trans x1y, (hW.cell (p := ⟨wo.heap.size, 2, none⟩) hxy).trans x2y, (hW.cell (p := ⟨wo.heap.size, 3, none⟩) hxy).trans x3y, (hW.cell (p := ⟨wo.heap.size, 4, none⟩) hxy).trans x4y, (hW.cell (p := ⟨w3.heap.size, 0, none⟩) hzy).trans y0, (hW.cell (p := ⟨w3.heap.size, 1, none⟩) hzy).trans y1, (hW.cell (p := ⟨w3.heap.size, 2, none⟩) hzy).trans y2, (hW.cell (p := ⟨w3.heap.size, 3, none⟩) hzy).trans y3, (hW.cell (p := ⟨w3.heap.size, 4, none⟩) hzy).trans y4, (hW.cell (p := ⟨w3.heap.size, 5, none⟩) hzy).trans y5⟩
                  clear x0y x1y x2y x3y x4y y0 y1 y2 y3 y4 y5
                  clear s0
                  refine wp_region_held_drew (S := fun w' => w'.cell? ⟨wo.heap.size, 0, none⟩ = some (.int .i64 x.most) ∧ w'.cell? ⟨wo.heap.size, 1, none⟩ = some (.string x.name) ∧ w'.cell? ⟨wo.heap.size, 2, none⟩ = some (.int .i64 x.no) ∧ w'.cell? ⟨wo.heap.size, 3, none⟩ = some (.bool x.must) ∧ w'.cell? ⟨wo.heap.size, 4, none⟩ = some (.slice ax x.kids.length cx') ∧ w'.cell? ⟨w3.heap.size, 0, none⟩ = some (.int .i64 y.kind) ∧ w'.cell? ⟨w3.heap.size, 1, none⟩ = some (.string y.name) ∧ w'.cell? ⟨w3.heap.size, 2, none⟩ = some (.int .i64 y.no) ∧ w'.cell? ⟨w3.heap.size, 3, none⟩ = some (.bool y.must) ∧ w'.cell? ⟨w3.heap.size, 4, none⟩ = some (.int .i64 y.most) ∧ w'.cell? ⟨w3.heap.size, 5, none⟩ = some (.slice ay ly cy)) (by kernel_rfl) ?_ (fun hHeld => ?_)
                  · exact s0d
                  refine wpAnyH_take (i := 0) (oi := { dst := some 98, op := Op.move (Operand.tmp 10), type := 4, pos := "l4_codec.go:88", after := #[], guard := none }) (v := ?vq10) rfl (by kernel_rfl) (by kernel_rfl) (by kernel_rfl) (fun _ _ _ h => h) (Or.inl ⟨by rfl, ?hy10⟩) (by assumption) ?rest10
                  case hy10 =>
                    first
                      | (intro w hSw; (try dsimp only at hSw); go_simp; done)
                      | (intro w hSw; (try dsimp only at hSw); go_simp; with_reducible rfl)
                  try simp only [Act.put, List.setIfInBounds_toArray, List.set_cons_zero, List.set_cons_succ]
                  refine wpAnyH_take (i := 1) (oi := { dst := some 99, op := Op.unOp UnOp.not 4 (Operand.tmp 98), type := 4, pos := "l4_codec.go:88", after := #[{ on := 0, ground := Ground.data }], guard := none }) (v := ?vq11) rfl (by kernel_rfl) (by kernel_rfl) (by kernel_rfl) (fun _ _ _ h => h) (Or.inl ⟨by rfl, ?hy11⟩) (by assumption) ?rest11
                  case hy11 =>
                    first
                      | (intro w hSw; (try dsimp only at hSw); go_simp; done)
                      | (intro w hSw; (try dsimp only at hSw); go_simp; with_reducible rfl)
                  try simp only [Act.put, List.setIfInBounds_toArray, List.set_cons_zero, List.set_cons_succ]
                  refine wpAnyH_take (i := 2) (oi := { dst := some 100, op := Op.move (Operand.tmp 99), type := 4, pos := "l4_codec.go:88", after := #[{ on := 1, ground := Ground.data }], guard := none }) (v := ?vq12) rfl (by kernel_rfl) (by kernel_rfl) (by kernel_rfl) (fun _ _ _ h => h) (Or.inl ⟨by rfl, ?hy12⟩) (by assumption) ?rest12
                  case hy12 =>
                    first
                      | (intro w hSw; (try dsimp only at hSw); go_simp; done)
                      | (intro w hSw; (try dsimp only at hSw); go_simp; with_reducible rfl)
                  try simp only [Act.put, List.setIfInBounds_toArray, List.set_cons_zero, List.set_cons_succ]
                  refine wpAnyH_take (i := 3) (oi := { dst := some 101, op := Op.load 78 (Operand.tmp 8), type := 78, pos := "l4_codec.go:88", after := #[{ on := 2, ground := Ground.guard }], guard := some (2, false) }) (v := ?vq13) rfl (by kernel_rfl) (by kernel_rfl) (by kernel_rfl) (fun _ _ _ h => h) (Or.inl ⟨by rfl, ?hy13⟩) (by assumption) ?rest13
                  case hy13 =>
                    first
                      | (intro w hSw; (try dsimp only at hSw); go_simp; done)
                      | (intro w hSw; (try dsimp only at hSw); go_simp; with_reducible rfl)
                  try simp only [Act.put, List.setIfInBounds_toArray, List.set_cons_zero, List.set_cons_succ]
                  refine wpAnyH_take (i := 4) (oi := { dst := some 102, op := Op.load 82 (Operand.tmp 9), type := 82, pos := "l4_codec.go:88", after := #[{ on := 2, ground := Ground.guard }], guard := some (2, false) }) (v := ?vq14) rfl (by kernel_rfl) (by kernel_rfl) (by kernel_rfl) (fun _ _ _ h => h) (Or.inl ⟨by rfl, ?hy14⟩) (by assumption) ?rest14
                  case hy14 =>
                    first
                      | (intro w hSw; (try dsimp only at hSw); go_simp; done)
                      | (intro w hSw; (try dsimp only at hSw); go_simp; with_reducible rfl)
                  try simp only [Act.put, List.setIfInBounds_toArray, List.set_cons_zero, List.set_cons_succ]
                  refine wpAnyH_ready (rs := [5]) (by kernel_rfl) (by simp) ?_
                  refine AllReadyH.cons (o := { dst := some 103, op := Op.call { callee := Callee.value (Operand.func 60), args := #[Operand.tmp 101, Operand.tmp 102], argTypes := #[78, 82] }, type := 4, pos := "l4_codec.go:88", after := #[{ on := 3, ground := Ground.data }, { on := 4, ground := Ground.data }, { on := 2, ground := Ground.chain }, { on := 2, ground := Ground.guard }], guard := some (2, false) }) rfl (fun K hK => ?_) AllReadyH.nil
                  go_simp
                  refine (ICF.out _ hdyy.out).mono ?_
                  rintro e w5 ⟨rfl, hb5⟩
                  have hY5 : Below Wy.heap.size Wy w5 := hdyy.out.trans hb5
                  have s5 := HSS5.out _ hY5
                  have hB5 : Below w.heap.size w w5 := hBwy.trans (hY5.mono hBwy.size)
                  go_wp2_with fail
                  refine hK.out _ _ ?_ (fun hHeld => ?_)
                  · exact s5
                  clear hK K
                  try simp only [Act.put, List.setIfInBounds_toArray, List.set_cons_zero, List.set_cons_succ]
                  refine wpAnyH_take (i := 6) (oi := { dst := some 104, op := Op.unOp UnOp.not 4 (Operand.tmp 103), type := 4, pos := "l4_codec.go:88", after := #[{ on := 5, ground := Ground.data }, { on := 2, ground := Ground.guard }], guard := some (2, false) }) (v := ?vq15) rfl (by kernel_rfl) (by kernel_rfl) (by kernel_rfl) (fun _ _ _ h => h) (Or.inl ⟨by rfl, ?hy15⟩) (by assumption) ?rest15
                  case hy15 =>
                    first
                      | (intro w hSw; (try dsimp only at hSw); go_simp; done)
                      | (intro w hSw; (try dsimp only at hSw); go_simp; with_reducible rfl)
                  try simp only [Act.put, List.setIfInBounds_toArray, List.set_cons_zero, List.set_cons_succ]
                  refine wpAnyH_take (i := 7) (oi := { dst := some 105, op := Op.pick (Operand.tmp 100) (Operand.const (Value.bool true)) (Operand.tmp 104), type := 4, pos := "l4_codec.go:88", after := #[{ on := 2, ground := Ground.data }, { on := 6, ground := Ground.data }], guard := none }) (v := ?vq16) rfl (by kernel_rfl) (by kernel_rfl) (by kernel_rfl) (fun _ _ _ h => h) (Or.inl ⟨by rfl, ?hy16⟩) (by assumption) ?rest16
                  case hy16 =>
                    first
                      | (intro w hSw; (try dsimp only at hSw); go_simp; done)
                      | (intro w hSw; (try dsimp only at hSw); go_simp; with_reducible rfl)
                  try simp only [Act.put, List.setIfInBounds_toArray, List.set_cons_zero, List.set_cons_succ]
                  refine wpAnyH_take (i := 8) (oi := { dst := some 106, op := Op.move (Operand.tmp 105), type := 4, pos := "l4_codec.go:88", after := #[{ on := 7, ground := Ground.data }, { on := 5, ground := Ground.chain }], guard := none }) (v := ?vq17) rfl (by kernel_rfl) (by kernel_rfl) (by kernel_rfl) (fun _ _ _ h => h) (Or.inl ⟨by rfl, ?hy17⟩) (by assumption) ?rest17
                  case hy17 =>
                    first
                      | (intro w hSw; (try dsimp only at hSw); go_simp; done)
                      | (intro w hSw; (try dsimp only at hSw); go_simp; with_reducible rfl)
                  try simp only [Act.put, List.setIfInBounds_toArray, List.set_cons_zero, List.set_cons_succ]
                  refine wpAnyH_take (i := 9) (oi := { dst := some 107, op := Op.move (Operand.tmp 7), type := 3, pos := "l4_codec.go:88", after := #[{ on := 8, ground := Ground.guard }], guard := some (8, false) }) (v := ?vq18) rfl (by kernel_rfl) (by kernel_rfl) (by kernel_rfl) (fun _ _ _ h => h) (Or.inl ⟨by rfl, ?hy18⟩) (by assumption) ?rest18
                  case hy18 =>
                    first
                      | (intro w hSw; (try dsimp only at hSw); go_simp; done)
                      | (intro w hSw; (try dsimp only at hSw); go_simp; with_reducible rfl)
                  try simp only [Act.put, List.setIfInBounds_toArray, List.set_cons_zero, List.set_cons_succ]
                  refine wpAnyH_take (i := 10) (oi := { dst := some 108, op := Op.binOp BinOp.gtr 3 (Operand.tmp 107) (Operand.const (Value.int IntKind.i64 0)) 3, type := 4, pos := "l4_codec.go:88", after := #[{ on := 9, ground := Ground.data }, { on := 8, ground := Ground.guard }], guard := some (8, false) }) (v := ?vq19) rfl (by kernel_rfl) (by kernel_rfl) (by kernel_rfl) (fun _ _ _ h => h) (Or.inl ⟨by rfl, ?hy19⟩) (by assumption) ?rest19
                  case hy19 =>
                    first
                      | (intro w hSw; (try dsimp only at hSw); go_simp; done)
                      | (intro w hSw; (try dsimp only at hSw); go_simp; with_reducible rfl)
                  try simp only [Act.put, List.setIfInBounds_toArray, List.set_cons_zero, List.set_cons_succ]
                  refine wpAnyH_take (i := 11) (oi := { dst := some 109, op := Op.move (Operand.tmp 108), type := 4, pos := "l4_codec.go:88", after := #[{ on := 10, ground := Ground.data }, { on := 8, ground := Ground.chain }, { on := 8, ground := Ground.guard }], guard := some (8, false) }) (v := ?vq20) rfl (by kernel_rfl) (by kernel_rfl) (by kernel_rfl) (fun _ _ _ h => h) (Or.inl ⟨by rfl, ?hy20⟩) (by assumption) ?rest20
                  case hy20 =>
                    first
                      | (intro w hSw; (try dsimp only at hSw); go_simp; done)
                      | (intro w hSw; (try dsimp only at hSw); go_simp; with_reducible rfl)
                  try simp only [Act.put, List.setIfInBounds_toArray, List.set_cons_zero, List.set_cons_succ]
                  refine wpAnyH_take (i := 12) (oi := { dst := some 110, op := Op.fieldAddr 78 (Operand.tmp 2) 4, type := 0, pos := "l4_codec.go:88", after := #[{ on := 11, ground := Ground.guard }], guard := some (11, true) }) (v := undef) rfl (by kernel_rfl) (by kernel_rfl) (by kernel_rfl) (fun _ _ _ h => h) (Or.inr ⟨by rfl, rfl⟩) (by assumption) ?_
                  try simp only [Act.put, List.setIfInBounds_toArray, List.set_cons_zero, List.set_cons_succ]
                  refine wpAnyH_take (i := 13) (oi := { dst := some 111, op := Op.load 76 (Operand.tmp 110), type := 76, pos := "l4_codec.go:88", after := #[{ on := 12, ground := Ground.data }, { on := 11, ground := Ground.guard }], guard := some (11, true) }) (v := undef) rfl (by kernel_rfl) (by kernel_rfl) (by kernel_rfl) (fun _ _ _ h => h) (Or.inr ⟨by rfl, rfl⟩) (by assumption) ?_
                  try simp only [Act.put, List.setIfInBounds_toArray, List.set_cons_zero, List.set_cons_succ]
                  refine wpAnyH_take (i := 14) (oi := { dst := some 112, op := Op.move (Operand.tmp 7), type := 3, pos := "l4_codec.go:88", after := #[{ on := 11, ground := Ground.guard }], guard := some (11, true) }) (v := undef) rfl (by kernel_rfl) (by kernel_rfl) (by kernel_rfl) (fun _ _ _ h => h) (Or.inr ⟨by rfl, rfl⟩) (by assumption) ?_
                  try simp only [Act.put, List.setIfInBounds_toArray, List.set_cons_zero, List.set_cons_succ]
                  refine wpAnyH_take (i := 15) (oi := { dst := some 113, op := Op.binOp BinOp.sub 3 (Operand.tmp 112) (Operand.const (Value.int IntKind.i64 1)) 3, type := 3, pos := "l4_codec.go:88", after := #[{ on := 14, ground := Ground.data }, { on := 11, ground := Ground.guard }], guard := some (11, true) }) (v := undef) rfl (by kernel_rfl) (by kernel_rfl) (by kernel_rfl) (fun _ _ _ h => h) (Or.inr ⟨by rfl, rfl⟩) (by assumption) ?_
                  try simp only [Act.put, List.setIfInBounds_toArray, List.set_cons_zero, List.set_cons_succ]
                  refine wpAnyH_take (i := 16) (oi := { dst := some 114, op := Op.indexAddr 76 (Operand.tmp 111) (Operand.tmp 113), type := 0, pos := "l4_codec.go:88", after := #[{ on := 13, ground := Ground.data }, { on := 15, ground := Ground.data }, { on := 11, ground := Ground.guard }], guard := some (11, true) }) (v := undef) rfl (by kernel_rfl) (by kernel_rfl) (by kernel_rfl) (fun _ _ _ h => h) (Or.inr ⟨by rfl, rfl⟩) (by assumption) ?_
                  try simp only [Act.put, List.setIfInBounds_toArray, List.set_cons_zero, List.set_cons_succ]
                  refine wpAnyH_take (i := 17) (oi := { dst := some 115, op := Op.fieldAddr 78 (Operand.tmp 114) 2, type := 0, pos := "l4_codec.go:88", after := #[{ on := 16, ground := Ground.data }, { on := 11, ground := Ground.guard }], guard := some (11, true) }) (v := undef) rfl (by kernel_rfl) (by kernel_rfl) (by kernel_rfl) (fun _ _ _ h => h) (Or.inr ⟨by rfl, rfl⟩) (by assumption) ?_
                  try simp only [Act.put, List.setIfInBounds_toArray, List.set_cons_zero, List.set_cons_succ]
                  refine wpAnyH_take (i := 18) (oi := { dst := some 116, op := Op.load 3 (Operand.tmp 115), type := 3, pos := "l4_codec.go:88", after := #[{ on := 17, ground := Ground.data }, { on := 11, ground := Ground.guard }], guard := some (11, true) }) (v := undef) rfl (by kernel_rfl) (by kernel_rfl) (by kernel_rfl) (fun _ _ _ h => h) (Or.inr ⟨by rfl, rfl⟩) (by assumption) ?_
                  try simp only [Act.put, List.setIfInBounds_toArray, List.set_cons_zero, List.set_cons_succ]
                  refine wpAnyH_take (i := 19) (oi := { dst := some 117, op := Op.fieldAddr 78 (Operand.tmp 8) 2, type := 0, pos := "l4_codec.go:88", after := #[{ on := 11, ground := Ground.guard }], guard := some (11, true) }) (v := undef) rfl (by kernel_rfl) (by kernel_rfl) (by kernel_rfl) (fun _ _ _ h => h) (Or.inr ⟨by rfl, rfl⟩) (by assumption) ?_
                  try simp only [Act.put, List.setIfInBounds_toArray, List.set_cons_zero, List.set_cons_succ]
                  refine wpAnyH_take (i := 20) (oi := { dst := some 118, op := Op.load 3 (Operand.tmp 117), type := 3, pos := "l4_codec.go:88", after := #[{ on := 19, ground := Ground.data }, { on := 11, ground := Ground.guard }], guard := some (11, true) }) (v := undef) rfl (by kernel_rfl) (by kernel_rfl) (by kernel_rfl) (fun _ _ _ h => h) (Or.inr ⟨by rfl, rfl⟩) (by assumption) ?_
                  try simp only [Act.put, List.setIfInBounds_toArray, List.set_cons_zero, List.set_cons_succ]
                  refine wpAnyH_take (i := 21) (oi := { dst := some 119, op := Op.binOp BinOp.geq 3 (Operand.tmp 116) (Operand.tmp 118) 3, type := 4, pos := "l4_codec.go:88", after := #[{ on := 18, ground := Ground.data }, { on := 20, ground := Ground.data }, { on := 11, ground := Ground.guard }], guard := some (11, true) }) (v := undef) rfl (by kernel_rfl) (by kernel_rfl) (by kernel_rfl) (fun _ _ _ h => h) (Or.inr ⟨by rfl, rfl⟩) (by assumption) ?_
                  try simp only [Act.put, List.setIfInBounds_toArray, List.set_cons_zero, List.set_cons_succ]
                  refine wpAnyH_take (i := 22) (oi := { dst := some 120, op := Op.pick (Operand.tmp 109) (Operand.tmp 119) (Operand.const (Value.bool false)), type := 4, pos := "l4_codec.go:88", after := #[{ on := 11, ground := Ground.data }, { on := 21, ground := Ground.data }, { on := 8, ground := Ground.guard }], guard := some (8, false) }) (v := ?vq21) rfl (by kernel_rfl) (by kernel_rfl) (by kernel_rfl) (fun _ _ _ h => h) (Or.inl ⟨by rfl, ?hy21⟩) (by assumption) ?rest21
                  case hy21 =>
                    first
                      | (intro w hSw; (try dsimp only at hSw); go_simp; done)
                      | (intro w hSw; (try dsimp only at hSw); go_simp; with_reducible rfl)
                  try simp only [Act.put, List.setIfInBounds_toArray, List.set_cons_zero, List.set_cons_succ]
                  refine wpAnyH_take (i := 23) (oi := { dst := some 121, op := Op.pick (Operand.tmp 106) (Operand.const (Value.bool true)) (Operand.tmp 120), type := 4, pos := "l4_codec.go:88", after := #[{ on := 8, ground := Ground.data }, { on := 22, ground := Ground.data }], guard := none }) (v := ?vq22) rfl (by kernel_rfl) (by kernel_rfl) (by kernel_rfl) (fun _ _ _ h => h) (Or.inl ⟨by rfl, ?hy22⟩) (by assumption) ?rest22
                  case hy22 =>
                    first
                      | (intro w hSw; (try dsimp only at hSw); go_simp; done)
                      | (intro w hSw; (try dsimp only at hSw); go_simp; with_reducible rfl)
                  try simp only [Act.put, List.setIfInBounds_toArray, List.set_cons_zero, List.set_cons_succ]
                  refine wpAnyH_done (by kernel_rfl) ?_ _
                  all_goals
                    go_wp2_with fail
                    go_meet
                    exact ⟨rfl, hY5⟩
                case rest =>
                  obtain ⟨rfl, hbe⟩ := hcut
                  have hbe2 : Below wb.heap.size wb wc := hbwy.trans (hbe.mono hbwy.size)
                  clear x0y x1y x2y x3y x4y y0 y1 y2 y3 y4 y5 ICF hdy hall
                  go_wp2
                  go_roundw
                  case rel => first | exact ⟨1, by omega, rfl, hall2, hbe2⟩ | ((repeat apply Exists.intro); exact ⟨⟨1, by omega, rfl, hall2, hbe2⟩, rfl⟩)
                  case measure => simp [intOf]; omega
              · obtain ⟨z, hz⟩ : ∃ z, v.kids[i - 1]? = some z := ⟨_, List.getElem?_eq_getElem (by have := HNV.out; omega)⟩
                obtain ⟨g', o', cz, hav', _, hndz, _⟩ := HV.out (i - 1) z hz
                simp only [Option.some.injEq, Addr.mk.injEq, and_true] at hav'
                obtain ⟨rfl, rfl⟩ := hav'
                have hpos : (0 : Int) < (i : Int) := by omega
                have hposn : 0 < i := by omega
                have hi1 : IntKind.i64.wrap ((i : Int) - 1) = ((i - 1 : Nat) : Int) := by rw [IntKind.wrap_i64]; omega
                have hi2 : (i : Int) - 1 = ((i - 1 : Nat) : Int) := by omega
                have hlt1 : ((i - 1 : Nat) : Int) < (lv : Int) := by omega
                have hx1 : v.kids[i - 1 + 1]? = some x := by rw [show i - 1 + 1 = i by omega]; exact hx
                obtain ⟨k, hkk⟩ : ∃ k, k = i - 1 := ⟨_, rfl⟩
                have hndz2 := hndz.2.2.1
                rw [← hkk] at hi1 hi2 hlt1 hndz2
                have hz2c : ∀ W : World, Below w.heap.size w W → W.cell? ⟨g, o + k * 5 + 2, none⟩ = some (.int .i64 z.no) := fun W hW => (hW.cell (p := ⟨g, o + k * 5 + 2, none⟩) hg).trans hndz2
                have HZC : Hid (∀ W : World, Below w.heap.size w W → W.cell? ⟨g, o + k * 5 + 2, none⟩ = some (.int .i64 z.no)) := hz2c
                have HK : Hid (k = i - 1) := hkk
                clear hkk hndz hndz2 hz2c hi2
                by_cases hle : x.no ≤ z.no
                · have hn : Hid (R = false) := HFR.out (i - 1) x z hz hx1 hle
                  have hle' : decide (x.no ≤ z.no) = true := by simpa using hle
                  clear hall hx hz hx1 hle
                  have s0 : Wy.cell? ⟨wo.heap.size, 0, none⟩ = some (.int .i64 x.most) ∧ Wy.cell? ⟨wo.heap.size, 1, none⟩ = some (.string x.name) ∧ Wy.cell? ⟨wo.heap.size, 2, none⟩ = some (.int .i64 x.no) ∧ Wy.cell? ⟨wo.heap.size, 3, none⟩ = some (.bool x.must) ∧ Wy.cell? ⟨wo.heap.size, 4, none⟩ = some (.slice ax x.kids.length cx') ∧ Wy.cell? ⟨w3.heap.size, 0, none⟩ = some (.int .i64 y.kind) ∧ Wy.cell? ⟨w3.heap.size, 1, none⟩ = some (.string y.name) ∧ Wy.cell? ⟨w3.heap.size, 2, none⟩ = some (.int .i64 y.no) ∧ Wy.cell? ⟨w3.heap.size, 3, none⟩ = some (.bool y.must) ∧ Wy.cell? ⟨w3.heap.size, 4, none⟩ = some (.int .i64 y.most) ∧ Wy.cell? ⟨w3.heap.size, 5, none⟩ = some (.slice ay ly cy) ∧ Wy.cell? ⟨w.heap.size, 4, none⟩ = some (.slice (some ⟨g, o, none⟩) lv cv) ∧ Wy.cell? ⟨g, o + k * 5 + 2, none⟩ = some (.int .i64 z.no) := ⟨x0y, x1y, x2y, x3y, x4y, y0, y1, y2, y3, y4, y5, (HCV.out _ hb2y).1.2.2.2.2, HZC.out _ hBwy⟩
                  have s0d : Wy.drew.cell? ⟨wo.heap.size, 0, none⟩ = some (.int .i64 x.most) ∧ Wy.drew.cell? ⟨wo.heap.size, 1, none⟩ = some (.string x.name) ∧ Wy.drew.cell? ⟨wo.heap.size, 2, none⟩ = some (.int .i64 x.no) ∧ Wy.drew.cell? ⟨wo.heap.size, 3, none⟩ = some (.bool x.must) ∧ Wy.drew.cell? ⟨wo.heap.size, 4, none⟩ = some (.slice ax x.kids.length cx') ∧ Wy.drew.cell? ⟨w3.heap.size, 0, none⟩ = some (.int .i64 y.kind) ∧ Wy.drew.cell? ⟨w3.heap.size, 1, none⟩ = some (.string y.name) ∧ Wy.drew.cell? ⟨w3.heap.size, 2, none⟩ = some (.int .i64 y.no) ∧ Wy.drew.cell? ⟨w3.heap.size, 3, none⟩ = some (.bool y.must) ∧ Wy.drew.cell? ⟨w3.heap.size, 4, none⟩ = some (.int .i64 y.most) ∧ Wy.drew.cell? ⟨w3.heap.size, 5, none⟩ = some (.slice ay ly cy) ∧ Wy.drew.cell? ⟨w.heap.size, 4, none⟩ = some (.slice (some ⟨g, o, none⟩) lv cv) ∧ Wy.drew.cell? ⟨g, o + k * 5 + 2, none⟩ = some (.int .i64 z.no) := s0
                  have HSS5 : Hid (∀ W : World, Below Wy.heap.size Wy W → W.cell? ⟨wo.heap.size, 0, none⟩ = some (.int .i64 x.most) ∧ W.cell? ⟨wo.heap.size, 1, none⟩ = some (.string x.name) ∧ W.cell? ⟨wo.heap.size, 2, none⟩ = some (.int .i64 x.no) ∧ W.cell? ⟨wo.heap.size, 3, none⟩ = some (.bool x.must) ∧ W.cell? ⟨wo.heap.size, 4, none⟩ = some (.slice ax x.kids.length cx') ∧ W.cell? ⟨w3.heap.size, 0, none⟩ = some (.int .i64 y.kind) ∧ W.cell? ⟨w3.heap.size, 1, none⟩ = some (.string y.name) ∧ W.cell? ⟨w3.heap.size, 2, none⟩ = some (.int .i64 y.no) ∧ W.cell? ⟨w3.heap.size, 3, none⟩ = some (.bool y.must) ∧ W.cell? ⟨w3.heap.size, 4, none⟩ = some (.int .i64 y.most) ∧ W.cell? ⟨w3.heap.size, 5, none⟩ = some (.slice ay ly cy) ∧ W.cell? ⟨w.heap.size, 4, none⟩ = some (.slice (some ⟨g, o, none⟩) lv cv) ∧ W.cell? ⟨g, o + k * 5 + 2, none⟩ = some (.int .i64 z.no)) := fun W hW => ⟨(hW.cell (p := ⟨wo.heap.size, 0, none⟩) hxy).trans x0y, (hW.cell (p := ⟨wo.heap.size, 1, none⟩) hxy).trans x1y, (hW.cell (p := ⟨wo.heap.size, 2, none⟩) hxy).trans x2y, (hW.cell (p := ⟨wo.heap.size, 3, none⟩) hxy).trans x3y, (hW.cell (p := ⟨wo.heap.size, 4, none⟩) hxy).trans x4y, (hW.cell (p := ⟨w3.heap.size, 0, none⟩) hzy).trans y0, (hW.cell (p := ⟨w3.heap.size, 1, none⟩) hzy).trans y1, (hW.cell (p := ⟨w3.heap.size, 2, none⟩) hzy).trans y2, (hW.cell (p := ⟨w3.heap.size, 3, none⟩) hzy).trans y3, (hW.cell (p := ⟨w3.heap.size, 4, none⟩) hzy).trans y4, (hW.cell (p := ⟨w3.heap.size, 5, none⟩) hzy).trans y5, (HCV.out _ (hb2y.trans (hW.mono hb2y.size))).1.2.2.2.2, HZC.out _ (hBwy.trans (hW.mono hBwy.size))⟩
                  clear x0y x1y x2y x3y x4y y0 y1 y2 y3 y4 y5
                  go_region_held3 (fun w' => w'.cell? ⟨wo.heap.size, 0, none⟩ = some (.int .i64 x.most) ∧ w'.cell? ⟨wo.heap.size, 1, none⟩ = some (.string x.name) ∧ w'.cell? ⟨wo.heap.size, 2, none⟩ = some (.int .i64 x.no) ∧ w'.cell? ⟨wo.heap.size, 3, none⟩ = some (.bool x.must) ∧ w'.cell? ⟨wo.heap.size, 4, none⟩ = some (.slice ax x.kids.length cx') ∧ w'.cell? ⟨w3.heap.size, 0, none⟩ = some (.int .i64 y.kind) ∧ w'.cell? ⟨w3.heap.size, 1, none⟩ = some (.string y.name) ∧ w'.cell? ⟨w3.heap.size, 2, none⟩ = some (.int .i64 y.no) ∧ w'.cell? ⟨w3.heap.size, 3, none⟩ = some (.bool y.must) ∧ w'.cell? ⟨w3.heap.size, 4, none⟩ = some (.int .i64 y.most) ∧ w'.cell? ⟨w3.heap.size, 5, none⟩ = some (.slice ay ly cy) ∧ w'.cell? ⟨w.heap.size, 4, none⟩ = some (.slice (some ⟨g, o, none⟩) lv cv) ∧ w'.cell? ⟨g, o + k * 5 + 2, none⟩ = some (.int .i64 z.no))
                    (first | with_reducible exact s5 | with_reducible exact s0d | with_reducible exact s0)
                    ((go_at_call 60; refine (ICF.out _ hdyy.out).mono ?_; rintro e w5 ⟨rfl, hb5⟩; have hY5 : Below Wy.heap.size Wy w5 := hdyy.out.trans hb5; have s5 := HSS5.out _ hY5; have hB5 : Below w.heap.size w w5 := hBwy.trans (hY5.mono hBwy.size)))
                  all_goals
                    go_wp2
                    go_ret
                    exact ⟨by rw [hn.out]; rfl, hB5⟩
                · have hle' : decide (x.no ≤ z.no) = false := by simpa using hle
                  have hall2 : Hid ((∀ j z, j < i + 1 → v.kids[j]? = some z → P z = true) ∧ ∀ j a b, j + 1 < i + 1 → v.kids[j]? = some b → v.kids[j + 1]? = some a → b.no < a.no) := ⟨fun j z' hj hz' => by
                      by_cases hji : j = i
                      · rw [hji, hx] at hz'; cases hz'; exact HPT.out
                      · exact hall.out.1 j z' (by omega) hz', fun j a b hj hb ha => by
                      by_cases hji : j = i - 1
                      · rw [hji, hz] at hb; cases hb
                        rw [hji, hx1] at ha; cases ha
                        omega
                      · exact hall.out.2 j a b (by omega) hb ha⟩
                  clear hall hx hz hx1 hle
                  go_cut [121] from 98 to 121 (fun s121 wx => s121 = .bool false ∧ Below Wy.heap.size Wy wx)
                  case first =>
                    have s0 : Wy.cell? ⟨wo.heap.size, 0, none⟩ = some (.int .i64 x.most) ∧ Wy.cell? ⟨wo.heap.size, 1, none⟩ = some (.string x.name) ∧ Wy.cell? ⟨wo.heap.size, 2, none⟩ = some (.int .i64 x.no) ∧ Wy.cell? ⟨wo.heap.size, 3, none⟩ = some (.bool x.must) ∧ Wy.cell? ⟨wo.heap.size, 4, none⟩ = some (.slice ax x.kids.length cx') ∧ Wy.cell? ⟨w3.heap.size, 0, none⟩ = some (.int .i64 y.kind) ∧ Wy.cell? ⟨w3.heap.size, 1, none⟩ = some (.string y.name) ∧ Wy.cell? ⟨w3.heap.size, 2, none⟩ = some (.int .i64 y.no) ∧ Wy.cell? ⟨w3.heap.size, 3, none⟩ = some (.bool y.must) ∧ Wy.cell? ⟨w3.heap.size, 4, none⟩ = some (.int .i64 y.most) ∧ Wy.cell? ⟨w3.heap.size, 5, none⟩ = some (.slice ay ly cy) ∧ Wy.cell? ⟨w.heap.size, 4, none⟩ = some (.slice (some ⟨g, o, none⟩) lv cv) ∧ Wy.cell? ⟨g, o + k * 5 + 2, none⟩ = some (.int .i64 z.no) := ⟨x0y, x1y, x2y, x3y, x4y, y0, y1, y2, y3, y4, y5, (HCV.out _ hb2y).1.2.2.2.2, HZC.out _ hBwy⟩
                    have s0d : Wy.drew.cell? ⟨wo.heap.size, 0, none⟩ = some (.int .i64 x.most) ∧ Wy.drew.cell? ⟨wo.heap.size, 1, none⟩ = some (.string x.name) ∧ Wy.drew.cell? ⟨wo.heap.size, 2, none⟩ = some (.int .i64 x.no) ∧ Wy.drew.cell? ⟨wo.heap.size, 3, none⟩ = some (.bool x.must) ∧ Wy.drew.cell? ⟨wo.heap.size, 4, none⟩ = some (.slice ax x.kids.length cx') ∧ Wy.drew.cell? ⟨w3.heap.size, 0, none⟩ = some (.int .i64 y.kind) ∧ Wy.drew.cell? ⟨w3.heap.size, 1, none⟩ = some (.string y.name) ∧ Wy.drew.cell? ⟨w3.heap.size, 2, none⟩ = some (.int .i64 y.no) ∧ Wy.drew.cell? ⟨w3.heap.size, 3, none⟩ = some (.bool y.must) ∧ Wy.drew.cell? ⟨w3.heap.size, 4, none⟩ = some (.int .i64 y.most) ∧ Wy.drew.cell? ⟨w3.heap.size, 5, none⟩ = some (.slice ay ly cy) ∧ Wy.drew.cell? ⟨w.heap.size, 4, none⟩ = some (.slice (some ⟨g, o, none⟩) lv cv) ∧ Wy.drew.cell? ⟨g, o + k * 5 + 2, none⟩ = some (.int .i64 z.no) := s0
                    have HSS5 : Hid (∀ W : World, Below Wy.heap.size Wy W → W.cell? ⟨wo.heap.size, 0, none⟩ = some (.int .i64 x.most) ∧ W.cell? ⟨wo.heap.size, 1, none⟩ = some (.string x.name) ∧ W.cell? ⟨wo.heap.size, 2, none⟩ = some (.int .i64 x.no) ∧ W.cell? ⟨wo.heap.size, 3, none⟩ = some (.bool x.must) ∧ W.cell? ⟨wo.heap.size, 4, none⟩ = some (.slice ax x.kids.length cx') ∧ W.cell? ⟨w3.heap.size, 0, none⟩ = some (.int .i64 y.kind) ∧ W.cell? ⟨w3.heap.size, 1, none⟩ = some (.string y.name) ∧ W.cell? ⟨w3.heap.size, 2, none⟩ = some (.int .i64 y.no) ∧ W.cell? ⟨w3.heap.size, 3, none⟩ = some (.bool y.must) ∧ W.cell? ⟨w3.heap.size, 4, none⟩ = some (.int .i64 y.most) ∧ W.cell? ⟨w3.heap.size, 5, none⟩ = some (.slice ay ly cy) ∧ W.cell? ⟨w.heap.size, 4, none⟩ = some (.slice (some ⟨g, o, none⟩) lv cv) ∧ W.cell? ⟨g, o + k * 5 + 2, none⟩ = some (.int .i64 z.no)) := fun W hW => ⟨(hW.cell (p := ⟨wo.heap.size, 0, none⟩) hxy).trans x0y, (hW.cell (p := ⟨wo.heap.size, 1, none⟩) hxy).trans x1y, (hW.cell (p := ⟨wo.heap.size, 2, none⟩) hxy).trans x2y, (hW.cell (p := ⟨wo.heap.size, 3, none⟩) hxy).trans x3y, (hW.cell (p := ⟨wo.heap.size, 4, none⟩) hxy).trans x4y, (hW.cell (p := ⟨w3.heap.size, 0, none⟩) hzy).trans y0, (hW.cell (p := ⟨w3.heap.size, 1, none⟩) hzy).trans y1, (hW.cell (p := ⟨w3.heap.size, 2, none⟩) hzy).trans y2, (hW.cell (p := ⟨w3.heap.size, 3, none⟩) hzy).trans y3, (hW.cell (p := ⟨w3.heap.size, 4, none⟩) hzy).trans y4, (hW.cell (p := ⟨w3.heap.size, 5, none⟩) hzy).trans y5, (HCV.out _ (hb2y.trans (hW.mono hb2y.size))).1.2.2.2.2, HZC.out _ (hBwy.trans (hW.mono hBwy.size))⟩
                    clear x0y x1y x2y x3y x4y y0 y1 y2 y3 y4 y5
                    go_region_held3 (fun w' => w'.cell? ⟨wo.heap.size, 0, none⟩ = some (.int .i64 x.most) ∧ w'.cell? ⟨wo.heap.size, 1, none⟩ = some (.string x.name) ∧ w'.cell? ⟨wo.heap.size, 2, none⟩ = some (.int .i64 x.no) ∧ w'.cell? ⟨wo.heap.size, 3, none⟩ = some (.bool x.must) ∧ w'.cell? ⟨wo.heap.size, 4, none⟩ = some (.slice ax x.kids.length cx') ∧ w'.cell? ⟨w3.heap.size, 0, none⟩ = some (.int .i64 y.kind) ∧ w'.cell? ⟨w3.heap.size, 1, none⟩ = some (.string y.name) ∧ w'.cell? ⟨w3.heap.size, 2, none⟩ = some (.int .i64 y.no) ∧ w'.cell? ⟨w3.heap.size, 3, none⟩ = some (.bool y.must) ∧ w'.cell? ⟨w3.heap.size, 4, none⟩ = some (.int .i64 y.most) ∧ w'.cell? ⟨w3.heap.size, 5, none⟩ = some (.slice ay ly cy) ∧ w'.cell? ⟨w.heap.size, 4, none⟩ = some (.slice (some ⟨g, o, none⟩) lv cv) ∧ w'.cell? ⟨g, o + k * 5 + 2, none⟩ = some (.int .i64 z.no))
                      (first | with_reducible exact s5 | with_reducible exact s0d | with_reducible exact s0)
                      ((go_at_call 60; refine (ICF.out _ hdyy.out).mono ?_; rintro e w5 ⟨rfl, hb5⟩; have hY5 : Below Wy.heap.size Wy w5 := hdyy.out.trans hb5; have s5 := HSS5.out _ hY5; have hB5 : Below w.heap.size w w5 := hBwy.trans (hY5.mono hBwy.size)))
                    all_goals
                      go_wp2_with fail
                      go_meet
                      exact ⟨rfl, hY5⟩
                  case rest =>
                    obtain ⟨rfl, hbe⟩ := hcut
                    have hbe2 : Below wb.heap.size wb wc := hbwy.trans (hbe.mono hbwy.size)
                    clear x0y x1y x2y x3y x4y y0 y1 y2 y3 y4 y5 ICF hdy
                    go_wp2
                    go_roundw
                    case rel => first | exact ⟨i + 1, by omega, by go_num, hall2, hbe2⟩ | ((repeat apply Exists.intro); exact ⟨⟨i + 1, by omega, by go_num, hall2, hbe2⟩, rfl⟩)
                    case measure => simp [intOf]; omega
          · have hn : Hid (R = false) := HF.out x hxm (HP0.out x hfy)
            clear hfy hall
            have hBn : Below w.heap.size w (w3.alloc (.cells #[.int .i64 0, .string ⟨#[]⟩, .int .i64 0, .bool false, .int .i64 0, .slice none 0 0] 82)) := hBw3.alloc hBw3.size _
            go_wp2_with fail
            go_quiet (fail)
            go_wp2
            go_ret
            exact ⟨by rw [hn.out]; rfl, below_drewN hBn⟩
        · have hke : i = lv := by omega
          have hge : ¬ ((i : Int) < (lv : Int)) := by omega
          obtain ⟨⟨c0, c1, c2, c3, c4⟩, ⟨d0, d1, d2, d3, d4, d5⟩, hzb, hzb', _⟩ := HCV.out _ hb2w
          have hn : Hid (R = musts v.kids t.kids) := by
            show R = _
            have h1 : v.kids.all P = true := by
              rw [List.all_eq_true]
              intro x hx
              obtain ⟨j, hj, rfl⟩ := List.getElem_of_mem hx
              exact hall.out.1 j _ (by have := HNV.out; omega) (List.getElem?_eq_getElem hj)
            have h2 : riseL v.kids = true := by
              rw [rise_iff]
              intro j x z hz hx
              have : j + 1 < v.kids.length := (List.getElem?_eq_some_iff.1 hx).1
              exact hall.out.2 j x z (by have := HNV.out; omega) hz hx
            rw [HR3.out, h1, h2]
            rfl
          clear hall hke
          go_wp2_with fail
          refine (HMU.out wo hBo).mono ?_
          rintro e w9 ⟨rfl, hb9⟩
          rw [← hn.out]
          have hB9 : Below w.heap.size w w9 := hBo.trans (hb9.mono hBo.size)
          go_wp2
          go_ret
          exact ⟨rfl, hB9⟩

end Go.Proofs.Ytpajdmhakdbkjaa
