/- The model's l4Fits at one value and one type, given what it tells of their parts. -/
import Derived.Test.YtpajdmhakdbkjaaNdM
import Derived.Test.YtpajdmhakdbkjaaGh
import Derived.Test.YtpajdmhakdbkjaaVaD
import Derived.Test.YtpajdmhakdbkjaaGd
import Derived.BigQuiet
import Derived.Deep.DeepCutAuto
import Derived.Deep.RegionWith
import Derived.Deep.RegionHeld3
namespace Go.Proofs.Ytpajdmhakdbkjaa
open Go.RowKit Plain Sch

/-- what l4Fits tells, given what it tells of the parts -/
def fitR (F : Tr → Tr → Bool) (v t : Tr) : Bool := headOk v t && (if isLeaf t then leafOk v t
  else if t.kind = 4 then v.kids.all fun x => decide (x.no = 0) && (match t.kids with | y :: _ => F x y | [] => false)
  else (v.kids.all fun x => match byNo t.kids x.no with | some y => F x y | none => false) && riseL v.kids && musts v.kids t.kids)

theorem toList_nil' (b : ByteArray) : b.toList = [] ↔ b = ⟨#[]⟩ := by
  rw [ByteArray.toList_eq]
  constructor
  · intro h
    cases b with
    | mk d =>
      have h' : d = #[] := Array.toList_eq_nil_iff.1 h
      rw [h']
  · rintro rfl; rfl

theorem rise_iff : ∀ (l : List Tr), riseL l = true ↔ ∀ j x z, l[j]? = some z → l[j + 1]? = some x → z.no < x.no
  | [] => by simp [riseL]
  | [a] => by simp [riseL]
  | a :: b :: l => by
    have e : riseL (a :: b :: l) = (decide (a.no < b.no) && riseL (b :: l)) := rfl
    rw [e, Bool.and_eq_true, decide_eq_true_eq, rise_iff (b :: l)]
    constructor
    · rintro ⟨h1, h2⟩ j x z hz hx
      cases j with
      | zero => simp at hz hx; rw [← hz, ← hx]; exact h1
      | succ j => exact h2 j x z (by simpa using hz) (by simpa using hx)
    · intro h
      exact ⟨h 0 b a rfl rfl, fun j x z hz hx => h (j + 1) x z (by simpa using hz) (by simpa using hx)⟩

theorem rise_no {l : List Tr} {j : Nat} {x z : Tr} (hz : l[j]? = some z) (hx : l[j + 1]? = some x) (h : x.no ≤ z.no) : riseL l = false := by
  rw [Bool.eq_false_iff]
  intro hr
  have := (rise_iff l).1 hr j x z hz hx
  omega

set_option maxRecDepth 100000 in
set_option maxHeartbeats 1000000 in
theorem l1Number_any (n : Int) (w : World) : Calls Try.prog 97 #[.int .i64 n] w fun e w' => e = .returned (.bool (numOk n)) ∧ w' = w := by
  have hn : decide (-1000000000 ≤ n ∧ n ≤ 1000000000) = numOk n := by unfold numOk; by_cases h1 : -1000000000 ≤ n <;> by_cases h2 : n ≤ 1000000000 <;> simp [h1, h2]
  go_enter Try.func97, Try.ntmps97
  go_wp2_with fail
  refine (l1In_any n (-1000000000) 1000000000 _).mono ?_
  rintro e w1 ⟨rfl, rfl⟩
  rw [hn]
  go_wp2
  go_ret
  exact ⟨rfl, rfl⟩

set_option maxRecDepth 100000 in
set_option maxHeartbeats 4000000 in
theorem l4Fits_leaf (d : Nat) (F : Tr → Tr → Bool) (v t : Tr) (av : Option Addr) (lv cv : Nat) (ta : Option Addr) (lt ct : Nat) (Sv St : Nat → Prop) (w : World) (hv : VKids (d + 1) w Sv (.slice av lv cv) v.kids) (ht : KidsIn (d + 1) w St (.slice ta lt ct) t.kids) (hSv : ∀ g, Sv g → g < w.heap.size) (hSt : ∀ g, St g → g < w.heap.size) (h4 : t.kind = 4 → t.kids ≠ []) (hk5 : t.kind = 1 ∨ t.kind = 2 ∨ t.kind = 3)
    (ih0 : ∀ (x y : Tr) (ax ay : Option Addr) (lx cx ly cy : Nat) (W : World), x ∈ v.kids → y ∈ t.kids → VKids d W Sv (.slice ax lx cx) x.kids → KidsIn d W St (.slice ay ly cy) y.kids → (∀ g, Sv g → g < W.heap.size) → (∀ g, St g → g < W.heap.size) → Calls Try.prog 60 #[vv x ax lx cx, tv y ay ly cy] W fun e w' => e = .returned (.bool (F x y)) ∧ Below W.heap.size W w') :
    Calls Try.prog 60 #[vv v av lv cv, tv t ta lt ct] w fun e w' => e = .returned (.bool (fitR F v t)) ∧ Below w.heap.size w w' := by
  have ih : Hid (∀ (x y : Tr) (ax ay : Option Addr) (lx cx ly cy : Nat) (W : World), x ∈ v.kids → y ∈ t.kids → VKids d W Sv (.slice ax lx cx) x.kids → KidsIn d W St (.slice ay ly cy) y.kids → (∀ g, Sv g → g < W.heap.size) → (∀ g, St g → g < W.heap.size) → Calls Try.prog 60 #[vv x ax lx cx, tv y ay ly cy] W fun e w' => e = .returned (.bool (F x y)) ∧ Below W.heap.size W w') := ih0
  clear ih0
  have HVK : Hid (VKids (d + 1) w Sv (.slice av lv cv) v.kids) := hv
  have HTK : Hid (KidsIn (d + 1) w St (.slice ta lt ct) t.kids) := ht
  obtain ⟨av', cv', hcc, hlv, hcmv, hrv⟩ := hv
  simp only [Value.slice.injEq] at hcc
  obtain ⟨rfl, hnv, rfl⟩ := hcc
  obtain ⟨ta', ct', hcc, hlt, hcmt, hrt⟩ := ht
  simp only [Value.slice.injEq] at hcc
  obtain ⟨rfl, hnt, rfl⟩ := hcc
  have HV : Hid (∀ i x, v.kids[i]? = some x → ∃ g o c', av = some ⟨g, o, none⟩ ∧ Sv g ∧ VdIn w g (o + i * 5) x c' ∧ VKids d w Sv c' x.kids) := hrv
  have HT : Hid (∀ i x, t.kids[i]? = some x → ∃ g o c', ta = some ⟨g, o, none⟩ ∧ St g ∧ NdIn w g (o + i * 6) x c' ∧ KidsIn d w St c' x.kids) := hrt
  have HSV : Hid (∀ g, Sv g → g < w.heap.size) := hSv
  have HST : Hid (∀ g, St g → g < w.heap.size) := hSt
  have HNV : Hid (lv = v.kids.length) := hnv
  have HNT : Hid (lt = t.kids.length) := hnt
  have H4 : Hid (t.kind = 4 → t.kids ≠ []) := h4
  have hcv : cv ≤ 9223372036854775807 := by unfold maxLen at hcmv; omega
  have hct : ct ≤ 9223372036854775807 := by unfold maxLen at hcmt; omega
  have hlv' : lv ≤ cv := by omega
  have hlt' : lt ≤ ct := by omega
  clear hrv hrt hSv hSt hnv hnt hlv hlt h4
  obtain ⟨R, hR⟩ : ∃ R, R = fitR F v t := ⟨_, rfl⟩
  rw [← hR]
  have HR : Hid (R = fitR F v t) := hR
  clear hR
  unfold vv tv
  obtain ⟨W2, hW2⟩ : ∃ W, W = (w.alloc (.cells #[.int .i64 v.most, .string v.name, .int .i64 v.no, .bool v.must, .slice av lv cv] 78)).alloc (.cells #[.int .i64 t.kind, .string t.name, .int .i64 t.no, .bool t.must, .int .i64 t.most, .slice ta lt ct] 82) := ⟨_, rfl⟩
  have hB2 : Below w.heap.size w W2 := by rw [hW2]; exact ((Below.refl _ w).alloc (Nat.le_refl _) _).alloc (by simp) _
  have HS2 : Hid (W2.heap.size = w.heap.size + 2) := by show _ = _; rw [hW2]; simp
  have HCV : Hid (∀ W : World, Below W2.heap.size W2 W → (W.cell? ⟨w.heap.size, 0, none⟩ = some (.int .i64 v.most) ∧ W.cell? ⟨w.heap.size, 1, none⟩ = some (.string v.name) ∧ W.cell? ⟨w.heap.size, 2, none⟩ = some (.int .i64 v.no) ∧ W.cell? ⟨w.heap.size, 3, none⟩ = some (.bool v.must) ∧ W.cell? ⟨w.heap.size, 4, none⟩ = some (.slice av lv cv)) ∧
      (W.cell? ⟨w.heap.size + 1, 0, none⟩ = some (.int .i64 t.kind) ∧ W.cell? ⟨w.heap.size + 1, 1, none⟩ = some (.string t.name) ∧ W.cell? ⟨w.heap.size + 1, 2, none⟩ = some (.int .i64 t.no) ∧ W.cell? ⟨w.heap.size + 1, 3, none⟩ = some (.bool t.must) ∧ W.cell? ⟨w.heap.size + 1, 4, none⟩ = some (.int .i64 t.most) ∧ W.cell? ⟨w.heap.size + 1, 5, none⟩ = some (.slice ta lt ct)) ∧ w.heap.size + 1 < W.heap.size ∧ w.heap.size < W.heap.size ∧ Below w.heap.size w W) := fun W hW => by
    have hs := HS2.out
    have h2 := hW.size
    have l0 : ∀ j, W.cell? ⟨w.heap.size, j, none⟩ = W2.cell? ⟨w.heap.size, j, none⟩ := fun j => hW.cell (p := ⟨w.heap.size, j, none⟩) (by show w.heap.size < _; omega)
    have l1 : ∀ j, W.cell? ⟨w.heap.size + 1, j, none⟩ = W2.cell? ⟨w.heap.size + 1, j, none⟩ := fun j => hW.cell (p := ⟨w.heap.size + 1, j, none⟩) (by show w.heap.size + 1 < _; omega)
    refine ⟨⟨(l0 0).trans ?_, (l0 1).trans ?_, (l0 2).trans ?_, (l0 3).trans ?_, (l0 4).trans ?_⟩, ⟨(l1 0).trans ?_, (l1 1).trans ?_, (l1 2).trans ?_, (l1 3).trans ?_, (l1 4).trans ?_, (l1 5).trans ?_⟩, by omega, by omega, hB2.trans (hW.mono hB2.size)⟩ <;> (rw [hW2]; go_simp)
  obtain ⟨⟨a0, a1, a2, a3, a4⟩, ⟨b0, b1, b2, b3, b4, b5⟩, hz2, hz2', _⟩ := HCV.out _ (Below.refl _ W2)
  go_enter Try.func60, Try.ntmps60
  go_upto_region 1 with fail
  rw [← hW2]
  clear hW2
  go_cut [40] from 11 to 40 (fun s40 wx => s40 = .bool (!headOk v t) ∧ Below W2.heap.size W2 wx)
  case first =>
    obtain ⟨hb, hhb⟩ : ∃ b, b = holds t.kind := ⟨_, rfl⟩
    have HLD : Hid (∀ W : World, Calls Try.prog 83 #[.int .i64 t.kind] W fun e w' => e = .returned (.bool hb) ∧ ∃ n, w' = W.drewN n) := fun W => by
      rw [hhb]
      refine (l2Holds_any t.kind W).mono ?_
      rintro e w' ⟨rfl, rfl⟩
      exact ⟨rfl, 0, rfl⟩
    have HHB : Hid (hb = holds t.kind) := hhb
    obtain ⟨vm, hvm⟩ : ∃ b, b = v.must := ⟨_, rfl⟩
    have HVM : Hid (vm = v.must) := hvm
    rw [← hvm] at a3
    clear hhb hvm HR HV HT HVK HTK ih HCV a2 a4 b1 b2 b3 b4 b5
    by_cases hm : vm = hb
    · have hmh : Hid (v.must = holds t.kind) := HVM.out.symm.trans (hm.trans HHB.out)
      subst hm
      by_cases hk2 : t.kind = 2
      · have hk2b : (t.kind == 2) = true := by simpa using hk2
        have hk2a : (t.kind != 2) = false := by simpa using hk2
        by_cases hn0 : v.most = 0
        · have hn0' : (v.most != 0) = false := by simpa using hn0
          cases vm
          all_goals
            have he : Hid (headOk v t = true) := by
              show _ = _
              rw [headOk_iff]; exact ⟨hmh.out, fun h => absurd hk2 h, fun _ => hn0⟩
            clear hk2 hn0
            go_quiet ((go_at_call 83; exact Calls.quiet_of (HLD.out _)))
            go_wp2_with fail
            go_meet
            exact ⟨by rw [he.out]; rfl, below_drewN (Below.refl _ _)⟩
        · have hn0' : (v.most != 0) = true := by simpa using hn0
          cases vm
          all_goals
            have he : Hid (headOk v t = false) := by
              show _ = _
              rw [Bool.eq_false_iff]; intro hh; rw [headOk_iff] at hh; exact hn0 (hh.2.2 (.inl hk2))
            clear hk2 hn0
            go_quiet ((go_at_call 83; exact Calls.quiet_of (HLD.out _)))
            go_wp2_with fail
            go_meet
            exact ⟨by rw [he.out]; rfl, below_drewN (Below.refl _ _)⟩
      · have hk2b : (t.kind == 2) = false := by simpa using hk2
        have hk2a : (t.kind != 2) = true := by simpa using hk2
        by_cases hnm : v.name = ⟨#[]⟩
        · cases vm
          · have hmx : v.must = false := HVM.out.symm
            have he : Hid (headOk v t = true) := by
              show _ = _
              rw [headOk_iff]; exact ⟨hmh.out, fun _ => hnm, fun h => (by rcases h with h | h; exact absurd h hk2; rw [hmx] at h; cases h)⟩
            rw [hnm] at a1
            clear hk2 hnm hmx
            go_quiet ((go_at_call 83; exact Calls.quiet_of (HLD.out _)))
            go_wp2_with fail
            go_meet
            exact ⟨by rw [he.out]; rfl, below_drewN (Below.refl _ _)⟩
          · by_cases hn0 : v.most = 0
            · have hn0' : (v.most != 0) = false := by simpa using hn0
              have he : Hid (headOk v t = true) := by
                show _ = _
                rw [headOk_iff]; exact ⟨hmh.out, fun _ => hnm, fun _ => hn0⟩
              rw [hnm] at a1
              clear hk2 hnm hn0
              go_quiet ((go_at_call 83; exact Calls.quiet_of (HLD.out _)))
              go_wp2_with fail
              go_meet
              exact ⟨by rw [he.out]; rfl, below_drewN (Below.refl _ _)⟩
            · have hn0' : (v.most != 0) = true := by simpa using hn0
              have he : Hid (headOk v t = false) := by
                show _ = _
                rw [Bool.eq_false_iff]; intro hh; rw [headOk_iff] at hh; exact hn0 (hh.2.2 (.inr HVM.out.symm))
              rw [hnm] at a1
              clear hk2 hnm hn0
              go_quiet ((go_at_call 83; exact Calls.quiet_of (HLD.out _)))
              go_wp2_with fail
              go_meet
              exact ⟨by rw [he.out]; rfl, below_drewN (Below.refl _ _)⟩
        · have hnm' : v.name.toList.isEmpty = false := by have := mt (toList_nil' v.name).1 hnm; simpa using this
          have hnm2 : ¬ v.name.toList = [] := mt (toList_nil' v.name).1 hnm
          have hnm3 : (v.name.toList == []) = false := by simpa using hnm2
          cases vm
          all_goals
            have he : Hid (headOk v t = false) := by
              show _ = _
              rw [Bool.eq_false_iff]; intro hh; rw [headOk_iff] at hh; exact hnm (hh.2.1 hk2)
            clear hk2 hnm
            go_quiet ((go_at_call 83; exact Calls.quiet_of (HLD.out _)))
            go_wp2_with fail
            go_meet
            exact ⟨by rw [he.out]; rfl, below_drewN (Below.refl _ _)⟩
    · have hno : Hid (¬ v.must = holds t.kind) := fun e => hm (HVM.out.trans (e.trans HHB.out.symm))
      cases vm <;> cases hb
      all_goals first | exact absurd rfl hm | skip
      all_goals
        have he : Hid (headOk v t = false) := by
          show _ = _
          rw [Bool.eq_false_iff]; intro hh; rw [headOk_iff] at hh; exact hno.out hh.1
        clear hm
        go_quiet ((go_at_call 83; exact Calls.quiet_of (HLD.out _)))
        go_wp2_with fail
        go_meet
        exact ⟨by rw [he.out]; rfl, below_drewN (Below.refl _ _)⟩
  case rest =>
    obtain ⟨wb, rfl⟩ : ∃ W, W = wc := ⟨_, rfl⟩
    obtain ⟨rfl, hbc⟩ := hcut
    obtain ⟨⟨c0, c1, c2, c3, c4⟩, ⟨d0, d1, d2, d3, d4, d5⟩, hzb, hzb', hBb⟩ := HCV.out _ hbc
    clear a0 a1 a2 a3 a4 b0 b1 b2 b3 b4 b5 hz2 hz2'
    rcases hho : headOk v t with _ | _
    · have hn : Hid (R = false) := HR.out.trans (by unfold fitR; rw [hho]; rfl)
      clear hho HR
      go_wp2
      go_ret
      exact ⟨by rw [hn.out]; rfl, hBb⟩
    · have HR1 : Hid (R = (if isLeaf t then leafOk v t
  else if t.kind = 4 then v.kids.all fun x => decide (x.no = 0) && (match t.kids with | y :: _ => F x y | [] => false)
  else (v.kids.all fun x => match byNo t.kids x.no with | some y => F x y | none => false) && riseL v.kids && musts v.kids t.kids)) := HR.out.trans (by unfold fitR; rw [hho, Bool.true_and])
      clear hho HR
      by_cases hk1 : t.kind = 1
      · have hn : Hid (R = numOk v.most) := HR1.out.trans (by rw [if_pos (by unfold isLeaf; rw [hk1]; decide)]; unfold leafOk; rw [if_pos hk1])
        rw [hk1] at d0
        clear hk1 HR1
        go_wp2_with fail
        refine (l1Number_any v.most _).mono ?_
        rintro e w1 ⟨rfl, rfl⟩
        go_wp2
        go_ret
        exact ⟨by rw [hn.out]; rfl, hBb⟩
      · by_cases hk3 : t.kind = 3
        · have hn : Hid (R = decide (0 ≤ v.most ∧ v.most ≤ t.most)) := HR1.out.trans (by
            rw [if_pos (by unfold isLeaf; rw [hk3]; decide)]
            unfold leafOk
            rw [if_neg (by omega), if_pos hk3]
            by_cases h1 : 0 ≤ v.most <;> by_cases h2 : v.most ≤ t.most <;> simp [h1, h2])
          rw [hk3] at d0
          clear hk1 hk3 HR1
          go_wp2_with fail
          refine (l1In_any v.most 0 t.most _).mono ?_
          rintro e w1 ⟨rfl, rfl⟩
          rw [← hn.out]
          go_wp2
          go_ret
          exact ⟨rfl, hBb⟩
        · by_cases hk2 : t.kind = 2
          · have hn : Hid (R = decide (v.name.size ≤ 30)) := HR1.out.trans (by
              rw [if_pos (by unfold isLeaf; rw [hk2]; decide)]
              unfold leafOk
              rw [if_neg (by omega), if_neg (by omega)])
            rw [hk2] at d0
            clear hk1 hk3 hk2 HR1
            by_cases hsz : v.name.size ≤ 30
            · have hn2 : Hid (R = true) := hn.out.trans (by simpa using hsz)
              have hsz' : decide ((v.name.size : Int) ≤ 30) = true := by simp; omega
              go_wp2
              go_ret
              exact ⟨by rw [hn2.out]; rfl, hBb⟩
            · have hn2 : Hid (R = false) := hn.out.trans (by simpa using hsz)
              have hsz' : decide ((v.name.size : Int) ≤ 30) = false := by simp; omega
              go_wp2
              go_ret
              exact ⟨by rw [hn2.out]; rfl, hBb⟩
          · omega

end Go.Proofs.Ytpajdmhakdbkjaa
