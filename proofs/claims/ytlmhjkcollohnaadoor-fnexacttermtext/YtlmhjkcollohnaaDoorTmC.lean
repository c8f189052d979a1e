/- The program's GoodTerm. -/
import Derived.Test.YtlmhjkcollohnaaDoorTmB
namespace Go.Proofs.YtlmhjkcollohnaaDoor
open Go.RowKit Plain Sch Trm

attribute [local go_sem ↓] eqlC

set_option maxRecDepth 100000 in
set_option maxHeartbeats 4000000 in
theorem goodCell_var (var : Int) (name : ByteArray) (many : Int) (w : World) (hv : ¬ var = 0) :
    Calls Tryd.prog 66 #[.agg #[.int .i64 var, .string name, .int .i64 many]] w fun e w' => e = .returned (.bool (okVar ⟨var, name, many⟩)) ∧ Below w.heap.size w w' := by
  have hB : ∀ o, Below w.heap.size w (w.alloc o) := fun o => (Below.refl _ w).alloc (Nat.le_refl _) o
  have hv' : (var == 0) = false := by simpa using hv
  by_cases h1 : 0 < var
  · by_cases h6 : var ≤ 6
    · have CV : Hid (∀ W : World, Calls Tryd.prog 58 #[.int .i64 var] W fun e w' => e = .returned (.agg #[.int .i64 var, .string ⟨#[]⟩, .int .i64 0]) ∧ Below W.heap.size W w') := fun W => variable_any var W
      have hR : okVar ⟨var, name, many⟩ = ceq var name many var ⟨#[]⟩ 0 := by
        have a1 : decide (1 ≤ var) = true := by simp; omega
        have a6 : decide (var ≤ 6) = true := by simp; omega
        unfold okVar ceq
        dsimp only
        rw [a1, a6]
        simp
      rw [hR]
      clear hv hR
      go_enter Tryd.func66, Tryd.ntmps66
      go_wp2_with fail
      go_region_with (go_at_call 58; refine (CV.out _).mono ?_; rintro e w2 ⟨rfl, hb2⟩; have hB2 : Below w.heap.size w w2 := ((hB _).drew).trans (hb2.mono (by simp)); have y0 : w2.cell? ⟨w.heap.size, 0, none⟩ = some (.int .i64 var) := (hb2.cell (p := ⟨w.heap.size, 0, none⟩) (by simp)).trans (by simp); have y1 : w2.cell? ⟨w.heap.size, 1, none⟩ = some (.string name) := (hb2.cell (p := ⟨w.heap.size, 1, none⟩) (by simp)).trans (by simp); have y2 : w2.cell? ⟨w.heap.size, 2, none⟩ = some (.int .i64 many) := (hb2.cell (p := ⟨w.heap.size, 2, none⟩) (by simp)).trans (by simp))
      all_goals
        go_wp2
        go_ret
        exact ⟨rfl, hB2⟩
    · have hR : okVar ⟨var, name, many⟩ = false := by unfold okVar; simp [h6]
      rw [hR]
      have h6' : decide (var ≤ 6) = false := by simpa using h6
      clear h6 hv hR
      go_enter Tryd.func66, Tryd.ntmps66
      go_wp2_with fail
      go_quiet (fail)
      go_wp2
      go_ret
      exact ⟨rfl, below_drewN (hB _)⟩
  · have hR : okVar ⟨var, name, many⟩ = false := by
      have : decide (1 ≤ var) = false := by simp; omega
      unfold okVar; simp [this]
    rw [hR]
    have h0' : decide (0 < var) = false := by simpa using h1
    clear h1 hv hR
    go_enter Tryd.func66, Tryd.ntmps66
    go_wp2_with fail
    go_quiet (fail)
    go_wp2
    go_ret
    exact ⟨rfl, below_drewN (hB _)⟩

set_option maxRecDepth 100000 in
set_option maxHeartbeats 4000000 in
theorem goodCell_fn (name : ByteArray) (many : Int) (w : World) (hs : name.size ≤ maxLen) :
    Calls Tryd.prog 66 #[.agg #[.int .i64 0, .string name, .int .i64 many]] w fun e w' => e = .returned (.bool (okFn ⟨0, name, many⟩)) ∧ Below w.heap.size w w' := by
  have hB : ∀ o, Below w.heap.size w (w.alloc o) := fun o => (Below.refl _ w).alloc (Nat.le_refl _) o
  have hs' : (name.size : Int) ≤ 9223372036854775807 := by unfold maxLen at hs; omega
  unfold okFn okName
  dsimp only
  by_cases hn : isName name = true
  · by_cases h4 : name.size ≤ 4
    · by_cases hm0 : 0 ≤ many
      · by_cases hm5 : many ≤ 5
        · have hR : (isName name && decide (name.size ≤ 4) && (decide (0 ≤ many) && decide (many ≤ 5))) = true := by simp [hn, h4, hm0, hm5]
          rw [hR]
          have h4' : (name.size : Int) ≤ 4 := by omega
          clear hR h4
          go_enter Tryd.func66, Tryd.ntmps66
          go_wp2_with fail
          refine (isName_any name _ hs).mono ?_
          rintro e w1 ⟨rfl, rfl⟩
          rw [hn]
          go_wp2
          go_ret
          exact ⟨rfl, hB _⟩
        · have hR : (isName name && decide (name.size ≤ 4) && (decide (0 ≤ many) && decide (many ≤ 5))) = false := by simp [hm5]
          rw [hR]
          have h4' : (name.size : Int) ≤ 4 := by omega
          have hm5' : decide (many ≤ 5) = false := by simpa using hm5
          clear hR h4 hm5
          go_enter Tryd.func66, Tryd.ntmps66
          go_wp2_with fail
          refine (isName_any name _ hs).mono ?_
          rintro e w1 ⟨rfl, rfl⟩
          rw [hn]
          go_wp2
          go_ret
          exact ⟨rfl, hB _⟩
      · have hR : (isName name && decide (name.size ≤ 4) && (decide (0 ≤ many) && decide (many ≤ 5))) = false := by simp [hm0]
        rw [hR]
        have h4' : (name.size : Int) ≤ 4 := by omega
        have hm0' : decide (0 ≤ many) = false := by simpa using hm0
        clear hR h4 hm0
        go_enter Tryd.func66, Tryd.ntmps66
        go_wp2_with fail
        refine (isName_any name _ hs).mono ?_
        rintro e w1 ⟨rfl, rfl⟩
        rw [hn]
        go_wp2
        go_ret
        exact ⟨rfl, hB _⟩
    · have hR : (isName name && decide (name.size ≤ 4) && (decide (0 ≤ many) && decide (many ≤ 5))) = false := by simp [h4]
      rw [hR]
      have h4' : decide ((name.size : Int) ≤ 4) = false := by simp; omega
      clear hR h4
      go_enter Tryd.func66, Tryd.ntmps66
      go_wp2_with fail
      refine (isName_any name _ hs).mono ?_
      rintro e w1 ⟨rfl, rfl⟩
      rw [hn]
      go_wp2
      go_ret
      exact ⟨rfl, hB _⟩
  · have hn' : isName name = false := by simpa using hn
    have hR : (isName name && decide (name.size ≤ 4) && (decide (0 ≤ many) && decide (many ≤ 5))) = false := by simp [hn']
    rw [hR]
    clear hR hn
    go_enter Tryd.func66, Tryd.ntmps66
    go_wp2_with fail
    refine (isName_any name _ hs).mono ?_
    rintro e w1 ⟨rfl, rfl⟩
    rw [hn']
    go_wp2
    go_ret
    exact ⟨rfl, hB _⟩

theorem goodCell_any (c : Ce) (w : World) (hs : c.name.size ≤ maxLen) :
    Calls Tryd.prog 66 #[.agg #[.int .i64 c.var, .string c.name, .int .i64 c.many]] w fun e w' => e = .returned (.bool (okCe c)) ∧ Below w.heap.size w w' := by
  obtain ⟨var, name, many⟩ := c
  unfold okCe
  dsimp only
  by_cases h : var = 0
  · subst h
    rw [if_pos rfl]
    exact goodCell_fn name many w hs
  · rw [if_neg h]
    exact goodCell_var var name many w h

theorem need_zero (c : Ce) (l : List Ce) : need 0 (c :: l) = false := by simp [need]
theorem need_step (n : Nat) (c : Ce) (l : List Ce) : need (n + 1) (c :: l) = (okCe c && need (n + c.many.toNat) l) := by simp [need]
theorem drop_ce (T : List Ce) (i : Nat) (h : i < T.length) : T.drop i = ce T i :: T.drop (i + 1) := by
  rw [List.drop_eq_getElem_cons h]
  simp [ce, List.getD, h]

set_option maxRecDepth 100000 in
set_option maxHeartbeats 4000000 in
theorem implGoodT (T : List Ce) (v : Value) (w : World) (hT : CesAt w w.heap.size v T) :
    Calls Tryd.prog 31 #[.agg #[v]] w fun e w' => e = .returned (.bool (gt T)) ∧ Below w.heap.size w w' := by
  have HT : Hid (CesAt w w.heap.size v T) := hT
  obtain ⟨ao, cap, rfl, hlc, hcm, hrow, hnm⟩ := hT
  have HROW : Hid (∀ i, i < T.length → ∃ g o, ao = some ⟨g, o, none⟩ ∧ g < w.heap.size ∧ CeIn w g (o + i * 3) (ce T i)) := hrow
  have HNM : Hid (∀ i, i < T.length → (ce T i).name.size ≤ maxLen) := hnm
  clear hrow hnm
  unfold maxLen at hcm
  by_cases h30 : T.length ≤ 30
  · have h30' : (T.length : Int) ≤ 30 := by omega
    have hR : gt T = need 1 (T.drop 0) := by unfold gt; simp [h30]
    obtain ⟨R, hRR⟩ : ∃ R, R = gt T := ⟨_, rfl⟩
    rw [← hRR] at hR ⊢
    have HR : Hid (R = need 1 (T.drop 0)) := hR
    clear hR hRR
    go_enter Tryd.func31, Tryd.ntmps31
    go_wp2
    go_loopw [3, 13] (fun vn vi wr => ∃ (n i : Nat), i ≤ T.length ∧ vn = .int .i64 (n : Int) ∧ vi = .int .i64 (i : Int) ∧ n ≤ 1 + 5 * i ∧ Hid (R = need n (T.drop i)) ∧ Below (w.heap.size + 1) (w.alloc (.cells #[.slice ao T.length cap] 30)) wr)
      (fun _ vi _ => T.length - (intOf vi).toNat)
    case atStart => exact ⟨1, 0, by omega, rfl, rfl, by omega, HR, Below.refl _ _⟩
    case round =>
      obtain ⟨n, i, hi, rfl, rfl, hn, hr, hbw⟩ := hrel
      have hB0 : Below w.heap.size w wr := ((Below.refl _ w).alloc (Nat.le_refl _) _).trans (hbw.mono (by omega))
      have hsz : w.heap.size < wr.heap.size := by have := hbw.size; simp at this; omega
      by_cases hlt : i < T.length
      · have hlt' : (i : Int) < (T.length : Int) := by omega
        obtain ⟨g, o, rfl, hg, hty⟩ := HROW.out i hlt
        have hci := hty.below hB0 hg
        have hni := HNM.out i hlt
        have hstep : Hid (T.drop i = ce T i :: T.drop (i + 1)) := drop_ce T i hlt
        obtain ⟨c, hc⟩ : ∃ c, c = ce T i := ⟨_, rfl⟩
        rw [← hc] at hci hni hstep
        clear hty hc
        obtain ⟨c0, c1, c2⟩ := hci
        by_cases hn0 : n = 0
        · subst hn0
          have hF : Hid (R = false) := by show R = _; rw [hr.out, hstep.out, need_zero]
          clear hr
          go_wp2
          go_ret
          exact ⟨by rw [hF.out]; rfl, hB0.alloc (by omega) _⟩
        · obtain ⟨m, rfl⟩ : ∃ m, n = m + 1 := ⟨n - 1, by omega⟩
          have hr2 : Hid (R = (okCe c && need (m + c.many.toNat) (T.drop (i + 1)))) := by show R = _; rw [hr.out, hstep.out, need_step]
          clear hr hn0
          have hne : (((m + 1 : Nat) : Int) == 0) = false := by simp; omega
          obtain ⟨W2, hW2⟩ : ∃ W, W = wr.alloc (.cells #[.int .i64 c.var, .string c.name, .int .i64 c.many] 97) := ⟨_, rfl⟩
          have hbW : Below (w.heap.size + 1) (w.alloc (.cells #[.slice (some ⟨g, o, none⟩) T.length cap] 30)) W2 := by rw [hW2]; exact hbw.alloc (by omega) _
          have hBW : Below w.heap.size w W2 := by rw [hW2]; exact hB0.alloc (by omega) _
          have x2 : W2.cell? ⟨wr.heap.size, 2, none⟩ = some (.int .i64 c.many) := by rw [hW2]; go_simp
          have hsW : W2.heap.size = wr.heap.size + 1 := by rw [hW2]; simp
          have HSW : Hid (W2.heap.size = wr.heap.size + 1) := hsW
          clear hsW
          go_wp2_with fail
          rw [← hW2]
          clear hW2
          refine (goodCell_any c _ hni).mono ?_
          rintro e w3 ⟨rfl, hb3⟩
          have hbw3 := hbW.trans (hb3.mono (by rw [HSW.out]; omega))
          have hB3 : Below w.heap.size w w3 := hBW.trans (hb3.mono (by rw [HSW.out]; omega))
          have x3 := (hb3.cell (p := ⟨wr.heap.size, 2, none⟩) (by show wr.heap.size < _; rw [HSW.out]; omega)).trans x2
          clear hb3 hbW hBW x2 c0 c1 c2 hbw hB0
          by_cases hok : okCe c = true
          · have hr3 : Hid (R = need (m + c.many.toNat) (T.drop (i + 1))) := by show R = _; rw [hr2.out, hok]; simp
            have hm := okCe_many hok
            obtain ⟨h0, h5⟩ := hm
            rw [hok]
            clear hr2 hok
            generalize hcm9 : c.many = many at x3 h0 h5 hr3
            clear hcm9
            go_wp2
            go_roundw
            case rel => exact ⟨m + many.toNat, i + 1, by omega, by go_num, by go_num, by omega, hr3, hbw3⟩
            case measure => simp [intOf]; omega
          · have hok' : okCe c = false := by simpa using hok
            have hF : Hid (R = false) := by show R = _; rw [hr2.out, hok']; simp
            rw [hok']
            clear hr2 hok hok'
            go_wp2
            go_ret
            exact ⟨by rw [hF.out]; rfl, hB3⟩
      · have hke : i = T.length := by omega
        subst hke
        have hge : ¬ ((T.length : Int) < (T.length : Int)) := by omega
        have hF : Hid (R = ((n : Int) == 0)) := by
          show R = _
          rw [hr.out, List.drop_length, need]
          by_cases h : n = 0 <;> simp [h]
        clear hr
        go_wp2
        go_ret
        exact ⟨by rw [hF.out]; rfl, hB0⟩
  · have hR : gt T = false := by unfold gt; simp [h30]
    rw [hR]
    have h30' : (30 : Int) < (T.length : Int) := by omega
    clear hR h30
    go_enter Tryd.func31, Tryd.ntmps31
    go_wp2
    go_ret
    exact ⟨rfl, (Below.refl _ w).alloc (Nat.le_refl _) _⟩

end Go.Proofs.YtlmhjkcollohnaaDoor
