/- Lists, ends and machines compared by the laws. -/
import Derived.Test.YtecgjhnihagleaaXd
import Derived.Test.YtecgjhnihagleaaMcR
import Derived.BigQuiet
namespace Go.Proofs.Ytecgjhnihagleaa
open Go.RowKit Plain Mch

set_option maxRecDepth 100000 in
set_option maxHeartbeats 4000000 in
theorem sameZ_any (l k : List Int) (v1 v2 : Value) (w : World) (h1 : ZAt w w.heap.size v1 l) (h2 : ZAt w w.heap.size v2 k) (hl : l.length ≤ 1000) :
    Calls Try.prog 28 #[v1, v2] w fun e w' => e = .returned (.bool (decide (l = k))) ∧ Below w.heap.size w w' := by
  obtain ⟨ao, cap, rfl, hc1, hc2, hrow⟩ := h1
  obtain ⟨ao2, cap2, rfl, hd1, hd2, hrow2⟩ := h2
  unfold maxLen at hc2 hd2
  obtain ⟨R, hR⟩ : ∃ R, R = decide (l = k) := ⟨_, rfl⟩
  have HR : Hid (R = decide (l = k)) := hR
  rw [← hR]
  clear hR
  have HROW : Hid (∀ i (x : Int), l[i]? = some x → ∃ g o, ao = some ⟨g, o, none⟩ ∧ g < w.heap.size ∧ w.cell? ⟨g, o + i, none⟩ = some (.int .i64 x)) := hrow
  have HROW2 : Hid (∀ i (x : Int), k[i]? = some x → ∃ g o, ao2 = some ⟨g, o, none⟩ ∧ g < w.heap.size ∧ w.cell? ⟨g, o + i, none⟩ = some (.int .i64 x)) := hrow2
  clear hrow hrow2
  by_cases hlen : l.length = k.length
  · have HLN : Hid (l.length = k.length) := hlen
    obtain ⟨n, hn⟩ : ∃ n, n = l.length := ⟨_, rfl⟩
    have HN : Hid (n = l.length) := hn
    rw [← hlen, ← hn]
    rw [← hlen, ← hn] at hd1
    rw [← hn] at hc1 hl
    have hne : ((n : Int) != (n : Int)) = false := by simp
    clear hlen hn
    go_enter Try.func28, Try.ntmps28
    go_wp2
    go_loopw [13] (fun vi wr => ∃ i : Nat, i ≤ n ∧ vi = .int .i64 (i : Int) ∧ Hid (∀ j, j < i → l[j]? = k[j]?) ∧ Hid (Below w.heap.size w wr))
      (fun vi _ => n - (intOf vi).toNat)
    case atStart => exact ⟨0, by omega, rfl, fun j hj => by omega, Below.refl _ _⟩
    case round =>
      obtain ⟨i, hk, rfl, hix, hbw⟩ := hrel
      by_cases hlt : i < n
      · obtain ⟨x, hx⟩ : ∃ x, l[i]? = some x := ⟨_, List.getElem?_eq_getElem (by rw [← HN.out]; exact hlt)⟩
        obtain ⟨y, hy⟩ : ∃ y, k[i]? = some y := ⟨_, List.getElem?_eq_getElem (by rw [← HLN.out, ← HN.out]; exact hlt)⟩
        obtain ⟨g, o, rfl, hgB, hy1⟩ := HROW.out i x hx
        obtain ⟨g2, o2, rfl, hgB2, hy2⟩ := HROW2.out i y hy
        have e1 := (hbw.out.cell (p := ⟨g, o + i, none⟩) hgB).trans hy1
        have e2 := (hbw.out.cell (p := ⟨g2, o2 + i, none⟩) hgB2).trans hy2
        have HD : Hid (x ≠ y → R = false) := fun h => by
          show _ = _
          rw [HR.out]
          simp
          intro e
          rw [e, hy] at hx
          simp at hx
          exact h hx.symm
        have HS : Hid (x = y → ∀ j, j < i + 1 → l[j]? = k[j]?) := fun h j hj => by
          by_cases e : j = i
          · rw [e, hx, hy, h]
          · exact hix.out j (by omega)
        clear hy1 hy2 hx hy hix
        have hlt' : (i : Int) < (n : Int) := by omega
        go_upto_region 6 with fail
        by_cases hxy : x = y
        · subst hxy
          have hN : Hid (∀ j, j < i + 1 → l[j]? = k[j]?) := HS.out rfl
          have hxx : (x != x) = false := by simp
          clear HD HS
          go_quiet (fail)
          go_wp2
          go_roundw
          case rel => exact ⟨i + 1, by omega, by go_num, hN, below_drewT hbw.out⟩
          case measure => simp [intOf]; omega
        · have hF : Hid (R = false) := HD.out hxy
          have hxx : (x != y) = true := by simpa using hxy
          clear HD HS
          go_quiet (fail)
          go_wp2
          go_ret
          exact ⟨by rw [hF.out]; rfl, below_drewT hbw.out⟩
      · have hke : i = n := by omega
        have hge : ¬ ((i : Int) < (n : Int)) := by omega
        have hF : Hid (R = true) := by
          show _ = _
          rw [HR.out]
          simp
          apply List.ext_getElem?
          intro j
          by_cases hj : j < n
          · exact hix.out j (by omega)
          · rw [List.getElem?_eq_none (by rw [← HN.out]; omega), List.getElem?_eq_none (by rw [← HLN.out, ← HN.out]; omega)]
        clear hke hix
        go_wp2
        go_ret
        exact ⟨by rw [hF.out]; rfl, hbw.out⟩
  · have hF : Hid (R = false) := by show _ = _; rw [HR.out]; simp; intro e; exact hlen (by rw [e])
    have hne : (((l.length : Nat) : Int) != ((k.length : Nat) : Int)) = true := by simp; omega
    have hne2 : ¬ ((l.length : Int) = (k.length : Int)) := by omega
    go_enter Try.func28, Try.ntmps28
    go_wp2
    go_ret
    exact ⟨by rw [hF.out]; rfl, Below.refl _ _⟩

set_option maxRecDepth 100000 in
set_option maxHeartbeats 4000000 in
theorem sameE_any (l k : List Bool) (v1 v2 : Value) (w : World) (h1 : EAt w w.heap.size v1 l) (h2 : EAt w w.heap.size v2 k) (hl : l.length ≤ 1000) :
    Calls Try.prog 59 #[v1, v2] w fun e w' => e = .returned (.bool (decide (l = k))) ∧ Below w.heap.size w w' := by
  obtain ⟨ao, cap, rfl, hc1, hc2, hrow⟩ := h1
  obtain ⟨ao2, cap2, rfl, hd1, hd2, hrow2⟩ := h2
  unfold maxLen at hc2 hd2
  obtain ⟨R, hR⟩ : ∃ R, R = decide (l = k) := ⟨_, rfl⟩
  have HR : Hid (R = decide (l = k)) := hR
  rw [← hR]
  clear hR
  have HROW : Hid (∀ i, i < l.length → ∃ g o, ao = some ⟨g, o, none⟩ ∧ g < w.heap.size ∧ w.cell? ⟨g, o + i, none⟩ = some (.bool (en l i))) := hrow
  have HROW2 : Hid (∀ i, i < k.length → ∃ g o, ao2 = some ⟨g, o, none⟩ ∧ g < w.heap.size ∧ w.cell? ⟨g, o + i, none⟩ = some (.bool (en k i))) := hrow2
  clear hrow hrow2
  by_cases hlen : l.length = k.length
  · have HLN : Hid (l.length = k.length) := hlen
    obtain ⟨n, hn⟩ : ∃ n, n = l.length := ⟨_, rfl⟩
    have HN : Hid (n = l.length) := hn
    rw [← hlen, ← hn]
    rw [← hlen, ← hn] at hd1
    rw [← hn] at hc1 hl
    have hne : ((n : Int) != (n : Int)) = false := by simp
    clear hlen hn
    go_enter Try.func59, Try.ntmps59
    go_wp2
    go_loopw [13] (fun vi wr => ∃ i : Nat, i ≤ n ∧ vi = .int .i64 (i : Int) ∧ Hid (∀ j, j < i → l[j]? = k[j]?) ∧ Hid (Below w.heap.size w wr))
      (fun vi _ => n - (intOf vi).toNat)
    case atStart => exact ⟨0, by omega, rfl, fun j hj => by omega, Below.refl _ _⟩
    case round =>
      obtain ⟨i, hk, rfl, hix, hbw⟩ := hrel
      by_cases hlt : i < n
      · have hil : i < l.length := by rw [← HN.out]; exact hlt
        have hik : i < k.length := by rw [← HLN.out, ← HN.out]; exact hlt
        have hx := en_at hil
        have hy := en_at hik
        obtain ⟨g, o, rfl, hgB, hy1⟩ := HROW.out i hil
        obtain ⟨g2, o2, rfl, hgB2, hy2⟩ := HROW2.out i hik
        have e1 := (hbw.out.cell (p := ⟨g, o + i, none⟩) hgB).trans hy1
        have e2 := (hbw.out.cell (p := ⟨g2, o2 + i, none⟩) hgB2).trans hy2
        generalize en l i = x at hx hy1 e1
        generalize en k i = y at hy hy2 e2
        have HD : Hid (x ≠ y → R = false) := fun h => by
          show _ = _
          rw [HR.out]
          simp
          intro e
          rw [e, hy] at hx
          exact h (Option.some.inj hx).symm
        have HS : Hid (x = y → ∀ j, j < i + 1 → l[j]? = k[j]?) := fun h j hj => by
          by_cases e : j = i
          · rw [e, hx, hy, h]
          · exact hix.out j (by omega)
        clear hy1 hy2 hx hy hix
        have hlt' : (i : Int) < (n : Int) := by omega
        by_cases hxy : x = y
        · subst hxy
          have hN : Hid (∀ j, j < i + 1 → l[j]? = k[j]?) := HS.out rfl
          clear HD HS
          cases x
          all_goals
            go_upto_region 6 with fail
            go_quiet (fail)
            go_wp2
            go_roundw
            case rel => exact ⟨i + 1, by omega, by go_num, hN, below_drewT hbw.out⟩
            case measure => simp [intOf]; omega
        · have hF : Hid (R = false) := HD.out hxy
          clear HD HS
          cases x <;> cases y
          · exact absurd rfl hxy
          · clear hxy
            go_upto_region 6 with fail
            go_quiet (fail)
            go_wp2
            go_ret
            exact ⟨by rw [hF.out]; rfl, below_drewT hbw.out⟩
          · clear hxy
            go_upto_region 6 with fail
            go_quiet (fail)
            go_wp2
            go_ret
            exact ⟨by rw [hF.out]; rfl, below_drewT hbw.out⟩
          · exact absurd rfl hxy
      · have hke : i = n := by omega
        have hge : ¬ ((i : Int) < (n : Int)) := by omega
        have hF : Hid (R = true) := by
          show _ = _
          rw [HR.out]
          simp
          apply List.ext_getElem?
          intro j
          by_cases hj : j < n
          · exact hix.out j (by omega)
          · rw [List.getElem?_eq_none (by rw [← HN.out]; omega), List.getElem?_eq_none (by rw [← HLN.out, ← HN.out]; omega)]
        clear hke hix
        go_wp2
        go_ret
        exact ⟨by rw [hF.out]; rfl, hbw.out⟩
  · have hF : Hid (R = false) := by show _ = _; rw [HR.out]; simp; intro e; exact hlen (by rw [e])
    have hne : (((l.length : Nat) : Int) != ((k.length : Nat) : Int)) = true := by simp; omega
    have hne2 : ¬ ((l.length : Int) = (k.length : Int)) := by omega
    go_enter Try.func59, Try.ntmps59
    go_wp2
    go_ret
    exact ⟨by rw [hF.out]; rfl, Below.refl _ _⟩

set_option maxRecDepth 100000 in
set_option maxHeartbeats 4000000 in
theorem sameM_any (M N : List (List Int)) (E F : List Bool) (v1 v2 e1 e2 : Value) (w : World) (h1 : MAt w w.heap.size v1 M) (h2 : MAt w w.heap.size v2 N) (g1 : EAt w w.heap.size e1 E) (g2 : EAt w w.heap.size e2 F) (hl : M.length ≤ 1000) (hll : ∀ i, i < M.length → (rx M i).length ≤ 1000) (hlE : E.length ≤ 1000) :
    Calls Try.prog 24 #[.agg #[v1, e1], .agg #[v2, e2]] w fun e w' => e = .returned (.bool (decide (M = N ∧ E = F))) ∧ Below w.heap.size w w' := by
  have HM1 : Hid (MAt w w.heap.size v1 M) := h1
  have HM2 : Hid (MAt w w.heap.size v2 N) := h2
  have HE1 : Hid (EAt w w.heap.size e1 E) := g1
  have HE2 : Hid (EAt w w.heap.size e2 F) := g2
  obtain ⟨a1, c1, rfl, hm1, hm2, hrow⟩ := h1
  obtain ⟨a2, c2, rfl, hn1, hn2, hrow2⟩ := h2
  obtain ⟨b1, d1, rfl, _⟩ := g1
  obtain ⟨b2, d2, rfl, _⟩ := g2
  unfold maxLen at hm2 hn2
  have HROW : Hid (∀ i, i < M.length → ∃ g o u, a1 = some ⟨g, o, none⟩ ∧ g < w.heap.size ∧ w.cell? ⟨g, o + i, none⟩ = some u ∧ ZAt w w.heap.size u (rx M i)) := hrow
  have HROW2 : Hid (∀ i, i < N.length → ∃ g o u, a2 = some ⟨g, o, none⟩ ∧ g < w.heap.size ∧ w.cell? ⟨g, o + i, none⟩ = some u ∧ ZAt w w.heap.size u (rx N i)) := hrow2
  have HLL : Hid (∀ i, i < M.length → (rx M i).length ≤ 1000) := hll
  clear hrow hrow2 hll
  obtain ⟨R, hR⟩ : ∃ R, R = decide (M = N ∧ E = F) := ⟨_, rfl⟩
  have HR : Hid (R = decide (M = N ∧ E = F)) := hR
  rw [← hR]
  clear hR
  obtain ⟨W1, hW1⟩ : ∃ W, W = (w.alloc (.cells #[.slice a1 M.length c1, .slice b1 E.length d1] 30)).alloc (.cells #[.slice a2 N.length c2, .slice b2 F.length d2] 30) := ⟨_, rfl⟩
  have hB1 : Below w.heap.size w W1 := by rw [hW1]; exact ((Below.refl _ w).alloc (Nat.le_refl _) _).alloc (by simp) _
  have q0 : W1.cell? ⟨w.heap.size, 0, none⟩ = some (.slice a1 M.length c1) := by rw [hW1]; go_simp
  have q1 : W1.cell? ⟨w.heap.size, 1, none⟩ = some (.slice b1 E.length d1) := by rw [hW1]; go_simp
  have o0 : W1.cell? ⟨w.heap.size + 1, 0, none⟩ = some (.slice a2 N.length c2) := by rw [hW1]; go_simp
  have o1 : W1.cell? ⟨w.heap.size + 1, 1, none⟩ = some (.slice b2 F.length d2) := by rw [hW1]; go_simp
  have hl1 : w.heap.size + 1 < W1.heap.size := by rw [hW1]; simp
  have hl0 : w.heap.size < W1.heap.size := by omega
  have C2 : Hid (∀ W, Below w.heap.size w W → Calls Try.prog 59 #[.slice b1 E.length d1, .slice b2 F.length d2] W fun e w' => e = .returned (.bool (decide (E = F))) ∧ Below W.heap.size W w') := fun W hW => sameE_any E F _ _ W (HE1.out.below hW) (HE2.out.below hW) hlE
  by_cases hlen : M.length = N.length
  · have HLN : Hid (M.length = N.length) := hlen
    obtain ⟨n, hn⟩ : ∃ n, n = M.length := ⟨_, rfl⟩
    have HN : Hid (n = M.length) := hn
    rw [← hlen, ← hn] at o0
    rw [← hn] at q0
    rw [← hlen, ← hn] at hW1 hn1
    rw [← hn] at hm1 hl
    rw [← hlen, ← hn]
    have hne : ((n : Int) != (n : Int)) = false := by simp
    clear hlen hn
    go_enter Try.func24, Try.ntmps24
    go_wp2_with fail
    rw [← hW1]
    clear hW1
    refine (C2.out _ hB1).mono ?_
    rintro e w2 ⟨rfl, hb2⟩
    have hB2 : Below w.heap.size w w2 := hB1.trans (hb2.mono hB1.size)
    replace q0 := (hb2.cell (p := ⟨w.heap.size, 0, none⟩) hl0).trans q0
    replace o0 := (hb2.cell (p := ⟨w.heap.size + 1, 0, none⟩) hl1).trans o0
    have hl2 : w.heap.size + 1 < w2.heap.size := by have := hb2.size; omega
    clear hb2 q1 o1
    by_cases hEF : E = F
    · have hd : decide (E = F) = true := by simpa using hEF
      rw [hd]
      have HEF : Hid (E = F) := hEF
      have Q0 : Hid (w2.cell? ⟨w.heap.size, 0, none⟩ = some (.slice a1 n c1) ∧ w2.cell? ⟨w.heap.size + 1, 0, none⟩ = some (.slice a2 n c2)) := ⟨q0, o0⟩
      clear hd hEF
      go_wp2
      clear q0 o0
      go_loopw [24] (fun vi wr => ∃ i : Nat, i ≤ n ∧ vi = .int .i64 (i : Int) ∧ Hid (∀ j, j < i → rx M j = rx N j) ∧ Hid (Below w2.heap.size w2 wr))
        (fun vi _ => n - (intOf vi).toNat)
      case atStart => exact ⟨0, by omega, rfl, fun j hj => by omega, Below.refl _ _⟩
      case round =>
        obtain ⟨i, hin, rfl, hix, hbw⟩ := hrel
        have hbr : Below w.heap.size w wr := hB2.trans (hbw.out.mono hB2.size)
        by_cases hlt : i < n
        · have hlt' : (i : Int) < (n : Int) := by omega
          obtain ⟨g, o, u, hA, hgB, k1, s1⟩ := HROW.out i (by rw [← HN.out]; exact hlt)
          obtain ⟨g2, o2, u2, hB, hgB2, k2, s2⟩ := HROW2.out i (by rw [← HLN.out, ← HN.out]; exact hlt)
          subst hA hB
          have e1 := (hbr.cell (p := ⟨g, o + i, none⟩) hgB).trans k1
          have e2 := (hbr.cell (p := ⟨g2, o2 + i, none⟩) hgB2).trans k2
          have q0 := (hbw.out.cell (p := ⟨w.heap.size, 0, none⟩) (by show w.heap.size < _; omega)).trans Q0.out.1
          have o0 := (hbw.out.cell (p := ⟨w.heap.size + 1, 0, none⟩) hl2).trans Q0.out.2
          have HS1 : Hid (ZAt wr.drew wr.drew.heap.size u (rx M i)) := (s1.below hbr).below ((Below.refl _ wr).drew)
          have HS2 : Hid (ZAt wr.drew wr.drew.heap.size u2 (rx N i)) := (s2.below hbr).below ((Below.refl _ wr).drew)
          obtain ⟨su, cu, rfl, _⟩ := s1
          obtain ⟨su2, cu2, rfl, _⟩ := s2
          have hzw : w.heap.size + 1 < wr.heap.size := by have := hbw.out.size; omega
          have CS : Hid (Calls Try.prog 28 #[.slice su (rx M i).length cu, .slice su2 (rx N i).length cu2] wr.drew fun e w' => e = .returned (.bool (decide (rx M i = rx N i))) ∧ Below wr.drew.heap.size wr.drew w') := sameZ_any (rx M i) (rx N i) _ _ wr.drew HS1.out HS2.out (HLL.out i (by rw [← HN.out]; exact hlt))
          have HD : Hid (rx M i ≠ rx N i → R = false) := fun h => by
            show _ = _
            rw [HR.out]
            simp
            intro e
            exact absurd (by rw [e]) h
          have HS : Hid (rx M i = rx N i → ∀ j, j < i + 1 → rx M j = rx N j) := fun h j hj => by
            by_cases e : j = i
            · rw [e]; exact h
            · exact hix.out j (by omega)
          clear k1 k2 hix HS1 HS2
          by_cases hxy : rx M i = rx N i
          · have hd : decide (rx M i = rx N i) = true := by simpa using hxy
            rw [hd] at CS
            have hN : Hid (∀ j, j < i + 1 → rx M j = rx N j) := HS.out hxy
            clear HD HS hxy hd
            go_wp2_with fail
            go_region_with (go_at_call 28; refine CS.out.mono ?_; rintro e w5 ⟨rfl, hb5⟩; have hbw5 : Below w2.heap.size w2 w5 := hbw.out.drew.trans (hb5.mono hbw.out.size))
            all_goals
              go_wp2
              go_roundw
              case rel => exact ⟨i + 1, by omega, by go_num, hN, hbw5⟩
              case measure => simp [intOf]; omega
          · have hd : decide (rx M i = rx N i) = false := by simpa using hxy
            rw [hd] at CS
            have hF : Hid (R = false) := HD.out hxy
            clear HD HS hxy hd
            go_wp2_with fail
            go_region_with (go_at_call 28; refine CS.out.mono ?_; rintro e w5 ⟨rfl, hb5⟩; have hbw5 : Below w2.heap.size w2 w5 := hbw.out.drew.trans (hb5.mono hbw.out.size))
            all_goals
              go_wp2
              go_ret
              exact ⟨by rw [hF.out]; rfl, hB2.trans (hbw5.mono hB2.size)⟩
        · have hke : i = n := by omega
          have hge : ¬ ((i : Int) < (n : Int)) := by omega
          have hF : Hid (R = true) := by
            show _ = _
            rw [HR.out]
            simp only [decide_eq_true_eq]
            refine ⟨?_, HEF.out⟩
            apply List.ext_getElem HLN.out
            intro j j1 j2
            have h := hix.out j (by rw [hke, HN.out]; exact j1)
            unfold rx at h
            rw [List.getD, List.getD, List.getElem?_eq_getElem j1, List.getElem?_eq_getElem j2] at h
            exact h
          clear hke hix
          go_wp2
          go_ret
          exact ⟨by rw [hF.out]; rfl, hbr⟩
    · have hd : decide (E = F) = false := by simpa using hEF
      rw [hd]
      have hF : Hid (R = false) := by show _ = _; rw [HR.out]; simp; intro _ e; exact hEF e
      clear hd hEF
      go_wp2
      go_ret
      exact ⟨by rw [hF.out]; rfl, hB2⟩
  · have hF : Hid (R = false) := by show _ = _; rw [HR.out]; simp; intro e; exact absurd (by rw [e]) hlen
    have hne : (((M.length : Nat) : Int) != ((N.length : Nat) : Int)) = true := by simp; omega
    have hne2 : ¬ ((M.length : Int) = (N.length : Int)) := by omega
    go_enter Try.func24, Try.ntmps24
    go_wp2
    rw [← hW1]
    go_ret
    exact ⟨by rw [hF.out]; rfl, hB1⟩

end Go.Proofs.Ytecgjhnihagleaa
