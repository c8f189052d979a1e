/- The program's GoodMachine: slices.Min and slices.Max of a row. -/
import Derived.Test.YtecgjhnihagleaaXd
namespace Go.Proofs.Ytecgjhnihagleaa
open Go.RowKit Plain Mch

set_option maxRecDepth 100000 in
set_option maxHeartbeats 4000000 in
theorem sMin_any (l : List Int) (v : Value) (w : World) (hT : ZAt w w.heap.size v l) (h0 : 0 < l.length) (hl : l.length ≤ 1048576) :
    Calls Try.prog 66 #[v] w fun e w' => (∃ r, e = .returned (.int .i64 r) ∧ r ∈ l ∧ ∀ x ∈ l, r ≤ x) ∧ w' = w := by
  obtain ⟨ao, cap, rfl, hlc, hcm, hrow⟩ := hT
  have HROW : Hid (∀ i (x : Int), l[i]? = some x → ∃ g o, ao = some ⟨g, o, none⟩ ∧ g < w.heap.size ∧ w.cell? ⟨g, o + i, none⟩ = some (.int .i64 x)) := hrow
  clear hrow
  obtain ⟨x0, hx0⟩ : ∃ x, l[0]? = some x := ⟨_, List.getElem?_eq_getElem h0⟩
  obtain ⟨g, o, rfl, hg, c0⟩ := HROW.out 0 x0 hx0
  rw [Nat.add_zero] at c0
  have HS : Hid (∀ i (x : Int), l[i]? = some x → w.cell? ⟨g, o + i, none⟩ = some (.int .i64 x)) := fun i x hi => by
    obtain ⟨g', o', e, _, c⟩ := HROW.out i x hi
    simp at e
    obtain ⟨rfl, rfl⟩ := e
    exact c
  have H0 : Hid (x0 ∈ l.take 1 ∧ ∀ x ∈ l.take 1, x0 ≤ x) := by
    show _ ∧ _
    cases l with
    | nil => simp at h0
    | cons a l => simp at hx0; subst hx0; simp
  have h0' : ¬ ((l.length : Int) < 1) := by omega
  clear HROW hx0
  go_enter Try.func66, Try.ntmps66
  go_wp2
  go_loopw [3, 4] (fun vm vi wr => ∃ (i : Nat) (m : Int), 1 ≤ i ∧ i ≤ l.length ∧ vi = .int .i64 (i : Int) ∧ vm = .int .i64 m ∧ Hid (m ∈ l.take i ∧ ∀ x ∈ l.take i, m ≤ x) ∧ wr = w)
    (fun _ vi _ => l.length - (intOf vi).toNat)
  case atStart => exact ⟨1, x0, by omega, by omega, rfl, rfl, H0, rfl⟩
  case round =>
    obtain ⟨i, m, hi1, hi, rfl, rfl, hm, rfl⟩ := hrel
    clear H0 c0
    by_cases hlt : i < l.length
    · have hlt' : (i : Int) < (l.length : Int) := by omega
      obtain ⟨x, hx⟩ : ∃ x, l[i]? = some x := ⟨_, List.getElem?_eq_getElem hlt⟩
      have c := HS.out i x hx
      have hN : Hid ((if x < m then x else m) ∈ l.take (i + 1) ∧ ∀ y ∈ l.take (i + 1), (if x < m then x else m) ≤ y) := by
        show _ ∧ _
        have e : l.take (i + 1) = l.take i ++ [x] := by rw [List.take_add_one, hx]; rfl
        rw [e]
        obtain ⟨k1, k2⟩ := hm.out
        by_cases hxm : x < m
        · rw [if_pos hxm]
          refine ⟨by simp, fun y hy => ?_⟩
          rw [List.mem_append] at hy
          rcases hy with hy | hy
          · have := k2 y hy; omega
          · simp at hy; omega
        · rw [if_neg hxm]
          refine ⟨by rw [List.mem_append]; exact .inl k1, fun y hy => ?_⟩
          rw [List.mem_append] at hy
          rcases hy with hy | hy
          · exact k2 y hy
          · simp at hy; omega
      clear hm hx
      obtain ⟨q, hq⟩ : ∃ q, q = (if x < m then x else m) := ⟨_, rfl⟩
      rw [← hq] at hN
      go_wp2
      go_roundw
      case rel => exact ⟨i + 1, q, by omega, by omega, by go_num, by rw [hq], hN, by trivial⟩
      case measure => simp [intOf]; omega
    · have hke : i = l.length := by omega
      subst hke
      have hge : ¬ ((l.length : Int) < (l.length : Int)) := by omega
      have hm2 : Hid (m ∈ l ∧ ∀ x ∈ l, m ≤ x) := by
        have h := hm.out
        rw [List.take_length] at h
        exact h
      clear hm
      go_wp2
      go_ret
      exact ⟨⟨m, rfl, hm2.out⟩, rfl⟩

set_option maxRecDepth 100000 in
set_option maxHeartbeats 4000000 in
theorem sMax_any (l : List Int) (v : Value) (w : World) (hT : ZAt w w.heap.size v l) (h0 : 0 < l.length) (hl : l.length ≤ 1048576) :
    Calls Try.prog 67 #[v] w fun e w' => (∃ r, e = .returned (.int .i64 r) ∧ r ∈ l ∧ ∀ x ∈ l, x ≤ r) ∧ w' = w := by
  obtain ⟨ao, cap, rfl, hlc, hcm, hrow⟩ := hT
  have HROW : Hid (∀ i (x : Int), l[i]? = some x → ∃ g o, ao = some ⟨g, o, none⟩ ∧ g < w.heap.size ∧ w.cell? ⟨g, o + i, none⟩ = some (.int .i64 x)) := hrow
  clear hrow
  obtain ⟨x0, hx0⟩ : ∃ x, l[0]? = some x := ⟨_, List.getElem?_eq_getElem h0⟩
  obtain ⟨g, o, rfl, hg, c0⟩ := HROW.out 0 x0 hx0
  rw [Nat.add_zero] at c0
  have HS : Hid (∀ i (x : Int), l[i]? = some x → w.cell? ⟨g, o + i, none⟩ = some (.int .i64 x)) := fun i x hi => by
    obtain ⟨g', o', e, _, c⟩ := HROW.out i x hi
    simp at e
    obtain ⟨rfl, rfl⟩ := e
    exact c
  have H0 : Hid (x0 ∈ l.take 1 ∧ ∀ x ∈ l.take 1, x ≤ x0) := by
    show _ ∧ _
    cases l with
    | nil => simp at h0
    | cons a l => simp at hx0; subst hx0; simp
  have h0' : ¬ ((l.length : Int) < 1) := by omega
  clear HROW hx0
  go_enter Try.func67, Try.ntmps67
  go_wp2
  go_loopw [3, 4] (fun vm vi wr => ∃ (i : Nat) (m : Int), 1 ≤ i ∧ i ≤ l.length ∧ vi = .int .i64 (i : Int) ∧ vm = .int .i64 m ∧ Hid (m ∈ l.take i ∧ ∀ x ∈ l.take i, x ≤ m) ∧ wr = w)
    (fun _ vi _ => l.length - (intOf vi).toNat)
  case atStart => exact ⟨1, x0, by omega, by omega, rfl, rfl, H0, rfl⟩
  case round =>
    obtain ⟨i, m, hi1, hi, rfl, rfl, hm, rfl⟩ := hrel
    clear H0 c0
    by_cases hlt : i < l.length
    · have hlt' : (i : Int) < (l.length : Int) := by omega
      obtain ⟨x, hx⟩ : ∃ x, l[i]? = some x := ⟨_, List.getElem?_eq_getElem hlt⟩
      have c := HS.out i x hx
      have hN : Hid ((if m < x then x else m) ∈ l.take (i + 1) ∧ ∀ y ∈ l.take (i + 1), y ≤ (if m < x then x else m)) := by
        show _ ∧ _
        have e : l.take (i + 1) = l.take i ++ [x] := by rw [List.take_add_one, hx]; rfl
        rw [e]
        obtain ⟨k1, k2⟩ := hm.out
        by_cases hxm : m < x
        · rw [if_pos hxm]
          refine ⟨by simp, fun y hy => ?_⟩
          rw [List.mem_append] at hy
          rcases hy with hy | hy
          · have := k2 y hy; omega
          · simp at hy; omega
        · rw [if_neg hxm]
          refine ⟨by rw [List.mem_append]; exact .inl k1, fun y hy => ?_⟩
          rw [List.mem_append] at hy
          rcases hy with hy | hy
          · exact k2 y hy
          · simp at hy; omega
      clear hm hx
      obtain ⟨q, hq⟩ : ∃ q, q = (if m < x then x else m) := ⟨_, rfl⟩
      rw [← hq] at hN
      go_wp2
      go_roundw
      case rel => exact ⟨i + 1, q, by omega, by omega, by go_num, by rw [hq], hN, by trivial⟩
      case measure => simp [intOf]; omega
    · have hke : i = l.length := by omega
      subst hke
      have hge : ¬ ((l.length : Int) < (l.length : Int)) := by omega
      have hm2 : Hid (m ∈ l ∧ ∀ x ∈ l, x ≤ m) := by
        have h := hm.out
        rw [List.take_length] at h
        exact h
      clear hm
      go_wp2
      go_ret
      exact ⟨⟨m, rfl, hm2.out⟩, rfl⟩

set_option maxRecDepth 100000 in
set_option maxHeartbeats 4000000 in
theorem implGoodM (M : List (List Int)) (E : List Bool) (v e : Value) (w : World) (hM : MAt w w.heap.size v M) (hE : EAt w w.heap.size e E) :
    Calls Try.prog 33 #[.agg #[v, e]] w fun x w' => x = .returned (.bool (gm M E)) ∧ Below w.heap.size w w' := by
  have HM : Hid (MAt w w.heap.size v M) := hM
  obtain ⟨ao, cap, rfl, hlc, hcm, _⟩ := hM
  obtain ⟨ae, cape, rfl, hlc2, hcm2, _⟩ := hE
  unfold maxLen at hcm hcm2
  obtain ⟨W1, hW1⟩ : ∃ W, W = w.alloc (.cells #[.slice ao M.length cap, .slice ae E.length cape] 30) := ⟨_, rfl⟩
  have hB1 : Below w.heap.size w W1 := by rw [hW1]; exact (Below.refl _ w).alloc (Nat.le_refl _) _
  have q0 : W1.cell? ⟨w.heap.size, 0, none⟩ = some (.slice ao M.length cap) := by rw [hW1]; go_simp
  have q1 : W1.cell? ⟨w.heap.size, 1, none⟩ = some (.slice ae E.length cape) := by rw [hW1]; go_simp
  have hl1 : w.heap.size < W1.heap.size := by rw [hW1]; simp
  obtain ⟨G, hG⟩ : ∃ G, G = gm M E := ⟨_, rfl⟩
  rw [← hG]
  have HG : Hid (G = gm M E) := hG
  clear hG
  by_cases h1 : M.length < 1
  · have hF : Hid (G = false) := by
      show _ = _
      rw [HG.out]
      cases hg : gm M E with
      | false => rfl
      | true => have := (gm_iff.1 hg).1; omega
    have d1 : (M.length : Int) < 1 := by omega
    go_enter Try.func33, Try.ntmps33
    go_upto_region 1 with fail
    rw [← hW1]
    clear hW1
    go_wp2
    go_ret
    exact ⟨by rw [hF.out]; rfl, hB1⟩
  have d1 : decide ((M.length : Int) < 1) = false := by simp; omega
  by_cases h2 : 12 < M.length
  · have hF : Hid (G = false) := by
      show _ = _
      rw [HG.out]
      cases hg : gm M E with
      | false => rfl
      | true => have := (gm_iff.1 hg).1; omega
    have d2 : (12 : Int) < (M.length : Int) := by omega
    go_enter Try.func33, Try.ntmps33
    go_upto_region 1 with fail
    rw [← hW1]
    clear hW1
    go_wp2
    go_ret
    exact ⟨by rw [hF.out]; rfl, hB1⟩
  have d2 : decide ((12 : Int) < (M.length : Int)) = false := by simp; omega
  by_cases h3 : E.length = M.length
  · have d3 : ((E.length : Int) != (M.length : Int)) = false := by simp; omega
    have HROW : Hid (∀ i, i < M.length → ∃ g o u, ao = some ⟨g, o, none⟩ ∧ g < W1.heap.size ∧ W1.cell? ⟨g, o + i, none⟩ = some u ∧ ZAt W1 W1.heap.size u (rx M i)) := by
      obtain ⟨ao', cap', hv, _, _, hrow⟩ := HM.out.below hB1
      simp only [Value.slice.injEq] at hv
      obtain ⟨rfl, _, rfl⟩ := hv
      exact hrow
    have H3 : Hid (E.length = M.length) := h3
    clear h3
    go_enter Try.func33, Try.ntmps33
    go_upto_region 1 with fail
    rw [← hW1]
    clear hW1
    go_wp2
    go_loopw [25] (fun vi wr => ∃ i : Nat, i ≤ M.length ∧ vi = .int .i64 (i : Int) ∧ Hid (∀ j, j < i → okR M.length (rx M j) = true) ∧ wr = W1)
      (fun vi _ => M.length - (intOf vi).toNat)
    case atStart => exact ⟨0, by omega, rfl, fun j hj => by omega, rfl⟩
    case round =>
      obtain ⟨i, hi, rfl, hall, rfl⟩ := hrel
      by_cases hlt : i < M.length
      · have hlt' : (i : Int) < (M.length : Int) := by omega
        obtain ⟨g, o, u, rfl, hg, hc, hs⟩ := HROW.out i hlt
        have HS : Hid (ZAt wr wr.heap.size u (rx M i)) := hs
        obtain ⟨su, cu, rfl, hlu, hcu, _⟩ := hs
        unfold maxLen at hcu
        have bad : Hid (okR M.length (rx M i) = false → G = false) := fun hb => by
          rw [HG.out]
          cases hg : gm M E with
          | false => rfl
          | true => have h := (gm_iff.1 hg).2 i hlt; rw [hb] at h; cases h
        by_cases k3 : (rx M i).length = 3
        · have k3' : (((rx M i).length : Int) != 3) = false := by simp; omega
          have K3 : Hid ((rx M i).length = 3) := k3
          clear k3
          go_wp2_with fail
          refine (sMin_any (rx M i) _ _ HS.out (by have := K3.out; omega) (by have := K3.out; omega)).mono ?_
          rintro e w2 ⟨⟨r, rfl, hr1, hr2⟩, rfl⟩
          have HR : Hid (r ∈ rx M i ∧ ∀ x ∈ rx M i, r ≤ x) := ⟨hr1, hr2⟩
          clear hr1 hr2
          by_cases k4 : r < 0
          · have hF : Hid (G = false) := bad.out (by
              cases ho : okR M.length (rx M i) with
              | false => rfl
              | true => have := ((okR_iff.1 ho).2 r HR.out.1).1; omega)
            clear bad HR
            go_wp2
            go_ret
            exact ⟨by rw [hF.out]; rfl, hB1⟩
          · have k4' : decide (r < 0) = false := by simpa using k4
            go_wp2_with fail
            refine (sMax_any (rx M i) _ _ HS.out (by have := K3.out; omega) (by have := K3.out; omega)).mono ?_
            rintro e w2 ⟨⟨r2, rfl, hr1, hr2⟩, rfl⟩
            have HR2 : Hid (r2 ∈ rx M i ∧ ∀ x ∈ rx M i, x ≤ r2) := ⟨hr1, hr2⟩
            clear hr1 hr2
            by_cases k5 : (M.length : Int) ≤ r2
            · have hF : Hid (G = false) := bad.out (by
                cases ho : okR M.length (rx M i) with
                | false => rfl
                | true => have := ((okR_iff.1 ho).2 r2 HR2.out.1).2; omega)
              clear bad HR HR2
              go_wp2
              go_ret
              exact ⟨by rw [hF.out]; rfl, hB1⟩
            · have k5' : decide ((M.length : Int) ≤ r2) = false := by simpa using k5
              have hall2 : Hid (∀ j, j < i + 1 → okR M.length (rx M j) = true) := fun j hj => by
                by_cases hji : j = i
                · rw [hji]
                  refine okR_iff.2 ⟨K3.out, fun x hx => ?_⟩
                  have a1 := HR.out.2 x hx
                  have a2 := HR2.out.2 x hx
                  omega
                · exact hall.out j (by omega)
              clear bad HR HR2 hall
              go_wp2
              go_roundw
              case rel => exact ⟨i + 1, by omega, by go_num, hall2, by trivial⟩
              case measure => simp [intOf]; omega
        · have k3' : (((rx M i).length : Int) != 3) = true := by simp; omega
          have hF : Hid (G = false) := bad.out (by
            cases ho : okR M.length (rx M i) with
            | false => rfl
            | true => exact absurd (okR_iff.1 ho).1 k3)
          clear bad
          go_wp2
          go_ret
          exact ⟨by rw [hF.out]; rfl, hB1⟩
      · have hke : i = M.length := by omega
        subst hke
        have hge : ¬ ((M.length : Int) < (M.length : Int)) := by omega
        have hT : Hid (G = true) := by
          show _ = _
          rw [HG.out]
          exact gm_iff.2 ⟨⟨by omega, by omega, H3.out⟩, hall.out⟩
        clear hall
        go_wp2
        go_ret
        exact ⟨by rw [hT.out]; rfl, hB1⟩
  · have d3 : ((E.length : Int) != (M.length : Int)) = true := by simp; omega
    have hF : Hid (G = false) := by
      show _ = _
      rw [HG.out]
      cases hg : gm M E with
      | false => rfl
      | true => exact absurd (gm_iff.1 hg).1.2.2 h3
    go_enter Try.func33, Try.ntmps33
    go_upto_region 1 with fail
    rw [← hW1]
    clear hW1
    go_wp2
    go_ret
    exact ⟨by rw [hF.out]; rfl, hB1⟩

end Go.Proofs.Ytecgjhnihagleaa
