/- The program's patternLevels, topicLevels, bothPatternLevels, levelsCover. -/
import Derived.Test.YtndeikgkncfmbaaDoorToI
namespace Go.Proofs.YtndeikgkncfmbaaDoor
open Go.RowKit Plain Tpc

/-- the levels of a good pattern, of a good topic; none of others -/
def Tpc.pls (s : ByteArray) : List ByteArray := if gp s then spl s else []
def Tpc.tls (s : ByteArray) : List ByteArray := if gt s then spl s else []

theorem StAt.nil (w : World) (B : Nat) : StAt w B (.slice none 0 0) [] := ⟨none, 0, rfl, by simp, by unfold maxLen; omega, fun i hi => by simp at hi⟩

theorem Tpc.okP_prog (L : List ByteArray) (k : Nat) : okP L k = ((isS (lq L k) || lv (lq L k)) && !(isH (lq L k) && !decide (k + 1 = L.length))) := by
  unfold okP isS
  rcases hl : lv (lq L k) with _ | _
  · rcases hp : isP (lq L k) with _ | _
    · cases isH (lq L k) <;> cases decide (k + 1 = L.length) <;> rfl
    · rcases hh : isH (lq L k) with _ | _
      · rfl
      · rw [isP_iff] at hp
        rw [isH_iff, hp] at hh
        exact absurd hh (by decide)
  · rw [lv_P hl, lv_H hl]
    rfl

set_option maxRecDepth 100000 in
set_option maxHeartbeats 4000000 in
theorem patternLevels_any (s : ByteArray) (w : World) (hs : s.size ≤ 1048576) :
    Calls Tryd.prog 40 #[.string s] w fun e w' => (∃ r, e = .returned (.tuple #[r, .bool (gp s)]) ∧ StAt w' w'.heap.size r (pls s)) ∧ Below w.heap.size w w' := by
  by_cases hlong : 41 < s.size
  · have hg : gp s = false := gp_long hlong
    have hpl : pls s = [] := by unfold pls; rw [hg]; rfl
    rw [hg, hpl]
    have d : decide ((41 : Int) < (s.size : Int)) = true := by simp; omega
    clear hlong hg hpl
    go_enter Tryd.func40, Tryd.ntmps40
    go_wp2
    go_ret2
    exact ⟨⟨_, rfl, StAt.nil _ _⟩, Below.refl _ _⟩
  have d41 : decide ((41 : Int) < (s.size : Int)) = false := by simp; omega
  have HSZ : Hid (∀ i, i < (spl s).length → (lq (spl s) i).size ≤ 1048576) := fun i hi => by have := lq_size s i hi; omega
  have HLE : (spl s).length ≤ 1048577 := by have := spl_le s; omega
  have C : Hid (Calls Tryd.prog 64 #[.string s, .string ⟨#[47]⟩] w fun e w' => (∃ r, e = .returned r ∧ StAt w' w'.heap.size r (spl s)) ∧ Below w.heap.size w w') := split_any s w hs
  obtain ⟨R, hR⟩ : ∃ R, R = gp s := ⟨_, rfl⟩
  obtain ⟨Q, hQ⟩ : ∃ Q, Q = pls s := ⟨_, rfl⟩
  rw [← hR, ← hQ]
  unfold pls at hQ
  rw [← hR] at hQ
  unfold gp at hR
  generalize spl s = L at C HSZ hR HLE hQ
  have HQ : Hid (Q = if R = true then L else []) := hQ
  have HR : Hid (R = gpL L) := hR
  clear hR hQ hlong
  go_enter Tryd.func40, Tryd.ntmps40
  go_wp2_with fail
  refine C.out.mono ?_
  rintro e w2 ⟨⟨r, rfl, hrow⟩, hB2⟩
  have HA : Hid (StAt w2 w2.heap.size r L) := hrow
  obtain ⟨ao, cap, rfl, hlc, hcm, hro⟩ := hrow
  have hcm' : cap ≤ 9223372036854775807 := by unfold maxLen at hcm; omega
  have HROW : Hid (∀ i, i < L.length → ∃ g o, ao = some ⟨g, o, none⟩ ∧ g < w2.heap.size ∧ w2.cell? ⟨g, o + i, none⟩ = some (.string (lq L i))) := hro
  clear hro C
  by_cases h6 : 6 < L.length
  · have d6 : decide ((6 : Int) < (L.length : Int)) = true := by simp; omega
    have hF : Hid (R = false) := HR.out.trans (by rw [Bool.eq_false_iff]; intro hh; have := (gpL_at hh).2; omega)
    have hN : Hid (Q = []) := by show _ = _; rw [HQ.out, hF.out]; rfl
    clear h6 HR HQ
    go_wp2
    go_ret2
    exact ⟨⟨_, by rw [hF.out]; rfl, by rw [hN.out]; exact StAt.nil _ _⟩, hB2⟩
  have d6 : decide ((6 : Int) < (L.length : Int)) = false := by simp; omega
  have H6 : L.length ≤ 6 := by omega
  clear h6
  go_wp2
  go_loopw [18] (fun vi wr => ∃ (k : Nat), k ≤ L.length ∧ vi = .int .i64 (k : Int) ∧ Hid (∀ j, j < k → okP L j = true) ∧ wr = w2)
    (fun vi _ => L.length - (intOf vi).toNat)
  case atStart => exact ⟨0, by omega, rfl, fun j hj => by omega, rfl⟩
  case round =>
    obtain ⟨k, hk, rfl, hall, rfl⟩ := hrel
    by_cases hlt : k < L.length
    · have hltI : (k : Int) < (L.length : Int) := by omega
      obtain ⟨g, o, rfl, hg, c⟩ := HROW.out k hlt
      have HS9 := HSZ.out k hlt
      have hOK := okP_prog L k
      obtain ⟨x, hx⟩ : ∃ x, lq L k = x := ⟨_, rfl⟩
      rw [hx] at c HS9 hOK
      obtain ⟨last, hlast⟩ : ∃ b, b = decide (k + 1 = L.length) := ⟨_, rfl⟩
      rw [← hlast] at hOK
      have HOK : Hid (okP L k = ((isS x || lv x) && !(isH x && !last))) := hOK
      have dl : ((k : Int) == (L.length : Int) - 1) = last := by
        rw [hlast, Bool.eq_iff_iff]
        simp
        omega
      clear hx hOK hlast
      have hno : Hid (okP L k = false → R = false) := fun h => HR.out.trans (gpL_no hlt h)
      have hyes : Hid (okP L k = true → ∀ j, j < k + 1 → okP L j = true) := fun h j hj => by
        by_cases hjk : j = k
        · rw [hjk]; exact h
        · exact hall.out j (by omega)
      clear hall
      have CL : Hid (∀ W, Calls Tryd.prog 65 #[.string x] W fun e w' => e = .returned (.bool (isS x || lv x)) ∧ w' = W) := fun W => isLevel_any x W HS9
      generalize (isS x || lv x) = a at CL HOK
      go_wp2_with fail
      refine (CL.out _).mono ?_
      rintro e w1 ⟨rfl, rfl⟩
      cases a with
      | false =>
        have hF : Hid (R = false) := hno.out (by rw [HOK.out]; rfl)
        have hN : Hid (Q = []) := by show _ = _; rw [HQ.out, hF.out]; rfl
        clear hyes hno
        go_wp2
        go_ret2
        exact ⟨⟨_, by rw [hF.out]; rfl, by rw [hN.out]; exact StAt.nil _ _⟩, hB2⟩
      | true =>
        rcases hh : isH x with _ | _
        · have eh : (x.toList == [35]) = false := hh
          have hall2 : Hid (∀ j, j < k + 1 → okP L j = true) := hyes.out (by rw [HOK.out, hh]; rfl)
          clear hyes hno hh
          go_wp2
          go_roundw
          case rel => exact ⟨k + 1, by omega, by go_num, hall2, trivial⟩
          case measure => simp [intOf]; omega
        · have eh : (x.toList == [35]) = true := hh
          cases last with
          | true =>
            have hall2 : Hid (∀ j, j < k + 1 → okP L j = true) := hyes.out (by rw [HOK.out, hh]; rfl)
            clear hyes hno hh
            go_wp2
            go_roundw
            case rel => exact ⟨k + 1, by omega, by go_num, hall2, trivial⟩
            case measure => simp [intOf]; omega
          | false =>
            have hF : Hid (R = false) := hno.out (by rw [HOK.out, hh]; rfl)
            have hN : Hid (Q = []) := by show _ = _; rw [HQ.out, hF.out]; rfl
            clear hyes hno hh
            go_wp2
            go_ret2
            exact ⟨⟨_, by rw [hF.out]; rfl, by rw [hN.out]; exact StAt.nil _ _⟩, hB2⟩
    · have hge : ¬ ((k : Int) < (L.length : Int)) := by omega
      have hF : Hid (R = true) := HR.out.trans ((gpL_end (fun i hi => hall.out i (by omega))).trans (by simpa using H6))
      have hN : Hid (Q = L) := by show _ = _; rw [HQ.out, hF.out]; rfl
      clear hall
      go_wp2
      go_ret2
      exact ⟨⟨_, by rw [hF.out]; rfl, by rw [hN.out]; exact HA.out⟩, hB2⟩

theorem Tpc.any_lq (L : List ByteArray) (f : ByteArray → Bool) (h : ∀ i, i < L.length → f (lq L i) = false) : L.any f = false := by
  rw [List.any_eq_false]
  intro x hx
  obtain ⟨i, hi, rfl⟩ := lq_of_mem hx
  rw [h i hi]
  decide

theorem Tpc.any_lq_at (L : List ByteArray) (f : ByteArray → Bool) {i : Nat} (hi : i < L.length) (h : f (lq L i) = true) : L.any f = true := by
  rw [List.any_eq_true]
  exact ⟨_, lq_mem hi, h⟩

set_option maxRecDepth 100000 in
set_option maxHeartbeats 2000000 in
theorem indexSign_any (L : List ByteArray) (v : Value) (w : World) (h : StAt w w.heap.size v L) :
    Calls Tryd.prog 75 #[v, .func (.func 63) #[] #[]] w fun e w' => (∃ r : Int, e = .returned (.int .i64 r) ∧ (decide (0 ≤ r) = L.any isS)) ∧ w' = w := by
  obtain ⟨ao, cap, rfl, hlc, hcm, hro⟩ := h
  have hcm' : cap ≤ 9223372036854775807 := by unfold maxLen at hcm; omega
  have HROW : Hid (∀ i, i < L.length → ∃ g o, ao = some ⟨g, o, none⟩ ∧ g < w.heap.size ∧ w.cell? ⟨g, o + i, none⟩ = some (.string (lq L i))) := hro
  obtain ⟨R, hR⟩ : ∃ R, R = L.any isS := ⟨_, rfl⟩
  rw [← hR]
  have HR : Hid (R = L.any isS) := hR
  clear hR hro
  go_enter Tryd.func75, Tryd.ntmps75
  go_wp2
  go_loopw [8] (fun vi wr => ∃ i : Nat, i ≤ L.length ∧ vi = .int .i64 (i : Int) ∧ Hid (∀ j, j < i → isS (lq L j) = false) ∧ wr = w)
    (fun vi _ => L.length - (intOf vi).toNat)
  case atStart => exact ⟨0, by omega, rfl, fun j hj => by omega, rfl⟩
  case round =>
    obtain ⟨i, hi, rfl, hall, rfl⟩ := hrel
    by_cases hlt : i < L.length
    · have hlt' : (i : Int) < (L.length : Int) := by omega
      obtain ⟨g, o, rfl, hg, c⟩ := HROW.out i hlt
      obtain ⟨x, hx⟩ : ∃ x, lq L i = x := ⟨_, rfl⟩
      rw [hx] at c
      have HX : Hid (lq L i = x) := hx
      clear hx
      obtain ⟨b, hb⟩ : ∃ b, isS x = b := ⟨_, rfl⟩
      have HB : Hid (isS x = b) := hb
      go_wp2_with fail
      refine (isSign_any x _).mono ?_
      rw [hb]
      rintro e w1 ⟨rfl, rfl⟩
      clear hb
      cases b with
      | true =>
        have hF : Hid (R = true) := HR.out.trans (any_lq_at L _ hlt (by rw [HX.out]; exact HB.out))
        clear hall
        go_wp2
        go_ret
        exact ⟨⟨_, rfl, by rw [hF.out]; simp⟩, rfl⟩
      | false =>
        have hN : Hid (∀ j, j < i + 1 → isS (lq L j) = false) := fun j hj => by
          by_cases e : j = i
          · rw [e, HX.out]; exact HB.out
          · exact hall.out j (by omega)
        clear hall
        go_wp2
        go_roundw
        case rel => exact ⟨i + 1, by omega, by go_num, hN, trivial⟩
        case measure => simp [intOf]; omega
    · have hge : ¬ ((i : Int) < (L.length : Int)) := by omega
      have hF : Hid (R = false) := HR.out.trans (any_lq L _ (fun j hj => hall.out j (by omega)))
      clear hall
      go_wp2
      go_ret
      exact ⟨⟨_, rfl, by rw [hF.out]; decide⟩, rfl⟩

set_option maxRecDepth 100000 in
set_option maxHeartbeats 1000000 in
theorem containsSign_any (L : List ByteArray) (v : Value) (w : World) (h : StAt w w.heap.size v L) :
    Calls Tryd.prog 62 #[v, .func (.func 63) #[] #[]] w fun e w' => e = .returned (.bool (L.any isS)) ∧ w' = w := by
  have HX : Hid (StAt w w.heap.size v L) := h
  obtain ⟨ao, cap, rfl, _⟩ := h
  obtain ⟨R, hR⟩ : ∃ R, R = L.any isS := ⟨_, rfl⟩
  rw [← hR]
  have HR : Hid (L.any isS = R) := hR.symm
  clear hR
  go_enter Tryd.func62, Tryd.ntmps62
  go_wp2_with fail
  refine (indexSign_any L _ _ HX.out).mono ?_
  rw [HR.out]
  rintro e w2 ⟨⟨r, rfl, hr⟩, rfl⟩
  have HRR : Hid (decide (0 ≤ r) = R) := hr
  clear hr
  by_cases h : 0 ≤ r
  · have h' : Hid (R = true) := by show _ = _; rw [← HRR.out]; simpa using h
    go_wp2
    go_ret
    exact ⟨by rw [h'.out]; rfl, rfl⟩
  · have h' : Hid (R = false) := by show _ = _; rw [← HRR.out]; simpa using h
    have hd : decide (0 ≤ r) = false := by simpa using h
    clear h
    go_wp2
    go_ret
    exact ⟨by rw [h'.out]; rfl, rfl⟩

set_option maxRecDepth 100000 in
set_option maxHeartbeats 2000000 in
theorem topicLevels_any (s : ByteArray) (w : World) (hs : s.size ≤ 1048576) :
    Calls Tryd.prog 39 #[.string s] w fun e w' => (∃ r, e = .returned (.tuple #[r, .bool (gt s)]) ∧ StAt w' w'.heap.size r (tls s)) ∧ Below w.heap.size w w' := by
  have C : Hid (Calls Tryd.prog 40 #[.string s] w fun e w' => (∃ r, e = .returned (.tuple #[r, .bool (gp s)]) ∧ StAt w' w'.heap.size r (pls s)) ∧ Below w.heap.size w w') := patternLevels_any s w hs
  obtain ⟨R, hR⟩ : ∃ R, R = gt s := ⟨_, rfl⟩
  obtain ⟨Q, hQ⟩ : ∃ Q, Q = tls s := ⟨_, rfl⟩
  obtain ⟨G, hG⟩ : ∃ G, G = gp s := ⟨_, rfl⟩
  obtain ⟨L, hL⟩ : ∃ L, L = pls s := ⟨_, rfl⟩
  rw [← hR, ← hQ]
  rw [← hG, ← hL] at C
  have HR : Hid (R = (G && !L.any isS)) := by
    show _ = _
    rw [hR, hG, hL]
    unfold gt pls
    rw [gt_gp]
    show (gp s && _) = _
    cases gp s <;> rfl
  have HQ : Hid (Q = if R then L else []) := by
    show _ = _
    rw [hQ]
    unfold tls
    rw [← hR]
    cases hr : R with
    | false => rfl
    | true =>
      have : gp s = true := by
        have h := HR.out
        rw [hr] at h
        rw [← hG]
        cases hg : G with
        | false => rw [hg] at h; simp at h
        | true => rfl
      rw [hL]
      unfold pls
      rw [this]
      rfl
  clear hR hQ hG hL
  go_enter Tryd.func39, Tryd.ntmps39
  go_wp2_with fail
  refine C.out.mono ?_
  rintro e w2 ⟨⟨r, rfl, hrow⟩, hB2⟩
  have HA : Hid (StAt w2 w2.heap.size r L) := hrow
  obtain ⟨ao, cap, rfl, _⟩ := hrow
  clear C
  cases G with
  | false =>
    have hF : Hid (R = false) := HR.out
    have hN : Hid (Q = []) := by show _ = _; rw [HQ.out, hF.out]; rfl
    clear HR HQ
    go_wp2
    go_ret2
    exact ⟨⟨_, by rw [hF.out]; rfl, by rw [hN.out]; exact StAt.nil _ _⟩, hB2⟩
  | true =>
    have HC : Hid (Calls Tryd.prog 62 #[.slice ao L.length cap, .func (.func 63) #[] #[]] w2 fun e w' => e = .returned (.bool (L.any isS)) ∧ w' = w2) := containsSign_any L _ _ HA.out
    generalize L.any isS = b at HC HR
    go_wp2_with fail
    refine HC.out.mono ?_
    rintro e w3 ⟨rfl, rfl⟩
    cases b with
    | true =>
      have hF : Hid (R = false) := HR.out
      have hN : Hid (Q = []) := by show _ = _; rw [HQ.out, hF.out]; rfl
      clear HR HQ
      go_wp2
      go_ret2
      exact ⟨⟨_, by rw [hF.out]; rfl, by rw [hN.out]; exact StAt.nil _ _⟩, hB2⟩
    | false =>
      have hF : Hid (R = true) := HR.out
      have hN : Hid (Q = L) := by show _ = _; rw [HQ.out, hF.out]; rfl
      clear HR HQ
      go_wp2
      go_ret2
      exact ⟨⟨_, by rw [hF.out]; rfl, by rw [hN.out]; exact HA.out⟩, hB2⟩

end Go.Proofs.YtndeikgkncfmbaaDoor
