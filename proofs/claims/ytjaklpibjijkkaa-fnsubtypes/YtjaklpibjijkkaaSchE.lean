/- The program's look at a type's sisters. -/
import Derived.Test.YtjaklpibjijkkaaSchD
namespace Go.Proofs.Ytjaklpibjijkkaa
open Go.RowKit Plain Sch

set_option maxRecDepth 100000 in
set_option maxHeartbeats 4000000 in
theorem fitsSisters_any (T : List Ty) (v : Value) (k : Nat) (w : World) (hT : TysAt w w.heap.size v T) (hk : k < T.length) (hl : T.length ≤ 30) :
    Calls Try.prog 82 #[v, .int .i64 k] w fun e w' => e = .returned (.bool (sis T k)) ∧ Below w.heap.size w w' := by
  obtain ⟨g, o, cap, rfl, hlc, hcm, hg, hrow, _⟩ := hT.open (by omega)
  clear hT
  unfold maxLen at hcm
  obtain ⟨R, hR⟩ : ∃ R, R = sis T k := ⟨_, rfl⟩
  rw [← hR]
  have HR : Hid (R = decide (∀ i, i < k → sisBad T k i = false)) := hR
  clear hR
  have hk' : (k : Int) < (T.length : Int) := by omega
  have hk0' : (0 : Int) ≤ (k : Int) := by omega
  have hkc : (k : Int) ≤ (cap : Int) := by omega
  go_enter Try.func82, Try.ntmps82
  go_wp2
  go_loopw [11] (fun vi wr => ∃ (i : Nat), i ≤ k ∧ vi = .int .i64 (i : Int) ∧ Hid (∀ j, j < i → sisBad T k j = false) ∧ Below w.heap.size w wr)
    (fun vi _ => k - (intOf vi).toNat)
  case atStart => exact ⟨0, by omega, rfl, fun j hj => by omega, Below.refl _ _⟩
  case round =>
    obtain ⟨i, hi, rfl, hall, hbw⟩ := hrel
    by_cases hlt : i < k
    · have hlt' : (i : Int) < (k : Int) := by omega
      have hci := (hrow i (by omega)).below hbw hg
      have hck := (hrow k hk).below hbw hg
      have hsz : g < wr.heap.size := by have := hbw.size; omega
      obtain ⟨ti, hti⟩ : ∃ t, ty T i = t := ⟨_, rfl⟩
      obtain ⟨tk, htk⟩ : ∃ t, ty T k = t := ⟨_, rfl⟩
      have HS : Hid (sisBad T k i = (decide (ti.up = tk.up) && (decide (tk.no ≤ ti.no) || decide (ti.name = tk.name)))) := by show _ = _; unfold sisBad; rw [hti, htk]
      rw [hti] at hci
      rw [htk] at hck
      clear hti htk hrow
      obtain ⟨kind, name, no, must, up, most⟩ := ti
      obtain ⟨kindk, namek, nok, mustk, upk, mostk⟩ := tk
      obtain ⟨c0, c1, c2, c3, c4, c5⟩ := hci
      obtain ⟨k0, k1, k2, k3, k4, k5⟩ := hck
      dsimp only at c0 c1 c2 c3 c4 c5 k0 k1 k2 k3 k4 k5 HS
      by_cases hu : up = upk
      · have hu' : (up == upk) = true := by simpa using hu
        by_cases hno : nok ≤ no
        · have hn : Hid (R = false) := by
            show R = _
            rw [HR.out]
            simp only [decide_eq_false_iff_not]
            intro h
            have := h i hlt
            rw [HS.out] at this
            simp [hu, hno] at this
          clear hu hall HS HR
          go_wp2_with fail
          go_quiet (fail)
          go_wp2
          go_ret
          exact ⟨by rw [hn.out]; rfl, below_drewN (hbw.alloc hbw.size _)⟩
        · have hno' : decide (nok ≤ no) = false := by simpa using hno
          by_cases hnm : name = namek
          · have hn : Hid (R = false) := by
              show R = _
              rw [HR.out]
              simp only [decide_eq_false_iff_not]
              intro h
              have := h i hlt
              rw [HS.out] at this
              simp [hu, hnm] at this
            subst hnm
            clear hu hall HS HR hno
            go_wp2_with fail
            go_quiet (fail)
            go_wp2
            go_ret
            exact ⟨by rw [hn.out]; rfl, below_drewN (hbw.alloc hbw.size _)⟩
          · have hall2 : Hid (∀ j, j < i + 1 → sisBad T k j = false) := fun j hj => by
              by_cases hji : j = i
              · rw [hji, HS.out]; simp [hno', hnm]
              · exact hall.out j (by omega)
            have hnm' := str_neB hnm
            clear hu hall HS hno hnm
            go_wp2_with fail
            go_quiet (fail)
            go_wp2
            go_roundw
            case rel => exact ⟨i + 1, by omega, by go_num, hall2, below_drewN (hbw.alloc hbw.size _)⟩
            case measure => simp [intOf]; omega
      · have hu' : (up == upk) = false := by simpa using hu
        have hall2 : Hid (∀ j, j < i + 1 → sisBad T k j = false) := fun j hj => by
          by_cases hji : j = i
          · rw [hji, HS.out]; simp [hu]
          · exact hall.out j (by omega)
        clear hu
        go_wp2_with fail
        go_quiet (fail)
        go_wp2
        go_roundw
        case rel => exact ⟨i + 1, by omega, by go_num, hall2, below_drewN (hbw.alloc hbw.size _)⟩
        case measure => simp [intOf]; omega
    · have hke : i = k := by omega
      subst hke
      have hge : ¬ ((i : Int) < (i : Int)) := by omega
      have hn : Hid (R = true) := by
        show R = _
        rw [HR.out]
        simp only [decide_eq_true_eq]
        exact hall.out
      go_wp2
      go_ret
      exact ⟨by rw [hn.out]; rfl, hbw⟩

set_option maxRecDepth 100000 in
set_option maxHeartbeats 4000000 in
theorem eachListHasPart_any (T : List Ty) (v : Value) (w : World) (hT : TysAt w w.heap.size v T) (h0 : 0 < T.length) (hl : T.length ≤ 30) :
    Calls Try.prog 53 #[v] w fun e w' => e = .returned (.bool ((List.range T.length).all fun i => if (ty T i).kind = 4 then decide (i + 1 < T.length) && decide ((ty T (i + 1)).up = i) else true)) ∧ Below w.heap.size w w' := by
  obtain ⟨g, o, cap, rfl, hlc, hcm, hg, hrow, _⟩ := hT.open h0
  clear hT
  unfold maxLen at hcm
  obtain ⟨P, hP⟩ : ∃ P : Nat → Bool, P = fun i => if (ty T i).kind = 4 then decide (i + 1 < T.length) && decide ((ty T (i + 1)).up = i) else true := ⟨_, rfl⟩
  have HP : Hid (∀ i, P i = if (ty T i).kind = 4 then decide (i + 1 < T.length) && decide ((ty T (i + 1)).up = i) else true) := fun i => by rw [hP]
  rw [← hP]
  clear hP
  obtain ⟨R, hR⟩ : ∃ R, R = (List.range T.length).all P := ⟨_, rfl⟩
  rw [← hR]
  have HR : Hid (R = (List.range T.length).all P) := hR
  clear hR
  have HF : Hid (∀ i, i < T.length → P i = false → R = false) := fun i hi h => by
    rw [HR.out, List.all_eq_false]
    exact ⟨i, List.mem_range.2 hi, by rw [h]; simp⟩
  have hl' : (T.length : Int) ≤ 30 := by omega
  go_enter Try.func53, Try.ntmps53
  go_wp2
  go_loopw [7] (fun vi wr => ∃ (i : Nat), i ≤ T.length ∧ vi = .int .i64 (i : Int) ∧ Hid (∀ j, j < i → P j = true) ∧ Below w.heap.size w wr)
    (fun vi _ => T.length - (intOf vi).toNat)
  case atStart => exact ⟨0, by omega, rfl, fun j hj => by omega, Below.refl _ _⟩
  case round =>
    obtain ⟨i, hi, rfl, hall, hbw⟩ := hrel
    by_cases hlt : i < T.length
    · have hlt' : (i : Int) < (T.length : Int) := by omega
      have hci := (hrow i hlt).below hbw hg
      have hsz : g < wr.heap.size := by have := hbw.size; omega
      have HPi := HP.out i
      obtain ⟨ti, hti⟩ : ∃ t, ty T i = t := ⟨_, rfl⟩
      rw [hti] at hci HPi
      obtain ⟨kind, name, no, must, up, most⟩ := ti
      obtain ⟨c0, c1, c2, c3, c4, c5⟩ := hci
      dsimp only at c0 c1 c2 c3 c4 c5 HPi
      clear hti
      have HPi' : Hid (P i = if kind = 4 then decide (i + 1 < T.length) && decide ((ty T (i + 1)).up = i) else true) := HPi
      clear HPi
      by_cases h4 : kind = 4
      · subst h4
        by_cases hlast : i + 1 < T.length
        · have hne : ((i : Int) + 1 == (T.length : Int)) = false := by simp; omega
          have hlt2 : (i : Int) + 1 < (T.length : Int) := by omega
          have hcn := ((hrow (i + 1) hlast).below hbw hg).2.2.2.2.1
          rw [show o + (i + 1) * 6 + 4 = o + (i + 1) * 6 + 4 by rfl] at hcn
          by_cases hup : (ty T (i + 1)).up = (i : Int)
          · have hall2 : Hid (∀ j, j < i + 1 → P j = true) := fun j hj => by
              by_cases hji : j = i
              · rw [hji, HPi'.out]; simp [hlast, hup]
              · exact hall.out j (by omega)
            rw [hup] at hcn
            clear hup hall HPi'
            go_wp2
            go_roundw
            case rel => exact ⟨i + 1, by omega, by go_num, hall2, hbw.alloc hbw.size _⟩
            case measure => simp [intOf]; omega
          · have hn : Hid (R = false) := HF.out i hlt (by rw [HPi'.out]; simp [hup])
            generalize (ty T (i + 1)).up = u at hcn hup
            have hup' : (u != (i : Int)) = true := by simpa using hup
            clear hup hall HPi'
            go_wp2
            go_ret
            exact ⟨by rw [hn.out]; rfl, hbw.alloc hbw.size _⟩
        · have hn : Hid (R = false) := HF.out i hlt (by rw [HPi'.out]; simp [hlast])
          have he : ((i : Int) + 1 == (T.length : Int)) = true := by simp; omega
          clear hall HPi' hlast
          go_wp2
          go_ret
          exact ⟨by rw [hn.out]; rfl, hbw.alloc hbw.size _⟩
      · have h4' : (kind == 4) = false := by simpa using h4
        have hall2 : Hid (∀ j, j < i + 1 → P j = true) := fun j hj => by
          by_cases hji : j = i
          · rw [hji, HPi'.out, if_neg h4]
          · exact hall.out j (by omega)
        clear h4 hall HPi'
        go_wp2
        go_roundw
        case rel => exact ⟨i + 1, by omega, by go_num, hall2, hbw.alloc hbw.size _⟩
        case measure => simp [intOf]; omega
    · have hke : i = T.length := by omega
      subst hke
      have hge : ¬ ((T.length : Int) < (T.length : Int)) := by omega
      have hn : Hid (R = true) := by
        show R = _
        rw [HR.out, List.all_eq_true]
        intro x hx
        exact hall.out x (List.mem_range.1 hx)
      clear HP HF
      go_wp2
      go_ret
      exact ⟨by rw [hn.out]; rfl, hbw⟩

end Go.Proofs.Ytjaklpibjijkkaa
