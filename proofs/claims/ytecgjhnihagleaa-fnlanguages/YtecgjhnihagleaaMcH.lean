/- The model's GoodMachine. -/
import Derived.Test.YtecgjhnihagleaaXd
import Derived.Test.YtecgjhnihagleaaXa
namespace Go.Proofs.Ytecgjhnihagleaa
open Go.RowKit Plain Mch

/-- a row's first i ints are states -/
def fstR (n : Nat) (l : List Int) (i : Nat) : Prop := ∀ j x, j < i → l[j]? = some x → 0 ≤ x ∧ x < (n : Int)

theorem okR_of {n : Nat} {l : List Int} (h3 : l.length = 3) (h : fstR n l l.length) : okR n l = true :=
  okR_iff.2 ⟨h3, fun x hx => by
    obtain ⟨j, hj, rfl⟩ := List.getElem_of_mem hx
    exact h j _ hj (List.getElem?_eq_getElem hj)⟩

set_option maxRecDepth 100000 in
set_option maxHeartbeats 4000000 in
theorem specGoodM (M : List (List Int)) (E : List Bool) (v e : Value) (w : World) (hM : MAt w w.heap.size v M) (hE : EAt w w.heap.size e E) :
    Calls Try.prog 39 #[.agg #[v, e]] w fun x w' => x = .returned (.bool (gm M E)) ∧ Below w.heap.size w w' := by
  have HM : Hid (MAt w w.heap.size v M) := hM
  obtain ⟨ao, cap, rfl, hlc, hcm, _⟩ := hM
  obtain ⟨ae, cape, rfl, hlc2, hcm2, _⟩ := hE
  unfold maxLen at hcm hcm2
  obtain ⟨W1, hW1⟩ : ∃ W, W = w.alloc (.cells #[.slice ao M.length cap, .slice ae E.length cape] 30) := ⟨_, rfl⟩
  have hB1 : Below w.heap.size w W1 := by rw [hW1]; exact (Below.refl _ w).alloc (Nat.le_refl _) _
  have q0 : W1.cell? ⟨w.heap.size, 0, none⟩ = some (.slice ao M.length cap) := by rw [hW1]; go_simp
  have q1 : W1.cell? ⟨w.heap.size, 1, none⟩ = some (.slice ae E.length cape) := by rw [hW1]; go_simp
  have hl1 : w.heap.size < W1.heap.size := by rw [hW1]; simp
  obtain ⟨G, hG⟩ : ∃ G, G = gm M E := ⟨_, rfl⟩
  rw [← hG]
  have HG : Hid (G = gm M E) := hG
  clear hG
  have HROW : Hid (∀ i, i < M.length → ∃ g o u, ao = some ⟨g, o, none⟩ ∧ g < W1.heap.size ∧ W1.cell? ⟨g, o + i, none⟩ = some u ∧ ZAt W1 W1.heap.size u (rx M i)) := by
    obtain ⟨ao', cap', hv, _, _, hrow⟩ := HM.out.below hB1
    simp only [Value.slice.injEq] at hv
    obtain ⟨rfl, _, rfl⟩ := hv
    exact hrow
  go_enter Try.func39, Try.ntmps39
  go_upto_region 1 with fail
  rw [← hW1]
  clear hW1
  go_wp2
  go_loopw [14] (fun vi wr => ∃ i : Nat, i ≤ M.length ∧ vi = .int .i64 (i : Int) ∧ Hid (∀ j, j < i → okR M.length (rx M j) = true) ∧ wr = W1)
    (fun vi _ => M.length - (intOf vi).toNat)
  case atStart => exact ⟨0, by omega, rfl, fun j hj => by omega, rfl⟩
  case round =>
    obtain ⟨i, hi, rfl, hall, hwr⟩ := hrel
    by_cases hlt : i < M.length
    · have hlt' : (i : Int) < (M.length : Int) := by omega
      obtain ⟨g, o, u, rfl, hg, hc, hs⟩ := HROW.out i hlt
      have bad : Hid (okR M.length (rx M i) = false → G = false) := fun hb => by
        rw [HG.out]
        cases hg : gm M E with
        | false => rfl
        | true => have h := (gm_iff.1 hg).2 i hlt; rw [hb] at h; cases h
      obtain ⟨l, hl⟩ : ∃ l, rx M i = l := ⟨_, rfl⟩
      rw [hl] at hs bad
      have HL : Hid (rx M i = l) := hl
      clear hl
      obtain ⟨su, cu, rfl, hlu, hcu, hcell⟩ := hs
      have HC : Hid (∀ j (x : Int), l[j]? = some x → ∃ g o, su = some ⟨g, o, none⟩ ∧ g < W1.heap.size ∧ W1.cell? ⟨g, o + j, none⟩ = some (.int .i64 x)) := hcell
      clear hcell
      unfold maxLen at hcu
      subst hwr
      obtain ⟨wo, rfl⟩ : ∃ W, W = wr := ⟨_, rfl⟩
      go_wp2
      go_loopw [20] (fun vi wr => ∃ j : Nat, j ≤ l.length ∧ vi = .int .i64 (j : Int) ∧ Hid (fstR M.length l j) ∧ wr = wo)
        (fun vi _ => l.length - (intOf vi).toNat)
      case atStart => exact ⟨0, by omega, rfl, fun j x hj => by omega, rfl⟩
      case round =>
        obtain ⟨j, hj, rfl, hfst, rfl⟩ := hrel
        by_cases hjt : j < l.length
        · have hjt' : (j : Int) < (l.length : Int) := by omega
          obtain ⟨x, hx⟩ : ∃ x, l[j]? = some x := ⟨_, List.getElem?_eq_getElem hjt⟩
          obtain ⟨g2, o2, rfl, hg2, hc2⟩ := HC.out j x hx
          by_cases k4 : x < 0
          · have hF : Hid (G = false) := bad.out (by
              cases ho : okR M.length l with
              | false => rfl
              | true => have := ((okR_iff.1 ho).2 x (List.mem_of_getElem? hx)).1; omega)
            clear bad
            go_wp2
            go_ret
            exact ⟨by rw [hF.out]; rfl, hB1⟩
          · have k4' : decide (x < 0) = false := by simpa using k4
            by_cases k5 : (M.length : Int) ≤ x
            · have hF : Hid (G = false) := bad.out (by
                cases ho : okR M.length l with
                | false => rfl
                | true => have := ((okR_iff.1 ho).2 x (List.mem_of_getElem? hx)).2; omega)
              clear bad
              go_wp2
              go_ret
              exact ⟨by rw [hF.out]; rfl, hB1⟩
            · have k5' : decide ((M.length : Int) ≤ x) = false := by simpa using k5
              have hN : Hid (fstR M.length l (j + 1)) := fun m y hm hy => by
                by_cases e : m = j
                · subst e
                  rw [hx] at hy
                  simp at hy
                  omega
                · exact hfst.out m y (by omega) hy
              clear bad hfst
              go_wp2
              go_roundw
              case rel => exact ⟨j + 1, by omega, by go_num, hN, by trivial⟩
              case measure => simp [intOf]; omega
        · have hke : j = l.length := by omega
          subst hke
          have hge : ¬ ((l.length : Int) < (l.length : Int)) := by omega
          by_cases k3 : l.length = 3
          · have k3' : ((l.length : Int) != 3) = false := by simp; omega
            have hall2 : Hid (∀ j, j < i + 1 → okR M.length (rx M j) = true) := fun j hj => by
              by_cases hji : j = i
              · rw [hji, HL.out]
                exact okR_of k3 hfst.out
              · exact hall.out j (by omega)
            clear bad hfst hall
            go_wp2
            go_roundw
            case rel => exact ⟨i + 1, by omega, by go_num, hall2, by trivial⟩
            case measure => simp [intOf]; omega
          · have k3' : ((l.length : Int) != 3) = true := by simp; omega
            have hF : Hid (G = false) := bad.out (by
              cases ho : okR M.length l with
              | false => rfl
              | true => exact absurd (okR_iff.1 ho).1 k3)
            clear bad
            go_wp2
            go_ret
            exact ⟨by rw [hF.out]; rfl, hB1⟩
    · have hke : i = M.length := by omega
      subst hke
      have hge : ¬ ((M.length : Int) < (M.length : Int)) := by omega
      subst hwr
      have hE : Hid (G = (decide (1 ≤ (M.length : Int) ∧ (M.length : Int) ≤ 12) && ((E.length : Int) == (M.length : Int)))) := by
        show _ = _
        rw [HG.out, Bool.eq_iff_iff, gm_iff]
        simp only [Bool.and_eq_true, decide_eq_true_eq, beq_iff_eq]
        constructor
        · rintro ⟨⟨a, b, c⟩, _⟩
          omega
        · rintro ⟨⟨a, b⟩, c⟩
          exact ⟨⟨by omega, by omega, by omega⟩, hall.out⟩
      clear hall
      go_wp2_with fail
      refine (l1InT (M.length : Int) 1 12 _).mono ?_
      rintro e w2 ⟨rfl, rfl⟩
      by_cases k : (1 : Int) ≤ (M.length : Int) ∧ (M.length : Int) ≤ 12
      · have kd : decide ((1 : Int) ≤ (M.length : Int) ∧ (M.length : Int) ≤ 12) = true := by simpa using k
        rw [kd] at hE
        rw [kd]
        clear kd
        go_wp2
        go_ret
        exact ⟨by rw [hE.out]; rfl, hB1⟩
      · have kd : decide ((1 : Int) ≤ (M.length : Int) ∧ (M.length : Int) ≤ 12) = false := by simpa using k
        rw [kd] at hE
        rw [kd]
        clear kd
        go_wp2
        go_ret
        exact ⟨by rw [hE.out]; rfl, hB1⟩

end Go.Proofs.Ytecgjhnihagleaa
