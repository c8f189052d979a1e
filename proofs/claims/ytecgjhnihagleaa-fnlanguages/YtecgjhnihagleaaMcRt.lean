/- The model's ReachedOf. -/
import Derived.Test.YtecgjhnihagleaaXh
namespace Go.Proofs.Ytecgjhnihagleaa
open Go.RowKit Plain Mch Tpc

theorem NtAt.ints {w : World} {B : Nat} {v : Value} {l : List Nat} (h : NtAt w B v l) : ZAt w B v (zn l) := by
  obtain ⟨ao, cap, hv, hlc, hcm, hr⟩ := h
  refine ⟨ao, cap, by rw [zn_len]; exact hv, by rw [zn_len]; exact hlc, hcm, fun i x hx => ?_⟩
  unfold zn at hx
  rw [List.getElem?_map, Option.map_eq_some_iff] at hx
  obtain ⟨y, hy, rfl⟩ := hx
  exact hr i y hy

set_option maxRecDepth 100000 in
set_option maxHeartbeats 8000000 in
theorem specReach (M : List (List Int)) (E : List Bool) (v e : Value) (w : World) (hM : MAt w w.heap.size v M) (hE : EAt w w.heap.size e E) :
    Calls Try.prog 31 #[.agg #[v, e]] w fun x w' => (∃ r, x = .returned (.tuple #[r, .bool (gm M E)]) ∧ ZAt w' w'.heap.size r (rch M E)) ∧ Below w.heap.size w w' := by
  have HM : Hid (MAt w w.heap.size v M) := hM
  have HE : Hid (EAt w w.heap.size e E) := hE
  obtain ⟨ao, cap, rfl, hlc, hcm, _⟩ := hM
  obtain ⟨ae, cape, rfl, hlc2, hcm2, _⟩ := hE
  unfold maxLen at hcm hcm2
  obtain ⟨W1, hW1⟩ : ∃ W, W = w.alloc (.cells #[.slice ao M.length cap, .slice ae E.length cape] 30) := ⟨_, rfl⟩
  have hB1 : Below w.heap.size w W1 := by rw [hW1]; exact (Below.refl _ w).alloc (Nat.le_refl _) _
  have q0 : W1.cell? ⟨w.heap.size, 0, none⟩ = some (.slice ao M.length cap) := by rw [hW1]; go_simp
  have q1 : W1.cell? ⟨w.heap.size, 1, none⟩ = some (.slice ae E.length cape) := by rw [hW1]; go_simp
  have hl1 : w.heap.size < W1.heap.size := by rw [hW1]; simp
  obtain ⟨G, hG⟩ : ∃ G, G = gm M E := ⟨_, rfl⟩
  obtain ⟨R, hR⟩ : ∃ R, R = rch M E := ⟨_, rfl⟩
  have HG : Hid (G = gm M E) := hG
  have HR : Hid (R = rch M E) := hR
  rw [← hG, ← hR]
  clear hG hR
  go_enter Try.func31, Try.ntmps31
  go_wp2_with fail
  rw [← hW1]
  clear hW1
  refine (specGoodM M E _ _ _ (HM.out.below hB1) (HE.out.below hB1)).mono ?_
  rintro x w2 ⟨rfl, hb2⟩
  replace q0 := (hb2.cell (p := ⟨w.heap.size, 0, none⟩) hl1).trans q0
  replace q1 := (hb2.cell (p := ⟨w.heap.size, 1, none⟩) hl1).trans q1
  have hB2 : Below w.heap.size w w2 := hB1.trans (hb2.mono hB1.size)
  have hl2 : w.heap.size < w2.heap.size := by have := hb2.size; omega
  clear hb2 hB1 hl1
  cases hg : gm M E with
  | false =>
    have hF : Hid (G = false ∧ R = []) := ⟨HG.out.trans hg, by rw [HR.out]; unfold rch rcn; rw [hg]; rfl⟩
    clear hg
    go_wp2
    go_ret2
    exact ⟨⟨_, by rw [hF.out.1]; rfl, by rw [hF.out.2]; exact ZAt.own (ZRow.none w2 0)⟩, hB2⟩
  | true =>
  have HGT : Hid (gm M E = true) := hg
  clear hg
  go_wp2_with fail
  refine (l12Order_any M E _ _ _ (HM.out.below hB2) (HE.out.below hB2) HGT.out).mono ?_
  rintro x w4 ⟨⟨r, rfl, hP4⟩, hb4⟩
  have hB4 : Below w.heap.size w w4 := hB2.trans (hb4.mono hB2.size)
  have HP4 : Hid (ZRow w4 w2.heap.size r (zn (sts (prs M M)))) := hP4
  obtain ⟨ap, cp, hvp⟩ := ZRow.slice hP4
  subst hvp
  obtain ⟨Z, hZ⟩ : ∃ Z, Z = sts (prs M M) := ⟨_, rfl⟩
  have HZ : Hid (Z = sts (prs M M)) := hZ
  rw [← hZ] at HP4
  rw [← hZ]
  have hZn : Z.length ≤ 144 := by rw [hZ, sts_len]; exact (prs_met HGT.out HGT.out).le HGT.out HGT.out
  have HZX : Hid (∀ x ∈ Z, x < 12) := fun x hx => by rw [hZ] at hx; have := sts_low HGT.out x hx; have := (gm_iff.1 HGT.out).1.2.1; omega
  obtain ⟨V, hV⟩ : ∃ V, V = zn Z := ⟨_, rfl⟩
  have HV : Hid (V = zn Z) := hV
  rw [← hV] at HP4
  rw [← hV]
  have HVL : Hid (V.length = Z.length) := by show _ = _; rw [hV, zn_len]
  have h4s : w.heap.size ≤ w4.heap.size := hB4.size
  clear hZ hV hP4 hb4 hB2
  go_wp2
  go_loopw [4, 13] (fun vo vi wr => ∃ i : Nat, i ≤ Z.length ∧ vi = .int .i64 (i : Int) ∧ Hid (NtAt wr wr.heap.size vo (puts [] (Z.take i))) ∧ Hid (Below w4.heap.size w4 wr))
    (fun _ vi _ => Z.length - (intOf vi).toNat)
  case atStart => exact ⟨0, by omega, rfl, NtAt.nil _ _, Below.refl _ _⟩
  case round =>
    obtain ⟨i, hin, rfl, hO, hbw⟩ := hrel
    have hBr : Below w.heap.size w wr := hB4.trans (hbw.out.mono h4s)
    obtain ⟨av, cv, hvo, _⟩ := hO.out
    subst hvo
    by_cases hlt : i < Z.length
    · have hlt' : (i : Int) < (V.length : Int) := by have := HVL.out; omega
      obtain ⟨x, hx⟩ : ∃ x, Z[i]? = some x := ⟨_, List.getElem?_eq_getElem hlt⟩
      obtain ⟨a2, c2, hv2, _, _, hzr⟩ := ZAt.own (ZRow.below HP4.out hbw.out)
      simp only [Value.slice.injEq, true_and] at hv2
      obtain ⟨rfl, rfl⟩ := hv2
      obtain ⟨gz, oz, haz, hgz, hcz⟩ := hzr i (x : Int) (by rw [HV.out]; unfold zn; rw [List.getElem?_map, hx]; rfl)
      subst haz
      have hx12 : x < 12 := HZX.out x (List.mem_of_getElem? hx)
      have HST : Hid (puts [] (Z.take (i + 1)) = put x (puts [] (Z.take i))) := by show _ = _; rw [take_snoc2 hx, puts_snoc]
      have HLM : Hid (∀ (j : Nat) y, (puts [] (Z.take i))[j]? = some y → y ≤ 1000000) := fun j y hy => by
        rcases (puts_mem y _ []).1 (List.mem_of_getElem? hy) with h' | h'
        · simp at h'
        · have := HZX.out y (List.mem_of_mem_take h'); omega
      have HLL : Hid ((puts [] (Z.take i)).length ≤ 100000) := by
        have h1 := puts_len (Z.take i) []
        rw [List.length_take] at h1
        simp at h1
        show _ ≤ _
        omega
      clear hzr hx
      go_wp2_with fail
      refine (l10Put_any x _ _ _ (by omega) hO.out HLL.out HLM.out).mono ?_
      rintro y w5 ⟨⟨r5, rfl, hr5⟩, hb5⟩
      have HO5 : Hid (NtAt w5 w5.heap.size r5 (puts [] (Z.take (i + 1)))) := by rw [HST.out]; exact hr5
      have HB5 : Hid (Below w4.heap.size w4 w5) := hbw.out.trans (hb5.mono hbw.out.size)
      clear hr5 hb5 hO hbw hcz
      go_wp2
      go_roundw
      case rel => exact ⟨i + 1, by omega, by go_num, HO5, HB5⟩
      case measure => simp [intOf]; omega
    · have hge : ¬ ((i : Int) < (V.length : Int)) := by have := HVL.out; omega
      have HF : Hid (ZAt wr wr.heap.size (.slice av (puts [] (Z.take i)).length cv) R ∧ G = true) := by
        refine ⟨?_, HG.out.trans HGT.out⟩
        have e : R = zn (puts [] (Z.take i)) := by
          rw [HR.out, show i = Z.length by omega, List.take_length, HZ.out]
          unfold rch rcn
          rw [HGT.out]
          rfl
        rw [e]
        exact NtAt.ints hO.out
      clear hO
      go_wp2
      go_ret2
      exact ⟨⟨_, by rw [HF.out.2]; rfl, HF.out.1⟩, hBr⟩

end Go.Proofs.Ytecgjhnihagleaa
