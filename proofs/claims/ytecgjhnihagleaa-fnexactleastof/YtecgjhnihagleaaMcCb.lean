/- The model's l12Same and l12Alike. -/
import Derived.Test.YtecgjhnihagleaaMcCa
import Derived.Test.YtecgjhnihagleaaMcRs
namespace Go.Proofs.Ytecgjhnihagleaa
open Go.RowKit Plain Mch Tpc

theorem zn_get {c : List Nat} {i : Nat} (h : i < c.length) : (zn c)[i]? = some ((cx c i : Nat) : Int) := by
  unfold zn cx
  rw [List.getElem?_map, List.getD, List.getElem?_eq_getElem h]
  rfl

theorem ZAt.cx {w : World} {B : Nat} {ao : Option Addr} {n cap : Nat} {c : List Nat} (h : ZAt w B (.slice ao n cap) (zn c)) {i : Nat} (hi : i < c.length) :
    ∃ g o, ao = some ⟨g, o, none⟩ ∧ g < B ∧ w.cell? ⟨g, o + i, none⟩ = some (.int .i64 ((Mch.cx c i : Nat) : Int)) := by
  obtain ⟨a, cp, hv, _, _, hr⟩ := h
  simp only [Value.slice.injEq] at hv
  obtain ⟨rfl, rfl, rfl⟩ := hv
  exact hr i _ (zn_get hi)

set_option maxRecDepth 100000 in
set_option maxHeartbeats 4000000 in
theorem l12Same_any (c d : List Nat) (v u : Value) (w : World) (hv : ZAt w w.heap.size v (zn c)) (hu : ZAt w w.heap.size u (zn d)) (hl : c.length = d.length) (h12 : c.length ≤ 12) :
    Calls Try.prog 72 #[v, u] w fun e w' => e = .returned (.bool (decide (c = d))) ∧ Below w.heap.size w w' := by
  have HV : Hid (ZAt w w.heap.size v (zn c)) := hv
  have HU : Hid (ZAt w w.heap.size u (zn d)) := hu
  have HL : Hid (c.length = d.length) := hl
  obtain ⟨av, cv, rfl, hc1, hc2, _⟩ := hv
  obtain ⟨au, cu, rfl, hd1, hd2, _⟩ := hu
  rw [zn_len] at hc1 hd1 HV HU
  rw [zn_len, zn_len]
  unfold maxLen at hc2 hd2
  obtain ⟨n, hn⟩ : ∃ n, n = c.length := ⟨_, rfl⟩
  have HN : Hid (n = c.length) := hn
  rw [← hl, ← hn]
  rw [← hl] at HU hd1
  rw [← hn] at HV HU h12 hc1 hd1
  obtain ⟨R, hR⟩ : ∃ R, R = decide (c = d) := ⟨_, rfl⟩
  have HR : Hid (R = decide (c = d)) := hR
  rw [← hR]
  clear hR hn hl
  go_enter Try.func72, Try.ntmps72
  go_wp2
  go_loopw [8] (fun vi wr => ∃ i : Nat, i ≤ n ∧ vi = .int .i64 (i : Int) ∧ Hid (∀ j, j < i → cx c j = cx d j) ∧ Hid (Below w.heap.size w wr))
    (fun vi _ => n - (intOf vi).toNat)
  case atStart => exact ⟨0, by omega, rfl, fun j hj => by omega, Below.refl _ _⟩
  case round =>
    obtain ⟨i, hin, rfl, hix, hbw⟩ := hrel
    by_cases hlt : i < n
    · have hlt' : (i : Int) < (n : Int) := by omega
      obtain ⟨gv, ov, hv1, hv2, hv3⟩ := HV.out.cx (i := i) (by rw [← HN.out]; exact hlt)
      obtain ⟨gu, ou, hu1, hu2, hu3⟩ := HU.out.cx (i := i) (by rw [← HL.out, ← HN.out]; exact hlt)
      subst hv1 hu1
      have c1 := (hbw.out.cell (p := ⟨gv, ov + i, none⟩) hv2).trans hv3
      have c2 := (hbw.out.cell (p := ⟨gu, ou + i, none⟩) hu2).trans hu3
      have HD : Hid (cx c i ≠ cx d i → R = false) := fun h => by rw [HR.out]; simp; intro e; exact h (by rw [e])
      have HS : Hid (cx c i = cx d i → ∀ j, j < i + 1 → cx c j = cx d j) := fun h j hj => by
        by_cases e : j = i
        · rw [e]; exact h
        · exact hix.out j (by omega)
      clear hv3 hu3 hix
      generalize cx c i = x at c1 HD HS
      generalize cx d i = y at c2 HD HS
      go_upto_region 4 with fail
      by_cases hxy : x = y
      · subst hxy
        have hN : Hid (∀ j, j < i + 1 → cx c j = cx d j) := HS.out rfl
        clear HD HS
        go_quiet (fail)
        go_wp2
        go_roundw
        case rel => exact ⟨i + 1, by omega, by go_num, hN, below_drewT hbw.out⟩
        case measure => simp [intOf]; omega
      · have hF : Hid (R = false) := HD.out hxy
        have hne : ((x : Int) == (y : Int)) = false := by simp; omega
        have hne2 : ¬ ((x : Int) = (y : Int)) := by omega
        clear HD HS
        go_quiet (fail)
        go_wp2
        go_ret
        exact ⟨by rw [hF.out]; rfl, below_drewT hbw.out⟩
    · have hke : i = n := by omega
      have hge : ¬ ((i : Int) < (n : Int)) := by omega
      have hF : Hid (R = true) := by
        show _ = _
        rw [HR.out]
        simp
        exact cx_ext HL.out (fun x hx => hix.out x (by rw [hke, HN.out]; exact hx))
      clear hke hix
      go_wp2
      go_ret
      exact ⟨by rw [hF.out]; rfl, hbw.out⟩

theorem ky_iff {M : List (List Int)} {c : List Nat} {a b : Nat} : ky M c a = ky M c b ↔ cx c a = cx c b ∧ ∀ j, j < 3 → cx c (nt M a j) = cx c (nt M b j) := by
  unfold ky
  simp only [Prod.mk.injEq]
  constructor
  · rintro ⟨h, h0, h1, h2⟩
    refine ⟨h, fun j hj => ?_⟩
    match j, hj with
    | 0, _ => exact h0
    | 1, _ => exact h1
    | 2, _ => exact h2
  · rintro ⟨h, h1⟩
    exact ⟨h, h1 0 (by omega), h1 1 (by omega), h1 2 (by omega)⟩

set_option maxRecDepth 100000 in
set_option maxHeartbeats 4000000 in
theorem l12Alike_any (M : List (List Int)) (E : List Bool) (c : List Nat) (vM eM v : Value) (a b : Nat) (w : World) (hM : MAt w w.heap.size vM M) (hE : EAt w w.heap.size eM E) (hv : ZAt w w.heap.size v (zn c)) (hg : gm M E = true) (hl : c.length = M.length) (ha : a < M.length) (hb : b < M.length) :
    Calls Try.prog 84 #[.agg #[vM, eM], v, .int .i64 (a : Int), .int .i64 (b : Int)] w fun e w' => e = .returned (.bool (decide (ky M c a = ky M c b))) ∧ Below w.heap.size w w' := by
  have HM : Hid (MAt w w.heap.size vM M) := hM
  have HV : Hid (ZAt w w.heap.size v (zn c)) := hv
  have HG : Hid (gm M E = true) := hg
  have HL : Hid (c.length = M.length) := hl
  obtain ⟨aM, cM, rfl, hm1, hm2, _⟩ := hM
  obtain ⟨aE, cE, rfl, _⟩ := hE
  obtain ⟨av, cv, rfl, hc1, hc2, _⟩ := hv
  rw [zn_len] at hc1 HV
  rw [zn_len]
  unfold maxLen at hm2 hc2
  have h12 : M.length ≤ 12 := (gm_iff.1 hg).1.2.1
  rw [hl] at HV hc1
  rw [hl]
  obtain ⟨R, hR⟩ : ∃ R, R = decide (ky M c a = ky M c b) := ⟨_, rfl⟩
  have HR : Hid (R = decide (ky M c a = ky M c b)) := hR
  rw [← hR]
  clear hR hg hl
  obtain ⟨W1, hW1⟩ : ∃ W, W = w.alloc (.cells #[.slice aM M.length cM, .slice aE E.length cE] 30) := ⟨_, rfl⟩
  have hB1 : Below w.heap.size w W1 := by rw [hW1]; exact (Below.refl _ w).alloc (Nat.le_refl _) _
  have Q0 : Hid (W1.cell? ⟨w.heap.size, 0, none⟩ = some (.slice aM M.length cM)) := by show _ = _; rw [hW1]; go_simp
  have hz1 : w.heap.size < W1.heap.size := by rw [hW1]; simp
  obtain ⟨ga, oa, gu, ou, cu, hA1, hA2, hA3, hA4, hA5⟩ := HM.out.row HG.out ha
  obtain ⟨gb, ob, gt, ot, ct, hB1', hB2, hB3, hB4, hB5⟩ := HM.out.row HG.out hb
  subst hA1
  simp only [Option.some.injEq, Addr.mk.injEq] at hB1'
  obtain ⟨rfl, rfl, _⟩ := hB1'
  obtain ⟨gv, ov, hv1, hv2, hva⟩ := HV.out.cx (i := a) (by rw [HL.out]; exact ha)
  subst hv1
  have HVC : Hid (∀ x, x < M.length → w.cell? ⟨gv, ov + x, none⟩ = some (.int .i64 ((cx c x : Nat) : Int))) := fun x hx => by
    obtain ⟨g', o', e1, e2, e3⟩ := HV.out.cx (i := x) (by rw [HL.out]; exact hx)
    simp only [Option.some.injEq, Addr.mk.injEq] at e1
    obtain ⟨rfl, rfl, _⟩ := e1
    exact e3
  have hvb := HVC.out b hb
  have ca1 := (hB1.cell (p := ⟨gv, ov + a, none⟩) hv2).trans hva
  have cb1 := (hB1.cell (p := ⟨gv, ov + b, none⟩) hv2).trans hvb
  have HA3 : Hid (w.cell? ⟨ga, oa + a, none⟩ = some (.slice (some ⟨gu, ou, none⟩) 3 cu) ∧ w.cell? ⟨ga, oa + b, none⟩ = some (.slice (some ⟨gt, ot, none⟩) 3 ct)) := ⟨hA3, hB3⟩
  have HA5 : Hid (∀ k, k < 3 → w.cell? ⟨gu, ou + k, none⟩ = some (.int .i64 ((nt M a k : Nat) : Int)) ∧ w.cell? ⟨gt, ot + k, none⟩ = some (.int .i64 ((nt M b k : Nat) : Int)) ∧ nt M a k < M.length ∧ nt M b k < M.length) := fun k hk => ⟨hA5 k hk, hB5 k hk, (gm_next HG.out ha hk).2.1, (gm_next HG.out hb hk).2.1⟩
  have haM : (a : Int) < (M.length : Int) := by omega
  have hbM : (b : Int) < (M.length : Int) := by omega
  have HD0 : Hid (cx c a ≠ cx c b → R = false) := fun h => by rw [HR.out]; simp; intro e; exact h (ky_iff.1 e).1
  have HD1 : Hid (∀ k, k < 3 → cx c (nt M a k) ≠ cx c (nt M b k) → R = false) := fun k hk h => by rw [HR.out]; simp; intro e; exact h ((ky_iff.1 e).2 k hk)
  have HD2 : Hid (cx c a = cx c b → (∀ k, k < 3 → cx c (nt M a k) = cx c (nt M b k)) → R = true) := fun h1 h2 => by rw [HR.out]; simp; exact ky_iff.2 ⟨h1, h2⟩
  clear hva hvb hA3 hB3 hA5 hB5 HR
  generalize cx c a = x at ca1 HD0 HD2
  generalize cx c b = y at cb1 HD0 HD2
  go_enter Try.func84, Try.ntmps84
  go_upto_region 1 with fail
  rw [← hW1]
  clear hW1
  by_cases hxy : x = y
  · subst hxy
    have HD2' : Hid ((∀ k, k < 3 → cx c (nt M a k) = cx c (nt M b k)) → R = true) := HD2.out rfl
    clear HD0 HD2
    have q0 := Q0.out
    have r3 := (hB1.cell (p := ⟨ga, oa + a, none⟩) hA2).trans HA3.out.1
    go_quiet (fail)
    go_wp2
    go_loopw [25] (fun vi wr => ∃ i : Nat, i ≤ 3 ∧ vi = .int .i64 (i : Int) ∧ Hid (∀ j, j < i → cx c (nt M a j) = cx c (nt M b j)) ∧ Hid (Below W1.heap.size W1 wr))
      (fun vi _ => 3 - (intOf vi).toNat)
    case atStart => exact ⟨0, by omega, rfl, fun j hj => by omega, below_drewT (Below.refl _ _)⟩
    case round =>
      obtain ⟨i, hin, rfl, hix, hbw⟩ := hrel
      clear q0 r3 ca1 cb1
      have hBr : Below w.heap.size w wr := hB1.trans (hbw.out.mono hB1.size)
      by_cases hlt : i < 3
      · have hlt' : (i : Int) < 3 := by omega
        obtain ⟨n1, n2, n3, n4⟩ := HA5.out i hlt
        have q0 := (hbw.out.cell (p := ⟨w.heap.size, 0, none⟩) hz1).trans Q0.out
        have r3 := (hBr.cell (p := ⟨ga, oa + a, none⟩) hA2).trans HA3.out.1
        have r4 := (hBr.cell (p := ⟨ga, oa + b, none⟩) hA2).trans HA3.out.2
        replace n1 := (hBr.cell (p := ⟨gu, ou + i, none⟩) hA4).trans n1
        replace n2 := (hBr.cell (p := ⟨gt, ot + i, none⟩) hB4).trans n2
        have k1 := (hBr.cell (p := ⟨gv, ov + nt M a i, none⟩) hv2).trans (HVC.out _ n3)
        have k2 := (hBr.cell (p := ⟨gv, ov + nt M b i, none⟩) hv2).trans (HVC.out _ n4)
        have HE1 : Hid (cx c (nt M a i) ≠ cx c (nt M b i) → R = false) := HD1.out i hlt
        have HE2 : Hid (cx c (nt M a i) = cx c (nt M b i) → ∀ j, j < i + 1 → cx c (nt M a j) = cx c (nt M b j)) := fun h j hj => by
          by_cases e : j = i
          · rw [e]; exact h
          · exact hix.out j (by omega)
        clear hix
        generalize cx c (nt M a i) = p at k1 HE1 HE2
        generalize cx c (nt M b i) = q at k2 HE1 HE2
        generalize nt M a i = s at n1 n3 k1
        generalize nt M b i = t at n2 n4 k2
        have n3' : (s : Int) < (M.length : Int) := by omega
        have n4' : (t : Int) < (M.length : Int) := by omega
        go_upto_region 6 with fail
        by_cases hpq : p = q
        · subst hpq
          have hN : Hid (∀ j, j < i + 1 → cx c (nt M a j) = cx c (nt M b j)) := HE2.out rfl
          clear HE1 HE2
          go_quiet (fail)
          go_wp2
          go_roundw
          case rel => exact ⟨i + 1, by omega, by go_num, hN, below_drewT hbw.out⟩
          case measure => simp [intOf]; omega
        · have hF : Hid (R = false) := HE1.out hpq
          have hne : ((p : Int) == (q : Int)) = false := by simp; omega
          have hne2 : ¬ ((p : Int) = (q : Int)) := by omega
          clear HE1 HE2
          go_quiet (fail)
          go_wp2
          go_ret
          exact ⟨by rw [hF.out]; rfl, below_drewT hBr⟩
      · have hge : ¬ ((i : Int) < 3) := by omega
        have hF : Hid (R = true) := HD2'.out (fun k hk => hix.out k (by omega))
        clear hix
        go_wp2
        go_ret
        exact ⟨by rw [hF.out]; rfl, hBr⟩
  · have hF : Hid (R = false) := HD0.out hxy
    have hne : ((x : Int) == (y : Int)) = false := by simp; omega
    have hne2 : ¬ ((x : Int) = (y : Int)) := by omega
    clear HD0 HD2
    go_quiet (fail)
    go_wp2
    go_ret
    exact ⟨by rw [hF.out]; rfl, below_drewT hB1⟩

end Go.Proofs.Ytecgjhnihagleaa
