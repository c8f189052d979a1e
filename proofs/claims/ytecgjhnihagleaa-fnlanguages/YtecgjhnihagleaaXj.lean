/- The model's l12Same and l12Alike. The model's l12Split. The model's l12Classes and ClassesOf. The model's ClassesOf. -/
import Derived.Test.YtecgjhnihagleaaMcCa
import Derived.Test.YtecgjhnihagleaaXh
import Derived.Test.YtecgjhnihagleaaXi
import Derived.Test.YtecgjhnihagleaaMcH
namespace Go.Proofs.Ytecgjhnihagleaa
open Go.RowKit Plain Mch Tpc

theorem zn_get {c : List Nat} {i : Nat} (h : i < c.length) : (zn c)[i]? = some ((cx c i : Nat) : Int) := by
  unfold zn cx
  rw [List.getElem?_map, List.getD, List.getElem?_eq_getElem h]
  rfl

theorem ZAt.cx {w : World} {B : Nat} {ao : Option Addr} {n cap : Nat} {c : List Nat} (h : ZAt w B (.slice ao n cap) (zn c)) {i : Nat} (hi : i < c.length) :
    ∃ g o, ao = some ⟨g, o, none⟩ ∧ g < B ∧ w.cell? ⟨g, o + i, none⟩ = some (.int .i64 ((Mch.cx c i : Nat) : Int)) := by
  obtain ⟨a, cp, hv, _, _, hr⟩ := h
  simp only [Value.slice.injEq] at hv
  obtain ⟨rfl, rfl, rfl⟩ := hv
  exact hr i _ (zn_get hi)

set_option maxRecDepth 100000 in
set_option maxHeartbeats 4000000 in
theorem l12Same_any (c d : List Nat) (v u : Value) (w : World) (hv : ZAt w w.heap.size v (zn c)) (hu : ZAt w w.heap.size u (zn d)) (hl : c.length = d.length) (h12 : c.length ≤ 12) :
    Calls Try.prog 72 #[v, u] w fun e w' => e = .returned (.bool (decide (c = d))) ∧ Below w.heap.size w w' := by
  have HV : Hid (ZAt w w.heap.size v (zn c)) := hv
  have HU : Hid (ZAt w w.heap.size u (zn d)) := hu
  have HL : Hid (c.length = d.length) := hl
  obtain ⟨av, cv, rfl, hc1, hc2, _⟩ := hv
  obtain ⟨au, cu, rfl, hd1, hd2, _⟩ := hu
  rw [zn_len] at hc1 hd1 HV HU
  rw [zn_len, zn_len]
  unfold maxLen at hc2 hd2
  obtain ⟨n, hn⟩ : ∃ n, n = c.length := ⟨_, rfl⟩
  have HN : Hid (n = c.length) := hn
  rw [← hl, ← hn]
  rw [← hl] at HU hd1
  rw [← hn] at HV HU h12 hc1 hd1
  obtain ⟨R, hR⟩ : ∃ R, R = decide (c = d) := ⟨_, rfl⟩
  have HR : Hid (R = decide (c = d)) := hR
  rw [← hR]
  clear hR hn hl
  go_enter Try.func72, Try.ntmps72
  go_wp2
  go_loopw [8] (fun vi wr => ∃ i : Nat, i ≤ n ∧ vi = .int .i64 (i : Int) ∧ Hid (∀ j, j < i → cx c j = cx d j) ∧ Hid (Below w.heap.size w wr))
    (fun vi _ => n - (intOf vi).toNat)
  case atStart => exact ⟨0, by omega, rfl, fun j hj => by omega, Below.refl _ _⟩
  case round =>
    obtain ⟨i, hin, rfl, hix, hbw⟩ := hrel
    by_cases hlt : i < n
    · have hlt' : (i : Int) < (n : Int) := by omega
      obtain ⟨gv, ov, hv1, hv2, hv3⟩ := HV.out.cx (i := i) (by rw [← HN.out]; exact hlt)
      obtain ⟨gu, ou, hu1, hu2, hu3⟩ := HU.out.cx (i := i) (by rw [← HL.out, ← HN.out]; exact hlt)
      subst hv1 hu1
      have c1 := (hbw.out.cell (p := ⟨gv, ov + i, none⟩) hv2).trans hv3
      have c2 := (hbw.out.cell (p := ⟨gu, ou + i, none⟩) hu2).trans hu3
      have HD : Hid (cx c i ≠ cx d i → R = false) := fun h => by rw [HR.out]; simp; intro e; exact h (by rw [e])
      have HS : Hid (cx c i = cx d i → ∀ j, j < i + 1 → cx c j = cx d j) := fun h j hj => by
        by_cases e : j = i
        · rw [e]; exact h
        · exact hix.out j (by omega)
      clear hv3 hu3 hix
      generalize cx c i = x at c1 HD HS
      generalize cx d i = y at c2 HD HS
      go_upto_region 4 with fail
      by_cases hxy : x = y
      · subst hxy
        have hN : Hid (∀ j, j < i + 1 → cx c j = cx d j) := HS.out rfl
        clear HD HS
        go_quiet (fail)
        go_wp2
        go_roundw
        case rel => exact ⟨i + 1, by omega, by go_num, hN, below_drewT hbw.out⟩
        case measure => simp [intOf]; omega
      · have hF : Hid (R = false) := HD.out hxy
        have hne : ((x : Int) == (y : Int)) = false := by simp; omega
        have hne2 : ¬ ((x : Int) = (y : Int)) := by omega
        clear HD HS
        go_quiet (fail)
        go_wp2
        go_ret
        exact ⟨by rw [hF.out]; rfl, below_drewT hbw.out⟩
    · have hke : i = n := by omega
      have hge : ¬ ((i : Int) < (n : Int)) := by omega
      have hF : Hid (R = true) := by
        show _ = _
        rw [HR.out]
        simp
        exact cx_ext HL.out (fun x hx => hix.out x (by rw [hke, HN.out]; exact hx))
      clear hke hix
      go_wp2
      go_ret
      exact ⟨by rw [hF.out]; rfl, hbw.out⟩

theorem ky_iff {M : List (List Int)} {c : List Nat} {a b : Nat} : ky M c a = ky M c b ↔ cx c a = cx c b ∧ ∀ j, j < 3 → cx c (nt M a j) = cx c (nt M b j) := by
  unfold ky
  simp only [Prod.mk.injEq]
  constructor
  · rintro ⟨h, h0, h1, h2⟩
    refine ⟨h, fun j hj => ?_⟩
    match j, hj with
    | 0, _ => exact h0
    | 1, _ => exact h1
    | 2, _ => exact h2
  · rintro ⟨h, h1⟩
    exact ⟨h, h1 0 (by omega), h1 1 (by omega), h1 2 (by omega)⟩

set_option maxRecDepth 100000 in
set_option maxHeartbeats 4000000 in
theorem l12Alike_any (M : List (List Int)) (E : List Bool) (c : List Nat) (vM eM v : Value) (a b : Nat) (w : World) (hM : MAt w w.heap.size vM M) (hE : EAt w w.heap.size eM E) (hv : ZAt w w.heap.size v (zn c)) (hg : gm M E = true) (hl : c.length = M.length) (ha : a < M.length) (hb : b < M.length) :
    Calls Try.prog 84 #[.agg #[vM, eM], v, .int .i64 (a : Int), .int .i64 (b : Int)] w fun e w' => e = .returned (.bool (decide (ky M c a = ky M c b))) ∧ Below w.heap.size w w' := by
  have HM : Hid (MAt w w.heap.size vM M) := hM
  have HV : Hid (ZAt w w.heap.size v (zn c)) := hv
  have HG : Hid (gm M E = true) := hg
  have HL : Hid (c.length = M.length) := hl
  obtain ⟨aM, cM, rfl, hm1, hm2, _⟩ := hM
  obtain ⟨aE, cE, rfl, _⟩ := hE
  obtain ⟨av, cv, rfl, hc1, hc2, _⟩ := hv
  rw [zn_len] at hc1 HV
  rw [zn_len]
  unfold maxLen at hm2 hc2
  have h12 : M.length ≤ 12 := (gm_iff.1 hg).1.2.1
  rw [hl] at HV hc1
  rw [hl]
  obtain ⟨R, hR⟩ : ∃ R, R = decide (ky M c a = ky M c b) := ⟨_, rfl⟩
  have HR : Hid (R = decide (ky M c a = ky M c b)) := hR
  rw [← hR]
  clear hR hg hl
  obtain ⟨W1, hW1⟩ : ∃ W, W = w.alloc (.cells #[.slice aM M.length cM, .slice aE E.length cE] 30) := ⟨_, rfl⟩
  have hB1 : Below w.heap.size w W1 := by rw [hW1]; exact (Below.refl _ w).alloc (Nat.le_refl _) _
  have Q0 : Hid (W1.cell? ⟨w.heap.size, 0, none⟩ = some (.slice aM M.length cM)) := by show _ = _; rw [hW1]; go_simp
  have hz1 : w.heap.size < W1.heap.size := by rw [hW1]; simp
  obtain ⟨ga, oa, gu, ou, cu, hA1, hA2, hA3, hA4, hA5⟩ := HM.out.row HG.out ha
  obtain ⟨gb, ob, gt, ot, ct, hB1', hB2, hB3, hB4, hB5⟩ := HM.out.row HG.out hb
  subst hA1
  simp only [Option.some.injEq, Addr.mk.injEq] at hB1'
  obtain ⟨rfl, rfl, _⟩ := hB1'
  obtain ⟨gv, ov, hv1, hv2, hva⟩ := HV.out.cx (i := a) (by rw [HL.out]; exact ha)
  subst hv1
  have HVC : Hid (∀ x, x < M.length → w.cell? ⟨gv, ov + x, none⟩ = some (.int .i64 ((cx c x : Nat) : Int))) := fun x hx => by
    obtain ⟨g', o', e1, e2, e3⟩ := HV.out.cx (i := x) (by rw [HL.out]; exact hx)
    simp only [Option.some.injEq, Addr.mk.injEq] at e1
    obtain ⟨rfl, rfl, _⟩ := e1
    exact e3
  have hvb := HVC.out b hb
  have ca1 := (hB1.cell (p := ⟨gv, ov + a, none⟩) hv2).trans hva
  have cb1 := (hB1.cell (p := ⟨gv, ov + b, none⟩) hv2).trans hvb
  have HA3 : Hid (w.cell? ⟨ga, oa + a, none⟩ = some (.slice (some ⟨gu, ou, none⟩) 3 cu) ∧ w.cell? ⟨ga, oa + b, none⟩ = some (.slice (some ⟨gt, ot, none⟩) 3 ct)) := ⟨hA3, hB3⟩
  have HA5 : Hid (∀ k, k < 3 → w.cell? ⟨gu, ou + k, none⟩ = some (.int .i64 ((nt M a k : Nat) : Int)) ∧ w.cell? ⟨gt, ot + k, none⟩ = some (.int .i64 ((nt M b k : Nat) : Int)) ∧ nt M a k < M.length ∧ nt M b k < M.length) := fun k hk => ⟨hA5 k hk, hB5 k hk, (gm_next HG.out ha hk).2.1, (gm_next HG.out hb hk).2.1⟩
  have haM : (a : Int) < (M.length : Int) := by omega
  have hbM : (b : Int) < (M.length : Int) := by omega
  have HD0 : Hid (cx c a ≠ cx c b → R = false) := fun h => by rw [HR.out]; simp; intro e; exact h (ky_iff.1 e).1
  have HD1 : Hid (∀ k, k < 3 → cx c (nt M a k) ≠ cx c (nt M b k) → R = false) := fun k hk h => by rw [HR.out]; simp; intro e; exact h ((ky_iff.1 e).2 k hk)
  have HD2 : Hid (cx c a = cx c b → (∀ k, k < 3 → cx c (nt M a k) = cx c (nt M b k)) → R = true) := fun h1 h2 => by rw [HR.out]; simp; exact ky_iff.2 ⟨h1, h2⟩
  clear hva hvb hA3 hB3 hA5 hB5 HR
  generalize cx c a = x at ca1 HD0 HD2
  generalize cx c b = y at cb1 HD0 HD2
  go_enter Try.func84, Try.ntmps84
  go_upto_region 1 with fail
  rw [← hW1]
  clear hW1
  by_cases hxy : x = y
  · subst hxy
    have HD2' : Hid ((∀ k, k < 3 → cx c (nt M a k) = cx c (nt M b k)) → R = true) := HD2.out rfl
    clear HD0 HD2
    have q0 := Q0.out
    have r3 := (hB1.cell (p := ⟨ga, oa + a, none⟩) hA2).trans HA3.out.1
    go_quiet (fail)
    go_wp2
    go_loopw [25] (fun vi wr => ∃ i : Nat, i ≤ 3 ∧ vi = .int .i64 (i : Int) ∧ Hid (∀ j, j < i → cx c (nt M a j) = cx c (nt M b j)) ∧ Hid (Below W1.heap.size W1 wr))
      (fun vi _ => 3 - (intOf vi).toNat)
    case atStart => exact ⟨0, by omega, rfl, fun j hj => by omega, below_drewT (Below.refl _ _)⟩
    case round =>
      obtain ⟨i, hin, rfl, hix, hbw⟩ := hrel
      clear q0 r3 ca1 cb1
      have hBr : Below w.heap.size w wr := hB1.trans (hbw.out.mono hB1.size)
      by_cases hlt : i < 3
      · have hlt' : (i : Int) < 3 := by omega
        obtain ⟨n1, n2, n3, n4⟩ := HA5.out i hlt
        have q0 := (hbw.out.cell (p := ⟨w.heap.size, 0, none⟩) hz1).trans Q0.out
        have r3 := (hBr.cell (p := ⟨ga, oa + a, none⟩) hA2).trans HA3.out.1
        have r4 := (hBr.cell (p := ⟨ga, oa + b, none⟩) hA2).trans HA3.out.2
        replace n1 := (hBr.cell (p := ⟨gu, ou + i, none⟩) hA4).trans n1
        replace n2 := (hBr.cell (p := ⟨gt, ot + i, none⟩) hB4).trans n2
        have k1 := (hBr.cell (p := ⟨gv, ov + nt M a i, none⟩) hv2).trans (HVC.out _ n3)
        have k2 := (hBr.cell (p := ⟨gv, ov + nt M b i, none⟩) hv2).trans (HVC.out _ n4)
        have HE1 : Hid (cx c (nt M a i) ≠ cx c (nt M b i) → R = false) := HD1.out i hlt
        have HE2 : Hid (cx c (nt M a i) = cx c (nt M b i) → ∀ j, j < i + 1 → cx c (nt M a j) = cx c (nt M b j)) := fun h j hj => by
          by_cases e : j = i
          · rw [e]; exact h
          · exact hix.out j (by omega)
        clear hix
        generalize cx c (nt M a i) = p at k1 HE1 HE2
        generalize cx c (nt M b i) = q at k2 HE1 HE2
        generalize nt M a i = s at n1 n3 k1
        generalize nt M b i = t at n2 n4 k2
        have n3' : (s : Int) < (M.length : Int) := by omega
        have n4' : (t : Int) < (M.length : Int) := by omega
        go_upto_region 6 with fail
        by_cases hpq : p = q
        · subst hpq
          have hN : Hid (∀ j, j < i + 1 → cx c (nt M a j) = cx c (nt M b j)) := HE2.out rfl
          clear HE1 HE2
          go_quiet (fail)
          go_wp2
          go_roundw
          case rel => exact ⟨i + 1, by omega, by go_num, hN, below_drewT hbw.out⟩
          case measure => simp [intOf]; omega
        · have hF : Hid (R = false) := HE1.out hpq
          have hne : ((p : Int) == (q : Int)) = false := by simp; omega
          have hne2 : ¬ ((p : Int) = (q : Int)) := by omega
          clear HE1 HE2
          go_quiet (fail)
          go_wp2
          go_ret
          exact ⟨by rw [hF.out]; rfl, below_drewT hBr⟩
      · have hge : ¬ ((i : Int) < 3) := by omega
        have hF : Hid (R = true) := HD2'.out (fun k hk => hix.out k (by omega))
        clear hix
        go_wp2
        go_ret
        exact ⟨by rw [hF.out]; rfl, hBr⟩
  · have hF : Hid (R = false) := HD0.out hxy
    have hne : ((x : Int) == (y : Int)) = false := by simp; omega
    have hne2 : ¬ ((x : Int) = (y : Int)) := by omega
    clear HD0 HD2
    go_quiet (fail)
    go_wp2
    go_ret
    exact ⟨by rw [hF.out]; rfl, below_drewT hB1⟩

end Go.Proofs.Ytecgjhnihagleaa

namespace Go.Proofs.Ytecgjhnihagleaa
open Go.RowKit Plain Mch Tpc

theorem zn_cl {α : Type} [DecidableEq α] (f : Nat → α) (k : Nat) : zn (cl f (k + 1)) = zn (cl f k) ++ [((fi f k : Nat) : Int)] := by
  rw [cl_succ]
  simp [zn]

set_option maxRecDepth 100000 in
set_option maxHeartbeats 4000000 in
theorem l12Split_any (M : List (List Int)) (E : List Bool) (c : List Nat) (vM eM v : Value) (w : World) (hM : MAt w w.heap.size vM M) (hE : EAt w w.heap.size eM E) (hv : ZAt w w.heap.size v (zn c)) (hg : gm M E = true) (hl : c.length = M.length) :
    Calls Try.prog 71 #[.agg #[vM, eM], v] w fun e w' => ∃ r, e = .returned r ∧ ZRow w' w.heap.size r (zn (sp M c)) ∧ Below w.heap.size w w' := by
  obtain ⟨i0, hi, hz0, hz1, hz2⟩ := info_parts Try.infoInt
  have HM : Hid (MAt w w.heap.size vM M) := hM
  have HE : Hid (EAt w w.heap.size eM E) := hE
  have HV : Hid (ZAt w w.heap.size v (zn c)) := hv
  have HG : Hid (gm M E = true) := hg
  have HL : Hid (c.length = M.length) := hl
  obtain ⟨aM, cM, rfl, hm1, hm2, _⟩ := hM
  obtain ⟨aE, cE, rfl, _⟩ := hE
  obtain ⟨av, cv, rfl, hc1, hc2, _⟩ := hv
  rw [zn_len] at hc1 HV
  rw [zn_len]
  unfold maxLen at hm2 hc2
  have h12 : M.length ≤ 12 := (gm_iff.1 hg).1.2.1
  rw [hl] at HV hc1
  rw [hl]
  have HSP : Hid (sp M c = cl (ky M c) M.length) := by show _ = _; unfold sp; rw [hl]
  clear hg hl
  obtain ⟨W1, hW1⟩ : ∃ W, W = w.alloc (.cells #[.slice aM M.length cM, .slice aE E.length cE] 30) := ⟨_, rfl⟩
  have hB1 : Below w.heap.size w W1 := by rw [hW1]; exact (Below.refl _ w).alloc (Nat.le_refl _) _
  have Q0 : Hid (W1.cell? ⟨w.heap.size, 0, none⟩ = some (.slice aM M.length cM) ∧ W1.cell? ⟨w.heap.size, 1, none⟩ = some (.slice aE E.length cE)) := by refine ⟨?_, ?_⟩ <;> rw [hW1] <;> go_simp
  have HS1 : Hid (W1.heap.size = w.heap.size + 1) := by show _ = _; rw [hW1]; simp
  have HZ0 : Hid (ZRow W1 (w.heap.size + 1) (.slice none 0 0) (zn (cl (ky M c) 0))) := ⟨rfl, .inl ⟨rfl, rfl⟩⟩
  have CA : Hid (∀ (W : World) (a b : Nat), Below w.heap.size w W → a < M.length → b < M.length → Calls Try.prog 84 #[.agg #[.slice aM M.length cM, .slice aE E.length cE], .slice av M.length cv, .int .i64 (a : Int), .int .i64 (b : Int)] W fun e w' => e = .returned (.bool (decide (ky M c a = ky M c b))) ∧ Below W.heap.size W w') := fun W a b hW ha hb => l12Alike_any M E c _ _ _ a b W (HM.out.below hW) (HE.out.below hW) (HV.out.below hW) HG.out HL.out ha hb
  generalize ky M c = f at HSP HZ0 CA
  go_enter Try.func71, Try.ntmps71
  go_upto_region 1 with fail
  rw [← hW1]
  clear hW1
  go_wp2
  go_loopw [5, 11] (fun vo vi wr => ∃ i : Nat, i ≤ M.length ∧ vi = .int .i64 (i : Int) ∧ Hid (ZRow wr (w.heap.size + 1) vo (zn (cl f i))) ∧ Hid (Below (w.heap.size + 1) W1 wr))
    (fun _ vi _ => M.length - (intOf vi).toNat)
  case atStart => exact ⟨0, by omega, rfl, HZ0, Below.refl _ _⟩
  case round =>
    obtain ⟨i, hin, rfl, hO, hbw⟩ := hrel
    clear HZ0
    have hszr : w.heap.size + 1 ≤ wr.heap.size := by have := hbw.out.size; have := HS1.out; omega
    obtain ⟨ao, co, hvo⟩ := ZRow.slice hO.out
    subst hvo
    rw [zn_len, cl_len]
    rw [zn_len, cl_len] at hO
    by_cases hlt : i < M.length
    · have hlt' : (i : Int) < (M.length : Int) := by omega
      obtain ⟨wo, hwo⟩ : ∃ W, W = wr := ⟨_, rfl⟩
      rw [← hwo] at hO hbw hszr
      go_wp2
      rw [← hwo]
      clear hwo
      go_loopw [7, 8] (fun vc vo wr => ∃ j : Nat, j ≤ i ∧ vo = .int .i64 ((j : Int) - 1) ∧ vc = .int .i64 ((dn f i j : Nat) : Int) ∧ Hid (Below wo.heap.size wo wr))
        (fun _ vo _ => (intOf vo + 1).toNat)
      case atStart => exact ⟨i, by omega, rfl, by rw [dn_top], Below.refl _ _⟩
      case round =>
        obtain ⟨j, hji, rfl, rfl, hbk⟩ := hrel
        have hB1k : Below (w.heap.size + 1) W1 wr := hbw.out.trans (hbk.out.mono hszr)
        have hBk : Below w.heap.size w wr := hB1.trans (hB1k.mono (by omega))
        have hszk : w.heap.size + 1 ≤ wr.heap.size := by have := hbk.out.size; omega
        by_cases hj : 1 ≤ j
        · obtain ⟨o, rfl⟩ : ∃ o, j = o + 1 := ⟨j - 1, by omega⟩
          have ho : (((o + 1 : Nat) : Int) - 1) = (o : Int) := by omega
          rw [ho]
          have hge : (0 : Int) ≤ (o : Int) := by omega
          have q0 := (hB1k.cell (p := ⟨w.heap.size, 0, none⟩) (by show w.heap.size < _; omega)).trans Q0.out.1
          have q1 := (hB1k.cell (p := ⟨w.heap.size, 1, none⟩) (by show w.heap.size < _; omega)).trans Q0.out.2
          have hzw : w.heap.size < wr.heap.size := by omega
          go_wp2_with fail
          refine (CA.out _ o i hBk (by omega) hlt).mono ?_
          rintro e w5 ⟨rfl, hb5⟩
          have HB5 : Hid (Below wo.heap.size wo w5) := hbk.out.trans (hb5.mono hbk.out.size)
          by_cases hal : f o = f i
          · have hd : decide (f o = f i) = true := by simpa using hal
            rw [hd]
            have HDN : Hid (dn f i o = fi f o) := dn_hit f (by omega) hal
            obtain ⟨gz, oz, hz1', hz2', hz3'⟩ := (ZAt.own hO.out).cx (i := o) (by rw [cl_len]; omega)
            rw [cl_at f (by omega)] at hz3'
            subst hz1'
            have cz := (HB5.out.cell (p := ⟨gz, oz + o, none⟩) hz2').trans hz3'
            have hoi : (o : Int) < (i : Int) := by omega
            rw [← HDN.out] at cz
            clear hd hal hb5 hz3' q0 q1
            obtain ⟨D, hD⟩ : ∃ D, D = dn f i o := ⟨_, rfl⟩
            have HDD : Hid (D = dn f i o) := hD
            rw [← hD] at cz
            clear hD
            go_wp2
            go_roundw
            case rel => exact ⟨o, by omega, by go_num, by rw [HDD.out], HB5⟩
            case measure => simp [intOf] <;> omega
          · have hd : decide (f o = f i) = false := by simpa using hal
            rw [hd]
            have HDN : Hid (dn f i (o + 1) = dn f i o) := (dn_miss f hal).symm
            rw [HDN.out]
            clear hd hal hb5 q0 q1
            go_wp2
            go_roundw
            case rel => exact ⟨o, by omega, by go_num, rfl, HB5⟩
            case measure => simp [intOf] <;> omega
        · have hj0 : j = 0 := by omega
          subst hj0
          have hge : ¬ ((0 : Int) ≤ ((0 : Nat) : Int) - 1) := by omega
          have HDN : Hid (dn f i 0 = fi f i) := dn_done f i
          rw [HDN.out]
          have HOk : Hid (ZRow wr (w.heap.size + 1) (.slice ao i co) (zn (cl f i))) := ZRow.below hO.out hbk.out
          have HNX : Hid (zn (cl f (i + 1)) = zn (cl f i) ++ [((fi f i : Nat) : Int)]) := zn_cl f i
          have HKL : Hid ((zn (cl f i)).length = i) := by show _ = _; rw [zn_len, cl_len]
          generalize fi f i = x at HNX ⊢
          generalize zn (cl f i) = K at HOk HNX HKL
          have hi12 : i ≤ 12 := by omega
          clear hO HDN
          go_wp2_with (at_builtin; refine wpList_append_lies _ rfl _ _ 27 rfl (w.heap.size + 1) 3 i0 (.int .i64 0) 1 8 Try.underlying27 hi hz0 hz1 hz2 rfl (by decide) _ i _ rfl (World.ownsRow.alloc (by have h := HOk.out; unfold ZRow at h; rw [HKL.out] at h; exact h) _) ⟨wr.heap.size, 0, none⟩ 1 1 [.int .i64 (x : Int)] rfl rfl (World.news_of_block (heap_alloc_new wr _)) (onezJ _) (by omega) (by unfold maxLen; omega) (by omega) (by simp; omega) (wr.heap.size + 1) (by simp) ?_)
          intro g9 cap9 w9 hown9 hgrow9 hat9 hlt9
          have HO9 : Hid (ZRow w9 (w.heap.size + 1) (.slice (some ⟨g9, 0, none⟩) (i + 1) cap9) (zn (cl f (i + 1)))) := by
            rw [HNX.out]
            have h := hown9
            rw [← HKL.out] at h
            have h2 := ZRow.snocM h
            rw [HKL.out] at h2
            exact h2
          have HB9 : Hid (Below (w.heap.size + 1) W1 w9) := below_grown hB1k hszk hgrow9 (fun g hg => (World.ownsRow.lt HOk.out g hg).1)
          clear hown9 hgrow9 hat9 hlt9 HOk
          go_wp2
          go_roundw
          case rel => exact ⟨i + 1, by omega, by go_num, HO9, HB9⟩
          case measure => simp [intOf]; omega
    · have hke : i = M.length := by omega
      have hge : ¬ ((i : Int) < (M.length : Int)) := by omega
      have HEND : Hid (ZRow wr w.heap.size (.slice ao i co) (zn (sp M c))) := by
        have h := hO.out
        rw [hke] at h
        show World.ownsRow _ _ _ _ _ _ _
        rw [HSP.out, hke]
        exact own_lowerM h (by omega)
      have hBr : Below w.heap.size w wr := hB1.trans (hbw.out.mono (by omega))
      clear hke hO
      go_wp2
      go_ret
      exact ⟨_, rfl, HEND.out, hBr⟩

end Go.Proofs.Ytecgjhnihagleaa

namespace Go.Proofs.Ytecgjhnihagleaa
open Go.RowKit Plain Mch Tpc

set_option maxRecDepth 100000 in
set_option maxHeartbeats 8000000 in
theorem l12Classes_any (M : List (List Int)) (E : List Bool) (vM eM : Value) (w : World) (hM : MAt w w.heap.size vM M) (hE : EAt w w.heap.size eM E) (hg : gm M E = true) :
    Calls Try.prog 40 #[.agg #[vM, eM]] w fun e w' => (∃ r, e = .returned (.tuple #[r, .int .i64 ((cln M E : Nat) : Int)]) ∧ ZRow w' w.heap.size r (zn (cls M E))) ∧ Below w.heap.size w w' := by
  obtain ⟨i0, hi, hz0, hz1, hz2⟩ := info_parts Try.infoInt
  have HM : Hid (MAt w w.heap.size vM M) := hM
  have HE : Hid (EAt w w.heap.size eM E) := hE
  have HG : Hid (gm M E = true) := hg
  have HLE : Hid (E.length = M.length) := (gm_iff.1 hg).1.2.2
  have HE1 : Hid (1 ≤ E.length) := by have h1 := (gm_iff.1 hg).1.1; have h2 := HLE.out; show 1 ≤ _; omega
  obtain ⟨aM, cM, rfl, hm1, hm2, _⟩ := hM
  obtain ⟨aE, cE, rfl, he1, he2, _⟩ := hE
  unfold maxLen at hm2 he2
  have h12 : E.length ≤ 12 := by rw [HLE.out]; exact (gm_iff.1 hg).1.2.1
  clear hg
  obtain ⟨f, hf⟩ : ∃ f, f = en E := ⟨_, rfl⟩
  have HFE : Hid (f = en E) := hf
  have HC0 : Hid (c0 E = cl f E.length) := by show _ = _; rw [hf]; rfl
  clear hf
  obtain ⟨CN, hCN⟩ : ∃ n, n = cln M E := ⟨_, rfl⟩
  obtain ⟨CL, hCL⟩ : ∃ n, n = cls M E := ⟨_, rfl⟩
  have HCN : Hid (CN = cln M E) := hCN
  have HCL : Hid (CL = cls M E) := hCL
  rw [← hCN, ← hCL]
  clear hCN hCL
  obtain ⟨W1, hW1⟩ : ∃ W, W = w.alloc (.cells #[.slice aM M.length cM, .slice aE E.length cE] 30) := ⟨_, rfl⟩
  have hB1 : Below w.heap.size w W1 := by rw [hW1]; exact (Below.refl _ w).alloc (Nat.le_refl _) _
  have Q0 : Hid (W1.cell? ⟨w.heap.size, 0, none⟩ = some (.slice aM M.length cM) ∧ W1.cell? ⟨w.heap.size, 1, none⟩ = some (.slice aE E.length cE)) := by refine ⟨?_, ?_⟩ <;> rw [hW1] <;> go_simp
  have HS1 : Hid (W1.heap.size = w.heap.size + 1) := by show _ = _; rw [hW1]; simp
  have qe := Q0.out.2
  have hzw1 : w.heap.size < W1.heap.size := by have := HS1.out; omega
  have HZ0 : Hid (ZRow W1 (w.heap.size + 1) (.slice none 0 0) (zn (cl f 0))) := ⟨rfl, .inl ⟨rfl, rfl⟩⟩
  go_enter Try.func40, Try.ntmps40
  go_upto_region 1 with fail
  rw [← hW1]
  clear hW1
  go_wp2
  go_loopw [4, 13] (fun vo vi wr => ∃ i : Nat, i ≤ E.length ∧ vi = .int .i64 (i : Int) ∧ Hid (ZRow wr (w.heap.size + 1) vo (zn (cl f i))) ∧ Hid (Below (w.heap.size + 1) W1 wr))
    (fun _ vi _ => E.length - (intOf vi).toNat)
  case atStart => exact ⟨0, by omega, rfl, HZ0, Below.refl _ _⟩
  case round =>
    obtain ⟨i, hin, rfl, hO, hbw⟩ := hrel
    clear HZ0
    (try clear qe hzw1)
    have hszr : w.heap.size + 1 ≤ wr.heap.size := by have := hbw.out.size; have := HS1.out; omega
    obtain ⟨ao, co, hvo⟩ := ZRow.slice hO.out
    subst hvo
    rw [zn_len, cl_len]
    rw [zn_len, cl_len] at hO
    by_cases hlt : i < E.length
    · have hlt' : (i : Int) < (E.length : Int) := by omega
      obtain ⟨wo, hwo⟩ : ∃ W, W = wr := ⟨_, rfl⟩
      rw [← hwo] at hO hbw hszr
      go_wp2
      rw [← hwo]
      clear hwo
      go_loopw [6, 7] (fun vc vo wr => ∃ j : Nat, j ≤ i ∧ vo = .int .i64 ((j : Int) - 1) ∧ vc = .int .i64 ((dn f i j : Nat) : Int) ∧ Hid (Below wo.heap.size wo wr))
        (fun _ vo _ => (intOf vo + 1).toNat)
      case atStart => exact ⟨i, by omega, rfl, by rw [dn_top], Below.refl _ _⟩
      case round =>
        obtain ⟨j, hji, rfl, rfl, hbk⟩ := hrel
        have hB1k : Below (w.heap.size + 1) W1 wr := hbw.out.trans (hbk.out.mono hszr)
        have hBk : Below w.heap.size w wr := hB1.trans (hB1k.mono (by omega))
        have hszk : w.heap.size + 1 ≤ wr.heap.size := by have := hbk.out.size; omega
        by_cases hj : 1 ≤ j
        · obtain ⟨o, rfl⟩ : ∃ o, j = o + 1 := ⟨j - 1, by omega⟩
          have ho : (((o + 1 : Nat) : Int) - 1) = (o : Int) := by omega
          rw [ho]
          have hge : (0 : Int) ≤ (o : Int) := by omega
          have q0 := (hB1k.cell (p := ⟨w.heap.size, 0, none⟩) (by show w.heap.size < _; omega)).trans Q0.out.1
          have q1 := (hB1k.cell (p := ⟨w.heap.size, 1, none⟩) (by show w.heap.size < _; omega)).trans Q0.out.2
          have hzw : w.heap.size < wr.heap.size := by omega
          have hBW : Below w.heap.size w wr := hBk
          obtain ⟨gE, oE, hvE, hgE, cO⟩ := HE.out.to (i := o) (by omega)
          have cO' := (hBW.cell (p := ⟨gE, oE + o, none⟩) hgE).trans cO
          obtain ⟨gE2, oE2, hvE2, _, cI⟩ := HE.out.to (i := i) hlt
          rw [hvE] at hvE2
          simp only [Option.some.injEq, Addr.mk.injEq] at hvE2
          obtain ⟨rfl, rfl, _⟩ := hvE2
          have cI' := (hBW.cell (p := ⟨gE, oE + i, none⟩) hgE).trans cI
          subst hvE
          have hoE : (o : Int) < (E.length : Int) := by omega
          have HB5 : Hid (Below wo.heap.size wo wr) := hbk.out
          have HFO : Hid (f o = en E o) := by rw [HFE.out]; rfl
          have HFI : Hid (f i = en E i) := by rw [HFE.out]; rfl
          rw [← HFO.out] at cO'
          rw [← HFI.out] at cI'
          clear cO cI
          go_upto_region 9 with fail
          by_cases hal : f o = f i
          · have HDN : Hid (dn f i o = fi f o) := dn_hit f (by omega) hal
            obtain ⟨gz, oz, hz1', hz2', hz3'⟩ := (ZAt.own hO.out).cx (i := o) (by rw [cl_len]; omega)
            rw [cl_at f (by omega)] at hz3'
            subst hz1'
            have cz := (HB5.out.cell (p := ⟨gz, oz + o, none⟩) hz2').trans hz3'
            have hoi : (o : Int) < (i : Int) := by omega
            rw [← HDN.out] at cz
            clear hz3'
            obtain ⟨D, hD⟩ : ∃ D, D = dn f i o := ⟨_, rfl⟩
            have HDD : Hid (D = dn f i o) := hD
            rw [← hD] at cz
            clear hD HFO HFI
            rw [hal] at cO'
            have cz' : ∀ n, (wr.drewN n).cell? ⟨gz, oz + o, none⟩ = some (.int .i64 (D : Int)) := fun _ => cz
            generalize f i = y at cO' cI'
            clear hal
            cases y <;>
            · go_quiet (fail)
              go_wp2
              go_roundw
              case rel => exact ⟨o, by omega, by go_num, by rw [HDD.out], below_drewT HB5.out⟩
              case measure => simp [intOf] <;> omega
          · have HDN : Hid (dn f i (o + 1) = dn f i o) := (dn_miss f hal).symm
            rw [HDN.out]
            have hcase : (f o = true ∧ f i = false) ∨ (f o = false ∧ f i = true) := by cases h1 : f o <;> cases h2 : f i <;> simp_all
            clear HFO HFI hal
            rcases hcase with ⟨e1, e2⟩ | ⟨e1, e2⟩
            all_goals
              rw [e1] at cO'
              rw [e2] at cI'
              clear e1 e2
              go_quiet (fail)
              go_wp2
              go_roundw
              case rel => exact ⟨o, by omega, by go_num, rfl, below_drewT HB5.out⟩
              case measure => simp [intOf] <;> omega
        · have hj0 : j = 0 := by omega
          subst hj0
          have hge : ¬ ((0 : Int) ≤ ((0 : Nat) : Int) - 1) := by omega
          have HDN : Hid (dn f i 0 = fi f i) := dn_done f i
          rw [HDN.out]
          have HOk : Hid (ZRow wr (w.heap.size + 1) (.slice ao i co) (zn (cl f i))) := ZRow.below hO.out hbk.out
          have HNX : Hid (zn (cl f (i + 1)) = zn (cl f i) ++ [((fi f i : Nat) : Int)]) := zn_cl f i
          have HKL : Hid ((zn (cl f i)).length = i) := by show _ = _; rw [zn_len, cl_len]
          generalize fi f i = x at HNX ⊢
          generalize zn (cl f i) = K at HOk HNX HKL
          have hi12 : i ≤ 12 := by omega
          clear hO HDN
          go_wp2_with (at_builtin; refine wpList_append_lies _ rfl _ _ 27 rfl (w.heap.size + 1) 3 i0 (.int .i64 0) 1 8 Try.underlying27 hi hz0 hz1 hz2 rfl (by decide) _ i _ rfl (World.ownsRow.alloc (by have h := HOk.out; unfold ZRow at h; rw [HKL.out] at h; exact h) _) ⟨wr.heap.size, 0, none⟩ 1 1 [.int .i64 (x : Int)] rfl rfl (World.news_of_block (heap_alloc_new wr _)) (onezJ _) (by omega) (by unfold maxLen; omega) (by omega) (by simp; omega) (wr.heap.size + 1) (by simp) ?_)
          intro g9 cap9 w9 hown9 hgrow9 hat9 hlt9
          have HO9 : Hid (ZRow w9 (w.heap.size + 1) (.slice (some ⟨g9, 0, none⟩) (i + 1) cap9) (zn (cl f (i + 1)))) := by
            rw [HNX.out]
            have h := hown9
            rw [← HKL.out] at h
            have h2 := ZRow.snocM h
            rw [HKL.out] at h2
            exact h2
          have HB9 : Hid (Below (w.heap.size + 1) W1 w9) := below_grown hB1k hszk hgrow9 (fun g hg => (World.ownsRow.lt HOk.out g hg).1)
          clear hown9 hgrow9 hat9 hlt9 HOk
          go_wp2
          go_roundw
          case rel => exact ⟨i + 1, by omega, by go_num, HO9, HB9⟩
          case measure => simp [intOf]; omega
    · have hke : i = E.length := by omega
      have hge : ¬ ((i : Int) < (E.length : Int)) := by omega
      have HEND : Hid (ZRow wr (w.heap.size + 1) (.slice ao i co) (zn (c0 E))) := by
        have h := hO.out
        rw [hke] at h
        show World.ownsRow _ _ _ _ _ _ _
        rw [HC0.out, hke]
        exact h
      have HRD : Hid (Rd M E (c0 E) 0) := Rd.start HE1.out
      clear hke hO
      go_wp2
      obtain ⟨wo, hwo⟩ : ∃ W, W = wr := ⟨_, rfl⟩
      rw [← hwo] at HEND hbw hszr
      rw [← hwo]
      clear hwo
      go_loopw [4, 8] (fun vc vr wr => ∃ (r : Nat) (c : List Nat), vr = .int .i64 (r : Int) ∧ Hid (ZRow wr (w.heap.size + 1) vc (zn c)) ∧ Hid (Rd M E c r) ∧ Hid (Below (w.heap.size + 1) W1 wr))
        (fun _ vr _ => 13 - (intOf vr).toNat)
      case atStart => exact ⟨0, _, rfl, HEND, HRD, hbw⟩
      case round =>
        obtain ⟨r, c, rfl, hC, hR, hbk⟩ := hrel
        clear HEND HRD
        have hszk : w.heap.size + 1 ≤ wr.heap.size := by have := hbk.out.size; have := HS1.out; omega
        have hr11 : r ≤ 11 := hR.out.le h12
        obtain ⟨ac, cc, hvc⟩ := ZRow.slice hC.out
        subst hvc
        have q0 := (hbk.out.cell (p := ⟨w.heap.size, 0, none⟩) (by show w.heap.size < _; omega)).trans Q0.out.1
        have q1 := (hbk.out.cell (p := ⟨w.heap.size, 1, none⟩) (by show w.heap.size < _; omega)).trans Q0.out.2
        have hzw : w.heap.size < wr.heap.size := by omega
        have hBk : Below w.heap.size w wr := hB1.trans (hbk.out.mono (by omega))
        have HNK : Hid ((zn c).length = E.length) := by show _ = _; rw [zn_len]; exact hR.out.len
        generalize hnn : (zn c).length = nn at hC HNK ⊢
        clear hnn
        go_wp2_with fail
        refine (l12Split_any M E c _ _ _ _ (HM.out.below hBk) (HE.out.below hBk) (ZAt.own hC.out) HG.out (by rw [hR.out.len, HLE.out])).mono ?_
        rintro e w5 ⟨r5, rfl, ho5, hb5⟩
        have HC5 : Hid (ZRow w5 (w.heap.size + 1) (.slice ac nn cc) (zn c)) := ZRow.below hC.out hb5
        have HO5 : Hid (ZRow w5 (w.heap.size + 1) r5 (zn (sp M c))) := own_lowerM ho5 (by omega)
        have HB5 : Hid (Below (w.heap.size + 1) W1 w5) := hbk.out.trans (hb5.mono hszk)
        obtain ⟨a5, c5, hv5⟩ := ZRow.slice HO5.out
        subst hv5
        clear ho5 hb5 q0 q1 hC
        go_wp2_with fail
        refine (l12Same_any (sp M c) c _ _ _ (ZAt.own HO5.out) (ZAt.own HC5.out) (sp_len M c) (by rw [sp_len, hR.out.len]; exact h12)).mono ?_
        rintro e w6 ⟨rfl, hb6⟩
        have HC6 : Hid (ZRow w6 (w.heap.size + 1) (.slice ac nn cc) (zn c)) := ZRow.below HC5.out hb6
        have HO6 : Hid (ZRow w6 (w.heap.size + 1) (.slice a5 (zn (sp M c)).length c5) (zn (sp M c))) := ZRow.below HO5.out hb6
        have HB6 : Hid (Below (w.heap.size + 1) W1 w6) := HB5.out.trans (hb6.mono (by have := HB5.out.size; have := HS1.out; omega))
        clear hb6 HC5 HO5 HB5
        by_cases hsame : sp M c = c
        · have hd : decide (sp M c = c) = true := by simpa using hsame
          rw [hd]
          have HDN : Hid (CL = c ∧ CN = r) := by have h := hR.out.done h12 hsame; exact ⟨HCL.out.trans h.1, HCN.out.trans h.2⟩
          have hBe : Below w.heap.size w w6 := hB1.trans (HB6.out.mono (by omega))
          clear hd hsame
          go_wp2
          go_ret2
          refine ⟨⟨_, by rw [HDN.out.2]; rfl, ?_⟩, hBe⟩
          rw [HDN.out.1]
          exact own_lowerM HC6.out (by omega)
        · have hd : decide (sp M c = c) = false := by simpa using hsame
          rw [hd]
          have HRN : Hid (Rd M E (sp M c) (r + 1)) := hR.out.next h12 hsame
          clear hd hsame
          go_wp2
          go_roundw
          case rel => exact ⟨r + 1, _, by go_num, HO6, HRN, HB6⟩
          case measure => simp [intOf]; omega

end Go.Proofs.Ytecgjhnihagleaa

namespace Go.Proofs.Ytecgjhnihagleaa
open Go.RowKit Plain Mch Tpc

def Mch.clo (M : List (List Int)) (E : List Bool) : List Int := if gm M E then zn (cls M E) else []
def Mch.clw (M : List (List Int)) (E : List Bool) : Nat := if gm M E then cln M E else 0

theorem clr_len (M : List (List Int)) : ∀ f c r, (clr M f c r).1.length = c.length
  | 0, _, _ => rfl
  | f + 1, c, r => by
    rw [clr]
    split
    · rfl
    · rw [clr_len M f, sp_len]
theorem cls_len (M : List (List Int)) (E : List Bool) : (cls M E).length = E.length := by
  unfold cls
  rw [clr_len]
  exact cl_len _ _
theorem clo_len (M : List (List Int)) (E : List Bool) : (clo M E).length ≤ 12 := by
  unfold clo
  split
  · rename_i hg
    have h := (gm_iff.1 hg).1
    rw [zn_len, cls_len]
    omega
  · simp

set_option maxRecDepth 100000 in
set_option maxHeartbeats 4000000 in
theorem specClasses (M : List (List Int)) (E : List Bool) (v e : Value) (w : World) (hM : MAt w w.heap.size v M) (hE : EAt w w.heap.size e E) :
    Calls Try.prog 8 #[.agg #[v, e]] w fun x w' => (∃ r, x = .returned (.tuple #[r, .int .i64 ((clw M E : Nat) : Int), .bool (gm M E)]) ∧ ZRow w' w.heap.size r (clo M E)) ∧ Below w.heap.size w w' := by
  have HM : Hid (MAt w w.heap.size v M) := hM
  have HE : Hid (EAt w w.heap.size e E) := hE
  obtain ⟨aM, cM, rfl, hm1, hm2, _⟩ := hM
  obtain ⟨aE, cE, rfl, he1, he2, _⟩ := hE
  obtain ⟨W1, hW1⟩ : ∃ W, W = w.alloc (.cells #[.slice aM M.length cM, .slice aE E.length cE] 30) := ⟨_, rfl⟩
  have hB1 : Below w.heap.size w W1 := by rw [hW1]; exact (Below.refl _ w).alloc (Nat.le_refl _) _
  have q0 : W1.cell? ⟨w.heap.size, 0, none⟩ = some (.slice aM M.length cM) := by rw [hW1]; go_simp
  have q1 : W1.cell? ⟨w.heap.size, 1, none⟩ = some (.slice aE E.length cE) := by rw [hW1]; go_simp
  have hl0 : w.heap.size < W1.heap.size := by rw [hW1]; simp
  obtain ⟨G, hG⟩ : ∃ G, G = gm M E := ⟨_, rfl⟩
  obtain ⟨C, hC⟩ : ∃ C, C = clo M E := ⟨_, rfl⟩
  obtain ⟨N, hN⟩ : ∃ N, N = clw M E := ⟨_, rfl⟩
  have HG : Hid (G = gm M E) := hG
  have HC : Hid (C = clo M E) := hC
  have HN : Hid (N = clw M E) := hN
  rw [← hG, ← hC, ← hN]
  clear hG hC hN
  go_enter Try.func8, Try.ntmps8
  go_wp2_with fail
  rw [← hW1]
  clear hW1
  refine (specGoodM M E _ _ _ (HM.out.below hB1) (HE.out.below hB1)).mono ?_
  rintro x w2 ⟨rfl, hb2⟩
  replace q0 := (hb2.cell (p := ⟨w.heap.size, 0, none⟩) hl0).trans q0
  replace q1 := (hb2.cell (p := ⟨w.heap.size, 1, none⟩) hl0).trans q1
  have hB2 : Below w.heap.size w w2 := hB1.trans (hb2.mono hB1.size)
  replace hl0 : w.heap.size < w2.heap.size := by have := hb2.size; omega
  clear hb2 hB1
  cases hg : gm M E with
  | false =>
    have hF : Hid (G = false ∧ C = [] ∧ N = 0) := ⟨HG.out.trans hg, by rw [HC.out]; unfold clo; rw [hg]; rfl, by rw [HN.out]; unfold clw; rw [hg]; rfl⟩
    clear hg
    go_wp2
    go_ret3
    exact ⟨⟨_, by rw [hF.out.1, hF.out.2.2]; rfl, by rw [hF.out.2.1]; exact ⟨rfl, .inl ⟨rfl, rfl⟩⟩⟩, hB2⟩
  | true =>
    have hF : Hid (G = true ∧ C = zn (cls M E) ∧ N = cln M E) := ⟨HG.out.trans hg, by rw [HC.out]; unfold clo; rw [hg]; rfl, by rw [HN.out]; unfold clw; rw [hg]; rfl⟩
    have HGT : Hid (gm M E = true) := hg
    clear hg
    go_wp2_with fail
    refine (l12Classes_any M E _ _ _ (HM.out.below hB2) (HE.out.below hB2) HGT.out).mono ?_
    rintro x w3 ⟨⟨r3, rfl, ho3⟩, hb3⟩
    have HO3 : Hid (ZRow w3 w.heap.size r3 C) := by
      show World.ownsRow _ _ _ _ _ _ _
      rw [hF.out.2.1]
      exact own_lowerM ho3 hB2.size
    have hB3 : Below w.heap.size w w3 := hB2.trans (hb3.mono hB2.size)
    rw [← hF.out.2.2]
    clear ho3 hb3 hB2 q0 q1
    obtain ⟨a3, c3, hv3⟩ := ZRow.slice HO3.out
    subst hv3
    go_wp2
    go_ret3
    exact ⟨⟨_, by rw [hF.out.1]; rfl, HO3.out⟩, hB3⟩

end Go.Proofs.Ytecgjhnihagleaa
