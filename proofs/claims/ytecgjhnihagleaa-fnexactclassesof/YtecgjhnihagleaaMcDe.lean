/- The program's classesOf and ClassesOf. -/
import Derived.Test.YtecgjhnihagleaaMcDd
import Derived.Test.YtecgjhnihagleaaMcCe
import Derived.Test.YtecgjhnihagleaaMcG
import Derived.Deep.LoopGhost
import Derived.Laws.OwnMore
namespace Go.Proofs.Ytecgjhnihagleaa
open Go.RowKit Plain Mch Tpc

theorem made_zeros (n : Nat) : (madeCells (Value.int .i64 0).cells n).toList = zints (zn (List.replicate n 0)) := by
  rw [show (Value.int .i64 0).cells = #[Value.int .i64 0] from rfl, toList_madeCells_one]
  simp [zints, zn]

/-- how far the rounds are, with what the program's way of parting wants -/
structure Rv (M : List (List Int)) (E : List Bool) (c : List Nat) (r : Nat) : Prop where
  rd : Rd M E c r
  iv : Iv M E c

theorem Rv.next {M : List (List Int)} {E : List Bool} {c : List Nat} {r : Nat} (h : Rv M E c r) (hg : gm M E = true) (hE : E.length ≤ 12) (hne : dv M E c ≠ c) : Rv M E (dv M E c) (r + 1) := by
  have hlE := (gm_iff.1 hg).1.2.2
  have hl : c.length = M.length := h.rd.len.trans hlE
  rw [h.iv.dv] at hne ⊢
  exact ⟨h.rd.next hE hne, h.iv.next (fun x k hx hk => by rw [hl] at hx ⊢; exact (gm_next hg hx hk).2.1)⟩

theorem Rv.done {M : List (List Int)} {E : List Bool} {c : List Nat} {r : Nat} (h : Rv M E c r) (hE : E.length ≤ 12) (he : dv M E c = c) : cls M E = c ∧ cln M E = r := by
  rw [h.iv.dv] at he
  exact h.rd.done hE he

set_option maxRecDepth 100000 in
set_option maxHeartbeats 8000000 in
theorem classesOf_any (M : List (List Int)) (E : List Bool) (vM eM : Value) (w : World) (hM : MAt w w.heap.size vM M) (hE : EAt w w.heap.size eM E) (hg : gm M E = true) :
    Calls Try.prog 43 #[.agg #[vM, eM]] w fun e w' => (∃ r, e = .returned (.tuple #[r, .int .i64 ((cln M E : Nat) : Int)]) ∧ ZRow w' w.heap.size r (zn (cls M E))) ∧ Below w.heap.size w w' := by
  obtain ⟨i0, hi, hz0, hz1, hz2⟩ := info_parts Try.infoInt
  have HM : Hid (MAt w w.heap.size vM M) := hM
  have HE : Hid (EAt w w.heap.size eM E) := hE
  have HG : Hid (gm M E = true) := hg
  have HLE : Hid (E.length = M.length) := (gm_iff.1 hg).1.2.2
  have HE1 : Hid (1 ≤ E.length) := by have h1 := (gm_iff.1 hg).1.1; have h2 := HLE.out; show 1 ≤ _; omega
  obtain ⟨aM, cM, rfl, hm1, hm2, _⟩ := hM
  obtain ⟨aE, cE, rfl, he1, he2, _⟩ := hE
  unfold maxLen at hm2 he2
  have h12 : E.length ≤ 12 := by rw [HLE.out]; exact (gm_iff.1 hg).1.2.1
  clear hg
  obtain ⟨CN, hCN⟩ : ∃ n, n = cln M E := ⟨_, rfl⟩
  obtain ⟨CL, hCL⟩ : ∃ n, n = cls M E := ⟨_, rfl⟩
  have HCN : Hid (CN = cln M E) := hCN
  have HCL' : Hid (CL = cls M E) := hCL
  rw [← hCN, ← hCL]
  clear hCN hCL
  obtain ⟨Z, hZ⟩ : ∃ Z, Z = madeCells (Value.int .i64 0).cells (((E.length : Nat) : Int).toNat * i0.size) := ⟨_, rfl⟩
  have hZs : Z.size = E.length * 1 := by rw [hZ, size_madeCells, hz1]; simp
  have hZl : Z.toList = zints (zn (List.replicate E.length 0)) := by rw [hZ, hz1]; have h := made_zeros E.length; simpa using h
  have hmk : ∀ W : World, (Instr.makeSlice 27 (.int .i64 (E.length : Int)) (.int .i64 (E.length : Int))).run Try.prog W = .ok (.slice (some ⟨W.heap.size, 0, none⟩) E.length E.length) (W.alloc (.cells Z 3)) := fun W => by
    have h := run_make (P := Try.prog) W 27 3 i0 (.int .i64 0) Try.underlying27 hi hz0 .i64 .i64 (E.length : Int) (E.length : Int) (by omega) (by omega) (by rw [hz2]; omega) (by omega)
    rw [← hZ] at h
    simpa using h
  clear hZ
  obtain ⟨W0, hW0⟩ : ∃ W, W = w.alloc (.cells #[.slice aM M.length cM, .slice aE E.length cE] 30) := ⟨_, rfl⟩
  have hB0 : Below w.heap.size w W0 := by rw [hW0]; exact (Below.refl _ w).alloc (Nat.le_refl _) _
  have q00 : W0.cell? ⟨w.heap.size, 0, none⟩ = some (.slice aM M.length cM) := by rw [hW0]; go_simp
  have q01 : W0.cell? ⟨w.heap.size, 1, none⟩ = some (.slice aE E.length cE) := by rw [hW0]; go_simp
  have HS0 : Hid (W0.heap.size = w.heap.size + 1) := by show _ = _; rw [hW0]; simp
  have hzw0 : w.heap.size < W0.heap.size := by rw [HS0.out]; omega
  obtain ⟨W1, hW1⟩ : ∃ W, W = W0.alloc (.cells Z 3) := ⟨_, rfl⟩
  have hB01 : Below W0.heap.size W0 W1 := by rw [hW1]; exact (Below.refl _ W0).alloc (Nat.le_refl _) _
  have hB1 : Below w.heap.size w W1 := hB0.trans (hB01.mono hB0.size)
  have HS1 : Hid (W1.heap.size = w.heap.size + 2) := by show _ = _; rw [hW1, World.size_alloc, HS0.out]
  have Q0 : Hid (W1.cell? ⟨w.heap.size, 0, none⟩ = some (.slice aM M.length cM) ∧ W1.cell? ⟨w.heap.size, 1, none⟩ = some (.slice aE E.length cE)) := ⟨(hB01.cell (p := ⟨w.heap.size, 0, none⟩) hzw0).trans q00, (hB01.cell (p := ⟨w.heap.size, 1, none⟩) hzw0).trans q01⟩
  have HZ1 : Hid (ZRow W1 (w.heap.size + 1) (.slice (some ⟨w.heap.size + 1, 0, none⟩) E.length E.length) (zn (List.replicate E.length 0))) := by
    have hh := heap_alloc_new W0 (.cells Z 3)
    rw [← hW1, HS0.out] at hh
    unfold Hid ZRow
    rw [zn_len, List.length_replicate]
    exact ⟨by rw [← hZl]; simp [hZs], .inr ⟨w.heap.size + 1, E.length, Z, rfl, Nat.le_refl _, hh, Nat.le_refl _, by unfold maxLen; omega, hZs, by rw [← hZl, List.take_of_length_le (by simp [hZs])]⟩⟩
  have q0 := Q0.out.1
  have q1 := Q0.out.2
  have hzw : w.heap.size < W1.heap.size := by rw [HS1.out]; omega
  clear hZl hZs
  go_enter Try.func43, Try.ntmps43
  go_upto_region 1 with fail
  rw [← hW0]
  clear hW0
  have hs0 : W0.heap.size = w.heap.size + 1 := HS0.out
  go_step3
  go_upto_region 2 with fail
  rw [← hW1]
  clear hW1 hs0 q00 q01 hmk
  go_wp2_with fail
  refine (divide_any M E (List.replicate E.length 0) _ _ _ _ (HM.out.below hB1) (HE.out.below hB1) (ZAt.own HZ1.out) HG.out (by rw [List.length_replicate, HLE.out])).mono ?_
  rintro e w2 ⟨r2, rfl, ho2, hb2⟩
  rw [dv_zero] at ho2
  have HO2 : Hid (ZRow w2 (w.heap.size + 1) r2 (zn (c0 E))) := own_lowerM ho2 (by omega)
  have HB2 : Hid (Below (w.heap.size + 1) W1 w2) := hb2.mono (by omega)
  have HR2 : Hid (Rv M E (c0 E) 0) := ⟨Rd.start HE1.out, Iv.start M E⟩
  clear ho2 hb2 q0 q1 HZ1
  go_wp2
  go_step3
  go_wp2
  go_loopg [5, 6] 13 (fun k vc vr wr => ∃ (r : Nat) (c : List Nat), k + r = 13 ∧ vr = .int .i64 (r : Int) ∧ Hid (ZRow wr (w.heap.size + 1) vc (zn c)) ∧ Hid (Rv M E c r) ∧ Hid (Below (w.heap.size + 1) W1 wr))
  case atStart => exact ⟨0, _, rfl, rfl, HO2, HR2, HB2⟩
  case round =>
    obtain ⟨r, c, hkr, rfl, hC, hR, hbk⟩ := hrel
    clear HO2 HR2 HB2
    have hszk : w.heap.size + 2 ≤ wr.heap.size := by have := hbk.out.size; have := HS1.out; omega
    have hr11 : r ≤ 11 := hR.out.rd.le h12
    obtain ⟨ac, cc, hvc⟩ := ZRow.slice hC.out
    subst hvc
    have HCL : Hid (c.length = E.length) := hR.out.rd.len
    have q0 := (hbk.out.cell (p := ⟨w.heap.size, 0, none⟩) (by show w.heap.size < _; omega)).trans Q0.out.1
    have q1 := (hbk.out.cell (p := ⟨w.heap.size, 1, none⟩) (by show w.heap.size < _; omega)).trans Q0.out.2
    have hzw : w.heap.size < wr.heap.size := by omega
    have hBk : Below w.heap.size w wr := hB1.trans (hbk.out.mono (by omega))
    rw [zn_len, HCL.out] at hC ⊢
    go_wp2_with fail
    refine (divide_any M E c _ _ _ _ (HM.out.below hBk) (HE.out.below hBk) (ZAt.own hC.out) HG.out (by rw [HCL.out, HLE.out])).mono ?_
    rintro e w5 ⟨r5, rfl, ho5, hb5⟩
    have HC5 : Hid (ZRow w5 (w.heap.size + 1) (.slice ac E.length cc) (zn c)) := ZRow.below hC.out hb5
    have HO5 : Hid (ZRow w5 (w.heap.size + 1) r5 (zn (dv M E c))) := own_lowerM ho5 (by omega)
    have HB5 : Hid (Below (w.heap.size + 1) W1 w5) := hbk.out.trans (hb5.mono (by omega))
    have HDL : Hid ((dv M E c).length = E.length) := by show _ = _; rw [dv_len, HCL.out]
    obtain ⟨a5, c5, hv5⟩ := ZRow.slice HO5.out
    subst hv5
    rw [zn_len, HDL.out] at HO5 ⊢
    have HT : Hid (dv M E c = c → CL = c ∧ CN = r) := fun h => by have h := hR.out.done h12 h; exact ⟨HCL'.out.trans h.1, HCN.out.trans h.2⟩
    have HN : Hid (dv M E c ≠ c → Rv M E (dv M E c) (r + 1)) := fun h => hR.out.next HG.out h12 h
    have hBe : Below w.heap.size w w5 := hB1.trans (HB5.out.mono (by omega))
    have HEN : Hid (ZRow w5 w.heap.size (.slice ac E.length cc) (zn c)) := own_lowerM HC5.out (by omega)
    clear ho5 hb5 q0 q1 hC hbk hBk hR
    generalize dv M E c = D at HO5 HDL HT HN
    have HIX : Hid (∀ i, i < E.length → ∃ ga oa gc oc, a5 = some ⟨ga, oa, none⟩ ∧ ac = some ⟨gc, oc, none⟩ ∧ w5.cell? ⟨ga, oa + i, none⟩ = some (.int .i64 ((cx D i : Nat) : Int)) ∧ w5.cell? ⟨gc, oc + i, none⟩ = some (.int .i64 ((cx c i : Nat) : Int))) := fun i hi => by
      obtain ⟨ga, oa, h1, _, h3⟩ := (ZAt.own HO5.out).cx (i := i) (by rw [HDL.out]; exact hi)
      obtain ⟨gc, oc, k1, _, k3⟩ := (ZAt.own HC5.out).cx (i := i) (by rw [HCL.out]; exact hi)
      exact ⟨ga, oa, gc, oc, h1, k1, h3, k3⟩
    go_wp2
    obtain ⟨G, hG⟩ : ∃ G, G = gk := ⟨_, rfl⟩
    rw [← hG] at hkr
    go_loopg [5, 6, 22] (E.length) (fun k2 v5 v6 vi wy => ∃ i : Nat, i + k2 = E.length ∧ v5 = .slice ac E.length cc ∧ v6 = .int .i64 (r : Int) ∧ vi = .int .i64 (i : Int) ∧ Hid (∀ j, j < i → cx D j = cx c j) ∧ wy = w5)
    case atStart => exact ⟨0, by omega, rfl, rfl, rfl, fun j hj => by omega, rfl⟩
    case round =>
      obtain ⟨i, hik, rfl, rfl, rfl, hix, rfl⟩ := hrel
      by_cases hlt : i < E.length
      · have hlt' : (i : Int) < (E.length : Int) := by omega
        obtain ⟨ga, oa, gc, oc, rfl, rfl, c1, c2⟩ := HIX.out i hlt
        have HNE : Hid (cx D i ≠ cx c i → Rv M E D (r + 1)) := fun h => HN.out (fun e => h (by rw [e]))
        have HEQ : Hid (cx D i = cx c i → ∀ j, j < i + 1 → cx D j = cx c j) := fun h j hj => by
          by_cases e : j = i
          · rw [e]; exact h
          · exact hix.out j (by omega)
        clear hix
        generalize cx D i = x at c1 HNE HEQ
        generalize cx c i = y at c2 HNE HEQ
        by_cases hxy : x = y
        · subst hxy
          have hS : Hid (∀ j, j < i + 1 → cx D j = cx c j) := HEQ.out rfl
          have hne : ((x : Int) != (x : Int)) = false := by simp
          clear HEQ HNE
          go_wp2
          go_roundg (gk - 1)
          case measure => omega
          case rel => exact ⟨i + 1, by omega, rfl, rfl, by go_num, hS, rfl⟩
        · have hS : Hid (Rv M E D (r + 1)) := HNE.out hxy
          have hne : ((x : Int) != (y : Int)) = true := by simp; omega
          have hne2 : ¬ ((x : Int) = (y : Int)) := by omega
          clear HEQ HNE hxy
          go_wp2
          go_roundg (12 - r)
          case measure => omega
          case rel => exact ⟨r + 1, D, by omega, by go_num, HO5, hS, HB5⟩
      · have hke : i = E.length := by omega
        have hge : ¬ ((i : Int) < (E.length : Int)) := by omega
        have HD : Hid (CL = c ∧ CN = r) := HT.out (cx_ext (HDL.out.trans HCL.out.symm) (fun j hj => hix.out j (by rw [hke, ← HDL.out]; exact hj)))
        clear hke hix
        go_wp2
        (try rw [Exit.noGoto_ret])
        go_ret2
        exact ⟨⟨_, by rw [HD.out.2]; rfl, by rw [HD.out.1]; exact HEN.out⟩, hBe⟩

end Go.Proofs.Ytecgjhnihagleaa
