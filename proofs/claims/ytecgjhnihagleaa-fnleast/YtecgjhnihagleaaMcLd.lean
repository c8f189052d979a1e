/- The law FnLeast, walked: for what is drawn from the bytes it answers true. -/
import Derived.Test.YtecgjhnihagleaaMcLe
import Derived.Test.YtecgjhnihagleaaXm
import Derived.Test.YtecgjhnihagleaaHc
import Derived.Test.YtecgjhnihagleaaMcDf
import Derived.Test.YtecgjhnihagleaaXh
namespace Go.Proofs.Ytecgjhnihagleaa
open Go.RowKit Plain Mch Tpc

set_option maxRecDepth 1000000 in
set_option maxHeartbeats 16000000 in
theorem walkFnLeast (a0 : Option Addr) (len0 cap0 : Nat) (a1 : Option Addr) (len1 cap1 : Nat) (w : World) (h0 : len0 ≤ 1048576 → CodeAt w a0 len0) (h1 : len1 ≤ 1048576 → CodeAt w a1 len1) (y0 : len0 ≤ 140737488351232) (y1 : len1 ≤ 140737488351232) :
    Calls Try.prog 6 #[.slice a0 len0 cap0, .slice a1 len1 cap1] w fun e w' => e = .returned (.bool true) ∧ Below w.heap.size w w' := by
  by_cases hbig : 1048576 < len0 + len1
  · have hbig' : (1048576 : Int) < (len0 : Int) + (len1 : Int) := by omega
    clear h0 h1
    go_enter Try.func6, Try.ntmps6
    go_wp2
    go_ret
    exact ⟨rfl, Below.refl _ _⟩
  have hbig' : ¬ (1048576 : Int) < (len0 : Int) + (len1 : Int) := by omega
  have H0 : Hid (CodeAt w a0 len0) := h0 (by omega)
  have H1 : Hid (CodeAt w a1 len1) := h1 (by omega)
  clear h0 h1 hbig
  have hB : Below w.heap.size w w := Below.refl _ _
  go_enter Try.func6, Try.ntmps6
  go_wp2_with fail
  refine (drawLeastM_any a0 len0 cap0 _ H0.out).mono ?_
  rintro e w1 ⟨⟨r, q, rfl, M, E, us, ho, hsm⟩, hb⟩
  obtain ⟨pam, pcm, hz1⟩ := ho.1.slice
  obtain ⟨pbm, pdm, hz2⟩ := ERow.slice ho.2.1
  subst hz1 hz2
  have HMm : Hid (MAt w1 w1.heap.size (.slice pam M.length pcm) M) := ho.1.at
  have HEm : Hid (EAt w1 w1.heap.size (.slice pbm E.length pdm) E) := EAt.own ho.2.1
  clear ho
  have HSM : Hid (Sml M E) := hsm
  clear hsm
  replace hB : Below w.heap.size w w1 := hB.trans (hb.mono hB.size)
  clear hb
  have K1 : Hid (Below w1.heap.size w1 w1) := Below.refl _ _
  obtain ⟨gg, hgg⟩ : ∃ x, x = gm M E := ⟨_, rfl⟩
  obtain ⟨LM, hLM⟩ : ∃ x, x = leM M E := ⟨_, rfl⟩
  obtain ⟨LE, hLE⟩ : ∃ x, x = leE M E := ⟨_, rfl⟩
  have HLL : Hid (LM.length ≤ 12 ∧ LE.length ≤ 12 ∧ ∀ i, i < LM.length → (rx LM i).length ≤ 3) := by show _ ∧ _; rw [hLM, hLE]; exact le_len M E
  have HLW : Hid (gg = true → (gm M E = true ∧ gm LM LE = true ∧ smb M E LM LE = true) ∧ ((∀ i, i < (clo LM LE).length → (clo LM LE)[i]? = some (i : Int)) ∧ (rch LM LE).length = LM.length) ∧ (leM LM LE = LM ∧ leE LM LE = LE) ∧ LM.length ≤ M.length) := fun h => by
    rw [hgg] at h
    obtain ⟨⟨l1, l2⟩, l3, l4, l5⟩ := le_law h
    rw [hLM, hLE]
    exact ⟨⟨h, l1, l2⟩, l3, l4, l5⟩
  have CL : Hid (∀ W : World, MAt W W.heap.size (.slice pam M.length pcm) M → EAt W W.heap.size (.slice pbm E.length pdm) E → (Calls Try.prog 17 #[.agg #[.slice pam M.length pcm, .slice pbm E.length pdm]] W fun x w' => (∃ r q, x = .returned (.tuple #[.agg #[r, q], .bool gg]) ∧ ∃ us, MaOwn w' W.heap.size r q LM LE us) ∧ Below W.heap.size W w') ∧ Calls Try.prog 16 #[.agg #[.slice pam M.length pcm, .slice pbm E.length pdm]] W fun x w' => (∃ r q, x = .returned (.tuple #[.agg #[r, q], .bool gg]) ∧ ∃ us, MaOwn w' W.heap.size r q LM LE us) ∧ Below W.heap.size W w') := fun W h1 h2 => by rw [hgg, hLM, hLE]; exact ⟨implLeastM M E _ _ W h1 h2, specLeastM M E _ _ W h1 h2⟩
  have CG : Hid (∀ W : World, MAt W W.heap.size (.slice pam M.length pcm) M → EAt W W.heap.size (.slice pbm E.length pdm) E → Calls Try.prog 33 #[.agg #[.slice pam M.length pcm, .slice pbm E.length pdm]] W fun x w' => x = .returned (.bool gg) ∧ Below W.heap.size W w') := fun W h1 h2 => by rw [hgg]; exact implGoodM M E _ _ W h1 h2
  clear hgg hLM hLE
  obtain ⟨W2, hW2⟩ : ∃ W, W = w1.alloc (.cells #[.slice pam M.length pcm, .slice pbm E.length pdm] 30) := ⟨_, rfl⟩
  have hb : Below w1.heap.size w1 W2 := by rw [hW2]; exact (Below.refl _ _).alloc (Nat.le_refl _) _
  have lm : w1.heap.size < W2.heap.size := by rw [hW2]; simp only [World.size_alloc]; omega
  have vm : W2.cell? ⟨w1.heap.size, 0, none⟩ = some (.slice pam M.length pcm) := by rw [hW2]; go_simp
  have um : W2.cell? ⟨w1.heap.size, 1, none⟩ = some (.slice pbm E.length pdm) := by rw [hW2]; go_simp
  have K1' : Hid (Below w1.heap.size w1 W2) := K1.out.trans (hb.mono K1.out.size)
  clear K1
  have K1 := K1'
  clear K1'
  replace hB : Below w.heap.size w W2 := hB.trans (hb.mono hB.size)
  clear hb
  go_upto_region 4 with fail
  rw [← hW2]
  clear hW2
  go_wp2_with fail
  refine ((CL.out _ (HMm.out.below K1.out) (HEm.out.below K1.out)).1).mono ?_
  rintro e w3 ⟨⟨r, q, rfl, us, ho⟩, hb⟩
  obtain ⟨pax, pcx, hz1⟩ := ho.1.slice
  obtain ⟨pbx, pdx, hz2⟩ := ERow.slice ho.2.1
  subst hz1 hz2
  have HMx : Hid (MAt w3 w3.heap.size (.slice pax LM.length pcx) LM) := ho.1.at
  have HEx : Hid (EAt w3 w3.heap.size (.slice pbx LE.length pdx) LE) := EAt.own ho.2.1
  clear ho
  replace vm := (hb.cell (p := ⟨w1.heap.size, 0, none⟩) lm).trans vm
  replace um := (hb.cell (p := ⟨w1.heap.size, 1, none⟩) lm).trans um
  have K1' : Hid (Below w1.heap.size w1 w3) := K1.out.trans (hb.mono K1.out.size)
  clear K1
  have K1 := K1'
  clear K1'
  replace hB : Below w.heap.size w w3 := hB.trans (hb.mono hB.size)
  replace lm : w1.heap.size < w3.heap.size := by have := hb.size; omega
  clear hb
  have K2 : Hid (Below w3.heap.size w3 w3) := Below.refl _ _
  obtain ⟨W4, hW4⟩ : ∃ W, W = w3.alloc (.cells #[.slice pax LM.length pcx, .slice pbx LE.length pdx] 30) := ⟨_, rfl⟩
  have hb : Below w3.heap.size w3 W4 := by rw [hW4]; exact (Below.refl _ _).alloc (Nat.le_refl _) _
  have lx : w3.heap.size < W4.heap.size := by rw [hW4]; simp only [World.size_alloc]; omega
  have vx : W4.cell? ⟨w3.heap.size, 0, none⟩ = some (.slice pax LM.length pcx) := by rw [hW4]; go_simp
  have ux : W4.cell? ⟨w3.heap.size, 1, none⟩ = some (.slice pbx LE.length pdx) := by rw [hW4]; go_simp
  replace vm := (hb.cell (p := ⟨w1.heap.size, 0, none⟩) lm).trans vm
  replace um := (hb.cell (p := ⟨w1.heap.size, 1, none⟩) lm).trans um
  have K1' : Hid (Below w1.heap.size w1 W4) := K1.out.trans (hb.mono K1.out.size)
  clear K1
  have K1 := K1'
  clear K1'
  have K2' : Hid (Below w3.heap.size w3 W4) := K2.out.trans (hb.mono K2.out.size)
  clear K2
  have K2 := K2'
  clear K2'
  replace hB : Below w.heap.size w W4 := hB.trans (hb.mono hB.size)
  replace lm : w1.heap.size < W4.heap.size := by have := hb.size; omega
  clear hb
  go_upto_region 5 with fail
  rw [← hW4]
  clear hW4
  go_wp2_with fail
  refine ((CL.out _ (HMm.out.below K1.out) (HEm.out.below K1.out)).2).mono ?_
  rintro e w5 ⟨⟨r, q, rfl, us, ho⟩, hb⟩
  obtain ⟨pao, pco, hz1⟩ := ho.1.slice
  obtain ⟨pbo, pdo, hz2⟩ := ERow.slice ho.2.1
  subst hz1 hz2
  have HMo : Hid (MAt w5 w5.heap.size (.slice pao LM.length pco) LM) := ho.1.at
  have HEo : Hid (EAt w5 w5.heap.size (.slice pbo LE.length pdo) LE) := EAt.own ho.2.1
  clear ho
  replace vm := (hb.cell (p := ⟨w1.heap.size, 0, none⟩) lm).trans vm
  replace um := (hb.cell (p := ⟨w1.heap.size, 1, none⟩) lm).trans um
  replace vx := (hb.cell (p := ⟨w3.heap.size, 0, none⟩) lx).trans vx
  replace ux := (hb.cell (p := ⟨w3.heap.size, 1, none⟩) lx).trans ux
  have K1' : Hid (Below w1.heap.size w1 w5) := K1.out.trans (hb.mono K1.out.size)
  clear K1
  have K1 := K1'
  clear K1'
  have K2' : Hid (Below w3.heap.size w3 w5) := K2.out.trans (hb.mono K2.out.size)
  clear K2
  have K2 := K2'
  clear K2'
  replace hB : Below w.heap.size w w5 := hB.trans (hb.mono hB.size)
  replace lm : w1.heap.size < w5.heap.size := by have := hb.size; omega
  replace lx : w3.heap.size < w5.heap.size := by have := hb.size; omega
  clear hb
  have K3 : Hid (Below w5.heap.size w5 w5) := Below.refl _ _
  obtain ⟨W6, hW6⟩ : ∃ W, W = w5.alloc (.cells #[.slice pao LM.length pco, .slice pbo LE.length pdo] 30) := ⟨_, rfl⟩
  have hb : Below w5.heap.size w5 W6 := by rw [hW6]; exact (Below.refl _ _).alloc (Nat.le_refl _) _
  have lo : w5.heap.size < W6.heap.size := by rw [hW6]; simp only [World.size_alloc]; omega
  have vo : W6.cell? ⟨w5.heap.size, 0, none⟩ = some (.slice pao LM.length pco) := by rw [hW6]; go_simp
  have uo : W6.cell? ⟨w5.heap.size, 1, none⟩ = some (.slice pbo LE.length pdo) := by rw [hW6]; go_simp
  replace vm := (hb.cell (p := ⟨w1.heap.size, 0, none⟩) lm).trans vm
  replace um := (hb.cell (p := ⟨w1.heap.size, 1, none⟩) lm).trans um
  replace vx := (hb.cell (p := ⟨w3.heap.size, 0, none⟩) lx).trans vx
  replace ux := (hb.cell (p := ⟨w3.heap.size, 1, none⟩) lx).trans ux
  have K1' : Hid (Below w1.heap.size w1 W6) := K1.out.trans (hb.mono K1.out.size)
  clear K1
  have K1 := K1'
  clear K1'
  have K2' : Hid (Below w3.heap.size w3 W6) := K2.out.trans (hb.mono K2.out.size)
  clear K2
  have K2 := K2'
  clear K2'
  have K3' : Hid (Below w5.heap.size w5 W6) := K3.out.trans (hb.mono K3.out.size)
  clear K3
  have K3 := K3'
  clear K3'
  replace hB : Below w.heap.size w W6 := hB.trans (hb.mono hB.size)
  replace lm : w1.heap.size < W6.heap.size := by have := hb.size; omega
  replace lx : w3.heap.size < W6.heap.size := by have := hb.size; omega
  clear hb
  go_upto_region 6 with fail
  rw [← hW6]
  clear hW6
  have n1 : (gg != gg) = false := bne_self_eq_false _
  clear CL
  go_wp2_with fail
  refine (sameM_any LM LM LE LE _ _ _ _ _ (HMx.out.below K2.out) (HMo.out.below K3.out) (HEx.out.below K2.out) (HEo.out.below K3.out) (by have := HLL.out.1; omega) (fun i hi => by have := HLL.out.2.2 i hi; omega) (by have := HLL.out.2.1; omega)).mono ?_
  rintro e w7 ⟨rfl, hb⟩
  rw [show decide (LM = LM ∧ LE = LE) = true by simp]
  replace vm := (hb.cell (p := ⟨w1.heap.size, 0, none⟩) lm).trans vm
  replace um := (hb.cell (p := ⟨w1.heap.size, 1, none⟩) lm).trans um
  replace vx := (hb.cell (p := ⟨w3.heap.size, 0, none⟩) lx).trans vx
  replace ux := (hb.cell (p := ⟨w3.heap.size, 1, none⟩) lx).trans ux
  replace vo := (hb.cell (p := ⟨w5.heap.size, 0, none⟩) lo).trans vo
  replace uo := (hb.cell (p := ⟨w5.heap.size, 1, none⟩) lo).trans uo
  have K1' : Hid (Below w1.heap.size w1 w7) := K1.out.trans (hb.mono K1.out.size)
  clear K1
  have K1 := K1'
  clear K1'
  have K2' : Hid (Below w3.heap.size w3 w7) := K2.out.trans (hb.mono K2.out.size)
  clear K2
  have K2 := K2'
  clear K2'
  have K3' : Hid (Below w5.heap.size w5 w7) := K3.out.trans (hb.mono K3.out.size)
  clear K3
  have K3 := K3'
  clear K3'
  replace hB : Below w.heap.size w w7 := hB.trans (hb.mono hB.size)
  replace lm : w1.heap.size < w7.heap.size := by have := hb.size; omega
  replace lx : w3.heap.size < w7.heap.size := by have := hb.size; omega
  replace lo : w5.heap.size < w7.heap.size := by have := hb.size; omega
  clear hb
  go_wp2_with fail
  refine (CG.out _ (HMm.out.below K1.out) (HEm.out.below K1.out)).mono ?_
  rintro e w8 ⟨rfl, hb⟩
  replace vm := (hb.cell (p := ⟨w1.heap.size, 0, none⟩) lm).trans vm
  replace um := (hb.cell (p := ⟨w1.heap.size, 1, none⟩) lm).trans um
  replace vx := (hb.cell (p := ⟨w3.heap.size, 0, none⟩) lx).trans vx
  replace ux := (hb.cell (p := ⟨w3.heap.size, 1, none⟩) lx).trans ux
  replace vo := (hb.cell (p := ⟨w5.heap.size, 0, none⟩) lo).trans vo
  replace uo := (hb.cell (p := ⟨w5.heap.size, 1, none⟩) lo).trans uo
  have K1' : Hid (Below w1.heap.size w1 w8) := K1.out.trans (hb.mono K1.out.size)
  clear K1
  have K1 := K1'
  clear K1'
  have K2' : Hid (Below w3.heap.size w3 w8) := K2.out.trans (hb.mono K2.out.size)
  clear K2
  have K2 := K2'
  clear K2'
  have K3' : Hid (Below w5.heap.size w5 w8) := K3.out.trans (hb.mono K3.out.size)
  clear K3
  have K3 := K3'
  clear K3'
  replace hB : Below w.heap.size w w8 := hB.trans (hb.mono hB.size)
  replace lm : w1.heap.size < w8.heap.size := by have := hb.size; omega
  replace lx : w3.heap.size < w8.heap.size := by have := hb.size; omega
  replace lo : w5.heap.size < w8.heap.size := by have := hb.size; omega
  clear hb CG
  clear vo uo lo
  clear HMo HEo K3
  go_upto_if 71 with fail
  go_cut [71] (fun s71 wx => s71 = .bool gg ∧ Hid (Below w8.heap.size w8 wx))
  case first =>
    cases gg with
    | false =>
      go_wp2_with fail
      go_meet
      exact ⟨rfl, Below.refl _ _⟩
    | true =>
      obtain ⟨⟨l1, l2, l3⟩, ⟨l4, l5⟩, ⟨l6, l7⟩, l8⟩ := HLW.out (by trivial)
      obtain ⟨T, hT⟩ : ∃ x, x = smt M E LM LE := ⟨_, rfl⟩
      obtain ⟨CO, hCO⟩ : ∃ x, x = clo LM LE := ⟨_, rfl⟩
      obtain ⟨cn, hcn⟩ : ∃ x, x = clw LM LE := ⟨_, rfl⟩
      obtain ⟨RC, hRC⟩ : ∃ x, x = rch LM LE := ⟨_, rfl⟩
      have hRL : RC.length = LM.length := by rw [hRC]; exact l5
      have hCL : CO.length ≤ 12 := by rw [hCO]; exact clo_len LM LE
      have HCI : Hid (∀ i, i < CO.length → CO[i]? = some (i : Int)) := by rw [hCO]; exact l4
      have CS : Hid (∀ W : World, MAt W W.heap.size (.slice pam M.length pcm) M → EAt W W.heap.size (.slice pbm E.length pdm) E → MAt W W.heap.size (.slice pax LM.length pcx) LM → EAt W W.heap.size (.slice pbx LE.length pdx) LE → Calls Try.prog 34 #[.agg #[.slice pam M.length pcm, .slice pbm E.length pdm], .agg #[.slice pax LM.length pcx, .slice pbx LE.length pdx]] W fun x w' => x = .returned (.tuple #[.string T, .bool true, .bool true]) ∧ Below W.heap.size W w') := fun W h1 h2 h3 h4 => by
        have h := implSame M E _ _ LM LE _ _ W h1 h2 h3 h4
        rw [l1, l2, l3, Bool.and_self, ← hT] at h
        exact h
      have CC : Hid (∀ W : World, MAt W W.heap.size (.slice pax LM.length pcx) LM → EAt W W.heap.size (.slice pbx LE.length pdx) LE → Calls Try.prog 10 #[.agg #[.slice pax LM.length pcx, .slice pbx LE.length pdx]] W fun x w' => (∃ r, x = .returned (.tuple #[r, .int .i64 (cn : Int), .bool true]) ∧ ZRow w' W.heap.size r CO) ∧ Below W.heap.size W w') := fun W h1 h2 => by
        have h := implClasses LM LE _ _ W h1 h2
        rw [l2, ← hCO, ← hcn] at h
        exact h
      have CR : Hid (∀ W : World, MAt W W.heap.size (.slice pax LM.length pcx) LM → EAt W W.heap.size (.slice pbx LE.length pdx) LE → Calls Try.prog 30 #[.agg #[.slice pax LM.length pcx, .slice pbx LE.length pdx]] W fun x w' => (∃ r, x = .returned (.tuple #[r, .bool true]) ∧ ZRow w' W.heap.size r RC) ∧ Below W.heap.size W w') := fun W h1 h2 => by
        have h := implReach LM LE _ _ W h1 h2
        rw [l2, ← hRC] at h
        exact h
      have CL2 : Hid (∀ W : World, MAt W W.heap.size (.slice pax LM.length pcx) LM → EAt W W.heap.size (.slice pbx LE.length pdx) LE → Calls Try.prog 17 #[.agg #[.slice pax LM.length pcx, .slice pbx LE.length pdx]] W fun x w' => (∃ r q, x = .returned (.tuple #[.agg #[r, q], .bool true]) ∧ ∃ us, MaOwn w' W.heap.size r q LM LE us) ∧ Below W.heap.size W w') := fun W h1 h2 => by
        have h := implLeastM LM LE _ _ W h1 h2
        rw [l2, l6, l7] at h
        exact h
      clear l1 l2 l3 l4 l5 l6 l7 hT hCO hcn hRC HLW n1
      have hbe : Hid (Below w8.heap.size w8 w8) := Below.refl _ _
      go_wp2_with fail
      refine (CS.out _ (HMm.out.below K1.out) (HEm.out.below K1.out) (HMx.out.below K2.out) (HEx.out.below K2.out)).mono ?_
      rintro e w9 ⟨rfl, hb⟩
      replace vm := (hb.cell (p := ⟨w1.heap.size, 0, none⟩) lm).trans vm
      replace um := (hb.cell (p := ⟨w1.heap.size, 1, none⟩) lm).trans um
      replace vx := (hb.cell (p := ⟨w3.heap.size, 0, none⟩) lx).trans vx
      replace ux := (hb.cell (p := ⟨w3.heap.size, 1, none⟩) lx).trans ux
      have K1' : Hid (Below w1.heap.size w1 w9) := K1.out.trans (hb.mono K1.out.size)
      clear K1
      have K1 := K1'
      clear K1'
      have K2' : Hid (Below w3.heap.size w3 w9) := K2.out.trans (hb.mono K2.out.size)
      clear K2
      have K2 := K2'
      clear K2'
      have hbe' : Hid (Below w8.heap.size w8 w9) := hbe.out.trans (hb.mono hbe.out.size)
      clear hbe
      have hbe := hbe'
      clear hbe'
      replace hB : Below w.heap.size w w9 := hB.trans (hb.mono hB.size)
      replace lm : w1.heap.size < w9.heap.size := by have := hb.size; omega
      replace lx : w3.heap.size < w9.heap.size := by have := hb.size; omega
      clear hb
      go_wp2_with fail
      refine (CC.out _ (HMx.out.below K2.out) (HEx.out.below K2.out)).mono ?_
      rintro e w10 ⟨⟨r, rfl, ho⟩, hb⟩
      obtain ⟨ag1, cg1, hz⟩ := ZRow.slice ho
      subst hz
      have HZ1 : Hid (ZAt w10 w10.heap.size (.slice ag1 CO.length cg1) CO) := ZAt.own ho
      clear ho
      replace vm := (hb.cell (p := ⟨w1.heap.size, 0, none⟩) lm).trans vm
      replace um := (hb.cell (p := ⟨w1.heap.size, 1, none⟩) lm).trans um
      replace vx := (hb.cell (p := ⟨w3.heap.size, 0, none⟩) lx).trans vx
      replace ux := (hb.cell (p := ⟨w3.heap.size, 1, none⟩) lx).trans ux
      have K1' : Hid (Below w1.heap.size w1 w10) := K1.out.trans (hb.mono K1.out.size)
      clear K1
      have K1 := K1'
      clear K1'
      have K2' : Hid (Below w3.heap.size w3 w10) := K2.out.trans (hb.mono K2.out.size)
      clear K2
      have K2 := K2'
      clear K2'
      have hbe' : Hid (Below w8.heap.size w8 w10) := hbe.out.trans (hb.mono hbe.out.size)
      clear hbe
      have hbe := hbe'
      clear hbe'
      replace hB : Below w.heap.size w w10 := hB.trans (hb.mono hB.size)
      replace lm : w1.heap.size < w10.heap.size := by have := hb.size; omega
      replace lx : w3.heap.size < w10.heap.size := by have := hb.size; omega
      clear hb
      have K7 : Hid (Below w10.heap.size w10 w10) := Below.refl _ _
      go_wp2_with fail
      refine (CR.out _ (HMx.out.below K2.out) (HEx.out.below K2.out)).mono ?_
      rintro e w11 ⟨⟨r, rfl, ho⟩, hb⟩
      obtain ⟨ag2, cg2, hz⟩ := ZRow.slice ho
      subst hz
      have HZ2 : Hid (ZAt w11 w11.heap.size (.slice ag2 RC.length cg2) RC) := ZAt.own ho
      clear ho
      replace vm := (hb.cell (p := ⟨w1.heap.size, 0, none⟩) lm).trans vm
      replace um := (hb.cell (p := ⟨w1.heap.size, 1, none⟩) lm).trans um
      replace vx := (hb.cell (p := ⟨w3.heap.size, 0, none⟩) lx).trans vx
      replace ux := (hb.cell (p := ⟨w3.heap.size, 1, none⟩) lx).trans ux
      have K1' : Hid (Below w1.heap.size w1 w11) := K1.out.trans (hb.mono K1.out.size)
      clear K1
      have K1 := K1'
      clear K1'
      have K2' : Hid (Below w3.heap.size w3 w11) := K2.out.trans (hb.mono K2.out.size)
      clear K2
      have K2 := K2'
      clear K2'
      have hbe' : Hid (Below w8.heap.size w8 w11) := hbe.out.trans (hb.mono hbe.out.size)
      clear hbe
      have hbe := hbe'
      clear hbe'
      have K7' : Hid (Below w10.heap.size w10 w11) := K7.out.trans (hb.mono K7.out.size)
      clear K7
      have K7 := K7'
      clear K7'
      replace hB : Below w.heap.size w w11 := hB.trans (hb.mono hB.size)
      replace lm : w1.heap.size < w11.heap.size := by have := hb.size; omega
      replace lx : w3.heap.size < w11.heap.size := by have := hb.size; omega
      clear hb HZ2
      rw [hRL]
      go_wp2_with fail
      refine (CL2.out _ (HMx.out.below K2.out) (HEx.out.below K2.out)).mono ?_
      rintro e w12 ⟨⟨r, q, rfl, us, ho⟩, hb⟩
      obtain ⟨paz, pcz, hz1⟩ := ho.1.slice
      obtain ⟨pbz, pdz, hz2⟩ := ERow.slice ho.2.1
      subst hz1 hz2
      have HMz : Hid (MAt w12 w12.heap.size (.slice paz LM.length pcz) LM) := ho.1.at
      have HEz : Hid (EAt w12 w12.heap.size (.slice pbz LE.length pdz) LE) := EAt.own ho.2.1
      clear ho
      replace vm := (hb.cell (p := ⟨w1.heap.size, 0, none⟩) lm).trans vm
      replace um := (hb.cell (p := ⟨w1.heap.size, 1, none⟩) lm).trans um
      replace vx := (hb.cell (p := ⟨w3.heap.size, 0, none⟩) lx).trans vx
      replace ux := (hb.cell (p := ⟨w3.heap.size, 1, none⟩) lx).trans ux
      have K1' : Hid (Below w1.heap.size w1 w12) := K1.out.trans (hb.mono K1.out.size)
      clear K1
      have K1 := K1'
      clear K1'
      have K2' : Hid (Below w3.heap.size w3 w12) := K2.out.trans (hb.mono K2.out.size)
      clear K2
      have K2 := K2'
      clear K2'
      have hbe' : Hid (Below w8.heap.size w8 w12) := hbe.out.trans (hb.mono hbe.out.size)
      clear hbe
      have hbe := hbe'
      clear hbe'
      have K7' : Hid (Below w10.heap.size w10 w12) := K7.out.trans (hb.mono K7.out.size)
      clear K7
      have K7 := K7'
      clear K7'
      replace hB : Below w.heap.size w w12 := hB.trans (hb.mono hB.size)
      replace lm : w1.heap.size < w12.heap.size := by have := hb.size; omega
      replace lx : w3.heap.size < w12.heap.size := by have := hb.size; omega
      clear hb
      have K8 : Hid (Below w12.heap.size w12 w12) := Below.refl _ _
      obtain ⟨W13, hW13⟩ : ∃ W, W = w12.alloc (.cells #[.slice paz LM.length pcz, .slice pbz LE.length pdz] 30) := ⟨_, rfl⟩
      have hb : Below w12.heap.size w12 W13 := by rw [hW13]; exact (Below.refl _ _).alloc (Nat.le_refl _) _
      have lz : w12.heap.size < W13.heap.size := by rw [hW13]; simp only [World.size_alloc]; omega
      have vz : W13.cell? ⟨w12.heap.size, 0, none⟩ = some (.slice paz LM.length pcz) := by rw [hW13]; go_simp
      have uz : W13.cell? ⟨w12.heap.size, 1, none⟩ = some (.slice pbz LE.length pdz) := by rw [hW13]; go_simp
      replace vm := (hb.cell (p := ⟨w1.heap.size, 0, none⟩) lm).trans vm
      replace um := (hb.cell (p := ⟨w1.heap.size, 1, none⟩) lm).trans um
      replace vx := (hb.cell (p := ⟨w3.heap.size, 0, none⟩) lx).trans vx
      replace ux := (hb.cell (p := ⟨w3.heap.size, 1, none⟩) lx).trans ux
      have K1' : Hid (Below w1.heap.size w1 W13) := K1.out.trans (hb.mono K1.out.size)
      clear K1
      have K1 := K1'
      clear K1'
      have K2' : Hid (Below w3.heap.size w3 W13) := K2.out.trans (hb.mono K2.out.size)
      clear K2
      have K2 := K2'
      clear K2'
      have hbe' : Hid (Below w8.heap.size w8 W13) := hbe.out.trans (hb.mono hbe.out.size)
      clear hbe
      have hbe := hbe'
      clear hbe'
      have K7' : Hid (Below w10.heap.size w10 W13) := K7.out.trans (hb.mono K7.out.size)
      clear K7
      have K7 := K7'
      clear K7'
      have K8' : Hid (Below w12.heap.size w12 W13) := K8.out.trans (hb.mono K8.out.size)
      clear K8
      have K8 := K8'
      clear K8'
      replace hB : Below w.heap.size w W13 := hB.trans (hb.mono hB.size)
      replace lm : w1.heap.size < W13.heap.size := by have := hb.size; omega
      replace lx : w3.heap.size < W13.heap.size := by have := hb.size; omega
      clear hb
      go_upto_region 13 with fail
      rw [← hW13]
      clear hW13
      have h12 : LM.length ≤ 12 := HLL.out.1
      have h13 : M.length ≤ 13 := HSM.out.1
      have n1 : ((LM.length : Int) != (LM.length : Int)) = false := bne_self_eq_false _
      have n2 : ¬ ((M.length : Int) < (LM.length : Int)) := by omega
      have n3 : decide ((M.length : Int) < (LM.length : Int)) = false := by simp; omega
      clear hRL l8
      go_wp2_with fail
      refine (sameM_any LM LM LE LE _ _ _ _ _ (HMz.out.below K8.out) (HMx.out.below K2.out) (HEz.out.below K8.out) (HEx.out.below K2.out) (by have := HLL.out.1; omega) (fun i hi => by have := HLL.out.2.2 i hi; omega) (by have := HLL.out.2.1; omega)).mono ?_
      rintro e w14 ⟨rfl, hb⟩
      rw [show decide (LM = LM ∧ LE = LE) = true by simp]
      replace vm := (hb.cell (p := ⟨w1.heap.size, 0, none⟩) lm).trans vm
      replace um := (hb.cell (p := ⟨w1.heap.size, 1, none⟩) lm).trans um
      replace vx := (hb.cell (p := ⟨w3.heap.size, 0, none⟩) lx).trans vx
      replace ux := (hb.cell (p := ⟨w3.heap.size, 1, none⟩) lx).trans ux
      replace vz := (hb.cell (p := ⟨w12.heap.size, 0, none⟩) lz).trans vz
      replace uz := (hb.cell (p := ⟨w12.heap.size, 1, none⟩) lz).trans uz
      have K1' : Hid (Below w1.heap.size w1 w14) := K1.out.trans (hb.mono K1.out.size)
      clear K1
      have K1 := K1'
      clear K1'
      have K2' : Hid (Below w3.heap.size w3 w14) := K2.out.trans (hb.mono K2.out.size)
      clear K2
      have K2 := K2'
      clear K2'
      have hbe' : Hid (Below w8.heap.size w8 w14) := hbe.out.trans (hb.mono hbe.out.size)
      clear hbe
      have hbe := hbe'
      clear hbe'
      have K7' : Hid (Below w10.heap.size w10 w14) := K7.out.trans (hb.mono K7.out.size)
      clear K7
      have K7 := K7'
      clear K7'
      have K8' : Hid (Below w12.heap.size w12 w14) := K8.out.trans (hb.mono K8.out.size)
      clear K8
      have K8 := K8'
      clear K8'
      replace hB : Below w.heap.size w w14 := hB.trans (hb.mono hB.size)
      replace lm : w1.heap.size < w14.heap.size := by have := hb.size; omega
      replace lx : w3.heap.size < w14.heap.size := by have := hb.size; omega
      replace lz : w12.heap.size < w14.heap.size := by have := hb.size; omega
      clear hb
      clear CS CC CR CL2 HMz HEz K8
      go_wp2_with fail
      clear vz uz lz
      clear vx ux lx
      clear vm um lm
      go_loopw [138] (fun vi wr => ∃ i : Nat, i ≤ CO.length ∧ vi = .int .i64 (i : Int) ∧ wr = w14)
        (fun vi _ => CO.length - (intOf vi).toNat)
      case atStart => exact ⟨0, by omega, rfl, rfl⟩
      case round =>
        obtain ⟨i, hi, rfl, rfl⟩ := hrel
        by_cases hlt : i < CO.length
        · have hlt' : (i : Int) < (CO.length : Int) := by omega
          obtain ⟨a2, c2, hv2, _, _, hzr⟩ := HZ1.out.below K7.out
          simp only [Value.slice.injEq, true_and] at hv2
          obtain ⟨rfl, rfl⟩ := hv2
          obtain ⟨gz, oz, haz, hgz, hcz⟩ := hzr i _ (HCI.out i hlt)
          subst haz
          have nn : ((i : Int) != (i : Int)) = false := bne_self_eq_false _
          clear hzr
          go_wp2
          go_roundw
          case rel => exact ⟨i + 1, by omega, by go_num, by first | rfl | trivial⟩
          case measure => simp [intOf]; omega
        · have hge : ¬ ((i : Int) < (CO.length : Int)) := by omega
          go_wp2_with fail
          go_meet
          exact ⟨rfl, hbe⟩
  case rest =>
    obtain ⟨hs71, hbc⟩ := hcut
    subst hs71
    have hb := hbc.out
    clear hbc HLW
    replace vm := (hb.cell (p := ⟨w1.heap.size, 0, none⟩) lm).trans vm
    replace um := (hb.cell (p := ⟨w1.heap.size, 1, none⟩) lm).trans um
    replace vx := (hb.cell (p := ⟨w3.heap.size, 0, none⟩) lx).trans vx
    replace ux := (hb.cell (p := ⟨w3.heap.size, 1, none⟩) lx).trans ux
    have K1' : Hid (Below w1.heap.size w1 wc) := K1.out.trans (hb.mono K1.out.size)
    clear K1
    have K1 := K1'
    clear K1'
    have K2' : Hid (Below w3.heap.size w3 wc) := K2.out.trans (hb.mono K2.out.size)
    clear K2
    have K2 := K2'
    clear K2'
    replace hB : Below w.heap.size w wc := hB.trans (hb.mono hB.size)
    replace lm : w1.heap.size < wc.heap.size := by have := hb.size; omega
    replace lx : w3.heap.size < wc.heap.size := by have := hb.size; omega
    rename (∀ (a : Act) (w : World), Code.wp Try.prog _ _ a w → _) => hK
    refine hK _ _ ?_
    exact lea21 w wc a1 len1 cap1 (H1.out.below hB) hB _ _ _ _ _ _ _ _ _ _ _ _ _ _ _ _ _ _ _ _ _ _ _ _ _ _ _ _ _ _ _ _ _ _ _ _ _ _ _ _ _ _ _ _ _ _ _ _ _ _ _ _ _ _ _ _ _ _ _ _ _ _ _ _ _ _ _ _ _ _ _ _ _ _ _ _ _ _ _ _ _ _ _ _ _ _ _ _ _ _ _ _ _ _ _ _ _ _ _ _ _ _ _ _ _ _ _ _ _ _ _ _ _ _ _ _ _ _ _ _ _ _ _ _ _ _ _ _ _ _ _ _ _ _ _ _ _ _ _ _ _ _ _ _ _ _ _ _ _ _ _ _ _ _ _ _ _ _ _ _ _ _ _ _ _ _ _ _ _ _ _ _ _ _ _ _ _ _ _ _ _ _ _ _ _ _ _ _ _ _ _ _ _ _ _ _ _ _ _ _ _ _ _ _ _ _ _ _ _ _ _ _ _ _ _ _ _ _ _ _ _ _ _ _ _ _ _ _ _ _ _ _ _

end Go.Proofs.Ytecgjhnihagleaa
