/- The law FnLanguages, walked: for what is drawn from the bytes it answers true. -/
import Derived.Test.YtecgjhnihagleaaMcLb
namespace Go.Proofs.Ytecgjhnihagleaa
open Go.RowKit Plain Mch Tpc

set_option maxRecDepth 100000 in
set_option maxHeartbeats 16000000 in
theorem walkFnLanguages (a0 : Option Addr) (len0 cap0 : Nat) (a1 : Option Addr) (len1 cap1 : Nat) (w : World) (h0 : len0 ≤ 1048576 → CodeAt w a0 len0) (h1 : len1 ≤ 1048576 → CodeAt w a1 len1) (y0 : len0 ≤ 140737488351232) (y1 : len1 ≤ 140737488351232) :
    Calls Try.prog 5 #[.slice a0 len0 cap0, .slice a1 len1 cap1] w fun e w' => e = .returned (.bool true) ∧ Below w.heap.size w w' := by
  by_cases hbig : 1048576 < len0 + len1
  · have hbig' : (1048576 : Int) < (len0 : Int) + (len1 : Int) := by omega
    clear h0 h1
    go_enter Try.func5, Try.ntmps5
    go_wp2
    go_ret
    exact ⟨rfl, Below.refl _ _⟩
  have hbig' : ¬ (1048576 : Int) < (len0 : Int) + (len1 : Int) := by omega
  have H0 : Hid (CodeAt w a0 len0) := h0 (by omega)
  have H1 : Hid (CodeAt w a1 len1) := h1 (by omega)
  clear h0 h1 hbig
  have hB : Below w.heap.size w w := Below.refl _ _
  go_enter Try.func5, Try.ntmps5
  go_wp2_with fail
  refine (drawRunM_any a0 len0 cap0 _ H0.out).mono ?_
  rintro e w1 ⟨⟨r, q, s, rfl, hs10, M, E, us, ho, hsm⟩, hb⟩
  obtain ⟨pam, pcm, hz1⟩ := ho.1.slice
  obtain ⟨pbm, pdm, hz2⟩ := ERow.slice ho.2.1
  subst hz1 hz2
  have HMm : Hid (MAt w1 w1.heap.size (.slice pam M.length pcm) M) := ho.1.at
  have HEm : Hid (EAt w1 w1.heap.size (.slice pbm E.length pdm) E) := EAt.own ho.2.1
  clear ho
  have HSM : Hid (Sml M E) := hsm
  clear hsm
  have hsx : s.size ≤ maxLen := by unfold maxLen; omega
  obtain ⟨ok, hok⟩ : ∃ x, x = rok M E s := ⟨_, rfl⟩
  obtain ⟨rr, hrr⟩ : ∃ x, x = rto M E s := ⟨_, rfl⟩
  obtain ⟨gg, hgg⟩ : ∃ x, x = gm M E := ⟨_, rfl⟩
  obtain ⟨TM, hTM⟩ : ∃ x, x = tuM M E := ⟨_, rfl⟩
  obtain ⟨TE, hTE⟩ : ∃ x, x = tuE M E := ⟨_, rfl⟩
  have HTL : Hid (TM.length ≤ 12 ∧ TE.length ≤ 12 ∧ ∀ i, i < TM.length → (rx TM i).length ≤ 3) := by show _ ∧ _; rw [hTM, hTE]; exact tu_len M E
  have HT : Hid (ok = true → (gg = true ∧ rok TM TE s = true) ∧ rto TM TE s = !rr) := fun h => by
    rw [hok] at h
    obtain ⟨t1, t2⟩ := tu_run h
    rw [hTM, hTE, hrr, hgg]
    exact ⟨⟨(rok_iff.1 h).1, t1⟩, t2⟩
  have HOK : Hid (ok = true → s.size ≤ 60 ∧ abc s = true) := fun h => by rw [hok] at h; exact (rok_iff.1 h).2
  have CR : Hid (∀ W : World, MAt W W.heap.size (.slice pam M.length pcm) M → EAt W W.heap.size (.slice pbm E.length pdm) E → (Calls Try.prog 20 #[.agg #[.slice pam M.length pcm, .slice pbm E.length pdm], .string s] W fun x w' => x = .returned (.tuple #[.bool rr, .bool ok]) ∧ Below W.heap.size W w') ∧ Calls Try.prog 21 #[.agg #[.slice pam M.length pcm, .slice pbm E.length pdm], .string s] W fun x w' => x = .returned (.tuple #[.bool rr, .bool ok]) ∧ Below W.heap.size W w') := fun W h1 h2 => by rw [hrr, hok]; exact ⟨implRunM M E _ _ s W h1 h2 hsx, specRunM M E _ _ s W h1 h2 hsx⟩
  have CT : Hid (∀ W : World, MAt W W.heap.size (.slice pam M.length pcm) M → EAt W W.heap.size (.slice pbm E.length pdm) E → (Calls Try.prog 22 #[.agg #[.slice pam M.length pcm, .slice pbm E.length pdm]] W fun x w' => (∃ r q, x = .returned (.tuple #[.agg #[r, q], .bool gg]) ∧ ∃ us, MaOwn w' W.heap.size r q TM TE us) ∧ Below W.heap.size W w') ∧ Calls Try.prog 23 #[.agg #[.slice pam M.length pcm, .slice pbm E.length pdm]] W fun x w' => (∃ r q, x = .returned (.tuple #[.agg #[r, q], .bool gg]) ∧ ∃ us, MaOwn w' W.heap.size r q TM TE us) ∧ Below W.heap.size W w') := fun W h1 h2 => by rw [hTM, hTE, hgg]; exact ⟨implTurn M E _ _ W h1 h2, specTurn M E _ _ W h1 h2⟩
  clear hok hrr hgg hTM hTE
  replace hB : Below w.heap.size w w1 := hB.trans (hb.mono hB.size)
  clear hb
  have K1 : Hid (Below w1.heap.size w1 w1) := Below.refl _ _
  obtain ⟨W2, hW2⟩ : ∃ W, W = w1.alloc (.cells #[.slice pam M.length pcm, .slice pbm E.length pdm] 30) := ⟨_, rfl⟩
  have hb : Below w1.heap.size w1 W2 := by rw [hW2]; exact (Below.refl _ _).alloc (Nat.le_refl _) _
  have lm : w1.heap.size < W2.heap.size := by rw [hW2]; simp only [World.size_alloc]; omega
  have vm : W2.cell? ⟨w1.heap.size, 0, none⟩ = some (.slice pam M.length pcm) := by rw [hW2]; go_simp
  have um : W2.cell? ⟨w1.heap.size, 1, none⟩ = some (.slice pbm E.length pdm) := by rw [hW2]; go_simp
  have K1' : Hid (Below w1.heap.size w1 W2) := K1.out.trans (hb.mono K1.out.size)
  clear K1
  have K1 := K1'
  clear K1'
  replace hB : Below w.heap.size w W2 := hB.trans (hb.mono hB.size)
  clear hb
  go_upto_region 4 with fail
  rw [← hW2]
  clear hW2
  go_wp2_with fail
  refine ((CR.out _ (HMm.out.below K1.out) (HEm.out.below K1.out)).1).mono ?_
  rintro e w3 ⟨rfl, hb⟩
  replace vm := (hb.cell (p := ⟨w1.heap.size, 0, none⟩) lm).trans vm
  replace um := (hb.cell (p := ⟨w1.heap.size, 1, none⟩) lm).trans um
  have K1' : Hid (Below w1.heap.size w1 w3) := K1.out.trans (hb.mono K1.out.size)
  clear K1
  have K1 := K1'
  clear K1'
  replace hB : Below w.heap.size w w3 := hB.trans (hb.mono hB.size)
  replace lm : w1.heap.size < w3.heap.size := by have := hb.size; omega
  clear hb
  go_wp2_with fail
  refine ((CR.out _ (HMm.out.below K1.out) (HEm.out.below K1.out)).2).mono ?_
  rintro e w4 ⟨rfl, hb⟩
  replace vm := (hb.cell (p := ⟨w1.heap.size, 0, none⟩) lm).trans vm
  replace um := (hb.cell (p := ⟨w1.heap.size, 1, none⟩) lm).trans um
  have K1' : Hid (Below w1.heap.size w1 w4) := K1.out.trans (hb.mono K1.out.size)
  clear K1
  have K1 := K1'
  clear K1'
  replace hB : Below w.heap.size w w4 := hB.trans (hb.mono hB.size)
  replace lm : w1.heap.size < w4.heap.size := by have := hb.size; omega
  clear hb
  go_wp2_with fail
  refine ((CT.out _ (HMm.out.below K1.out) (HEm.out.below K1.out)).1).mono ?_
  rintro e w5 ⟨⟨r, q, rfl, us, ho⟩, hb⟩
  obtain ⟨pat, pct, hz1⟩ := ho.1.slice
  obtain ⟨pbt, pdt, hz2⟩ := ERow.slice ho.2.1
  subst hz1 hz2
  have HMt : Hid (MAt w5 w5.heap.size (.slice pat TM.length pct) TM) := ho.1.at
  have HEt : Hid (EAt w5 w5.heap.size (.slice pbt TE.length pdt) TE) := EAt.own ho.2.1
  clear ho
  replace vm := (hb.cell (p := ⟨w1.heap.size, 0, none⟩) lm).trans vm
  replace um := (hb.cell (p := ⟨w1.heap.size, 1, none⟩) lm).trans um
  have K1' : Hid (Below w1.heap.size w1 w5) := K1.out.trans (hb.mono K1.out.size)
  clear K1
  have K1 := K1'
  clear K1'
  replace hB : Below w.heap.size w w5 := hB.trans (hb.mono hB.size)
  replace lm : w1.heap.size < w5.heap.size := by have := hb.size; omega
  clear hb
  have K2 : Hid (Below w5.heap.size w5 w5) := Below.refl _ _
  obtain ⟨W6, hW6⟩ : ∃ W, W = w5.alloc (.cells #[.slice pat TM.length pct, .slice pbt TE.length pdt] 30) := ⟨_, rfl⟩
  have hb : Below w5.heap.size w5 W6 := by rw [hW6]; exact (Below.refl _ _).alloc (Nat.le_refl _) _
  have lt : w5.heap.size < W6.heap.size := by rw [hW6]; simp only [World.size_alloc]; omega
  have vt : W6.cell? ⟨w5.heap.size, 0, none⟩ = some (.slice pat TM.length pct) := by rw [hW6]; go_simp
  have ut : W6.cell? ⟨w5.heap.size, 1, none⟩ = some (.slice pbt TE.length pdt) := by rw [hW6]; go_simp
  replace vm := (hb.cell (p := ⟨w1.heap.size, 0, none⟩) lm).trans vm
  replace um := (hb.cell (p := ⟨w1.heap.size, 1, none⟩) lm).trans um
  have K1' : Hid (Below w1.heap.size w1 W6) := K1.out.trans (hb.mono K1.out.size)
  clear K1
  have K1 := K1'
  clear K1'
  have K2' : Hid (Below w5.heap.size w5 W6) := K2.out.trans (hb.mono K2.out.size)
  clear K2
  have K2 := K2'
  clear K2'
  replace hB : Below w.heap.size w W6 := hB.trans (hb.mono hB.size)
  replace lm : w1.heap.size < W6.heap.size := by have := hb.size; omega
  clear hb
  go_upto_region 7 with fail
  rw [← hW6]
  clear hW6
  go_wp2_with fail
  refine ((CT.out _ (HMm.out.below K1.out) (HEm.out.below K1.out)).2).mono ?_
  rintro e w7 ⟨⟨r, q, rfl, us, ho⟩, hb⟩
  obtain ⟨pao, pco, hz1⟩ := ho.1.slice
  obtain ⟨pbo, pdo, hz2⟩ := ERow.slice ho.2.1
  subst hz1 hz2
  have HMo : Hid (MAt w7 w7.heap.size (.slice pao TM.length pco) TM) := ho.1.at
  have HEo : Hid (EAt w7 w7.heap.size (.slice pbo TE.length pdo) TE) := EAt.own ho.2.1
  clear ho
  replace vm := (hb.cell (p := ⟨w1.heap.size, 0, none⟩) lm).trans vm
  replace um := (hb.cell (p := ⟨w1.heap.size, 1, none⟩) lm).trans um
  replace vt := (hb.cell (p := ⟨w5.heap.size, 0, none⟩) lt).trans vt
  replace ut := (hb.cell (p := ⟨w5.heap.size, 1, none⟩) lt).trans ut
  have K1' : Hid (Below w1.heap.size w1 w7) := K1.out.trans (hb.mono K1.out.size)
  clear K1
  have K1 := K1'
  clear K1'
  have K2' : Hid (Below w5.heap.size w5 w7) := K2.out.trans (hb.mono K2.out.size)
  clear K2
  have K2 := K2'
  clear K2'
  replace hB : Below w.heap.size w w7 := hB.trans (hb.mono hB.size)
  replace lm : w1.heap.size < w7.heap.size := by have := hb.size; omega
  replace lt : w5.heap.size < w7.heap.size := by have := hb.size; omega
  clear hb
  have K3 : Hid (Below w7.heap.size w7 w7) := Below.refl _ _
  obtain ⟨W8, hW8⟩ : ∃ W, W = w7.alloc (.cells #[.slice pao TM.length pco, .slice pbo TE.length pdo] 30) := ⟨_, rfl⟩
  have hb : Below w7.heap.size w7 W8 := by rw [hW8]; exact (Below.refl _ _).alloc (Nat.le_refl _) _
  have lo : w7.heap.size < W8.heap.size := by rw [hW8]; simp only [World.size_alloc]; omega
  have vo : W8.cell? ⟨w7.heap.size, 0, none⟩ = some (.slice pao TM.length pco) := by rw [hW8]; go_simp
  have uo : W8.cell? ⟨w7.heap.size, 1, none⟩ = some (.slice pbo TE.length pdo) := by rw [hW8]; go_simp
  replace vm := (hb.cell (p := ⟨w1.heap.size, 0, none⟩) lm).trans vm
  replace um := (hb.cell (p := ⟨w1.heap.size, 1, none⟩) lm).trans um
  replace vt := (hb.cell (p := ⟨w5.heap.size, 0, none⟩) lt).trans vt
  replace ut := (hb.cell (p := ⟨w5.heap.size, 1, none⟩) lt).trans ut
  have K1' : Hid (Below w1.heap.size w1 W8) := K1.out.trans (hb.mono K1.out.size)
  clear K1
  have K1 := K1'
  clear K1'
  have K2' : Hid (Below w5.heap.size w5 W8) := K2.out.trans (hb.mono K2.out.size)
  clear K2
  have K2 := K2'
  clear K2'
  have K3' : Hid (Below w7.heap.size w7 W8) := K3.out.trans (hb.mono K3.out.size)
  clear K3
  have K3 := K3'
  clear K3'
  replace hB : Below w.heap.size w W8 := hB.trans (hb.mono hB.size)
  replace lm : w1.heap.size < W8.heap.size := by have := hb.size; omega
  replace lt : w5.heap.size < W8.heap.size := by have := hb.size; omega
  clear hb
  go_upto_region 8 with fail
  rw [← hW8]
  clear hW8
  have n1 : (ok != ok) = false := bne_self_eq_false _
  have n2 : (rr != rr) = false := bne_self_eq_false _
  have n3 : (gg != gg) = false := bne_self_eq_false _
  go_wp2_with fail
  refine (sameM_any TM TM TE TE _ _ _ _ _ (HMt.out.below K2.out) (HMo.out.below K3.out) (HEt.out.below K2.out) (HEo.out.below K3.out) (by have := HTL.out.1; omega) (fun i hi => by have := HTL.out.2.2 i hi; omega) (by have := HTL.out.2.1; omega)).mono ?_
  rintro e w9 ⟨rfl, hb⟩
  rw [show decide (TM = TM ∧ TE = TE) = true by simp]
  replace vm := (hb.cell (p := ⟨w1.heap.size, 0, none⟩) lm).trans vm
  replace um := (hb.cell (p := ⟨w1.heap.size, 1, none⟩) lm).trans um
  replace vt := (hb.cell (p := ⟨w5.heap.size, 0, none⟩) lt).trans vt
  replace ut := (hb.cell (p := ⟨w5.heap.size, 1, none⟩) lt).trans ut
  replace vo := (hb.cell (p := ⟨w7.heap.size, 0, none⟩) lo).trans vo
  replace uo := (hb.cell (p := ⟨w7.heap.size, 1, none⟩) lo).trans uo
  have K1' : Hid (Below w1.heap.size w1 w9) := K1.out.trans (hb.mono K1.out.size)
  clear K1
  have K1 := K1'
  clear K1'
  have K2' : Hid (Below w5.heap.size w5 w9) := K2.out.trans (hb.mono K2.out.size)
  clear K2
  have K2 := K2'
  clear K2'
  have K3' : Hid (Below w7.heap.size w7 w9) := K3.out.trans (hb.mono K3.out.size)
  clear K3
  have K3 := K3'
  clear K3'
  replace hB : Below w.heap.size w w9 := hB.trans (hb.mono hB.size)
  replace lm : w1.heap.size < w9.heap.size := by have := hb.size; omega
  replace lt : w5.heap.size < w9.heap.size := by have := hb.size; omega
  replace lo : w7.heap.size < w9.heap.size := by have := hb.size; omega
  clear hb
  clear vo uo lo
  clear vm um lm
  clear CR CT HMm HEm HMo HEo n2 n3
  clear K1 K3
  go_upto_if 92 with fail
  go_cut [92] (fun s92 wx => s92 = .bool ok ∧ Hid (Below w9.heap.size w9 wx))
  case first =>
    cases ok with
    | false =>
      go_wp2_with fail
      go_meet
      exact ⟨rfl, Below.refl _ _⟩
    | true =>
      obtain ⟨⟨t0, t1⟩, t2⟩ := HT.out (by trivial)
      have CV : Hid (∀ W : World, MAt W W.heap.size (.slice pat TM.length pct) TM → EAt W W.heap.size (.slice pbt TE.length pdt) TE → Calls Try.prog 20 #[.agg #[.slice pat TM.length pct, .slice pbt TE.length pdt], .string s] W fun x w' => x = .returned (.tuple #[.bool (!rr), .bool true]) ∧ Below W.heap.size W w') := fun W h1 h2 => by rw [← t1, ← t2]; exact implRunM TM TE _ _ s W h1 h2 hsx
      subst t0
      clear t1 t2
      go_wp2_with fail
      refine (CV.out _ (HMt.out.below K2.out) (HEt.out.below K2.out)).mono ?_
      rintro e w10 ⟨rfl, hb⟩
      have hbe : Hid (Below w9.heap.size w9 w10) := hb
      clear hb
      cases rr
      all_goals
        go_wp2_with fail
        go_meet
        exact ⟨rfl, hbe⟩
  case rest =>
    obtain ⟨hs92, hbc⟩ := hcut
    subst hs92
    have hb := hbc.out
    clear hbc HT
    replace vt := (hb.cell (p := ⟨w5.heap.size, 0, none⟩) lt).trans vt
    replace ut := (hb.cell (p := ⟨w5.heap.size, 1, none⟩) lt).trans ut
    have K2' : Hid (Below w5.heap.size w5 wc) := K2.out.trans (hb.mono K2.out.size)
    clear K2
    have K2 := K2'
    clear K2'
    replace hB : Below w.heap.size w wc := hB.trans (hb.mono hB.size)
    replace lt : w5.heap.size < wc.heap.size := by have := hb.size; omega
    clear hb
    clear vt ut lt
    clear HMt HEt K2
    rename (∀ (a : Act) (w : World), Code.wp Try.prog _ _ a w → _) => hK
    refine hK _ _ ?_
    exact lan14 w wc a1 len1 cap1 s ok hsx HOK (H1.out.below hB) hB _ _ _ _ _ _ _ _ _ _ _ _ _ _ _ _ _ _ _ _ _ _ _ _ _ _ _ _ _ _ _ _ _ _ _ _ _ _ _ _ _ _ _ _ _ _ _ _ _ _ _ _ _ _ _ _ _ _ _ _ _ _ _ _ _ _ _ _ _ _ _ _ _ _ _ _ _ _ _ _ _ _ _ _ _ _ _ _ _ _ _ _ _ _ _ _ _ _ _ _ _ _ _ _ _ _ _ _ _ _ _ _ _ _ _ _ _ _ _ _ _ _ _ _ _ _ _ _ _ _ _ _ _ _ _ _ _ _ _ _ _ _ _ _ _ _ _ _ _ _ _ _ _ _ _ _ _ _ _ _ _ _ _ _ _ _ _ _ _ _ _ _ _ _ _ _ _ _ _ _ _ _ _ _ _ _ _ _ _ _ _ _ _ _ _ _ _ _ _ _ _ _ _ _ _ _ _ _ _ _ _ _ _ _ _ _ _ _ _ _ _

end Go.Proofs.Ytecgjhnihagleaa
