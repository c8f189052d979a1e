/- The draw of a filter to be compiled. The law FnCompiled, walked: for what is drawn from the bytes it answers true. -/
import Derived.Test.YtmjpmmkjfimopaaDoorGx
import Derived.Test.YtmjpmmkjfimopaaDoorHc
import Derived.Test.YtmjpmmkjfimopaaDoorHh
import Derived.Test.YtmjpmmkjfimopaaDoorMtF
import Derived.Test.YtmjpmmkjfimopaaDoorCsB
import Derived.Test.YtmjpmmkjfimopaaDoorRpD
import Derived.Test.YtmjpmmkjfimopaaDoorHi
import Derived.Deep.DeepCutAuto
namespace Go.Proofs.YtmjpmmkjfimopaaDoor
open Go.RowKit Plain Sch Wan

def DrG (w : World) (e : Ending) (w' : World) : Prop := ∃ ao cap L, e = .returned (.agg #[.slice ao L.length cap]) ∧ FilAt w w' (.slice ao L.length cap) L

set_option maxRecDepth 100000 in
set_option maxHeartbeats 4000000 in
theorem drawGoodF_any (ao : Option Addr) (len cap : Nat) (w : World) (hcode : CodeAt w ao len) :
    Calls Tryd.prog 30 #[.slice ao len cap] w (DrG w) := by
  obtain ⟨W1, hW1⟩ : ∃ W, W = w.alloc (.cells #[.slice none 0 0] 25) := ⟨_, rfl⟩
  have hB1 : Below w.heap.size w W1 := by rw [hW1]; exact (Below.refl _ w).alloc (Nat.le_refl _) _
  have HS1 : Hid (W1.heap.size = w.heap.size + 1) := by show _ = _; rw [hW1]; simp
  obtain ⟨W2, hW2⟩ : ∃ W, W = W1.alloc (.cells #[.slice ao len cap, .int .i64 0, .int .u64 0] 50) := ⟨_, rfl⟩
  have hB2 : Below w.heap.size w W2 := by rw [hW2]; exact hB1.alloc hB1.size _
  have HS2 : Hid (W2.heap.size = w.heap.size + 2) := by show _ = _; rw [hW2]; simp; have := HS1.out; omega
  have q0 : W2.cell? ⟨w.heap.size, 0, none⟩ = some (.slice none 0 0) := by rw [hW2, World.cell?_alloc_lt _ _ _ (by show w.heap.size < _; have := HS1.out; omega), hW1]; go_simp
  have z0 : W2.frozen? ⟨w.heap.size, 0, none⟩ = false := by rw [hW2, World.frozen?_alloc_past _ _ _ (by show w.heap.size < _; have := HS1.out; omega), hW1]; go_simp
  have hc2 : Cur W2 (w.heap.size + 1) 0 := by rw [hW2, ← HS1.out]; exact Cur.made (hcode.below hB1) _
  rw [hW1] at hW2
  clear hW1 hB1 HS1
  go_enter Tryd.func30, Tryd.ntmps30
  go_wp2_with fail
  rw [← hW2]
  clear hW2
  refine (filter_any (w.heap.size + 1) 0 W2 hc2 (by omega)).mono ?_
  rintro e w3 ⟨rv, L, rfl, hr, hl1, hl15, htx, hc3, hg3⟩
  obtain ⟨ar, capr, hrv⟩ := hr.slice
  subst hrv
  have hs2 := HS2.out
  have q3 := hg3.cell q0 (by simp)
  have z3 := (hg3.frozen_far ⟨w.heap.size, 0, none⟩ (by show w.heap.size < _; omega) (by simp)).trans z0
  have HR : Hid (WRow w3 W2.heap.size (.slice ar L.length capr) L) := hr
  have HB3 : Hid (Below w.heap.size w w3) := hB2.grown hg3 (by omega) (fun k hk => by simp at hk; omega)
  clear hr hg3 q0 z0 hc2 hs2 hc3
  go_wp2
  (try simp only [Exit.inBlock, Exit.then])
  refine bodyPost_ret (v := .agg #[.slice ar L.length capr]) ?_ rfl ⟨ar, capr, L, rfl, ⟨(row_set HR.out (by have := HS2.out; omega) _).lower (by have := HS2.out; omega), hl15, htx, HB3.out.setCell (p := ⟨w.heap.size, 0, none⟩) (Nat.le_refl _) _⟩⟩
  have rc : ∀ (tmps : Array Value) (P : Program) (w : World), (results Tryd.f30 tmps).run P w = ((asAddr (tmps.getD 2 undef)).run P w).andThen fun a w₁ => (loadVar 25 a).run P w₁ := fun tmps P w => by
    have h : Tryd.f30.results = #[.cell 2 25] := rfl
    simp only [results, h]
    simp [Sem.run_bind, Result.andThen]
  rw [rc]
  go_simp

set_option maxRecDepth 100000 in
set_option maxHeartbeats 4000000 in
theorem drawCompile_any (ao : Option Addr) (len cap : Nat) (w : World) (hcode : CodeAt w ao len) :
    Calls Tryd.prog 13 #[.slice ao len cap] w (DrG w) := by
  obtain ⟨W1, hW1⟩ : ∃ W, W = w.alloc (.cells #[.slice none 0 0] 25) := ⟨_, rfl⟩
  have hB1 : Below w.heap.size w W1 := by rw [hW1]; exact (Below.refl _ w).alloc (Nat.le_refl _) _
  have HS1 : Hid (W1.heap.size = w.heap.size + 1) := by show _ = _; rw [hW1]; simp
  have q0 : W1.cell? ⟨w.heap.size, 0, none⟩ = some (.slice none 0 0) := by rw [hW1]; go_simp
  have z0 : W1.frozen? ⟨w.heap.size, 0, none⟩ = false := by rw [hW1]; go_simp
  go_enter Tryd.func13, Tryd.ntmps13
  go_wp2_with fail
  rw [← hW1]
  clear hW1
  refine (drawGoodF_any ao len cap W1 (hcode.below hB1)).mono ?_
  rintro e w3 ⟨ar, capr, L, rfl, hr, hl15, htx, hb3⟩
  have hs1 := HS1.out
  have q3 := (hb3.cell (p := ⟨w.heap.size, 0, none⟩) (by show w.heap.size < _; omega)).trans q0
  have z3 := (hb3.frozen (p := ⟨w.heap.size, 0, none⟩) (by show w.heap.size < _; omega)).trans z0
  have HR : Hid (WRow w3 W1.heap.size (.slice ar L.length capr) L) := hr
  have HB3 : Hid (Below w.heap.size w w3) := hB1.trans (hb3.mono hB1.size)
  clear hr hb3 q0 z0 hs1
  go_wp2
  (try simp only [Exit.inBlock, Exit.then])
  refine bodyPost_ret (v := .agg #[.slice ar L.length capr]) ?_ rfl ⟨ar, capr, L, rfl, ⟨(row_set HR.out (by have := HS1.out; omega) _).lower (by have := HS1.out; omega), hl15, htx, HB3.out.setCell (p := ⟨w.heap.size, 0, none⟩) (Nat.le_refl _) _⟩⟩
  have rc : ∀ (tmps : Array Value) (P : Program) (w : World), (results Tryd.f13 tmps).run P w = ((asAddr (tmps.getD 2 undef)).run P w).andThen fun a w₁ => (loadVar 25 a).run P w₁ := fun tmps P w => by
    have h : Tryd.f13.results = #[.cell 2 25] := rfl
    simp only [results, h]
    simp [Sem.run_bind, Result.andThen]
  rw [rc]
  go_simp

end Go.Proofs.YtmjpmmkjfimopaaDoor

namespace Go.Proofs.YtmjpmmkjfimopaaDoor
open Go.RowKit Plain Sch Wan Prg

theorem cpo_len (T : List Wa) : (cpo T).1.length ≤ 41 := by
  unfold cpo
  by_cases h : gf T = true
  · rw [if_pos h]
    have := cl_root h
    unfold cl at this
    simp only [List.length_append, List.length_singleton]
    omega
  · rw [if_neg h]; simp

theorem cpo_texts {T : List Wa} (h : ∀ x ∈ T, x.text.size ≤ 4) : ∀ i, i < (cpo T).1.length → (ins (cpo T).1 i).text.size ≤ maxLen := by
  intro i hi
  have hm : ∀ x ∈ (cpo T).1, x.text.size ≤ 30 := by
    unfold cpo
    by_cases hg : gf T = true
    · rw [if_pos hg]
      intro x hx
      rcases List.mem_append.1 hx with hx | hx
      · refine cmp_text T (fun k hk => ?_) _ 0 (by have := gf_len hg; omega) x hx
        have := wa_text h hk
        omega
      · simp at hx
        subst hx
        show (ByteArray.mk #[]).size ≤ 30
        decide
    · rw [if_neg hg]; simp
  have h1 : ins (cpo T).1 i ∈ (cpo T).1 := by
    unfold ins
    rw [List.getD, List.getElem?_eq_getElem hi]
    exact List.getElem_mem hi
  have := hm _ h1
  unfold maxLen
  omega

theorem was_allC {w1 W : World} {B : Nat} {v : Value} {L : List Wa} (h : WRow w1 B v L) (ht : ∀ x ∈ L, x.text.size ≤ 4) (hB : Below w1.heap.size w1 W) : ∀ W', Below W.heap.size W W' → WasAt W' W'.heap.size v L := fun W' hW => by
  have h1 : WasAt w1 w1.heap.size v L := WasAt.own h (fun i hi => by have := wa_text ht hi; unfold maxLen; omega)
  exact h1.below (hB.trans (hW.mono hB.size))

theorem ins_allC {w1 W : World} {B : Nat} {v : Value} {L : List Ins} (h : IRow w1 B v L) (ht : ∀ i, i < L.length → (ins L i).text.size ≤ maxLen) (hB : Below w1.heap.size w1 W) : ∀ W', Below W.heap.size W W' → InsAt W' W'.heap.size v L := fun W' hW => by
  have h1 : InsAt w1 w1.heap.size v L := InsAt.own h ht
  exact h1.below (hB.trans (hW.mono hB.size))

set_option maxRecDepth 100000 in
set_option maxHeartbeats 16000000 in
theorem walkFnCompiled (a0 a1 : Option Addr) (len0 cap0 len1 cap1 : Nat) (w : World) (hk : KR w) (h0 : len0 ≤ 1048576 → CodeAt w a0 len0) (h1 : len1 ≤ 1048576 → CodeAt w a1 len1) (y0 : len0 ≤ 140737488351232) (y1 : len1 ≤ 140737488351232) :
    Calls Tryd.prog 3 #[.slice a0 len0 cap0, .slice a1 len1 cap1] w fun e w' => e = .returned (.bool true) ∧ Below w.heap.size w w' := by
  by_cases hbig : 1048576 < len0 + len1
  · have hbig' : (1048576 : Int) < (len0 : Int) + (len1 : Int) := by omega
    clear h0 h1 hk
    go_enter Tryd.func3, Tryd.ntmps3
    go_wp2
    go_ret
    exact ⟨rfl, Below.refl _ _⟩
  have hbig' : (len0 : Int) + (len1 : Int) ≤ 1048576 := by omega
  have hk1 : Hid (CodeAt w a1 len1) := h1 (by omega)
  have hk0 := h0 (by omega)
  have HK : Hid (∀ W, Below w.heap.size w W → KR W) := fun W hW => hk.below hW hk.1
  clear h0 h1 hbig hk
  go_enter Tryd.func3, Tryd.ntmps3
  go_wp2_with fail
  refine (drawMatches_any a0 len0 cap0 w hk0).mono ?_
  rintro e w2 ⟨ao, cap, L, t, rfl, hL, ht⟩
  obtain ⟨hrL, hL15, htL, hb2⟩ := hL
  have htm : t.size ≤ maxLen := by unfold maxLen; omega
  obtain ⟨W3, hW3⟩ : ∃ W, W = w2.alloc (.cells #[.slice ao L.length cap] 25) := ⟨_, rfl⟩
  have hB3 : Below w2.heap.size w2 W3 := by rw [hW3]; exact (Below.refl _ w2).alloc (Nat.le_refl _) _
  have HS3 : Hid (W3.heap.size = w2.heap.size + 1) := by show _ = _; rw [hW3]; simp
  have HC3 : Hid (∀ W : World, Below W3.heap.size W3 W → W.cell? ⟨w2.heap.size, 0, none⟩ = some (.slice ao L.length cap) ∧ w2.heap.size < W.heap.size) := fun W hW => by
    have hs := HS3.out
    have h2 := hW.size
    refine ⟨(hW.cell (p := ⟨w2.heap.size, 0, none⟩) (by show w2.heap.size < _; omega)).trans ?_, by omega⟩
    rw [hW3]; go_simp
  have HTL : Hid (∀ W, Below W3.heap.size W3 W → WasAt W W.heap.size (.slice ao L.length cap) L) := was_allC hrL htL hB3
  have HB3 : Hid (Below w.heap.size w W3) := hb2.trans (hB3.mono hb2.size)
  have HK3 : Hid (∀ W, Below W3.heap.size W3 W → KR W) := fun W hW => HK.out W (HB3.out.trans (hW.mono HB3.out.size))
  have CI : Hid (∀ W, Below W3.heap.size W3 W → Calls Tryd.prog 6 #[.agg #[.slice ao L.length cap]] W fun e w' => OPro W w' e (cpo L)) := fun W hW => implCompile L _ W (HTL.out W hW)
  have CS : Hid (∀ W, Below W3.heap.size W3 W → Calls Tryd.prog 7 #[.agg #[.slice ao L.length cap]] W fun e w' => OPro W w' e (cpo L)) := fun W hW => specCompile L _ W (HTL.out W hW)
  have HTX : Hid (∀ i, i < (cpo L).1.length → (ins (cpo L).1 i).text.size ≤ maxLen) := cpo_texts htL
  have HPL := cpo_len L
  have HGF : Hid ((cpo L).2 = gf L) := by show _ = _; unfold cpo; cases gf L <;> rfl
  have HRUN : Hid (gf L = true → (rpo (cpo L).1 t).1 = (mto L t).1 ∧ (rpo (cpo L).1 t).2.2 = (mto L t).2 ∧ (rpo (cpo L).1 t).2.1 ≤ ((cpo L).1.length : Int) ∧ gp (cpo L).1 = true) := fun h => cpo_runs h t
  obtain ⟨Q, hQ⟩ : ∃ Q, Q = cpo L := ⟨_, rfl⟩
  rw [← hQ] at CI CS HTX HPL HGF HRUN
  clear hQ
  obtain ⟨P, ok⟩ := Q
  dsimp only at HTX HPL HGF HRUN
  clear hrL hb2 hB3 hk0 htL
  go_wp2_with fail
  rw [← hW3]
  clear hW3
  refine (CI.out _ (Below.refl _ _)).mono ?_
  rintro e w4 ⟨rv4, rfl, hr4, hb4⟩
  dsimp only at hr4 ⊢
  obtain ⟨a4, c4, hrv4, _, _⟩ := hr4.slice
  subst hrv4
  obtain ⟨q4, z4⟩ := HC3.out _ hb4
  obtain ⟨W5, hW5⟩ : ∃ W, W = w4.alloc (.cells #[.slice a4 P.length c4] 30) := ⟨_, rfl⟩
  have hB45 : Below w4.heap.size w4 W5 := by rw [hW5]; exact (Below.refl _ w4).alloc (Nat.le_refl _) _
  have HS5 : Hid (W5.heap.size = w4.heap.size + 1) := by show _ = _; rw [hW5]; simp
  have HC5 : Hid (∀ W : World, Below W5.heap.size W5 W → W.cell? ⟨w4.heap.size, 0, none⟩ = some (.slice a4 P.length c4) ∧ w4.heap.size < W.heap.size) := fun W hW => by
    have hs := HS5.out
    have h2 := hW.size
    refine ⟨(hW.cell (p := ⟨w4.heap.size, 0, none⟩) (by show w4.heap.size < _; omega)).trans ?_, by omega⟩
    rw [hW5]; go_simp
  have HTP : Hid (∀ W, Below W5.heap.size W5 W → InsAt W W.heap.size (.slice a4 P.length c4) P) := ins_allC hr4 HTX.out hB45
  have hB5 : Below W3.heap.size W3 W5 := hb4.trans (hB45.mono hb4.size)
  have q5 : W5.cell? ⟨w2.heap.size, 0, none⟩ = some (.slice ao L.length cap) := (HC3.out _ hB5).1
  have z5 : w2.heap.size < W5.heap.size := (HC3.out _ hB5).2
  clear hr4 hb4 hB45 CI
  go_wp2_with fail
  rw [← hW5]
  clear hW5 q4 z4
  refine (CS.out _ hB5).mono ?_
  rintro e w6 ⟨rv6, rfl, hr6, hb6⟩
  dsimp only at hr6 ⊢
  obtain ⟨a6, c6, hrv6, _, _⟩ := hr6.slice
  subst hrv6
  obtain ⟨W7, hW7⟩ : ∃ W, W = w6.alloc (.cells #[.slice a6 P.length c6] 30) := ⟨_, rfl⟩
  have hB67 : Below w6.heap.size w6 W7 := by rw [hW7]; exact (Below.refl _ w6).alloc (Nat.le_refl _) _
  have HC7 : W7.cell? ⟨w6.heap.size, 0, none⟩ = some (.slice a6 P.length c6) := by rw [hW7]; go_simp
  have hTM7 : InsAt W7 W7.heap.size (.slice a6 P.length c6) P := ins_allC hr6 HTX.out hB67 W7 (Below.refl _ _)
  have hB7 : Below W5.heap.size W5 W7 := hb6.trans (hB67.mono hb6.size)
  obtain ⟨q6, z6⟩ := HC5.out _ hb6
  have hz7 : w6.heap.size < W7.heap.size := by rw [hW7]; simp
  have hTN7 := HTP.out _ hB7
  have HSP : Hid (Calls Tryd.prog 8 #[.agg #[.slice a4 P.length c4], .agg #[.slice a6 P.length c6]] W7 fun e w' => e = .returned (.bool true) ∧ Below W7.heap.size W7 w') := samePrograms_same P _ _ W7 hTN7 hTM7 (by omega)
  have hne : (ok != ok) = false := by simp
  clear hr6 hb6 hB67 CS hTM7 hTN7 q5 z5
  go_wp2_with fail
  rw [← hW7]
  clear hW7
  refine HSP.out.mono ?_
  rintro e w8 ⟨rfl, hb8⟩
  have hB8 : Below W5.heap.size W5 w8 := hB7.trans (hb8.mono hB7.size)
  have HB5 : Hid (Below w.heap.size w W5) := HB3.out.trans (hB5.mono HB3.out.size)
  clear HSP hb8 hB7 HC7 hz7 q6 z6
  obtain ⟨q8, z8⟩ := HC5.out _ hB8
  have hB38 : Below W3.heap.size W3 w8 := hB5.trans (hB8.mono hB5.size)
  obtain ⟨f8, y8⟩ := HC3.out _ hB38
  go_upto_if 53 with fail
  go_cut [53] (fun s53 wx => s53 = .bool ok ∧ Below w.heap.size w wx)
  case first =>
    cases ok
    · go_wp2_with fail
      go_meet
      exact ⟨rfl, HB5.out.trans (hB8.mono HB5.out.size)⟩
    · have hgf : gf L = true := HGF.out.symm
      obtain ⟨r1, r2, r3, r4⟩ := HRUN.out hgf
      have hM := implMatches L t _ w8 (HTL.out _ hB38) htm (HK3.out _ hB38)
      have HM : Hid (Calls Tryd.prog 9 #[.agg #[.slice ao L.length cap], .string t] w8 fun e w' => e = .returned (.tuple #[.bool (mto L t).1, .bool (mto L t).2]) ∧ Below w8.heap.size w8 w') := hM
      have HR : Hid (∀ W, Below W5.heap.size W5 W → Calls Tryd.prog 10 #[.agg #[.slice a4 P.length c4], .string t] W fun e w' => e = .returned (.tuple #[.bool (mto L t).1, .int .i64 (rpo P t).2.1, .bool (mto L t).2]) ∧ Below W.heap.size W w') := fun W hW => by
        have h := implRun P t _ W (HTP.out _ hW) htm (HK3.out _ (hB5.trans (hW.mono hB5.size)))
        rw [r1, r2] at h
        exact h
      have HST : Hid (∀ W, Below W5.heap.size W5 W → Calls Tryd.prog 11 #[.agg #[.slice a4 P.length c4]] W fun e w' => e = .returned (.tuple #[.int .i64 (P.length : Int), .bool true]) ∧ Below W.heap.size W w') := fun W hW => by
        have h := implSteps P _ W (HTP.out _ hW)
        have e : sto P = ((P.length : Int), true) := by unfold sto; rw [r4]; rfl
        rw [e] at h
        exact h
      have HGP : Hid (∀ W, Below W5.heap.size W5 W → Calls Tryd.prog 12 #[.agg #[.slice a4 P.length c4]] W fun e w' => e = .returned (.bool true) ∧ Below W.heap.size W w') := fun W hW => by
        have h := implGoodP P _ W (HTP.out _ hW)
        rw [r4] at h
        exact h
      generalize (mto L t).1 = m at HM HR
      generalize (mto L t).2 = two at HM HR
      generalize (rpo P t).2.1 = n at HR r3
      have n1 : (two != two) = false := by simp
      have n2 : (m != m) = false := by simp
      have d3 : decide ((P.length : Int) < n) = false := by simp; omega
      clear hM r1 r2 r4 hgf HGF HRUN
      go_wp2_with fail
      refine HM.out.mono ?_
      rintro e w9 ⟨rfl, hb9⟩
      have hB9 : Below W5.heap.size W5 w9 := hB8.trans (hb9.mono hB8.size)
      obtain ⟨q9, z9⟩ := HC5.out _ hB9
      clear hb9 HM q8 z8 f8 y8 hB8 hB38
      go_wp2_with fail
      refine (HR.out _ hB9).mono ?_
      rintro e w10 ⟨rfl, hb10⟩
      have hB10 : Below W5.heap.size W5 w10 := hB9.trans (hb10.mono hB9.size)
      obtain ⟨q10, z10⟩ := HC5.out _ hB10
      clear hb10 q9 z9 hB9
      go_wp2_with fail
      refine (HST.out _ hB10).mono ?_
      rintro e w11 ⟨rfl, hb11⟩
      have hB11 : Below W5.heap.size W5 w11 := hB10.trans (hb11.mono hB10.size)
      obtain ⟨q11, z11⟩ := HC5.out _ hB11
      clear hb11 q10 z10 hB10
      go_wp2_with fail
      refine (HGP.out _ hB11).mono ?_
      rintro e w12 ⟨rfl, hb12⟩
      have hB12 : Below W5.heap.size W5 w12 := hB11.trans (hb12.mono hB11.size)
      clear hb12 q11 z11 hB11
      go_wp2_with fail
      go_meet
      exact ⟨rfl, HB5.out.trans (hB12.mono HB5.out.size)⟩
  case rest =>
    obtain ⟨rfl, hbd⟩ := hcut
    clear HC3 HTL HK3 HC5 HTP HTX HGF HRUN hB8 hB38 q8 z8 f8 y8 HS3 HS5 HB5 HB3 hB5 HPL
    go_wp2_with fail
    refine (drawCompile_any a1 len1 cap1 _ (hk1.out.below hbd)).mono ?_
    rintro e w12 ⟨ag, cg, G, rfl, hG⟩
    obtain ⟨hrG, hG15, htG, hb12⟩ := hG
    have hB12 : Below w.heap.size w w12 := hbd.trans (hb12.mono hbd.size)
    obtain ⟨W13, hW13⟩ : ∃ W, W = w12.alloc (.cells #[.slice ag G.length cg] 25) := ⟨_, rfl⟩
    have hB13 : Below w12.heap.size w12 W13 := by rw [hW13]; exact (Below.refl _ w12).alloc (Nat.le_refl _) _
    have HS13 : Hid (W13.heap.size = w12.heap.size + 1) := by show _ = _; rw [hW13]; simp
    have HC13 : Hid (∀ W : World, Below W13.heap.size W13 W → W.cell? ⟨w12.heap.size, 0, none⟩ = some (.slice ag G.length cg) ∧ w12.heap.size < W.heap.size) := fun W hW => by
      have hs := HS13.out
      have h2 := hW.size
      refine ⟨(hW.cell (p := ⟨w12.heap.size, 0, none⟩) (by show w12.heap.size < _; omega)).trans ?_, by omega⟩
      rw [hW13]; go_simp
    have HTG : Hid (∀ W, Below W13.heap.size W13 W → WasAt W W.heap.size (.slice ag G.length cg) G) := was_allC hrG htG hB13
    have HB13 : Hid (Below w.heap.size w W13) := hB12.trans (hB13.mono hB12.size)
    have CI : Hid (∀ W, Below W13.heap.size W13 W → Calls Tryd.prog 6 #[.agg #[.slice ag G.length cg]] W fun e w' => OPro W w' e (cpo G)) := fun W hW => implCompile G _ W (HTG.out W hW)
    have CS : Hid (∀ W, Below W13.heap.size W13 W → Calls Tryd.prog 7 #[.agg #[.slice ag G.length cg]] W fun e w' => OPro W w' e (cpo G)) := fun W hW => specCompile G _ W (HTG.out W hW)
    have HTX : Hid (∀ i, i < (cpo G).1.length → (ins (cpo G).1 i).text.size ≤ maxLen) := cpo_texts htG
    have HPL := cpo_len G
    obtain ⟨Q, hQ⟩ : ∃ Q, Q = cpo G := ⟨_, rfl⟩
    rw [← hQ] at CI CS HTX HPL
    clear hQ
    obtain ⟨S, is⟩ := Q
    dsimp only at HTX HPL
    clear hrG hb12 hB12 hB13 htG
    go_wp2_with fail
    rw [← hW13]
    clear hW13
    refine (CI.out _ (Below.refl _ _)).mono ?_
    rintro e w14 ⟨rv14, rfl, hr14, hb14⟩
    dsimp only at hr14 ⊢
    obtain ⟨a14, c14, hrv14, _, _⟩ := hr14.slice
    subst hrv14
    obtain ⟨W15, hW15⟩ : ∃ W, W = w14.alloc (.cells #[.slice a14 S.length c14] 30) := ⟨_, rfl⟩
    have hB15 : Below w14.heap.size w14 W15 := by rw [hW15]; exact (Below.refl _ w14).alloc (Nat.le_refl _) _
    have HS15 : Hid (W15.heap.size = w14.heap.size + 1) := by show _ = _; rw [hW15]; simp
    have HC15 : Hid (∀ W : World, Below W15.heap.size W15 W → W.cell? ⟨w14.heap.size, 0, none⟩ = some (.slice a14 S.length c14) ∧ w14.heap.size < W.heap.size) := fun W hW => by
      have hs := HS15.out
      have h2 := hW.size
      refine ⟨(hW.cell (p := ⟨w14.heap.size, 0, none⟩) (by show w14.heap.size < _; omega)).trans ?_, by omega⟩
      rw [hW15]; go_simp
    have HTS : Hid (∀ W, Below W15.heap.size W15 W → InsAt W W.heap.size (.slice a14 S.length c14) S) := ins_allC hr14 HTX.out hB15
    obtain ⟨q14, z14⟩ := HC13.out _ hb14
    have hBX : Below W13.heap.size W13 W15 := hb14.trans (hB15.mono hb14.size)
    clear hr14 hb14 hB15 CI
    go_wp2_with fail
    rw [← hW15]
    clear hW15 q14 z14
    refine (CS.out _ hBX).mono ?_
    rintro e w16 ⟨rv16, rfl, hr16, hb16⟩
    dsimp only at hr16 ⊢
    obtain ⟨a16, c16, hrv16, _, _⟩ := hr16.slice
    subst hrv16
    obtain ⟨W17, hW17⟩ : ∃ W, W = w16.alloc (.cells #[.slice a16 S.length c16] 30) := ⟨_, rfl⟩
    have hB17 : Below w16.heap.size w16 W17 := by rw [hW17]; exact (Below.refl _ w16).alloc (Nat.le_refl _) _
    have HC17 : W17.cell? ⟨w16.heap.size, 0, none⟩ = some (.slice a16 S.length c16) := by rw [hW17]; go_simp
    have hTM17 : InsAt W17 W17.heap.size (.slice a16 S.length c16) S := ins_allC hr16 HTX.out hB17 W17 (Below.refl _ _)
    have hBY : Below W15.heap.size W15 W17 := hb16.trans (hB17.mono hb16.size)
    obtain ⟨q16, z16⟩ := HC15.out _ hb16
    have hTN17 := HTS.out _ hBY
    have HSP : Hid (Calls Tryd.prog 8 #[.agg #[.slice a14 S.length c14], .agg #[.slice a16 S.length c16]] W17 fun e w' => e = .returned (.bool true) ∧ Below W17.heap.size W17 w') := samePrograms_same S _ _ W17 hTN17 hTM17 (by omega)
    have hne : (is == is) = true := by simp
    clear hr16 hb16 hB17 CS hTM17 hTN17
    go_wp2_with fail
    rw [← hW17]
    clear hW17
    refine HSP.out.mono ?_
    rintro e w18 ⟨rfl, hb18⟩
    have hB18 : Below w.heap.size w w18 := HB13.out.trans (((hBX.trans (hBY.mono hBX.size)).trans (hb18.mono (hBX.trans (hBY.mono hBX.size)).size)).mono HB13.out.size)
    clear HSP hb18
    go_wp2
    go_ret
    exact ⟨rfl, hB18⟩

end Go.Proofs.YtmjpmmkjfimopaaDoor
