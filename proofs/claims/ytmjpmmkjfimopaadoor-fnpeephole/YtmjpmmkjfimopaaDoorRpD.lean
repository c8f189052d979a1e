/- The program's RunProgram. -/
import Derived.Test.YtmjpmmkjfimopaaDoorRpC
import Derived.Test.YtmjpmmkjfimopaaDoorPiD
namespace Go.Proofs.YtmjpmmkjfimopaaDoor
open Go.RowKit Plain Sch Wan Prg

/-- what each code does -/
def doF (c : Int) : FuncId := if c = 1 then 53 else if c = 2 then 54 else if c = 3 then 55 else if c = 4 then 56 else 57

set_option maxRecDepth 100000 in
set_option maxHeartbeats 2000000 in
theorem doingOf_any (c : Int) (w : World) (hc : c = 1 ∨ c = 2 ∨ c = 3 ∨ c = 4 ∨ c = 5) :
    Calls Tryd.prog 28 #[.int .i64 c] w fun e w' => e = .returned (.func (.func (doF c)) #[] #[]) ∧ Below w.heap.size w w' := by
  rcases hc with rfl | rfl | rfl | rfl | rfl
  all_goals
    go_enter Tryd.func28, Tryd.ntmps28
    go_wp2
    go_ret
    exact ⟨rfl, (Below.refl _ w).alloc (Nat.le_refl _) _⟩

/-- where a run stands -/
def RunI (T : List Ins) (l : List Fld) (s : ByteArray) (R : Bool × Nat) (rb : Nat) (W3 : World) (k : Nat) (wr : World) : Prop :=
  ∃ (p f : Nat) (fl : Bool) (pv : Int) (pl : Option Fld) (en : Bool), RSt wr rb s fl pv p en ∧ PlR s pv pl ∧ Pu W3 wr (some rb) noV noV ∧ ((en = false ∧ p < T.length ∧ T.length ≤ f + p ∧ k ≤ p ∧ R = rn T l f fl pl p k) ∨ (en = true ∧ R = (fl, k) ∧ k ≤ 60))

set_option maxRecDepth 100000 in
set_option maxHeartbeats 8000000 in
theorem implRun (T : List Ins) (s : ByteArray) (v : Value) (w : World) (hT : InsAt w w.heap.size v T) (hsm : s.size ≤ maxLen) (hk : KR w) :
    Calls Tryd.prog 10 #[.agg #[v], .string s] w fun e w' => e = .returned (.tuple #[.bool (rpo T s).1, .int .i64 (rpo T s).2.1, .bool (rpo T s).2.2]) ∧ Below w.heap.size w w' := by
  have HT : Hid (InsAt w w.heap.size v T) := hT
  have HK : Hid (KR w) := hk
  have hk0 : 0 < w.heap.size := hk.1
  obtain ⟨ao, cap, rfl, hlc, hcm, hrow, hnm⟩ := hT
  have HROW : Hid (∀ i, i < T.length → ∃ g o, ao = some ⟨g, o, none⟩ ∧ g < w.heap.size ∧ InsIn w g (o + i * 6) (ins T i)) := hrow
  unfold maxLen at hcm
  have HRA : Hid (∀ x ∈ (rr s).1, okF x) := rr_all s
  have HRF : Hid ((rr s).2 = true → s.size ≤ 400 ∧ rfs s (s.size + 1) 0 [] = ((rr s).1, true)) := rr_rfs
  obtain ⟨Q, hQ⟩ : ∃ Q, Q = rpo T s := ⟨_, rfl⟩
  rw [← hQ]
  have HQ : Hid (Q = if gp T && (rr s).2 then ((rn T (rr s).1 T.length false none 0 0).1, ((rn T (rr s).1 T.length false none 0 0).2 : Int), true) else (false, 0, false)) := hQ
  clear hQ hrow hnm
  have CF : Hid (∀ W : World, KR W → Calls Tryd.prog 26 #[.string s] W fun e w' => OFs W w' e (rr s)) := fun W h => readRising_any s W hsm h
  generalize rr s = Z at HQ CF HRA HRF
  obtain ⟨l, ok⟩ := Z
  dsimp only at HQ HRA HRF
  have hB1 : Below w.heap.size w (w.alloc (.cells #[.slice ao T.length cap] 30)) := (Below.refl _ w).alloc (Nat.le_refl _) _
  have HX1 : Hid (InsAt (w.alloc (.cells #[.slice ao T.length cap] 30)) (w.alloc (.cells #[.slice ao T.length cap] 30)).heap.size (.slice ao T.length cap) T) := HT.out.below hB1
  go_enter Tryd.func10, Tryd.ntmps10
  go_wp2_with fail
  refine (implGoodP T _ _ HX1.out).mono ?_
  rintro e w2 ⟨rfl, hb2⟩
  have hB2 : Below w.heap.size w w2 := hB1.trans (hb2.mono (by simp))
  have hs2 : w.heap.size < w2.heap.size := by have := hb2.size; simp at this; omega
  have q2 : w2.cell? ⟨w.heap.size, 0, none⟩ = some (.slice ao T.length cap) := (hb2.cell (p := ⟨w.heap.size, 0, none⟩) (by simp)).trans (by simp)
  have HK2 : Hid (KR w2) := HK.out.below hB2 hk0
  clear hb2 HX1 hk
  cases hg : gp T with
  | false =>
    have hF : Hid (Q = (false, 0, false)) := by show Q = _; rw [HQ.out, hg]; rfl
    clear HQ hg
    go_wp2
    go_ret3
    exact ⟨by rw [hF.out]; rfl, hB2⟩
  | true =>
    go_wp2_with fail
    refine (CF.out _ HK2.out).mono ?_
    rintro e w3 ⟨vl, rfl, hF3, hb3⟩
    have hB3 : Below w.heap.size w w3 := hB2.trans (hb3.mono hB2.size)
    have hs3 : w.heap.size < w3.heap.size := by have := hb3.size; omega
    have q3 := (hb3.cell (p := ⟨w.heap.size, 0, none⟩) hs2).trans q2
    obtain ⟨al, capl, rfl, _⟩ := hF3
    clear hb3 CF q2
    dsimp only at *
    cases ok with
    | false =>
      have hF : Hid (Q = (false, 0, false)) := by show Q = _; rw [HQ.out, hg]; rfl
      clear HQ hg
      go_wp2
      go_ret3
      exact ⟨by rw [hF.out]; rfl, hB3⟩
    | true =>
      obtain ⟨hs400, hrfs⟩ := HRF.out rfl
      have HRFS : Hid (rfs s (s.size + 1) 0 [] = (l, true)) := hrfs
      obtain ⟨h0, h60⟩ := gp_len hg
      have HG : Hid (gp T = true) := hg
      obtain ⟨R, hRR⟩ : ∃ R, R = rn T l T.length false none 0 0 := ⟨_, rfl⟩
      have hF : Hid (Q = (R.1, (R.2 : Int), true)) := by show Q = _; rw [HQ.out, hg, hRR]; rfl
      have HRR : Hid (R = rn T l T.length false none 0 0) := hRR
      clear HQ hg hRR hrfs HRF
      obtain ⟨W3, hW3⟩ : ∃ W, W = w3.alloc (.cells #[.string s, .bool false, .int .i64 (-1), .int .i64 0, .bool false] 69) := ⟨_, rfl⟩
      have hA3 : Below w3.heap.size w3 W3 := by rw [hW3]; exact (Below.refl _ w3).alloc (Nat.le_refl _) _
      have hl3 : w3.heap.size < W3.heap.size := by rw [hW3]; simp
      have HR3 : Hid (RSt W3 w3.heap.size s false (-1) ((0 : Nat) : Int) false) := by
        show RSt _ _ _ _ _ _ _
        refine ⟨hl3, ⟨by rw [hW3]; go_simp, by rw [hW3]; go_simp, by rw [hW3]; go_simp, by rw [hW3]; go_simp, by rw [hW3]; go_simp⟩, by rw [hW3]; go_simp, by rw [hW3]; go_simp, by rw [hW3]; go_simp, by rw [hW3]; go_simp⟩
      have Q3 : Hid (W3.cell? ⟨w.heap.size, 0, none⟩ = some (.slice ao T.length cap)) := (hA3.cell (p := ⟨w.heap.size, 0, none⟩) hs3).trans q3
      have HB3 : Hid (Below w.heap.size w W3) := hB3.trans (hA3.mono hB3.size)
      have hrb0 : 0 < w3.heap.size := by omega
      have HI0 : Hid (RunI T l s R w3.heap.size W3 0 W3) := ⟨0, T.length, false, -1, none, false, HR3.out, .inl ⟨rfl, rfl⟩, Pu.refl _ _ _, .inl ⟨rfl, by omega, by omega, by omega, HRR.out⟩⟩
      have HFR : Hid (∀ wr : World, Pu W3 wr (some w3.heap.size) noV noV → Below w.heap.size w wr ∧ wr.cell? ⟨w.heap.size, 0, none⟩ = some (.slice ao T.length cap) ∧ KR wr) := fun wr hp => by
        have h1 : Below w3.heap.size W3 wr := hp.below (by omega) (fun g hg => by simp at hg; omega) (fun g hg => by simp [Value.ownBlock] at hg)
        have h2 : Below w.heap.size w wr := HB3.out.trans (h1.mono (by omega))
        exact ⟨h2, (h1.cell (p := ⟨w.heap.size, 0, none⟩) hs3).trans Q3.out, HK.out.below h2 hk0⟩
      go_upto_region 7 with fail
      rw [← hW3]
      clear hW3 q3 HR3 Q3 hA3
      go_wp2
      go_loopw [10] (fun vk wr => ∃ k : Nat, vk = .int .i64 (k : Int) ∧ Hid (RunI T l s R w3.heap.size W3 k wr))
        (fun vk _ => 61 - (intOf vk).toNat)
      case atStart => exact ⟨0, by go_num, HI0⟩
      case round =>
        clear HI0 HRR
        obtain ⟨k, rfl, HI⟩ := hrel
        obtain ⟨p, f, fl, pv, pl, en, hR, hPL, hPU, hcase⟩ := HI.out
        obtain ⟨hB0, qr, hKr⟩ := HFR.out wr hPU
        have hRr := hR
        obtain ⟨hrr, ⟨h1, h2, h3, h4, h5⟩, f1, f2, f3, f4⟩ := hRr
        rcases hcase with ⟨rfl, hp, hpf, hkp, hRn⟩ | ⟨rfl, hRe, hk60⟩
        · have hpl : (p : Int) < (T.length : Int) := by omega
          obtain ⟨g, o, rfl, hg, hty⟩ := HROW.out p hp
          have hci := hty.below hB0 hg
          have hgw : g < wr.heap.size := by have := hB0.size; omega
          have hww : w.heap.size < wr.heap.size := by have := hPU.size; omega
          have hne : w3.heap.size ≠ w.heap.size := by omega
          obtain ⟨f, rfl⟩ : ∃ f', f = f' + 1 := ⟨f - 1, by omega⟩
          have hcd := gp_codes HG.out hp
          have n1 : Hid ((ins T p).code = 1 → R = rn T l f fl (fby l (ins T p).no) (p + 1) (k + 1)) := fun h => hRn.trans (rn_seek h)
          have n2 : Hid ((ins T p).code = 2 → R = rn T l f (tstI (ins T p) pl) pl (p + 1) (k + 1)) := fun h => hRn.trans (rn_test h)
          have n3 : Hid ((ins T p).code = 3 → R = rn T l f fl pl (jmpI (ins T p) fl p) (k + 1)) := fun h => hRn.trans (rn_jump h)
          have n4 : Hid ((ins T p).code = 4 → R = rn T l f (!fl) pl (p + 1) (k + 1)) := fun h => hRn.trans (rn_flip h)
          have n5 : Hid ((ins T p).code = 5 → R = (fl, k + 1)) := fun h => hRn.trans (rn_end h)
          have hnx : Hid ((ins T p).code ≠ 5 → p + 1 < T.length) := fun h => gp_next HG.out hp h
          have hjm : Hid ((ins T p).code = 3 → (p : Int) < (ins T p).dst ∧ (ins T p).dst < T.length ∧ ((ins T p).num = 0 ∨ (ins T p).num = 1)) := fun h => gp_jump HG.out hp h
          have hts : Hid ((ins T p).code = 2 → isAsk (ins T p).kind = true ∧ (ins T p).text.size ≤ 30) := fun h => gp_test HG.out hp h
          generalize ins T p = x at hci hcd n1 n2 n3 n4 n5 hnx hjm hts
          obtain ⟨c, kd, no, m, t, jt⟩ := x
          dsimp only at hci hcd n1 n2 n3 n4 n5 hnx hjm hts
          obtain ⟨c0, c1, c2, c3, c4, c5⟩ := hci
          dsimp only at c0 c1 c2 c3 c4 c5
          have HPL : Hid (PlR s pv pl) := hPL
          clear hty hRn HI hPL
          obtain ⟨W4, hW4⟩ : ∃ W, W = wr.alloc (.cells #[.int .i64 c, .int .i64 kd, .int .i64 no, .int .i64 m, .string t, .int .i64 jt] 59) := ⟨_, rfl⟩
          have hA4 : Below wr.heap.size wr W4 := by rw [hW4]; exact (Below.refl _ wr).alloc (Nat.le_refl _) _
          have hl4 : wr.heap.size < W4.heap.size := by rw [hW4]; simp
          have y0 : W4.cell? ⟨wr.heap.size, 0, none⟩ = some (.int .i64 c) := by rw [hW4]; go_simp
          have y1 : W4.cell? ⟨wr.heap.size, 1, none⟩ = some (.int .i64 kd) := by rw [hW4]; go_simp
          have y2 : W4.cell? ⟨wr.heap.size, 2, none⟩ = some (.int .i64 no) := by rw [hW4]; go_simp
          have y3 : W4.cell? ⟨wr.heap.size, 3, none⟩ = some (.int .i64 m) := by rw [hW4]; go_simp
          have y4 : W4.cell? ⟨wr.heap.size, 4, none⟩ = some (.string t) := by rw [hW4]; go_simp
          have y5 : W4.cell? ⟨wr.heap.size, 5, none⟩ = some (.int .i64 jt) := by rw [hW4]; go_simp
          have hR4 : RSt W4 w3.heap.size s fl pv p false := hR.below hA4
          have hP4 : Pu W3 W4 (some w3.heap.size) noV noV := hPU.next hA4
          obtain ⟨W5, hW5⟩ : ∃ W, W = W4.setCell ⟨w3.heap.size, 3, none⟩ (.int .i64 ((p : Int) + 1)) := ⟨_, rfl⟩
          have HR5 : Hid (RSt W5 w3.heap.size s fl pv ((p : Int) + 1) false) := by show RSt _ _ _ _ _ _ _; rw [hW5]; exact hR4.set3 _
          have HP5 : Hid (Pu W3 W5 (some w3.heap.size) noV noV) := by show Pu _ _ _ _ _; rw [hW5]; exact hP4.set 3 _
          have hne2 : wr.heap.size ≠ w3.heap.size := by omega
          have hl5 : wr.heap.size < W5.heap.size := by rw [hW5]; simpa [World.setCell] using hl4
          have hy : ∀ (j : Nat) (u : Value), W4.cell? ⟨wr.heap.size, j, none⟩ = some u → W5.cell? ⟨wr.heap.size, j, none⟩ = some u := fun j u h => by rw [hW5, World.cell?_setCell_other _ _ _ _ (by simp <;> omega)]; exact h
          have z0 := hy 0 _ y0
          have z1 := hy 1 _ y1
          have z2 := hy 2 _ y2
          have z3 := hy 3 _ y3
          have z4 := hy 4 _ y4
          have z5 := hy 5 _ y5
          have hp60 : (p : Int) < 60 := by omega
          obtain ⟨_, ⟨j1, j2, j3, j4, j5⟩, e1, e2, e3, e4⟩ := hR4
          go_upto_region 10 with fail
          rw [← hW4]
          clear hW4 c0 c1 c2 c3 c4 c5
          go_upto_region 11 with fail
          rw [← hW5]
          clear hW5 hy y0 y1 y2 y3 y4 y5 j1 j2 j3 j4 j5 e1 e2 e3 e4 hA4 hP4 h1 h2 h3 h4 h5 f1 f2 f3 f4 hR
          have HBd : Hid (Below W5.heap.size W5 W5.drew) := (Below.refl _ _).drew
          have HK5 : Hid (∀ W : World, Below W5.heap.size W5 W → KR W) := fun W hW => (HFR.out _ (HP5.out.next hW)).2.2
          rcases hcd with rfl | rfl | rfl | rfl | rfl
          · have hp1 := hnx.out (by decide)
            have HRR : Hid (R = rn T l f fl (fby l no) (p + 1) (k + 1)) := n1.out rfl
            clear n1 n2 n3 n4 n5 hnx hjm hts
            go_region_with (first
              | (go_at_call 53; refine (seek_any ⟨1, kd, no, m, t, jt⟩ w3.heap.size s fl pv _ false w6 (HR5.out.below hB6) l hs400 HRFS.out HRA.out (HK5.out _ hB6) hrb0).mono ?_; rintro e w7 ⟨pv7, ⟨rfl, hR7, hP7⟩, hL7⟩)
              | (go_at_call 28; refine (doingOf_any 1 _ (by simp)).mono ?_; rintro e w6 ⟨rfl, hb6⟩; have hB6 : Below W5.heap.size W5 w6 := HBd.out.trans (hb6.mono (Nat.le_refl _)); have z0 := (hB6.cell (p := ⟨wr.heap.size, 0, none⟩) hl5).trans z0; have z1 := (hB6.cell (p := ⟨wr.heap.size, 1, none⟩) hl5).trans z1; have z2 := (hB6.cell (p := ⟨wr.heap.size, 2, none⟩) hl5).trans z2; have z3 := (hB6.cell (p := ⟨wr.heap.size, 3, none⟩) hl5).trans z3; have z4 := (hB6.cell (p := ⟨wr.heap.size, 4, none⟩) hl5).trans z4; have z5 := (hB6.cell (p := ⟨wr.heap.size, 5, none⟩) hl5).trans z5; unfold doF))
            all_goals
              have HIN : Hid (RunI T l s R w3.heap.size W3 (k + 1) w7) := ⟨p + 1, f, fl, pv7, _, false, by simpa using hR7, hL7, (HP5.out.next hB6).trans hP7, .inl ⟨rfl, hp1, by omega, by omega, HRR.out⟩⟩
              clear hR7 hP7 hL7 hB6 hb6
              go_wp2
              go_roundw
              case rel => exact ⟨k + 1, by go_num, HIN⟩
              case measure => simp [intOf]; omega
          · have hp1 := hnx.out (by decide)
            obtain ⟨hask, htx⟩ := hts.out rfl
            have HRR : Hid (R = rn T l f (tstI ⟨2, kd, no, m, t, jt⟩ pl) pl (p + 1) (k + 1)) := n2.out rfl
            clear n1 n2 n3 n4 n5 hnx hjm hts
            go_region_with (first
              | (go_at_call 54; refine (test_any ⟨2, kd, no, m, t, jt⟩ w3.heap.size s fl pv _ false w6 (HR5.out.below hB6) pl hs400 HPL.out hask htx (HK5.out _ hB6) hrb0).mono ?_; rintro e w7 ⟨rfl, hR7, hP7⟩)
              | (go_at_call 28; refine (doingOf_any 2 _ (by simp)).mono ?_; rintro e w6 ⟨rfl, hb6⟩; have hB6 : Below W5.heap.size W5 w6 := HBd.out.trans (hb6.mono (Nat.le_refl _)); have z0 := (hB6.cell (p := ⟨wr.heap.size, 0, none⟩) hl5).trans z0; have z1 := (hB6.cell (p := ⟨wr.heap.size, 1, none⟩) hl5).trans z1; have z2 := (hB6.cell (p := ⟨wr.heap.size, 2, none⟩) hl5).trans z2; have z3 := (hB6.cell (p := ⟨wr.heap.size, 3, none⟩) hl5).trans z3; have z4 := (hB6.cell (p := ⟨wr.heap.size, 4, none⟩) hl5).trans z4; have z5 := (hB6.cell (p := ⟨wr.heap.size, 5, none⟩) hl5).trans z5; unfold doF))
            all_goals
              have HIN : Hid (RunI T l s R w3.heap.size W3 (k + 1) w7) := ⟨p + 1, f, _, pv, pl, false, by simpa using hR7, HPL.out, (HP5.out.next hB6).trans hP7, .inl ⟨rfl, hp1, by omega, by omega, HRR.out⟩⟩
              clear hR7 hP7 hB6 hb6
              go_wp2
              go_roundw
              case rel => exact ⟨k + 1, by go_num, HIN⟩
              case measure => simp [intOf]; omega
          · have hp1 := hnx.out (by decide)
            obtain ⟨hj1, hj2, hj3⟩ := hjm.out rfl
            obtain ⟨jn, rfl⟩ := Int.eq_ofNat_of_zero_le (show 0 ≤ jt by omega)
            have HRR : Hid (R = rn T l f fl pl (if fl = decide (m = 1) then jn else p + 1) (k + 1)) := by
              show R = _
              have := n3.out rfl
              simpa [jmpI] using this
            have HJ : Hid (∀ w7, RSt w7 w3.heap.size s fl pv (if fl = decide (m = 1) then ((jn : Nat) : Int) else (p : Int) + 1) false → ∃ q : Nat, RSt w7 w3.heap.size s fl pv q false ∧ p < q ∧ q < T.length ∧ R = rn T l f fl pl q (k + 1)) := fun w7 h => by
              have hr := HRR.out
              by_cases hc : fl = decide (m = 1)
              · rw [if_pos hc] at h hr
                exact ⟨jn, h, by omega, by omega, hr⟩
              · rw [if_neg hc] at h hr
                exact ⟨p + 1, by simpa using h, by omega, hp1, hr⟩
            clear n1 n2 n3 n4 n5 hnx hjm hts HRR
            go_region_with (first
              | (go_at_call 55; refine (jump_any ⟨3, kd, no, m, t, jn⟩ w3.heap.size s fl pv _ false w6 (HR5.out.below hB6) hj3).mono ?_; rintro e w7 ⟨rfl, hR7, hP7⟩)
              | (go_at_call 28; refine (doingOf_any 3 _ (by simp)).mono ?_; rintro e w6 ⟨rfl, hb6⟩; have hB6 : Below W5.heap.size W5 w6 := HBd.out.trans (hb6.mono (Nat.le_refl _)); have z0 := (hB6.cell (p := ⟨wr.heap.size, 0, none⟩) hl5).trans z0; have z1 := (hB6.cell (p := ⟨wr.heap.size, 1, none⟩) hl5).trans z1; have z2 := (hB6.cell (p := ⟨wr.heap.size, 2, none⟩) hl5).trans z2; have z3 := (hB6.cell (p := ⟨wr.heap.size, 3, none⟩) hl5).trans z3; have z4 := (hB6.cell (p := ⟨wr.heap.size, 4, none⟩) hl5).trans z4; have z5 := (hB6.cell (p := ⟨wr.heap.size, 5, none⟩) hl5).trans z5; unfold doF))
            all_goals
              have HIN : Hid (RunI T l s R w3.heap.size W3 (k + 1) w7) := (by obtain ⟨q, e1, e2, e3, e4⟩ := HJ.out w7 hR7; exact ⟨q, f, fl, pv, pl, false, e1, HPL.out, (HP5.out.next hB6).trans hP7, .inl ⟨rfl, e3, by omega, by omega, e4⟩⟩)
              clear hR7 hP7 hB6 hb6
              go_wp2
              go_roundw
              case rel => exact ⟨k + 1, by go_num, HIN⟩
              case measure => simp [intOf]; omega
          · have hp1 := hnx.out (by decide)
            have HRR : Hid (R = rn T l f (!fl) pl (p + 1) (k + 1)) := n4.out rfl
            clear n1 n2 n3 n4 n5 hnx hjm hts
            go_region_with (first
              | (go_at_call 56; refine (flip_any ⟨4, kd, no, m, t, jt⟩ w3.heap.size s fl pv _ false w6 (HR5.out.below hB6)).mono ?_; rintro e w7 ⟨rfl, hR7, hP7⟩)
              | (go_at_call 28; refine (doingOf_any 4 _ (by simp)).mono ?_; rintro e w6 ⟨rfl, hb6⟩; have hB6 : Below W5.heap.size W5 w6 := HBd.out.trans (hb6.mono (Nat.le_refl _)); have z0 := (hB6.cell (p := ⟨wr.heap.size, 0, none⟩) hl5).trans z0; have z1 := (hB6.cell (p := ⟨wr.heap.size, 1, none⟩) hl5).trans z1; have z2 := (hB6.cell (p := ⟨wr.heap.size, 2, none⟩) hl5).trans z2; have z3 := (hB6.cell (p := ⟨wr.heap.size, 3, none⟩) hl5).trans z3; have z4 := (hB6.cell (p := ⟨wr.heap.size, 4, none⟩) hl5).trans z4; have z5 := (hB6.cell (p := ⟨wr.heap.size, 5, none⟩) hl5).trans z5; unfold doF))
            all_goals
              have HIN : Hid (RunI T l s R w3.heap.size W3 (k + 1) w7) := ⟨p + 1, f, _, pv, pl, false, by simpa using hR7, HPL.out, (HP5.out.next hB6).trans hP7, .inl ⟨rfl, hp1, by omega, by omega, HRR.out⟩⟩
              clear hR7 hP7 hB6 hb6
              go_wp2
              go_roundw
              case rel => exact ⟨k + 1, by go_num, HIN⟩
              case measure => simp [intOf]; omega
          · have HRR : Hid (R = (fl, k + 1)) := n5.out rfl
            clear n1 n2 n3 n4 n5 hnx hjm hts
            go_region_with (first
              | (go_at_call 57; refine (end_any ⟨5, kd, no, m, t, jt⟩ w3.heap.size s fl pv _ false w6 (HR5.out.below hB6)).mono ?_; rintro e w7 ⟨rfl, hR7, hP7⟩)
              | (go_at_call 28; refine (doingOf_any 5 _ (by simp)).mono ?_; rintro e w6 ⟨rfl, hb6⟩; have hB6 : Below W5.heap.size W5 w6 := HBd.out.trans (hb6.mono (Nat.le_refl _)); have z0 := (hB6.cell (p := ⟨wr.heap.size, 0, none⟩) hl5).trans z0; have z1 := (hB6.cell (p := ⟨wr.heap.size, 1, none⟩) hl5).trans z1; have z2 := (hB6.cell (p := ⟨wr.heap.size, 2, none⟩) hl5).trans z2; have z3 := (hB6.cell (p := ⟨wr.heap.size, 3, none⟩) hl5).trans z3; have z4 := (hB6.cell (p := ⟨wr.heap.size, 4, none⟩) hl5).trans z4; have z5 := (hB6.cell (p := ⟨wr.heap.size, 5, none⟩) hl5).trans z5; unfold doF))
            all_goals
              have HIN : Hid (RunI T l s R w3.heap.size W3 (k + 1) w7) := ⟨p + 1, f, _, pv, pl, true, by simpa using hR7, HPL.out, (HP5.out.next hB6).trans hP7, .inr ⟨rfl, HRR.out, by omega⟩⟩
              clear hR7 hP7 hB6 hb6
              go_wp2
              go_roundw
              case rel => exact ⟨k + 1, by go_num, HIN⟩
              case measure => simp [intOf]; omega
        · have HRe : Hid (R = (fl, k)) := hRe
          clear hRe HI
          go_wp2
          go_ret3
          exact ⟨by rw [hF.out, HRe.out]; rfl, hB0⟩

end Go.Proofs.YtmjpmmkjfimopaaDoor
