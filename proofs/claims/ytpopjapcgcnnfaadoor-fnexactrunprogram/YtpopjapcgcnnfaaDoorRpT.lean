/- The model's RunProgram. -/
import Derived.Test.YtpopjapcgcnnfaaDoorRpS
namespace Go.Proofs.YtpopjapcgcnnfaaDoor
open Go.RowKit Plain Sch Wan Prg

theorem fields_keep {w w' : World} {v : Value} {l : List Fld} (h : FldsAt w w.heap.size v l) (hb : Below w.heap.size w w') : FldsAt w' w'.heap.size v l := h.below hb

set_option maxRecDepth 100000 in
set_option maxHeartbeats 8000000 in
theorem l8Run_any (T : List Ins) (l : List Fld) (v vl : Value) (w : World) (hg : gp T = true) (hT : InsAt w w.heap.size v T) (hF : FldsAt w w.heap.size vl l) (hl : l.length ≤ 40) (hfd : ∀ f ∈ l, okF f) :
    Calls Tryd.prog 18 #[.agg #[v], vl] w fun e w' => e = .returned (.tuple #[.bool (rn T l T.length false none 0 0).1, .int .i64 ((rn T l T.length false none 0 0).2 : Int)]) ∧ Below w.heap.size w w' := by
  obtain ⟨h0, h60⟩ := gp_len hg
  have HG : Hid (gp T = true) := hg
  have HF : Hid (FldsAt w w.heap.size vl l) := hF
  have HFD : Hid (∀ f ∈ l, okF f) := hfd
  obtain ⟨ao, cap, rfl, hlc, hcm, hrow, hnm⟩ := hT
  have HROW : Hid (∀ i, i < T.length → ∃ g o, ao = some ⟨g, o, none⟩ ∧ g < w.heap.size ∧ InsIn w g (o + i * 6) (ins T i)) := hrow
  obtain ⟨al, capl, rfl, _⟩ := hF
  unfold maxLen at hcm
  obtain ⟨R, hR⟩ : ∃ R, R = rn T l T.length false none 0 0 := ⟨_, rfl⟩
  rw [← hR]
  have HR : Hid (R = rn T l T.length false none 0 0) := hR
  clear hR hrow hnm hfd hg
  obtain ⟨W1, hW1⟩ : ∃ W, W = (w.alloc (.cells #[.slice ao T.length cap] 30)).alloc (.cells #[.int .i64 0, .int .i64 0, .int .i64 0, .string ⟨#[]⟩] 74) := ⟨_, rfl⟩
  have hB1 : Below w.heap.size w W1 := by rw [hW1]; exact ((Below.refl _ w).alloc (Nat.le_refl _) _).alloc (by simp) _
  have hs1 : Hid (W1.heap.size = w.heap.size + 2) := by show _ = _; rw [hW1]; simp
  have q1 : Hid (W1.cell? ⟨w.heap.size, 0, none⟩ = some (.slice ao T.length cap)) := by show _ = _; rw [hW1]; go_simp
  have HP1 : Hid (PlS W1 (w.heap.size + 1) false none) := by
    show PlS _ _ _ _
    refine ⟨by rw [hs1.out]; omega, ⟨⟨0, 0, 0, ⟨#[]⟩⟩, ⟨by rw [hW1]; go_simp, by rw [hW1]; go_simp, by rw [hW1]; go_simp, by rw [hW1]; go_simp⟩, fun h => by (cases h), fun _ => rfl⟩, by rw [hW1]; go_simp, by rw [hW1]; go_simp, by rw [hW1]; go_simp, by rw [hW1]; go_simp⟩
  go_enter Tryd.func18, Tryd.ntmps18
  go_upto_region 3 with fail
  rw [← hW1]
  clear hW1
  go_wp2
  go_loopw [6, 8, 9, 10] (fun v6 v8 v9 v10 wr => ∃ (fl has : Bool) (p k f : Nat) (pl : Option Fld), v6 = .bool fl ∧ v8 = .bool has ∧ v9 = .int .i64 (k : Int) ∧ v10 = .int .i64 (p : Int) ∧ p < T.length ∧ T.length ≤ f + p ∧ k ≤ p ∧ Hid (PlS wr (w.heap.size + 1) has pl) ∧ Hid (Below (w.heap.size + 1) W1 wr) ∧ Hid (R = rn T l f fl pl p k))
    (fun _ _ _ v10 _ => T.length - (intOf v10).toNat)
  case atStart => exact ⟨false, false, 0, 0, T.length, none, rfl, rfl, rfl, rfl, by omega, by omega, by omega, HP1, Below.refl _ _, HR⟩
  case round =>
    clear HR HP1
    obtain ⟨fl, has, p, k, f, pl, rfl, rfl, rfl, rfl, hp, hpf, hkp, HP, HB, HR⟩ := hrel
    have hsz : w.heap.size + 1 < wr.heap.size := HP.out.1
    have hsz' : w.heap.size < wr.heap.size := by omega
    have qr : wr.cell? ⟨w.heap.size, 0, none⟩ = some (.slice ao T.length cap) := (HB.out.cell (p := ⟨w.heap.size, 0, none⟩) (by show w.heap.size < _; omega)).trans q1.out
    have hB0 : Hid (Below w.heap.size w wr) := hB1.trans (HB.out.mono (by omega))
    have hpl : (p : Int) < (T.length : Int) := by omega
    obtain ⟨g, o, rfl, hg, hty⟩ := HROW.out p hp
    have hci := hty.below hB0.out hg
    have hgw : g < wr.heap.size := by omega
    obtain ⟨f, rfl⟩ : ∃ f', f = f' + 1 := ⟨f - 1, by omega⟩
    have hcd := gp_codes HG.out hp
    have h1 : Hid ((ins T p).code = 1 → R = rn T l f fl (fby l (ins T p).no) (p + 1) (k + 1)) := fun h => HR.out.trans (rn_seek h)
    have h2 : Hid ((ins T p).code = 2 → R = rn T l f (tstI (ins T p) pl) pl (p + 1) (k + 1)) := fun h => HR.out.trans (rn_test h)
    have h3 : Hid ((ins T p).code = 3 → R = rn T l f fl pl (jmpI (ins T p) fl p) (k + 1)) := fun h => HR.out.trans (rn_jump h)
    have h4 : Hid ((ins T p).code = 4 → R = rn T l f (!fl) pl (p + 1) (k + 1)) := fun h => HR.out.trans (rn_flip h)
    have h5 : Hid ((ins T p).code = 5 → R = (fl, k + 1)) := fun h => HR.out.trans (rn_end h)
    have hnx : Hid ((ins T p).code ≠ 5 → p + 1 < T.length) := fun h => gp_next HG.out hp h
    have hjm : Hid ((ins T p).code = 3 → (p : Int) < (ins T p).dst ∧ (ins T p).dst < T.length ∧ ((ins T p).num = 0 ∨ (ins T p).num = 1)) := fun h => gp_jump HG.out hp h
    have hts : Hid ((ins T p).code = 2 → isAsk (ins T p).kind = true ∧ (ins T p).text.size ≤ 30) := fun h => gp_test HG.out hp h
    generalize ins T p = x at hci hcd h1 h2 h3 h4 h5 hnx hjm hts
    obtain ⟨c, kd, no, m, t, jt⟩ := x
    dsimp only at hci hcd h1 h2 h3 h4 h5 hnx hjm hts
    obtain ⟨c0, c1, c2, c3, c4, c5⟩ := hci
    dsimp only at c0 c1 c2 c3 c4 c5
    clear hty HR
    obtain ⟨W3, hW3⟩ : ∃ W, W = wr.alloc (.cells #[.int .i64 c, .int .i64 kd, .int .i64 no, .int .i64 m, .string t, .int .i64 jt] 57) := ⟨_, rfl⟩
    have hA3 : Below wr.heap.size wr W3 := by rw [hW3]; exact (Below.refl _ wr).alloc (Nat.le_refl _) _
    have hl3 : wr.heap.size < W3.heap.size := by rw [hW3]; simp
    have x0 : W3.cell? ⟨wr.heap.size, 0, none⟩ = some (.int .i64 c) := by rw [hW3]; go_simp
    have x1 : W3.cell? ⟨wr.heap.size, 1, none⟩ = some (.int .i64 kd) := by rw [hW3]; go_simp
    have x2 : W3.cell? ⟨wr.heap.size, 2, none⟩ = some (.int .i64 no) := by rw [hW3]; go_simp
    have x3 : W3.cell? ⟨wr.heap.size, 3, none⟩ = some (.int .i64 m) := by rw [hW3]; go_simp
    have x4 : W3.cell? ⟨wr.heap.size, 4, none⟩ = some (.string t) := by rw [hW3]; go_simp
    have x5 : W3.cell? ⟨wr.heap.size, 5, none⟩ = some (.int .i64 jt) := by rw [hW3]; go_simp
    have HP3 : Hid (PlS W3 (w.heap.size + 1) has pl) := HP.out.kept (hA3.block _ hsz) (Nat.le_of_lt hl3)
    have HB3 : Hid (Below (w.heap.size + 1) W1 W3) := HB.out.trans (hA3.mono (by omega))
    have hB03 : Hid (Below w.heap.size w W3) := hB1.trans (HB3.out.mono (by omega))
    have hl31 : w.heap.size + 1 < W3.heap.size := by omega
    go_upto_region 7 with fail
    rw [← hW3]
    clear hW3 c0 c1 c2 c3 c4 c5 HP HB hB0
    rcases hcd with rfl | rfl | rfl | rfl | rfl
    · have hp1 := hnx.out (by decide)
      have hRR := h1.out rfl
      have HRR : Hid (R = rn T l f fl (fby l no) (p + 1) (k + 1)) := hRR
      clear h1 h2 h3 h4 h5 hnx hjm hts hRR
      go_wp2_with fail
      refine (l8Seek_any l _ no _ (HF.out.below hB03.out) hl).mono ?_
      rintro e w4 ⟨hpt, hb4⟩
      have HP4 : Hid (PlS w4 (w.heap.size + 1) has pl) := HP3.out.kept (hb4.block _ hl31) hb4.size
      have HB4 : Hid (Below (w.heap.size + 1) W1 w4) := HB3.out.trans (hb4.mono (by omega))
      have hl4 : w.heap.size + 1 < w4.heap.size := by have := hb4.size; omega
      clear hb4 HP3 HB3
      rcases hpt with ⟨y, hy, rfl⟩ | ⟨hy, rfl⟩
      · have hoy := HFD.out y (fby_mem l no y hy)
        rw [hy] at HRR
        have HPN : Hid (PlS ((((w4.setCell ⟨w.heap.size + 1, 0, none⟩ (.int .i64 y.no)).setCell ⟨w.heap.size + 1, 1, none⟩ (.int .i64 y.kind)).setCell ⟨w.heap.size + 1, 2, none⟩ (.int .i64 y.num)).setCell ⟨w.heap.size + 1, 3, none⟩ (.string y.data)) (w.heap.size + 1) true (some y)) := HP4.out.store y true (some y) (fun _ => ⟨rfl, hoy⟩) (fun h => by cases h)
        have HBN : Hid (Below (w.heap.size + 1) W1 ((((w4.setCell ⟨w.heap.size + 1, 0, none⟩ (.int .i64 y.no)).setCell ⟨w.heap.size + 1, 1, none⟩ (.int .i64 y.kind)).setCell ⟨w.heap.size + 1, 2, none⟩ (.int .i64 y.num)).setCell ⟨w.heap.size + 1, 3, none⟩ (.string y.data))) := (((HB4.out.setCell (Nat.le_refl _) _).setCell (Nat.le_refl _) _).setCell (Nat.le_refl _) _).setCell (Nat.le_refl _) _
        obtain ⟨_, ⟨z, ⟨z0, z1, z2, z3⟩, _⟩, f0, f1, f2, f3⟩ := HP4.out
        clear HP4 HB4 hy
        go_wp2
        go_roundw
        case rel => exact ⟨fl, true, p + 1, k + 1, f, some y, rfl, rfl, by go_num, by go_num, hp1, by omega, by omega, HPN, HBN, HRR⟩
        case measure => simp [intOf]; omega
      · rw [hy] at HRR
        have HPN : Hid (PlS ((((w4.setCell ⟨w.heap.size + 1, 0, none⟩ (.int .i64 0)).setCell ⟨w.heap.size + 1, 1, none⟩ (.int .i64 0)).setCell ⟨w.heap.size + 1, 2, none⟩ (.int .i64 0)).setCell ⟨w.heap.size + 1, 3, none⟩ (.string ⟨#[]⟩)) (w.heap.size + 1) false none) := HP4.out.store ⟨0, 0, 0, ⟨#[]⟩⟩ false none (fun h => by cases h) (fun _ => rfl)
        have HBN : Hid (Below (w.heap.size + 1) W1 ((((w4.setCell ⟨w.heap.size + 1, 0, none⟩ (.int .i64 0)).setCell ⟨w.heap.size + 1, 1, none⟩ (.int .i64 0)).setCell ⟨w.heap.size + 1, 2, none⟩ (.int .i64 0)).setCell ⟨w.heap.size + 1, 3, none⟩ (.string ⟨#[]⟩))) := (((HB4.out.setCell (Nat.le_refl _) _).setCell (Nat.le_refl _) _).setCell (Nat.le_refl _) _).setCell (Nat.le_refl _) _
        obtain ⟨_, ⟨z, ⟨z0, z1, z2, z3⟩, _⟩, f0, f1, f2, f3⟩ := HP4.out
        clear HP4 HB4 hy
        go_wp2
        go_roundw
        case rel => exact ⟨fl, false, p + 1, k + 1, f, none, rfl, rfl, by go_num, by go_num, hp1, by omega, by omega, HPN, HBN, HRR⟩
        case measure => simp [intOf]; omega
    · have hp1 := hnx.out (by decide)
      obtain ⟨hask, htx⟩ := hts.out rfl
      have HRR : Hid (R = rn T l f (tstI ⟨2, kd, no, m, t, jt⟩ pl) pl (p + 1) (k + 1)) := h2.out rfl
      clear h1 h2 h3 h4 h5 hnx hjm hts
      obtain ⟨_, ⟨z, ⟨z0, z1, z2, z3⟩, hz1, hz2⟩, f0, f1, f2, f3⟩ := HP3.out
      cases has with
      | true =>
        obtain ⟨hpz, hoz⟩ := hz1 rfl
        have HRR2 : Hid (R = rn T l f (askI ⟨2, kd, no, m, t, jt⟩ z) pl (p + 1) (k + 1)) := by show R = _; rw [HRR.out, hpz]; rfl
        have CT : Hid (∀ W : World, Calls Tryd.prog 36 #[.agg #[.int .i64 2, .int .i64 kd, .int .i64 no, .int .i64 m, .string t, .int .i64 jt], .agg #[.int .i64 z.no, .int .i64 z.kind, .int .i64 z.num, .string z.data]] W fun e w' => e = .returned (.bool (askI ⟨2, kd, no, m, t, jt⟩ z)) ∧ Below W.heap.size W w') := fun W => l8Test_any ⟨2, kd, no, m, t, jt⟩ z W hask htx hoz
        generalize askI ⟨2, kd, no, m, t, jt⟩ z = bb at HRR2 CT
        clear hz1 hz2 hpz hoz hask HRR
        go_wp2_with fail
        refine (CT.out _).mono ?_
        rintro e w4 ⟨rfl, hb4⟩
        have HP4 : Hid (PlS w4 (w.heap.size + 1) true pl) := HP3.out.kept (hb4.block _ hl31) hb4.size
        have HB4 : Hid (Below (w.heap.size + 1) W1 w4) := HB3.out.trans (hb4.mono (by omega))
        clear hb4 HP3 HB3 CT
        go_wp2
        go_roundw
        case rel => exact ⟨bb, true, p + 1, k + 1, f, pl, rfl, rfl, by go_num, by go_num, hp1, by omega, by omega, HP4, HB4, HRR2⟩
        case measure => simp [intOf]; omega
      | false =>
        have hpz := hz2 rfl
        have HRR2 : Hid (R = rn T l f false pl (p + 1) (k + 1)) := by show R = _; rw [HRR.out, hpz]; rfl
        clear hz1 hz2 hpz hask HRR
        go_wp2
        go_roundw
        case rel => exact ⟨false, false, p + 1, k + 1, f, pl, rfl, rfl, by go_num, by go_num, hp1, by omega, by omega, HP3, HB3, HRR2⟩
        case measure => simp [intOf]; omega
    · have hp1 := hnx.out (by decide)
      obtain ⟨hj1, hj2, hj3⟩ := hjm.out rfl
      obtain ⟨jn, rfl⟩ := Int.eq_ofNat_of_zero_le (show 0 ≤ jt by omega)
      have HRR : Hid (R = rn T l f fl pl (if fl = decide (m = 1) then jn else p + 1) (k + 1)) := by
        show R = _
        have := h3.out rfl
        simpa [jmpI] using this
      clear h1 h2 h3 h4 h5 hnx hjm hts
      have hjn1 : p < jn := by omega
      have hjn2 : jn < T.length := by omega
      clear hj1 hj2
      rcases hj3 with rfl | rfl <;> cases fl

      · have HRR2 : Hid (R = rn T l f false pl (jn) (k + 1)) := by show R = _; rw [HRR.out]; rfl
        clear HRR
        go_wp2
        go_roundw
        case rel => exact ⟨false, has, jn, k + 1, f, pl, rfl, rfl, by go_num, by go_num, by omega, by omega, by omega, HP3, HB3, HRR2⟩
        case measure => simp [intOf]; omega
      · have HRR2 : Hid (R = rn T l f true pl (p + 1) (k + 1)) := by show R = _; rw [HRR.out]; rfl
        clear HRR
        go_wp2
        go_roundw
        case rel => exact ⟨true, has, p + 1, k + 1, f, pl, rfl, rfl, by go_num, by go_num, by omega, by omega, by omega, HP3, HB3, HRR2⟩
        case measure => simp [intOf]; omega
      · have HRR2 : Hid (R = rn T l f false pl (p + 1) (k + 1)) := by show R = _; rw [HRR.out]; rfl
        clear HRR
        go_wp2
        go_roundw
        case rel => exact ⟨false, has, p + 1, k + 1, f, pl, rfl, rfl, by go_num, by go_num, by omega, by omega, by omega, HP3, HB3, HRR2⟩
        case measure => simp [intOf]; omega
      · have HRR2 : Hid (R = rn T l f true pl (jn) (k + 1)) := by show R = _; rw [HRR.out]; rfl
        clear HRR
        go_wp2
        go_roundw
        case rel => exact ⟨true, has, jn, k + 1, f, pl, rfl, rfl, by go_num, by go_num, by omega, by omega, by omega, HP3, HB3, HRR2⟩
        case measure => simp [intOf]; omega
    · have hp1 := hnx.out (by decide)
      have HRR : Hid (R = rn T l f (!fl) pl (p + 1) (k + 1)) := h4.out rfl
      clear h1 h2 h3 h4 h5 hnx hjm hts
      go_wp2
      go_roundw
      case rel => exact ⟨!fl, has, p + 1, k + 1, f, pl, rfl, rfl, by go_num, by go_num, hp1, by omega, by omega, HP3, HB3, HRR⟩
      case measure => simp [intOf]; omega
    · have HRR : Hid (R = (fl, k + 1)) := h5.out rfl
      clear h1 h2 h3 h4 h5 hnx hjm hts
      go_wp2
      go_ret2
      exact ⟨by rw [HRR.out]; rfl, hB03.out⟩

set_option maxRecDepth 100000 in
set_option maxHeartbeats 4000000 in
theorem specRun (T : List Ins) (s : ByteArray) (v : Value) (w : World) (hT : InsAt w w.heap.size v T) (hsm : s.size ≤ maxLen) :
    Calls Tryd.prog 6 #[.agg #[v], .string s] w fun e w' => e = .returned (.tuple #[.bool (rpo T s).1, .int .i64 (rpo T s).2.1, .bool (rpo T s).2.2]) ∧ Below w.heap.size w w' := by
  have HT : Hid (InsAt w w.heap.size v T) := hT
  obtain ⟨ao, cap, rfl, hlc, hcm, _⟩ := hT
  have hrl := rr_lenM s
  have hra := rr_all s
  obtain ⟨R, hR⟩ : ∃ R, R = rpo T s := ⟨_, rfl⟩
  rw [← hR]
  have HR : Hid (R = if gp T && (rr s).2 then ((rn T (rr s).1 T.length false none 0 0).1, ((rn T (rr s).1 T.length false none 0 0).2 : Int), true) else (false, 0, false)) := hR
  clear hR
  have CF : Hid (∀ W : World, Calls Tryd.prog 16 #[.string s] W fun e w' => OFs W w' e (rr s)) := fun W => l5Fields_any s W hsm
  generalize rr s = Q at HR CF hrl hra
  obtain ⟨l, ok⟩ := Q
  dsimp only at HR hrl hra
  have HFD : Hid (∀ f ∈ l, okF f) := hra
  have hB1 : Below w.heap.size w (w.alloc (.cells #[.slice ao T.length cap] 30)) := (Below.refl _ w).alloc (Nat.le_refl _) _
  go_enter Tryd.func6, Tryd.ntmps6
  go_wp2_with fail
  refine (CF.out _).mono ?_
  rintro e w2 ⟨vl, rfl, hF2, hb2⟩
  have hB2 : Below w.heap.size w w2 := hB1.trans (hb2.mono (by simp))
  have hs2 : w.heap.size < w2.heap.size := by have := hb2.size; simp at this; omega
  have q2 : w2.cell? ⟨w.heap.size, 0, none⟩ = some (.slice ao T.length cap) := (hb2.cell (p := ⟨w.heap.size, 0, none⟩) (by simp)).trans (by simp)
  have HF2 : Hid (FldsAt w2 w2.heap.size vl l) := hF2
  obtain ⟨al, capl, rfl, _⟩ := hF2
  dsimp only at *
  clear hb2 CF hra
  go_wp2_with fail
  refine (specGoodP T _ _ (HT.out.below hB2)).mono ?_
  rintro e w3 ⟨rfl, hb3⟩
  have hB3 : Below w.heap.size w w3 := hB2.trans (hb3.mono hB2.size)
  have q3 := (hb3.cell (p := ⟨w.heap.size, 0, none⟩) hs2).trans q2
  have HF3 : Hid (FldsAt w3 w3.heap.size (.slice al l.length capl) l) := HF2.out.below hb3
  have hs3 : w.heap.size < w3.heap.size := by have := hb3.size; omega
  clear hb3 q2 HF2
  cases hg : gp T with
  | false =>
    have hF : Hid (R = (false, 0, false)) := by show R = _; rw [HR.out, hg]; rfl
    clear HR hg
    go_wp2
    go_ret3
    exact ⟨by rw [hF.out]; rfl, hB3⟩
  | true =>
    cases ok with
    | false =>
      have hF : Hid (R = (false, 0, false)) := by show R = _; rw [HR.out, hg]; rfl
      clear HR hg
      go_wp2
      go_ret3
      exact ⟨by rw [hF.out]; rfl, hB3⟩
    | true =>
      have hF : Hid (R = ((rn T l T.length false none 0 0).1, ((rn T l T.length false none 0 0).2 : Int), true)) := by show R = _; rw [HR.out, hg]; rfl
      have CR : Hid (∀ (W : World) (v vl : Value), InsAt W W.heap.size v T → FldsAt W W.heap.size vl l → Calls Tryd.prog 18 #[.agg #[v], vl] W fun e w' => e = .returned (.tuple #[.bool (rn T l T.length false none 0 0).1, .int .i64 ((rn T l T.length false none 0 0).2 : Int)]) ∧ Below W.heap.size W w') := fun W v vl h1 h2 => l8Run_any T l v vl W hg h1 h2 hrl HFD.out
      have hle := rn_le T l T.length false none 0 0
      have h60 := (gp_len hg).2
      generalize rn T l T.length false none 0 0 = Q at CR hF hle
      obtain ⟨qa, qb⟩ := Q
      dsimp only at CR hF hle
      clear HR hg
      go_wp2_with fail
      refine (CR.out _ _ _ (HT.out.below hB3) HF3.out).mono ?_
      rintro e w4 ⟨rfl, hb4⟩
      have hB4 : Below w.heap.size w w4 := hB3.trans (hb4.mono hB3.size)
      clear hb4 CR
      go_wp2
      go_ret3
      exact ⟨by rw [hF.out]; rfl, hB4⟩

end Go.Proofs.YtpopjapcgcnnfaaDoor
