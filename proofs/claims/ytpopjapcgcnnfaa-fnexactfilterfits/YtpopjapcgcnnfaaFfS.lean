/- The model's FilterFits. -/
import Derived.Test.YtpopjapcgcnnfaaFfA
import Derived.Test.YtpopjapcgcnnfaaWsB
import Derived.Deep.DeepCutAuto
namespace Go.Proofs.Ytpopjapcgcnnfaa
open Go.RowKit Plain Sch Wan

theorem lt_rootF (T : List Ty) (v : Value) (W : World) (hT : TysAt W W.heap.size v T) (h1 : 1 ≤ T.length) (h30 : T.length ≤ 30) (t : Tr) (ht : t = tree T 41 0) :
    Calls Try.prog 72 #[.agg #[v], .int .i64 0] W fun e w' => ∃ ac cc, e = .returned (.agg #[.int .i64 t.kind, .string t.name, .int .i64 t.no, .bool t.must, .int .i64 t.most, .slice ac t.kids.length cc]) ∧ KidsIn 41 w' (fun g => W.heap.size ≤ g ∧ g < w'.heap.size) (.slice ac t.kids.length cc) t.kids ∧ Below W.heap.size W w' := by
  refine (l2Tree_any T v (by omega) 41 0 W hT (by omega) (by omega)).mono ?_
  rw [← ht]
  rintro e w' ⟨c, rfl, hk, hb⟩
  obtain ⟨ac, cp, rfl, _⟩ := hk.form
  exact ⟨ac, cp, rfl, hk, hb⟩

set_option maxRecDepth 100000 in
set_option maxHeartbeats 1000000 in
theorem l2Folded_any (k : Int) (nm : ByteArray) (no : Int) (mu : Bool) (mo : Int) (ac : Option Addr) (lc cc : Nat) (w : World) :
    Calls Try.prog 74 #[.agg #[.int .i64 k, .string nm, .int .i64 no, .bool mu, .int .i64 mo, .slice ac lc cc]] w fun e w' => e = .returned (.bool (decide (k = 1) || decide (k = 3))) ∧ Below w.heap.size w w' := by
  by_cases h1 : k = 1
  · subst h1
    go_enter Try.func74, Try.ntmps74
    go_wp2
    go_ret
    exact ⟨rfl, (Below.refl _ w).alloc (Nat.le_refl _) _⟩
  · have h1' : (k == 1) = false := by simpa using h1
    have e : (decide (k = 1) || decide (k = 3)) = (k == 3) := by simp [h1]; rfl
    rw [e]
    go_enter Try.func74, Try.ntmps74
    go_wp2
    go_ret
    exact ⟨rfl, (Below.refl _ w).alloc (Nat.le_refl _) _⟩

set_option maxRecDepth 100000 in
set_option maxHeartbeats 16000000 in
theorem specFF (T : List Wa) (S : List Ty) (v1 v2 : Value) (w : World) (hT : WasAt w w.heap.size v1 T) (hS : TysAt w w.heap.size v2 S) :
    Calls Try.prog 33 #[.agg #[v1], .agg #[v2]] w fun e w' => e = .returned (.tuple #[.bool (ffo T S).1, .bool (ffo T S).2]) ∧ Below w.heap.size w w' := by
  have HT : Hid (WasAt w w.heap.size v1 T) := hT
  have HS : Hid (TysAt w w.heap.size v2 S) := hS
  obtain ⟨ao, cap, rfl, hlc, hcm, hrow, _⟩ := hT
  obtain ⟨au, capu, rfl, hlcu, hcmu, _⟩ := hS
  have HROW : Hid (∀ i, i < T.length → ∃ g o, ao = some ⟨g, o, none⟩ ∧ g < w.heap.size ∧ WaIn w g (o + i * 6) (wa T i)) := hrow
  clear hrow
  unfold maxLen at hcm hcmu
  obtain ⟨R, hR⟩ : ∃ R, R = ffo T S := ⟨_, rfl⟩
  rw [← hR]
  have HR : Hid (R = ffo T S) := hR
  clear hR
  obtain ⟨W1, hW1⟩ : ∃ W, W = (w.alloc (.cells #[.slice ao T.length cap] 43)).alloc (.cells #[.slice au S.length capu] 59) := ⟨_, rfl⟩
  have hB1 : Below w.heap.size w W1 := by rw [hW1]; exact ((Below.refl _ w).alloc (Nat.le_refl _) _).alloc (by simp) _
  have hs1 : Hid (W1.heap.size = w.heap.size + 2) := by show _ = _; rw [hW1]; simp
  have hl1 : w.heap.size + 1 < W1.heap.size := by rw [hs1.out]; omega
  have hl1' : w.heap.size < W1.heap.size := by rw [hs1.out]; omega
  have q1 : W1.cell? ⟨w.heap.size, 0, none⟩ = some (.slice ao T.length cap) := by rw [hW1]; go_simp
  have p1 : W1.cell? ⟨w.heap.size + 1, 0, none⟩ = some (.slice au S.length capu) := by rw [hW1]; go_simp
  have Q1 : Hid (∀ W, Below W1.heap.size W1 W → W.cell? ⟨w.heap.size, 0, none⟩ = some (.slice ao T.length cap) ∧ W.cell? ⟨w.heap.size + 1, 0, none⟩ = some (.slice au S.length capu) ∧ Below w.heap.size w W ∧ w.heap.size + 1 < W.heap.size) := fun W hW =>
    ⟨(hW.cell (p := ⟨w.heap.size, 0, none⟩) hl1').trans q1, (hW.cell (p := ⟨w.heap.size + 1, 0, none⟩) hl1).trans p1, hB1.trans (hW.mono (by omega)), by have := hW.size; omega⟩
  go_enter Try.func33, Try.ntmps33
  go_wp2_with fail
  rw [← hW1]
  clear hW1
  refine (specGoodF T _ _ (HT.out.below hB1)).mono ?_
  rintro e w2 ⟨rfl, hb2⟩
  obtain ⟨q2, p2, hB2, hl2⟩ := Q1.out _ hb2
  clear q1 p1
  cases hg : gf T with
  | false =>
    have hn : Hid (R = (false, false)) := HR.out.trans (by unfold ffo; rw [hg]; rfl)
    clear HR hg
    go_wp2
    go_ret2
    exact ⟨by rw [hn.out]; rfl, hB2⟩
  | true =>
    go_wp2_with fail
    refine (specGood_any S _ _ (HS.out.below hB2)).mono ?_
    rintro e w3 ⟨rfl, hb3⟩
    have hb13 : Below W1.heap.size W1 w3 := hb2.trans (hb3.mono hb2.size)
    clear q2 p2 hl2
    obtain ⟨q3, p3, hB3, hl3⟩ := Q1.out _ hb13
    clear hb2 hb3 hB2
    cases hgs : gs S with
    | false =>
      have hn : Hid (R = (false, false)) := HR.out.trans (by unfold ffo; rw [hg, hgs]; rfl)
      clear HR hg hgs
      go_wp2
      go_ret2
      exact ⟨by rw [hn.out]; rfl, hB3⟩
    | true =>
      have hn0 : Hid (R = (T.all (ffW (tree S 41 0).kids), true)) := HR.out.trans (by unfold ffo; rw [hg, hgs]; rfl)
      obtain ⟨h0, h20⟩ := gf_len hg
      have hS1 := gs_types S hgs
      have HOK : Hid (∀ i, i < T.length → okW (wa T i) i = true) := gf_ok hg
      obtain ⟨TT, hTT⟩ : ∃ t, t = tree S 41 0 := ⟨_, rfl⟩
      have OP : Hid (Calls Try.prog 72 #[.agg #[.slice au S.length capu], .int .i64 0] w3 fun e w' => ∃ ac cc, e = .returned (.agg #[.int .i64 TT.kind, .string TT.name, .int .i64 TT.no, .bool TT.must, .int .i64 TT.most, .slice ac TT.kids.length cc]) ∧ KidsIn 41 w' (fun g => w3.heap.size ≤ g ∧ g < w'.heap.size) (.slice ac TT.kids.length cc) TT.kids ∧ Below w3.heap.size w3 w') := lt_rootF S _ w3 (HS.out.below hB3) (by omega) (by omega) TT hTT
      rw [← hTT] at hn0
      clear HR hg hgs hS1 hTT
      generalize TT.kind = tk at OP
      generalize TT.name = tn at OP
      generalize TT.no = tno at OP
      generalize TT.must = tm at OP
      generalize TT.most = tmo at OP
      generalize TT.kids = l at OP hn0
      go_wp2_with fail
      refine OP.out.mono ?_
      rintro e w4 ⟨ac, cc, rfl, hk4, hb4⟩
      have hb14 : Below W1.heap.size W1 w4 := hb13.trans (hb4.mono hb13.size)
      clear q3 p3 hl3 OP
      have hs34 : w3.heap.size ≤ w4.heap.size := hb4.size
      have HK4 : Hid (KidsIn 41 w4 (fun g => w3.heap.size ≤ g ∧ g < w4.heap.size) (.slice ac l.length cc) l) := hk4
      clear hk4 hb4 hb13 hB3
      obtain ⟨W4, hW4⟩ : ∃ W, W = w4.alloc (.cells #[.int .i64 tk, .string tn, .int .i64 tno, .bool tm, .int .i64 tmo, .slice ac l.length cc] 105) := ⟨_, rfl⟩
      have hA44 : Below w4.heap.size w4 W4 := by rw [hW4]; exact (Below.refl _ w4).alloc (Nat.le_refl _) _
      have hl44 : w4.heap.size < W4.heap.size := by rw [hW4]; simp
      have t0 : W4.cell? ⟨w4.heap.size, 0, none⟩ = some (.int .i64 tk) := by rw [hW4]; go_simp
      have t1 : W4.cell? ⟨w4.heap.size, 1, none⟩ = some (.string tn) := by rw [hW4]; go_simp
      have t2 : W4.cell? ⟨w4.heap.size, 2, none⟩ = some (.int .i64 tno) := by rw [hW4]; go_simp
      have t3 : W4.cell? ⟨w4.heap.size, 3, none⟩ = some (.bool tm) := by rw [hW4]; go_simp
      have t4 : W4.cell? ⟨w4.heap.size, 4, none⟩ = some (.int .i64 tmo) := by rw [hW4]; go_simp
      have t5 : W4.cell? ⟨w4.heap.size, 5, none⟩ = some (.slice ac l.length cc) := by rw [hW4]; go_simp
      have T4 : Hid (∀ W, Below W4.heap.size W4 W → W.cell? ⟨w4.heap.size, 0, none⟩ = some (.int .i64 tk) ∧ W.cell? ⟨w4.heap.size, 1, none⟩ = some (.string tn) ∧ W.cell? ⟨w4.heap.size, 2, none⟩ = some (.int .i64 tno) ∧ W.cell? ⟨w4.heap.size, 3, none⟩ = some (.bool tm) ∧ W.cell? ⟨w4.heap.size, 4, none⟩ = some (.int .i64 tmo) ∧ W.cell? ⟨w4.heap.size, 5, none⟩ = some (.slice ac l.length cc) ∧ w4.heap.size < W.heap.size) := fun W hW => ⟨(hW.cell (p := ⟨w4.heap.size, 0, none⟩) hl44).trans t0, (hW.cell (p := ⟨w4.heap.size, 1, none⟩) hl44).trans t1, (hW.cell (p := ⟨w4.heap.size, 2, none⟩) hl44).trans t2, (hW.cell (p := ⟨w4.heap.size, 3, none⟩) hl44).trans t3, (hW.cell (p := ⟨w4.heap.size, 4, none⟩) hl44).trans t4, (hW.cell (p := ⟨w4.heap.size, 5, none⟩) hl44).trans t5, by have := hW.size; omega⟩
      have hb1W : Below W1.heap.size W1 W4 := hb14.trans (hA44.mono hb14.size)
      obtain ⟨q4, p4, hB4, hl4⟩ := Q1.out _ hb1W
      clear hb14
      obtain ⟨RR, hRR⟩ : ∃ RR, RR = T.all (ffW l) := ⟨_, rfl⟩
      have hn : Hid (R = (RR, true)) := by show _ = _; rw [hn0.out, hRR]
      have hRd : Hid (RR = (T.drop 0).all (ffW l)) := hRR
      clear hRR hn0
      go_upto_region 4 with fail
      rw [← hW4]
      clear hW4 t0 t1 t2 t3 t4 t5
      go_wp2
      go_loopw [24] (fun vi wr => ∃ i : Nat, i ≤ T.length ∧ vi = .int .i64 (i : Int) ∧ Hid (RR = (T.drop i).all (ffW l)) ∧ Hid (Below W4.heap.size W4 wr))
        (fun vi _ => T.length - (intOf vi).toNat)
      case atStart => exact ⟨0, by omega, rfl, hRd, Below.refl _ _⟩
      case round =>
        obtain ⟨i, hi', rfl, hRi, hBw⟩ := hrel
        have hB0 : Below w.heap.size w wr := hB4.trans (hBw.out.mono (by omega))
        have hsz : W4.heap.size ≤ wr.heap.size := hBw.out.size
        clear hRd
        by_cases hlt : i < T.length
        · have hlt' : (i : Int) < (T.length : Int) := by omega
          obtain ⟨g, o, rfl, hg, hty⟩ := HROW.out i hlt
          have hci := hty.below hB0 hg
          have hSt : Hid (RR = (ffW l (wa T i) && (T.drop (i + 1)).all (ffW l))) := by show _ = _; rw [hRi.out, drop_wa T i hlt]; rfl
          have hNo := okW_no (HOK.out i hlt)
          clear hRi
          generalize wa T i = x at hci hSt hNo
          obtain ⟨k, n, m, t, a, b⟩ := x
          obtain ⟨c0, c1, c2, c3, c4, c5⟩ := hci
          dsimp only at c0 c1 c2 c3 c4 c5 hNo
          clear hty
          obtain ⟨W5, hW5⟩ : ∃ W, W = wr.alloc (.cells #[.int .i64 k, .int .i64 n, .int .i64 m, .string t, .int .i64 a, .int .i64 b] 97) := ⟨_, rfl⟩
          have hA5 : Below wr.heap.size wr W5 := by rw [hW5]; exact (Below.refl _ wr).alloc (Nat.le_refl _) _
          have hl5 : wr.heap.size < W5.heap.size := by rw [hW5]; simp
          have z0 : W5.cell? ⟨wr.heap.size, 0, none⟩ = some (.int .i64 k) := by rw [hW5]; go_simp
          have z1 : W5.cell? ⟨wr.heap.size, 1, none⟩ = some (.int .i64 n) := by rw [hW5]; go_simp
          have hB45 : Hid (Below W4.heap.size W4 W5) := hBw.out.trans (hA5.mono hsz)
          rcases hNo with ⟨hk, hn1, hn30⟩ | ⟨hk, hn0⟩
          · have hn0' : (n == 0) = false := by simp; omega
            have hkb := ask_bounds hk
            have hFW : Hid (RR = ((match byNo l n with | some y => fitK k y.kind | none => false) && (T.drop (i + 1)).all (ffW l))) := by show _ = _; rw [hSt.out]; unfold ffW; dsimp only; rw [hk]; rfl
            obtain ⟨t0, t1, t2, t3, t4, t5, hl45⟩ := T4.out _ hBw.out
            have hb45 : Below w4.heap.size w4 W5 := hA44.trans (hB45.out.mono (by omega))
            have HK5 : Hid (KidsIn (40 + 1) W5 (fun g => w3.heap.size ≤ g ∧ g < w4.heap.size) (.slice ac l.length cc) l) := HK4.out.kept (fun g hg => hb45.block g hg.2) (fun _ h => h)
            have PB : Hid (Calls Try.prog 73 #[.agg #[.int .i64 tk, .string tn, .int .i64 tno, .bool tm, .int .i64 tmo, .slice ac l.length cc], .int .i64 n] W5 fun e w' => ByR 40 w' (fun g => w3.heap.size ≤ g ∧ g < w4.heap.size) l n e ∧ Below W5.heap.size W5 w') := l2By_any 40 tk tn tno tm tmo l ac cc n _ W5 HK5.out (fun g hg => by have := hB45.out.size; omega)
            have hs45 : W4.heap.size ≤ W5.heap.size := hB45.out.size
            clear hSt hk
            go_wp2_with fail
            rw [← hW5]
            clear hW5 HK5 c0 c1 c2 c3 c4 c5 hA5
            refine PB.out.mono ?_
            rintro e w6 ⟨hpt, hb6⟩
            have hB46 : Hid (Below W4.heap.size W4 w6) := hB45.out.trans (hb6.mono hs45)
            have hl6 : wr.heap.size < w6.heap.size := by have := hb6.size; omega
            have z0 := (hb6.cell (p := ⟨wr.heap.size, 0, none⟩) hl5).trans z0
            have hw6 : W4.heap.size ≤ w6.heap.size := hB46.out.size
            clear hb6 PB z1 t0 t1 t2 t3 t4 t5 hB45 hl5 hb45 hs45
            rcases hpt with ⟨y, ay, ly, cy, hby, rfl, _⟩ | ⟨hby, rfl⟩
            · have hFY : Hid (RR = (fitK k y.kind && (T.drop (i + 1)).all (ffW l))) := by show _ = _; rw [hFW.out, hby]
              clear hFW hby
              obtain ⟨W7, hW7⟩ : ∃ W, W = w6.alloc (.cells #[.int .i64 y.kind, .string y.name, .int .i64 y.no, .bool y.must, .int .i64 y.most, .slice ay ly cy] 105) := ⟨_, rfl⟩
              have hA67 : Below w6.heap.size w6 W7 := by rw [hW7]; exact (Below.refl _ w6).alloc (Nat.le_refl _) _
              have hB47 : Hid (Below W4.heap.size W4 W7) := hB46.out.trans (hA67.mono hw6)
              have z0 := (hA67.cell (p := ⟨wr.heap.size, 0, none⟩) hl6).trans z0
              have x0 : W7.cell? ⟨w6.heap.size, 0, none⟩ = some (.int .i64 y.kind) := by rw [hW7]; go_simp
              have x1 : W7.cell? ⟨w6.heap.size, 1, none⟩ = some (.string y.name) := by rw [hW7]; go_simp
              have x2 : W7.cell? ⟨w6.heap.size, 2, none⟩ = some (.int .i64 y.no) := by rw [hW7]; go_simp
              have x3 : W7.cell? ⟨w6.heap.size, 3, none⟩ = some (.bool y.must) := by rw [hW7]; go_simp
              have x4 : W7.cell? ⟨w6.heap.size, 4, none⟩ = some (.int .i64 y.most) := by rw [hW7]; go_simp
              have x5 : W7.cell? ⟨w6.heap.size, 5, none⟩ = some (.slice ay ly cy) := by rw [hW7]; go_simp
              have hl7 : w6.heap.size < W7.heap.size := by rw [hW7]; simp
              have hl67 : wr.heap.size < W7.heap.size := by omega
              have hw7 : W4.heap.size ≤ W7.heap.size := hB47.out.size
              by_cases h3 : k ≤ 3
              · have eN : askN k = true := by unfold askN; simp [h3, hkb.1]
                have hk5 : (k == 5) = false := by simp; omega
                have hFf : Hid (RR = ((decide (y.kind = 1) || decide (y.kind = 3)) && (T.drop (i + 1)).all (ffW l))) := by show _ = _; rw [hFY.out]; unfold fitK; rw [if_pos eN]
                clear hFY eN
                go_wp2_with fail
                rw [← hW7]
                clear hW7
                refine (l2Folded_any y.kind y.name y.no y.must y.most ay ly cy _).mono ?_
                rintro e w8 ⟨rfl, hb8⟩
                have hB48 : Hid (Below W4.heap.size W4 w8) := hB47.out.trans (hb8.mono hw7)
                have z0 := (hb8.cell (p := ⟨wr.heap.size, 0, none⟩) hl67).trans z0
                clear hb8 x0 x1 x2 x3 x4 x5
                cases hf : (decide (y.kind = 1) || decide (y.kind = 3)) with
                | true =>
                  have hRn : Hid (RR = (T.drop (i + 1)).all (ffW l)) := by show _ = _; rw [hFf.out, hf]; rfl
                  clear hFf hf
                  go_wp2
                  go_roundw
                  case rel => first | exact ⟨i + 1, by omega, by go_num, hRn, hB48⟩ | ((repeat apply Exists.intro); exact ⟨⟨i + 1, by omega, by go_num, hRn, hB48⟩, rfl⟩)
                  case measure => simp [intOf]; omega
                | false =>
                  have hRn : Hid (RR = false) := by show _ = _; rw [hFf.out, hf]; rfl
                  clear hFf hf
                  go_wp2
                  go_ret2
                  exact ⟨by rw [hn.out, hRn.out]; rfl, hB4.trans (hB48.out.mono (by omega))⟩
              · have eN : askN k = false := by unfold askN; simp [h3]
                have h3' : decide (k ≤ 3) = false := by simpa using h3
                by_cases h5 : k = 5
                · subst h5
                  by_cases hy : y.kind = 2
                  · have hRn : Hid (RR = (T.drop (i + 1)).all (ffW l)) := by show _ = _; rw [hFY.out, hy]; rfl
                    have hy' : (y.kind != 2) = false := by simp [hy]
                    clear hFY hy eN h3 h3'
                    go_wp2
                    rw [← hW7]
                    clear hW7
                    go_roundw
                    case rel => first | exact ⟨i + 1, by omega, by go_num, hRn, hB47⟩ | ((repeat apply Exists.intro); exact ⟨⟨i + 1, by omega, by go_num, hRn, hB47⟩, rfl⟩)
                    case measure => simp [intOf]; omega
                  · have hy' : (y.kind != 2) = true := by simp [hy]
                    have hRn : Hid (RR = false) := by show _ = _; rw [hFY.out]; unfold fitK; rw [if_neg (by decide), if_pos (by decide)]; simp [hy]
                    clear hFY hy eN h3 h3'
                    go_wp2
                    go_ret2
                    exact ⟨by rw [hn.out, hRn.out]; rfl, by rw [← hW7]; exact hB4.trans (hB47.out.mono (by omega))⟩
                · have hk4 : k = 4 := by omega
                  subst hk4
                  have hRn : Hid (RR = (T.drop (i + 1)).all (ffW l)) := by show _ = _; rw [hFY.out]; rfl
                  clear hFY eN h3 h3'
                  go_wp2
                  rw [← hW7]
                  clear hW7
                  go_roundw
                  case rel => first | exact ⟨i + 1, by omega, by go_num, hRn, hB47⟩ | ((repeat apply Exists.intro); exact ⟨⟨i + 1, by omega, by go_num, hRn, hB47⟩, rfl⟩)
                  case measure => simp [intOf]; omega
            · have hRn : Hid (RR = false) := by show _ = _; rw [hFW.out, hby]; rfl
              clear hFW hby
              go_wp2
              go_ret2
              exact ⟨by rw [hn.out, hRn.out]; rfl, hB4.trans ((hB46.out.alloc hw6 _).mono (by omega))⟩
          · subst hn0
            have hRn : Hid (RR = (T.drop (i + 1)).all (ffW l)) := by show _ = _; rw [hSt.out]; unfold ffW; dsimp only; rw [hk]; rfl
            clear hSt hk
            go_wp2
            rw [← hW5]
            clear hW5 c0 c1 c2 c3 c4 c5
            go_roundw
            case rel => first | exact ⟨i + 1, by omega, by go_num, hRn, hB45⟩ | ((repeat apply Exists.intro); exact ⟨⟨i + 1, by omega, by go_num, hRn, hB45⟩, rfl⟩)
            case measure => simp [intOf]; omega
        · have hke : i = T.length := by omega
          subst hke
          have hge : ¬ ((T.length : Int) < (T.length : Int)) := by omega
          have hRn : Hid (RR = true) := by show _ = _; rw [hRi.out, List.drop_length]; rfl
          clear hRi
          go_wp2
          go_ret2
          exact ⟨by rw [hn.out, hRn.out]; rfl, hB0⟩

end Go.Proofs.Ytpopjapcgcnnfaa
