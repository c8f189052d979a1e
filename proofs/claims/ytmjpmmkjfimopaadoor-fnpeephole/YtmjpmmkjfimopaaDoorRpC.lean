/- The program's test of a field. -/
import Derived.Test.YtmjpmmkjfimopaaDoorRpB
namespace Go.Proofs.YtmjpmmkjfimopaaDoor
open Go.RowKit Plain Sch Wan Prg

abbrev zeFd : Obj := .cells #[.int .i64 0, .int .i64 0, .int .i64 0, .string ⟨#[]⟩] 88

/-- the field taken lies in a block of its own -/
def TCut (U : World) (f : Fld) (s4 : Value) (wx : World) : Prop := ∃ fb, s4 = .pointer (some ⟨fb, 0, none⟩) ∧ fb < wx.heap.size ∧ U.heap.size ≤ fb ∧ (wx.cell? ⟨fb, 0, none⟩ = some (.int .i64 f.no) ∧ wx.cell? ⟨fb, 1, none⟩ = some (.int .i64 f.kind) ∧ wx.cell? ⟨fb, 2, none⟩ = some (.int .i64 f.num) ∧ wx.cell? ⟨fb, 3, none⟩ = some (.string f.data)) ∧ Below U.heap.size U wx

theorem tcut_z {U w3 : World} (hb3 : Below (U.alloc zeFd).heap.size (U.alloc zeFd) w3) : (U.heap.size < w3.heap.size) ∧ (w3.cell? ⟨U.heap.size, 0, none⟩ = some (.int .i64 0) ∧ w3.cell? ⟨U.heap.size, 1, none⟩ = some (.int .i64 0) ∧ w3.cell? ⟨U.heap.size, 2, none⟩ = some (.int .i64 0) ∧ w3.cell? ⟨U.heap.size, 3, none⟩ = some (.string ⟨#[]⟩)) ∧ (w3.frozen? ⟨U.heap.size, 0, none⟩ = false ∧ w3.frozen? ⟨U.heap.size, 1, none⟩ = false ∧ w3.frozen? ⟨U.heap.size, 2, none⟩ = false ∧ w3.frozen? ⟨U.heap.size, 3, none⟩ = false) := by
  have hl : U.heap.size < (U.alloc zeFd).heap.size := by simp
  refine ⟨by have := hb3.size; omega, ⟨(hb3.cell (p := ⟨U.heap.size, 0, none⟩) hl).trans (by go_simp), (hb3.cell (p := ⟨U.heap.size, 1, none⟩) hl).trans (by go_simp), (hb3.cell (p := ⟨U.heap.size, 2, none⟩) hl).trans (by go_simp), (hb3.cell (p := ⟨U.heap.size, 3, none⟩) hl).trans (by go_simp)⟩, (hb3.frozen (p := ⟨U.heap.size, 0, none⟩) hl).trans (by go_simp), (hb3.frozen (p := ⟨U.heap.size, 1, none⟩) hl).trans (by go_simp), (hb3.frozen (p := ⟨U.heap.size, 2, none⟩) hl).trans (by go_simp), (hb3.frozen (p := ⟨U.heap.size, 3, none⟩) hl).trans (by go_simp)⟩

theorem tcut_a {U w3 : World} (f : Fld) (hb3 : Below (U.alloc zeFd).heap.size (U.alloc zeFd) w3) : TCut U f (.pointer (some ⟨U.heap.size, 0, none⟩)) ((((w3.setCell ⟨U.heap.size, 0, none⟩ (.int .i64 f.no)).setCell ⟨U.heap.size, 1, none⟩ (.int .i64 f.kind)).setCell ⟨U.heap.size, 2, none⟩ (.int .i64 f.num)).setCell ⟨U.heap.size, 3, none⟩ (.string f.data)) := by
  obtain ⟨hz, ⟨z0, z1, z2, z3⟩, _⟩ := tcut_z hb3
  have hB : Below U.heap.size U w3 := ((Below.refl _ U).alloc (Nat.le_refl _) _).trans (hb3.mono (by simp))
  refine ⟨U.heap.size, rfl, by simp; omega, Nat.le_refl _, ⟨?_, ?_, ?_, ?_⟩, (((hB.setCell (Nat.le_refl _) _).setCell (Nat.le_refl _) _).setCell (Nat.le_refl _) _).setCell (Nat.le_refl _) _⟩
  · rw [World.cell?_setCell_other _ _ _ _ (by simp), World.cell?_setCell_other _ _ _ _ (by simp), World.cell?_setCell_other _ _ _ _ (by simp)]; exact World.cell?_setCell_same _ _ _ z0
  · rw [World.cell?_setCell_other _ _ _ _ (by simp), World.cell?_setCell_other _ _ _ _ (by simp)]; exact World.cell?_setCell_same _ _ _ (by rw [World.cell?_setCell_other _ _ _ _ (by simp)]; exact z1)
  · rw [World.cell?_setCell_other _ _ _ _ (by simp)]; exact World.cell?_setCell_same _ _ _ (by rw [World.cell?_setCell_other _ _ _ _ (by simp), World.cell?_setCell_other _ _ _ _ (by simp)]; exact z2)
  · exact World.cell?_setCell_same _ _ _ (by rw [World.cell?_setCell_other _ _ _ _ (by simp), World.cell?_setCell_other _ _ _ _ (by simp), World.cell?_setCell_other _ _ _ _ (by simp)]; exact z3)

theorem tcut_b {U w3 : World} (f : Fld) (hb3 : Below U.heap.size U w3) : TCut U f (.pointer (some ⟨w3.heap.size, 0, none⟩)) (w3.alloc (.cells #[.int .i64 f.no, .int .i64 f.kind, .int .i64 f.num, .string f.data] 88)) :=
  ⟨w3.heap.size, rfl, by simp, hb3.size, ⟨by go_simp, by go_simp, by go_simp, by go_simp⟩, hb3.alloc hb3.size _⟩

set_option maxRecDepth 100000 in
set_option maxHeartbeats 8000000 in
theorem test_any (x : Ins) (rb : Nat) (s : ByteArray) (fl : Bool) (pv nx : Int) (en : Bool) (w : World) (hR : RSt w rb s fl pv nx en) (pl : Option Fld) (hs : s.size ≤ 400) (hpl : PlR s pv pl) (ha : isAsk x.kind = true) (htx : x.text.size ≤ 30) (hk : KR w) (hrb0 : 0 < rb) :
    Calls Tryd.prog 54 #[.pointer (some ⟨rb, 0, none⟩), .agg #[.int .i64 x.code, .int .i64 x.kind, .int .i64 x.no, .int .i64 x.num, .string x.text, .int .i64 x.dst]] w (DoOut w rb s (tstI x pl) pv nx en) := by
  obtain ⟨R, hRR⟩ : ∃ R, R = tstI x pl := ⟨_, rfl⟩
  rw [← hRR]
  have HRR : Hid (R = tstI x pl) := hRR
  clear hRR
  obtain ⟨W1, hW1⟩ : ∃ W, W = w.alloc (.cells #[.int .i64 x.code, .int .i64 x.kind, .int .i64 x.no, .int .i64 x.num, .string x.text, .int .i64 x.dst] 59) := ⟨_, rfl⟩
  have hB1 : Below w.heap.size w W1 := by rw [hW1]; exact (Below.refl _ w).alloc (Nat.le_refl _) _
  have hs1 : Hid (W1.heap.size = w.heap.size + 1) := by show _ = _; rw [hW1]; simp
  have hl1 : w.heap.size < W1.heap.size := by rw [hs1.out]; omega
  have x0 : W1.cell? ⟨w.heap.size, 0, none⟩ = some (.int .i64 x.code) := by rw [hW1]; go_simp
  have x1 : W1.cell? ⟨w.heap.size, 1, none⟩ = some (.int .i64 x.kind) := by rw [hW1]; go_simp
  have x2 : W1.cell? ⟨w.heap.size, 2, none⟩ = some (.int .i64 x.no) := by rw [hW1]; go_simp
  have x3 : W1.cell? ⟨w.heap.size, 3, none⟩ = some (.int .i64 x.num) := by rw [hW1]; go_simp
  have x4 : W1.cell? ⟨w.heap.size, 4, none⟩ = some (.string x.text) := by rw [hW1]; go_simp
  have x5 : W1.cell? ⟨w.heap.size, 5, none⟩ = some (.int .i64 x.dst) := by rw [hW1]; go_simp
  have hrb := hR.1
  have hrw : rb < W1.heap.size := by omega
  have hne : rb ≠ w.heap.size := by omega
  have HR1 : Hid (RSt W1 rb s fl pv nx en) := hR.below hB1
  have HP1 : Hid (Pu w W1 (some rb) noV noV) := Pu.of_below hB1
  clear hR
  have HK1 : Hid (KR W1) := hk.pu HP1.out hrb0
  obtain ⟨_, ⟨h1, h2, h3, h4, h5⟩, f1, f2, f3, f4⟩ := HR1.out
  obtain ⟨c, kd, no, m, t, jt⟩ := x
  dsimp only at *
  rcases hpl with ⟨rfl, rfl⟩ | ⟨a, f, b, rfl, hrf1, rfl, has, hof⟩
  · have hF : Hid (R = false) := HRR.out
    clear HRR hk
    go_enter Tryd.func54, Tryd.ntmps54
    go_upto_region 1 with fail
    rw [← hW1]
    clear hW1
    go_wp2
    go_end0
    exact ⟨rfl, by rw [hF.out]; exact HR1.out.set1 false, HP1.out.set 1 _⟩
  · have hF3 : Hid (R = isSo ⟨kd, f.no, m, t, 0, 0⟩ f) := HRR.out
    have hav : ((a : Int) == -1) = false := by simp <;> omega
    obtain ⟨U, hU⟩ : ∃ U, U = W1.setCell ⟨rb, 1, none⟩ (.bool false) := ⟨_, rfl⟩
    have HRU : Hid (RSt U rb s false (a : Int) nx en) := by show RSt _ _ _ _ _ _ _; rw [hU]; exact HR1.out.set1 false
    have HPU : Hid (Pu w U (some rb) noV noV) := by show Pu _ _ _ _ _; rw [hU]; exact HP1.out.set 1 _
    have HKU : Hid (KR U) := hk.pu HPU.out hrb0
    have hUs : w.heap.size < U.heap.size := by rw [hU]; simpa [World.setCell] using hl1
    have y1 : U.cell? ⟨w.heap.size, 1, none⟩ = some (.int .i64 kd) := by rw [hU, World.cell?_setCell_other _ _ _ _ (by simp <;> omega)]; exact x1
    have y3 : U.cell? ⟨w.heap.size, 3, none⟩ = some (.int .i64 m) := by rw [hU, World.cell?_setCell_other _ _ _ _ (by simp <;> omega)]; exact x3
    have y4 : U.cell? ⟨w.heap.size, 4, none⟩ = some (.string t) := by rw [hU, World.cell?_setCell_other _ _ _ _ (by simp <;> omega)]; exact x4
    have HY : Hid (∀ W, Below U.heap.size U W → W.cell? ⟨w.heap.size, 1, none⟩ = some (.int .i64 kd) ∧ W.cell? ⟨w.heap.size, 3, none⟩ = some (.int .i64 m) ∧ W.cell? ⟨w.heap.size, 4, none⟩ = some (.string t) ∧ w.heap.size < W.heap.size) := fun W hW => ⟨(hW.cell (p := ⟨w.heap.size, 1, none⟩) hUs).trans y1, (hW.cell (p := ⟨w.heap.size, 3, none⟩) hUs).trans y3, (hW.cell (p := ⟨w.heap.size, 4, none⟩) hUs).trans y4, by have := hW.size; omega⟩
    have CT : Hid (∀ W : World, Below U.heap.size U W → Calls Tryd.prog 76 #[.string s, .int .i64 a] W fun e w' => ∃ bb : Int, e = .returned (.tuple #[.agg #[.int .i64 f.no, .int .i64 f.kind, .int .i64 f.num, .string f.data], .int .i64 bb, .bool true]) ∧ Below W.heap.size W w') := fun W hW => by
      refine (takeField_any s a W hs (HKU.out.below hW (by have := HKU.out.1; omega))).mono ?_
      rintro e w' ⟨x3, b3, ok3, rfl, htf, hb3⟩
      rcases htf with ⟨rfl, c, hbc, hrc, hac, hcs⟩ | ⟨_, hn⟩
      · rw [hrf1] at hrc
        simp only [Option.some.injEq, Prod.mk.injEq] at hrc
        obtain ⟨rfl, rfl⟩ := hrc
        exact ⟨b3, rfl, hb3⟩
      · rw [hrf1] at hn; cases hn
    have HBd : Hid (Below U.heap.size U U.drew) := (Below.refl _ U).drew
    have HBa : Hid (Below U.heap.size U (U.alloc zeFd).drew) := ((Below.refl _ U).alloc (Nat.le_refl _) _).drew
    obtain ⟨hru, ⟨g1, g2, g3, g4, g5⟩, e1, e2, e3, e4⟩ := HRU.out
    go_enter Tryd.func54, Tryd.ntmps54
    go_upto_region 1 with fail
    rw [← hW1]
    clear hW1
    go_upto_region 3 with fail
    rw [← hU]
    clear hU h1 h2 h3 h4 h5 f1 f2 f3 f4 x0 x1 x2 x3 x4 x5 HRR hk
    go_cut [4] (fun s4 wx => TCut U f s4 wx)
    case first =>
      go_region_with (first
        | (go_at_call 76; refine (CT.out _ HBa.out).mono ?_; rintro e w3 ⟨bb, rfl, hb3⟩; have hb3' : Below (U.alloc zeFd).heap.size (U.alloc zeFd) w3 := (Below.refl _ (U.alloc zeFd)).drew.trans hb3; obtain ⟨hz, ⟨z0, z1, z2, z3⟩, k0, k1, k2, k3⟩ := tcut_z hb3'; have HT := tcut_a f hb3')
        | (go_at_call 76; refine (CT.out _ HBd.out).mono ?_; rintro e w3 ⟨bb, rfl, hb3⟩; have hb3' : Below U.heap.size U w3 := (Below.refl _ U).drew.trans hb3; have HT := tcut_b f hb3'))
      all_goals
        go_wp2_with fail
        go_meet
        exact HT
    case rest =>
      obtain ⟨fb, rfl, hfb, hUf, ⟨q0, q1, q2, q3⟩, hbU⟩ := hcut
      obtain ⟨V, hV⟩ : ∃ V, V = wc := ⟨_, rfl⟩
      rw [← hV] at q0 q1 q2 q3 hbU hfb ⊢
      clear hV
      obtain ⟨y1, y3, y4, hwV⟩ := HY.out V hbU
      have HB4 : Hid (Below U.heap.size U V) := hbU
      go_wp2_with fail
      refine (fieldAskOf_any kd _).mono ?_
      rintro e w4 ⟨fv, rfl, hv4, hb4⟩
      have hB4 : Below U.heap.size U w4 := hbU.trans (hb4.mono hbU.size)
      have HV4 : Hid (IsoF kd w4 fv) := hv4
      obtain ⟨pf, qf, rf9, hfv⟩ := hv4.func ha
      obtain ⟨p1, q1', r1, hfn⟩ := fnF_func ha
      rw [hfn]
      generalize askN kd = b1 at *
      generalize askT kd = b2 at *
      obtain ⟨W5, hW5⟩ : ∃ W, W = w4.alloc (.cells #[.bool b1, .bool b2, .func p1 q1' r1, fv] 107) := ⟨_, rfl⟩
      have hA5 : Below w4.heap.size w4 W5 := by rw [hW5]; exact (Below.refl _ w4).alloc (Nat.le_refl _) _
      have hl5 : w4.heap.size < W5.heap.size := by rw [hW5]; simp
      have v3 : W5.cell? ⟨w4.heap.size, 3, none⟩ = some fv := by rw [hW5]; go_simp
      have hA45 : Below V.heap.size V W5 := hb4.trans (hA5.mono hb4.size)
      have hB5 : Below U.heap.size U W5 := hB4.trans (hA5.mono hB4.size)
      obtain ⟨y1, y3, y4, hw5⟩ := HY.out W5 hB5
      have q0 := (hA45.cell (p := ⟨fb, 0, none⟩) hfb).trans q0
      have q1 := (hA45.cell (p := ⟨fb, 1, none⟩) hfb).trans q1
      have q2 := (hA45.cell (p := ⟨fb, 2, none⟩) hfb).trans q2
      have q3 := (hA45.cell (p := ⟨fb, 3, none⟩) hfb).trans q3
      have hfb5 : fb < W5.heap.size := by have := hA45.size; omega
      have HR5 : Hid (RSt W5 rb s false (a : Int) nx en) := HRU.out.below hB5
      have HP5 : Hid (Pu w W5 (some rb) noV noV) := HPU.out.next hB5
      have HEND : Hid (∀ (w7 : World) (r : Bool), Below W5.heap.size W5 w7 → R = r → DoOut w rb s R (a : Int) nx en (.returned (.tuple #[])) (w7.setCell ⟨rb, 1, none⟩ (.bool r))) := fun w7 r h7 hr => by rw [hr]; exact ⟨rfl, (HR5.out.below h7).set1 r, (HP5.out.next h7).set 1 _⟩
      have HRC : Hid (∀ (w7 : World), Below W5.heap.size W5 w7 → rb < w7.heap.size ∧ w7.frozen? ⟨rb, 1, none⟩ = false ∧ ∃ z, w7.cell? ⟨rb, 1, none⟩ = some z) := fun w7 h7 => by
        obtain ⟨j0, ⟨_, j2, _⟩, j3, _⟩ := HR5.out.below h7
        exact ⟨j0, j3, _, j2⟩
      rw [hfv] at hW5 v3 ⊢
      go_upto_region 5 with fail
      rw [← hW5]
      clear hW5 hb4 hA45 HY CT HBd HBa g1 g2 g3 g4 g5 e1 e2 e3 e4
      obtain ⟨hfk, hfs⟩ := hof
      obtain ⟨fn, fk, fm, fd⟩ := f
      dsimp only at q0 q1 q2 q3 hfk hfs hF3
      rcases HV4.out with ⟨hN, g9, hv9, hg9, hc9⟩ | ⟨hk4, hv9⟩ | ⟨hk5, hv9⟩ | ⟨hn9, _⟩
      · have hc6 := (hA5.cell (p := ⟨g9, 0, none⟩) hg9).trans hc9
        have hg6 : g9 < W5.heap.size := by omega
        rw [hfv] at hv9
        simp only [Value.func.injEq] at hv9
        obtain ⟨rfl, rfl, rfl⟩ := hv9
        have hb13 : 1 ≤ kd ∧ kd ≤ 3 := by unfold askN at hN; simpa using hN
        have HC6 : Hid (W5.cell? ⟨g9, 0, none⟩ = some (.func (.func (if kd = 1 then 81 else if kd = 2 then 82 else 83)) #[] #[])) := hc6
        clear hc6 hc9 HV4
        by_cases h1 : kd = 1
        · subst h1
          have hF4 : Hid (R = (decide (fk = 0) && (fm == m))) := hF3.out
          clear hF3
          go_wp2_with fail
          refine (askNum1 1 fn m t 0 0 fn fk fm fd g9 _ hg6 HC6.out).mono ?_
          rintro e w7 ⟨rfl, hb7⟩
          obtain ⟨j0, j1, z, j2⟩ := HRC.out w7 hb7
          have HE := HEND.out w7 _ hb7 hF4.out
          clear hb7 hF4
          go_wp2
          go_end0
          exact HE
        · by_cases h2 : kd = 2
          · subst h2
            have hF4 : Hid (R = (decide (fk = 0) && decide (fm < m))) := hF3.out
            clear hF3
            go_wp2_with fail
            refine (askNum2 2 fn m t 0 0 fn fk fm fd g9 _ hg6 HC6.out).mono ?_
            rintro e w7 ⟨rfl, hb7⟩
            obtain ⟨j0, j1, z, j2⟩ := HRC.out w7 hb7
            have HE := HEND.out w7 _ hb7 hF4.out
            clear hb7 hF4
            go_wp2
            go_end0
            exact HE
          · have h3 : kd = 3 := by omega
            subst h3
            have hF4 : Hid (R = (decide (fk = 0) && decide (m < fm))) := hF3.out
            clear hF3
            go_wp2_with fail
            refine (askNum3 3 fn m t 0 0 fn fk fm fd g9 _ hg6 HC6.out).mono ?_
            rintro e w7 ⟨rfl, hb7⟩
            obtain ⟨j0, j1, z, j2⟩ := HRC.out w7 hb7
            have HE := HEND.out w7 _ hb7 hF4.out
            clear hb7 hF4
            go_wp2
            go_end0
            exact HE
      · subst hk4
        rw [hfv] at hv9
        simp only [Value.func.injEq] at hv9
        obtain ⟨rfl, rfl, rfl⟩ := hv9
        have hF4 : Hid (R = true) := hF3.out
        clear hF3 HV4
        go_wp2_with fail
        refine (askHas 4 fn m t 0 0 fn fk fm fd _).mono ?_
        rintro e w7 ⟨rfl, hb7⟩
        obtain ⟨j0, j1, z, j2⟩ := HRC.out w7 hb7
        have HE := HEND.out w7 _ hb7 hF4.out
        clear hb7 hF4
        go_wp2
        go_end0
        exact HE
      · subst hk5
        rw [hfv] at hv9
        simp only [Value.func.injEq] at hv9
        obtain ⟨rfl, rfl, rfl⟩ := hv9
        have hF4 : Hid (R = (decide (fk = 2) && preB fd t)) := hF3.out
        clear hF3 HV4
        go_wp2_with fail
        refine (askStarts 5 fn m t 0 0 fn fk fm fd _ hfs htx).mono ?_
        rintro e w7 ⟨rfl, hb7⟩
        obtain ⟨j0, j1, z, j2⟩ := HRC.out w7 hb7
        have HE := HEND.out w7 _ hb7 hF4.out
        clear hb7 hF4
        go_wp2
        go_end0
        exact HE
      · rw [ha] at hn9; cases hn9

end Go.Proofs.YtmjpmmkjfimopaaDoor
