/- Proved here: at every two machines the law FnExactSameLanguage answers true, that is, SameLanguage answers as its model and writes into nothing.
   Conditions: none beside the row's own. -/
import Derived.Test.YtkkofblgjilopaaMcSi
import Derived.Test.YtkkofblgjilopaaMcSs
import Derived.Test.YtkkofblgjilopaaMcV
namespace Go.Proofs.Ytkkofblgjilopaa
open Go.RowKit Plain Mch Tpc

/-- a machine that lies in memory -/
def MaAt (w : World) (v e : Value) (M : List (List Int)) (E : List Bool) : Prop := MAt w w.heap.size v M ∧ EAt w w.heap.size e E
theorem MaAt.below {w w' : World} {v e : Value} {M : List (List Int)} {E : List Bool} (h : MaAt w v e M E) (hb : Below w.heap.size w w') : MaAt w' v e M E := ⟨h.1.below hb, h.2.below hb⟩

set_option maxRecDepth 100000 in
set_option maxHeartbeats 8000000 in
theorem walkFnExactSameLanguage (A : List (List Int)) (E : List Bool) (vA eA : Value) (B : List (List Int)) (F : List Bool) (vB eB : Value) (w : World) (hA : MAt w w.heap.size vA A) (hE : EAt w w.heap.size eA E) (hB : MAt w w.heap.size vB B) (hF : EAt w w.heap.size eB F) :
    Calls Try.prog 8 #[.agg #[vA, eA], .agg #[vB, eB]] w fun e w' => e = .returned (.bool true) ∧ Below w.heap.size w w' := by
  have HA : Hid (MAt w w.heap.size vA A) := hA
  have HE : Hid (EAt w w.heap.size eA E) := hE
  have HB : Hid (MAt w w.heap.size vB B) := hB
  have HF : Hid (EAt w w.heap.size eB F) := hF
  obtain ⟨aA, cA, rfl, _⟩ := hA
  obtain ⟨aE, cE, rfl, _⟩ := hE
  obtain ⟨aB, cB, rfl, _⟩ := hB
  obtain ⟨aF, cF, rfl, _⟩ := hF
  obtain ⟨W2, hW2⟩ : ∃ W, W = (w.alloc (.cells #[.slice aA A.length cA, .slice aE E.length cE] 25)).alloc (.cells #[.slice aB B.length cB, .slice aF F.length cF] 25) := ⟨_, rfl⟩
  have hB1 : Below w.heap.size w W2 := by rw [hW2]; exact ((Below.refl _ w).alloc (Nat.le_refl _) _).alloc (by simp) _
  have hs2 : W2.heap.size = w.heap.size + 2 := by rw [hW2]; simp
  have X0 : Hid (W2.cell? ⟨w.heap.size, 0, none⟩ = some (.slice aA A.length cA)) := by show _ = _; rw [hW2]; go_simp
  have C0 : Hid (∀ W : World, Below (w.heap.size + 2) W2 W → W.cell? ⟨w.heap.size, 0, none⟩ = some (.slice aA A.length cA)) := fun W hW => (hW.cell (p := ⟨w.heap.size, 0, none⟩) (by show w.heap.size < _; omega)).trans X0.out
  have X1 : Hid (W2.cell? ⟨w.heap.size, 1, none⟩ = some (.slice aE E.length cE)) := by show _ = _; rw [hW2]; go_simp
  have C1 : Hid (∀ W : World, Below (w.heap.size + 2) W2 W → W.cell? ⟨w.heap.size, 1, none⟩ = some (.slice aE E.length cE)) := fun W hW => (hW.cell (p := ⟨w.heap.size, 1, none⟩) (by show w.heap.size < _; omega)).trans X1.out
  have X2 : Hid (W2.cell? ⟨w.heap.size + 1, 0, none⟩ = some (.slice aB B.length cB)) := by show _ = _; rw [hW2]; go_simp
  have C2 : Hid (∀ W : World, Below (w.heap.size + 2) W2 W → W.cell? ⟨w.heap.size + 1, 0, none⟩ = some (.slice aB B.length cB)) := fun W hW => (hW.cell (p := ⟨w.heap.size + 1, 0, none⟩) (by show w.heap.size + 1 < _; omega)).trans X2.out
  have X3 : Hid (W2.cell? ⟨w.heap.size + 1, 1, none⟩ = some (.slice aF F.length cF)) := by show _ = _; rw [hW2]; go_simp
  have C3 : Hid (∀ W : World, Below (w.heap.size + 2) W2 W → W.cell? ⟨w.heap.size + 1, 1, none⟩ = some (.slice aF F.length cF)) := fun W hW => (hW.cell (p := ⟨w.heap.size + 1, 1, none⟩) (by show w.heap.size + 1 < _; omega)).trans X3.out
  have DN : Hid (∀ W : World, Below (w.heap.size + 2) W2 W → Below w.heap.size w W) := fun W hW => hB1.trans (hW.mono (by omega))
  have BR : Hid (Below (w.heap.size + 2) W2 W2) := Below.refl _ _
  have y0 := C0.out _ BR.out
  have y1 := C1.out _ BR.out
  have y2 := C2.out _ BR.out
  have y3 := C3.out _ BR.out
  clear X0 X1 X2 X3
  go_enter Try.func8, Try.ntmps8
  go_wp2_with fail
  rw [← hW2]
  clear hW2
  refine (szMach_left A E _ _ 1048576 _ (HA.out.below hB1) (HE.out.below hB1) (by omega) (by omega)).mono ?_
  rintro e w3 ⟨⟨r, rfl, hr0, hr1, hr2⟩, hb3⟩
  have hbw3 : Below (w.heap.size + 2) W2 w3 := hb3.mono (by omega)
  have y0 := C0.out _ hbw3
  have y1 := C1.out _ hbw3
  have y2 := C2.out _ hbw3
  have y3 := C3.out _ hbw3
  have hz3 : w.heap.size + 1 < w3.heap.size := by have := hb3.size; omega
  clear hb3
  by_cases hneg : r < 0
  · clear hr2
    go_wp2
    go_ret
    exact ⟨rfl, DN.out _ hbw3⟩
  obtain ⟨hlA, hpA, hlE⟩ := hr2 (by omega)
  clear hr2
  go_wp2_with fail
  refine (szMach_left B F _ _ r _ (HB.out.below (DN.out _ hbw3)) (HF.out.below (DN.out _ hbw3)) (by omega) (by omega)).mono ?_
  rintro e w4 ⟨⟨r2, rfl, hr20, hr21, hr22⟩, hb4⟩
  have hbw4 : Below (w.heap.size + 2) W2 w4 := hbw3.trans (hb4.mono (by omega))
  have hz4 : w.heap.size + 1 < w4.heap.size := by have := hb4.size; omega
  have y0 := C0.out _ hbw4
  have y1 := C1.out _ hbw4
  have y2 := C2.out _ hbw4
  have y3 := C3.out _ hbw4
  clear hb4 hbw3
  by_cases hneg2 : r2 < 0
  · clear hr22
    go_wp2
    go_ret
    exact ⟨rfl, DN.out _ hbw4⟩
  obtain ⟨hlB, hpB, hlF⟩ := hr22 (by omega)
  clear hr22
  have TA : Hid (∀ W : World, Below (w.heap.size + 2) W2 W → Calls Try.prog 14 #[.agg #[.slice aA A.length cA, .slice aE E.length cE]] W fun e w' => ∃ a c b d, e = .returned (.agg #[.slice a A.length c, .slice b E.length d]) ∧ MaAt w' (.slice a A.length c) (.slice b E.length d) A E ∧ Below W.heap.size W w') := fun W hW => by
    refine (toMach_any A E _ _ W (HA.out.below (DN.out _ hW)) (HE.out.below (DN.out _ hW)) hlA (fun i hi => Nat.le_trans (pm_each hi) hpA) hlE).mono ?_
    rintro e w' ⟨⟨r1, r2, rfl, us, ho⟩, hb⟩
    obtain ⟨a, c, rfl⟩ := ho.1.slice
    obtain ⟨b, d, rfl⟩ := ERow.slice ho.2.1
    exact ⟨a, c, b, d, rfl, ⟨ho.1.at, EAt.own ho.2.1⟩, hb⟩
  have EA : Hid (∀ (W : World) (v1 v2 e1 e2 : Value), MaAt W v1 e1 A E → MaAt W v2 e2 A E → Calls Try.prog 16 #[.agg #[v1, e1], .agg #[v2, e2]] W fun e w' => e = .returned (.bool true) ∧ Below W.heap.size W w') := fun W v1 v2 e1 e2 h1 h2 => eqMach_same A E v1 v2 e1 e2 W h1.1 h2.1 h1.2 h2.2 (by omega) (fun i hi => by have := Nat.le_trans (pm_each hi) hpA; omega) (by omega)
  have TB : Hid (∀ W : World, Below (w.heap.size + 2) W2 W → Calls Try.prog 14 #[.agg #[.slice aB B.length cB, .slice aF F.length cF]] W fun e w' => ∃ a c b d, e = .returned (.agg #[.slice a B.length c, .slice b F.length d]) ∧ MaAt w' (.slice a B.length c) (.slice b F.length d) B F ∧ Below W.heap.size W w') := fun W hW => by
    refine (toMach_any B F _ _ W (HB.out.below (DN.out _ hW)) (HF.out.below (DN.out _ hW)) hlB (fun i hi => Nat.le_trans (pm_each hi) hpB) hlF).mono ?_
    rintro e w' ⟨⟨r1, r2, rfl, us, ho⟩, hb⟩
    obtain ⟨a, c, rfl⟩ := ho.1.slice
    obtain ⟨b, d, rfl⟩ := ERow.slice ho.2.1
    exact ⟨a, c, b, d, rfl, ⟨ho.1.at, EAt.own ho.2.1⟩, hb⟩
  have EB : Hid (∀ (W : World) (v1 v2 e1 e2 : Value), MaAt W v1 e1 B F → MaAt W v2 e2 B F → Calls Try.prog 16 #[.agg #[v1, e1], .agg #[v2, e2]] W fun e w' => e = .returned (.bool true) ∧ Below W.heap.size W w') := fun W v1 v2 e1 e2 h1 h2 => eqMach_same B F v1 v2 e1 e2 W h1.1 h2.1 h1.2 h2.2 (by omega) (fun i hi => by have := Nat.le_trans (pm_each hi) hpB; omega) (by omega)
  have CS : Hid (∀ (W : World) (v1 e1 v2 e2 : Value), MaAt W v1 e1 A E → MaAt W v2 e2 B F → Calls Try.prog 30 #[.agg #[v1, e1], .agg #[v2, e2]] W fun e w' => e = .returned (.tuple #[.string (smt A E B F), .bool (smb A E B F), .bool (gm A E && gm B F)]) ∧ Below W.heap.size W w') := fun W v1 e1 v2 e2 h1 h2 => specSame A E v1 e1 B F v2 e2 W h1.1 h1.2 h2.1 h2.2
  have CI : Hid (∀ (W : World) (v1 e1 v2 e2 : Value), MaAt W v1 e1 A E → MaAt W v2 e2 B F → Calls Try.prog 31 #[.agg #[v1, e1], .agg #[v2, e2]] W fun e w' => e = .returned (.tuple #[.string (smt A E B F), .bool (smb A E B F), .bool (gm A E && gm B F)]) ∧ Below W.heap.size W w') := fun W v1 e1 v2 e2 h1 h2 => implSame A E v1 e1 B F v2 e2 W h1.1 h1.2 h2.1 h2.2
  generalize smt A E B F = tt at CS CI
  generalize smb A E B F = b1 at CS CI
  generalize (gm A E && gm B F) = b2 at CS CI
  clear HA HB HE HF hpA hpB
  have hbw4d : Hid (Below (w.heap.size + 2) W2 w4.drew) := hbw4.drew
  go_upto_region 8 with fail
  go_cut [6, 7, 8] (fun s6 s7 s8 wx => s6 = .string tt ∧ s7 = .bool b1 ∧ s8 = .bool b2 ∧ Below (w.heap.size + 2) W2 wx)
  case first =>
    go_region_with (first
      | (go_at_call 30; refine (CS.out _ _ _ _ _ hta6 htb).mono ?_; rintro e w7 ⟨rfl, hb7⟩; have hbw7 : Below (w.heap.size + 2) W2 w7 := hbw6.trans (hb7.mono (by have := hbw6.size; omega)))
      | (go_at_call 14; refine (TB.out _ hbw5).mono ?_; rintro e w6 ⟨a6, c6, b6, d6, rfl, htb, hb6⟩; have hbw6 : Below (w.heap.size + 2) W2 w6 := hbw5.trans (hb6.mono (by have := hbw5.size; omega)); have hta6 := hta.below hb6)
      | (go_at_call 14; refine (TA.out _ hbw4d.out).mono ?_; rintro e w5 ⟨a5, c5, b5, d5, rfl, hta, hb5⟩; have hbw5 : Below (w.heap.size + 2) W2 w5 := hbw4.drew.trans (hb5.mono (by have := hbw4.size; simp; omega)); have y25 := C2.out _ hbw5; have y35 := C3.out _ hbw5))
    all_goals
      go_wp2_with fail
      go_meet
      exact ⟨rfl, rfl, rfl, hbw7⟩
  case rest =>
    obtain ⟨rfl, rfl, rfl, hbc⟩ := hcut
    have y0 := C0.out _ hbc
    have y1 := C1.out _ hbc
    have y2 := C2.out _ hbc
    have y3 := C3.out _ hbc
    have hzc : w.heap.size + 1 < wc.heap.size := by have := hbc.size; omega
    clear hbw4 hbw4d CS
    go_wp2_with fail
    refine (TA.out _ hbc).mono ?_
    rintro e w5 ⟨ar, car, br, dar, rfl, hta, hb5⟩
    have hbw5 : Below (w.heap.size + 2) W2 w5 := hbc.trans (hb5.mono (by omega))
    have hz5 : w.heap.size + 1 < w5.heap.size := by have := hb5.size; omega
    obtain ⟨W5, hW5⟩ : ∃ W, W = w5.alloc (.cells #[.slice ar A.length car, .slice br E.length dar] 28) := ⟨_, rfl⟩
    have hB6 : Below w5.heap.size w5 W5 := by rw [hW5]; exact (Below.refl _ w5).alloc (Nat.le_refl _) _
    have hzW5 : w5.heap.size < W5.heap.size := by rw [hW5]; simp
    have x0 : W5.cell? ⟨w5.heap.size, 0, none⟩ = some (.slice ar A.length car) := by rw [hW5]; go_simp
    have x1 : W5.cell? ⟨w5.heap.size, 1, none⟩ = some (.slice br E.length dar) := by rw [hW5]; go_simp
    have HTA : Hid (MaAt W5 (.slice ar A.length car) (.slice br E.length dar) A E) := hta.below hB6
    have hbw5a : Below (w.heap.size + 2) W2 W5 := hbw5.trans (hB6.mono (by omega))
    have y0 := C0.out _ hbw5a
    have y1 := C1.out _ hbw5a
    have y2 := C2.out _ hbw5a
    have y3 := C3.out _ hbw5a
    clear hb5 hbc hta hB6 hbw5
    go_upto_region 10 with fail
    rw [← hW5]
    clear hW5
    go_wp2_with fail
    refine (TB.out _ hbw5a).mono ?_
    rintro e w6 ⟨a6, c6, b6, d6, rfl, htb, hb6⟩
    have hbw6 : Below (w.heap.size + 2) W2 w6 := hbw5a.trans (hb6.mono (by omega))
    have hz6 : w5.heap.size < w6.heap.size := by have := hb6.size; omega
    replace x0 := (hb6.cell (p := ⟨w5.heap.size, 0, none⟩) hzW5).trans x0
    replace x1 := (hb6.cell (p := ⟨w5.heap.size, 1, none⟩) hzW5).trans x1
    have HTA6 : Hid (MaAt w6 (.slice ar A.length car) (.slice br E.length dar) A E) := HTA.out.below hb6
    obtain ⟨W6, hW6⟩ : ∃ W, W = w6.alloc (.cells #[.slice a6 B.length c6, .slice b6 F.length d6] 28) := ⟨_, rfl⟩
    have hB7 : Below w6.heap.size w6 W6 := by rw [hW6]; exact (Below.refl _ w6).alloc (Nat.le_refl _) _
    have hzW6 : w6.heap.size < W6.heap.size := by rw [hW6]; simp
    have z0 : W6.cell? ⟨w6.heap.size, 0, none⟩ = some (.slice a6 B.length c6) := by rw [hW6]; go_simp
    have z1 : W6.cell? ⟨w6.heap.size, 1, none⟩ = some (.slice b6 F.length d6) := by rw [hW6]; go_simp
    replace x0 := (hB7.cell (p := ⟨w5.heap.size, 0, none⟩) hz6).trans x0
    replace x1 := (hB7.cell (p := ⟨w5.heap.size, 1, none⟩) hz6).trans x1
    have HTA7 : Hid (MaAt W6 (.slice ar A.length car) (.slice br E.length dar) A E) := HTA6.out.below hB7
    have HTB7 : Hid (MaAt W6 (.slice a6 B.length c6) (.slice b6 F.length d6) B F) := htb.below hB7
    have hbw7 : Below (w.heap.size + 2) W2 W6 := hbw6.trans (hB7.mono (by omega))
    have hz56 : w5.heap.size < W6.heap.size := by omega
    clear hb6 htb HTA HTA6 hbw5a hbw6 hB7 hzW5
    go_upto_region 11 with fail
    rw [← hW6]
    clear hW6
    go_wp2_with fail
    refine (CI.out _ _ _ _ _ HTA7.out HTB7.out).mono ?_
    rintro e w8 ⟨rfl, hb8⟩
    have hbw8 : Below (w.heap.size + 2) W2 w8 := hbw7.trans (hb8.mono (by omega))
    have hz8 : w6.heap.size < w8.heap.size := by have := hb8.size; omega
    have HTA8 : Hid (MaAt w8 (.slice ar A.length car) (.slice br E.length dar) A E) := HTA7.out.below hb8
    have HTB8 : Hid (MaAt w8 (.slice a6 B.length c6) (.slice b6 F.length d6) B F) := HTB7.out.below hb8
    replace x0 := (hb8.cell (p := ⟨w5.heap.size, 0, none⟩) hz56).trans x0
    replace x1 := (hb8.cell (p := ⟨w5.heap.size, 1, none⟩) hz56).trans x1
    replace z0 := (hb8.cell (p := ⟨w6.heap.size, 0, none⟩) hzW6).trans z0
    replace z1 := (hb8.cell (p := ⟨w6.heap.size, 1, none⟩) hzW6).trans z1
    have y0 := C0.out _ hbw8
    have y1 := C1.out _ hbw8
    have y2 := C2.out _ hbw8
    have y3 := C3.out _ hbw8
    have hz58 : w5.heap.size < w8.heap.size := by omega
    have hzw8 : w.heap.size + 1 < w8.heap.size := by omega
    clear hb8 HTA7 HTB7 hbw7 CI hzW6 hz56
    have hbw8d : Hid (Below (w.heap.size + 2) W2 w8.drew) := hbw8.drew
    have d1 : (tt.toList == tt.toList) = true := by simp
    have d2 : (b1 != b1) = false := by simp
    have d3 : (b2 != b2) = false := by simp
    go_upto_region 14 with fail
    go_cut [61] (fun s52 wx => s52 = .bool false ∧ Below w8.heap.size w8 wx)
    case first =>
      go_region_with (first
        | (go_at_call 16; refine (EA.out _ _ _ _ _ ht9 ht8).mono ?_; rintro e w10 ⟨rfl, hb10⟩; have hB10 : Below w8.heap.size w8 w10 := hB9.trans (hb10.mono hB9.size))
        | (go_at_call 14; refine (TA.out _ hbw8d.out).mono ?_; rintro e w9 ⟨a9, c9, b9, d9, rfl, ht8, hb9⟩; have x90 := (hb9.cell (p := ⟨w5.heap.size, 0, none⟩) hz58).trans x0; have x91 := (hb9.cell (p := ⟨w5.heap.size, 1, none⟩) hz58).trans x1; have hB9 : Below w8.heap.size w8 w9 := (Below.refl _ w8).drew.trans hb9; have ht9 : MaAt w9 (.slice ar A.length car) (.slice br E.length dar) A E := HTA8.out.below hB9))
      all_goals
        go_wp2_with fail
        go_meet
        exact ⟨rfl, hB10⟩
    case rest =>
      obtain ⟨rfl, hbd⟩ := hcut
      have hbwd : Below (w.heap.size + 2) W2 wc := hbw8.trans (hbd.mono (by omega))
      have hzd : w6.heap.size < wc.heap.size := by have := hbd.size; omega
      have hzwd : w.heap.size + 1 < wc.heap.size := by omega
      have HTBd : Hid (MaAt wc (.slice a6 B.length c6) (.slice b6 F.length d6) B F) := HTB8.out.below hbd
      have y2 := C2.out _ hbwd
      have y3 := C3.out _ hbwd
      have zd0 := (hbd.cell (p := ⟨w6.heap.size, 0, none⟩) hz8).trans z0
      have zd1 := (hbd.cell (p := ⟨w6.heap.size, 1, none⟩) hz8).trans z1
      have hbwdd : Hid (Below (w.heap.size + 2) W2 wc.drew) := hbwd.drew
      clear hbd hbw8 hbw8d HTA8 HTB8 x0 x1 z0 z1 EA TA
      go_wp2_with fail
      go_region_with (first
        | (go_at_call 16; refine (EB.out _ _ _ _ _ ht12 ht11).mono ?_; rintro e w13 ⟨rfl, hb13⟩; have hB13 : Below w.heap.size w w13 := hB12.trans (hb13.mono hB12.size))
        | (go_at_call 14; refine (TB.out _ hbwdd.out).mono ?_; rintro e w12 ⟨a12, c12, b12, d12, rfl, ht11, hb12⟩; have x120 := (hb12.cell (p := ⟨w6.heap.size, 0, none⟩) hzd).trans zd0; have x121 := (hb12.cell (p := ⟨w6.heap.size, 1, none⟩) hzd).trans zd1; have hB12 : Below w.heap.size w w12 := (DN.out _ hbwd).drew.trans (hb12.mono (by have h1 := (DN.out _ hbwd).size; exact h1)); have ht12 : MaAt w12 (.slice a6 B.length c6) (.slice b6 F.length d6) B F := HTBd.out.below ((Below.refl _ wc).drew.trans hb12)))
      all_goals
        go_wp2
        go_ret
        exact ⟨rfl, hB13⟩

namespace fnExactSameLanguage
open Go.ChangeShapes Go.WideShapes Go.ChangeAt

theorem own : ownKnob Try.prog.godebug = none := by kernel_rfl
theorem laidOut : laidOutB Try.prog = true := by kernel_rfl

set_option maxRecDepth 100000 in
theorem lifted (os : Os) (started : os.Started) (H : Type) (enc : TypeId × Value → H) :
    ReturnsInHanded {} Try.checked os 8 .any (Rows.fnExactSameLanguageSpec.pre6 enc Try.prog Try.f8 Rows.fnExactSameLanguageRow.domain false) (Rows.fnExactSameLanguageSpec.post enc Try.prog Try.f8 false true false false) := by
  refine returnsInHanded_of_change (C := Try.checked) own started (by kernel_rfl) Try.func8
    (ChangeSpec.witness6 (enc := enc) (C := Try.checked) false ⟨#[], #[.agg #[.slice none 0 0, .slice none 0 0], .agg #[.slice none 0 0, .slice none 0 0]], []⟩ 8 (by kernel_rfl) (by kernel_rfl) (by kernel_rfl) (by kernel_rfl)) ?_
  intro W base args ds gs before hval0 hW hcnd _
  have hval : ∀ (j : Nat) t v, Try.f8.params[j]? = some t → args[j]? = some v → Value.okWide Try.prog W .any base t v := hval0
  have hW' := hW
  obtain ⟨p, q, hA0, hV, rfl, hfz, hnd⟩ := hW
  have hA : DataW.TrodAll enc Try.prog W 0 (fun _ => true) true Try.f8.params.toList args.toList ds p := hA0
  rw [Try.params8] at hA hval
  obtain ⟨v0, vs0, d0, ds0, p0, q0, hargs, rfl, rfl, h0, r0⟩ := trodAll_cons hA
  obtain ⟨v1, vs1, d1, ds1, p1, q1, rfl, rfl, rfl, h1, r1⟩ := trodAll_cons r0
  obtain ⟨rfl, rfl, rfl⟩ := trodAll_nil r1
  obtain rfl : args = #[v0, v1] := by cases args; simp_all
  obtain ⟨rfl, rfl⟩ := trodVars_none hV
  have h0k := h0
  obtain ⟨uA, yA, MA, EA, rfl, hMA, hEA⟩ := open_mach (hval 0 25 v0 rfl rfl) h0
  have h1k := h1
  obtain ⟨uB, yB, MB, EB, rfl, hMB, hEB⟩ := open_mach (hval 1 25 v1 rfl rfl) h1
  clear hA0 hval0
  have hlt0 : ∀ x ∈ p0, x.block < W.heap.size := fun x hx => by
    have := hW'.lt x (by simp_all)
    simpa using this
  have hlt1 : ∀ x ∈ p1, x.block < W.heap.size := fun x hx => by
    have := hW'.lt x (by simp_all)
    simpa using this
  refine (walkFnExactSameLanguage MA EA uA yA MB EB uB yB W hMA hEA hMB hEB).mono fun e W' ⟨he, hg⟩ => ?_
  subst he
  exact ⟨_, rfl, _, _, _, [], _, [], hW', trodAll_mk1 (shut_bool Try.underlying4 _), (trodAll_cons_mk (Below.trod laidOut (by kernel_rfl) (of_decide_eq_true (by kernel_rfl)) h0k hg hlt0) (trodAll_cons_mk (Below.trod laidOut (by kernel_rfl) (of_decide_eq_true (by kernel_rfl)) h1k hg hlt1) trodAll_mk0)), rfl, hg.frame _, fun h => by cases h⟩

theorem over : Rows.fnExactSameLanguageRow.holds Try.pinned (OpenSpec.ofChange Rows.fnExactSameLanguageSpec) :=
  OpenClaim.holds_of_wide 8 Try.f8 rfl rfl rfl rfl rfl rfl rfl ⟨rfl, rfl, rfl, rfl, rfl⟩ rfl rfl rfl rfl rfl (by kernel_rfl) Try.func8 (by kernel_rfl)
    (of_decide_eq_true (by kernel_rfl)) (by unfold Func.isWrapper; first | (rw [if_pos (by decide +kernel)]; kernel_rfl) | (rw [if_neg (by decide +kernel)]; exact ⟨rfl, rfl⟩))
    (fun os started H enc _ => lifted os started H enc)

end fnExactSameLanguage

theorem fnExactSameLanguage_holds : Rows.FnExactSameLanguageSaid := fnExactSameLanguage.over
#print axioms fnExactSameLanguage_holds
end Go.Proofs.Ytkkofblgjilopaa
