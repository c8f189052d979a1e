/- The program's three ways to make a program better. -/
import Derived.Test.YtpopjapcgcnnfaaPiH
import Derived.BigQuiet
namespace Go.Proofs.Ytpopjapcgcnnfaa
open Go.RowKit Plain Sch Wan Prg

/-- what a rule leaves -/
def RuleOut (w : World) (hb : Nat) (v : Value) (b : Bool) (U : List Ins) (e : Ending) (w' : World) : Prop :=
  (b = true ∧ e = .returned (.bool true) ∧ HOut w hb v U w') ∨ (b = false ∧ e = .returned (.bool false) ∧ Below w.heap.size w w')

theorem gp_textsI {T : List Ins} (hg : gp T = true) : ∀ x ∈ T, x.text.size ≤ 30 := by
  intro x hx
  obtain ⟨j, hj, rfl⟩ := List.getElem_of_mem hx
  have e : ins T j = T[j] := by unfold ins; rw [List.getD, List.getElem?_eq_getElem hj]; rfl
  have := gp_text hg hj
  rw [e] at this
  exact this

theorem hasC_flips {L : List Ins} {i : Nat} : isA L i ↔ (hasC L i [4, 4] = true ∧ led L ((i : Int) + 1) = false) := by
  unfold isA hasC
  simp only [Bool.and_eq_true, decide_eq_true_eq, List.length_cons, List.length_nil]
  constructor
  · rintro ⟨a, b, c, d⟩
    refine ⟨⟨by omega, fun j hj => ?_⟩, d⟩
    match j, hj with
    | 0, _ => exact a
    | 1, _ => exact c
    | n + 2, h => exact absurd h (by omega)
  · rintro ⟨⟨a, b⟩, d⟩
    exact ⟨b 0 (by omega), by omega, b 1 (by omega), d⟩

theorem hasC_seeks {L : List Ins} {i : Nat} : isC L i ↔ (hasC L i [1, 2, 1] = true ∧ (ins L (i + 2)).no = (ins L i).no ∧ led L ((i : Int) + 1) = false ∧ led L ((i : Int) + 2) = false) := by
  unfold isC hasC
  simp only [Bool.and_eq_true, decide_eq_true_eq, List.length_cons, List.length_nil]
  constructor
  · rintro ⟨a, b, c, d, e, f, g⟩
    refine ⟨⟨by omega, fun j hj => ?_⟩, e, f, g⟩
    match j, hj with
    | 0, _ => exact a
    | 1, _ => exact c
    | 2, _ => exact d
    | n + 3, h => exact absurd h (by omega)
  · rintro ⟨⟨a, b⟩, e, f, g⟩
    exact ⟨b 0 (by omega), by omega, b 1 (by omega), b 2 (by omega), e, f, g⟩

theorem cells2 (w : World) (a b : Int) : ∀ j, j < [a, b].length → (w.alloc (.cells #[.int .i64 a, .int .i64 b] 3)).cell? ⟨w.heap.size, j, none⟩ = some (.int .i64 ([a, b].getD j 0)) := by
  intro j hj
  match j, hj with
  | 0, _ => go_simp
  | 1, _ => go_simp
  | n + 2, h => exact absurd h (by simp)

theorem cells3 (w : World) (a b c : Int) : ∀ j, j < [a, b, c].length → (w.alloc (.cells #[.int .i64 a, .int .i64 b, .int .i64 c] 3)).cell? ⟨w.heap.size, j, none⟩ = some (.int .i64 ([a, b, c].getD j 0)) := by
  intro j hj
  match j, hj with
  | 0, _ => go_simp
  | 1, _ => go_simp
  | 2, _ => go_simp
  | n + 3, h => exact absurd h (by simp)

theorem HOut.from {w w1 w' : World} {hb : Nat} {v : Value} {U : List Ins} (hB : Below w.heap.size w w1) (h : HOut w1 hb v U w') : HOut w hb v U w' := by
  obtain ⟨v', h1, h2⟩ := h
  exact ⟨v', h1, (Pu.of_below hB).trans h2⟩

set_option maxRecDepth 100000 in
set_option maxHeartbeats 4000000 in
theorem dropFlips_any (L : List Ins) (i hb : Nat) (v : Value) (w : World) (hH : HSt w hb v L) (hg : gp L = true) (hi : i < L.length) :
    Calls Try.prog 99 #[.pointer (some ⟨hb, 0, none⟩), .int .i64 i] w (RuleOut w hb v (decide (isA L i)) (cutP L i 2)) := by
  obtain ⟨h0, h60⟩ := gp_len hg
  have HH : Hid (HSt w hb v L) := hH
  obtain ⟨W1, hW1⟩ : ∃ W, W = w.alloc (.cells #[.int .i64 4, .int .i64 4] 3) := ⟨_, rfl⟩
  have hB1 : Below w.heap.size w W1 := by rw [hW1]; exact (Below.refl _ w).alloc (Nat.le_refl _) _
  have hl1 : w.heap.size < W1.heap.size := by rw [hW1]; simp
  have CH : Hid (Calls Try.prog 127 #[.pointer (some ⟨hb, 0, none⟩), .int .i64 i, .slice (some ⟨w.heap.size, 0, none⟩) 2 2] W1 fun e w' => e = .returned (.bool (hasC L i [4, 4])) ∧ w' = W1) := hasCodes_any L i [4, 4] hb w.heap.size 2 v W1 (hH.below hB1) (by omega) h60 (by omega) (by simp) hl1 (by rw [hW1]; exact cells2 w 4 4) (by simp) (by omega)
  have CL : Hid (Calls Try.prog 128 #[.pointer (some ⟨hb, 0, none⟩), .int .i64 ((i : Int) + 1)] W1 fun e w' => e = .returned (.bool (led L ((i : Int) + 1))) ∧ Below W1.heap.size W1 w') := isLedTo_any L _ hb v W1 (hH.below hB1) h60 (gp_textsI hg)
  have hIS := hasC_flips (L := L) (i := i)
  have CD : Hid (∀ W : World, Below w.heap.size w W → isA L i → Calls Try.prog 129 #[.pointer (some ⟨hb, 0, none⟩), .int .i64 i, .int .i64 2] W fun e w' => e = .returned (.tuple #[]) ∧ HOut W hb v (cutP L i 2) w') := fun W hW hA => by
    obtain ⟨a1, a2, a3, a4⟩ := hA
    have hi2 := gp_next hg a2 (by omega)
    exact drop_any L i 2 hb v W (HH.out.below hW) (by omega) (by omega) h60 (fun j hj hjc => by obtain ⟨a, b, _⟩ := gp_jump hg hj hjc; omega)
  have hi60 : (i : Int) + 1 ≤ 60 := by omega
  have HA : Hid (isA L i ↔ (hasC L i [4, 4] = true ∧ led L ((i : Int) + 1) = false)) := hIS
  clear hIS hH hg
  generalize hasC L i [4, 4] = hc at CH HA
  generalize led L ((i : Int) + 1) = ld at CL HA
  go_enter Try.func99, Try.ntmps99
  go_wp2_with fail
  rw [← hW1]
  clear hW1
  refine CH.out.mono ?_
  rintro e w2 ⟨rfl, rfl⟩
  cases hc with
  | false =>
    have hF : Hid (decide (isA L i) = false) := by show _ = _; simp only [decide_eq_false_iff_not]; intro h; have := HA.out.1 h; simp at this
    clear HA CL CD
    go_wp2
    go_ret
    exact .inr ⟨hF.out, rfl, hB1⟩
  | true =>
    go_wp2_with fail
    refine CL.out.mono ?_
    rintro e w3 ⟨rfl, hb3⟩
    have hB3 : Below w.heap.size w w3 := hB1.trans (hb3.mono hB1.size)
    clear hb3
    cases ld with
    | true =>
      have hF : Hid (decide (isA L i) = false) := by show _ = _; simp only [decide_eq_false_iff_not]; intro h; have := HA.out.1 h; simp at this
      clear HA CD
      go_wp2
      go_ret
      exact .inr ⟨hF.out, rfl, hB3⟩
    | false =>
      have hA : isA L i := HA.out.2 (by simp)
      have hF : Hid (decide (isA L i) = true) := by show _ = _; simpa using hA
      have CD2 := CD.out w3 hB3 hA
      have HCD : Hid (Calls Try.prog 129 #[.pointer (some ⟨hb, 0, none⟩), .int .i64 i, .int .i64 2] w3 fun e w' => e = .returned (.tuple #[]) ∧ HOut w3 hb v (cutP L i 2) w') := CD2
      clear HA CD CD2 hA
      go_wp2_with fail
      refine HCD.out.mono ?_
      rintro e w4 ⟨rfl, ho4⟩
      have HO : Hid (HOut w hb v (cutP L i 2) w4) := ho4.from hB3
      clear ho4 HCD
      go_wp2
      go_ret
      exact .inl ⟨hF.out, rfl, HO.out⟩

set_option maxRecDepth 100000 in
set_option maxHeartbeats 8000000 in
theorem leadOn_any (L : List Ins) (i hb : Nat) (v : Value) (w : World) (hH : HSt w hb v L) (hg : gp L = true) (hi : i < L.length) :
    Calls Try.prog 100 #[.pointer (some ⟨hb, 0, none⟩), .int .i64 i] w (RuleOut w hb v (decide (isB L i)) (ledOn L i)) := by
  obtain ⟨h0, h60⟩ := gp_len hg
  obtain ⟨g, cap, rfl, hhg, hgw, hlc, hcm2⟩ := hH.form (by omega)
  have hcm3 : cap ≤ 9223372036854775807 := by unfold maxLen at hcm2; omega
  have HH : Hid (HSt w hb (.slice (some ⟨g, 0, none⟩) L.length cap) L) := hH
  have hci := hH.ins hi
  have hil : (i : Int) < (L.length : Int) := by omega
  have hc0 := hH.2.1
  have hb0 := hH.1
  have hgb : ¬ g = hb := by omega
  obtain ⟨x, hx⟩ : ∃ x, x = ins L i := ⟨_, rfl⟩
  rw [← hx] at hci
  have HX : Hid (x = ins L i) := hx
  clear hx
  obtain ⟨W1, hW1⟩ : ∃ W, W = w.alloc (.cells #[.int .i64 x.code, .int .i64 x.kind, .int .i64 x.no, .int .i64 x.num, .string x.text, .int .i64 x.dst] 76) := ⟨_, rfl⟩
  have hB1 : Below w.heap.size w W1 := by rw [hW1]; exact (Below.refl _ w).alloc (Nat.le_refl _) _
  have hs1 : Hid (W1.heap.size = w.heap.size + 1) := by show _ = _; rw [hW1]; simp
  have hl1 : w.heap.size < W1.heap.size := by rw [hs1.out]; omega
  have x0 : W1.cell? ⟨w.heap.size, 0, none⟩ = some (.int .i64 x.code) := by rw [hW1]; go_simp
  have x3 : W1.cell? ⟨w.heap.size, 3, none⟩ = some (.int .i64 x.num) := by rw [hW1]; go_simp
  have x5 : W1.cell? ⟨w.heap.size, 5, none⟩ = some (.int .i64 x.dst) := by rw [hW1]; go_simp
  have hc1 := (hB1.cell (p := ⟨hb, 0, none⟩) hb0).trans hc0
  have hb1 : hb < W1.heap.size := by omega
  obtain ⟨c0, c1, c2, c3, c4, c5⟩ := hci
  go_enter Try.func100, Try.ntmps100
  go_upto_region 2 with fail
  rw [← hW1]
  clear hW1 c0 c1 c2 c3 c4 c5 hc0
  by_cases h3 : x.code = 3
  · obtain ⟨hj1, hj2, hj3⟩ := gp_jump hg hi (by rw [← HX.out]; exact h3)
    rw [← HX.out] at hj1 hj2 hj3
    obtain ⟨q, hq⟩ : ∃ q : Nat, x.dst = (q : Int) := ⟨x.dst.toNat, by omega⟩
    have hqL : q < L.length := by omega
    have hql : (q : Int) < (L.length : Int) := by omega
    have hcq := (hH.below hB1).ins hqL
    have HBB : Hid (isB L i ↔ ((ins L q).code = 3 ∧ (ins L q).num = x.num)) := by
      show _ ↔ _
      unfold isB
      rw [← HX.out, hq]
      simp [h3]
    have HLO : Hid (ledOn L i = L.set i ⟨x.code, x.kind, x.no, x.num, x.text, (ins L q).dst⟩) := by
      show _ = _
      unfold ledOn
      rw [← HX.out, hq]
      rfl
    have HSET : Hid (∀ W : World, IRow W (hb + 1) (.slice (some ⟨g, 0, none⟩) L.length cap) L → ∀ d : Int, IRow (W.setCell ⟨g, i * 6 + 5, none⟩ (.int .i64 d)) (hb + 1) (.slice (some ⟨g, 0, none⟩) L.length cap) (L.set i ⟨x.code, x.kind, x.no, x.num, x.text, d⟩)) := fun W h d => by
      have := h.dst (k := i) hi d
      rw [← HX.out] at this
      exact this
    have hfr : W1.frozen? ⟨g, i * 6 + 5, none⟩ = false := World.ownsRow.frozenAt (n := L.length) (hH.below hB1).2.2.2 (i * 6 + 5)
    obtain ⟨u5, hu5⟩ : ∃ u, W1.cell? ⟨g, i * 6 + 5, none⟩ = some u := by
      have := ((hH.below hB1).ins hi).2.2.2.2.2
      exact ⟨_, this⟩
    rw [hq] at x5
    rw [h3] at x0
    clear hH hg hj1 hj2
    generalize ins L q = y at hcq HBB HLO
    obtain ⟨yc, yk, yn, ym, yt, yj⟩ := y
    obtain ⟨d0, d1, d2, d3, d4, d5⟩ := hcq
    dsimp only at d0 d1 d2 d3 d4 d5 HBB HLO
    have hg1 : g < W1.heap.size := by omega
    go_wp2_with fail
    go_region
    obtain ⟨V, hV⟩ : ∃ V, V = (W1.alloc (.cells #[.int .i64 yc, .int .i64 yk, .int .i64 yn, .int .i64 ym, .string yt, .int .i64 yj] 76)).drew := ⟨_, rfl⟩
    rw [← hV]
    have hBV : Below w.heap.size w V := by rw [hV]; exact (hB1.alloc hB1.size _).drew
    have hA1 : Below W1.heap.size W1 V := by rw [hV]; exact ((Below.refl _ W1).alloc (Nat.le_refl _) _).drew
    have hlV : W1.heap.size < V.heap.size := by rw [hV]; simp
    have y0 : V.cell? ⟨W1.heap.size, 0, none⟩ = some (.int .i64 yc) := by rw [hV]; go_simp
    have y3 : V.cell? ⟨W1.heap.size, 3, none⟩ = some (.int .i64 ym) := by rw [hV]; go_simp
    have y5 : V.cell? ⟨W1.heap.size, 5, none⟩ = some (.int .i64 yj) := by rw [hV]; go_simp
    have x3 := (hA1.cell (p := ⟨w.heap.size, 3, none⟩) hl1).trans x3
    have hcV := (hA1.cell (p := ⟨hb, 0, none⟩) hb1).trans hc1
    have huV := (hA1.cell (p := ⟨g, i * 6 + 5, none⟩) hg1).trans hu5
    have hfV := (hA1.frozen (p := ⟨g, i * 6 + 5, none⟩) hg1).trans hfr
    have hbV : hb < V.heap.size := by omega
    have hgV : g < V.heap.size := by omega
    have hwV : w.heap.size < V.heap.size := by omega
    clear hV x0 x5 d0 d1 d2 d3 d4 d5 hA1 hu5 hfr hc1
    by_cases hyc : yc = 3
    · subst hyc
      by_cases hym : ym = x.num
      · have hym' : (ym != x.num) = false := by simp [hym]
        have hF : Hid (decide (isB L i) = true) := by show _ = _; simp only [decide_eq_true_eq]; exact HBB.out.2 ⟨rfl, hym⟩
        have HHV := HH.out.below hBV
        have HE : Hid (∀ n, HOut w hb (.slice (some ⟨g, 0, none⟩) L.length cap) (ledOn L i) ((V.setCell ⟨g, i * 6 + 5, none⟩ (.int .i64 yj)).drewN n)) := fun n => by
          obtain ⟨a1, a2, a3, a4⟩ := HHV
          refine ⟨.slice (some ⟨g, 0, none⟩) L.length cap, ⟨by simp; omega, ?_, ?_, ?_⟩, hBV.os, hBV.tape, hBV.output, by have := hBV.size; simp; omega, fun j hj hc hv => ?_, fun g' hg' => .inl hg'⟩
          · show (V.setCell ⟨g, i * 6 + 5, none⟩ (.int .i64 yj)).cell? ⟨hb, 0, none⟩ = _
            rw [World.cell?_setCell_other _ _ _ _ (by simp <;> omega)]; exact a2
          · show (V.setCell ⟨g, i * 6 + 5, none⟩ (.int .i64 yj)).frozen? ⟨hb, 0, none⟩ = _
            rw [World.frozen?_setCell]; exact a3
          · rw [HLO.out]; exact HSET.out V a4 yj
          · show (V.setCell ⟨g, i * 6 + 5, none⟩ (.int .i64 yj)).heap[j]? = _
            rw [Below.heap_setCell _ _ _ _ (fun e => hv (by rw [e]; rfl))]
            exact hBV.block j hj
        clear HBB HLO HSET HHV hym
        go_wp2_with fail
        go_region
        go_wp2
        go_ret
        exact .inl ⟨hF.out, rfl, by first | exact HE.out 1 | exact HE.out 0 | exact HE.out _⟩
      · have hym' : (ym != x.num) = true := by simp [hym]
        have hF : Hid (decide (isB L i) = false) := by show _ = _; simp only [decide_eq_false_iff_not]; intro h; exact hym (HBB.out.1 h).2
        clear HBB HLO HSET hym
        go_wp2
        go_ret
        exact .inr ⟨hF.out, rfl, hBV⟩
    · have hyc' : (yc != 3) = true := by simp [hyc]
      have hF : Hid (decide (isB L i) = false) := by show _ = _; simp only [decide_eq_false_iff_not]; intro h; exact hyc (HBB.out.1 h).1
      clear HBB HLO HSET hyc
      go_wp2
      go_ret
      exact .inr ⟨hF.out, rfl, hBV⟩
  · have h3' : (x.code != 3) = true := by simp [h3]
    have hF : Hid (decide (isB L i) = false) := by show _ = _; simp only [decide_eq_false_iff_not]; intro h; exact h3 (by rw [HX.out]; exact h.1)
    clear hH hg h3
    go_wp2
    go_ret
    exact .inr ⟨hF.out, rfl, hB1⟩

end Go.Proofs.Ytpopjapcgcnnfaa
