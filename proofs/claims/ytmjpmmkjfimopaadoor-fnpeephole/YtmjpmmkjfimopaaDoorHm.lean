/- The model's l8Better. The model's l8Better at a seek; the model's l8Better and PeepholeOf. -/
import Derived.Test.YtmjpmmkjfimopaaDoorHn
import Derived.Test.YtmjpmmkjfimopaaDoorPiB
import Derived.BigQuiet
namespace Go.Proofs.YtmjpmmkjfimopaaDoor
open Go.RowKit Plain Sch Wan Prg

attribute [local go_sem ↓] eqlI

theorem bd1 {B : Nat} {w w' : World} (h : Below B w w') (n : Nat) : Below B w (w'.drewN n) := ⟨h.os, h.tape, h.output, h.size, h.block⟩
theorem bd2 {B : Nat} {w w' : World} (h : Below B w w') (n k : Nat) : Below B w ((w'.drewN n).drewN k) := bd1 (bd1 h n) k

theorem onesI (T : List Ins) : ∀ u ∈ T.flatMap Ins.cells, u.oneCell' = true := by
  intro u hu
  rw [List.mem_flatMap] at hu
  obtain ⟨x, _, hx⟩ := hu
  exact one6I x.code x.kind x.no x.num x.text x.dst u hx

/-- what l8Better tells -/
def BetOut (w : World) (R : Option (List Ins)) (e : Ending) (w' : World) : Prop :=
  (∀ U, R = some U → ∃ v', e = .returned (.tuple #[v', .bool true]) ∧ IRow w' w.heap.size v' U) ∧ (R = none → e = .returned (.tuple #[.slice none 0 0, .bool false])) ∧ Below w.heap.size w w'

theorem BetOut.mkS {w w' : World} {R : Option (List Ins)} {U : List Ins} {v' : Value} (hF : R = some U) (hr : IRow w' w.heap.size v' U) (hb : Below w.heap.size w w') : BetOut w R (.returned (.tuple #[v', .bool true])) w' :=
  ⟨fun V hV => (by rw [hF] at hV; cases hV; exact ⟨v', rfl, hr⟩), fun hV => (by rw [hF] at hV; cases hV), hb⟩
theorem BetOut.mkN {w w' : World} {R : Option (List Ins)} (hF : R = none) (hb : Below w.heap.size w w') : BetOut w R (.returned (.tuple #[.slice none 0 0, .bool false])) w' :=
  ⟨fun V hV => (by rw [hF] at hV; cases hV), fun _ => rfl, hb⟩

theorem okI_seek {x : Ins} {i : Nat} {last : Int} (h : okI x i last = true) (hc : x.code = 1) : x = ⟨1, 0, x.no, 0, ⟨#[]⟩, 0⟩ := by
  unfold okI at h
  rw [if_pos hc] at h
  simp only [Bool.and_eq_true, decide_eq_true_eq] at h
  have := h.2
  rw [hc] at this
  exact this

theorem seek_same {x y : Ins} {i j : Nat} {last : Int} (hx : okI x i last = true) (hy : okI y j last = true) (hc : x.code = 1) : ieq y x = (decide (y.code = 1) && decide (y.no = x.no)) := by
  have e1 := okI_seek hx hc
  unfold ieq
  by_cases h1 : y.code = 1
  · have e2 := okI_seek hy h1
    by_cases h2 : y.no = x.no
    · have : y = x := by rw [e2, e1, h2]
      simp [this, hc]
    · have : ¬ y = x := fun e => h2 (by rw [e])
      simp [this, h2]
  · have : ¬ y = x := fun e => h1 (by rw [e]; exact hc)
    simp [this, h1]

set_option maxRecDepth 100000 in
set_option maxHeartbeats 8000000 in
/-- where it is a flip -/
theorem l8Better_flip (T : List Ins) (v : Value) (i : Nat) (w : World) (hT : InsAt w w.heap.size v T) (hg : gp T = true) (hi : i < T.length) (hc : (ins T i).code = 4) :
    Calls Tryd.prog 37 #[v, .int .i64 i] w (BetOut w (bet T i)) := by
  obtain ⟨h0, h60⟩ := gp_len hg
  have hi1 := gp_next hg hi (by omega)
  have hnB : ¬ isB T i := fun h => by have := h.1; omega
  have hnC : ¬ isC T i := fun h => by have := h.1; omega
  obtain ⟨R, hR⟩ : ∃ R, R = bet T i := ⟨_, rfl⟩
  rw [← hR]
  have HR : Hid (R = if isA T i then some (cutP T i 2) else none) := by show R = _; rw [hR]; unfold bet; rw [if_neg hnB, if_neg hnC]
  clear hR hnB hnC
  have HT : Hid (InsAt w w.heap.size v T) := hT
  obtain ⟨ao, cap, rfl, hlc, hcm, hrow, _⟩ := hT
  unfold maxLen at hcm
  obtain ⟨g, o, rfl, hgw, hty⟩ := hrow i hi
  obtain ⟨g', o', hao, _, hty1⟩ := hrow (i + 1) hi1
  simp only [Option.some.injEq, Addr.mk.injEq, and_true] at hao
  obtain ⟨rfl, rfl⟩ := hao
  have hil : (i : Int) < (T.length : Int) := by omega
  have hil1 : (i : Int) + 1 < (T.length : Int) := by omega
  have CL : Hid (∀ W : World, Below w.heap.size w W → Calls Tryd.prog 67 #[.slice (some ⟨g, o, none⟩) T.length cap, .int .i64 ((i : Int) + 1)] W fun e w' => e = .returned (.bool (led T ((i : Int) + 1))) ∧ Below W.heap.size W w') := fun W hW => l8Led_any T _ _ W (HT.out.below hW) h60
  have CC : Hid (∀ W : World, Below w.heap.size w W → led T ((i : Int) + 1) = false → (ins T (i + 1)).code = 4 → Calls Tryd.prog 68 #[.slice (some ⟨g, o, none⟩) T.length cap, .int .i64 i, .int .i64 2] W fun e w' => ∃ v', e = .returned v' ∧ IRow w' W.heap.size v' (cutP T i 2) ∧ Below W.heap.size W w') := fun W hW hled hc1 => by
    have hi2 := gp_next hg hi1 (by omega)
    exact l8Cut_any T _ i 2 W (HT.out.below hW) h60 (by omega) (fun j hj hjc => by obtain ⟨a, b, _⟩ := gp_jump hg hj hjc; omega) (fun j hj hjc hto => by have := led_no hled hj hjc; omega)
  have hA1 : Hid (isA T i ↔ ((ins T (i + 1)).code = 4 ∧ led T ((i : Int) + 1) = false)) := ⟨fun h => ⟨h.2.2.1, h.2.2.2⟩, fun h => ⟨hc, hi1, h.1, h.2⟩⟩
  clear hrow hg
  generalize led T ((i : Int) + 1) = ld at CL CC hA1
  obtain ⟨y0, _, _, _, _, _⟩ := hty1
  generalize (ins T (i + 1)).code = cn at y0 CC hA1
  generalize ins T i = x at hty hc
  obtain ⟨c, k, n, m, t, jt⟩ := x
  dsimp only at hc
  subst hc
  obtain ⟨c0, c1, c2, c3, c4, c5⟩ := hty
  dsimp only at c0 c1 c2 c3 c4 c5
  obtain ⟨W3, hW3⟩ : ∃ W, W = w.alloc (.cells #[.int .i64 4, .int .i64 k, .int .i64 n, .int .i64 m, .string t, .int .i64 jt] 59) := ⟨_, rfl⟩
  have hB3 : Below w.heap.size w W3 := by rw [hW3]; exact (Below.refl _ w).alloc (Nat.le_refl _) _
  have hl3 : w.heap.size < W3.heap.size := by rw [hW3]; simp
  have x0 : W3.cell? ⟨w.heap.size, 0, none⟩ = some (.int .i64 4) := by rw [hW3]; go_simp
  have y0 := (hB3.cell (p := ⟨g, o + (i + 1) * 6, none⟩) hgw).trans y0
  have hgw3 : g < W3.heap.size := by omega
  go_enter Tryd.func37, Tryd.ntmps37
  go_upto_region 3 with fail
  rw [← hW3]
  clear hW3 c0 c1 c2 c3 c4 c5
  by_cases hcn : cn = 4
  · subst hcn
    go_wp2_with fail
    refine (CL.out _ hB3).mono ?_
    rintro e w4 ⟨rfl, hb4⟩
    have hB4 : Below w.heap.size w w4 := hB3.trans (hb4.mono (by omega))
    have x0 := (hb4.cell (p := ⟨w.heap.size, 0, none⟩) hl3).trans x0
    have hl4 : w.heap.size < w4.heap.size := by have := hb4.size; omega
    clear hb4
    cases ld with
    | false =>
      have hF : Hid (R = some (cutP T i 2)) := by show R = _; rw [HR.out, if_pos (hA1.out.2 (by simp))]
      clear HR
      go_wp2_with fail
      refine (CC.out _ hB4 (by first | rfl | trivial) (by first | rfl | trivial)).mono ?_
      rintro e w5 ⟨v5, rfl, hr5, hb5⟩
      have hB5 : Below w.heap.size w w5 := hB4.trans (hb5.mono hB4.size)
      have HR5 : Hid (IRow w5 w.heap.size v5 (cutP T i 2)) := hr5.lower hB4.size
      clear hb5 hr5
      go_wp2
      go_ret2
      exact BetOut.mkS hF.out HR5.out hB5
    | true =>
      have hF : Hid (R = none) := by show R = _; rw [HR.out, if_neg (fun h => by have := hA1.out.1 h; simp at this)]
      clear HR
      go_wp2_with fail
      go_quiet (fail)
      go_wp2_with fail
      go_quiet (fail)
      go_wp2
      go_ret2
      exact BetOut.mkN hF.out (bd2 hB4 _ _)
  · have hcn' : (cn == 4) = false := by simp [hcn]
    have hF : Hid (R = none) := by show R = _; rw [HR.out, if_neg (fun h => hcn (hA1.out.1 h).1)]
    clear HR
    go_wp2_with fail
    go_quiet (fail)
    go_wp2_with fail
    go_quiet (fail)
    go_wp2
    go_ret2
    exact BetOut.mkN hF.out (bd2 hB3 _ _)

set_option maxRecDepth 100000 in
set_option maxHeartbeats 4000000 in
/-- where it is a test or the end -/
theorem l8Better_else (T : List Ins) (v : Value) (i : Nat) (w : World) (hT : InsAt w w.heap.size v T) (hg : gp T = true) (hi : i < T.length) (hc : (ins T i).code = 2 ∨ (ins T i).code = 5) :
    Calls Tryd.prog 37 #[v, .int .i64 i] w (BetOut w (bet T i)) := by
  have hl60 := gp_len hg
  have hF : Hid (bet T i = none) := by
    show bet T i = none
    unfold bet
    rw [if_neg (fun h => by have := h.1; omega), if_neg (fun h => by have := h.1; omega), if_neg (fun h => by have := h.1; omega)]
  generalize bet T i = R at hF
  obtain ⟨ao, cap, rfl, hlc, hcm, hrow, _⟩ := hT
  unfold maxLen at hcm
  obtain ⟨g, o, rfl, hgw, hty⟩ := hrow i hi
  have hil : (i : Int) < (T.length : Int) := by omega
  clear hrow hg
  generalize ins T i = x at hty hc
  obtain ⟨c, k, n, m, t, jt⟩ := x
  obtain ⟨c0, c1, c2, c3, c4, c5⟩ := hty
  dsimp only at c0 c1 c2 c3 c4 c5 hc
  have hB3 : ∀ o, Below w.heap.size w (w.alloc o) := fun o => (Below.refl _ w).alloc (Nat.le_refl _) o
  rcases hc with rfl | rfl
  all_goals
    go_enter Tryd.func37, Tryd.ntmps37
    go_wp2_with fail
    go_quiet (fail)
    go_wp2_with fail
    go_quiet (fail)
    go_wp2
    go_ret2
    exact BetOut.mkN hF.out (bd2 (hB3 _) _ _)

set_option maxRecDepth 100000 in
set_option maxHeartbeats 8000000 in
/-- where it is a jump -/
theorem l8Better_jump (T : List Ins) (v : Value) (i : Nat) (w : World) (hT : InsAt w w.heap.size v T) (hg : gp T = true) (hi : i < T.length) (hc : (ins T i).code = 3) :
    Calls Tryd.prog 37 #[v, .int .i64 i] w (BetOut w (bet T i)) := by
  obtain ⟨i0, hi0, hz0, hz1, hz2⟩ := info_parts Tryd.infoIns
  obtain ⟨h0, h60⟩ := gp_len hg
  obtain ⟨hj1, hj2, hj3⟩ := gp_jump hg hi hc
  obtain ⟨q, hq⟩ : ∃ q : Nat, (ins T i).dst = (q : Int) := ⟨(ins T i).dst.toNat, by omega⟩
  have hqT : q < T.length := by omega
  have hnA : ¬ isA T i := fun h => by have := h.1; omega
  have hnC : ¬ isC T i := fun h => by have := h.1; omega
  obtain ⟨R, hR⟩ : ∃ R, R = bet T i := ⟨_, rfl⟩
  rw [← hR]
  have HR : Hid (R = if ((ins T q).code = 3 ∧ (ins T q).num = (ins T i).num) then some (T.set i ⟨(ins T i).code, (ins T i).kind, (ins T i).no, (ins T i).num, (ins T i).text, (ins T q).dst⟩) else none) := by
    show R = _
    have hBB : isB T i ↔ ((ins T q).code = 3 ∧ (ins T q).num = (ins T i).num) := by
      unfold isB
      rw [hq]
      simp [hc]
    rw [hR]
    unfold bet
    rw [if_neg hnA, if_neg hnC]
    by_cases hb : isB T i
    · rw [if_pos hb, if_pos (hBB.1 hb)]
      unfold ledOn
      rw [hq]
      rfl
    · rw [if_neg hb, if_neg (fun h => hb (hBB.2 h))]
  clear hR hnA hnC
  obtain ⟨ao, cap, rfl, hlc, hcm, hrow, _⟩ := hT
  have HNEW : Hid (∀ W : World, Below w.heap.size w W → ∃ g o, ao = some ⟨g, o, none⟩ ∧ ∀ j u, (T.flatMap Ins.cells)[j]? = some u → W.cell? ((⟨g, o, none⟩ : Addr).add j) = some u) := fun W hW => by
    obtain ⟨g, o, ha, _, _⟩ := hrow 0 (by omega)
    refine ⟨g, o, ha, fun j u hju => ?_⟩
    have hjl : j < T.length * 6 := by have := (List.getElem?_eq_some_iff.1 hju).1; rw [flat6Ins_len] at this; exact this
    obtain ⟨g', o', ha', hg', hc'⟩ := hrow (j / 6) (by omega)
    rw [ha] at ha'
    simp only [Option.some.injEq, Addr.mk.injEq, and_true] at ha'
    obtain ⟨rfl, rfl⟩ := ha'
    have hcc := hc'.below hW hg'
    have e : j = j / 6 * 6 + j % 6 := by omega
    have hf := flat6Ins T (j / 6) (j % 6) (by omega) (by omega)
    rw [← e] at hf
    rw [hf] at hju
    have ha2 : ((⟨g, o, none⟩ : Addr).add j) = ⟨g, o + (j / 6) * 6 + j % 6, none⟩ := by
      unfold Addr.add
      by_cases hj0 : j = 0
      · rw [if_pos hj0, hj0]
        rfl
      · rw [if_neg hj0]
        show (⟨g, o + j, none⟩ : Addr) = _
        congr 1
        omega
    rw [ha2]
    obtain ⟨k0, k1, k2, k3, k4, k5⟩ := hcc
    have hm : j % 6 < 6 := Nat.mod_lt _ (by omega)
    generalize j % 6 = r at hju hm ⊢
    match r, hm with
    | 0, _ => rw [← hju]; exact k0
    | 1, _ => rw [← hju]; exact k1
    | 2, _ => rw [← hju]; exact k2
    | 3, _ => rw [← hju]; exact k3
    | 4, _ => rw [← hju]; exact k4
    | 5, _ => rw [← hju]; exact k5
    | n + 6, h => exact absurd h (by omega)
  unfold maxLen at hcm
  obtain ⟨g, o, rfl, hgw, hty⟩ := hrow i hi
  obtain ⟨g', o', hao, _, htyq⟩ := hrow q hqT
  simp only [Option.some.injEq, Addr.mk.injEq, and_true] at hao
  obtain ⟨rfl, rfl⟩ := hao
  have hil : (i : Int) < (T.length : Int) := by omega
  have hql : (q : Int) < (T.length : Int) := by omega
  have HLT : Hid (T.length ≤ 60) := h60
  have HSET : Hid (∀ (w9 : World) (g9 cap9 : Nat), w9.ownsRow w.heap.size 59 6 (.slice (some ⟨g9, 0, none⟩) T.length cap9) T.length (T.flatMap Ins.cells) → IRow (w9.setCell ⟨g9, i * 6 + 5, none⟩ (.int .i64 (ins T q).dst)) w.heap.size (.slice (some ⟨g9, 0, none⟩) T.length cap9) (T.set i ⟨(ins T i).code, (ins T i).kind, (ins T i).no, (ins T i).num, (ins T i).text, (ins T q).dst⟩)) := fun w9 g9 cap9 h => IRow.dst (L := T) h hi _
  clear hrow hg
  obtain ⟨D, hD⟩ : ∃ D, D = T.set i ⟨(ins T i).code, (ins T i).kind, (ins T i).no, (ins T i).num, (ins T i).text, (ins T q).dst⟩ := ⟨_, rfl⟩
  rw [← hD] at HR HSET
  clear hD
  generalize ins T q = y at htyq HR HSET
  generalize ins T i = x at hty hc hq HR hj3
  obtain ⟨c, k, n, m, t, jt⟩ := x
  obtain ⟨yc, yk, yn, ym, yt, yj⟩ := y
  dsimp only at hc hq HR HSET hj3
  subst hc hq
  obtain ⟨c0, c1, c2, c3, c4, c5⟩ := hty
  obtain ⟨d0, d1, d2, d3, d4, d5⟩ := htyq
  dsimp only at c0 c1 c2 c3 c4 c5 d0 d3 d5
  obtain ⟨W3, hW3⟩ : ∃ W, W = w.alloc (.cells #[.int .i64 3, .int .i64 k, .int .i64 n, .int .i64 m, .string t, .int .i64 (q : Int)] 59) := ⟨_, rfl⟩
  have hB3 : Below w.heap.size w W3 := by rw [hW3]; exact (Below.refl _ w).alloc (Nat.le_refl _) _
  have hl3 : w.heap.size < W3.heap.size := by rw [hW3]; simp
  have x0 : W3.cell? ⟨w.heap.size, 0, none⟩ = some (.int .i64 3) := by rw [hW3]; go_simp
  have x3 : W3.cell? ⟨w.heap.size, 3, none⟩ = some (.int .i64 m) := by rw [hW3]; go_simp
  have x5 : W3.cell? ⟨w.heap.size, 5, none⟩ = some (.int .i64 (q : Int)) := by rw [hW3]; go_simp
  have d0 := (hB3.cell (p := ⟨g, o + q * 6, none⟩) hgw).trans d0
  have d3 := (hB3.cell (p := ⟨g, o + q * 6 + 3, none⟩) hgw).trans d3
  have d5 := (hB3.cell (p := ⟨g, o + q * 6 + 5, none⟩) hgw).trans d5
  have hgw3 : g < W3.heap.size := by omega
  go_enter Tryd.func37, Tryd.ntmps37
  go_upto_region 3 with fail
  rw [← hW3]
  clear hW3 c0 c1 c2 c3 c4 c5 d1 d2 d4
  by_cases h3 : yc = 3
  · subst h3
    by_cases hm : ym = m
    · subst hm
      have hF : Hid (R = some D) := by show R = _; rw [HR.out, if_pos ⟨rfl, rfl⟩]
      clear HR
      go_wp2_with fail
      go_quiet (fail)
      obtain ⟨V, hV⟩ : ∃ V, V = W3.drewN nq := ⟨_, rfl⟩
      rw [← hV]
      have hBV : Below w.heap.size w V := by rw [hV]; exact bd1 hB3 _
      have hlV : w.heap.size < V.heap.size := by rw [hV]; exact hl3
      have x5 : V.cell? ⟨w.heap.size, 5, none⟩ = some (.int .i64 (q : Int)) := by rw [hV]; exact x5
      have d5 : V.cell? ⟨g, o + q * 6 + 5, none⟩ = some (.int .i64 yj) := by rw [hV]; exact d5
      clear hV x0 x3 d0 d3
      obtain ⟨gg, oo, hgo, hnw⟩ := HNEW.out (V.alloc (.cells #[] 59)) (hBV.alloc hBV.size _)
      simp only [Option.some.injEq, Addr.mk.injEq, and_true] at hgo
      obtain ⟨rfl, rfl⟩ := hgo
      have HNW : Hid (∀ j u, (T.flatMap Ins.cells)[j]? = some u → (V.alloc (.cells #[] 59)).cell? ((⟨g, o, none⟩ : Addr).add j) = some u) := hnw
      have h60n : T.length ≤ 60 := HLT.out
      clear hnw HNEW
      go_wp2_with (at_builtin; refine wpList_append_lies _ rfl _ _ 28 rfl w.heap.size 59 i0 (.agg #[.int .i64 0, .int .i64 0, .int .i64 0, .int .i64 0, .string ⟨#[]⟩, .int .i64 0]) 6 56 Tryd.underlying28 hi0 hz0 hz1 hz2 rfl (by decide) _ 0 [] rfl (World.ownsRow_made V #[] 0 (by omega) (by unfold maxLen; omega) rfl) ⟨g, o, none⟩ T.length cap (T.flatMap Ins.cells) rfl (flat6Ins_len T) HNW.out (onesI T) (by omega) (by unfold maxLen; omega) (by omega) (by simp; omega) (V.heap.size + 1) (by simp) ?_)
      intro g9 cap9 w9 hown9 hgrow9 hat9 hlt9
      (try simp only [Nat.zero_add, List.nil_append] at hown9)
      (try simp only [Nat.zero_add])
      have hg9 : V.heap.size ≤ g9 := by
        rcases hat9 with h | h
        · simp [Value.ownBlock] at h; omega
        · omega
      have hs9 : V.heap.size + 1 ≤ w9.heap.size := by have := hgrow9.size; simpa using this
      have hB9 : Below V.heap.size V w9 := ⟨hgrow9.os, hgrow9.tape, hgrow9.output, by omega, fun j hj => (hgrow9.block j (by simp; omega) (by simp [Value.ownBlock]; omega)).trans (Below.heap_alloc _ _ _ hj)⟩
      have x5 := (hB9.cell (p := ⟨w.heap.size, 5, none⟩) hlV).trans x5
      have d5 := (hB9.cell (p := ⟨g, o + q * 6 + 5, none⟩) (by show g < _; omega)).trans d5
      have hBw9 : Below w.heap.size w w9 := hBV.trans (hB9.mono hBV.size)
      have HS9 : Hid (IRow (w9.setCell ⟨g9, i * 6 + 5, none⟩ (.int .i64 yj)) w.heap.size (.slice (some ⟨g9, 0, none⟩) T.length cap9) D) := HSET.out w9 g9 cap9 hown9
      have hcap9 : T.length ≤ cap9 ∧ cap9 ≤ 9223372036854775807 := by
        rcases hown9.2 with ⟨h, _⟩ | ⟨g', cap', _, hv, _, _, h1, h2, _⟩
        · simp at h
        · simp at hv; unfold maxLen at h2; omega
      obtain ⟨u9, hu9⟩ : ∃ u, w9.cell? ⟨g9, i * 6 + 5, none⟩ = some u := by
        rw [World.ownsRow.cellAt hown9 (i * 6 + 5) (by omega)]
        exact ⟨_, List.getElem?_eq_getElem (by rw [flat6Ins_len]; omega)⟩
      have hf9 := World.ownsRow.frozenAt hown9 (i * 6 + 5)
      have HBE : Hid (Below w.heap.size w (w9.setCell ⟨g9, i * 6 + 5, none⟩ (.int .i64 yj))) := hBw9.setCell (p := ⟨g9, i * 6 + 5, none⟩) (by show w.heap.size ≤ g9; omega) _
      clear hown9 hgrow9 hat9 hB9
      go_wp2
      go_ret2
      exact BetOut.mkS hF.out HS9.out HBE.out
    · have hm' : (ym == m) = false := by simp [hm]
      have hF : Hid (R = none) := by show R = _; rw [HR.out, if_neg (fun h => hm h.2)]
      clear HR hm
      go_wp2_with fail
      go_quiet (fail)
      go_wp2_with fail
      go_quiet (fail)
      go_wp2
      go_ret2
      exact BetOut.mkN hF.out (bd2 hB3 _ _)
  · have h3' : (yc == 3) = false := by simp [h3]
    have hF : Hid (R = none) := by show R = _; rw [HR.out, if_neg (fun h => h3 h.1)]
    clear HR h3
    go_wp2_with fail
    go_quiet (fail)
    go_wp2_with fail
    go_quiet (fail)
    go_wp2
    go_ret2
    exact BetOut.mkN hF.out (bd2 hB3 _ _)

end Go.Proofs.YtmjpmmkjfimopaaDoor

namespace Go.Proofs.YtmjpmmkjfimopaaDoor
open Go.RowKit Plain Sch Wan Prg

attribute [local go_sem ↓] eqlI

set_option maxRecDepth 100000 in
set_option maxHeartbeats 8000000 in
/-- where it is a seek -/
theorem l8Better_seek (T : List Ins) (v : Value) (i : Nat) (w : World) (hT : InsAt w w.heap.size v T) (hg : gp T = true) (hi : i < T.length) (hc : (ins T i).code = 1) :
    Calls Tryd.prog 37 #[v, .int .i64 i] w (BetOut w (bet T i)) := by
  obtain ⟨h0, h60⟩ := gp_len hg
  have hi1 := gp_next hg hi (by omega)
  have hnA : ¬ isA T i := fun h => by have := h.1; omega
  have hnB : ¬ isB T i := fun h => by have := h.1; omega
  obtain ⟨R, hR⟩ : ∃ R, R = bet T i := ⟨_, rfl⟩
  rw [← hR]
  have HR : Hid (R = if isC T i then some (cutP T (i + 2) 1) else none) := by show R = _; rw [hR]; unfold bet; rw [if_neg hnA, if_neg hnB]
  clear hR hnA hnB
  have HT : Hid (InsAt w w.heap.size v T) := hT
  obtain ⟨ao, cap, rfl, hlc, hcm, hrow, _⟩ := hT
  unfold maxLen at hcm
  obtain ⟨g, o, rfl, hgw, hty⟩ := hrow i hi
  obtain ⟨g', o', hao, _, hty1⟩ := hrow (i + 1) hi1
  simp only [Option.some.injEq, Addr.mk.injEq, and_true] at hao
  obtain ⟨rfl, rfl⟩ := hao
  have hil : (i : Int) < (T.length : Int) := by omega
  have hil1 : (i : Int) + 1 < (T.length : Int) := by omega
  have hB3 : ∀ o, Below w.heap.size w (w.alloc o) := fun o => (Below.refl _ w).alloc (Nat.le_refl _) o
  by_cases hi2 : i + 2 < T.length
  · have hil2 : (i : Int) + 2 < (T.length : Int) := by omega
    obtain ⟨g', o', hao, _, hty2⟩ := hrow (i + 2) hi2
    simp only [Option.some.injEq, Addr.mk.injEq, and_true] at hao
    obtain ⟨rfl, rfl⟩ := hao
    have CL : Hid (∀ (q : Int) (W : World), Below w.heap.size w W → Calls Tryd.prog 67 #[.slice (some ⟨g, o, none⟩) T.length cap, .int .i64 q] W fun e w' => e = .returned (.bool (led T q)) ∧ Below W.heap.size W w') := fun q W hW => l8Led_any T _ _ W (HT.out.below hW) h60
    have CC : Hid (∀ W : World, Below w.heap.size w W → (ins T (i + 2)).code = 1 → Calls Tryd.prog 68 #[.slice (some ⟨g, o, none⟩) T.length cap, .int .i64 ((i : Int) + 2), .int .i64 1] W fun e w' => ∃ v', e = .returned v' ∧ IRow w' W.heap.size v' (cutP T (i + 2) 1) ∧ Below W.heap.size W w') := fun W hW hc2 => by
      have hi3 := gp_next hg hi2 (by omega)
      have := l8Cut_any T _ (i + 2) 1 W (HT.out.below hW) h60 (by omega) (fun j hj hjc => by obtain ⟨a, b, _⟩ := gp_jump hg hj hjc; omega) (fun j hj hjc hto => by omega)
      simpa using this
    have hEQ := seek_same (okP_ok (gp_ok hg i hi)) (okP_ok (gp_ok hg (i + 2) hi2)) hc
    have hC1 : Hid (isC T i ↔ ((ins T (i + 1)).code = 2 ∧ ieq (ins T (i + 2)) (ins T i) = true ∧ led T ((i : Int) + 1) = false ∧ led T ((i : Int) + 2) = false)) := by
      show _ ↔ _
      rw [hEQ]
      unfold isC
      simp only [Bool.and_eq_true, decide_eq_true_eq]
      exact ⟨fun h => ⟨h.2.2.1, ⟨h.2.2.2.1, h.2.2.2.2.1⟩, h.2.2.2.2.2.1, h.2.2.2.2.2.2⟩, fun h => ⟨hc, hi2, h.1, h.2.1.1, h.2.1.2, h.2.2.1, h.2.2.2⟩⟩
    have hC2 : Hid (ieq (ins T (i + 2)) (ins T i) = true → (ins T (i + 2)).code = 1) := fun h => by
      rw [hEQ] at h
      simp only [Bool.and_eq_true, decide_eq_true_eq] at h
      exact h.1
    clear hrow hg hEQ
    have CL1 := CL.out ((i : Int) + 1)
    have CL2 := CL.out ((i : Int) + 2)
    clear CL
    generalize led T ((i : Int) + 1) = l1 at CL1 hC1
    generalize led T ((i : Int) + 2) = l2 at CL2 hC1
    have HCL1 : Hid (∀ W : World, Below w.heap.size w W → Calls Tryd.prog 67 #[.slice (some ⟨g, o, none⟩) T.length cap, .int .i64 ((i : Int) + 1)] W fun e w' => e = .returned (.bool l1) ∧ Below W.heap.size W w') := CL1
    have HCL2 : Hid (∀ W : World, Below w.heap.size w W → Calls Tryd.prog 67 #[.slice (some ⟨g, o, none⟩) T.length cap, .int .i64 ((i : Int) + 2)] W fun e w' => e = .returned (.bool l2) ∧ Below W.heap.size W w') := CL2
    clear CL1 CL2
    obtain ⟨y0, _, _, _, _, _⟩ := hty1
    generalize (ins T (i + 1)).code = cn at y0 hC1
    generalize ins T i = x at hty hc hC1 hC2
    generalize ins T (i + 2) = z at hty2 CC hC1 hC2
    obtain ⟨c, k, n, m, t, jt⟩ := x
    obtain ⟨zc, zk, zn, zm, zt, zj⟩ := z
    dsimp only at hc hC1 hC2 CC
    subst hc
    obtain ⟨c0, c1, c2, c3, c4, c5⟩ := hty
    obtain ⟨z0, z1, z2, z3, z4, z5⟩ := hty2
    dsimp only at c0 c1 c2 c3 c4 c5 z0 z1 z2 z3 z4 z5
    obtain ⟨W3, hW3⟩ : ∃ W, W = w.alloc (.cells #[.int .i64 1, .int .i64 k, .int .i64 n, .int .i64 m, .string t, .int .i64 jt] 59) := ⟨_, rfl⟩
    have hB3 : Below w.heap.size w W3 := by rw [hW3]; exact (Below.refl _ w).alloc (Nat.le_refl _) _
    have hl3 : w.heap.size < W3.heap.size := by rw [hW3]; simp
    have x0 : W3.cell? ⟨w.heap.size, 0, none⟩ = some (.int .i64 1) := by rw [hW3]; go_simp
    have x1 : W3.cell? ⟨w.heap.size, 1, none⟩ = some (.int .i64 k) := by rw [hW3]; go_simp
    have x2 : W3.cell? ⟨w.heap.size, 2, none⟩ = some (.int .i64 n) := by rw [hW3]; go_simp
    have x3 : W3.cell? ⟨w.heap.size, 3, none⟩ = some (.int .i64 m) := by rw [hW3]; go_simp
    have x4 : W3.cell? ⟨w.heap.size, 4, none⟩ = some (.string t) := by rw [hW3]; go_simp
    have x5 : W3.cell? ⟨w.heap.size, 5, none⟩ = some (.int .i64 jt) := by rw [hW3]; go_simp
    have y0 := (hB3.cell (p := ⟨g, o + (i + 1) * 6, none⟩) hgw).trans y0
    have z0 := (hB3.cell (p := ⟨g, o + (i + 2) * 6, none⟩) hgw).trans z0
    have z1 := (hB3.cell (p := ⟨g, o + (i + 2) * 6 + 1, none⟩) hgw).trans z1
    have z2 := (hB3.cell (p := ⟨g, o + (i + 2) * 6 + 2, none⟩) hgw).trans z2
    have z3 := (hB3.cell (p := ⟨g, o + (i + 2) * 6 + 3, none⟩) hgw).trans z3
    have z4 := (hB3.cell (p := ⟨g, o + (i + 2) * 6 + 4, none⟩) hgw).trans z4
    have z5 := (hB3.cell (p := ⟨g, o + (i + 2) * 6 + 5, none⟩) hgw).trans z5
    have hgw3 : g < W3.heap.size := by omega
    go_enter Tryd.func37, Tryd.ntmps37
    go_upto_region 3 with fail
    rw [← hW3]
    clear hW3 c0 c1 c2 c3 c4 c5
    by_cases hcn : cn = 2
    · subst hcn
      cases hie : ieq ⟨zc, zk, zn, zm, zt, zj⟩ ⟨1, k, n, m, t, jt⟩ with
      | true =>
        have hz1 : zc = 1 := hC2.out hie
        have HCC : Hid (∀ W : World, Below w.heap.size w W → Calls Tryd.prog 68 #[.slice (some ⟨g, o, none⟩) T.length cap, .int .i64 ((i : Int) + 2), .int .i64 1] W fun e w' => ∃ v', e = .returned v' ∧ IRow w' W.heap.size v' (cutP T (i + 2) 1) ∧ Below W.heap.size W w') := fun W hW => CC.out W hW hz1
        have hC3 : Hid (isC T i ↔ (l1 = false ∧ l2 = false)) := hC1.out.trans ⟨fun h => h.2.2, fun h => ⟨rfl, hie, h⟩⟩
        clear hC1 hC2 CC hz1
        go_wp2_with fail
        go_quiet (fail)
        obtain ⟨V, hV⟩ : ∃ V, V = W3.drewN nq := ⟨_, rfl⟩
        rw [← hV]
        have hBV : Below w.heap.size w V := by rw [hV]; exact bd1 hB3 _
        have hlV : w.heap.size < V.heap.size := by rw [hV]; exact hl3
        have s0 : V.cell? ⟨w.heap.size, 0, none⟩ = some (.int .i64 1) ∧ V.cell? ⟨w.heap.size, 1, none⟩ = some (.int .i64 k) ∧ V.cell? ⟨w.heap.size, 2, none⟩ = some (.int .i64 n) ∧ V.cell? ⟨w.heap.size, 3, none⟩ = some (.int .i64 m) ∧ V.cell? ⟨w.heap.size, 4, none⟩ = some (.string t) ∧ V.cell? ⟨w.heap.size, 5, none⟩ = some (.int .i64 jt) ∧ V.cell? ⟨g, o + (i + 1) * 6, none⟩ = some (.int .i64 2) ∧ V.cell? ⟨g, o + (i + 2) * 6, none⟩ = some (.int .i64 zc) ∧ V.cell? ⟨g, o + (i + 2) * 6 + 1, none⟩ = some (.int .i64 zk) ∧ V.cell? ⟨g, o + (i + 2) * 6 + 2, none⟩ = some (.int .i64 zn) ∧ V.cell? ⟨g, o + (i + 2) * 6 + 3, none⟩ = some (.int .i64 zm) ∧ V.cell? ⟨g, o + (i + 2) * 6 + 4, none⟩ = some (.string zt) ∧ V.cell? ⟨g, o + (i + 2) * 6 + 5, none⟩ = some (.int .i64 zj) := by rw [hV]; exact ⟨x0, x1, x2, x3, x4, x5, y0, z0, z1, z2, z3, z4, z5⟩
        have s0d : V.drew.cell? ⟨w.heap.size, 0, none⟩ = some (.int .i64 1) ∧ V.drew.cell? ⟨w.heap.size, 1, none⟩ = some (.int .i64 k) ∧ V.drew.cell? ⟨w.heap.size, 2, none⟩ = some (.int .i64 n) ∧ V.drew.cell? ⟨w.heap.size, 3, none⟩ = some (.int .i64 m) ∧ V.drew.cell? ⟨w.heap.size, 4, none⟩ = some (.string t) ∧ V.drew.cell? ⟨w.heap.size, 5, none⟩ = some (.int .i64 jt) ∧ V.drew.cell? ⟨g, o + (i + 1) * 6, none⟩ = some (.int .i64 2) ∧ V.drew.cell? ⟨g, o + (i + 2) * 6, none⟩ = some (.int .i64 zc) ∧ V.drew.cell? ⟨g, o + (i + 2) * 6 + 1, none⟩ = some (.int .i64 zk) ∧ V.drew.cell? ⟨g, o + (i + 2) * 6 + 2, none⟩ = some (.int .i64 zn) ∧ V.drew.cell? ⟨g, o + (i + 2) * 6 + 3, none⟩ = some (.int .i64 zm) ∧ V.drew.cell? ⟨g, o + (i + 2) * 6 + 4, none⟩ = some (.string zt) ∧ V.drew.cell? ⟨g, o + (i + 2) * 6 + 5, none⟩ = some (.int .i64 zj) := s0
        have HSS : Hid (∀ W : World, Below V.heap.size V W → W.cell? ⟨w.heap.size, 0, none⟩ = some (.int .i64 1) ∧ W.cell? ⟨w.heap.size, 1, none⟩ = some (.int .i64 k) ∧ W.cell? ⟨w.heap.size, 2, none⟩ = some (.int .i64 n) ∧ W.cell? ⟨w.heap.size, 3, none⟩ = some (.int .i64 m) ∧ W.cell? ⟨w.heap.size, 4, none⟩ = some (.string t) ∧ W.cell? ⟨w.heap.size, 5, none⟩ = some (.int .i64 jt) ∧ W.cell? ⟨g, o + (i + 1) * 6, none⟩ = some (.int .i64 2) ∧ W.cell? ⟨g, o + (i + 2) * 6, none⟩ = some (.int .i64 zc) ∧ W.cell? ⟨g, o + (i + 2) * 6 + 1, none⟩ = some (.int .i64 zk) ∧ W.cell? ⟨g, o + (i + 2) * 6 + 2, none⟩ = some (.int .i64 zn) ∧ W.cell? ⟨g, o + (i + 2) * 6 + 3, none⟩ = some (.int .i64 zm) ∧ W.cell? ⟨g, o + (i + 2) * 6 + 4, none⟩ = some (.string zt) ∧ W.cell? ⟨g, o + (i + 2) * 6 + 5, none⟩ = some (.int .i64 zj)) := fun W hW => ⟨(hW.cell (p := ⟨w.heap.size, 0, none⟩) hlV).trans s0.1, (hW.cell (p := ⟨w.heap.size, 1, none⟩) hlV).trans s0.2.1, (hW.cell (p := ⟨w.heap.size, 2, none⟩) hlV).trans s0.2.2.1, (hW.cell (p := ⟨w.heap.size, 3, none⟩) hlV).trans s0.2.2.2.1, (hW.cell (p := ⟨w.heap.size, 4, none⟩) hlV).trans s0.2.2.2.2.1, (hW.cell (p := ⟨w.heap.size, 5, none⟩) hlV).trans s0.2.2.2.2.2.1, (hW.cell (p := ⟨g, o + (i + 1) * 6, none⟩) (by show g < _; omega)).trans s0.2.2.2.2.2.2.1, (hW.cell (p := ⟨g, o + (i + 2) * 6, none⟩) (by show g < _; omega)).trans s0.2.2.2.2.2.2.2.1, (hW.cell (p := ⟨g, o + (i + 2) * 6 + 1, none⟩) (by show g < _; omega)).trans s0.2.2.2.2.2.2.2.2.1, (hW.cell (p := ⟨g, o + (i + 2) * 6 + 2, none⟩) (by show g < _; omega)).trans s0.2.2.2.2.2.2.2.2.2.1, (hW.cell (p := ⟨g, o + (i + 2) * 6 + 3, none⟩) (by show g < _; omega)).trans s0.2.2.2.2.2.2.2.2.2.2.1, (hW.cell (p := ⟨g, o + (i + 2) * 6 + 4, none⟩) (by show g < _; omega)).trans s0.2.2.2.2.2.2.2.2.2.2.2.1, (hW.cell (p := ⟨g, o + (i + 2) * 6 + 5, none⟩) (by show g < _; omega)).trans s0.2.2.2.2.2.2.2.2.2.2.2.2⟩
        have hdV : Below V.heap.size V V.drew := (Below.refl _ V).drew
        have hBVd : Below w.heap.size w V.drew := hBV.drew
        have hwA : IntKind.i64.wrap ((i : Int) + 1) = (i : Int) + 1 := by rw [IntKind.wrap_i64]; omega
        have hwB : IntKind.i64.wrap ((i : Int) + 2) = (i : Int) + 2 := by rw [IntKind.wrap_i64]; omega
        have h01 : (0 : Int) ≤ (i : Int) + 1 := by omega
        have h02 : (0 : Int) ≤ (i : Int) + 2 := by omega
        have hn1 : ((i : Int) + 1).toNat = i + 1 := by omega
        have hn2 : ((i : Int) + 2).toNat = i + 2 := by omega
        have hd2 : decide ((i : Int) + 2 < (T.length : Int)) = true := by simp; omega
        clear hV x0 x1 x2 x3 x4 x5 y0 z0 z1 z2 z3 z4 z5 s0
        go_wp2_with fail
        cases l2 with
        | true =>
          have hF : Hid (R = none) := by show R = _; rw [HR.out, if_neg (fun h => by have := hC3.out.1 h; simp at this)]
          clear HR
          refine wp_region_held_drew (S := fun w' => w'.cell? ⟨w.heap.size, 0, none⟩ = some (.int .i64 1) ∧ w'.cell? ⟨w.heap.size, 1, none⟩ = some (.int .i64 k) ∧ w'.cell? ⟨w.heap.size, 2, none⟩ = some (.int .i64 n) ∧ w'.cell? ⟨w.heap.size, 3, none⟩ = some (.int .i64 m) ∧ w'.cell? ⟨w.heap.size, 4, none⟩ = some (.string t) ∧ w'.cell? ⟨w.heap.size, 5, none⟩ = some (.int .i64 jt) ∧ w'.cell? ⟨g, o + (i + 1) * 6, none⟩ = some (.int .i64 2) ∧ w'.cell? ⟨g, o + (i + 2) * 6, none⟩ = some (.int .i64 zc) ∧ w'.cell? ⟨g, o + (i + 2) * 6 + 1, none⟩ = some (.int .i64 zk) ∧ w'.cell? ⟨g, o + (i + 2) * 6 + 2, none⟩ = some (.int .i64 zn) ∧ w'.cell? ⟨g, o + (i + 2) * 6 + 3, none⟩ = some (.int .i64 zm) ∧ w'.cell? ⟨g, o + (i + 2) * 6 + 4, none⟩ = some (.string zt) ∧ w'.cell? ⟨g, o + (i + 2) * 6 + 5, none⟩ = some (.int .i64 zj)) (by kernel_rfl) ?_ (fun hHeld => ?_)
          · exact s0d
          refine wpAnyH_take (i := 0) (oi := { dst := some 83, op := Op.fieldAddr 59 (Operand.tmp 7) 0, type := 0, pos := "l8_program.go:167", after := #[], guard := none }) (v := ?vq1) rfl (by kernel_rfl) (by kernel_rfl) (by kernel_rfl) (fun _ _ _ h => h) (Or.inl ⟨by rfl, ?hy1⟩) (by assumption) ?rest1
          case hy1 =>
            first
              | (intro w hSw; (try dsimp only at hSw); go_simp; done)
              | (intro w hSw; (try dsimp only at hSw); go_simp; with_reducible rfl)
              | (intro w hSw; (try dsimp only at hSw); go_simp; simp only [hwA, hwB, if_true, hd2]; done)
              | (intro w hSw; (try dsimp only at hSw); go_simp; simp only [hwA, hwB, if_true, hd2]; with_reducible rfl)
          try simp only [Act.put, List.setIfInBounds_toArray, List.set_cons_zero, List.set_cons_succ]
          refine wpAnyH_take (i := 1) (oi := { dst := some 84, op := Op.load 3 (Operand.tmp 83), type := 3, pos := "l8_program.go:167", after := #[{ on := 0, ground := Ground.data }], guard := none }) (v := ?vq2) rfl (by kernel_rfl) (by kernel_rfl) (by kernel_rfl) (fun _ _ _ h => h) (Or.inl ⟨by rfl, ?hy2⟩) (by assumption) ?rest2
          case hy2 =>
            first
              | (intro w hSw; (try dsimp only at hSw); go_simp; done)
              | (intro w hSw; (try dsimp only at hSw); go_simp; with_reducible rfl)
              | (intro w hSw; (try dsimp only at hSw); go_simp; simp only [hwA, hwB, if_true, hd2]; done)
              | (intro w hSw; (try dsimp only at hSw); go_simp; simp only [hwA, hwB, if_true, hd2]; with_reducible rfl)
          try simp only [Act.put, List.setIfInBounds_toArray, List.set_cons_zero, List.set_cons_succ]
          refine wpAnyH_take (i := 2) (oi := { dst := some 85, op := Op.binOp BinOp.eql 3 (Operand.tmp 84) (Operand.const (Value.int IntKind.i64 1)) 3, type := 4, pos := "l8_program.go:167", after := #[{ on := 1, ground := Ground.data }], guard := none }) (v := ?vq3) rfl (by kernel_rfl) (by kernel_rfl) (by kernel_rfl) (fun _ _ _ h => h) (Or.inl ⟨by rfl, ?hy3⟩) (by assumption) ?rest3
          case hy3 =>
            first
              | (intro w hSw; (try dsimp only at hSw); go_simp; done)
              | (intro w hSw; (try dsimp only at hSw); go_simp; with_reducible rfl)
              | (intro w hSw; (try dsimp only at hSw); go_simp; simp only [hwA, hwB, if_true, hd2]; done)
              | (intro w hSw; (try dsimp only at hSw); go_simp; simp only [hwA, hwB, if_true, hd2]; with_reducible rfl)
          try simp only [Act.put, List.setIfInBounds_toArray, List.set_cons_zero, List.set_cons_succ]
          refine wpAnyH_take (i := 3) (oi := { dst := some 86, op := Op.move (Operand.tmp 85), type := 4, pos := "l8_program.go:167", after := #[{ on := 2, ground := Ground.data }], guard := none }) (v := ?vq4) rfl (by kernel_rfl) (by kernel_rfl) (by kernel_rfl) (fun _ _ _ h => h) (Or.inl ⟨by rfl, ?hy4⟩) (by assumption) ?rest4
          case hy4 =>
            first
              | (intro w hSw; (try dsimp only at hSw); go_simp; done)
              | (intro w hSw; (try dsimp only at hSw); go_simp; with_reducible rfl)
              | (intro w hSw; (try dsimp only at hSw); go_simp; simp only [hwA, hwB, if_true, hd2]; done)
              | (intro w hSw; (try dsimp only at hSw); go_simp; simp only [hwA, hwB, if_true, hd2]; with_reducible rfl)
          try simp only [Act.put, List.setIfInBounds_toArray, List.set_cons_zero, List.set_cons_succ]
          refine wpAnyH_take (i := 4) (oi := { dst := some 87, op := Op.move (Operand.tmp 1), type := 3, pos := "l8_program.go:167", after := #[{ on := 3, ground := Ground.guard }], guard := some (3, true) }) (v := ?vq5) rfl (by kernel_rfl) (by kernel_rfl) (by kernel_rfl) (fun _ _ _ h => h) (Or.inl ⟨by rfl, ?hy5⟩) (by assumption) ?rest5
          case hy5 =>
            first
              | (intro w hSw; (try dsimp only at hSw); go_simp; done)
              | (intro w hSw; (try dsimp only at hSw); go_simp; with_reducible rfl)
              | (intro w hSw; (try dsimp only at hSw); go_simp; simp only [hwA, hwB, if_true, hd2]; done)
              | (intro w hSw; (try dsimp only at hSw); go_simp; simp only [hwA, hwB, if_true, hd2]; with_reducible rfl)
          try simp only [Act.put, List.setIfInBounds_toArray, List.set_cons_zero, List.set_cons_succ]
          refine wpAnyH_take (i := 5) (oi := { dst := some 88, op := Op.binOp BinOp.add 3 (Operand.tmp 87) (Operand.const (Value.int IntKind.i64 2)) 3, type := 3, pos := "l8_program.go:167", after := #[{ on := 4, ground := Ground.data }, { on := 3, ground := Ground.guard }], guard := some (3, true) }) (v := ?vq6) rfl (by kernel_rfl) (by kernel_rfl) (by kernel_rfl) (fun _ _ _ h => h) (Or.inl ⟨by rfl, ?hy6⟩) (by assumption) ?rest6
          case hy6 =>
            first
              | (intro w hSw; (try dsimp only at hSw); go_simp; done)
              | (intro w hSw; (try dsimp only at hSw); go_simp; with_reducible rfl)
              | (intro w hSw; (try dsimp only at hSw); go_simp; simp only [hwA, hwB, if_true, hd2]; done)
              | (intro w hSw; (try dsimp only at hSw); go_simp; simp only [hwA, hwB, if_true, hd2]; with_reducible rfl)
          try simp only [Act.put, List.setIfInBounds_toArray, List.set_cons_zero, List.set_cons_succ]
          refine wpAnyH_take (i := 6) (oi := { dst := some 89, op := Op.move (Operand.tmp 6), type := 3, pos := "l8_program.go:167", after := #[{ on := 3, ground := Ground.guard }], guard := some (3, true) }) (v := ?vq7) rfl (by kernel_rfl) (by kernel_rfl) (by kernel_rfl) (fun _ _ _ h => h) (Or.inl ⟨by rfl, ?hy7⟩) (by assumption) ?rest7
          case hy7 =>
            first
              | (intro w hSw; (try dsimp only at hSw); go_simp; done)
              | (intro w hSw; (try dsimp only at hSw); go_simp; with_reducible rfl)
              | (intro w hSw; (try dsimp only at hSw); go_simp; simp only [hwA, hwB, if_true, hd2]; done)
              | (intro w hSw; (try dsimp only at hSw); go_simp; simp only [hwA, hwB, if_true, hd2]; with_reducible rfl)
          try simp only [Act.put, List.setIfInBounds_toArray, List.set_cons_zero, List.set_cons_succ]
          refine wpAnyH_take (i := 7) (oi := { dst := some 90, op := Op.binOp BinOp.lss 3 (Operand.tmp 88) (Operand.tmp 89) 3, type := 4, pos := "l8_program.go:167", after := #[{ on := 5, ground := Ground.data }, { on := 6, ground := Ground.data }, { on := 3, ground := Ground.guard }], guard := some (3, true) }) (v := ?vq8) rfl (by kernel_rfl) (by kernel_rfl) (by kernel_rfl) (fun _ _ _ h => h) (Or.inl ⟨by rfl, ?hy8⟩) (by assumption) ?rest8
          case hy8 =>
            first
              | (intro w hSw; (try dsimp only at hSw); go_simp; done)
              | (intro w hSw; (try dsimp only at hSw); go_simp; with_reducible rfl)
              | (intro w hSw; (try dsimp only at hSw); go_simp; simp only [hwA, hwB, if_true, hd2]; done)
              | (intro w hSw; (try dsimp only at hSw); go_simp; simp only [hwA, hwB, if_true, hd2]; with_reducible rfl)
          try simp only [Act.put, List.setIfInBounds_toArray, List.set_cons_zero, List.set_cons_succ]
          refine wpAnyH_take (i := 8) (oi := { dst := some 91, op := Op.pick (Operand.tmp 86) (Operand.tmp 90) (Operand.const (Value.bool false)), type := 4, pos := "l8_program.go:167", after := #[{ on := 3, ground := Ground.data }, { on := 7, ground := Ground.data }], guard := none }) (v := ?vq9) rfl (by kernel_rfl) (by kernel_rfl) (by kernel_rfl) (fun _ _ _ h => h) (Or.inl ⟨by rfl, ?hy9⟩) (by assumption) ?rest9
          case hy9 =>
            first
              | (intro w hSw; (try dsimp only at hSw); go_simp; done)
              | (intro w hSw; (try dsimp only at hSw); go_simp; with_reducible rfl)
              | (intro w hSw; (try dsimp only at hSw); go_simp; simp only [hwA, hwB, if_true, hd2]; done)
              | (intro w hSw; (try dsimp only at hSw); go_simp; simp only [hwA, hwB, if_true, hd2]; with_reducible rfl)
          try simp only [Act.put, List.setIfInBounds_toArray, List.set_cons_zero, List.set_cons_succ]
          refine wpAnyH_take (i := 9) (oi := { dst := some 92, op := Op.move (Operand.tmp 91), type := 4, pos := "l8_program.go:167", after := #[{ on := 8, ground := Ground.data }, { on := 3, ground := Ground.chain }], guard := none }) (v := ?vq10) rfl (by kernel_rfl) (by kernel_rfl) (by kernel_rfl) (fun _ _ _ h => h) (Or.inl ⟨by rfl, ?hy10⟩) (by assumption) ?rest10
          case hy10 =>
            first
              | (intro w hSw; (try dsimp only at hSw); go_simp; done)
              | (intro w hSw; (try dsimp only at hSw); go_simp; with_reducible rfl)
              | (intro w hSw; (try dsimp only at hSw); go_simp; simp only [hwA, hwB, if_true, hd2]; done)
              | (intro w hSw; (try dsimp only at hSw); go_simp; simp only [hwA, hwB, if_true, hd2]; with_reducible rfl)
          try simp only [Act.put, List.setIfInBounds_toArray, List.set_cons_zero, List.set_cons_succ]
          refine wpAnyH_take (i := 10) (oi := { dst := some 93, op := Op.move (Operand.tmp 0), type := 28, pos := "l8_program.go:167", after := #[{ on := 9, ground := Ground.guard }], guard := some (9, true) }) (v := ?vq11) rfl (by kernel_rfl) (by kernel_rfl) (by kernel_rfl) (fun _ _ _ h => h) (Or.inl ⟨by rfl, ?hy11⟩) (by assumption) ?rest11
          case hy11 =>
            first
              | (intro w hSw; (try dsimp only at hSw); go_simp; done)
              | (intro w hSw; (try dsimp only at hSw); go_simp; with_reducible rfl)
              | (intro w hSw; (try dsimp only at hSw); go_simp; simp only [hwA, hwB, if_true, hd2]; done)
              | (intro w hSw; (try dsimp only at hSw); go_simp; simp only [hwA, hwB, if_true, hd2]; with_reducible rfl)
          try simp only [Act.put, List.setIfInBounds_toArray, List.set_cons_zero, List.set_cons_succ]
          refine wpAnyH_take (i := 11) (oi := { dst := some 94, op := Op.move (Operand.tmp 1), type := 3, pos := "l8_program.go:167", after := #[{ on := 9, ground := Ground.guard }], guard := some (9, true) }) (v := ?vq12) rfl (by kernel_rfl) (by kernel_rfl) (by kernel_rfl) (fun _ _ _ h => h) (Or.inl ⟨by rfl, ?hy12⟩) (by assumption) ?rest12
          case hy12 =>
            first
              | (intro w hSw; (try dsimp only at hSw); go_simp; done)
              | (intro w hSw; (try dsimp only at hSw); go_simp; with_reducible rfl)
              | (intro w hSw; (try dsimp only at hSw); go_simp; simp only [hwA, hwB, if_true, hd2]; done)
              | (intro w hSw; (try dsimp only at hSw); go_simp; simp only [hwA, hwB, if_true, hd2]; with_reducible rfl)
          try simp only [Act.put, List.setIfInBounds_toArray, List.set_cons_zero, List.set_cons_succ]
          refine wpAnyH_take (i := 12) (oi := { dst := some 95, op := Op.binOp BinOp.add 3 (Operand.tmp 94) (Operand.const (Value.int IntKind.i64 1)) 3, type := 3, pos := "l8_program.go:167", after := #[{ on := 11, ground := Ground.data }, { on := 9, ground := Ground.guard }], guard := some (9, true) }) (v := ?vq13) rfl (by kernel_rfl) (by kernel_rfl) (by kernel_rfl) (fun _ _ _ h => h) (Or.inl ⟨by rfl, ?hy13⟩) (by assumption) ?rest13
          case hy13 =>
            first
              | (intro w hSw; (try dsimp only at hSw); go_simp; done)
              | (intro w hSw; (try dsimp only at hSw); go_simp; with_reducible rfl)
              | (intro w hSw; (try dsimp only at hSw); go_simp; simp only [hwA, hwB, if_true, hd2]; done)
              | (intro w hSw; (try dsimp only at hSw); go_simp; simp only [hwA, hwB, if_true, hd2]; with_reducible rfl)
          try simp only [Act.put, List.setIfInBounds_toArray, List.set_cons_zero, List.set_cons_succ]
          refine wpAnyH_take (i := 13) (oi := { dst := some 96, op := Op.indexAddr 28 (Operand.tmp 93) (Operand.tmp 95), type := 0, pos := "l8_program.go:167", after := #[{ on := 10, ground := Ground.data }, { on := 12, ground := Ground.data }, { on := 9, ground := Ground.guard }], guard := some (9, true) }) (v := ?vq14) rfl (by kernel_rfl) (by kernel_rfl) (by kernel_rfl) (fun _ _ _ h => h) (Or.inl ⟨by rfl, ?hy14⟩) (by assumption) ?rest14
          case hy14 =>
            first
              | (intro w hSw; (try dsimp only at hSw); go_simp; done)
              | (intro w hSw; (try dsimp only at hSw); go_simp; with_reducible rfl)
              | (intro w hSw; (try dsimp only at hSw); go_simp; simp only [hwA, hwB, if_true, hd2]; done)
              | (intro w hSw; (try dsimp only at hSw); go_simp; simp only [hwA, hwB, if_true, hd2]; with_reducible rfl)
          try simp only [Act.put, List.setIfInBounds_toArray, List.set_cons_zero, List.set_cons_succ]
          refine wpAnyH_take (i := 14) (oi := { dst := some 97, op := Op.fieldAddr 59 (Operand.tmp 96) 0, type := 0, pos := "l8_program.go:167", after := #[{ on := 13, ground := Ground.data }, { on := 9, ground := Ground.guard }], guard := some (9, true) }) (v := ?vq15) rfl (by kernel_rfl) (by kernel_rfl) (by kernel_rfl) (fun _ _ _ h => h) (Or.inl ⟨by rfl, ?hy15⟩) (by assumption) ?rest15
          case hy15 =>
            first
              | (intro w hSw; (try dsimp only at hSw); go_simp; done)
              | (intro w hSw; (try dsimp only at hSw); go_simp; with_reducible rfl)
              | (intro w hSw; (try dsimp only at hSw); go_simp; simp only [hwA, hwB, if_true, hd2]; done)
              | (intro w hSw; (try dsimp only at hSw); go_simp; simp only [hwA, hwB, if_true, hd2]; with_reducible rfl)
          try simp only [Act.put, List.setIfInBounds_toArray, List.set_cons_zero, List.set_cons_succ]
          refine wpAnyH_take (i := 15) (oi := { dst := some 98, op := Op.load 3 (Operand.tmp 97), type := 3, pos := "l8_program.go:167", after := #[{ on := 14, ground := Ground.data }, { on := 9, ground := Ground.guard }], guard := some (9, true) }) (v := ?vq16) rfl (by kernel_rfl) (by kernel_rfl) (by kernel_rfl) (fun _ _ _ h => h) (Or.inl ⟨by rfl, ?hy16⟩) (by assumption) ?rest16
          case hy16 =>
            first
              | (intro w hSw; (try dsimp only at hSw); go_simp; done)
              | (intro w hSw; (try dsimp only at hSw); go_simp; with_reducible rfl)
              | (intro w hSw; (try dsimp only at hSw); go_simp; simp only [hwA, hwB, if_true, hd2]; done)
              | (intro w hSw; (try dsimp only at hSw); go_simp; simp only [hwA, hwB, if_true, hd2]; with_reducible rfl)
          try simp only [Act.put, List.setIfInBounds_toArray, List.set_cons_zero, List.set_cons_succ]
          refine wpAnyH_take (i := 16) (oi := { dst := some 99, op := Op.binOp BinOp.eql 3 (Operand.tmp 98) (Operand.const (Value.int IntKind.i64 2)) 3, type := 4, pos := "l8_program.go:167", after := #[{ on := 15, ground := Ground.data }, { on := 9, ground := Ground.guard }], guard := some (9, true) }) (v := ?vq17) rfl (by kernel_rfl) (by kernel_rfl) (by kernel_rfl) (fun _ _ _ h => h) (Or.inl ⟨by rfl, ?hy17⟩) (by assumption) ?rest17
          case hy17 =>
            first
              | (intro w hSw; (try dsimp only at hSw); go_simp; done)
              | (intro w hSw; (try dsimp only at hSw); go_simp; with_reducible rfl)
              | (intro w hSw; (try dsimp only at hSw); go_simp; simp only [hwA, hwB, if_true, hd2]; done)
              | (intro w hSw; (try dsimp only at hSw); go_simp; simp only [hwA, hwB, if_true, hd2]; with_reducible rfl)
          try simp only [Act.put, List.setIfInBounds_toArray, List.set_cons_zero, List.set_cons_succ]
          refine wpAnyH_take (i := 17) (oi := { dst := some 100, op := Op.pick (Operand.tmp 92) (Operand.tmp 99) (Operand.const (Value.bool false)), type := 4, pos := "l8_program.go:167", after := #[{ on := 9, ground := Ground.data }, { on := 16, ground := Ground.data }], guard := none }) (v := ?vq18) rfl (by kernel_rfl) (by kernel_rfl) (by kernel_rfl) (fun _ _ _ h => h) (Or.inl ⟨by rfl, ?hy18⟩) (by assumption) ?rest18
          case hy18 =>
            first
              | (intro w hSw; (try dsimp only at hSw); go_simp; done)
              | (intro w hSw; (try dsimp only at hSw); go_simp; with_reducible rfl)
              | (intro w hSw; (try dsimp only at hSw); go_simp; simp only [hwA, hwB, if_true, hd2]; done)
              | (intro w hSw; (try dsimp only at hSw); go_simp; simp only [hwA, hwB, if_true, hd2]; with_reducible rfl)
          try simp only [Act.put, List.setIfInBounds_toArray, List.set_cons_zero, List.set_cons_succ]
          refine wpAnyH_take (i := 18) (oi := { dst := some 101, op := Op.move (Operand.tmp 100), type := 4, pos := "l8_program.go:167", after := #[{ on := 17, ground := Ground.data }, { on := 9, ground := Ground.chain }], guard := none }) (v := ?vq19) rfl (by kernel_rfl) (by kernel_rfl) (by kernel_rfl) (fun _ _ _ h => h) (Or.inl ⟨by rfl, ?hy19⟩) (by assumption) ?rest19
          case hy19 =>
            first
              | (intro w hSw; (try dsimp only at hSw); go_simp; done)
              | (intro w hSw; (try dsimp only at hSw); go_simp; with_reducible rfl)
              | (intro w hSw; (try dsimp only at hSw); go_simp; simp only [hwA, hwB, if_true, hd2]; done)
              | (intro w hSw; (try dsimp only at hSw); go_simp; simp only [hwA, hwB, if_true, hd2]; with_reducible rfl)
          try simp only [Act.put, List.setIfInBounds_toArray, List.set_cons_zero, List.set_cons_succ]
          refine wpAnyH_take (i := 19) (oi := { dst := some 102, op := Op.move (Operand.tmp 0), type := 28, pos := "l8_program.go:167", after := #[{ on := 18, ground := Ground.guard }], guard := some (18, true) }) (v := ?vq20) rfl (by kernel_rfl) (by kernel_rfl) (by kernel_rfl) (fun _ _ _ h => h) (Or.inl ⟨by rfl, ?hy20⟩) (by assumption) ?rest20
          case hy20 =>
            first
              | (intro w hSw; (try dsimp only at hSw); go_simp; done)
              | (intro w hSw; (try dsimp only at hSw); go_simp; with_reducible rfl)
              | (intro w hSw; (try dsimp only at hSw); go_simp; simp only [hwA, hwB, if_true, hd2]; done)
              | (intro w hSw; (try dsimp only at hSw); go_simp; simp only [hwA, hwB, if_true, hd2]; with_reducible rfl)
          try simp only [Act.put, List.setIfInBounds_toArray, List.set_cons_zero, List.set_cons_succ]
          refine wpAnyH_take (i := 20) (oi := { dst := some 103, op := Op.move (Operand.tmp 1), type := 3, pos := "l8_program.go:167", after := #[{ on := 18, ground := Ground.guard }], guard := some (18, true) }) (v := ?vq21) rfl (by kernel_rfl) (by kernel_rfl) (by kernel_rfl) (fun _ _ _ h => h) (Or.inl ⟨by rfl, ?hy21⟩) (by assumption) ?rest21
          case hy21 =>
            first
              | (intro w hSw; (try dsimp only at hSw); go_simp; done)
              | (intro w hSw; (try dsimp only at hSw); go_simp; with_reducible rfl)
              | (intro w hSw; (try dsimp only at hSw); go_simp; simp only [hwA, hwB, if_true, hd2]; done)
              | (intro w hSw; (try dsimp only at hSw); go_simp; simp only [hwA, hwB, if_true, hd2]; with_reducible rfl)
          try simp only [Act.put, List.setIfInBounds_toArray, List.set_cons_zero, List.set_cons_succ]
          refine wpAnyH_take (i := 21) (oi := { dst := some 104, op := Op.binOp BinOp.add 3 (Operand.tmp 103) (Operand.const (Value.int IntKind.i64 2)) 3, type := 3, pos := "l8_program.go:167", after := #[{ on := 20, ground := Ground.data }, { on := 18, ground := Ground.guard }], guard := some (18, true) }) (v := ?vq22) rfl (by kernel_rfl) (by kernel_rfl) (by kernel_rfl) (fun _ _ _ h => h) (Or.inl ⟨by rfl, ?hy22⟩) (by assumption) ?rest22
          case hy22 =>
            first
              | (intro w hSw; (try dsimp only at hSw); go_simp; done)
              | (intro w hSw; (try dsimp only at hSw); go_simp; with_reducible rfl)
              | (intro w hSw; (try dsimp only at hSw); go_simp; simp only [hwA, hwB, if_true, hd2]; done)
              | (intro w hSw; (try dsimp only at hSw); go_simp; simp only [hwA, hwB, if_true, hd2]; with_reducible rfl)
          try simp only [Act.put, List.setIfInBounds_toArray, List.set_cons_zero, List.set_cons_succ]
          refine wpAnyH_take (i := 22) (oi := { dst := some 105, op := Op.indexAddr 28 (Operand.tmp 102) (Operand.tmp 104), type := 0, pos := "l8_program.go:167", after := #[{ on := 19, ground := Ground.data }, { on := 21, ground := Ground.data }, { on := 18, ground := Ground.guard }], guard := some (18, true) }) (v := ?vq23) rfl (by kernel_rfl) (by kernel_rfl) (by kernel_rfl) (fun _ _ _ h => h) (Or.inl ⟨by rfl, ?hy23⟩) (by assumption) ?rest23
          case hy23 =>
            first
              | (intro w hSw; (try dsimp only at hSw); go_simp; done)
              | (intro w hSw; (try dsimp only at hSw); go_simp; with_reducible rfl)
              | (intro w hSw; (try dsimp only at hSw); go_simp; simp only [hwA, hwB, if_true, hd2]; done)
              | (intro w hSw; (try dsimp only at hSw); go_simp; simp only [hwA, hwB, if_true, hd2]; with_reducible rfl)
          try simp only [Act.put, List.setIfInBounds_toArray, List.set_cons_zero, List.set_cons_succ]
          refine wpAnyH_take (i := 23) (oi := { dst := some 106, op := Op.load 59 (Operand.tmp 105), type := 59, pos := "l8_program.go:167", after := #[{ on := 22, ground := Ground.data }, { on := 18, ground := Ground.guard }], guard := some (18, true) }) (v := ?vq24) rfl (by kernel_rfl) (by kernel_rfl) (by kernel_rfl) (fun _ _ _ h => h) (Or.inl ⟨by rfl, ?hy24⟩) (by assumption) ?rest24
          case hy24 =>
            first
              | (intro w hSw; (try dsimp only at hSw); go_simp; done)
              | (intro w hSw; (try dsimp only at hSw); go_simp; with_reducible rfl)
              | (intro w hSw; (try dsimp only at hSw); go_simp; simp only [hwA, hwB, if_true, hd2]; done)
              | (intro w hSw; (try dsimp only at hSw); go_simp; simp only [hwA, hwB, if_true, hd2]; with_reducible rfl)
          try simp only [Act.put, List.setIfInBounds_toArray, List.set_cons_zero, List.set_cons_succ]
          refine wpAnyH_take (i := 24) (oi := { dst := some 107, op := Op.load 59 (Operand.tmp 7), type := 59, pos := "l8_program.go:167", after := #[{ on := 18, ground := Ground.guard }], guard := some (18, true) }) (v := ?vq25) rfl (by kernel_rfl) (by kernel_rfl) (by kernel_rfl) (fun _ _ _ h => h) (Or.inl ⟨by rfl, ?hy25⟩) (by assumption) ?rest25
          case hy25 =>
            first
              | (intro w hSw; (try dsimp only at hSw); go_simp; done)
              | (intro w hSw; (try dsimp only at hSw); go_simp; with_reducible rfl)
              | (intro w hSw; (try dsimp only at hSw); go_simp; simp only [hwA, hwB, if_true, hd2]; done)
              | (intro w hSw; (try dsimp only at hSw); go_simp; simp only [hwA, hwB, if_true, hd2]; with_reducible rfl)
          try simp only [Act.put, List.setIfInBounds_toArray, List.set_cons_zero, List.set_cons_succ]
          refine wpAnyH_take (i := 25) (oi := { dst := some 108, op := Op.binOp BinOp.eql 59 (Operand.tmp 106) (Operand.tmp 107) 59, type := 4, pos := "l8_program.go:167", after := #[{ on := 23, ground := Ground.data }, { on := 24, ground := Ground.data }, { on := 18, ground := Ground.guard }], guard := some (18, true) }) (v := ?vq26) rfl (by kernel_rfl) (by kernel_rfl) (by kernel_rfl) (fun _ _ _ h => h) (Or.inl ⟨by rfl, ?hy26⟩) (by assumption) ?rest26
          case hy26 =>
            first
              | (intro w hSw; (try dsimp only at hSw); go_simp; done)
              | (intro w hSw; (try dsimp only at hSw); go_simp; with_reducible rfl)
              | (intro w hSw; (try dsimp only at hSw); go_simp; simp only [hwA, hwB, if_true, hd2]; done)
              | (intro w hSw; (try dsimp only at hSw); go_simp; simp only [hwA, hwB, if_true, hd2]; with_reducible rfl)
          try simp only [Act.put, List.setIfInBounds_toArray, List.set_cons_zero, List.set_cons_succ]
          refine wpAnyH_take (i := 26) (oi := { dst := some 109, op := Op.pick (Operand.tmp 101) (Operand.tmp 108) (Operand.const (Value.bool false)), type := 4, pos := "l8_program.go:167", after := #[{ on := 18, ground := Ground.data }, { on := 25, ground := Ground.data }], guard := none }) (v := ?vq27) rfl (by kernel_rfl) (by kernel_rfl) (by kernel_rfl) (fun _ _ _ h => h) (Or.inl ⟨by rfl, ?hy27⟩) (by assumption) ?rest27
          case hy27 =>
            first
              | (intro w hSw; (try dsimp only at hSw); go_simp; done)
              | (intro w hSw; (try dsimp only at hSw); go_simp; with_reducible rfl)
              | (intro w hSw; (try dsimp only at hSw); go_simp; simp only [hwA, hwB, if_true, hd2]; done)
              | (intro w hSw; (try dsimp only at hSw); go_simp; simp only [hwA, hwB, if_true, hd2]; with_reducible rfl)
          try simp only [Act.put, List.setIfInBounds_toArray, List.set_cons_zero, List.set_cons_succ]
          refine wpAnyH_take (i := 27) (oi := { dst := some 110, op := Op.move (Operand.tmp 109), type := 4, pos := "l8_program.go:167", after := #[{ on := 26, ground := Ground.data }, { on := 18, ground := Ground.chain }], guard := none }) (v := ?vq28) rfl (by kernel_rfl) (by kernel_rfl) (by kernel_rfl) (fun _ _ _ h => h) (Or.inl ⟨by rfl, ?hy28⟩) (by assumption) ?rest28
          case hy28 =>
            first
              | (intro w hSw; (try dsimp only at hSw); go_simp; done)
              | (intro w hSw; (try dsimp only at hSw); go_simp; with_reducible rfl)
              | (intro w hSw; (try dsimp only at hSw); go_simp; simp only [hwA, hwB, if_true, hd2]; done)
              | (intro w hSw; (try dsimp only at hSw); go_simp; simp only [hwA, hwB, if_true, hd2]; with_reducible rfl)
          try simp only [Act.put, List.setIfInBounds_toArray, List.set_cons_zero, List.set_cons_succ]
          refine wpAnyH_take (i := 28) (oi := { dst := some 111, op := Op.move (Operand.tmp 0), type := 28, pos := "l8_program.go:167", after := #[{ on := 27, ground := Ground.guard }], guard := some (27, true) }) (v := ?vq29) rfl (by kernel_rfl) (by kernel_rfl) (by kernel_rfl) (fun _ _ _ h => h) (Or.inl ⟨by rfl, ?hy29⟩) (by assumption) ?rest29
          case hy29 =>
            first
              | (intro w hSw; (try dsimp only at hSw); go_simp; done)
              | (intro w hSw; (try dsimp only at hSw); go_simp; with_reducible rfl)
              | (intro w hSw; (try dsimp only at hSw); go_simp; simp only [hwA, hwB, if_true, hd2]; done)
              | (intro w hSw; (try dsimp only at hSw); go_simp; simp only [hwA, hwB, if_true, hd2]; with_reducible rfl)
          try simp only [Act.put, List.setIfInBounds_toArray, List.set_cons_zero, List.set_cons_succ]
          refine wpAnyH_take (i := 29) (oi := { dst := some 112, op := Op.move (Operand.tmp 1), type := 3, pos := "l8_program.go:167", after := #[{ on := 27, ground := Ground.guard }], guard := some (27, true) }) (v := ?vq30) rfl (by kernel_rfl) (by kernel_rfl) (by kernel_rfl) (fun _ _ _ h => h) (Or.inl ⟨by rfl, ?hy30⟩) (by assumption) ?rest30
          case hy30 =>
            first
              | (intro w hSw; (try dsimp only at hSw); go_simp; done)
              | (intro w hSw; (try dsimp only at hSw); go_simp; with_reducible rfl)
              | (intro w hSw; (try dsimp only at hSw); go_simp; simp only [hwA, hwB, if_true, hd2]; done)
              | (intro w hSw; (try dsimp only at hSw); go_simp; simp only [hwA, hwB, if_true, hd2]; with_reducible rfl)
          try simp only [Act.put, List.setIfInBounds_toArray, List.set_cons_zero, List.set_cons_succ]
          refine wpAnyH_take (i := 30) (oi := { dst := some 113, op := Op.binOp BinOp.add 3 (Operand.tmp 112) (Operand.const (Value.int IntKind.i64 2)) 3, type := 3, pos := "l8_program.go:167", after := #[{ on := 29, ground := Ground.data }, { on := 27, ground := Ground.guard }], guard := some (27, true) }) (v := ?vq31) rfl (by kernel_rfl) (by kernel_rfl) (by kernel_rfl) (fun _ _ _ h => h) (Or.inl ⟨by rfl, ?hy31⟩) (by assumption) ?rest31
          case hy31 =>
            first
              | (intro w hSw; (try dsimp only at hSw); go_simp; done)
              | (intro w hSw; (try dsimp only at hSw); go_simp; with_reducible rfl)
              | (intro w hSw; (try dsimp only at hSw); go_simp; simp only [hwA, hwB, if_true, hd2]; done)
              | (intro w hSw; (try dsimp only at hSw); go_simp; simp only [hwA, hwB, if_true, hd2]; with_reducible rfl)
          try simp only [Act.put, List.setIfInBounds_toArray, List.set_cons_zero, List.set_cons_succ]
          refine wpAnyH_ready (rs := [31]) (by kernel_rfl) (by simp) ?_
          refine AllReadyH.cons (o := { dst := some 114, op := Op.call { callee := Callee.value (Operand.func 67), args := #[Operand.tmp 111, Operand.tmp 113], argTypes := #[28, 3] }, type := 4, pos := "l8_program.go:167", after := #[{ on := 28, ground := Ground.data }, { on := 30, ground := Ground.data }, { on := 27, ground := Ground.chain }, { on := 27, ground := Ground.guard }], guard := some (27, true) }) rfl (fun K hK => ?_) AllReadyH.nil
          go_simp
          refine (HCL2.out _ hBVd).mono ?_
          rintro e w5 ⟨rfl, hb5⟩
          have hV5 : Below V.heap.size V w5 := hdV.trans hb5
          have s5 := HSS.out _ hV5
          have hB5 : Below w.heap.size w w5 := hBV.trans (hV5.mono hBV.size)
          go_wp2_with fail
          refine hK.out _ _ ?_ (fun hHeld => ?_)
          · exact s5
          clear hK K
          try simp only [Act.put, List.setIfInBounds_toArray, List.set_cons_zero, List.set_cons_succ]
          refine wpAnyH_take (i := 32) (oi := { dst := some 115, op := Op.unOp UnOp.not 4 (Operand.tmp 114), type := 4, pos := "l8_program.go:167", after := #[{ on := 31, ground := Ground.data }, { on := 27, ground := Ground.guard }], guard := some (27, true) }) (v := ?vq32) rfl (by kernel_rfl) (by kernel_rfl) (by kernel_rfl) (fun _ _ _ h => h) (Or.inl ⟨by rfl, ?hy32⟩) (by assumption) ?rest32
          case hy32 =>
            first
              | (intro w hSw; (try dsimp only at hSw); go_simp; done)
              | (intro w hSw; (try dsimp only at hSw); go_simp; with_reducible rfl)
              | (intro w hSw; (try dsimp only at hSw); go_simp; simp only [hwA, hwB, if_true, hd2]; done)
              | (intro w hSw; (try dsimp only at hSw); go_simp; simp only [hwA, hwB, if_true, hd2]; with_reducible rfl)
          try simp only [Act.put, List.setIfInBounds_toArray, List.set_cons_zero, List.set_cons_succ]
          refine wpAnyH_take (i := 33) (oi := { dst := some 116, op := Op.pick (Operand.tmp 110) (Operand.tmp 115) (Operand.const (Value.bool false)), type := 4, pos := "l8_program.go:167", after := #[{ on := 27, ground := Ground.data }, { on := 32, ground := Ground.data }], guard := none }) (v := ?vq33) rfl (by kernel_rfl) (by kernel_rfl) (by kernel_rfl) (fun _ _ _ h => h) (Or.inl ⟨by rfl, ?hy33⟩) (by assumption) ?rest33
          case hy33 =>
            first
              | (intro w hSw; (try dsimp only at hSw); go_simp; done)
              | (intro w hSw; (try dsimp only at hSw); go_simp; with_reducible rfl)
              | (intro w hSw; (try dsimp only at hSw); go_simp; simp only [hwA, hwB, if_true, hd2]; done)
              | (intro w hSw; (try dsimp only at hSw); go_simp; simp only [hwA, hwB, if_true, hd2]; with_reducible rfl)
          try simp only [Act.put, List.setIfInBounds_toArray, List.set_cons_zero, List.set_cons_succ]
          refine wpAnyH_take (i := 34) (oi := { dst := some 117, op := Op.move (Operand.tmp 116), type := 4, pos := "l8_program.go:167", after := #[{ on := 33, ground := Ground.data }, { on := 31, ground := Ground.chain }], guard := none }) (v := ?vq34) rfl (by kernel_rfl) (by kernel_rfl) (by kernel_rfl) (fun _ _ _ h => h) (Or.inl ⟨by rfl, ?hy34⟩) (by assumption) ?rest34
          case hy34 =>
            first
              | (intro w hSw; (try dsimp only at hSw); go_simp; done)
              | (intro w hSw; (try dsimp only at hSw); go_simp; with_reducible rfl)
              | (intro w hSw; (try dsimp only at hSw); go_simp; simp only [hwA, hwB, if_true, hd2]; done)
              | (intro w hSw; (try dsimp only at hSw); go_simp; simp only [hwA, hwB, if_true, hd2]; with_reducible rfl)
          try simp only [Act.put, List.setIfInBounds_toArray, List.set_cons_zero, List.set_cons_succ]
          refine wpAnyH_take (i := 35) (oi := { dst := some 118, op := Op.move (Operand.tmp 0), type := 28, pos := "l8_program.go:167", after := #[{ on := 34, ground := Ground.guard }], guard := some (34, true) }) (v := undef) rfl (by kernel_rfl) (by kernel_rfl) (by kernel_rfl) (fun _ _ _ h => h) (Or.inr ⟨by rfl, rfl⟩) (by assumption) ?_
          try simp only [Act.put, List.setIfInBounds_toArray, List.set_cons_zero, List.set_cons_succ]
          refine wpAnyH_take (i := 36) (oi := { dst := some 119, op := Op.move (Operand.tmp 1), type := 3, pos := "l8_program.go:167", after := #[{ on := 34, ground := Ground.guard }], guard := some (34, true) }) (v := undef) rfl (by kernel_rfl) (by kernel_rfl) (by kernel_rfl) (fun _ _ _ h => h) (Or.inr ⟨by rfl, rfl⟩) (by assumption) ?_
          try simp only [Act.put, List.setIfInBounds_toArray, List.set_cons_zero, List.set_cons_succ]
          refine wpAnyH_take (i := 37) (oi := { dst := some 120, op := Op.binOp BinOp.add 3 (Operand.tmp 119) (Operand.const (Value.int IntKind.i64 1)) 3, type := 3, pos := "l8_program.go:167", after := #[{ on := 36, ground := Ground.data }, { on := 34, ground := Ground.guard }], guard := some (34, true) }) (v := undef) rfl (by kernel_rfl) (by kernel_rfl) (by kernel_rfl) (fun _ _ _ h => h) (Or.inr ⟨by rfl, rfl⟩) (by assumption) ?_
          try simp only [Act.put, List.setIfInBounds_toArray, List.set_cons_zero, List.set_cons_succ]
          refine wpAnyH_take (i := 38) (oi := { dst := some 121, op := Op.call { callee := Callee.value (Operand.func 67), args := #[Operand.tmp 118, Operand.tmp 120], argTypes := #[28, 3] }, type := 4, pos := "l8_program.go:167", after := #[{ on := 35, ground := Ground.data }, { on := 37, ground := Ground.data }, { on := 34, ground := Ground.chain }, { on := 34, ground := Ground.guard }], guard := some (34, true) }) (v := undef) rfl (by kernel_rfl) (by kernel_rfl) (by kernel_rfl) (fun _ _ _ h => h) (Or.inr ⟨by rfl, rfl⟩) (by assumption) ?_
          try simp only [Act.put, List.setIfInBounds_toArray, List.set_cons_zero, List.set_cons_succ]
          refine wpAnyH_take (i := 39) (oi := { dst := some 122, op := Op.unOp UnOp.not 4 (Operand.tmp 121), type := 4, pos := "l8_program.go:167", after := #[{ on := 38, ground := Ground.data }, { on := 34, ground := Ground.guard }], guard := some (34, true) }) (v := undef) rfl (by kernel_rfl) (by kernel_rfl) (by kernel_rfl) (fun _ _ _ h => h) (Or.inr ⟨by rfl, rfl⟩) (by assumption) ?_
          try simp only [Act.put, List.setIfInBounds_toArray, List.set_cons_zero, List.set_cons_succ]
          refine wpAnyH_take (i := 40) (oi := { dst := some 123, op := Op.pick (Operand.tmp 117) (Operand.tmp 122) (Operand.const (Value.bool false)), type := 4, pos := "l8_program.go:167", after := #[{ on := 34, ground := Ground.data }, { on := 39, ground := Ground.data }], guard := none }) (v := ?vq35) rfl (by kernel_rfl) (by kernel_rfl) (by kernel_rfl) (fun _ _ _ h => h) (Or.inl ⟨by rfl, ?hy35⟩) (by assumption) ?rest35
          case hy35 =>
            first
              | (intro w hSw; (try dsimp only at hSw); go_simp; done)
              | (intro w hSw; (try dsimp only at hSw); go_simp; with_reducible rfl)
              | (intro w hSw; (try dsimp only at hSw); go_simp; simp only [hwA, hwB, if_true, hd2]; done)
              | (intro w hSw; (try dsimp only at hSw); go_simp; simp only [hwA, hwB, if_true, hd2]; with_reducible rfl)
          try simp only [Act.put, List.setIfInBounds_toArray, List.set_cons_zero, List.set_cons_succ]
          refine wpAnyH_take (i := 41) (oi := { dst := some 82, op := Op.assign (Operand.tmp 123), type := 4, pos := "l8_program.go:167", after := #[{ on := 40, ground := Ground.data }, { on := 38, ground := Ground.chain }], guard := none }) (v := ?vq36) rfl (by kernel_rfl) (by kernel_rfl) (by kernel_rfl) (fun _ _ _ h => h) (Or.inl ⟨by rfl, ?hy36⟩) (by assumption) ?rest36
          case hy36 =>
            first
              | (intro w hSw; (try dsimp only at hSw); go_simp; done)
              | (intro w hSw; (try dsimp only at hSw); go_simp; with_reducible rfl)
              | (intro w hSw; (try dsimp only at hSw); go_simp; simp only [hwA, hwB, if_true, hd2]; done)
              | (intro w hSw; (try dsimp only at hSw); go_simp; simp only [hwA, hwB, if_true, hd2]; with_reducible rfl)
          try simp only [Act.put, List.setIfInBounds_toArray, List.set_cons_zero, List.set_cons_succ]
          refine wpAnyH_done (by kernel_rfl) ?_ _
          go_wp2
          go_ret2
          exact BetOut.mkN hF.out (by first | exact hB5 | exact bd1 hB5 _)
        | false =>
          cases l1 with
          | true =>
            have hF : Hid (R = none) := by show R = _; rw [HR.out, if_neg (fun h => by have := hC3.out.1 h; simp at this)]
            clear HR
            refine wp_region_held_drew (S := fun w' => w'.cell? ⟨w.heap.size, 0, none⟩ = some (.int .i64 1) ∧ w'.cell? ⟨w.heap.size, 1, none⟩ = some (.int .i64 k) ∧ w'.cell? ⟨w.heap.size, 2, none⟩ = some (.int .i64 n) ∧ w'.cell? ⟨w.heap.size, 3, none⟩ = some (.int .i64 m) ∧ w'.cell? ⟨w.heap.size, 4, none⟩ = some (.string t) ∧ w'.cell? ⟨w.heap.size, 5, none⟩ = some (.int .i64 jt) ∧ w'.cell? ⟨g, o + (i + 1) * 6, none⟩ = some (.int .i64 2) ∧ w'.cell? ⟨g, o + (i + 2) * 6, none⟩ = some (.int .i64 zc) ∧ w'.cell? ⟨g, o + (i + 2) * 6 + 1, none⟩ = some (.int .i64 zk) ∧ w'.cell? ⟨g, o + (i + 2) * 6 + 2, none⟩ = some (.int .i64 zn) ∧ w'.cell? ⟨g, o + (i + 2) * 6 + 3, none⟩ = some (.int .i64 zm) ∧ w'.cell? ⟨g, o + (i + 2) * 6 + 4, none⟩ = some (.string zt) ∧ w'.cell? ⟨g, o + (i + 2) * 6 + 5, none⟩ = some (.int .i64 zj)) (by kernel_rfl) ?_ (fun hHeld => ?_)
            · exact s0d
            refine wpAnyH_take (i := 0) (oi := { dst := some 83, op := Op.fieldAddr 59 (Operand.tmp 7) 0, type := 0, pos := "l8_program.go:167", after := #[], guard := none }) (v := ?vq71) rfl (by kernel_rfl) (by kernel_rfl) (by kernel_rfl) (fun _ _ _ h => h) (Or.inl ⟨by rfl, ?hy71⟩) (by assumption) ?rest71
            case hy71 =>
              first
                | (intro w hSw; (try dsimp only at hSw); go_simp; done)
                | (intro w hSw; (try dsimp only at hSw); go_simp; with_reducible rfl)
                | (intro w hSw; (try dsimp only at hSw); go_simp; simp only [hwA, hwB, if_true, hd2]; done)
                | (intro w hSw; (try dsimp only at hSw); go_simp; simp only [hwA, hwB, if_true, hd2]; with_reducible rfl)
            try simp only [Act.put, List.setIfInBounds_toArray, List.set_cons_zero, List.set_cons_succ]
            refine wpAnyH_take (i := 1) (oi := { dst := some 84, op := Op.load 3 (Operand.tmp 83), type := 3, pos := "l8_program.go:167", after := #[{ on := 0, ground := Ground.data }], guard := none }) (v := ?vq72) rfl (by kernel_rfl) (by kernel_rfl) (by kernel_rfl) (fun _ _ _ h => h) (Or.inl ⟨by rfl, ?hy72⟩) (by assumption) ?rest72
            case hy72 =>
              first
                | (intro w hSw; (try dsimp only at hSw); go_simp; done)
                | (intro w hSw; (try dsimp only at hSw); go_simp; with_reducible rfl)
                | (intro w hSw; (try dsimp only at hSw); go_simp; simp only [hwA, hwB, if_true, hd2]; done)
                | (intro w hSw; (try dsimp only at hSw); go_simp; simp only [hwA, hwB, if_true, hd2]; with_reducible rfl)
            try simp only [Act.put, List.setIfInBounds_toArray, List.set_cons_zero, List.set_cons_succ]
            refine wpAnyH_take (i := 2) (oi := { dst := some 85, op := Op.binOp BinOp.eql 3 (Operand.tmp 84) (Operand.const (Value.int IntKind.i64 1)) 3, type := 4, pos := "l8_program.go:167", after := #[{ on := 1, ground := Ground.data }], guard := none }) (v := ?vq73) rfl (by kernel_rfl) (by kernel_rfl) (by kernel_rfl) (fun _ _ _ h => h) (Or.inl ⟨by rfl, ?hy73⟩) (by assumption) ?rest73
            case hy73 =>
              first
                | (intro w hSw; (try dsimp only at hSw); go_simp; done)
                | (intro w hSw; (try dsimp only at hSw); go_simp; with_reducible rfl)
                | (intro w hSw; (try dsimp only at hSw); go_simp; simp only [hwA, hwB, if_true, hd2]; done)
                | (intro w hSw; (try dsimp only at hSw); go_simp; simp only [hwA, hwB, if_true, hd2]; with_reducible rfl)
            try simp only [Act.put, List.setIfInBounds_toArray, List.set_cons_zero, List.set_cons_succ]
            refine wpAnyH_take (i := 3) (oi := { dst := some 86, op := Op.move (Operand.tmp 85), type := 4, pos := "l8_program.go:167", after := #[{ on := 2, ground := Ground.data }], guard := none }) (v := ?vq74) rfl (by kernel_rfl) (by kernel_rfl) (by kernel_rfl) (fun _ _ _ h => h) (Or.inl ⟨by rfl, ?hy74⟩) (by assumption) ?rest74
            case hy74 =>
              first
                | (intro w hSw; (try dsimp only at hSw); go_simp; done)
                | (intro w hSw; (try dsimp only at hSw); go_simp; with_reducible rfl)
                | (intro w hSw; (try dsimp only at hSw); go_simp; simp only [hwA, hwB, if_true, hd2]; done)
                | (intro w hSw; (try dsimp only at hSw); go_simp; simp only [hwA, hwB, if_true, hd2]; with_reducible rfl)
            try simp only [Act.put, List.setIfInBounds_toArray, List.set_cons_zero, List.set_cons_succ]
            refine wpAnyH_take (i := 4) (oi := { dst := some 87, op := Op.move (Operand.tmp 1), type := 3, pos := "l8_program.go:167", after := #[{ on := 3, ground := Ground.guard }], guard := some (3, true) }) (v := ?vq75) rfl (by kernel_rfl) (by kernel_rfl) (by kernel_rfl) (fun _ _ _ h => h) (Or.inl ⟨by rfl, ?hy75⟩) (by assumption) ?rest75
            case hy75 =>
              first
                | (intro w hSw; (try dsimp only at hSw); go_simp; done)
                | (intro w hSw; (try dsimp only at hSw); go_simp; with_reducible rfl)
                | (intro w hSw; (try dsimp only at hSw); go_simp; simp only [hwA, hwB, if_true, hd2]; done)
                | (intro w hSw; (try dsimp only at hSw); go_simp; simp only [hwA, hwB, if_true, hd2]; with_reducible rfl)
            try simp only [Act.put, List.setIfInBounds_toArray, List.set_cons_zero, List.set_cons_succ]
            refine wpAnyH_take (i := 5) (oi := { dst := some 88, op := Op.binOp BinOp.add 3 (Operand.tmp 87) (Operand.const (Value.int IntKind.i64 2)) 3, type := 3, pos := "l8_program.go:167", after := #[{ on := 4, ground := Ground.data }, { on := 3, ground := Ground.guard }], guard := some (3, true) }) (v := ?vq76) rfl (by kernel_rfl) (by kernel_rfl) (by kernel_rfl) (fun _ _ _ h => h) (Or.inl ⟨by rfl, ?hy76⟩) (by assumption) ?rest76
            case hy76 =>
              first
                | (intro w hSw; (try dsimp only at hSw); go_simp; done)
                | (intro w hSw; (try dsimp only at hSw); go_simp; with_reducible rfl)
                | (intro w hSw; (try dsimp only at hSw); go_simp; simp only [hwA, hwB, if_true, hd2]; done)
                | (intro w hSw; (try dsimp only at hSw); go_simp; simp only [hwA, hwB, if_true, hd2]; with_reducible rfl)
            try simp only [Act.put, List.setIfInBounds_toArray, List.set_cons_zero, List.set_cons_succ]
            refine wpAnyH_take (i := 6) (oi := { dst := some 89, op := Op.move (Operand.tmp 6), type := 3, pos := "l8_program.go:167", after := #[{ on := 3, ground := Ground.guard }], guard := some (3, true) }) (v := ?vq77) rfl (by kernel_rfl) (by kernel_rfl) (by kernel_rfl) (fun _ _ _ h => h) (Or.inl ⟨by rfl, ?hy77⟩) (by assumption) ?rest77
            case hy77 =>
              first
                | (intro w hSw; (try dsimp only at hSw); go_simp; done)
                | (intro w hSw; (try dsimp only at hSw); go_simp; with_reducible rfl)
                | (intro w hSw; (try dsimp only at hSw); go_simp; simp only [hwA, hwB, if_true, hd2]; done)
                | (intro w hSw; (try dsimp only at hSw); go_simp; simp only [hwA, hwB, if_true, hd2]; with_reducible rfl)
            try simp only [Act.put, List.setIfInBounds_toArray, List.set_cons_zero, List.set_cons_succ]
            refine wpAnyH_take (i := 7) (oi := { dst := some 90, op := Op.binOp BinOp.lss 3 (Operand.tmp 88) (Operand.tmp 89) 3, type := 4, pos := "l8_program.go:167", after := #[{ on := 5, ground := Ground.data }, { on := 6, ground := Ground.data }, { on := 3, ground := Ground.guard }], guard := some (3, true) }) (v := ?vq78) rfl (by kernel_rfl) (by kernel_rfl) (by kernel_rfl) (fun _ _ _ h => h) (Or.inl ⟨by rfl, ?hy78⟩) (by assumption) ?rest78
            case hy78 =>
              first
                | (intro w hSw; (try dsimp only at hSw); go_simp; done)
                | (intro w hSw; (try dsimp only at hSw); go_simp; with_reducible rfl)
                | (intro w hSw; (try dsimp only at hSw); go_simp; simp only [hwA, hwB, if_true, hd2]; done)
                | (intro w hSw; (try dsimp only at hSw); go_simp; simp only [hwA, hwB, if_true, hd2]; with_reducible rfl)
            try simp only [Act.put, List.setIfInBounds_toArray, List.set_cons_zero, List.set_cons_succ]
            refine wpAnyH_take (i := 8) (oi := { dst := some 91, op := Op.pick (Operand.tmp 86) (Operand.tmp 90) (Operand.const (Value.bool false)), type := 4, pos := "l8_program.go:167", after := #[{ on := 3, ground := Ground.data }, { on := 7, ground := Ground.data }], guard := none }) (v := ?vq79) rfl (by kernel_rfl) (by kernel_rfl) (by kernel_rfl) (fun _ _ _ h => h) (Or.inl ⟨by rfl, ?hy79⟩) (by assumption) ?rest79
            case hy79 =>
              first
                | (intro w hSw; (try dsimp only at hSw); go_simp; done)
                | (intro w hSw; (try dsimp only at hSw); go_simp; with_reducible rfl)
                | (intro w hSw; (try dsimp only at hSw); go_simp; simp only [hwA, hwB, if_true, hd2]; done)
                | (intro w hSw; (try dsimp only at hSw); go_simp; simp only [hwA, hwB, if_true, hd2]; with_reducible rfl)
            try simp only [Act.put, List.setIfInBounds_toArray, List.set_cons_zero, List.set_cons_succ]
            refine wpAnyH_take (i := 9) (oi := { dst := some 92, op := Op.move (Operand.tmp 91), type := 4, pos := "l8_program.go:167", after := #[{ on := 8, ground := Ground.data }, { on := 3, ground := Ground.chain }], guard := none }) (v := ?vq80) rfl (by kernel_rfl) (by kernel_rfl) (by kernel_rfl) (fun _ _ _ h => h) (Or.inl ⟨by rfl, ?hy80⟩) (by assumption) ?rest80
            case hy80 =>
              first
                | (intro w hSw; (try dsimp only at hSw); go_simp; done)
                | (intro w hSw; (try dsimp only at hSw); go_simp; with_reducible rfl)
                | (intro w hSw; (try dsimp only at hSw); go_simp; simp only [hwA, hwB, if_true, hd2]; done)
                | (intro w hSw; (try dsimp only at hSw); go_simp; simp only [hwA, hwB, if_true, hd2]; with_reducible rfl)
            try simp only [Act.put, List.setIfInBounds_toArray, List.set_cons_zero, List.set_cons_succ]
            refine wpAnyH_take (i := 10) (oi := { dst := some 93, op := Op.move (Operand.tmp 0), type := 28, pos := "l8_program.go:167", after := #[{ on := 9, ground := Ground.guard }], guard := some (9, true) }) (v := ?vq81) rfl (by kernel_rfl) (by kernel_rfl) (by kernel_rfl) (fun _ _ _ h => h) (Or.inl ⟨by rfl, ?hy81⟩) (by assumption) ?rest81
            case hy81 =>
              first
                | (intro w hSw; (try dsimp only at hSw); go_simp; done)
                | (intro w hSw; (try dsimp only at hSw); go_simp; with_reducible rfl)
                | (intro w hSw; (try dsimp only at hSw); go_simp; simp only [hwA, hwB, if_true, hd2]; done)
                | (intro w hSw; (try dsimp only at hSw); go_simp; simp only [hwA, hwB, if_true, hd2]; with_reducible rfl)
            try simp only [Act.put, List.setIfInBounds_toArray, List.set_cons_zero, List.set_cons_succ]
            refine wpAnyH_take (i := 11) (oi := { dst := some 94, op := Op.move (Operand.tmp 1), type := 3, pos := "l8_program.go:167", after := #[{ on := 9, ground := Ground.guard }], guard := some (9, true) }) (v := ?vq82) rfl (by kernel_rfl) (by kernel_rfl) (by kernel_rfl) (fun _ _ _ h => h) (Or.inl ⟨by rfl, ?hy82⟩) (by assumption) ?rest82
            case hy82 =>
              first
                | (intro w hSw; (try dsimp only at hSw); go_simp; done)
                | (intro w hSw; (try dsimp only at hSw); go_simp; with_reducible rfl)
                | (intro w hSw; (try dsimp only at hSw); go_simp; simp only [hwA, hwB, if_true, hd2]; done)
                | (intro w hSw; (try dsimp only at hSw); go_simp; simp only [hwA, hwB, if_true, hd2]; with_reducible rfl)
            try simp only [Act.put, List.setIfInBounds_toArray, List.set_cons_zero, List.set_cons_succ]
            refine wpAnyH_take (i := 12) (oi := { dst := some 95, op := Op.binOp BinOp.add 3 (Operand.tmp 94) (Operand.const (Value.int IntKind.i64 1)) 3, type := 3, pos := "l8_program.go:167", after := #[{ on := 11, ground := Ground.data }, { on := 9, ground := Ground.guard }], guard := some (9, true) }) (v := ?vq83) rfl (by kernel_rfl) (by kernel_rfl) (by kernel_rfl) (fun _ _ _ h => h) (Or.inl ⟨by rfl, ?hy83⟩) (by assumption) ?rest83
            case hy83 =>
              first
                | (intro w hSw; (try dsimp only at hSw); go_simp; done)
                | (intro w hSw; (try dsimp only at hSw); go_simp; with_reducible rfl)
                | (intro w hSw; (try dsimp only at hSw); go_simp; simp only [hwA, hwB, if_true, hd2]; done)
                | (intro w hSw; (try dsimp only at hSw); go_simp; simp only [hwA, hwB, if_true, hd2]; with_reducible rfl)
            try simp only [Act.put, List.setIfInBounds_toArray, List.set_cons_zero, List.set_cons_succ]
            refine wpAnyH_take (i := 13) (oi := { dst := some 96, op := Op.indexAddr 28 (Operand.tmp 93) (Operand.tmp 95), type := 0, pos := "l8_program.go:167", after := #[{ on := 10, ground := Ground.data }, { on := 12, ground := Ground.data }, { on := 9, ground := Ground.guard }], guard := some (9, true) }) (v := ?vq84) rfl (by kernel_rfl) (by kernel_rfl) (by kernel_rfl) (fun _ _ _ h => h) (Or.inl ⟨by rfl, ?hy84⟩) (by assumption) ?rest84
            case hy84 =>
              first
                | (intro w hSw; (try dsimp only at hSw); go_simp; done)
                | (intro w hSw; (try dsimp only at hSw); go_simp; with_reducible rfl)
                | (intro w hSw; (try dsimp only at hSw); go_simp; simp only [hwA, hwB, if_true, hd2]; done)
                | (intro w hSw; (try dsimp only at hSw); go_simp; simp only [hwA, hwB, if_true, hd2]; with_reducible rfl)
            try simp only [Act.put, List.setIfInBounds_toArray, List.set_cons_zero, List.set_cons_succ]
            refine wpAnyH_take (i := 14) (oi := { dst := some 97, op := Op.fieldAddr 59 (Operand.tmp 96) 0, type := 0, pos := "l8_program.go:167", after := #[{ on := 13, ground := Ground.data }, { on := 9, ground := Ground.guard }], guard := some (9, true) }) (v := ?vq85) rfl (by kernel_rfl) (by kernel_rfl) (by kernel_rfl) (fun _ _ _ h => h) (Or.inl ⟨by rfl, ?hy85⟩) (by assumption) ?rest85
            case hy85 =>
              first
                | (intro w hSw; (try dsimp only at hSw); go_simp; done)
                | (intro w hSw; (try dsimp only at hSw); go_simp; with_reducible rfl)
                | (intro w hSw; (try dsimp only at hSw); go_simp; simp only [hwA, hwB, if_true, hd2]; done)
                | (intro w hSw; (try dsimp only at hSw); go_simp; simp only [hwA, hwB, if_true, hd2]; with_reducible rfl)
            try simp only [Act.put, List.setIfInBounds_toArray, List.set_cons_zero, List.set_cons_succ]
            refine wpAnyH_take (i := 15) (oi := { dst := some 98, op := Op.load 3 (Operand.tmp 97), type := 3, pos := "l8_program.go:167", after := #[{ on := 14, ground := Ground.data }, { on := 9, ground := Ground.guard }], guard := some (9, true) }) (v := ?vq86) rfl (by kernel_rfl) (by kernel_rfl) (by kernel_rfl) (fun _ _ _ h => h) (Or.inl ⟨by rfl, ?hy86⟩) (by assumption) ?rest86
            case hy86 =>
              first
                | (intro w hSw; (try dsimp only at hSw); go_simp; done)
                | (intro w hSw; (try dsimp only at hSw); go_simp; with_reducible rfl)
                | (intro w hSw; (try dsimp only at hSw); go_simp; simp only [hwA, hwB, if_true, hd2]; done)
                | (intro w hSw; (try dsimp only at hSw); go_simp; simp only [hwA, hwB, if_true, hd2]; with_reducible rfl)
            try simp only [Act.put, List.setIfInBounds_toArray, List.set_cons_zero, List.set_cons_succ]
            refine wpAnyH_take (i := 16) (oi := { dst := some 99, op := Op.binOp BinOp.eql 3 (Operand.tmp 98) (Operand.const (Value.int IntKind.i64 2)) 3, type := 4, pos := "l8_program.go:167", after := #[{ on := 15, ground := Ground.data }, { on := 9, ground := Ground.guard }], guard := some (9, true) }) (v := ?vq87) rfl (by kernel_rfl) (by kernel_rfl) (by kernel_rfl) (fun _ _ _ h => h) (Or.inl ⟨by rfl, ?hy87⟩) (by assumption) ?rest87
            case hy87 =>
              first
                | (intro w hSw; (try dsimp only at hSw); go_simp; done)
                | (intro w hSw; (try dsimp only at hSw); go_simp; with_reducible rfl)
                | (intro w hSw; (try dsimp only at hSw); go_simp; simp only [hwA, hwB, if_true, hd2]; done)
                | (intro w hSw; (try dsimp only at hSw); go_simp; simp only [hwA, hwB, if_true, hd2]; with_reducible rfl)
            try simp only [Act.put, List.setIfInBounds_toArray, List.set_cons_zero, List.set_cons_succ]
            refine wpAnyH_take (i := 17) (oi := { dst := some 100, op := Op.pick (Operand.tmp 92) (Operand.tmp 99) (Operand.const (Value.bool false)), type := 4, pos := "l8_program.go:167", after := #[{ on := 9, ground := Ground.data }, { on := 16, ground := Ground.data }], guard := none }) (v := ?vq88) rfl (by kernel_rfl) (by kernel_rfl) (by kernel_rfl) (fun _ _ _ h => h) (Or.inl ⟨by rfl, ?hy88⟩) (by assumption) ?rest88
            case hy88 =>
              first
                | (intro w hSw; (try dsimp only at hSw); go_simp; done)
                | (intro w hSw; (try dsimp only at hSw); go_simp; with_reducible rfl)
                | (intro w hSw; (try dsimp only at hSw); go_simp; simp only [hwA, hwB, if_true, hd2]; done)
                | (intro w hSw; (try dsimp only at hSw); go_simp; simp only [hwA, hwB, if_true, hd2]; with_reducible rfl)
            try simp only [Act.put, List.setIfInBounds_toArray, List.set_cons_zero, List.set_cons_succ]
            refine wpAnyH_take (i := 18) (oi := { dst := some 101, op := Op.move (Operand.tmp 100), type := 4, pos := "l8_program.go:167", after := #[{ on := 17, ground := Ground.data }, { on := 9, ground := Ground.chain }], guard := none }) (v := ?vq89) rfl (by kernel_rfl) (by kernel_rfl) (by kernel_rfl) (fun _ _ _ h => h) (Or.inl ⟨by rfl, ?hy89⟩) (by assumption) ?rest89
            case hy89 =>
              first
                | (intro w hSw; (try dsimp only at hSw); go_simp; done)
                | (intro w hSw; (try dsimp only at hSw); go_simp; with_reducible rfl)
                | (intro w hSw; (try dsimp only at hSw); go_simp; simp only [hwA, hwB, if_true, hd2]; done)
                | (intro w hSw; (try dsimp only at hSw); go_simp; simp only [hwA, hwB, if_true, hd2]; with_reducible rfl)
            try simp only [Act.put, List.setIfInBounds_toArray, List.set_cons_zero, List.set_cons_succ]
            refine wpAnyH_take (i := 19) (oi := { dst := some 102, op := Op.move (Operand.tmp 0), type := 28, pos := "l8_program.go:167", after := #[{ on := 18, ground := Ground.guard }], guard := some (18, true) }) (v := ?vq90) rfl (by kernel_rfl) (by kernel_rfl) (by kernel_rfl) (fun _ _ _ h => h) (Or.inl ⟨by rfl, ?hy90⟩) (by assumption) ?rest90
            case hy90 =>
              first
                | (intro w hSw; (try dsimp only at hSw); go_simp; done)
                | (intro w hSw; (try dsimp only at hSw); go_simp; with_reducible rfl)
                | (intro w hSw; (try dsimp only at hSw); go_simp; simp only [hwA, hwB, if_true, hd2]; done)
                | (intro w hSw; (try dsimp only at hSw); go_simp; simp only [hwA, hwB, if_true, hd2]; with_reducible rfl)
            try simp only [Act.put, List.setIfInBounds_toArray, List.set_cons_zero, List.set_cons_succ]
            refine wpAnyH_take (i := 20) (oi := { dst := some 103, op := Op.move (Operand.tmp 1), type := 3, pos := "l8_program.go:167", after := #[{ on := 18, ground := Ground.guard }], guard := some (18, true) }) (v := ?vq91) rfl (by kernel_rfl) (by kernel_rfl) (by kernel_rfl) (fun _ _ _ h => h) (Or.inl ⟨by rfl, ?hy91⟩) (by assumption) ?rest91
            case hy91 =>
              first
                | (intro w hSw; (try dsimp only at hSw); go_simp; done)
                | (intro w hSw; (try dsimp only at hSw); go_simp; with_reducible rfl)
                | (intro w hSw; (try dsimp only at hSw); go_simp; simp only [hwA, hwB, if_true, hd2]; done)
                | (intro w hSw; (try dsimp only at hSw); go_simp; simp only [hwA, hwB, if_true, hd2]; with_reducible rfl)
            try simp only [Act.put, List.setIfInBounds_toArray, List.set_cons_zero, List.set_cons_succ]
            refine wpAnyH_take (i := 21) (oi := { dst := some 104, op := Op.binOp BinOp.add 3 (Operand.tmp 103) (Operand.const (Value.int IntKind.i64 2)) 3, type := 3, pos := "l8_program.go:167", after := #[{ on := 20, ground := Ground.data }, { on := 18, ground := Ground.guard }], guard := some (18, true) }) (v := ?vq92) rfl (by kernel_rfl) (by kernel_rfl) (by kernel_rfl) (fun _ _ _ h => h) (Or.inl ⟨by rfl, ?hy92⟩) (by assumption) ?rest92
            case hy92 =>
              first
                | (intro w hSw; (try dsimp only at hSw); go_simp; done)
                | (intro w hSw; (try dsimp only at hSw); go_simp; with_reducible rfl)
                | (intro w hSw; (try dsimp only at hSw); go_simp; simp only [hwA, hwB, if_true, hd2]; done)
                | (intro w hSw; (try dsimp only at hSw); go_simp; simp only [hwA, hwB, if_true, hd2]; with_reducible rfl)
            try simp only [Act.put, List.setIfInBounds_toArray, List.set_cons_zero, List.set_cons_succ]
            refine wpAnyH_take (i := 22) (oi := { dst := some 105, op := Op.indexAddr 28 (Operand.tmp 102) (Operand.tmp 104), type := 0, pos := "l8_program.go:167", after := #[{ on := 19, ground := Ground.data }, { on := 21, ground := Ground.data }, { on := 18, ground := Ground.guard }], guard := some (18, true) }) (v := ?vq93) rfl (by kernel_rfl) (by kernel_rfl) (by kernel_rfl) (fun _ _ _ h => h) (Or.inl ⟨by rfl, ?hy93⟩) (by assumption) ?rest93
            case hy93 =>
              first
                | (intro w hSw; (try dsimp only at hSw); go_simp; done)
                | (intro w hSw; (try dsimp only at hSw); go_simp; with_reducible rfl)
                | (intro w hSw; (try dsimp only at hSw); go_simp; simp only [hwA, hwB, if_true, hd2]; done)
                | (intro w hSw; (try dsimp only at hSw); go_simp; simp only [hwA, hwB, if_true, hd2]; with_reducible rfl)
            try simp only [Act.put, List.setIfInBounds_toArray, List.set_cons_zero, List.set_cons_succ]
            refine wpAnyH_take (i := 23) (oi := { dst := some 106, op := Op.load 59 (Operand.tmp 105), type := 59, pos := "l8_program.go:167", after := #[{ on := 22, ground := Ground.data }, { on := 18, ground := Ground.guard }], guard := some (18, true) }) (v := ?vq94) rfl (by kernel_rfl) (by kernel_rfl) (by kernel_rfl) (fun _ _ _ h => h) (Or.inl ⟨by rfl, ?hy94⟩) (by assumption) ?rest94
            case hy94 =>
              first
                | (intro w hSw; (try dsimp only at hSw); go_simp; done)
                | (intro w hSw; (try dsimp only at hSw); go_simp; with_reducible rfl)
                | (intro w hSw; (try dsimp only at hSw); go_simp; simp only [hwA, hwB, if_true, hd2]; done)
                | (intro w hSw; (try dsimp only at hSw); go_simp; simp only [hwA, hwB, if_true, hd2]; with_reducible rfl)
            try simp only [Act.put, List.setIfInBounds_toArray, List.set_cons_zero, List.set_cons_succ]
            refine wpAnyH_take (i := 24) (oi := { dst := some 107, op := Op.load 59 (Operand.tmp 7), type := 59, pos := "l8_program.go:167", after := #[{ on := 18, ground := Ground.guard }], guard := some (18, true) }) (v := ?vq95) rfl (by kernel_rfl) (by kernel_rfl) (by kernel_rfl) (fun _ _ _ h => h) (Or.inl ⟨by rfl, ?hy95⟩) (by assumption) ?rest95
            case hy95 =>
              first
                | (intro w hSw; (try dsimp only at hSw); go_simp; done)
                | (intro w hSw; (try dsimp only at hSw); go_simp; with_reducible rfl)
                | (intro w hSw; (try dsimp only at hSw); go_simp; simp only [hwA, hwB, if_true, hd2]; done)
                | (intro w hSw; (try dsimp only at hSw); go_simp; simp only [hwA, hwB, if_true, hd2]; with_reducible rfl)
            try simp only [Act.put, List.setIfInBounds_toArray, List.set_cons_zero, List.set_cons_succ]
            refine wpAnyH_take (i := 25) (oi := { dst := some 108, op := Op.binOp BinOp.eql 59 (Operand.tmp 106) (Operand.tmp 107) 59, type := 4, pos := "l8_program.go:167", after := #[{ on := 23, ground := Ground.data }, { on := 24, ground := Ground.data }, { on := 18, ground := Ground.guard }], guard := some (18, true) }) (v := ?vq96) rfl (by kernel_rfl) (by kernel_rfl) (by kernel_rfl) (fun _ _ _ h => h) (Or.inl ⟨by rfl, ?hy96⟩) (by assumption) ?rest96
            case hy96 =>
              first
                | (intro w hSw; (try dsimp only at hSw); go_simp; done)
                | (intro w hSw; (try dsimp only at hSw); go_simp; with_reducible rfl)
                | (intro w hSw; (try dsimp only at hSw); go_simp; simp only [hwA, hwB, if_true, hd2]; done)
                | (intro w hSw; (try dsimp only at hSw); go_simp; simp only [hwA, hwB, if_true, hd2]; with_reducible rfl)
            try simp only [Act.put, List.setIfInBounds_toArray, List.set_cons_zero, List.set_cons_succ]
            refine wpAnyH_take (i := 26) (oi := { dst := some 109, op := Op.pick (Operand.tmp 101) (Operand.tmp 108) (Operand.const (Value.bool false)), type := 4, pos := "l8_program.go:167", after := #[{ on := 18, ground := Ground.data }, { on := 25, ground := Ground.data }], guard := none }) (v := ?vq97) rfl (by kernel_rfl) (by kernel_rfl) (by kernel_rfl) (fun _ _ _ h => h) (Or.inl ⟨by rfl, ?hy97⟩) (by assumption) ?rest97
            case hy97 =>
              first
                | (intro w hSw; (try dsimp only at hSw); go_simp; done)
                | (intro w hSw; (try dsimp only at hSw); go_simp; with_reducible rfl)
                | (intro w hSw; (try dsimp only at hSw); go_simp; simp only [hwA, hwB, if_true, hd2]; done)
                | (intro w hSw; (try dsimp only at hSw); go_simp; simp only [hwA, hwB, if_true, hd2]; with_reducible rfl)
            try simp only [Act.put, List.setIfInBounds_toArray, List.set_cons_zero, List.set_cons_succ]
            refine wpAnyH_take (i := 27) (oi := { dst := some 110, op := Op.move (Operand.tmp 109), type := 4, pos := "l8_program.go:167", after := #[{ on := 26, ground := Ground.data }, { on := 18, ground := Ground.chain }], guard := none }) (v := ?vq98) rfl (by kernel_rfl) (by kernel_rfl) (by kernel_rfl) (fun _ _ _ h => h) (Or.inl ⟨by rfl, ?hy98⟩) (by assumption) ?rest98
            case hy98 =>
              first
                | (intro w hSw; (try dsimp only at hSw); go_simp; done)
                | (intro w hSw; (try dsimp only at hSw); go_simp; with_reducible rfl)
                | (intro w hSw; (try dsimp only at hSw); go_simp; simp only [hwA, hwB, if_true, hd2]; done)
                | (intro w hSw; (try dsimp only at hSw); go_simp; simp only [hwA, hwB, if_true, hd2]; with_reducible rfl)
            try simp only [Act.put, List.setIfInBounds_toArray, List.set_cons_zero, List.set_cons_succ]
            refine wpAnyH_take (i := 28) (oi := { dst := some 111, op := Op.move (Operand.tmp 0), type := 28, pos := "l8_program.go:167", after := #[{ on := 27, ground := Ground.guard }], guard := some (27, true) }) (v := ?vq99) rfl (by kernel_rfl) (by kernel_rfl) (by kernel_rfl) (fun _ _ _ h => h) (Or.inl ⟨by rfl, ?hy99⟩) (by assumption) ?rest99
            case hy99 =>
              first
                | (intro w hSw; (try dsimp only at hSw); go_simp; done)
                | (intro w hSw; (try dsimp only at hSw); go_simp; with_reducible rfl)
                | (intro w hSw; (try dsimp only at hSw); go_simp; simp only [hwA, hwB, if_true, hd2]; done)
                | (intro w hSw; (try dsimp only at hSw); go_simp; simp only [hwA, hwB, if_true, hd2]; with_reducible rfl)
            try simp only [Act.put, List.setIfInBounds_toArray, List.set_cons_zero, List.set_cons_succ]
            refine wpAnyH_take (i := 29) (oi := { dst := some 112, op := Op.move (Operand.tmp 1), type := 3, pos := "l8_program.go:167", after := #[{ on := 27, ground := Ground.guard }], guard := some (27, true) }) (v := ?vq100) rfl (by kernel_rfl) (by kernel_rfl) (by kernel_rfl) (fun _ _ _ h => h) (Or.inl ⟨by rfl, ?hy100⟩) (by assumption) ?rest100
            case hy100 =>
              first
                | (intro w hSw; (try dsimp only at hSw); go_simp; done)
                | (intro w hSw; (try dsimp only at hSw); go_simp; with_reducible rfl)
                | (intro w hSw; (try dsimp only at hSw); go_simp; simp only [hwA, hwB, if_true, hd2]; done)
                | (intro w hSw; (try dsimp only at hSw); go_simp; simp only [hwA, hwB, if_true, hd2]; with_reducible rfl)
            try simp only [Act.put, List.setIfInBounds_toArray, List.set_cons_zero, List.set_cons_succ]
            refine wpAnyH_take (i := 30) (oi := { dst := some 113, op := Op.binOp BinOp.add 3 (Operand.tmp 112) (Operand.const (Value.int IntKind.i64 2)) 3, type := 3, pos := "l8_program.go:167", after := #[{ on := 29, ground := Ground.data }, { on := 27, ground := Ground.guard }], guard := some (27, true) }) (v := ?vq101) rfl (by kernel_rfl) (by kernel_rfl) (by kernel_rfl) (fun _ _ _ h => h) (Or.inl ⟨by rfl, ?hy101⟩) (by assumption) ?rest101
            case hy101 =>
              first
                | (intro w hSw; (try dsimp only at hSw); go_simp; done)
                | (intro w hSw; (try dsimp only at hSw); go_simp; with_reducible rfl)
                | (intro w hSw; (try dsimp only at hSw); go_simp; simp only [hwA, hwB, if_true, hd2]; done)
                | (intro w hSw; (try dsimp only at hSw); go_simp; simp only [hwA, hwB, if_true, hd2]; with_reducible rfl)
            try simp only [Act.put, List.setIfInBounds_toArray, List.set_cons_zero, List.set_cons_succ]
            refine wpAnyH_ready (rs := [31]) (by kernel_rfl) (by simp) ?_
            refine AllReadyH.cons (o := { dst := some 114, op := Op.call { callee := Callee.value (Operand.func 67), args := #[Operand.tmp 111, Operand.tmp 113], argTypes := #[28, 3] }, type := 4, pos := "l8_program.go:167", after := #[{ on := 28, ground := Ground.data }, { on := 30, ground := Ground.data }, { on := 27, ground := Ground.chain }, { on := 27, ground := Ground.guard }], guard := some (27, true) }) rfl (fun K hK => ?_) AllReadyH.nil
            go_simp
            refine (HCL2.out _ hBVd).mono ?_
            rintro e w5 ⟨rfl, hb5⟩
            have hV5 : Below V.heap.size V w5 := hdV.trans hb5
            have s5 := HSS.out _ hV5
            have hB5 : Below w.heap.size w w5 := hBV.trans (hV5.mono hBV.size)
            go_wp2_with fail
            refine hK.out _ _ ?_ (fun hHeld => ?_)
            · exact s5
            clear hK K
            try simp only [Act.put, List.setIfInBounds_toArray, List.set_cons_zero, List.set_cons_succ]
            refine wpAnyH_take (i := 32) (oi := { dst := some 115, op := Op.unOp UnOp.not 4 (Operand.tmp 114), type := 4, pos := "l8_program.go:167", after := #[{ on := 31, ground := Ground.data }, { on := 27, ground := Ground.guard }], guard := some (27, true) }) (v := ?vq102) rfl (by kernel_rfl) (by kernel_rfl) (by kernel_rfl) (fun _ _ _ h => h) (Or.inl ⟨by rfl, ?hy102⟩) (by assumption) ?rest102
            case hy102 =>
              first
                | (intro w hSw; (try dsimp only at hSw); go_simp; done)
                | (intro w hSw; (try dsimp only at hSw); go_simp; with_reducible rfl)
                | (intro w hSw; (try dsimp only at hSw); go_simp; simp only [hwA, hwB, if_true, hd2]; done)
                | (intro w hSw; (try dsimp only at hSw); go_simp; simp only [hwA, hwB, if_true, hd2]; with_reducible rfl)
            try simp only [Act.put, List.setIfInBounds_toArray, List.set_cons_zero, List.set_cons_succ]
            refine wpAnyH_take (i := 33) (oi := { dst := some 116, op := Op.pick (Operand.tmp 110) (Operand.tmp 115) (Operand.const (Value.bool false)), type := 4, pos := "l8_program.go:167", after := #[{ on := 27, ground := Ground.data }, { on := 32, ground := Ground.data }], guard := none }) (v := ?vq103) rfl (by kernel_rfl) (by kernel_rfl) (by kernel_rfl) (fun _ _ _ h => h) (Or.inl ⟨by rfl, ?hy103⟩) (by assumption) ?rest103
            case hy103 =>
              first
                | (intro w hSw; (try dsimp only at hSw); go_simp; done)
                | (intro w hSw; (try dsimp only at hSw); go_simp; with_reducible rfl)
                | (intro w hSw; (try dsimp only at hSw); go_simp; simp only [hwA, hwB, if_true, hd2]; done)
                | (intro w hSw; (try dsimp only at hSw); go_simp; simp only [hwA, hwB, if_true, hd2]; with_reducible rfl)
            try simp only [Act.put, List.setIfInBounds_toArray, List.set_cons_zero, List.set_cons_succ]
            refine wpAnyH_take (i := 34) (oi := { dst := some 117, op := Op.move (Operand.tmp 116), type := 4, pos := "l8_program.go:167", after := #[{ on := 33, ground := Ground.data }, { on := 31, ground := Ground.chain }], guard := none }) (v := ?vq104) rfl (by kernel_rfl) (by kernel_rfl) (by kernel_rfl) (fun _ _ _ h => h) (Or.inl ⟨by rfl, ?hy104⟩) (by assumption) ?rest104
            case hy104 =>
              first
                | (intro w hSw; (try dsimp only at hSw); go_simp; done)
                | (intro w hSw; (try dsimp only at hSw); go_simp; with_reducible rfl)
                | (intro w hSw; (try dsimp only at hSw); go_simp; simp only [hwA, hwB, if_true, hd2]; done)
                | (intro w hSw; (try dsimp only at hSw); go_simp; simp only [hwA, hwB, if_true, hd2]; with_reducible rfl)
            try simp only [Act.put, List.setIfInBounds_toArray, List.set_cons_zero, List.set_cons_succ]
            refine wpAnyH_take (i := 35) (oi := { dst := some 118, op := Op.move (Operand.tmp 0), type := 28, pos := "l8_program.go:167", after := #[{ on := 34, ground := Ground.guard }], guard := some (34, true) }) (v := ?vq105) rfl (by kernel_rfl) (by kernel_rfl) (by kernel_rfl) (fun _ _ _ h => h) (Or.inl ⟨by rfl, ?hy105⟩) (by assumption) ?rest105
            case hy105 =>
              first
                | (intro w hSw; (try dsimp only at hSw); go_simp; done)
                | (intro w hSw; (try dsimp only at hSw); go_simp; with_reducible rfl)
                | (intro w hSw; (try dsimp only at hSw); go_simp; simp only [hwA, hwB, if_true, hd2]; done)
                | (intro w hSw; (try dsimp only at hSw); go_simp; simp only [hwA, hwB, if_true, hd2]; with_reducible rfl)
            try simp only [Act.put, List.setIfInBounds_toArray, List.set_cons_zero, List.set_cons_succ]
            refine wpAnyH_take (i := 36) (oi := { dst := some 119, op := Op.move (Operand.tmp 1), type := 3, pos := "l8_program.go:167", after := #[{ on := 34, ground := Ground.guard }], guard := some (34, true) }) (v := ?vq106) rfl (by kernel_rfl) (by kernel_rfl) (by kernel_rfl) (fun _ _ _ h => h) (Or.inl ⟨by rfl, ?hy106⟩) (by assumption) ?rest106
            case hy106 =>
              first
                | (intro w hSw; (try dsimp only at hSw); go_simp; done)
                | (intro w hSw; (try dsimp only at hSw); go_simp; with_reducible rfl)
                | (intro w hSw; (try dsimp only at hSw); go_simp; simp only [hwA, hwB, if_true, hd2]; done)
                | (intro w hSw; (try dsimp only at hSw); go_simp; simp only [hwA, hwB, if_true, hd2]; with_reducible rfl)
            try simp only [Act.put, List.setIfInBounds_toArray, List.set_cons_zero, List.set_cons_succ]
            refine wpAnyH_take (i := 37) (oi := { dst := some 120, op := Op.binOp BinOp.add 3 (Operand.tmp 119) (Operand.const (Value.int IntKind.i64 1)) 3, type := 3, pos := "l8_program.go:167", after := #[{ on := 36, ground := Ground.data }, { on := 34, ground := Ground.guard }], guard := some (34, true) }) (v := ?vq107) rfl (by kernel_rfl) (by kernel_rfl) (by kernel_rfl) (fun _ _ _ h => h) (Or.inl ⟨by rfl, ?hy107⟩) (by assumption) ?rest107
            case hy107 =>
              first
                | (intro w hSw; (try dsimp only at hSw); go_simp; done)
                | (intro w hSw; (try dsimp only at hSw); go_simp; with_reducible rfl)
                | (intro w hSw; (try dsimp only at hSw); go_simp; simp only [hwA, hwB, if_true, hd2]; done)
                | (intro w hSw; (try dsimp only at hSw); go_simp; simp only [hwA, hwB, if_true, hd2]; with_reducible rfl)
            try simp only [Act.put, List.setIfInBounds_toArray, List.set_cons_zero, List.set_cons_succ]
            refine wpAnyH_ready (rs := [38]) (by kernel_rfl) (by simp) ?_
            refine AllReadyH.cons (o := { dst := some 121, op := Op.call { callee := Callee.value (Operand.func 67), args := #[Operand.tmp 118, Operand.tmp 120], argTypes := #[28, 3] }, type := 4, pos := "l8_program.go:167", after := #[{ on := 35, ground := Ground.data }, { on := 37, ground := Ground.data }, { on := 34, ground := Ground.chain }, { on := 34, ground := Ground.guard }], guard := some (34, true) }) rfl (fun K hK => ?_) AllReadyH.nil
            go_simp
            refine (HCL1.out _ hB5).mono ?_
            rintro e w6 ⟨rfl, hb6⟩
            have hV6 : Below V.heap.size V w6 := hV5.trans (hb6.mono hV5.size)
            have s6 := HSS.out _ hV6
            have hB6 : Below w.heap.size w w6 := hB5.trans (hb6.mono hB5.size)
            go_wp2_with fail
            refine hK.out _ _ ?_ (fun hHeld => ?_)
            · exact s6
            clear hK K
            try simp only [Act.put, List.setIfInBounds_toArray, List.set_cons_zero, List.set_cons_succ]
            refine wpAnyH_take (i := 39) (oi := { dst := some 122, op := Op.unOp UnOp.not 4 (Operand.tmp 121), type := 4, pos := "l8_program.go:167", after := #[{ on := 38, ground := Ground.data }, { on := 34, ground := Ground.guard }], guard := some (34, true) }) (v := ?vq108) rfl (by kernel_rfl) (by kernel_rfl) (by kernel_rfl) (fun _ _ _ h => h) (Or.inl ⟨by rfl, ?hy108⟩) (by assumption) ?rest108
            case hy108 =>
              first
                | (intro w hSw; (try dsimp only at hSw); go_simp; done)
                | (intro w hSw; (try dsimp only at hSw); go_simp; with_reducible rfl)
                | (intro w hSw; (try dsimp only at hSw); go_simp; simp only [hwA, hwB, if_true, hd2]; done)
                | (intro w hSw; (try dsimp only at hSw); go_simp; simp only [hwA, hwB, if_true, hd2]; with_reducible rfl)
            try simp only [Act.put, List.setIfInBounds_toArray, List.set_cons_zero, List.set_cons_succ]
            refine wpAnyH_take (i := 40) (oi := { dst := some 123, op := Op.pick (Operand.tmp 117) (Operand.tmp 122) (Operand.const (Value.bool false)), type := 4, pos := "l8_program.go:167", after := #[{ on := 34, ground := Ground.data }, { on := 39, ground := Ground.data }], guard := none }) (v := ?vq109) rfl (by kernel_rfl) (by kernel_rfl) (by kernel_rfl) (fun _ _ _ h => h) (Or.inl ⟨by rfl, ?hy109⟩) (by assumption) ?rest109
            case hy109 =>
              first
                | (intro w hSw; (try dsimp only at hSw); go_simp; done)
                | (intro w hSw; (try dsimp only at hSw); go_simp; with_reducible rfl)
                | (intro w hSw; (try dsimp only at hSw); go_simp; simp only [hwA, hwB, if_true, hd2]; done)
                | (intro w hSw; (try dsimp only at hSw); go_simp; simp only [hwA, hwB, if_true, hd2]; with_reducible rfl)
            try simp only [Act.put, List.setIfInBounds_toArray, List.set_cons_zero, List.set_cons_succ]
            refine wpAnyH_take (i := 41) (oi := { dst := some 82, op := Op.assign (Operand.tmp 123), type := 4, pos := "l8_program.go:167", after := #[{ on := 40, ground := Ground.data }, { on := 38, ground := Ground.chain }], guard := none }) (v := ?vq110) rfl (by kernel_rfl) (by kernel_rfl) (by kernel_rfl) (fun _ _ _ h => h) (Or.inl ⟨by rfl, ?hy110⟩) (by assumption) ?rest110
            case hy110 =>
              first
                | (intro w hSw; (try dsimp only at hSw); go_simp; done)
                | (intro w hSw; (try dsimp only at hSw); go_simp; with_reducible rfl)
                | (intro w hSw; (try dsimp only at hSw); go_simp; simp only [hwA, hwB, if_true, hd2]; done)
                | (intro w hSw; (try dsimp only at hSw); go_simp; simp only [hwA, hwB, if_true, hd2]; with_reducible rfl)
            try simp only [Act.put, List.setIfInBounds_toArray, List.set_cons_zero, List.set_cons_succ]
            refine wpAnyH_done (by kernel_rfl) ?_ _
            go_wp2
            go_ret2
            exact BetOut.mkN hF.out (by first | exact hB6 | exact bd1 hB6 _)
          | false =>
            have hF : Hid (R = some (cutP T (i + 2) 1)) := by show R = _; rw [HR.out, if_pos (hC3.out.2 (by simp))]
            clear HR
            refine wp_region_held_drew (S := fun w' => w'.cell? ⟨w.heap.size, 0, none⟩ = some (.int .i64 1) ∧ w'.cell? ⟨w.heap.size, 1, none⟩ = some (.int .i64 k) ∧ w'.cell? ⟨w.heap.size, 2, none⟩ = some (.int .i64 n) ∧ w'.cell? ⟨w.heap.size, 3, none⟩ = some (.int .i64 m) ∧ w'.cell? ⟨w.heap.size, 4, none⟩ = some (.string t) ∧ w'.cell? ⟨w.heap.size, 5, none⟩ = some (.int .i64 jt) ∧ w'.cell? ⟨g, o + (i + 1) * 6, none⟩ = some (.int .i64 2) ∧ w'.cell? ⟨g, o + (i + 2) * 6, none⟩ = some (.int .i64 zc) ∧ w'.cell? ⟨g, o + (i + 2) * 6 + 1, none⟩ = some (.int .i64 zk) ∧ w'.cell? ⟨g, o + (i + 2) * 6 + 2, none⟩ = some (.int .i64 zn) ∧ w'.cell? ⟨g, o + (i + 2) * 6 + 3, none⟩ = some (.int .i64 zm) ∧ w'.cell? ⟨g, o + (i + 2) * 6 + 4, none⟩ = some (.string zt) ∧ w'.cell? ⟨g, o + (i + 2) * 6 + 5, none⟩ = some (.int .i64 zj)) (by kernel_rfl) ?_ (fun hHeld => ?_)
            · exact s0d
            refine wpAnyH_take (i := 0) (oi := { dst := some 83, op := Op.fieldAddr 59 (Operand.tmp 7) 0, type := 0, pos := "l8_program.go:167", after := #[], guard := none }) (v := ?vq111) rfl (by kernel_rfl) (by kernel_rfl) (by kernel_rfl) (fun _ _ _ h => h) (Or.inl ⟨by rfl, ?hy111⟩) (by assumption) ?rest111
            case hy111 =>
              first
                | (intro w hSw; (try dsimp only at hSw); go_simp; done)
                | (intro w hSw; (try dsimp only at hSw); go_simp; with_reducible rfl)
                | (intro w hSw; (try dsimp only at hSw); go_simp; simp only [hwA, hwB, if_true, hd2]; done)
                | (intro w hSw; (try dsimp only at hSw); go_simp; simp only [hwA, hwB, if_true, hd2]; with_reducible rfl)
            try simp only [Act.put, List.setIfInBounds_toArray, List.set_cons_zero, List.set_cons_succ]
            refine wpAnyH_take (i := 1) (oi := { dst := some 84, op := Op.load 3 (Operand.tmp 83), type := 3, pos := "l8_program.go:167", after := #[{ on := 0, ground := Ground.data }], guard := none }) (v := ?vq112) rfl (by kernel_rfl) (by kernel_rfl) (by kernel_rfl) (fun _ _ _ h => h) (Or.inl ⟨by rfl, ?hy112⟩) (by assumption) ?rest112
            case hy112 =>
              first
                | (intro w hSw; (try dsimp only at hSw); go_simp; done)
                | (intro w hSw; (try dsimp only at hSw); go_simp; with_reducible rfl)
                | (intro w hSw; (try dsimp only at hSw); go_simp; simp only [hwA, hwB, if_true, hd2]; done)
                | (intro w hSw; (try dsimp only at hSw); go_simp; simp only [hwA, hwB, if_true, hd2]; with_reducible rfl)
            try simp only [Act.put, List.setIfInBounds_toArray, List.set_cons_zero, List.set_cons_succ]
            refine wpAnyH_take (i := 2) (oi := { dst := some 85, op := Op.binOp BinOp.eql 3 (Operand.tmp 84) (Operand.const (Value.int IntKind.i64 1)) 3, type := 4, pos := "l8_program.go:167", after := #[{ on := 1, ground := Ground.data }], guard := none }) (v := ?vq113) rfl (by kernel_rfl) (by kernel_rfl) (by kernel_rfl) (fun _ _ _ h => h) (Or.inl ⟨by rfl, ?hy113⟩) (by assumption) ?rest113
            case hy113 =>
              first
                | (intro w hSw; (try dsimp only at hSw); go_simp; done)
                | (intro w hSw; (try dsimp only at hSw); go_simp; with_reducible rfl)
                | (intro w hSw; (try dsimp only at hSw); go_simp; simp only [hwA, hwB, if_true, hd2]; done)
                | (intro w hSw; (try dsimp only at hSw); go_simp; simp only [hwA, hwB, if_true, hd2]; with_reducible rfl)
            try simp only [Act.put, List.setIfInBounds_toArray, List.set_cons_zero, List.set_cons_succ]
            refine wpAnyH_take (i := 3) (oi := { dst := some 86, op := Op.move (Operand.tmp 85), type := 4, pos := "l8_program.go:167", after := #[{ on := 2, ground := Ground.data }], guard := none }) (v := ?vq114) rfl (by kernel_rfl) (by kernel_rfl) (by kernel_rfl) (fun _ _ _ h => h) (Or.inl ⟨by rfl, ?hy114⟩) (by assumption) ?rest114
            case hy114 =>
              first
                | (intro w hSw; (try dsimp only at hSw); go_simp; done)
                | (intro w hSw; (try dsimp only at hSw); go_simp; with_reducible rfl)
                | (intro w hSw; (try dsimp only at hSw); go_simp; simp only [hwA, hwB, if_true, hd2]; done)
                | (intro w hSw; (try dsimp only at hSw); go_simp; simp only [hwA, hwB, if_true, hd2]; with_reducible rfl)
            try simp only [Act.put, List.setIfInBounds_toArray, List.set_cons_zero, List.set_cons_succ]
            refine wpAnyH_take (i := 4) (oi := { dst := some 87, op := Op.move (Operand.tmp 1), type := 3, pos := "l8_program.go:167", after := #[{ on := 3, ground := Ground.guard }], guard := some (3, true) }) (v := ?vq115) rfl (by kernel_rfl) (by kernel_rfl) (by kernel_rfl) (fun _ _ _ h => h) (Or.inl ⟨by rfl, ?hy115⟩) (by assumption) ?rest115
            case hy115 =>
              first
                | (intro w hSw; (try dsimp only at hSw); go_simp; done)
                | (intro w hSw; (try dsimp only at hSw); go_simp; with_reducible rfl)
                | (intro w hSw; (try dsimp only at hSw); go_simp; simp only [hwA, hwB, if_true, hd2]; done)
                | (intro w hSw; (try dsimp only at hSw); go_simp; simp only [hwA, hwB, if_true, hd2]; with_reducible rfl)
            try simp only [Act.put, List.setIfInBounds_toArray, List.set_cons_zero, List.set_cons_succ]
            refine wpAnyH_take (i := 5) (oi := { dst := some 88, op := Op.binOp BinOp.add 3 (Operand.tmp 87) (Operand.const (Value.int IntKind.i64 2)) 3, type := 3, pos := "l8_program.go:167", after := #[{ on := 4, ground := Ground.data }, { on := 3, ground := Ground.guard }], guard := some (3, true) }) (v := ?vq116) rfl (by kernel_rfl) (by kernel_rfl) (by kernel_rfl) (fun _ _ _ h => h) (Or.inl ⟨by rfl, ?hy116⟩) (by assumption) ?rest116
            case hy116 =>
              first
                | (intro w hSw; (try dsimp only at hSw); go_simp; done)
                | (intro w hSw; (try dsimp only at hSw); go_simp; with_reducible rfl)
                | (intro w hSw; (try dsimp only at hSw); go_simp; simp only [hwA, hwB, if_true, hd2]; done)
                | (intro w hSw; (try dsimp only at hSw); go_simp; simp only [hwA, hwB, if_true, hd2]; with_reducible rfl)
            try simp only [Act.put, List.setIfInBounds_toArray, List.set_cons_zero, List.set_cons_succ]
            refine wpAnyH_take (i := 6) (oi := { dst := some 89, op := Op.move (Operand.tmp 6), type := 3, pos := "l8_program.go:167", after := #[{ on := 3, ground := Ground.guard }], guard := some (3, true) }) (v := ?vq117) rfl (by kernel_rfl) (by kernel_rfl) (by kernel_rfl) (fun _ _ _ h => h) (Or.inl ⟨by rfl, ?hy117⟩) (by assumption) ?rest117
            case hy117 =>
              first
                | (intro w hSw; (try dsimp only at hSw); go_simp; done)
                | (intro w hSw; (try dsimp only at hSw); go_simp; with_reducible rfl)
                | (intro w hSw; (try dsimp only at hSw); go_simp; simp only [hwA, hwB, if_true, hd2]; done)
                | (intro w hSw; (try dsimp only at hSw); go_simp; simp only [hwA, hwB, if_true, hd2]; with_reducible rfl)
            try simp only [Act.put, List.setIfInBounds_toArray, List.set_cons_zero, List.set_cons_succ]
            refine wpAnyH_take (i := 7) (oi := { dst := some 90, op := Op.binOp BinOp.lss 3 (Operand.tmp 88) (Operand.tmp 89) 3, type := 4, pos := "l8_program.go:167", after := #[{ on := 5, ground := Ground.data }, { on := 6, ground := Ground.data }, { on := 3, ground := Ground.guard }], guard := some (3, true) }) (v := ?vq118) rfl (by kernel_rfl) (by kernel_rfl) (by kernel_rfl) (fun _ _ _ h => h) (Or.inl ⟨by rfl, ?hy118⟩) (by assumption) ?rest118
            case hy118 =>
              first
                | (intro w hSw; (try dsimp only at hSw); go_simp; done)
                | (intro w hSw; (try dsimp only at hSw); go_simp; with_reducible rfl)
                | (intro w hSw; (try dsimp only at hSw); go_simp; simp only [hwA, hwB, if_true, hd2]; done)
                | (intro w hSw; (try dsimp only at hSw); go_simp; simp only [hwA, hwB, if_true, hd2]; with_reducible rfl)
            try simp only [Act.put, List.setIfInBounds_toArray, List.set_cons_zero, List.set_cons_succ]
            refine wpAnyH_take (i := 8) (oi := { dst := some 91, op := Op.pick (Operand.tmp 86) (Operand.tmp 90) (Operand.const (Value.bool false)), type := 4, pos := "l8_program.go:167", after := #[{ on := 3, ground := Ground.data }, { on := 7, ground := Ground.data }], guard := none }) (v := ?vq119) rfl (by kernel_rfl) (by kernel_rfl) (by kernel_rfl) (fun _ _ _ h => h) (Or.inl ⟨by rfl, ?hy119⟩) (by assumption) ?rest119
            case hy119 =>
              first
                | (intro w hSw; (try dsimp only at hSw); go_simp; done)
                | (intro w hSw; (try dsimp only at hSw); go_simp; with_reducible rfl)
                | (intro w hSw; (try dsimp only at hSw); go_simp; simp only [hwA, hwB, if_true, hd2]; done)
                | (intro w hSw; (try dsimp only at hSw); go_simp; simp only [hwA, hwB, if_true, hd2]; with_reducible rfl)
            try simp only [Act.put, List.setIfInBounds_toArray, List.set_cons_zero, List.set_cons_succ]
            refine wpAnyH_take (i := 9) (oi := { dst := some 92, op := Op.move (Operand.tmp 91), type := 4, pos := "l8_program.go:167", after := #[{ on := 8, ground := Ground.data }, { on := 3, ground := Ground.chain }], guard := none }) (v := ?vq120) rfl (by kernel_rfl) (by kernel_rfl) (by kernel_rfl) (fun _ _ _ h => h) (Or.inl ⟨by rfl, ?hy120⟩) (by assumption) ?rest120
            case hy120 =>
              first
                | (intro w hSw; (try dsimp only at hSw); go_simp; done)
                | (intro w hSw; (try dsimp only at hSw); go_simp; with_reducible rfl)
                | (intro w hSw; (try dsimp only at hSw); go_simp; simp only [hwA, hwB, if_true, hd2]; done)
                | (intro w hSw; (try dsimp only at hSw); go_simp; simp only [hwA, hwB, if_true, hd2]; with_reducible rfl)
            try simp only [Act.put, List.setIfInBounds_toArray, List.set_cons_zero, List.set_cons_succ]
            refine wpAnyH_take (i := 10) (oi := { dst := some 93, op := Op.move (Operand.tmp 0), type := 28, pos := "l8_program.go:167", after := #[{ on := 9, ground := Ground.guard }], guard := some (9, true) }) (v := ?vq121) rfl (by kernel_rfl) (by kernel_rfl) (by kernel_rfl) (fun _ _ _ h => h) (Or.inl ⟨by rfl, ?hy121⟩) (by assumption) ?rest121
            case hy121 =>
              first
                | (intro w hSw; (try dsimp only at hSw); go_simp; done)
                | (intro w hSw; (try dsimp only at hSw); go_simp; with_reducible rfl)
                | (intro w hSw; (try dsimp only at hSw); go_simp; simp only [hwA, hwB, if_true, hd2]; done)
                | (intro w hSw; (try dsimp only at hSw); go_simp; simp only [hwA, hwB, if_true, hd2]; with_reducible rfl)
            try simp only [Act.put, List.setIfInBounds_toArray, List.set_cons_zero, List.set_cons_succ]
            refine wpAnyH_take (i := 11) (oi := { dst := some 94, op := Op.move (Operand.tmp 1), type := 3, pos := "l8_program.go:167", after := #[{ on := 9, ground := Ground.guard }], guard := some (9, true) }) (v := ?vq122) rfl (by kernel_rfl) (by kernel_rfl) (by kernel_rfl) (fun _ _ _ h => h) (Or.inl ⟨by rfl, ?hy122⟩) (by assumption) ?rest122
            case hy122 =>
              first
                | (intro w hSw; (try dsimp only at hSw); go_simp; done)
                | (intro w hSw; (try dsimp only at hSw); go_simp; with_reducible rfl)
                | (intro w hSw; (try dsimp only at hSw); go_simp; simp only [hwA, hwB, if_true, hd2]; done)
                | (intro w hSw; (try dsimp only at hSw); go_simp; simp only [hwA, hwB, if_true, hd2]; with_reducible rfl)
            try simp only [Act.put, List.setIfInBounds_toArray, List.set_cons_zero, List.set_cons_succ]
            refine wpAnyH_take (i := 12) (oi := { dst := some 95, op := Op.binOp BinOp.add 3 (Operand.tmp 94) (Operand.const (Value.int IntKind.i64 1)) 3, type := 3, pos := "l8_program.go:167", after := #[{ on := 11, ground := Ground.data }, { on := 9, ground := Ground.guard }], guard := some (9, true) }) (v := ?vq123) rfl (by kernel_rfl) (by kernel_rfl) (by kernel_rfl) (fun _ _ _ h => h) (Or.inl ⟨by rfl, ?hy123⟩) (by assumption) ?rest123
            case hy123 =>
              first
                | (intro w hSw; (try dsimp only at hSw); go_simp; done)
                | (intro w hSw; (try dsimp only at hSw); go_simp; with_reducible rfl)
                | (intro w hSw; (try dsimp only at hSw); go_simp; simp only [hwA, hwB, if_true, hd2]; done)
                | (intro w hSw; (try dsimp only at hSw); go_simp; simp only [hwA, hwB, if_true, hd2]; with_reducible rfl)
            try simp only [Act.put, List.setIfInBounds_toArray, List.set_cons_zero, List.set_cons_succ]
            refine wpAnyH_take (i := 13) (oi := { dst := some 96, op := Op.indexAddr 28 (Operand.tmp 93) (Operand.tmp 95), type := 0, pos := "l8_program.go:167", after := #[{ on := 10, ground := Ground.data }, { on := 12, ground := Ground.data }, { on := 9, ground := Ground.guard }], guard := some (9, true) }) (v := ?vq124) rfl (by kernel_rfl) (by kernel_rfl) (by kernel_rfl) (fun _ _ _ h => h) (Or.inl ⟨by rfl, ?hy124⟩) (by assumption) ?rest124
            case hy124 =>
              first
                | (intro w hSw; (try dsimp only at hSw); go_simp; done)
                | (intro w hSw; (try dsimp only at hSw); go_simp; with_reducible rfl)
                | (intro w hSw; (try dsimp only at hSw); go_simp; simp only [hwA, hwB, if_true, hd2]; done)
                | (intro w hSw; (try dsimp only at hSw); go_simp; simp only [hwA, hwB, if_true, hd2]; with_reducible rfl)
            try simp only [Act.put, List.setIfInBounds_toArray, List.set_cons_zero, List.set_cons_succ]
            refine wpAnyH_take (i := 14) (oi := { dst := some 97, op := Op.fieldAddr 59 (Operand.tmp 96) 0, type := 0, pos := "l8_program.go:167", after := #[{ on := 13, ground := Ground.data }, { on := 9, ground := Ground.guard }], guard := some (9, true) }) (v := ?vq125) rfl (by kernel_rfl) (by kernel_rfl) (by kernel_rfl) (fun _ _ _ h => h) (Or.inl ⟨by rfl, ?hy125⟩) (by assumption) ?rest125
            case hy125 =>
              first
                | (intro w hSw; (try dsimp only at hSw); go_simp; done)
                | (intro w hSw; (try dsimp only at hSw); go_simp; with_reducible rfl)
                | (intro w hSw; (try dsimp only at hSw); go_simp; simp only [hwA, hwB, if_true, hd2]; done)
                | (intro w hSw; (try dsimp only at hSw); go_simp; simp only [hwA, hwB, if_true, hd2]; with_reducible rfl)
            try simp only [Act.put, List.setIfInBounds_toArray, List.set_cons_zero, List.set_cons_succ]
            refine wpAnyH_take (i := 15) (oi := { dst := some 98, op := Op.load 3 (Operand.tmp 97), type := 3, pos := "l8_program.go:167", after := #[{ on := 14, ground := Ground.data }, { on := 9, ground := Ground.guard }], guard := some (9, true) }) (v := ?vq126) rfl (by kernel_rfl) (by kernel_rfl) (by kernel_rfl) (fun _ _ _ h => h) (Or.inl ⟨by rfl, ?hy126⟩) (by assumption) ?rest126
            case hy126 =>
              first
                | (intro w hSw; (try dsimp only at hSw); go_simp; done)
                | (intro w hSw; (try dsimp only at hSw); go_simp; with_reducible rfl)
                | (intro w hSw; (try dsimp only at hSw); go_simp; simp only [hwA, hwB, if_true, hd2]; done)
                | (intro w hSw; (try dsimp only at hSw); go_simp; simp only [hwA, hwB, if_true, hd2]; with_reducible rfl)
            try simp only [Act.put, List.setIfInBounds_toArray, List.set_cons_zero, List.set_cons_succ]
            refine wpAnyH_take (i := 16) (oi := { dst := some 99, op := Op.binOp BinOp.eql 3 (Operand.tmp 98) (Operand.const (Value.int IntKind.i64 2)) 3, type := 4, pos := "l8_program.go:167", after := #[{ on := 15, ground := Ground.data }, { on := 9, ground := Ground.guard }], guard := some (9, true) }) (v := ?vq127) rfl (by kernel_rfl) (by kernel_rfl) (by kernel_rfl) (fun _ _ _ h => h) (Or.inl ⟨by rfl, ?hy127⟩) (by assumption) ?rest127
            case hy127 =>
              first
                | (intro w hSw; (try dsimp only at hSw); go_simp; done)
                | (intro w hSw; (try dsimp only at hSw); go_simp; with_reducible rfl)
                | (intro w hSw; (try dsimp only at hSw); go_simp; simp only [hwA, hwB, if_true, hd2]; done)
                | (intro w hSw; (try dsimp only at hSw); go_simp; simp only [hwA, hwB, if_true, hd2]; with_reducible rfl)
            try simp only [Act.put, List.setIfInBounds_toArray, List.set_cons_zero, List.set_cons_succ]
            refine wpAnyH_take (i := 17) (oi := { dst := some 100, op := Op.pick (Operand.tmp 92) (Operand.tmp 99) (Operand.const (Value.bool false)), type := 4, pos := "l8_program.go:167", after := #[{ on := 9, ground := Ground.data }, { on := 16, ground := Ground.data }], guard := none }) (v := ?vq128) rfl (by kernel_rfl) (by kernel_rfl) (by kernel_rfl) (fun _ _ _ h => h) (Or.inl ⟨by rfl, ?hy128⟩) (by assumption) ?rest128
            case hy128 =>
              first
                | (intro w hSw; (try dsimp only at hSw); go_simp; done)
                | (intro w hSw; (try dsimp only at hSw); go_simp; with_reducible rfl)
                | (intro w hSw; (try dsimp only at hSw); go_simp; simp only [hwA, hwB, if_true, hd2]; done)
                | (intro w hSw; (try dsimp only at hSw); go_simp; simp only [hwA, hwB, if_true, hd2]; with_reducible rfl)
            try simp only [Act.put, List.setIfInBounds_toArray, List.set_cons_zero, List.set_cons_succ]
            refine wpAnyH_take (i := 18) (oi := { dst := some 101, op := Op.move (Operand.tmp 100), type := 4, pos := "l8_program.go:167", after := #[{ on := 17, ground := Ground.data }, { on := 9, ground := Ground.chain }], guard := none }) (v := ?vq129) rfl (by kernel_rfl) (by kernel_rfl) (by kernel_rfl) (fun _ _ _ h => h) (Or.inl ⟨by rfl, ?hy129⟩) (by assumption) ?rest129
            case hy129 =>
              first
                | (intro w hSw; (try dsimp only at hSw); go_simp; done)
                | (intro w hSw; (try dsimp only at hSw); go_simp; with_reducible rfl)
                | (intro w hSw; (try dsimp only at hSw); go_simp; simp only [hwA, hwB, if_true, hd2]; done)
                | (intro w hSw; (try dsimp only at hSw); go_simp; simp only [hwA, hwB, if_true, hd2]; with_reducible rfl)
            try simp only [Act.put, List.setIfInBounds_toArray, List.set_cons_zero, List.set_cons_succ]
            refine wpAnyH_take (i := 19) (oi := { dst := some 102, op := Op.move (Operand.tmp 0), type := 28, pos := "l8_program.go:167", after := #[{ on := 18, ground := Ground.guard }], guard := some (18, true) }) (v := ?vq130) rfl (by kernel_rfl) (by kernel_rfl) (by kernel_rfl) (fun _ _ _ h => h) (Or.inl ⟨by rfl, ?hy130⟩) (by assumption) ?rest130
            case hy130 =>
              first
                | (intro w hSw; (try dsimp only at hSw); go_simp; done)
                | (intro w hSw; (try dsimp only at hSw); go_simp; with_reducible rfl)
                | (intro w hSw; (try dsimp only at hSw); go_simp; simp only [hwA, hwB, if_true, hd2]; done)
                | (intro w hSw; (try dsimp only at hSw); go_simp; simp only [hwA, hwB, if_true, hd2]; with_reducible rfl)
            try simp only [Act.put, List.setIfInBounds_toArray, List.set_cons_zero, List.set_cons_succ]
            refine wpAnyH_take (i := 20) (oi := { dst := some 103, op := Op.move (Operand.tmp 1), type := 3, pos := "l8_program.go:167", after := #[{ on := 18, ground := Ground.guard }], guard := some (18, true) }) (v := ?vq131) rfl (by kernel_rfl) (by kernel_rfl) (by kernel_rfl) (fun _ _ _ h => h) (Or.inl ⟨by rfl, ?hy131⟩) (by assumption) ?rest131
            case hy131 =>
              first
                | (intro w hSw; (try dsimp only at hSw); go_simp; done)
                | (intro w hSw; (try dsimp only at hSw); go_simp; with_reducible rfl)
                | (intro w hSw; (try dsimp only at hSw); go_simp; simp only [hwA, hwB, if_true, hd2]; done)
                | (intro w hSw; (try dsimp only at hSw); go_simp; simp only [hwA, hwB, if_true, hd2]; with_reducible rfl)
            try simp only [Act.put, List.setIfInBounds_toArray, List.set_cons_zero, List.set_cons_succ]
            refine wpAnyH_take (i := 21) (oi := { dst := some 104, op := Op.binOp BinOp.add 3 (Operand.tmp 103) (Operand.const (Value.int IntKind.i64 2)) 3, type := 3, pos := "l8_program.go:167", after := #[{ on := 20, ground := Ground.data }, { on := 18, ground := Ground.guard }], guard := some (18, true) }) (v := ?vq132) rfl (by kernel_rfl) (by kernel_rfl) (by kernel_rfl) (fun _ _ _ h => h) (Or.inl ⟨by rfl, ?hy132⟩) (by assumption) ?rest132
            case hy132 =>
              first
                | (intro w hSw; (try dsimp only at hSw); go_simp; done)
                | (intro w hSw; (try dsimp only at hSw); go_simp; with_reducible rfl)
                | (intro w hSw; (try dsimp only at hSw); go_simp; simp only [hwA, hwB, if_true, hd2]; done)
                | (intro w hSw; (try dsimp only at hSw); go_simp; simp only [hwA, hwB, if_true, hd2]; with_reducible rfl)
            try simp only [Act.put, List.setIfInBounds_toArray, List.set_cons_zero, List.set_cons_succ]
            refine wpAnyH_take (i := 22) (oi := { dst := some 105, op := Op.indexAddr 28 (Operand.tmp 102) (Operand.tmp 104), type := 0, pos := "l8_program.go:167", after := #[{ on := 19, ground := Ground.data }, { on := 21, ground := Ground.data }, { on := 18, ground := Ground.guard }], guard := some (18, true) }) (v := ?vq133) rfl (by kernel_rfl) (by kernel_rfl) (by kernel_rfl) (fun _ _ _ h => h) (Or.inl ⟨by rfl, ?hy133⟩) (by assumption) ?rest133
            case hy133 =>
              first
                | (intro w hSw; (try dsimp only at hSw); go_simp; done)
                | (intro w hSw; (try dsimp only at hSw); go_simp; with_reducible rfl)
                | (intro w hSw; (try dsimp only at hSw); go_simp; simp only [hwA, hwB, if_true, hd2]; done)
                | (intro w hSw; (try dsimp only at hSw); go_simp; simp only [hwA, hwB, if_true, hd2]; with_reducible rfl)
            try simp only [Act.put, List.setIfInBounds_toArray, List.set_cons_zero, List.set_cons_succ]
            refine wpAnyH_take (i := 23) (oi := { dst := some 106, op := Op.load 59 (Operand.tmp 105), type := 59, pos := "l8_program.go:167", after := #[{ on := 22, ground := Ground.data }, { on := 18, ground := Ground.guard }], guard := some (18, true) }) (v := ?vq134) rfl (by kernel_rfl) (by kernel_rfl) (by kernel_rfl) (fun _ _ _ h => h) (Or.inl ⟨by rfl, ?hy134⟩) (by assumption) ?rest134
            case hy134 =>
              first
                | (intro w hSw; (try dsimp only at hSw); go_simp; done)
                | (intro w hSw; (try dsimp only at hSw); go_simp; with_reducible rfl)
                | (intro w hSw; (try dsimp only at hSw); go_simp; simp only [hwA, hwB, if_true, hd2]; done)
                | (intro w hSw; (try dsimp only at hSw); go_simp; simp only [hwA, hwB, if_true, hd2]; with_reducible rfl)
            try simp only [Act.put, List.setIfInBounds_toArray, List.set_cons_zero, List.set_cons_succ]
            refine wpAnyH_take (i := 24) (oi := { dst := some 107, op := Op.load 59 (Operand.tmp 7), type := 59, pos := "l8_program.go:167", after := #[{ on := 18, ground := Ground.guard }], guard := some (18, true) }) (v := ?vq135) rfl (by kernel_rfl) (by kernel_rfl) (by kernel_rfl) (fun _ _ _ h => h) (Or.inl ⟨by rfl, ?hy135⟩) (by assumption) ?rest135
            case hy135 =>
              first
                | (intro w hSw; (try dsimp only at hSw); go_simp; done)
                | (intro w hSw; (try dsimp only at hSw); go_simp; with_reducible rfl)
                | (intro w hSw; (try dsimp only at hSw); go_simp; simp only [hwA, hwB, if_true, hd2]; done)
                | (intro w hSw; (try dsimp only at hSw); go_simp; simp only [hwA, hwB, if_true, hd2]; with_reducible rfl)
            try simp only [Act.put, List.setIfInBounds_toArray, List.set_cons_zero, List.set_cons_succ]
            refine wpAnyH_take (i := 25) (oi := { dst := some 108, op := Op.binOp BinOp.eql 59 (Operand.tmp 106) (Operand.tmp 107) 59, type := 4, pos := "l8_program.go:167", after := #[{ on := 23, ground := Ground.data }, { on := 24, ground := Ground.data }, { on := 18, ground := Ground.guard }], guard := some (18, true) }) (v := ?vq136) rfl (by kernel_rfl) (by kernel_rfl) (by kernel_rfl) (fun _ _ _ h => h) (Or.inl ⟨by rfl, ?hy136⟩) (by assumption) ?rest136
            case hy136 =>
              first
                | (intro w hSw; (try dsimp only at hSw); go_simp; done)
                | (intro w hSw; (try dsimp only at hSw); go_simp; with_reducible rfl)
                | (intro w hSw; (try dsimp only at hSw); go_simp; simp only [hwA, hwB, if_true, hd2]; done)
                | (intro w hSw; (try dsimp only at hSw); go_simp; simp only [hwA, hwB, if_true, hd2]; with_reducible rfl)
            try simp only [Act.put, List.setIfInBounds_toArray, List.set_cons_zero, List.set_cons_succ]
            refine wpAnyH_take (i := 26) (oi := { dst := some 109, op := Op.pick (Operand.tmp 101) (Operand.tmp 108) (Operand.const (Value.bool false)), type := 4, pos := "l8_program.go:167", after := #[{ on := 18, ground := Ground.data }, { on := 25, ground := Ground.data }], guard := none }) (v := ?vq137) rfl (by kernel_rfl) (by kernel_rfl) (by kernel_rfl) (fun _ _ _ h => h) (Or.inl ⟨by rfl, ?hy137⟩) (by assumption) ?rest137
            case hy137 =>
              first
                | (intro w hSw; (try dsimp only at hSw); go_simp; done)
                | (intro w hSw; (try dsimp only at hSw); go_simp; with_reducible rfl)
                | (intro w hSw; (try dsimp only at hSw); go_simp; simp only [hwA, hwB, if_true, hd2]; done)
                | (intro w hSw; (try dsimp only at hSw); go_simp; simp only [hwA, hwB, if_true, hd2]; with_reducible rfl)
            try simp only [Act.put, List.setIfInBounds_toArray, List.set_cons_zero, List.set_cons_succ]
            refine wpAnyH_take (i := 27) (oi := { dst := some 110, op := Op.move (Operand.tmp 109), type := 4, pos := "l8_program.go:167", after := #[{ on := 26, ground := Ground.data }, { on := 18, ground := Ground.chain }], guard := none }) (v := ?vq138) rfl (by kernel_rfl) (by kernel_rfl) (by kernel_rfl) (fun _ _ _ h => h) (Or.inl ⟨by rfl, ?hy138⟩) (by assumption) ?rest138
            case hy138 =>
              first
                | (intro w hSw; (try dsimp only at hSw); go_simp; done)
                | (intro w hSw; (try dsimp only at hSw); go_simp; with_reducible rfl)
                | (intro w hSw; (try dsimp only at hSw); go_simp; simp only [hwA, hwB, if_true, hd2]; done)
                | (intro w hSw; (try dsimp only at hSw); go_simp; simp only [hwA, hwB, if_true, hd2]; with_reducible rfl)
            try simp only [Act.put, List.setIfInBounds_toArray, List.set_cons_zero, List.set_cons_succ]
            refine wpAnyH_take (i := 28) (oi := { dst := some 111, op := Op.move (Operand.tmp 0), type := 28, pos := "l8_program.go:167", after := #[{ on := 27, ground := Ground.guard }], guard := some (27, true) }) (v := ?vq139) rfl (by kernel_rfl) (by kernel_rfl) (by kernel_rfl) (fun _ _ _ h => h) (Or.inl ⟨by rfl, ?hy139⟩) (by assumption) ?rest139
            case hy139 =>
              first
                | (intro w hSw; (try dsimp only at hSw); go_simp; done)
                | (intro w hSw; (try dsimp only at hSw); go_simp; with_reducible rfl)
                | (intro w hSw; (try dsimp only at hSw); go_simp; simp only [hwA, hwB, if_true, hd2]; done)
                | (intro w hSw; (try dsimp only at hSw); go_simp; simp only [hwA, hwB, if_true, hd2]; with_reducible rfl)
            try simp only [Act.put, List.setIfInBounds_toArray, List.set_cons_zero, List.set_cons_succ]
            refine wpAnyH_take (i := 29) (oi := { dst := some 112, op := Op.move (Operand.tmp 1), type := 3, pos := "l8_program.go:167", after := #[{ on := 27, ground := Ground.guard }], guard := some (27, true) }) (v := ?vq140) rfl (by kernel_rfl) (by kernel_rfl) (by kernel_rfl) (fun _ _ _ h => h) (Or.inl ⟨by rfl, ?hy140⟩) (by assumption) ?rest140
            case hy140 =>
              first
                | (intro w hSw; (try dsimp only at hSw); go_simp; done)
                | (intro w hSw; (try dsimp only at hSw); go_simp; with_reducible rfl)
                | (intro w hSw; (try dsimp only at hSw); go_simp; simp only [hwA, hwB, if_true, hd2]; done)
                | (intro w hSw; (try dsimp only at hSw); go_simp; simp only [hwA, hwB, if_true, hd2]; with_reducible rfl)
            try simp only [Act.put, List.setIfInBounds_toArray, List.set_cons_zero, List.set_cons_succ]
            refine wpAnyH_take (i := 30) (oi := { dst := some 113, op := Op.binOp BinOp.add 3 (Operand.tmp 112) (Operand.const (Value.int IntKind.i64 2)) 3, type := 3, pos := "l8_program.go:167", after := #[{ on := 29, ground := Ground.data }, { on := 27, ground := Ground.guard }], guard := some (27, true) }) (v := ?vq141) rfl (by kernel_rfl) (by kernel_rfl) (by kernel_rfl) (fun _ _ _ h => h) (Or.inl ⟨by rfl, ?hy141⟩) (by assumption) ?rest141
            case hy141 =>
              first
                | (intro w hSw; (try dsimp only at hSw); go_simp; done)
                | (intro w hSw; (try dsimp only at hSw); go_simp; with_reducible rfl)
                | (intro w hSw; (try dsimp only at hSw); go_simp; simp only [hwA, hwB, if_true, hd2]; done)
                | (intro w hSw; (try dsimp only at hSw); go_simp; simp only [hwA, hwB, if_true, hd2]; with_reducible rfl)
            try simp only [Act.put, List.setIfInBounds_toArray, List.set_cons_zero, List.set_cons_succ]
            refine wpAnyH_ready (rs := [31]) (by kernel_rfl) (by simp) ?_
            refine AllReadyH.cons (o := { dst := some 114, op := Op.call { callee := Callee.value (Operand.func 67), args := #[Operand.tmp 111, Operand.tmp 113], argTypes := #[28, 3] }, type := 4, pos := "l8_program.go:167", after := #[{ on := 28, ground := Ground.data }, { on := 30, ground := Ground.data }, { on := 27, ground := Ground.chain }, { on := 27, ground := Ground.guard }], guard := some (27, true) }) rfl (fun K hK => ?_) AllReadyH.nil
            go_simp
            refine (HCL2.out _ hBVd).mono ?_
            rintro e w5 ⟨rfl, hb5⟩
            have hV5 : Below V.heap.size V w5 := hdV.trans hb5
            have s5 := HSS.out _ hV5
            have hB5 : Below w.heap.size w w5 := hBV.trans (hV5.mono hBV.size)
            go_wp2_with fail
            refine hK.out _ _ ?_ (fun hHeld => ?_)
            · exact s5
            clear hK K
            try simp only [Act.put, List.setIfInBounds_toArray, List.set_cons_zero, List.set_cons_succ]
            refine wpAnyH_take (i := 32) (oi := { dst := some 115, op := Op.unOp UnOp.not 4 (Operand.tmp 114), type := 4, pos := "l8_program.go:167", after := #[{ on := 31, ground := Ground.data }, { on := 27, ground := Ground.guard }], guard := some (27, true) }) (v := ?vq142) rfl (by kernel_rfl) (by kernel_rfl) (by kernel_rfl) (fun _ _ _ h => h) (Or.inl ⟨by rfl, ?hy142⟩) (by assumption) ?rest142
            case hy142 =>
              first
                | (intro w hSw; (try dsimp only at hSw); go_simp; done)
                | (intro w hSw; (try dsimp only at hSw); go_simp; with_reducible rfl)
                | (intro w hSw; (try dsimp only at hSw); go_simp; simp only [hwA, hwB, if_true, hd2]; done)
                | (intro w hSw; (try dsimp only at hSw); go_simp; simp only [hwA, hwB, if_true, hd2]; with_reducible rfl)
            try simp only [Act.put, List.setIfInBounds_toArray, List.set_cons_zero, List.set_cons_succ]
            refine wpAnyH_take (i := 33) (oi := { dst := some 116, op := Op.pick (Operand.tmp 110) (Operand.tmp 115) (Operand.const (Value.bool false)), type := 4, pos := "l8_program.go:167", after := #[{ on := 27, ground := Ground.data }, { on := 32, ground := Ground.data }], guard := none }) (v := ?vq143) rfl (by kernel_rfl) (by kernel_rfl) (by kernel_rfl) (fun _ _ _ h => h) (Or.inl ⟨by rfl, ?hy143⟩) (by assumption) ?rest143
            case hy143 =>
              first
                | (intro w hSw; (try dsimp only at hSw); go_simp; done)
                | (intro w hSw; (try dsimp only at hSw); go_simp; with_reducible rfl)
                | (intro w hSw; (try dsimp only at hSw); go_simp; simp only [hwA, hwB, if_true, hd2]; done)
                | (intro w hSw; (try dsimp only at hSw); go_simp; simp only [hwA, hwB, if_true, hd2]; with_reducible rfl)
            try simp only [Act.put, List.setIfInBounds_toArray, List.set_cons_zero, List.set_cons_succ]
            refine wpAnyH_take (i := 34) (oi := { dst := some 117, op := Op.move (Operand.tmp 116), type := 4, pos := "l8_program.go:167", after := #[{ on := 33, ground := Ground.data }, { on := 31, ground := Ground.chain }], guard := none }) (v := ?vq144) rfl (by kernel_rfl) (by kernel_rfl) (by kernel_rfl) (fun _ _ _ h => h) (Or.inl ⟨by rfl, ?hy144⟩) (by assumption) ?rest144
            case hy144 =>
              first
                | (intro w hSw; (try dsimp only at hSw); go_simp; done)
                | (intro w hSw; (try dsimp only at hSw); go_simp; with_reducible rfl)
                | (intro w hSw; (try dsimp only at hSw); go_simp; simp only [hwA, hwB, if_true, hd2]; done)
                | (intro w hSw; (try dsimp only at hSw); go_simp; simp only [hwA, hwB, if_true, hd2]; with_reducible rfl)
            try simp only [Act.put, List.setIfInBounds_toArray, List.set_cons_zero, List.set_cons_succ]
            refine wpAnyH_take (i := 35) (oi := { dst := some 118, op := Op.move (Operand.tmp 0), type := 28, pos := "l8_program.go:167", after := #[{ on := 34, ground := Ground.guard }], guard := some (34, true) }) (v := ?vq145) rfl (by kernel_rfl) (by kernel_rfl) (by kernel_rfl) (fun _ _ _ h => h) (Or.inl ⟨by rfl, ?hy145⟩) (by assumption) ?rest145
            case hy145 =>
              first
                | (intro w hSw; (try dsimp only at hSw); go_simp; done)
                | (intro w hSw; (try dsimp only at hSw); go_simp; with_reducible rfl)
                | (intro w hSw; (try dsimp only at hSw); go_simp; simp only [hwA, hwB, if_true, hd2]; done)
                | (intro w hSw; (try dsimp only at hSw); go_simp; simp only [hwA, hwB, if_true, hd2]; with_reducible rfl)
            try simp only [Act.put, List.setIfInBounds_toArray, List.set_cons_zero, List.set_cons_succ]
            refine wpAnyH_take (i := 36) (oi := { dst := some 119, op := Op.move (Operand.tmp 1), type := 3, pos := "l8_program.go:167", after := #[{ on := 34, ground := Ground.guard }], guard := some (34, true) }) (v := ?vq146) rfl (by kernel_rfl) (by kernel_rfl) (by kernel_rfl) (fun _ _ _ h => h) (Or.inl ⟨by rfl, ?hy146⟩) (by assumption) ?rest146
            case hy146 =>
              first
                | (intro w hSw; (try dsimp only at hSw); go_simp; done)
                | (intro w hSw; (try dsimp only at hSw); go_simp; with_reducible rfl)
                | (intro w hSw; (try dsimp only at hSw); go_simp; simp only [hwA, hwB, if_true, hd2]; done)
                | (intro w hSw; (try dsimp only at hSw); go_simp; simp only [hwA, hwB, if_true, hd2]; with_reducible rfl)
            try simp only [Act.put, List.setIfInBounds_toArray, List.set_cons_zero, List.set_cons_succ]
            refine wpAnyH_take (i := 37) (oi := { dst := some 120, op := Op.binOp BinOp.add 3 (Operand.tmp 119) (Operand.const (Value.int IntKind.i64 1)) 3, type := 3, pos := "l8_program.go:167", after := #[{ on := 36, ground := Ground.data }, { on := 34, ground := Ground.guard }], guard := some (34, true) }) (v := ?vq147) rfl (by kernel_rfl) (by kernel_rfl) (by kernel_rfl) (fun _ _ _ h => h) (Or.inl ⟨by rfl, ?hy147⟩) (by assumption) ?rest147
            case hy147 =>
              first
                | (intro w hSw; (try dsimp only at hSw); go_simp; done)
                | (intro w hSw; (try dsimp only at hSw); go_simp; with_reducible rfl)
                | (intro w hSw; (try dsimp only at hSw); go_simp; simp only [hwA, hwB, if_true, hd2]; done)
                | (intro w hSw; (try dsimp only at hSw); go_simp; simp only [hwA, hwB, if_true, hd2]; with_reducible rfl)
            try simp only [Act.put, List.setIfInBounds_toArray, List.set_cons_zero, List.set_cons_succ]
            refine wpAnyH_ready (rs := [38]) (by kernel_rfl) (by simp) ?_
            refine AllReadyH.cons (o := { dst := some 121, op := Op.call { callee := Callee.value (Operand.func 67), args := #[Operand.tmp 118, Operand.tmp 120], argTypes := #[28, 3] }, type := 4, pos := "l8_program.go:167", after := #[{ on := 35, ground := Ground.data }, { on := 37, ground := Ground.data }, { on := 34, ground := Ground.chain }, { on := 34, ground := Ground.guard }], guard := some (34, true) }) rfl (fun K hK => ?_) AllReadyH.nil
            go_simp
            refine (HCL1.out _ hB5).mono ?_
            rintro e w6 ⟨rfl, hb6⟩
            have hV6 : Below V.heap.size V w6 := hV5.trans (hb6.mono hV5.size)
            have s6 := HSS.out _ hV6
            have hB6 : Below w.heap.size w w6 := hB5.trans (hb6.mono hB5.size)
            go_wp2_with fail
            refine hK.out _ _ ?_ (fun hHeld => ?_)
            · exact s6
            clear hK K
            try simp only [Act.put, List.setIfInBounds_toArray, List.set_cons_zero, List.set_cons_succ]
            refine wpAnyH_take (i := 39) (oi := { dst := some 122, op := Op.unOp UnOp.not 4 (Operand.tmp 121), type := 4, pos := "l8_program.go:167", after := #[{ on := 38, ground := Ground.data }, { on := 34, ground := Ground.guard }], guard := some (34, true) }) (v := ?vq148) rfl (by kernel_rfl) (by kernel_rfl) (by kernel_rfl) (fun _ _ _ h => h) (Or.inl ⟨by rfl, ?hy148⟩) (by assumption) ?rest148
            case hy148 =>
              first
                | (intro w hSw; (try dsimp only at hSw); go_simp; done)
                | (intro w hSw; (try dsimp only at hSw); go_simp; with_reducible rfl)
                | (intro w hSw; (try dsimp only at hSw); go_simp; simp only [hwA, hwB, if_true, hd2]; done)
                | (intro w hSw; (try dsimp only at hSw); go_simp; simp only [hwA, hwB, if_true, hd2]; with_reducible rfl)
            try simp only [Act.put, List.setIfInBounds_toArray, List.set_cons_zero, List.set_cons_succ]
            refine wpAnyH_take (i := 40) (oi := { dst := some 123, op := Op.pick (Operand.tmp 117) (Operand.tmp 122) (Operand.const (Value.bool false)), type := 4, pos := "l8_program.go:167", after := #[{ on := 34, ground := Ground.data }, { on := 39, ground := Ground.data }], guard := none }) (v := ?vq149) rfl (by kernel_rfl) (by kernel_rfl) (by kernel_rfl) (fun _ _ _ h => h) (Or.inl ⟨by rfl, ?hy149⟩) (by assumption) ?rest149
            case hy149 =>
              first
                | (intro w hSw; (try dsimp only at hSw); go_simp; done)
                | (intro w hSw; (try dsimp only at hSw); go_simp; with_reducible rfl)
                | (intro w hSw; (try dsimp only at hSw); go_simp; simp only [hwA, hwB, if_true, hd2]; done)
                | (intro w hSw; (try dsimp only at hSw); go_simp; simp only [hwA, hwB, if_true, hd2]; with_reducible rfl)
            try simp only [Act.put, List.setIfInBounds_toArray, List.set_cons_zero, List.set_cons_succ]
            refine wpAnyH_take (i := 41) (oi := { dst := some 82, op := Op.assign (Operand.tmp 123), type := 4, pos := "l8_program.go:167", after := #[{ on := 40, ground := Ground.data }, { on := 38, ground := Ground.chain }], guard := none }) (v := ?vq150) rfl (by kernel_rfl) (by kernel_rfl) (by kernel_rfl) (fun _ _ _ h => h) (Or.inl ⟨by rfl, ?hy150⟩) (by assumption) ?rest150
            case hy150 =>
              first
                | (intro w hSw; (try dsimp only at hSw); go_simp; done)
                | (intro w hSw; (try dsimp only at hSw); go_simp; with_reducible rfl)
                | (intro w hSw; (try dsimp only at hSw); go_simp; simp only [hwA, hwB, if_true, hd2]; done)
                | (intro w hSw; (try dsimp only at hSw); go_simp; simp only [hwA, hwB, if_true, hd2]; with_reducible rfl)
            try simp only [Act.put, List.setIfInBounds_toArray, List.set_cons_zero, List.set_cons_succ]
            refine wpAnyH_done (by kernel_rfl) ?_ _
            go_wp2_with fail
            refine (HCC.out _ hB6).mono ?_
            rintro e w7 ⟨v7, rfl, hr7, hb7⟩
            have hB7 : Below w.heap.size w w7 := hB6.trans (hb7.mono hB6.size)
            have HR7 : Hid (IRow w7 w.heap.size v7 (cutP T (i + 2) 1)) := hr7.lower hB6.size
            clear hb7 hr7
            go_wp2
            go_ret2
            exact BetOut.mkS hF.out HR7.out hB7
      | false =>
        have hF : Hid (R = none) := by show R = _; rw [HR.out, if_neg (fun h => by have := (hC1.out.1 h).2.1; rw [hie] at this; cases this)]
        clear HR hC1 hC2 CC
        go_wp2_with fail
        go_quiet (fail)
        go_wp2_with fail
        go_quiet (fail)
        go_wp2
        go_ret2
        exact BetOut.mkN hF.out (bd2 hB3 _ _)
    · have hcn' : (cn == 2) = false := by simp [hcn]
      have hF : Hid (R = none) := by show R = _; rw [HR.out, if_neg (fun h => hcn (hC1.out.1 h).1)]
      clear HR hC1 hC2 CC hcn
      go_wp2_with fail
      go_quiet (fail)
      go_wp2_with fail
      go_quiet (fail)
      go_wp2
      go_ret2
      exact BetOut.mkN hF.out (bd2 hB3 _ _)
  · have hil2 : decide ((i : Int) + 2 < (T.length : Int)) = false := by simp; omega
    have hil3 : ¬ (i : Int) + 2 < (T.length : Int) := by omega
    have hi63 : (i : Int) + 2 ≤ 9223372036854775807 := by omega
    have hF : Hid (R = none) := by show R = _; rw [HR.out, if_neg (fun h => hi2 h.2.1)]
    clear HR hrow hg hty1
    generalize ins T i = x at hty hc
    obtain ⟨c, k, n, m, t, jt⟩ := x
    obtain ⟨c0, c1, c2, c3, c4, c5⟩ := hty
    dsimp only at c0 c1 c2 c3 c4 c5 hc
    subst hc
    go_enter Tryd.func37, Tryd.ntmps37
    go_wp2_with fail
    go_quiet (fail)
    go_wp2_with fail
    go_quiet (fail)
    go_wp2
    go_ret2
    exact BetOut.mkN hF.out (bd2 (hB3 _) _ _)

theorem l8Better_any (T : List Ins) (v : Value) (i : Nat) (w : World) (hT : InsAt w w.heap.size v T) (hg : gp T = true) (hi : i < T.length) :
    Calls Tryd.prog 37 #[v, .int .i64 i] w (BetOut w (bet T i)) := by
  rcases gp_codes hg hi with hc | hc | hc | hc | hc
  · exact l8Better_seek T v i w hT hg hi hc
  · exact l8Better_else T v i w hT hg hi (.inl hc)
  · exact l8Better_jump T v i w hT hg hi hc
  · exact l8Better_flip T v i w hT hg hi hc
  · exact l8Better_else T v i w hT hg hi (.inr hc)

end Go.Proofs.YtmjpmmkjfimopaaDoor
