/- The model's l8Better. -/
import Derived.Test.YtpopjapcgcnnfaaPhB
import Derived.Test.YtpopjapcgcnnfaaPiB
import Derived.BigQuiet
namespace Go.Proofs.Ytpopjapcgcnnfaa
open Go.RowKit Plain Sch Wan Prg

attribute [local go_sem ↓] eqlI

theorem bd1 {B : Nat} {w w' : World} (h : Below B w w') (n : Nat) : Below B w (w'.drewN n) := ⟨h.os, h.tape, h.output, h.size, h.block⟩
theorem bd2 {B : Nat} {w w' : World} (h : Below B w w') (n k : Nat) : Below B w ((w'.drewN n).drewN k) := bd1 (bd1 h n) k

theorem onesI (T : List Ins) : ∀ u ∈ T.flatMap Ins.cells, u.oneCell' = true := by
  intro u hu
  rw [List.mem_flatMap] at hu
  obtain ⟨x, _, hx⟩ := hu
  exact one6I x.code x.kind x.no x.num x.text x.dst u hx

/-- what l8Better tells -/
def BetOut (w : World) (R : Option (List Ins)) (e : Ending) (w' : World) : Prop :=
  (∀ U, R = some U → ∃ v', e = .returned (.tuple #[v', .bool true]) ∧ IRow w' w.heap.size v' U) ∧ (R = none → e = .returned (.tuple #[.slice none 0 0, .bool false])) ∧ Below w.heap.size w w'

theorem BetOut.mkS {w w' : World} {R : Option (List Ins)} {U : List Ins} {v' : Value} (hF : R = some U) (hr : IRow w' w.heap.size v' U) (hb : Below w.heap.size w w') : BetOut w R (.returned (.tuple #[v', .bool true])) w' :=
  ⟨fun V hV => (by rw [hF] at hV; cases hV; exact ⟨v', rfl, hr⟩), fun hV => (by rw [hF] at hV; cases hV), hb⟩
theorem BetOut.mkN {w w' : World} {R : Option (List Ins)} (hF : R = none) (hb : Below w.heap.size w w') : BetOut w R (.returned (.tuple #[.slice none 0 0, .bool false])) w' :=
  ⟨fun V hV => (by rw [hF] at hV; cases hV), fun _ => rfl, hb⟩

theorem okI_seek {x : Ins} {i : Nat} {last : Int} (h : okI x i last = true) (hc : x.code = 1) : x = ⟨1, 0, x.no, 0, ⟨#[]⟩, 0⟩ := by
  unfold okI at h
  rw [if_pos hc] at h
  simp only [Bool.and_eq_true, decide_eq_true_eq] at h
  have := h.2
  rw [hc] at this
  exact this

theorem seek_same {x y : Ins} {i j : Nat} {last : Int} (hx : okI x i last = true) (hy : okI y j last = true) (hc : x.code = 1) : ieq y x = (decide (y.code = 1) && decide (y.no = x.no)) := by
  have e1 := okI_seek hx hc
  unfold ieq
  by_cases h1 : y.code = 1
  · have e2 := okI_seek hy h1
    by_cases h2 : y.no = x.no
    · have : y = x := by rw [e2, e1, h2]
      simp [this, hc]
    · have : ¬ y = x := fun e => h2 (by rw [e])
      simp [this, h2]
  · have : ¬ y = x := fun e => h1 (by rw [e]; exact hc)
    simp [this, h1]

set_option maxRecDepth 100000 in
set_option maxHeartbeats 8000000 in
/-- where it is a flip -/
theorem l8Better_flip (T : List Ins) (v : Value) (i : Nat) (w : World) (hT : InsAt w w.heap.size v T) (hg : gp T = true) (hi : i < T.length) (hc : (ins T i).code = 4) :
    Calls Try.prog 64 #[v, .int .i64 i] w (BetOut w (bet T i)) := by
  obtain ⟨h0, h60⟩ := gp_len hg
  have hi1 := gp_next hg hi (by omega)
  have hnB : ¬ isB T i := fun h => by have := h.1; omega
  have hnC : ¬ isC T i := fun h => by have := h.1; omega
  obtain ⟨R, hR⟩ : ∃ R, R = bet T i := ⟨_, rfl⟩
  rw [← hR]
  have HR : Hid (R = if isA T i then some (cutP T i 2) else none) := by show R = _; rw [hR]; unfold bet; rw [if_neg hnB, if_neg hnC]
  clear hR hnB hnC
  have HT : Hid (InsAt w w.heap.size v T) := hT
  obtain ⟨ao, cap, rfl, hlc, hcm, hrow, _⟩ := hT
  unfold maxLen at hcm
  obtain ⟨g, o, rfl, hgw, hty⟩ := hrow i hi
  obtain ⟨g', o', hao, _, hty1⟩ := hrow (i + 1) hi1
  simp only [Option.some.injEq, Addr.mk.injEq, and_true] at hao
  obtain ⟨rfl, rfl⟩ := hao
  have hil : (i : Int) < (T.length : Int) := by omega
  have hil1 : (i : Int) + 1 < (T.length : Int) := by omega
  have CL : Hid (∀ W : World, Below w.heap.size w W → Calls Try.prog 96 #[.slice (some ⟨g, o, none⟩) T.length cap, .int .i64 ((i : Int) + 1)] W fun e w' => e = .returned (.bool (led T ((i : Int) + 1))) ∧ Below W.heap.size W w') := fun W hW => l8Led_any T _ _ W (HT.out.below hW) h60
  have CC : Hid (∀ W : World, Below w.heap.size w W → led T ((i : Int) + 1) = false → (ins T (i + 1)).code = 4 → Calls Try.prog 97 #[.slice (some ⟨g, o, none⟩) T.length cap, .int .i64 i, .int .i64 2] W fun e w' => ∃ v', e = .returned v' ∧ IRow w' W.heap.size v' (cutP T i 2) ∧ Below W.heap.size W w') := fun W hW hled hc1 => by
    have hi2 := gp_next hg hi1 (by omega)
    exact l8Cut_any T _ i 2 W (HT.out.below hW) h60 (by omega) (fun j hj hjc => by obtain ⟨a, b, _⟩ := gp_jump hg hj hjc; omega) (fun j hj hjc hto => by have := led_no hled hj hjc; omega)
  have hA1 : Hid (isA T i ↔ ((ins T (i + 1)).code = 4 ∧ led T ((i : Int) + 1) = false)) := ⟨fun h => ⟨h.2.2.1, h.2.2.2⟩, fun h => ⟨hc, hi1, h.1, h.2⟩⟩
  clear hrow hg
  generalize led T ((i : Int) + 1) = ld at CL CC hA1
  obtain ⟨y0, _, _, _, _, _⟩ := hty1
  generalize (ins T (i + 1)).code = cn at y0 CC hA1
  generalize ins T i = x at hty hc
  obtain ⟨c, k, n, m, t, jt⟩ := x
  dsimp only at hc
  subst hc
  obtain ⟨c0, c1, c2, c3, c4, c5⟩ := hty
  dsimp only at c0 c1 c2 c3 c4 c5
  obtain ⟨W3, hW3⟩ : ∃ W, W = w.alloc (.cells #[.int .i64 4, .int .i64 k, .int .i64 n, .int .i64 m, .string t, .int .i64 jt] 76) := ⟨_, rfl⟩
  have hB3 : Below w.heap.size w W3 := by rw [hW3]; exact (Below.refl _ w).alloc (Nat.le_refl _) _
  have hl3 : w.heap.size < W3.heap.size := by rw [hW3]; simp
  have x0 : W3.cell? ⟨w.heap.size, 0, none⟩ = some (.int .i64 4) := by rw [hW3]; go_simp
  have y0 := (hB3.cell (p := ⟨g, o + (i + 1) * 6, none⟩) hgw).trans y0
  have hgw3 : g < W3.heap.size := by omega
  go_enter Try.func64, Try.ntmps64
  go_upto_region 3 with fail
  rw [← hW3]
  clear hW3 c0 c1 c2 c3 c4 c5
  by_cases hcn : cn = 4
  · subst hcn
    go_wp2_with fail
    refine (CL.out _ hB3).mono ?_
    rintro e w4 ⟨rfl, hb4⟩
    have hB4 : Below w.heap.size w w4 := hB3.trans (hb4.mono (by omega))
    have x0 := (hb4.cell (p := ⟨w.heap.size, 0, none⟩) hl3).trans x0
    have hl4 : w.heap.size < w4.heap.size := by have := hb4.size; omega
    clear hb4
    cases ld with
    | false =>
      have hF : Hid (R = some (cutP T i 2)) := by show R = _; rw [HR.out, if_pos (hA1.out.2 (by simp))]
      clear HR
      go_wp2_with fail
      refine (CC.out _ hB4 (by first | rfl | trivial) (by first | rfl | trivial)).mono ?_
      rintro e w5 ⟨v5, rfl, hr5, hb5⟩
      have hB5 : Below w.heap.size w w5 := hB4.trans (hb5.mono hB4.size)
      have HR5 : Hid (IRow w5 w.heap.size v5 (cutP T i 2)) := hr5.lower hB4.size
      clear hb5 hr5
      go_wp2
      go_ret2
      exact BetOut.mkS hF.out HR5.out hB5
    | true =>
      have hF : Hid (R = none) := by show R = _; rw [HR.out, if_neg (fun h => by have := hA1.out.1 h; simp at this)]
      clear HR
      go_wp2_with fail
      go_quiet (fail)
      go_wp2_with fail
      go_quiet (fail)
      go_wp2
      go_ret2
      exact BetOut.mkN hF.out (bd2 hB4 _ _)
  · have hcn' : (cn == 4) = false := by simp [hcn]
    have hF : Hid (R = none) := by show R = _; rw [HR.out, if_neg (fun h => hcn (hA1.out.1 h).1)]
    clear HR
    go_wp2_with fail
    go_quiet (fail)
    go_wp2_with fail
    go_quiet (fail)
    go_wp2
    go_ret2
    exact BetOut.mkN hF.out (bd2 hB3 _ _)

set_option maxRecDepth 100000 in
set_option maxHeartbeats 4000000 in
/-- where it is a test or the end -/
theorem l8Better_else (T : List Ins) (v : Value) (i : Nat) (w : World) (hT : InsAt w w.heap.size v T) (hg : gp T = true) (hi : i < T.length) (hc : (ins T i).code = 2 ∨ (ins T i).code = 5) :
    Calls Try.prog 64 #[v, .int .i64 i] w (BetOut w (bet T i)) := by
  have hl60 := gp_len hg
  have hF : Hid (bet T i = none) := by
    show bet T i = none
    unfold bet
    rw [if_neg (fun h => by have := h.1; omega), if_neg (fun h => by have := h.1; omega), if_neg (fun h => by have := h.1; omega)]
  generalize bet T i = R at hF
  obtain ⟨ao, cap, rfl, hlc, hcm, hrow, _⟩ := hT
  unfold maxLen at hcm
  obtain ⟨g, o, rfl, hgw, hty⟩ := hrow i hi
  have hil : (i : Int) < (T.length : Int) := by omega
  clear hrow hg
  generalize ins T i = x at hty hc
  obtain ⟨c, k, n, m, t, jt⟩ := x
  obtain ⟨c0, c1, c2, c3, c4, c5⟩ := hty
  dsimp only at c0 c1 c2 c3 c4 c5 hc
  have hB3 : ∀ o, Below w.heap.size w (w.alloc o) := fun o => (Below.refl _ w).alloc (Nat.le_refl _) o
  rcases hc with rfl | rfl
  all_goals
    go_enter Try.func64, Try.ntmps64
    go_wp2_with fail
    go_quiet (fail)
    go_wp2_with fail
    go_quiet (fail)
    go_wp2
    go_ret2
    exact BetOut.mkN hF.out (bd2 (hB3 _) _ _)

set_option maxRecDepth 100000 in
set_option maxHeartbeats 8000000 in
/-- where it is a jump -/
theorem l8Better_jump (T : List Ins) (v : Value) (i : Nat) (w : World) (hT : InsAt w w.heap.size v T) (hg : gp T = true) (hi : i < T.length) (hc : (ins T i).code = 3) :
    Calls Try.prog 64 #[v, .int .i64 i] w (BetOut w (bet T i)) := by
  obtain ⟨i0, hi0, hz0, hz1, hz2⟩ := info_parts Try.infoIns
  obtain ⟨h0, h60⟩ := gp_len hg
  obtain ⟨hj1, hj2, hj3⟩ := gp_jump hg hi hc
  obtain ⟨q, hq⟩ : ∃ q : Nat, (ins T i).dst = (q : Int) := ⟨(ins T i).dst.toNat, by omega⟩
  have hqT : q < T.length := by omega
  have hnA : ¬ isA T i := fun h => by have := h.1; omega
  have hnC : ¬ isC T i := fun h => by have := h.1; omega
  obtain ⟨R, hR⟩ : ∃ R, R = bet T i := ⟨_, rfl⟩
  rw [← hR]
  have HR : Hid (R = if ((ins T q).code = 3 ∧ (ins T q).num = (ins T i).num) then some (T.set i ⟨(ins T i).code, (ins T i).kind, (ins T i).no, (ins T i).num, (ins T i).text, (ins T q).dst⟩) else none) := by
    show R = _
    have hBB : isB T i ↔ ((ins T q).code = 3 ∧ (ins T q).num = (ins T i).num) := by
      unfold isB
      rw [hq]
      simp [hc]
    rw [hR]
    unfold bet
    rw [if_neg hnA, if_neg hnC]
    by_cases hb : isB T i
    · rw [if_pos hb, if_pos (hBB.1 hb)]
      unfold ledOn
      rw [hq]
      rfl
    · rw [if_neg hb, if_neg (fun h => hb (hBB.2 h))]
  clear hR hnA hnC
  obtain ⟨ao, cap, rfl, hlc, hcm, hrow, _⟩ := hT
  have HNEW : Hid (∀ W : World, Below w.heap.size w W → ∃ g o, ao = some ⟨g, o, none⟩ ∧ ∀ j u, (T.flatMap Ins.cells)[j]? = some u → W.cell? ((⟨g, o, none⟩ : Addr).add j) = some u) := fun W hW => by
    obtain ⟨g, o, ha, _, _⟩ := hrow 0 (by omega)
    refine ⟨g, o, ha, fun j u hju => ?_⟩
    have hjl : j < T.length * 6 := by have := (List.getElem?_eq_some_iff.1 hju).1; rw [flat6Ins_len] at this; exact this
    obtain ⟨g', o', ha', hg', hc'⟩ := hrow (j / 6) (by omega)
    rw [ha] at ha'
    simp only [Option.some.injEq, Addr.mk.injEq, and_true] at ha'
    obtain ⟨rfl, rfl⟩ := ha'
    have hcc := hc'.below hW hg'
    have e : j = j / 6 * 6 + j % 6 := by omega
    have hf := flat6Ins T (j / 6) (j % 6) (by omega) (by omega)
    rw [← e] at hf
    rw [hf] at hju
    have ha2 : ((⟨g, o, none⟩ : Addr).add j) = ⟨g, o + (j / 6) * 6 + j % 6, none⟩ := by
      unfold Addr.add
      by_cases hj0 : j = 0
      · rw [if_pos hj0, hj0]
        rfl
      · rw [if_neg hj0]
        show (⟨g, o + j, none⟩ : Addr) = _
        congr 1
        omega
    rw [ha2]
    obtain ⟨k0, k1, k2, k3, k4, k5⟩ := hcc
    have hm : j % 6 < 6 := Nat.mod_lt _ (by omega)
    generalize j % 6 = r at hju hm ⊢
    match r, hm with
    | 0, _ => rw [← hju]; exact k0
    | 1, _ => rw [← hju]; exact k1
    | 2, _ => rw [← hju]; exact k2
    | 3, _ => rw [← hju]; exact k3
    | 4, _ => rw [← hju]; exact k4
    | 5, _ => rw [← hju]; exact k5
    | n + 6, h => exact absurd h (by omega)
  unfold maxLen at hcm
  obtain ⟨g, o, rfl, hgw, hty⟩ := hrow i hi
  obtain ⟨g', o', hao, _, htyq⟩ := hrow q hqT
  simp only [Option.some.injEq, Addr.mk.injEq, and_true] at hao
  obtain ⟨rfl, rfl⟩ := hao
  have hil : (i : Int) < (T.length : Int) := by omega
  have hql : (q : Int) < (T.length : Int) := by omega
  have HLT : Hid (T.length ≤ 60) := h60
  have HSET : Hid (∀ (w9 : World) (g9 cap9 : Nat), w9.ownsRow w.heap.size 76 6 (.slice (some ⟨g9, 0, none⟩) T.length cap9) T.length (T.flatMap Ins.cells) → IRow (w9.setCell ⟨g9, i * 6 + 5, none⟩ (.int .i64 (ins T q).dst)) w.heap.size (.slice (some ⟨g9, 0, none⟩) T.length cap9) (T.set i ⟨(ins T i).code, (ins T i).kind, (ins T i).no, (ins T i).num, (ins T i).text, (ins T q).dst⟩)) := fun w9 g9 cap9 h => IRow.dst (L := T) h hi _
  clear hrow hg
  obtain ⟨D, hD⟩ : ∃ D, D = T.set i ⟨(ins T i).code, (ins T i).kind, (ins T i).no, (ins T i).num, (ins T i).text, (ins T q).dst⟩ := ⟨_, rfl⟩
  rw [← hD] at HR HSET
  clear hD
  generalize ins T q = y at htyq HR HSET
  generalize ins T i = x at hty hc hq HR hj3
  obtain ⟨c, k, n, m, t, jt⟩ := x
  obtain ⟨yc, yk, yn, ym, yt, yj⟩ := y
  dsimp only at hc hq HR HSET hj3
  subst hc hq
  obtain ⟨c0, c1, c2, c3, c4, c5⟩ := hty
  obtain ⟨d0, d1, d2, d3, d4, d5⟩ := htyq
  dsimp only at c0 c1 c2 c3 c4 c5 d0 d3 d5
  obtain ⟨W3, hW3⟩ : ∃ W, W = w.alloc (.cells #[.int .i64 3, .int .i64 k, .int .i64 n, .int .i64 m, .string t, .int .i64 (q : Int)] 76) := ⟨_, rfl⟩
  have hB3 : Below w.heap.size w W3 := by rw [hW3]; exact (Below.refl _ w).alloc (Nat.le_refl _) _
  have hl3 : w.heap.size < W3.heap.size := by rw [hW3]; simp
  have x0 : W3.cell? ⟨w.heap.size, 0, none⟩ = some (.int .i64 3) := by rw [hW3]; go_simp
  have x3 : W3.cell? ⟨w.heap.size, 3, none⟩ = some (.int .i64 m) := by rw [hW3]; go_simp
  have x5 : W3.cell? ⟨w.heap.size, 5, none⟩ = some (.int .i64 (q : Int)) := by rw [hW3]; go_simp
  have d0 := (hB3.cell (p := ⟨g, o + q * 6, none⟩) hgw).trans d0
  have d3 := (hB3.cell (p := ⟨g, o + q * 6 + 3, none⟩) hgw).trans d3
  have d5 := (hB3.cell (p := ⟨g, o + q * 6 + 5, none⟩) hgw).trans d5
  have hgw3 : g < W3.heap.size := by omega
  go_enter Try.func64, Try.ntmps64
  go_upto_region 3 with fail
  rw [← hW3]
  clear hW3 c0 c1 c2 c3 c4 c5 d1 d2 d4
  by_cases h3 : yc = 3
  · subst h3
    by_cases hm : ym = m
    · subst hm
      have hF : Hid (R = some D) := by show R = _; rw [HR.out, if_pos ⟨rfl, rfl⟩]
      clear HR
      go_wp2_with fail
      go_quiet (fail)
      obtain ⟨V, hV⟩ : ∃ V, V = W3.drewN nq := ⟨_, rfl⟩
      rw [← hV]
      have hBV : Below w.heap.size w V := by rw [hV]; exact bd1 hB3 _
      have hlV : w.heap.size < V.heap.size := by rw [hV]; exact hl3
      have x5 : V.cell? ⟨w.heap.size, 5, none⟩ = some (.int .i64 (q : Int)) := by rw [hV]; exact x5
      have d5 : V.cell? ⟨g, o + q * 6 + 5, none⟩ = some (.int .i64 yj) := by rw [hV]; exact d5
      clear hV x0 x3 d0 d3
      obtain ⟨gg, oo, hgo, hnw⟩ := HNEW.out (V.alloc (.cells #[] 76)) (hBV.alloc hBV.size _)
      simp only [Option.some.injEq, Addr.mk.injEq, and_true] at hgo
      obtain ⟨rfl, rfl⟩ := hgo
      have HNW : Hid (∀ j u, (T.flatMap Ins.cells)[j]? = some u → (V.alloc (.cells #[] 76)).cell? ((⟨g, o, none⟩ : Addr).add j) = some u) := hnw
      have h60n : T.length ≤ 60 := HLT.out
      clear hnw HNEW
      go_wp2_with (at_builtin; refine wpList_append_lies _ rfl _ _ 27 rfl w.heap.size 76 i0 (.agg #[.int .i64 0, .int .i64 0, .int .i64 0, .int .i64 0, .string ⟨#[]⟩, .int .i64 0]) 6 56 Try.underlying27 hi0 hz0 hz1 hz2 rfl (by decide) _ 0 [] rfl (World.ownsRow_made V #[] 0 (by omega) (by unfold maxLen; omega) rfl) ⟨g, o, none⟩ T.length cap (T.flatMap Ins.cells) rfl (flat6Ins_len T) HNW.out (onesI T) (by omega) (by unfold maxLen; omega) (by omega) (by simp; omega) (V.heap.size + 1) (by simp) ?_)
      intro g9 cap9 w9 hown9 hgrow9 hat9 hlt9
      (try simp only [Nat.zero_add, List.nil_append] at hown9)
      (try simp only [Nat.zero_add])
      have hg9 : V.heap.size ≤ g9 := by
        rcases hat9 with h | h
        · simp [Value.ownBlock] at h; omega
        · omega
      have hs9 : V.heap.size + 1 ≤ w9.heap.size := by have := hgrow9.size; simpa using this
      have hB9 : Below V.heap.size V w9 := ⟨hgrow9.os, hgrow9.tape, hgrow9.output, by omega, fun j hj => (hgrow9.block j (by simp; omega) (by simp [Value.ownBlock]; omega)).trans (Below.heap_alloc _ _ _ hj)⟩
      have x5 := (hB9.cell (p := ⟨w.heap.size, 5, none⟩) hlV).trans x5
      have d5 := (hB9.cell (p := ⟨g, o + q * 6 + 5, none⟩) (by show g < _; omega)).trans d5
      have hBw9 : Below w.heap.size w w9 := hBV.trans (hB9.mono hBV.size)
      have HS9 : Hid (IRow (w9.setCell ⟨g9, i * 6 + 5, none⟩ (.int .i64 yj)) w.heap.size (.slice (some ⟨g9, 0, none⟩) T.length cap9) D) := HSET.out w9 g9 cap9 hown9
      have hcap9 : T.length ≤ cap9 ∧ cap9 ≤ 9223372036854775807 := by
        rcases hown9.2 with ⟨h, _⟩ | ⟨g', cap', _, hv, _, _, h1, h2, _⟩
        · simp at h
        · simp at hv; unfold maxLen at h2; omega
      obtain ⟨u9, hu9⟩ : ∃ u, w9.cell? ⟨g9, i * 6 + 5, none⟩ = some u := by
        rw [World.ownsRow.cellAt hown9 (i * 6 + 5) (by omega)]
        exact ⟨_, List.getElem?_eq_getElem (by rw [flat6Ins_len]; omega)⟩
      have hf9 := World.ownsRow.frozenAt hown9 (i * 6 + 5)
      have HBE : Hid (Below w.heap.size w (w9.setCell ⟨g9, i * 6 + 5, none⟩ (.int .i64 yj))) := hBw9.setCell (p := ⟨g9, i * 6 + 5, none⟩) (by show w.heap.size ≤ g9; omega) _
      clear hown9 hgrow9 hat9 hB9
      go_wp2
      go_ret2
      exact BetOut.mkS hF.out HS9.out HBE.out
    · have hm' : (ym == m) = false := by simp [hm]
      have hF : Hid (R = none) := by show R = _; rw [HR.out, if_neg (fun h => hm h.2)]
      clear HR hm
      go_wp2_with fail
      go_quiet (fail)
      go_wp2_with fail
      go_quiet (fail)
      go_wp2
      go_ret2
      exact BetOut.mkN hF.out (bd2 hB3 _ _)
  · have h3' : (yc == 3) = false := by simp [h3]
    have hF : Hid (R = none) := by show R = _; rw [HR.out, if_neg (fun h => h3 h.1)]
    clear HR h3
    go_wp2_with fail
    go_quiet (fail)
    go_wp2_with fail
    go_quiet (fail)
    go_wp2
    go_ret2
    exact BetOut.mkN hF.out (bd2 hB3 _ _)

end Go.Proofs.Ytpopjapcgcnnfaa
