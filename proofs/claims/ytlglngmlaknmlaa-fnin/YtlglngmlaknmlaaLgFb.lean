/- What FnIn draws: a root, a count, a place, a text and a proof. -/
import Derived.Test.YtlglngmlaknmlaaLgEd
namespace Go.Proofs.Ytlglngmlaknmlaa
open Go.RowKit Plain Lgs Tpc

theorem inF_len : ∀ (f : Nat) (l : List ByteArray) (k : Nat), (inF f l k).length ≤ f := by
  intro f
  induction f with
  | zero => intro l k; exact Nat.le_refl 0
  | succ f ih =>
    intro l k
    rw [inF]
    split
    · exact Nat.zero_le _
    · split
      · rw [List.length_append, List.length_singleton]; exact Nat.succ_le_succ (ih _ _)
      · rw [List.length_append, List.length_singleton]; exact Nat.succ_le_succ (ih _ _)

theorem inF_lt : ∀ (f : Nat) (l : List ByteArray) (k : Nat), ∀ y ∈ inF f l k, y < 1000003 := by
  intro f
  induction f with
  | zero => intro l k y hy; simp [inF] at hy
  | succ f ih =>
    intro l k y hy
    rw [inF] at hy
    split at hy
    · simp at hy
    · split at hy
      · rcases List.mem_append.1 hy with h | h
        · exact ih _ _ y h
        · simp at h; rw [h]; exact root_lt _
      · rcases List.mem_append.1 hy with h | h
        · exact ih _ _ y h
        · simp at h; rw [h]; exact root_lt _

/-- what the draw answers -/
def ODi (w w' : World) (e : Ending) : Prop := (∃ (a n k : Int) (s : ByteArray) (v : Value) (P : List Int), e = .returned (.tuple #[.int .i64 a, .int .i64 n, .int .i64 k, .string s, .agg #[v]]) ∧ s.size ≤ 30 ∧ ZRow w' w.heap.size v P) ∧ Below w.heap.size w w'

theorem DrS.finI {w wx : World} {m : Nat} {v u : Value} {l : List ByteArray} {P : List Int} (h : DrS w wx m v l) (a n k : Int) (s : ByteArray) (hs : s.size ≤ 30) (hz : ZRow wx (w.heap.size + 1) u P) : ODi w (wx.setCell ⟨w.heap.size, 0, none⟩ u) (.returned (.tuple #[.int .i64 a, .int .i64 n, .int .i64 k, .string s, .agg #[u]])) := by
  have hlt := World.ownsRow.lt hz
  refine ⟨⟨a, n, k, s, u, P, rfl, hs, ?_⟩, ?_⟩
  · exact (hz.lower (by omega)).aside (Lib.grownBy_setCell _ w.heap.size 0 _) (fun g hg e => by have := (hlt g hg).1; simp at e; omega)
  · exact h.bel.setCell (p := ⟨w.heap.size, 0, none⟩) (Nat.le_refl _) _

set_option maxRecDepth 100000 in
set_option maxHeartbeats 8000000 in
theorem drawCI_any (ao : Option Addr) (len cap : Nat) (w : World) (h : CodeAt w ao len) :
    Calls Try.prog 44 #[.slice ao len cap] w fun e w' => ODi w w' e := by
  have rc := fun (tmps : Array Value) (P : Program) (w : World) => results_5L (fn := Try.f44) (a := 2) (b := 3) (c := 4) (d := 5) (p := 6) (ty := 37) rfl tmps P w
  obtain ⟨W0, hW0⟩ : ∃ W, W = w.alloc (.cells #[.slice none 0 0] 37) := ⟨_, rfl⟩
  have hB0 : Below w.heap.size w W0 := by rw [hW0]; exact (Below.refl _ w).alloc (Nat.le_refl _) _
  have hs0 : W0.heap.size = w.heap.size + 1 := by rw [hW0]; simp
  have q0 : W0.cell? ⟨w.heap.size, 0, none⟩ = some (.slice none 0 0) := by rw [hW0]; go_simp
  have f0 : W0.frozen? ⟨w.heap.size, 0, none⟩ = false := by rw [hW0]; go_simp
  have hC := Cur.made (cap := cap) (h.below hB0) 98
  obtain ⟨W1, hW1⟩ : ∃ W, W = W0.alloc (.cells #[.slice ao len cap, .int .i64 0, .int .u64 0] 98) := ⟨_, rfl⟩
  rw [← hW1, hs0] at hC
  have hB1 : Below W0.heap.size W0 W1 := by rw [hW1]; exact (Below.refl _ W0).alloc (Nat.le_refl _) _
  have hs1 : W1.heap.size = w.heap.size + 2 := by rw [hW1]; simp; omega
  have hD1 : DrS w W1 0 (.slice none 0 0) [] := ⟨(hB1.cell (p := ⟨w.heap.size, 0, none⟩) (by show w.heap.size < _; omega)).trans q0, (hB1.frozen (p := ⟨w.heap.size, 0, none⟩) (by show w.heap.size < _; omega)).trans f0, hC, ⟨rfl, .inl ⟨rfl, rfl⟩⟩, hB0.trans (hB1.mono hB0.size), by omega⟩
  have HD1 : Hid (DrS w W1 0 (.slice none 0 0) []) := hD1
  have HS1 : Hid (W1.heap.size = w.heap.size + 2) := hs1
  have hal : ∀ o, w.heap.size < (w.alloc o).heap.size := fun o => by simp
  have CL : Hid (Calls Try.prog 80 #[.pointer (some ⟨w.heap.size + 1, 0, none⟩)] W1 fun e w' => ∃ (l : List ByteArray) (v : Value), e = .returned v ∧ StRow w' W1.heap.size v l ∧ l.length ≤ 41 ∧ Sht l ∧ Cur w' (w.heap.size + 1) (0 + 100) ∧ W1.grownBy w' (some (w.heap.size + 1))) := log_any (w.heap.size + 1) 0 W1 hC (by omega)
  clear hC hD1 hs1 hB1 q0 f0 hB0
  go_enter Try.func44, Try.ntmps44
  go_upto_region 2 with fail
  rw [← hW0, ← hW1]
  clear hW1 hW0 hs0
  go_wp2_with fail
  go_at_call 80
  refine CL.out.mono ?_
  rintro e w2 ⟨l, v, rfl, hR, hl, hS, hc2, hg2⟩
  have hD2 := HD1.out.grown hg2 hc2
  have HD2 : Hid (DrS w w2 (0 + 100) v l) := ⟨hD2.res, hD2.rfz, hD2.cur, by have h := hR; rw [HS1.out] at h; exact h, hD2.bel, hD2.size⟩
  obtain ⟨a2, c2, hv2⟩ := hR.slice
  subst hv2
  have hcap : l.length ≤ c2 ∧ c2 ≤ maxLen := by
    rcases hR.2 with ⟨h1, h2⟩ | ⟨g, c', cur, h1, _, _, h3, h4, _⟩
    · simp only [Value.slice.injEq] at h1
      obtain ⟨_, e1, e2⟩ := h1
      unfold maxLen
      omega
    · simp only [Value.slice.injEq] at h1
      obtain ⟨_, _, rfl⟩ := h1
      exact ⟨h3, h4⟩
  unfold maxLen at hcap
  have HSh : Hid (Sht l) := hS
  clear hR hg2 hc2 hD2 hS CL HD1
  obtain ⟨n, hn⟩ : ∃ n, n = l.length := ⟨_, rfl⟩
  rw [← hn] at HD2 hcap hl ⊢
  have HN : Hid (l.length = n) := hn.symm
  clear hn
  go_upto_if 22 with fail
  go_cut [9] (fun s9 wx => ∃ k : Nat, s9 = .int .i64 (k : Int) ∧ k ≤ 41 ∧ DrS w wx (0 + 100 + 2) (.slice a2 n c2) l)
  case first =>
    by_cases hl0 : n = 0
    · subst hl0
      go_wp2_with fail
      go_meet
      exact ⟨0, rfl, by omega, HD2.out.res, HD2.out.rfz, HD2.out.cur.le (by omega), HD2.out.row, HD2.out.bel, HD2.out.size⟩
    · have hl0' : (0 : Int) < (n : Int) := by omega
      have hl0'' : 0 < n := by omega
      go_wp2_with fail
      refine (pick_any _ _ _ _ HD2.out.cur (by omega)).mono ?_
      rintro e w3 ⟨k, rfl, hk, hc3, hg3⟩
      have HD3 : Hid (DrS w w3 (0 + 100 + 2) (.slice a2 n c2) l) := HD2.out.grown hg3 hc3
      have hk41 : k ≤ 41 := by omega
      clear hk hc3 hg3
      go_wp2_with fail
      go_meet
      exact ⟨k, rfl, hk41, HD3.out⟩
  case rest =>
    obtain ⟨k, rfl, hk41, hD3⟩ := hcut
    obtain ⟨w3, hw3⟩ : ∃ W, W = wc := ⟨_, rfl⟩
    rw [← hw3] at hD3 ⊢
    have HD3 : Hid (DrS w w3 (0 + 100 + 2) (.slice a2 n c2) l) := hD3
    clear hw3 hD3 HD2
    have CP : Hid (Calls Try.prog 24 #[.slice a2 n c2, .int .i64 (k : Int)] w3 fun e w' => OPr w3 w' e (pin l (k : Int))) := specProveIn l (k : Int) _ w3 (StAt.own HD3.out.row)
    have HOK : Hid ((pin l (k : Int)).2 = true → k < n) := fun h => by
      unfold pin at h
      split at h
      · rename_i hc; have := HN.out; omega
      · cases h
    have HPP : Hid ((pin l (k : Int)).1.length ≤ 100 ∧ ∀ y ∈ (pin l (k : Int)).1, y < 1000003) := by
      unfold pin
      split
      · exact ⟨Nat.le_trans (inF_len 41 _ _) (by omega), inF_lt _ _ _⟩
      · exact ⟨Nat.zero_le _, fun y hy => by simp at hy⟩
    obtain ⟨⟨Pp, ok⟩, hR⟩ : ∃ R, pin l (k : Int) = R := ⟨_, rfl⟩
    rw [hR] at CP HPP HOK
    dsimp only at HOK
    clear hR
    go_wp2_with fail
    go_at_call 24
    refine CP.out.mono ?_
    rintro e w4 ⟨⟨u, rfl, hz4⟩, hb4⟩
    dsimp only at hz4 HPP
    obtain ⟨a4, c4, hu⟩ := hz4.slice
    subst hu
    obtain ⟨W5, hW5⟩ : ∃ W, W = w4.alloc (.cells #[.slice a4 (zl Pp).length c4] 37) := ⟨_, rfl⟩
    have hB5 : Below w4.heap.size w4 W5 := by rw [hW5]; exact (Below.refl _ w4).alloc (Nat.le_refl _) _
    have HD5 : Hid (DrS w W5 (0 + 100 + 2) (.slice a2 n c2) l) := (HD3.out.below hb4).below hB5
    have HX5 : Hid (W5.cell? ⟨w4.heap.size, 0, none⟩ = some (.slice a4 (zl Pp).length c4) ∧ w4.heap.size < W5.heap.size ∧ w.heap.size + 2 ≤ w4.heap.size ∧ ZAt W5 W5.heap.size (.slice a4 (zl Pp).length c4) (zl Pp)) := by
      refine ⟨by rw [hW5]; go_simp, by rw [hW5]; simp, ?_, ZAt.own (hz4.below hB5)⟩
      have h1 := HD3.out.size
      have h2 := hb4.size
      omega
    have HAP : Hid (∀ g o, a4 = some ⟨g, o, none⟩ → g ≠ w.heap.size + 1) := fun g o e => by
      subst e
      have h1 := hz4.2
      rcases h1 with ⟨h2, _⟩ | ⟨g', c', cur, h2, h3, _⟩
      · simp at h2
      · simp only [Value.slice.injEq, Option.some.injEq, Addr.mk.injEq] at h2
        have h4 := HD3.out.size
        omega
    have CR : Hid (Calls Try.prog 20 #[.slice a2 n c2] W5 fun e w' => e = .returned (.tuple #[.int .i64 (if lok l then ((root l : Nat) : Int) else 0), .bool (lok l)]) ∧ ∃ m, w' = W5.drewN m) := specRoot l _ W5 (StAt.own HD5.out.row)
    generalize (if lok l then ((root l : Nat) : Int) else 0) = R0 at CR
    generalize lok l = okl at CR
    clear hz4 hb4 hB5 CP HD3
    go_upto_region 7 with fail
    rw [← hW5]
    clear hW5
    go_wp2_with fail
    go_at_call 20
    refine CR.out.mono ?_
    rintro e w6 ⟨rfl, m6, h6⟩
    have hB6 : Below W5.heap.size W5 w6 := by rw [h6]; exact below_drewT (Below.refl _ _)
    have HD6 : Hid (DrS w w6 (0 + 100 + 2) (.slice a2 n c2) l) := HD5.out.below hB6
    have HX6 : Hid (w6.cell? ⟨w4.heap.size, 0, none⟩ = some (.slice a4 (zl Pp).length c4) ∧ w4.heap.size < w6.heap.size ∧ w.heap.size + 2 ≤ w4.heap.size ∧ ZAt w6 w6.heap.size (.slice a4 (zl Pp).length c4) (zl Pp)) := ⟨(hB6.cell (p := ⟨w4.heap.size, 0, none⟩) HX5.out.2.1).trans HX5.out.1, by have h1 := hB6.size; have h2 := HX5.out.2.1; omega, HX5.out.2.2.1, HX5.out.2.2.2.below hB6⟩
    clear h6 hB6 CR HD5 HX5
    cases ok with
    | false =>
      have r2 := HD6.out.res
      have z2 := HD6.out.rfz
      have s2 : w.heap.size < w6.heap.size := by have := HD6.out.size; omega
      have HF : Hid (ODi w (w6.setCell ⟨w.heap.size, 0, none⟩ (.slice none 0 0)) (.returned (.tuple #[.int .i64 R0, .int .i64 1, .int .i64 0, .string ⟨#[97]⟩, .agg #[.slice none 0 0]]))) := HD6.out.finI (P := []) R0 1 0 ⟨#[97]⟩ (by decide) ⟨rfl, .inl ⟨rfl, rfl⟩⟩
      go_wp2
      (try simp only [Exit.inBlock, Exit.then])
      refine bodyPost_ret (v := .tuple #[.int .i64 R0, .int .i64 1, .int .i64 0, .string ⟨#[97]⟩, .agg #[.slice none 0 0]]) ?_ rfl HF.out
      rw [rc]
      go_simp
    | true =>
      have hkl : k < n := HOK.out rfl
      have hkl' : (k : Int) < (n : Int) := by omega
      obtain ⟨_, _, hv9, _, _, hr9⟩ := StAt.own HD6.out.row
      simp only [Value.slice.injEq] at hv9
      obtain ⟨h91, _, _⟩ := hv9
      rw [← h91] at hr9
      obtain ⟨g, o, ha2, hg, ck⟩ := hr9 k (by rw [HN.out]; exact hkl)
      subst ha2
      have hsk : (lq l k).size ≤ 30 := HSh.out _ (lq_mem (by rw [HN.out]; exact hkl))
      generalize lq l k = sk at ck hsk
      have HD7 := HD6
      have HX7 := HX6
      clear HD6 HX6 hr9 h91
      go_wp2_with fail
      refine (one_any _ _ _ _ HD7.out.cur (by omega)).mono ?_
      rintro e w8 ⟨t8, rfl, hc8, hg8⟩
      have HD8 : Hid (DrS w w8 (0 + 100 + 2 + 2) (.slice (some ⟨g, o, none⟩) n c2) l) := HD7.out.grown hg8 hc8
      have HX8 : Hid (w8.cell? ⟨w4.heap.size, 0, none⟩ = some (.slice a4 (zl Pp).length c4) ∧ w4.heap.size < w8.heap.size ∧ w.heap.size + 2 ≤ w4.heap.size ∧ ZAt w8 w8.heap.size (.slice a4 (zl Pp).length c4) (zl Pp)) := by
        have h3 := HX7.out.2.2.1
        have hs8 := hg8.size
        refine ⟨(hg8.cell_far ⟨w4.heap.size, 0, none⟩ HX7.out.2.1 (fun e => by simp at e; omega)).trans HX7.out.1, by have h2 := HX7.out.2.1; omega, h3, ?_⟩
        obtain ⟨a', c', hv', hm', hc', hr'⟩ := HX7.out.2.2.2
        refine ⟨a', c', hv', hm', hc', fun i x hx => ?_⟩
        obtain ⟨g, o, ha, hg, c⟩ := hr' i x hx
        exact ⟨g, o, ha, by omega, (hg8.cell_far ⟨g, o + i, none⟩ hg (fun e => HAP.out g o (by simp only [Value.slice.injEq] at hv'; rw [hv'.1]; exact ha) (by simpa using e))).trans c⟩
      have y8 := HX8.out.1
      have l8 := HX8.out.2.1
      have CB : Hid (Calls Try.prog 83 #[.pointer (some ⟨w.heap.size + 1, 0, none⟩), .agg #[.slice a4 (zl Pp).length c4]] w8 fun e w' => (∃ (P' : List Nat) (u : Value), e = .returned (.agg #[u]) ∧ ZRow w' w8.heap.size u (zl P') ∧ P'.length ≤ 101) ∧ Cur w' (w.heap.size + 1) (0 + 100 + 2 + 2 + 20) ∧ w8.grownBy w' (some (w.heap.size + 1))) := bent_any (w.heap.size + 1) _ Pp _ w8 HD8.out.cur (by omega) HX8.out.2.2.2 HPP.out.2 HPP.out.1
      clear hc8 hg8 HD7 HX7
      cases t8 with
      | false =>
        go_wp2_with fail
        go_at_call 83
        refine CB.out.mono ?_
        rintro e w9 ⟨⟨P', u9, rfl, hz9, _⟩, hc9, hg9⟩
        have hD9 := HD8.out.grown hg9 hc9
        have hz9' : ZRow w9 (w.heap.size + 1) u9 (zl P') := hz9.lower (by have := HD8.out.size; omega)
        have r2 := hD9.res
        have z2 := hD9.rfz
        have s2 : w.heap.size < w9.heap.size := by have := hD9.size; omega
        have HF : Hid (ODi w (w9.setCell ⟨w.heap.size, 0, none⟩ u9) (.returned (.tuple #[.int .i64 R0, .int .i64 (n : Int), .int .i64 (k : Int), .string sk, .agg #[u9]]))) := hD9.finI _ _ _ _ hsk hz9'
        obtain ⟨a9, c9, hu9⟩ := hz9'.slice
        subst hu9
        clear hz9 hz9' hc9 hg9 hD9 HX8 HD8 CB
        go_wp2
        (try simp only [Exit.inBlock, Exit.then])
        refine bodyPost_ret (v := .tuple #[.int .i64 R0, .int .i64 (n : Int), .int .i64 (k : Int), .string sk, .agg #[.slice a9 (zl P').length c9]]) ?_ rfl HF.out
        rw [rc]
        go_simp
      | true =>
        go_wp2_with fail
        go_at_call 83
        refine CB.out.mono ?_
        rintro e w9 ⟨⟨P', u9, rfl, hz9, _⟩, hc9, hg9⟩
        have hD9 := HD8.out.grown hg9 hc9
        have hz9' : ZRow w9 (w.heap.size + 1) u9 (zl P') := hz9.lower (by have := HD8.out.size; omega)
        have r2 := hD9.res
        have z2 := hD9.rfz
        have s2 : w.heap.size < w9.heap.size := by have := hD9.size; omega
        have HF : Hid (ODi w (w9.setCell ⟨w.heap.size, 0, none⟩ u9) (.returned (.tuple #[.int .i64 R0, .int .i64 (n : Int), .int .i64 (k : Int), .string ⟨#[111, 116, 104, 101, 114]⟩, .agg #[u9]]))) := hD9.finI _ _ _ _ (by decide) hz9'
        obtain ⟨a9, c9, hu9⟩ := hz9'.slice
        subst hu9
        clear hz9 hz9' hc9 hg9 hD9 HX8 HD8 CB
        go_wp2
        (try simp only [Exit.inBlock, Exit.then])
        refine bodyPost_ret (v := .tuple #[.int .i64 R0, .int .i64 (n : Int), .int .i64 (k : Int), .string ⟨#[111, 116, 104, 101, 114]⟩, .agg #[.slice a9 (zl P').length c9]]) ?_ rfl HF.out
        rw [rc]
        go_simp

end Go.Proofs.Ytlglngmlaknmlaa
