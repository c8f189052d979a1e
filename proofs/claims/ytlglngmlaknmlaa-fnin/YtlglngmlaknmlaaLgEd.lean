/- What FnGrew draws: roots, lengths and a proof. -/
import Derived.Test.YtlglngmlaknmlaaLgEc
namespace Go.Proofs.Ytlglngmlaknmlaa
open Go.RowKit Plain Lgs Tpc

theorem results_5L {fn : Func} {a b c d p : Tmp} {ty : TypeId} (h : fn.results = #[.tmp a, .tmp b, .tmp c, .tmp d, .cell p ty]) (tmps : Array Value) (P : Program) (w : World) :
    (results fn tmps).run P w = ((asAddr (tmps.getD p undef)).run P w).andThen fun x w₁ => ((loadVar ty x).run P w₁).andThen fun y w₂ => .ok (.tuple #[tmps.getD a undef, tmps.getD b undef, tmps.getD c undef, tmps.getD d undef, y]) w₂ := by
  simp only [results, h]
  simp [Sem.run_bind, Result.andThen]

theorem groF_lt : ∀ (f : Nat) (l : List ByteArray) (m : Nat) (wh : Bool), ∀ y ∈ groF f l m wh, y < 1000003 := by
  intro f
  induction f with
  | zero => intro l m wh y hy; simp [groF] at hy
  | succ f ih =>
    intro l m wh y hy
    rw [groF] at hy
    split at hy
    · cases wh with
      | true => simp at hy
      | false => simp at hy; rw [hy]; exact root_lt _
    · split at hy
      · rcases List.mem_append.1 hy with h | h
        · exact ih _ _ _ y h
        · simp at h; rw [h]; exact root_lt _
      · rcases List.mem_append.1 hy with h | h
        · exact ih _ _ _ y h
        · simp at h; rw [h]; exact root_lt _

/-- a draw under way: the answer's variable, the cursor, the log -/
structure DrS (w wx : World) (m : Nat) (v : Value) (l : List ByteArray) : Prop where
  res : wx.cell? ⟨w.heap.size, 0, none⟩ = some (.slice none 0 0)
  rfz : wx.frozen? ⟨w.heap.size, 0, none⟩ = false
  cur : Cur wx (w.heap.size + 1) m
  row : StRow wx (w.heap.size + 2) v l
  bel : Below w.heap.size w wx
  size : w.heap.size + 2 ≤ wx.heap.size

theorem DrS.below {w wx w' : World} {m : Nat} {v : Value} {l : List ByteArray} (h : DrS w wx m v l) (hb : Below wx.heap.size wx w') : DrS w w' m v l := by
  obtain ⟨h1, h2, h3, h4, h5, h6⟩ := h
  have hs := hb.size
  exact ⟨(hb.cell (p := ⟨w.heap.size, 0, none⟩) (by show w.heap.size < _; omega)).trans h1, (hb.frozen (p := ⟨w.heap.size, 0, none⟩) (by show w.heap.size < _; omega)).trans h2, h3.grown (grow_belowL hb (row := none)) (fun k hk => by cases hk), h4.below hb, h5.trans (hb.mono (by omega)), by omega⟩

theorem DrS.grown {w wx w' : World} {m m' : Nat} {v : Value} {l : List ByteArray} (h : DrS w wx m v l) (hg : wx.grownBy w' (some (w.heap.size + 1))) (hc : Cur w' (w.heap.size + 1) m') : DrS w w' m' v l := by
  obtain ⟨h1, h2, h3, h4, h5, h6⟩ := h
  have hs := hg.size
  have hb : w'.heap[w.heap.size]? = wx.heap[w.heap.size]? := hg.block _ (by omega) (fun e => by simp at e)
  have hlt := World.ownsRow.lt h4
  exact ⟨(World.cell?_of_block (w := wx) hb).trans h1, (World.frozen?_of_block (w := wx) hb).trans h2, hc, own_grownL h4 hg (fun g hg' e => by have := (hlt g hg').1; simp at e; omega), h5.grown hg h5.size (fun k hk => by simp at hk; omega), by omega⟩

/-- what the draw answers -/
def ODr (w w' : World) (e : Ending) : Prop := (∃ (a o b n : Int) (v : Value) (P : List Int), e = .returned (.tuple #[.int .i64 a, .int .i64 o, .int .i64 b, .int .i64 n, .agg #[v]]) ∧ ZRow w' w.heap.size v P) ∧ Below w.heap.size w w'

theorem DrS.fin {w wx : World} {m : Nat} {v u : Value} {l : List ByteArray} {P : List Int} (h : DrS w wx m v l) (a o b n : Int) (hz : ZRow wx (w.heap.size + 1) u P) : ODr w (wx.setCell ⟨w.heap.size, 0, none⟩ u) (.returned (.tuple #[.int .i64 a, .int .i64 o, .int .i64 b, .int .i64 n, .agg #[u]])) := by
  have hlt := World.ownsRow.lt hz
  refine ⟨⟨a, o, b, n, u, P, rfl, ?_⟩, ?_⟩
  · exact (hz.lower (by omega)).aside (Lib.grownBy_setCell _ w.heap.size 0 _) (fun g hg e => by have := (hlt g hg).1; simp at e; omega)
  · exact h.bel.setCell (p := ⟨w.heap.size, 0, none⟩) (Nat.le_refl _) _

set_option maxRecDepth 100000 in
set_option maxHeartbeats 8000000 in
theorem drawCG_any (ao : Option Addr) (len cap : Nat) (w : World) (h : CodeAt w ao len) :
    Calls Try.prog 41 #[.slice ao len cap] w fun e w' => ODr w w' e := by
  have rc := fun (tmps : Array Value) (P : Program) (w : World) => results_5L (fn := Try.f41) (a := 2) (b := 3) (c := 4) (d := 5) (p := 6) (ty := 37) rfl tmps P w
  obtain ⟨W0, hW0⟩ : ∃ W, W = w.alloc (.cells #[.slice none 0 0] 37) := ⟨_, rfl⟩
  have hB0 : Below w.heap.size w W0 := by rw [hW0]; exact (Below.refl _ w).alloc (Nat.le_refl _) _
  have hs0 : W0.heap.size = w.heap.size + 1 := by rw [hW0]; simp
  have q0 : W0.cell? ⟨w.heap.size, 0, none⟩ = some (.slice none 0 0) := by rw [hW0]; go_simp
  have f0 : W0.frozen? ⟨w.heap.size, 0, none⟩ = false := by rw [hW0]; go_simp
  have hC := Cur.made (cap := cap) (h.below hB0) 98
  obtain ⟨W1, hW1⟩ : ∃ W, W = W0.alloc (.cells #[.slice ao len cap, .int .i64 0, .int .u64 0] 98) := ⟨_, rfl⟩
  rw [← hW1, hs0] at hC
  have hB1 : Below W0.heap.size W0 W1 := by rw [hW1]; exact (Below.refl _ W0).alloc (Nat.le_refl _) _
  have hs1 : W1.heap.size = w.heap.size + 2 := by rw [hW1]; simp; omega
  have hD1 : DrS w W1 0 (.slice none 0 0) [] := ⟨(hB1.cell (p := ⟨w.heap.size, 0, none⟩) (by show w.heap.size < _; omega)).trans q0, (hB1.frozen (p := ⟨w.heap.size, 0, none⟩) (by show w.heap.size < _; omega)).trans f0, hC, ⟨rfl, .inl ⟨rfl, rfl⟩⟩, hB0.trans (hB1.mono hB0.size), by omega⟩
  have HD1 : Hid (DrS w W1 0 (.slice none 0 0) []) := hD1
  have HS1 : Hid (W1.heap.size = w.heap.size + 2) := hs1
  have hal : ∀ o, w.heap.size < (w.alloc o).heap.size := fun o => by simp
  have CL : Hid (Calls Try.prog 80 #[.pointer (some ⟨w.heap.size + 1, 0, none⟩)] W1 fun e w' => ∃ (l : List ByteArray) (v : Value), e = .returned v ∧ StRow w' W1.heap.size v l ∧ l.length ≤ 41 ∧ Sht l ∧ Cur w' (w.heap.size + 1) (0 + 100) ∧ W1.grownBy w' (some (w.heap.size + 1))) := log_any (w.heap.size + 1) 0 W1 hC (by omega)
  clear hC hD1 hs1 hB1 q0 f0 hB0
  go_enter Try.func41, Try.ntmps41
  go_upto_region 2 with fail
  rw [← hW0, ← hW1]
  clear hW1 hW0 hs0
  go_wp2_with fail
  go_at_call 80
  refine CL.out.mono ?_
  rintro e w2 ⟨l, v, rfl, hR, hl, hS, hc2, hg2⟩
  have hD2 := HD1.out.grown hg2 hc2
  have HD2 : Hid (DrS w w2 (0 + 100) v l) := ⟨hD2.res, hD2.rfz, hD2.cur, by have h := hR; rw [HS1.out] at h; exact h, hD2.bel, hD2.size⟩
  obtain ⟨a2, c2, hv2⟩ := hR.slice
  subst hv2
  have hcap : l.length ≤ c2 ∧ c2 ≤ maxLen := by
    rcases hR.2 with ⟨h1, h2⟩ | ⟨g, c', cur, h1, _, _, h3, h4, _⟩
    · simp only [Value.slice.injEq] at h1
      obtain ⟨_, e1, e2⟩ := h1
      unfold maxLen
      omega
    · simp only [Value.slice.injEq] at h1
      obtain ⟨_, _, rfl⟩ := h1
      exact ⟨h3, h4⟩
  unfold maxLen at hcap
  have HSh : Hid (Sht l) := hS
  clear hR hg2 hc2 hD2 hS CL HD1
  by_cases hl0 : l.length = 0
  · have r2 := HD2.out.res
    have z2 := HD2.out.rfz
    have s2 : w.heap.size < w2.heap.size := by have := HD2.out.size; omega
    have HF : Hid (ODr w (w2.setCell ⟨w.heap.size, 0, none⟩ (.slice none 0 0)) (.returned (.tuple #[.int .i64 1, .int .i64 1, .int .i64 1, .int .i64 1, .agg #[.slice none 0 0]]))) := HD2.out.fin (P := []) 1 1 1 1 ⟨rfl, .inl ⟨rfl, rfl⟩⟩
    go_wp2
    (try simp only [Exit.inBlock, Exit.then])
    refine bodyPost_ret (v := .tuple #[.int .i64 1, .int .i64 1, .int .i64 1, .int .i64 1, .agg #[.slice none 0 0]]) ?_ rfl HF.out
    rw [rc]
    go_simp
  · have hl0' : ¬ (l.length : Int) = 0 := by omega
    go_wp2_with fail
    refine (pick_any _ _ _ _ HD2.out.cur (by omega)).mono ?_
    rintro e w3 ⟨k, rfl, hk, hc3, hg3⟩
    have HD3 : Hid (DrS w w3 (0 + 100 + 2) (.slice a2 l.length c2) l) := HD2.out.grown hg3 hc3
    have hkl : k < l.length := by omega
    have hk41 : (k : Int) ≤ 41 := by omega
    have CP : Hid (Calls Try.prog 34 #[.slice a2 l.length c2, .int .i64 (1 + (k : Int))] w3 fun e w' => OPr w3 w' e (pgr l (1 + (k : Int)))) := specProveGrew l (1 + (k : Int)) _ w3 (StAt.own HD3.out.row)
    have HPP : Hid ((pgr l (1 + (k : Int))).1.length ≤ 100 ∧ ∀ y ∈ (pgr l (1 + (k : Int))).1, y < 1000003) := by
      unfold pgr
      split
      · exact ⟨Nat.le_trans (groF_le 41 _ _ _) (by omega), groF_lt _ _ _ _⟩
      · exact ⟨Nat.zero_le _, fun y hy => by simp at hy⟩
    obtain ⟨⟨Pp, ok⟩, hR⟩ : ∃ R, pgr l (1 + (k : Int)) = R := ⟨_, rfl⟩
    rw [hR] at CP HPP
    clear hR hk hc3 hg3 HD2
    go_wp2_with fail
    go_at_call 34
    refine CP.out.mono ?_
    rintro e w4 ⟨⟨u, rfl, hz4⟩, hb4⟩
    dsimp only at hz4 HPP
    obtain ⟨a4, c4, hu⟩ := hz4.slice
    subst hu
    obtain ⟨W5, hW5⟩ : ∃ W, W = w4.alloc (.cells #[.slice a4 (zl Pp).length c4] 37) := ⟨_, rfl⟩
    have hB5 : Below w4.heap.size w4 W5 := by rw [hW5]; exact (Below.refl _ w4).alloc (Nat.le_refl _) _
    have HD5 : Hid (DrS w W5 (0 + 100 + 2) (.slice a2 l.length c2) l) := (HD3.out.below hb4).below hB5
    have HX5 : Hid (W5.cell? ⟨w4.heap.size, 0, none⟩ = some (.slice a4 (zl Pp).length c4) ∧ w4.heap.size < W5.heap.size ∧ w.heap.size + 2 ≤ w4.heap.size ∧ ZAt W5 W5.heap.size (.slice a4 (zl Pp).length c4) (zl Pp)) := by
      refine ⟨by rw [hW5]; go_simp, by rw [hW5]; simp, ?_, ZAt.own (hz4.below hB5)⟩
      have h1 := HD3.out.size
      have h2 := hb4.size
      omega
    have HAP : Hid (∀ g o, a4 = some ⟨g, o, none⟩ → g ≠ w.heap.size + 1) := fun g o e => by
      subst e
      have h1 := hz4.2
      rcases h1 with ⟨h2, _⟩ | ⟨g', c', cur, h2, h3, _⟩
      · simp at h2
      · simp only [Value.slice.injEq, Option.some.injEq, Addr.mk.injEq] at h2
        have h4 := HD3.out.size
        omega
    have CR : Hid (Calls Try.prog 20 #[.slice a2 l.length c2] W5 fun e w' => e = .returned (.tuple #[.int .i64 (if lok l then ((root l : Nat) : Int) else 0), .bool (lok l)]) ∧ ∃ m, w' = W5.drewN m) := specRoot l _ W5 (StAt.own HD5.out.row)
    generalize (if lok l then ((root l : Nat) : Int) else 0) = R0 at CR
    generalize lok l = okl at CR
    clear hz4 hb4 hB5 CP HD3
    go_upto_region 7 with fail
    rw [← hW5]
    clear hW5
    go_wp2_with fail
    go_at_call 20
    refine CR.out.mono ?_
    rintro e w6 ⟨rfl, m6, h6⟩
    have hB6 : Below W5.heap.size W5 w6 := by rw [h6]; exact below_drewT (Below.refl _ _)
    have HD6 : Hid (DrS w w6 (0 + 100 + 2) (.slice a2 l.length c2) l) := HD5.out.below hB6
    have HX6 : Hid (w6.cell? ⟨w4.heap.size, 0, none⟩ = some (.slice a4 (zl Pp).length c4) ∧ w4.heap.size < w6.heap.size ∧ w.heap.size + 2 ≤ w4.heap.size ∧ ZAt w6 w6.heap.size (.slice a4 (zl Pp).length c4) (zl Pp)) := ⟨(hB6.cell (p := ⟨w4.heap.size, 0, none⟩) HX5.out.2.1).trans HX5.out.1, by have h1 := hB6.size; have h2 := HX5.out.2.1; omega, HX5.out.2.2.1, HX5.out.2.2.2.below hB6⟩
    clear h6 hB6 CR HD5 HX5
    cases ok with
    | false =>
      have r2 := HD6.out.res
      have z2 := HD6.out.rfz
      have s2 : w.heap.size < w6.heap.size := by have := HD6.out.size; omega
      have HF : Hid (ODr w (w6.setCell ⟨w.heap.size, 0, none⟩ (.slice none 0 0)) (.returned (.tuple #[.int .i64 R0, .int .i64 1, .int .i64 R0, .int .i64 1, .agg #[.slice none 0 0]]))) := HD6.out.fin (P := []) R0 1 R0 1 ⟨rfl, .inl ⟨rfl, rfl⟩⟩
      go_wp2
      (try simp only [Exit.inBlock, Exit.then])
      refine bodyPost_ret (v := .tuple #[.int .i64 R0, .int .i64 1, .int .i64 R0, .int .i64 1, .agg #[.slice none 0 0]]) ?_ rfl HF.out
      rw [rc]
      go_simp
    | true =>
      have b1 : (0 : Int) ≤ 1 + (k : Int) := by omega
      have b2 : 1 + (k : Int) ≤ (c2 : Int) := by omega
      have b3 : 1 + (k : Int) ≤ (l.length : Int) := by omega
      have CF : Hid (Calls Try.prog 20 #[.slice a2 (1 + k) c2] w6 fun e w' => e = .returned (.tuple #[.int .i64 (if lok (l.take (1 + k)) then ((root (l.take (1 + k)) : Nat) : Int) else 0), .bool (lok (l.take (1 + k)))]) ∧ ∃ m, w' = w6.drewN m) := specRoot (l.take (1 + k)) _ w6 (StAt.take (StAt.own HD6.out.row) (by omega))
      have hF0 : 0 ≤ (if lok (l.take (1 + k)) then ((root (l.take (1 + k)) : Nat) : Int) else 0) ∧ (if lok (l.take (1 + k)) then ((root (l.take (1 + k)) : Nat) : Int) else 0) ≤ 1000002 := by
        have := root_lt (l.take (1 + k))
        split <;> omega
      generalize (if lok (l.take (1 + k)) then ((root (l.take (1 + k)) : Nat) : Int) else 0) = F0 at CF hF0
      generalize lok (l.take (1 + k)) = okf at CF
      obtain ⟨F1, rfl⟩ : ∃ F1 : Nat, F0 = F1 := ⟨F0.toNat, by omega⟩
      have hF1 : (F1 : Int) ≤ 1000002 := hF0.2
      clear hF0
      go_wp2_with fail
      go_at_call 20
      refine CF.out.mono ?_
      rintro e w7 ⟨rfl, m7, h7⟩
      have hB7 : Below w6.heap.size w6 w7 := by rw [h7]; exact below_drewT (Below.refl _ _)
      have HD7 : Hid (DrS w w7 (0 + 100 + 2) (.slice a2 l.length c2) l) := HD6.out.below hB7
      have HX7 : Hid (w7.cell? ⟨w4.heap.size, 0, none⟩ = some (.slice a4 (zl Pp).length c4) ∧ w4.heap.size < w7.heap.size ∧ w.heap.size + 2 ≤ w4.heap.size ∧ ZAt w7 w7.heap.size (.slice a4 (zl Pp).length c4) (zl Pp)) := ⟨(hB7.cell (p := ⟨w4.heap.size, 0, none⟩) HX6.out.2.1).trans HX6.out.1, by have h1 := hB7.size; have h2 := HX6.out.2.1; omega, HX6.out.2.2.1, HX6.out.2.2.2.below hB7⟩
      clear h7 hB7 CF HD6 HX6
      go_wp2_with fail
      refine (one_any _ _ _ _ HD7.out.cur (by omega)).mono ?_
      rintro e w8 ⟨t8, rfl, hc8, hg8⟩
      have HD8 : Hid (DrS w w8 (0 + 100 + 2 + 2) (.slice a2 l.length c2) l) := HD7.out.grown hg8 hc8
      have HX8 : Hid (w8.cell? ⟨w4.heap.size, 0, none⟩ = some (.slice a4 (zl Pp).length c4) ∧ w4.heap.size < w8.heap.size ∧ w.heap.size + 2 ≤ w4.heap.size ∧ ZAt w8 w8.heap.size (.slice a4 (zl Pp).length c4) (zl Pp)) := by
        have h3 := HX7.out.2.2.1
        have hs8 := hg8.size
        refine ⟨(hg8.cell_far ⟨w4.heap.size, 0, none⟩ HX7.out.2.1 (fun e => by simp at e; omega)).trans HX7.out.1, by have h2 := HX7.out.2.1; omega, h3, ?_⟩
        obtain ⟨a', c', hv', hm', hc', hr'⟩ := HX7.out.2.2.2
        refine ⟨a', c', hv', hm', hc', fun i x hx => ?_⟩
        obtain ⟨g, o, ha, hg, c⟩ := hr' i x hx
        exact ⟨g, o, ha, by omega, (hg8.cell_far ⟨g, o + i, none⟩ hg (fun e => HAP.out g o (by simp only [Value.slice.injEq] at hv'; rw [hv'.1]; exact ha) (by simpa using e))).trans c⟩
      have y8 := HX8.out.1
      have l8 := HX8.out.2.1
      have CB : Hid (Calls Try.prog 83 #[.pointer (some ⟨w.heap.size + 1, 0, none⟩), .agg #[.slice a4 (zl Pp).length c4]] w8 fun e w' => (∃ (P' : List Nat) (u : Value), e = .returned (.agg #[u]) ∧ ZRow w' w8.heap.size u (zl P') ∧ P'.length ≤ 101) ∧ Cur w' (w.heap.size + 1) (0 + 100 + 2 + 2 + 20) ∧ w8.grownBy w' (some (w.heap.size + 1))) := bent_any (w.heap.size + 1) _ Pp _ w8 HD8.out.cur (by omega) HX8.out.2.2.2 HPP.out.2 HPP.out.1
      clear hc8 hg8 HD7 HX7
      cases t8 with
      | false =>
        go_wp2_with fail
        go_at_call 83
        refine CB.out.mono ?_
        rintro e w9 ⟨⟨P', u9, rfl, hz9, _⟩, hc9, hg9⟩
        have hD9 := HD8.out.grown hg9 hc9
        have hz9' : ZRow w9 (w.heap.size + 1) u9 (zl P') := hz9.lower (by have := HD8.out.size; omega)
        have r2 := hD9.res
        have z2 := hD9.rfz
        have s2 : w.heap.size < w9.heap.size := by have := hD9.size; omega
        have HF : Hid (ODr w (w9.setCell ⟨w.heap.size, 0, none⟩ u9) (.returned (.tuple #[.int .i64 (F1 : Int), .int .i64 (1 + (k : Int)), .int .i64 R0, .int .i64 (l.length : Int), .agg #[u9]]))) := hD9.fin _ _ _ _ hz9'
        obtain ⟨a9, c9, hu9⟩ := hz9'.slice
        subst hu9
        clear hz9 hz9' hc9 hg9 hD9 HX8 HD8 CB
        go_wp2
        (try simp only [Exit.inBlock, Exit.then])
        refine bodyPost_ret (v := .tuple #[.int .i64 (F1 : Int), .int .i64 (1 + (k : Int)), .int .i64 R0, .int .i64 (l.length : Int), .agg #[.slice a9 (zl P').length c9]]) ?_ rfl HF.out
        rw [rc]
        go_simp
      | true =>
        go_wp2_with fail
        go_at_call 83
        refine CB.out.mono ?_
        rintro e w9 ⟨⟨P', u9, rfl, hz9, _⟩, hc9, hg9⟩
        have hD9 := HD8.out.grown hg9 hc9
        have hz9' : ZRow w9 (w.heap.size + 1) u9 (zl P') := hz9.lower (by have := HD8.out.size; omega)
        have r2 := hD9.res
        have z2 := hD9.rfz
        have s2 : w.heap.size < w9.heap.size := by have := hD9.size; omega
        have HF : Hid (ODr w (w9.setCell ⟨w.heap.size, 0, none⟩ u9) (.returned (.tuple #[.int .i64 (((F1 : Int) + 1) % 1000003), .int .i64 (1 + (k : Int)), .int .i64 R0, .int .i64 (l.length : Int), .agg #[u9]]))) := hD9.fin _ _ _ _ hz9'
        obtain ⟨a9, c9, hu9⟩ := hz9'.slice
        subst hu9
        clear hz9 hz9' hc9 hg9 hD9 HX8 HD8 CB
        go_wp2
        (try simp only [Exit.inBlock, Exit.then])
        refine bodyPost_ret (v := .tuple #[.int .i64 (((F1 : Int) + 1) % 1000003), .int .i64 (1 + (k : Int)), .int .i64 R0, .int .i64 (l.length : Int), .agg #[.slice a9 (zl P').length c9]]) ?_ rfl HF.out
        rw [rc]
        go_simp

end Go.Proofs.Ytlglngmlaknmlaa
