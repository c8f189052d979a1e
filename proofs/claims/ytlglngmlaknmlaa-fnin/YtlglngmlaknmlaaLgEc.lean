/- Proofs that are bent when they are drawn. -/
import Derived.Test.YtlglngmlaknmlaaLgEb
import Derived.Test.YtlglngmlaknmlaaApL
namespace Go.Proofs.Ytlglngmlaknmlaa
open Go.RowKit Plain Lgs Tpc

/-- a proof in a variable of its own, the answer's variable, the cursor -/
structure BeS (w wx : World) (b m t : Nat) (u : Value) (P : List Nat) : Prop where
  lv : Lv wx t (w.heap.size + 2) u (zl P)
  far : w.heap.size + 2 ≤ t
  res : wx.cell? ⟨w.heap.size + 1, 0, none⟩ = some (.slice none 0 0)
  rfz : wx.frozen? ⟨w.heap.size + 1, 0, none⟩ = false
  cur : Cur wx b m
  gr : w.grownBy wx (some b)
  low : b < w.heap.size
  size : w.heap.size + 2 ≤ wx.heap.size

theorem BeS.grown {w wx w' : World} {b m m' t : Nat} {u : Value} {P : List Nat} (h : BeS w wx b m t u P) (hg : wx.grownBy w' (some b)) (hc : Cur w' b m') : BeS w w' b m' t u P := by
  obtain ⟨lv, far, res, rfz, cur, gr, low, size⟩ := h
  have hs := hg.size
  have hlt := World.ownsRow.lt lv.own
  have hne : ∀ j, w.heap.size ≤ j → some j ≠ some b := fun j hj e => by simp at e; omega
  have hb1 : w'.heap[t]? = wx.heap[t]? := hg.block t lv.low (hne t (by omega))
  have hb2 : w'.heap[w.heap.size + 1]? = wx.heap[w.heap.size + 1]? := hg.block _ (by omega) (hne _ (by omega))
  exact ⟨⟨by have := lv.low; omega, (World.cell?_of_block (w := wx) hb1).trans lv.row, (World.frozen?_of_block (w := wx) hb1).trans lv.frz, lv.own.aside hg (fun g hg' => hne g (by have := (hlt g hg').1; omega)), lv.apt⟩, far, (World.cell?_of_block (w := wx) hb2).trans res, (World.frozen?_of_block (w := wx) hb2).trans rfz, hc, Lib.grownBy_trans gr hg, low, by omega⟩

theorem BeS.drew {w wx : World} {b m t : Nat} {u : Value} {P : List Nat} (h : BeS w wx b m t u P) : BeS w wx.drew b m t u P := h.grown (grow_belowL ((Below.refl _ wx).drew)) (h.cur.grown (grow_belowL ((Below.refl _ wx).drew) (row := none)) (fun k hk => by cases hk))

theorem BeS.alloc {w wx : World} {b m t : Nat} {u : Value} {P : List Nat} (h : BeS w wx b m t u P) (o : Obj) : BeS w (wx.alloc o) b m t u P := h.grown (grow_belowL ((Below.refl _ wx).alloc (Nat.le_refl _) o)) (h.cur.alloc o)

/-- one more sum is put behind -/
theorem BeS.push {w w10 w11 : World} {b m t n g c x : Nat} {v : Value} {P : List Nat} {o : Obj} (h : BeS w w10 b m t v P) (hn : P.length = n)
    (hown : w11.ownsRow (w.heap.size + 2) 3 1 (.slice (some ⟨g, 0, none⟩) (n + 1) c) (n + 1) (zints (zl P) ++ [.int .i64 (x : Int)])) (hgrow : (w10.alloc o).grownBy w11 v.ownBlock) (hat : v.ownBlock = some g ∨ g = w10.heap.size + 1) :
    w11.cell? ⟨t, 0, none⟩ = some v ∧ w11.frozen? ⟨t, 0, none⟩ = false ∧ BeS w (w11.setCell ⟨t, 0, none⟩ (.slice (some ⟨g, 0, none⟩) (n + 1) c)) b m t (.slice (some ⟨g, 0, none⟩) (n + 1) c) (P ++ [x]) := by
  subst hn
  have hlv : Lv w10 t (w.heap.size + 2) v (zl P) := h.lv
  have hown' : w11.ownsRow (w.heap.size + 2) 3 1 (.slice (some ⟨g, 0, none⟩) ((zl P).length + 1) c) ((zl P).length + 1) (zints (zl P) ++ [.int .i64 (x : Int)]) := by rw [zl_len]; exact hown
  obtain ⟨h1, h2⟩ := addZ_end hlv hown' hgrow hat
  rw [zl_len] at h1 h2
  have hlt := World.ownsRow.lt hlv.own
  have hne : some t ≠ v.ownBlock := fun e => hlv.apt t e.symm rfl
  have hblk : w11.heap[t]? = w10.heap[t]? := (hgrow.block t (by have := hlv.low; simp; omega) hne).trans (((Below.refl w10.heap.size w10).alloc (Nat.le_refl _) o).block t hlv.low)
  have hz := h.size
  have hres : (w11.setCell ⟨t, 0, none⟩ (.slice (some ⟨g, 0, none⟩) (P.length + 1) c)).heap[w.heap.size + 1]? = w10.heap[w.heap.size + 1]? := h2.block _ (by omega) (by have := h.far; omega) (fun e => by have := (hlt _ e.symm).1; omega)
  refine ⟨(World.cell?_of_block (w := w10) hblk).trans hlv.row, (World.frozen?_of_block (w := w10) hblk).trans hlv.frz, ?_, h.far, (World.cell?_of_block (w := w10) hres).trans h.res, (World.frozen?_of_block (w := w10) hres).trans h.rfz, ?_, ?_, h.low, by have := h2.size; omega⟩
  · rw [zl_snoc]; exact h1
  · refine ((h.cur.alloc o).grown hgrow (fun k hk => ?_)).grown (Lib.grownBy_setCell _ t 0 _) (fun k hk => ?_)
    · have := (hlt k hk).1
      have := h.low
      omega
    · simp at hk
      have := h.far
      have := h.low
      omega
  · have hg := h.gr
    refine ⟨h2.os.trans hg.os, h2.tape.trans hg.tape, h2.output.trans hg.output, Nat.le_trans hg.size h2.size, fun j hj hne => (h2.block j (by have := hg.size; omega) (by have := h.far; omega) (fun e => by have := (hlt j e.symm).1; omega)).trans (hg.block j hj hne)⟩

theorem zl_set (P : List Nat) (k x : Nat) : (zints (zl P)).set k (.int .i64 (x : Int)) = zints (zl (P.set k x)) := by
  unfold zints zl
  rw [List.map_set, List.map_set]
  rfl

/-- a sum of the proof is bent -/
theorem BeS.set {w wx : World} {b m t g cap k x n : Nat} {P : List Nat} (h : BeS w wx b m t (.slice (some ⟨g, 0, none⟩) n cap) P) (hn : P.length = n) : BeS w (wx.setCell ⟨g, k, none⟩ (.int .i64 (x : Int))) b m t (.slice (some ⟨g, 0, none⟩) n cap) (P.set k x) := by
  subst hn
  obtain ⟨lv, far, res, rfz, cur, gr, low, size⟩ := h
  have hlt := World.ownsRow.lt lv.own g rfl
  have hgt : g ≠ t := lv.apt g rfl
  have ho : wx.ownsRow (w.heap.size + 2) 3 1 (.slice (some ⟨g, 0, none⟩) P.length cap) P.length (zints (zl P)) := by
    have h := lv.own
    unfold ZRow at h
    rw [zl_len] at h
    exact h
  have how := (ho.stored k (.int .i64 (x : Int))).1
  rw [zl_set] at how
  refine ⟨⟨by simp; exact lv.low, ?_, by rw [World.frozen?_setCell]; exact lv.frz, ?_, lv.apt⟩, far, ?_, by rw [World.frozen?_setCell]; exact rfz, ?_, ?_, low, by simp; exact size⟩
  · rw [World.cell?_setCell_other _ _ _ _ (by intro e; injection e with e1; omega)]; exact lv.row
  · unfold ZRow
    rw [zl_len, List.length_set]
    exact how
  · rw [World.cell?_setCell_other _ _ _ _ (by intro e; injection e with e1; omega)]; exact res
  · exact cur.grown (Lib.grownBy_setCell _ g k _) (fun j hj => by simp at hj; omega)
  · refine ⟨gr.os, gr.tape, gr.output, by simp; exact gr.size, fun j hj hne => ?_⟩
    rw [Below.heap_setCell _ _ _ _ (by show j ≠ g; omega)]
    exact gr.block j hj hne

attribute [local go_sem ↓] Go.wp_at_zero Go.wp_at_succ

set_option maxRecDepth 100000 in
set_option maxHeartbeats 8000000 in
theorem bent_any (b m : Nat) (P : List Nat) (v : Value) (w : World) (hc : Cur w b m) (hm : m ≤ 700000000) (hv : ZAt w w.heap.size v (zl P)) (hP : ∀ y ∈ P, y < 1000003) (hl : P.length ≤ 100) :
    Calls Try.prog 83 #[.pointer (some ⟨b, 0, none⟩), .agg #[v]] w fun e w' => (∃ (P' : List Nat) (u : Value), e = .returned (.agg #[u]) ∧ ZRow w' w.heap.size u (zl P') ∧ P'.length ≤ 101) ∧ Cur w' b (m + 20) ∧ w.grownBy w' (some b) := by
  have rc := fun (tmps : Array Value) (P : Program) (w : World) => results_cellL (fn := Try.f83) (p := 4) (ty := 37) rfl tmps P w
  obtain ⟨i0, hi, hz0, hz1, hz2⟩ := info_parts LgInfo
  have hbl := hc.lt
  have HV : Hid (ZAt w w.heap.size v (zl P)) := hv
  obtain ⟨ao, cap, rfl, hlc, hcm, _⟩ := hv
  rw [zl_len] at HV
  rw [zl_len]
  obtain ⟨W0, hW0⟩ : ∃ W, W = (w.alloc (.cells #[.slice ao P.length cap] 37)).alloc (.cells #[.slice none 0 0] 37) := ⟨_, rfl⟩
  have hB0 : Below w.heap.size w W0 := by rw [hW0]; exact ((Below.refl _ w).alloc (Nat.le_refl _) _).alloc (by simp) _
  have hs0 : Hid (W0.heap.size = w.heap.size + 2) := by show _ = _; rw [hW0]; simp
  have q0 : W0.cell? ⟨w.heap.size, 0, none⟩ = some (.slice ao P.length cap) := by rw [hW0]; go_simp
  have q1 : W0.cell? ⟨w.heap.size + 1, 0, none⟩ = some (.slice none 0 0) := by rw [hW0]; go_simp
  have f1 : W0.frozen? ⟨w.heap.size + 1, 0, none⟩ = false := by rw [hW0]; go_simp
  have hc0 : Cur W0 b m := by rw [hW0]; exact (hc.alloc _).alloc _
  have hl0 : w.heap.size < W0.heap.size := by have := hs0.out; omega
  have hl1 : w.heap.size + 1 < W0.heap.size := by have := hs0.out; omega
  have HRow0 : Hid ((W0.alloc (.cells #[] 3)).ownsRow (w.heap.size + 2) 3 1 (.slice (some ⟨W0.heap.size, 0, none⟩) 0 0) 0 []) :=
    ⟨rfl, .inr ⟨W0.heap.size, 0, #[], rfl, by have := hs0.out; omega, heap_alloc_new W0 _, Nat.le_refl _, by unfold maxLen; omega, rfl, rfl⟩⟩
  have HNW : Hid (∀ j u, (zints (zl P))[j]? = some u → ∃ ad, ao = some ad ∧ (W0.alloc (.cells #[] 3)).cell? (ad.add j) = some u) := fun j u hu => by
    unfold zints at hu
    rw [List.getElem?_map, Option.map_eq_some_iff] at hu
    obtain ⟨x, hx, rfl⟩ := hu
    obtain ⟨_, _, hv', _, _, hr⟩ := HV.out
    simp only [Value.slice.injEq] at hv'
    obtain ⟨rfl, _, _⟩ := hv'
    obtain ⟨g, o, ha, hg, c⟩ := hr j x hx
    refine ⟨_, ha, ?_⟩
    have hb : Below w.heap.size w (W0.alloc (.cells #[] 3)) := hB0.alloc hB0.size _
    have e : (⟨g, o, none⟩ : Addr).add j = ⟨g, o + j, none⟩ := by
      unfold Addr.add
      split
      · rename_i h; rw [h]; rfl
      · rfl
    rw [e]
    exact (hb.cell (p := ⟨g, o + j, none⟩) hg).trans c
  have HFIN : Hid (∀ (wx : World) (m' t : Nat) (u : Value) (P' : List Nat), m' ≤ m + 20 → P'.length ≤ 101 → BeS w wx b m' t u P' → ((∃ (P' : List Nat) (u' : Value), Ending.returned (.agg #[u]) = .returned (.agg #[u']) ∧ ZRow (wx.setCell ⟨w.heap.size + 1, 0, none⟩ u) w.heap.size u' (zl P') ∧ P'.length ≤ 101) ∧ Cur (wx.setCell ⟨w.heap.size + 1, 0, none⟩ u) b (m + 20) ∧ w.grownBy (wx.setCell ⟨w.heap.size + 1, 0, none⟩ u) (some b))) := fun wx m' t u P' hm' hP' h => by
    have hlt := World.ownsRow.lt h.lv.own
    refine ⟨⟨P', u, rfl, ?_, hP'⟩, ?_, ?_⟩
    · exact (h.lv.own.lower (by omega)).aside (Lib.grownBy_setCell _ (w.heap.size + 1) 0 _) (fun g hg e => by have := (hlt g hg).1; simp at e; omega)
    · exact (h.cur.grown (Lib.grownBy_setCell _ (w.heap.size + 1) 0 _) (fun j hj => by simp at hj; omega)).le hm'
    · refine ⟨h.gr.os, h.gr.tape, h.gr.output, by simp; exact h.gr.size, fun j hj hne => ?_⟩
      rw [Below.heap_setCell _ _ _ _ (by show j ≠ w.heap.size + 1; omega)]
      exact h.gr.block j hj hne
  go_enter Try.func83, Try.ntmps83
  go_upto_region 1 with fail
  rw [← hW0]
  clear hW0
  go_wp2_with (at_builtin; refine wpList_append_mayL _ rfl _ _ 35 rfl (w.heap.size + 2) 3 i0 (.int .i64 0) 1 8 Try.underlying35 hi hz0 hz1 hz2 rfl (by decide) _ 0 _ rfl HRow0.out _ P.length cap (zints (zl P)) rfl (by unfold zints; rw [List.length_map, zl_len]; omega) HNW.out ?c2 (by unfold maxLen; omega) (by omega) (by have := hs0.out; simp; omega) ?_)
  case c2 =>
    intro u hu
    unfold zints at hu
    obtain ⟨x, _, rfl⟩ := List.mem_map.1 hu
    rfl
  intro ar9 cap9 w9 hown9 hgrow9 hat9
  have hown9 : w9.ownsRow (w.heap.size + 2) 3 1 (.slice ar9 P.length cap9) P.length (zints (zl P)) := by simpa using hown9
  have hB9 : Below w.heap.size w w9 := (hB0.alloc hB0.size _).grown hgrow9 (by simp; omega) (fun k hk => by simp [Value.ownBlock] at hk; omega)
  have hsz9 : w.heap.size + 2 < w9.heap.size := by have h1 := hgrow9.size; have h2 := hs0.out; simp at h1; omega
  have hfr9 : ∀ j, j < W0.heap.size → w9.heap[j]? = W0.heap[j]? := fun j hj => (hgrow9.block j (by simp; omega) (fun e => by simp [Value.ownBlock] at e; omega)).trans (((Below.refl W0.heap.size W0).alloc (Nat.le_refl _) (.cells #[] 3)).block j hj)
  have hc9 : Cur w9 b m := (hc0.alloc _).grown hgrow9 (fun k hk => by simp [Value.ownBlock] at hk; omega)
  have hz9 : ZRow w9 (w.heap.size + 2) (.slice ar9 P.length cap9) (zl P) := by unfold ZRow; rw [zl_len]; exact hown9
  obtain ⟨W2, hW2⟩ : ∃ W, W = w9.alloc (.cells #[.slice ar9 P.length cap9] 37) := ⟨_, rfl⟩
  have hB2 : Below w9.heap.size w9 W2 := by rw [hW2]; exact (Below.refl _ w9).alloc (Nat.le_refl _) _
  have HB2 : Hid (BeS w W2 b m w9.heap.size (.slice ar9 P.length cap9) P) := by
    have hs2 := hB2.size
    have hb1 := hfr9 (w.heap.size + 1) hl1
    refine ⟨⟨by rw [hW2]; simp, by rw [hW2]; go_simp, by rw [hW2]; go_simp, hz9.below hB2, fun g hg => by have := (World.ownsRow.lt hz9 g hg).2; omega⟩, by omega, ?_, ?_, by rw [hW2]; exact hc9.alloc _, grow_belowL (hB9.trans (hB2.mono hB9.size)), hbl, by omega⟩
    · exact (hB2.cell (p := ⟨w.heap.size + 1, 0, none⟩) (by show w.heap.size + 1 < _; omega)).trans ((World.cell?_of_block (w := W0) hb1).trans q1)
    · exact (hB2.frozen (p := ⟨w.heap.size + 1, 0, none⟩) (by show w.heap.size + 1 < _; omega)).trans ((World.frozen?_of_block (w := W0) hb1).trans f1)
  obtain ⟨tt, htt⟩ : ∃ x, x = w9.heap.size := ⟨_, rfl⟩
  rw [← htt] at HB2
  have HPB : Hid (∀ y ∈ P, y < 1000003) := hP
  clear hown9 hgrow9 hat9 hz9 hc9 hB9 hfr9 HRow0 HNW q0 q1 f1 hc0 hc hB0 hP HV hB2
  go_upto_region 2 with fail
  rw [← hW2, ← htt]
  clear hW2 htt
  obtain ⟨n, hn⟩ : ∃ n, n = P.length := ⟨_, rfl⟩
  rw [← hn] at HB2 ⊢
  have HN : Hid (P.length = n) := hn.symm
  have hn100 : n ≤ 100 := by rw [hn]; exact hl
  clear hn hl
  go_wp2_with fail
  refine (one_any b _ _ _ HB2.out.cur (by omega)).mono ?_
  rintro e w3 ⟨t1, rfl, hc3, hg3⟩
  have HB3 : Hid (BeS w w3 b (m + 2) tt (.slice ar9 n cap9) P) := HB2.out.grown hg3 hc3
  have y3 := HB3.out.lv.row
  have l3 := HB3.out.lv.low
  clear hc3 hg3 HB2
  cases t1 with
  | false =>
    go_wp2_with fail
    refine (one_any b _ _ _ HB3.out.cur (by omega)).mono ?_
    rintro e w5 ⟨t2, rfl, hc5, hg5⟩
    have HB5 : Hid (BeS w w5 b (m + 2 + 2) tt (.slice ar9 n cap9) (P)) := HB3.out.grown hg5 hc5
    obtain ⟨L9, hL9⟩ : ∃ x, x = P := ⟨_, rfl⟩
    have hll : L9.length = n := by rw [hL9]; first | exact HN.out | (rw [List.length_set]; exact HN.out)
    have HB5 : Hid (BeS w w5 b (m + 2 + 2) tt (.slice ar9 n cap9) L9) := by rw [hL9]; exact HB5.out
    clear hc5 hg5 HB3 hL9
    cases t2 with
    | false =>
      obtain hfin := HFIN.out w5 _ tt _ _ (by omega) (by rw [hll]; omega) HB5.out
      have HF5 : Hid (type_of% hfin) := hfin
      have y5 := HB5.out.lv.row
      have l5 := HB5.out.lv.low
      have r5 := HB5.out.res
      have z5 := HB5.out.rfz
      have s5 : w.heap.size + 1 < w5.heap.size := by have := HB5.out.size; omega
      clear hfin HB5
      go_wp2
      (try simp only [Exit.inBlock, Exit.then])
      refine bodyPost_ret (v := .agg #[.slice ar9 n cap9]) ?_ rfl HF5.out
      rw [rc]
      go_simp
    | true =>
      have hS5d : BeS w w5.drew b (m + 2 + 2) tt (.slice ar9 n cap9) L9 := HB5.out.drew
      have q5d := hS5d.lv.row
      have hcd := hS5d.cur
      have l5d := hS5d.lv.low
      go_upto_region 6 with fail
      go_region_law
        (first
          | (go_simp; go_at_call 81; refine (pick_any b _ 9 _ hcd (by omega)).mono ?_; rintro e w10 ⟨y, rfl, hy, hc10, hg10⟩; have hS10 := hS5d.grown hg10 hc10; have q10 := hS10.lv.row; have q10a := (hS10.alloc (.cells #[.int .i64 (y : Int)] 3)).lv.row; have hrow10 : w10.ownsRow (w.heap.size + 2) 3 1 (.slice ar9 n cap9) n (zints (zl L9)) := (by have h := hS10.lv.own; unfold ZRow at h; rw [zl_len, hll] at h; exact h); have hsz10 : w.heap.size + 2 ≤ w10.heap.size := hS10.size)
          | (refine step_append_lies _ (by rfl) _ _ _ (by rfl) (w.heap.size + 2) 3 i0 (.int .i64 0) 1 8 Try.underlying35 hi hz0 hz1 hz2 rfl (by decide) _ n _ (by rfl) (World.ownsRow.alloc hrow10 _) ⟨w10.heap.size, 0, none⟩ 1 1 [.int .i64 (y : Int)] (by rfl) rfl (World.news_of_block (heap_alloc_new w10 _)) (by intro u hu; simp at hu; subst hu; rfl) (by omega) (by unfold maxLen; omega) (by omega) (by simp; omega) (w10.heap.size + 1) (by simp) ?_; intro g9 c9 w11 hown11 hgrow11 hat11 hlt11; obtain ⟨q11, f11, hS11⟩ := hS10.push hll hown11 hgrow11 hat11)
          | fail "none")
      all_goals
        obtain hfin := HFIN.out _ _ tt _ _ (by omega) (by rw [List.length_append, List.length_singleton, hll]; omega) hS11
        have HF5 : Hid (type_of% hfin) := hfin
        have y5 := hS11.lv.row
        have l5 := hS11.lv.low
        have r5 := hS11.res
        have z5 := hS11.rfz
        have s5 := hS11.size
        clear hfin
        go_wp2
        (try simp only [Exit.inBlock, Exit.then])
        refine bodyPost_ret (v := .agg #[.slice (some ⟨g9, 0, none⟩) (n + 1) c9]) ?_ rfl HF5.out
        rw [rc]
        go_simp
  | true =>
    by_cases hp0 : n = 0
    · subst hp0
      go_wp2_with fail
      refine (one_any b _ _ _ HB3.out.cur (by omega)).mono ?_
      rintro e w5 ⟨t2, rfl, hc5, hg5⟩
      have HB5 : Hid (BeS w w5 b (m + 2 + 2) tt (.slice ar9 0 cap9) (P)) := HB3.out.grown hg5 hc5
      obtain ⟨L9, hL9⟩ : ∃ x, x = P := ⟨_, rfl⟩
      have hll : L9.length = 0 := by rw [hL9]; first | exact HN.out | (rw [List.length_set]; exact HN.out)
      have HB5 : Hid (BeS w w5 b (m + 2 + 2) tt (.slice ar9 0 cap9) L9) := by rw [hL9]; exact HB5.out
      clear hc5 hg5 HB3 hL9
      cases t2 with
      | false =>
        obtain hfin := HFIN.out w5 _ tt _ _ (by omega) (by rw [hll]; omega) HB5.out
        have HF5 : Hid (type_of% hfin) := hfin
        have y5 := HB5.out.lv.row
        have l5 := HB5.out.lv.low
        have r5 := HB5.out.res
        have z5 := HB5.out.rfz
        have s5 : w.heap.size + 1 < w5.heap.size := by have := HB5.out.size; omega
        clear hfin HB5
        go_wp2
        (try simp only [Exit.inBlock, Exit.then])
        refine bodyPost_ret (v := .agg #[.slice ar9 0 cap9]) ?_ rfl HF5.out
        rw [rc]
        go_simp
      | true =>
        have hS5d : BeS w w5.drew b (m + 2 + 2) tt (.slice ar9 0 cap9) L9 := HB5.out.drew
        have q5d := hS5d.lv.row
        have hcd := hS5d.cur
        have l5d := hS5d.lv.low
        go_upto_region 6 with fail
        go_region_law
          (first
            | (go_simp; go_at_call 81; refine (pick_any b _ 9 _ hcd (by omega)).mono ?_; rintro e w10 ⟨y, rfl, hy, hc10, hg10⟩; have hS10 := hS5d.grown hg10 hc10; have q10 := hS10.lv.row; have q10a := (hS10.alloc (.cells #[.int .i64 (y : Int)] 3)).lv.row; have hrow10 : w10.ownsRow (w.heap.size + 2) 3 1 (.slice ar9 0 cap9) 0 (zints (zl L9)) := (by have h := hS10.lv.own; unfold ZRow at h; rw [zl_len, hll] at h; exact h); have hsz10 : w.heap.size + 2 ≤ w10.heap.size := hS10.size)
            | (refine step_append_lies _ (by rfl) _ _ _ (by rfl) (w.heap.size + 2) 3 i0 (.int .i64 0) 1 8 Try.underlying35 hi hz0 hz1 hz2 rfl (by decide) _ 0 _ (by rfl) (World.ownsRow.alloc hrow10 _) ⟨w10.heap.size, 0, none⟩ 1 1 [.int .i64 (y : Int)] (by rfl) rfl (World.news_of_block (heap_alloc_new w10 _)) (by intro u hu; simp at hu; subst hu; rfl) (by omega) (by unfold maxLen; omega) (by omega) (by simp; omega) (w10.heap.size + 1) (by simp) ?_; intro g9 c9 w11 hown11 hgrow11 hat11 hlt11; obtain ⟨q11, f11, hS11⟩ := hS10.push hll hown11 hgrow11 hat11)
            | fail "none")
        all_goals
          obtain hfin := HFIN.out _ _ tt _ _ (by omega) (by rw [List.length_append, List.length_singleton, hll]; omega) hS11
          have HF5 : Hid (type_of% hfin) := hfin
          have y5 := hS11.lv.row
          have l5 := hS11.lv.low
          have r5 := hS11.res
          have z5 := hS11.rfz
          have s5 := hS11.size
          clear hfin
          go_wp2
          (try simp only [Exit.inBlock, Exit.then])
          refine bodyPost_ret (v := .agg #[.slice (some ⟨g9, 0, none⟩) (0 + 1) c9]) ?_ rfl HF5.out
          rw [rc]
          go_simp
    · have hp0' : 0 < n := by omega
      have hp0'' : (0 : Int) < (n : Int) := by omega
      obtain ⟨g, cap', hgv⟩ := Joins.ownsRow_form HB3.out.lv.own (by rw [zl_len, HN.out]; omega)
      rw [zl_len, HN.out] at hgv
      simp only [Value.slice.injEq] at hgv
      obtain ⟨rfl, _, rfl⟩ := hgv
      go_wp2_with fail
      refine (pick_any b _ _ _ HB3.out.cur (by omega)).mono ?_
      rintro e w4 ⟨k, rfl, hk, hc4, hg4⟩
      have HB4 : Hid (BeS w w4 b (m + 2 + 2) tt (.slice (some ⟨g, 0, none⟩) n cap9) P) := HB3.out.grown hg4 hc4
      have hkl : k < n := by omega
      have hkl' : (k : Int) < (n : Int) := by omega
      have hk0 : (0 : Int) ≤ (k : Int) := by omega
      have HB4d : Hid (BeS w w4.drew b (m + 2 + 2) tt (.slice (some ⟨g, 0, none⟩) n cap9) P) := HB4.out.drew
      have y4 := HB4d.out.lv.row
      have l4 := HB4d.out.lv.low
      have ho4 : w4.drew.ownsRow (w.heap.size + 2) 3 1 (.slice (some ⟨g, 0, none⟩) n cap9) n (zints (zl P)) := by
        have h := HB4d.out.lv.own
        unfold ZRow at h
        rw [zl_len, HN.out] at h
        exact h
      have c4 : w4.drew.cell? ⟨g, k, none⟩ = some (.int .i64 ((P.getD k 0 : Nat) : Int)) := by
        rw [World.ownsRow.cellAt ho4 k (by omega)]
        unfold zints
        rw [List.getElem?_map, zl_at P (by rw [HN.out]; exact hkl)]
        rfl
      have z4 : w4.drew.frozen? ⟨g, k, none⟩ = false := ho4.frozenAt k
      have hyb : P.getD k 0 < 1000003 := by rw [List.getD, List.getElem?_eq_getElem (by rw [HN.out]; exact hkl)]; exact HPB.out _ (List.getElem_mem _)
      have HSET : Hid (∀ x : Nat, BeS w (w4.setCell ⟨g, k, none⟩ (.int .i64 (x : Int))).drew b (m + 2 + 2) tt (.slice (some ⟨g, 0, none⟩) n cap9) (P.set k x)) := fun x => (HB4.out.set HN.out).drew
      generalize P.getD k 0 = y at c4 hyb
      have hmod : Hid ((IntKind.i64.wrap ((y : Int) + 1)).tmod 1000003 = (((y + 1) % 1000003 : Nat) : Int)) := by show _ = _; rw [wrap_idG (by omega) (by omega), Int.tmod_eq_emod_of_nonneg (by omega)]; omega
      clear hk hc4 hg4 HB3 y3 l3 ho4
      go_upto_region 4 with fail
      go_region_law (fail)
      all_goals
        rw [hmod.out]
        have HB6 : Hid (BeS w (w4.setCell ⟨g, k, none⟩ (.int .i64 (((y + 1) % 1000003 : Nat) : Int))).drew b (m + 2 + 2) tt (.slice (some ⟨g, 0, none⟩) n cap9) (P.set k ((y + 1) % 1000003))) := HSET.out _
        obtain ⟨w6, hw6⟩ : ∃ W, W = (w4.setCell ⟨g, k, none⟩ (.int .i64 (((y + 1) % 1000003 : Nat) : Int))).drew := ⟨_, rfl⟩
        rw [← hw6] at HB6 ⊢
        clear hw6 HSET y4 l4 c4 z4 hmod hyb HB4 HB4d
        go_wp2_with fail
        refine (one_any b _ _ _ HB6.out.cur (by omega)).mono ?_
        rintro e w5 ⟨t2, rfl, hc5, hg5⟩
        have HB5 : Hid (BeS w w5 b (m + 2 + 2 + 2) tt (.slice (some ⟨g, 0, none⟩) n cap9) (P.set k ((y + 1) % 1000003))) := HB6.out.grown hg5 hc5
        obtain ⟨L9, hL9⟩ : ∃ x, x = P.set k ((y + 1) % 1000003) := ⟨_, rfl⟩
        have hll : L9.length = n := by rw [hL9]; first | exact HN.out | (rw [List.length_set]; exact HN.out)
        have HB5 : Hid (BeS w w5 b (m + 2 + 2 + 2) tt (.slice (some ⟨g, 0, none⟩) n cap9) L9) := by rw [hL9]; exact HB5.out
        clear hc5 hg5 HB6 hL9
        cases t2 with
        | false =>
          obtain hfin := HFIN.out w5 _ tt _ _ (by omega) (by rw [hll]; omega) HB5.out
          have HF5 : Hid (type_of% hfin) := hfin
          have y5 := HB5.out.lv.row
          have l5 := HB5.out.lv.low
          have r5 := HB5.out.res
          have z5 := HB5.out.rfz
          have s5 : w.heap.size + 1 < w5.heap.size := by have := HB5.out.size; omega
          clear hfin HB5
          go_wp2
          (try simp only [Exit.inBlock, Exit.then])
          refine bodyPost_ret (v := .agg #[.slice (some ⟨g, 0, none⟩) n cap9]) ?_ rfl HF5.out
          rw [rc]
          go_simp
        | true =>
          have hS5d : BeS w w5.drew b (m + 2 + 2 + 2) tt (.slice (some ⟨g, 0, none⟩) n cap9) L9 := HB5.out.drew
          have q5d := hS5d.lv.row
          have hcd := hS5d.cur
          have l5d := hS5d.lv.low
          go_upto_region 6 with fail
          go_region_law
            (first
              | (go_simp; go_at_call 81; refine (pick_any b _ 9 _ hcd (by omega)).mono ?_; rintro e w10 ⟨y, rfl, hy, hc10, hg10⟩; have hS10 := hS5d.grown hg10 hc10; have q10 := hS10.lv.row; have q10a := (hS10.alloc (.cells #[.int .i64 (y : Int)] 3)).lv.row; have hrow10 : w10.ownsRow (w.heap.size + 2) 3 1 (.slice (some ⟨g, 0, none⟩) n cap9) n (zints (zl L9)) := (by have h := hS10.lv.own; unfold ZRow at h; rw [zl_len, hll] at h; exact h); have hsz10 : w.heap.size + 2 ≤ w10.heap.size := hS10.size)
              | (refine step_append_lies _ (by rfl) _ _ _ (by rfl) (w.heap.size + 2) 3 i0 (.int .i64 0) 1 8 Try.underlying35 hi hz0 hz1 hz2 rfl (by decide) _ n _ (by rfl) (World.ownsRow.alloc hrow10 _) ⟨w10.heap.size, 0, none⟩ 1 1 [.int .i64 (y : Int)] (by rfl) rfl (World.news_of_block (heap_alloc_new w10 _)) (by intro u hu; simp at hu; subst hu; rfl) (by omega) (by unfold maxLen; omega) (by omega) (by simp; omega) (w10.heap.size + 1) (by simp) ?_; intro g9 c9 w11 hown11 hgrow11 hat11 hlt11; obtain ⟨q11, f11, hS11⟩ := hS10.push hll hown11 hgrow11 hat11)
              | fail "none")
          all_goals
            obtain hfin := HFIN.out _ _ tt _ _ (by omega) (by rw [List.length_append, List.length_singleton, hll]; omega) hS11
            have HF5 : Hid (type_of% hfin) := hfin
            have y5 := hS11.lv.row
            have l5 := hS11.lv.low
            have r5 := hS11.res
            have z5 := hS11.rfz
            have s5 := hS11.size
            clear hfin
            go_wp2
            (try simp only [Exit.inBlock, Exit.then])
            refine bodyPost_ret (v := .agg #[.slice (some ⟨g9, 0, none⟩) (n + 1) c9]) ?_ rfl HF5.out
            rw [rc]
            go_simp

end Go.Proofs.Ytlglngmlaknmlaa
