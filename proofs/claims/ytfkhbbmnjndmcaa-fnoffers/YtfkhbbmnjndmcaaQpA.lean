/- The program's PlayQueue. -/
import Derived.Test.YtfkhbbmnjndmcaaQuY
import Derived.Test.YtfkhbbmnjndmcaaQuI
import Derived.Test.YtfkhbbmnjndmcaaQsD
import Derived.Test.YtfkhbbmnjndmcaaMcN
namespace Go.Proofs.Ytfkhbbmnjndmcaa
open Go.RowKit Plain Qus
open Mch (en)

/-- a queue and what was told, as an answer -/
def PlO (w w' : World) (e : Ending) (F : Qu) (L : List Int) (K : Bool) : Prop := ∃ a1 c1 a2 c2 a3 c3 a4 c4, e = .returned (.tuple #[.agg #[.int .i64 F.cap, .int .i64 F.rule, .int .i64 F.next, .slice a1 F.wt.length c1, .slice a2 F.hd.length c2, .slice a3 F.dr.length c3], .slice a4 L.length c4, .bool K]) ∧ QuRow w' w.heap.size F (.slice a1 F.wt.length c1) (.slice a2 F.hd.length c2) (.slice a3 F.dr.length c3) ∧ ZRow w' w.heap.size (.slice a4 L.length c4) L ∧ (∀ g, P3 (.slice a1 F.wt.length c1) (.slice a2 F.hd.length c2) (.slice a3 F.dr.length c3) g → (Value.slice a4 L.length c4).ownBlock ≠ some g) ∧ Below w.heap.size w w'

theorem PlO.zero {w w' : World} (hb : Below w.heap.size w w') : PlO w w' (.returned (.tuple #[.agg #[.int .i64 0, .int .i64 0, .int .i64 0, .slice none 0 0, .slice none 0 0, .slice none 0 0], .slice none 0 0, .bool false])) qz [] false :=
  ⟨none, 0, none, 0, none, 0, none, 0, rfl, QuRow.nil _ _ 0 0 0, ZRow.nilQ _ _, fun g _ h => by simp [Value.ownBlock] at h, hb⟩

theorem okP_no {c r : Int} {l : List Bool} (h : okP c r l = false) : plQ c r l = qz ∧ plT c r l = [] := by
  unfold plQ plT
  rw [h]
  exact ⟨rfl, rfl⟩
theorem okP_yes {c r : Int} {l : List Bool} (h : okP c r l = true) : plQ c r l = tq c r (plP c r l).1 ∧ plT c r l = (plP c r l).2 := by
  unfold plQ plT
  rw [h]
  exact ⟨rfl, rfl⟩

/-- what the loop keeps -/
structure PyI (w W : World) (N : Nat) (c r : Int) (M T : List Int) (vt vm : Value) : Prop where
  t : ZRow W (w.heap.size + 1) vt T
  u : Lu W N N c r M vm
  a : ∀ g, vt.ownBlock = some g → g ≠ N ∧ vm.ownBlock ≠ some g
  b : Below w.heap.size w W
  v : Sv W w.heap.size (.int .i64 0) (.int .i64 0) (.int .i64 0) (.slice none 0 0) (.slice none 0 0) (.slice none 0 0)
  n : w.heap.size < N

theorem PyI.turn {w W W2 : World} {N : Nat} {c r : Int} {M M2 T : List Int} {vt vm v9 : Value} (h : PyI w W N c r M T vt vm) (hu : Lu W2 N N c r M2 v9) (ht : Lt W W2 N vm v9) : PyI w W2 N c r M2 T vt v9 := by
  have hlt := World.ownsRow.lt h.t
  have hl := h.u.hi
  have hvm : ∀ g, vm.ownBlock = some g → N ≤ g := fun g hg => (World.ownsRow.lt h.u.row g hg).1
  have hn := h.n
  have hsz := h.b.size
  refine ⟨own_keptQ h.t fun g hg => ht.block g (hlt g hg).2 (h.a g hg).1 (h.a g hg).2, hu, fun g hg => ⟨(h.a g hg).1, fun e => ?_⟩, h.b.trans ⟨ht.os, ht.tape, ht.output, ht.size, fun j hj => ht.block j (by omega) (by omega) (fun e => by have := hvm j e; omega)⟩, h.v.kept (ht.block _ (by omega) (by omega) (fun e => by have := hvm _ e; omega)) ht.size, h.n⟩
  rcases ht.new g e with e2 | e2
  · exact (h.a g hg).2 e2
  · have := (hlt g hg).2; omega

theorem PyI.tell {w W w9 : World} {N g9 cap9 : Nat} {c r x : Int} {M T : List Int} {vt vm : Value} {o : Obj} (h : PyI w W N c r M T vt vm)
    (hown9 : w9.ownsRow (w.heap.size + 1) 3 1 (.slice (some ⟨g9, 0, none⟩) (T.length + 1) cap9) (T.length + 1) (zints T ++ [.int .i64 x])) (hgrow9 : (W.alloc o).grownBy w9 vt.ownBlock) (hat9 : vt.ownBlock = some g9 ∨ g9 = W.heap.size + 1) : PyI w w9 N c r M (T ++ [x]) (.slice (some ⟨g9, 0, none⟩) (T.length + 1) cap9) vm := by
  have hbo : Below W.heap.size W (W.alloc o) := (Below.refl _ W).alloc (Nat.le_refl _) o
  have hso : (W.alloc o).heap.size = W.heap.size + 1 := by simp
  have hlt := World.ownsRow.lt h.t
  have hvm : ∀ g, vm.ownBlock = some g → g < W.heap.size := fun g hg => (World.ownsRow.lt h.u.row g hg).2
  have hu1 := h.u.below hbo
  have hv1 := h.v.below hbo
  have hn := h.n
  have hNl := h.u.hi
  have hgs := hgrow9.size
  have hneN : some N ≠ vt.ownBlock := fun e => (h.a N e.symm).1 rfl
  have hneR : some w.heap.size ≠ vt.ownBlock := fun e => by have := (hlt _ e.symm).1; omega
  have hb9 : Below w.heap.size (W.alloc o) w9 := ⟨hgrow9.os, hgrow9.tape, hgrow9.output, hgrow9.size, fun j hj => hgrow9.block j (by have := h.b.size; omega) (fun e => by have := (hlt j e.symm).1; omega)⟩
  refine ⟨ZRow.snocQ hown9, hu1.kept (hgrow9.block _ (by omega) hneN) hgs (own_asideQ hu1.row hgrow9 (fun g hg e => (h.a g e).2 hg)), fun g hg => ?_, (h.b.trans (hbo.mono h.b.size)).trans hb9, hv1.kept (hgrow9.block _ (by omega) hneR) hgs, h.n⟩
  simp [Value.ownBlock] at hg
  subst hg
  rcases hat9 with e | e
  · exact h.a _ e
  · exact ⟨by omega, fun e2 => by have := hvm _ e2; omega⟩

set_option maxRecDepth 100000 in
set_option maxHeartbeats 16000000 in
theorem implPlayQ (c r : Int) (l : List Bool) (v : Value) (w : World) (h : EAt w w.heap.size v l) :
    Calls Try.prog 27 #[.int .i64 c, .int .i64 r, v] w fun e w' => PlO w w' e (plQ c r l) (plT c r l) (okP c r l) := by
  have rc := fun (tmps : Array Value) (P : Program) (w : World) => results_cell_tmp2Q (fn := Try.f27) (p := 6) (u := 7) (v := 8) (ty := 24) rfl tmps P w
  obtain ⟨ao, cap, rfl, hlc, hcm, hrow⟩ := h
  have HROW : Hid (∀ i, i < l.length → ∃ g o, ao = some ⟨g, o, none⟩ ∧ g < w.heap.size ∧ w.cell? ⟨g, o + i, none⟩ = some (.bool (en l i))) := hrow
  unfold maxLen at hcm
  obtain ⟨W0, hW0⟩ : ∃ W, W = w.alloc (.cells #[.int .i64 0, .int .i64 0, .int .i64 0, .slice none 0 0, .slice none 0 0, .slice none 0 0] 24) := ⟨_, rfl⟩
  have hB0 : Below w.heap.size w W0 := by rw [hW0]; exact (Below.refl _ w).alloc (Nat.le_refl _) _
  have V1 : Sv W0 w.heap.size (.int .i64 0) (.int .i64 0) (.int .i64 0) (.slice none 0 0) (.slice none 0 0) (.slice none 0 0) := by rw [hW0]; exact Sv.fresh w _ _ _ _ _ _ _
  have CN := newLineup_any c r W0
  have HB : Hid (type_of% hB0) := hB0
  have HV0 : Hid (type_of% V1) := V1
  have hsz : w.heap.size < W0.heap.size := V1.low
  clear hB0 V1 hrow
  by_cases hok : okR c r = true
  · rw [hok] at CN
    by_cases hln : l.length ≤ 200
    · have hP : okP c r l = true := by unfold okP; rw [hok, decide_eq_true hln]; rfl
      obtain ⟨i0, hi0, hz0, hz1', hz2⟩ := info_parts infoIntR
      have hcr : (1 ≤ c ∧ c ≤ 10) ∧ (1 ≤ r ∧ r ≤ 3) := by
        unfold okR at hok
        simpa using hok
      obtain ⟨⟨hc1, _⟩, hrr⟩ := hcr
      have HQ : Hid (plQ c r l = tq c r (plP c r l).1 ∧ plT c r l = (plP c r l).2 ∧ okP c r l = true) := ⟨(okP_yes hP).1, (okP_yes hP).2, hP⟩
      have HGD : Hid (∀ k, GdM c (plP c r (l.take k)).1) := fun k => GdM.play hc1 _
      have HTL : Hid (∀ k, k ≤ l.length → (plP c r (l.take k)).2.length = k) := fun k hk => by rw [plP_len, List.length_take]; omega
      have HST : Hid (∀ k, k < l.length → plP c r (l.take (k + 1)) = stepP c r (plP c r (l.take k)) (en l k)) := fun k hk => plP_step c r l k (en l k) (en_at hk)
      have HRR : Hid (type_of% hrr) := hrr
      have hlI : (l.length : Int) ≤ 200 := by omega
      clear hP hok hrr hln
      go_enter Try.func27, Try.ntmps27
      go_upto_region 1 with fail
      rw [← hW0]
      clear hW0
      go_wp2_with fail
      go_at_call 45
      refine CN.mono ?_
      rintro e w1 ⟨rfl, hb1, hL⟩
      have hL := hL (by trivial)
      have HI0 : Hid (PyI w w1 W0.heap.size c r [] [] (.slice none 0 0) (.slice none 0 0)) := ⟨ZRow.nilQ _ _, hL, fun g hg => by simp [Value.ownBlock] at hg, HB.out.trans (hb1.mono HB.out.size), HV0.out.below hb1, hsz⟩
      clear hb1 hL CN HV0 HB
      obtain ⟨N, hN⟩ : ∃ N, N = W0.heap.size := ⟨_, rfl⟩
      rw [← hN] at HI0 hsz ⊢
      clear hN
      go_wp2
      go_loopw [11, 33] (fun vt vi wr => ∃ (k : Nat) (vm : Value), k ≤ l.length ∧ vi = .int .i64 (k : Int) ∧ Hid (PyI w wr N c r (plP c r (l.take k)).1 (plP c r (l.take k)).2 vt vm))
        (fun _ vi _ => l.length - (intOf vi).toNat)
      case atStart => exact ⟨0, _, by omega, rfl, HI0⟩
      case round =>
        obtain ⟨k, vm, hk, rfl, HI⟩ := hrel
        have hGd := HGD.out k
        have hTl := HTL.out k hk
        by_cases hlt : k < l.length
        · have hltI : (k : Int) < (l.length : Int) := by omega
          have HS := HST.out k hlt
          obtain ⟨g, o, rfl, hg, hc0⟩ := HROW.out k hlt
          have e1 := (HI.out.b.cell (p := ⟨g, o + k, none⟩) hg).trans hc0
          obtain ⟨S9, hS9⟩ : ∃ S, S = plP c r (l.take (k + 1)) := ⟨_, rfl⟩
          have HS9 : Hid (S9 = plP c r (l.take (k + 1))) := hS9
          rw [← hS9] at HS
          clear hS9 hc0
          obtain ⟨MT, hMT⟩ : ∃ S, S = plP c r (l.take k) := ⟨_, rfl⟩
          rw [← hMT] at HI hGd hTl HS
          clear hMT
          obtain ⟨M, T⟩ := MT
          dsimp only at HI hGd hTl
          have hml := hGd.len
          have hT100 : T.length ≤ 200 := by omega
          clear hTl
          have hsw : w.heap.size + 1 ≤ wr.heap.size := by have := HI.out.v.low; omega
          have hNw : N ≤ wr.heap.size := by have := HI.out.u.hi; omega
          obtain ⟨at0, ct0, rfl⟩ := ZRow.slice HI.out.t
          generalize en l k = b at e1 HS
          cases b with
          | false =>
            have CF := handT N N c r M vm wr HI.out.u hml
            have HSE0 : Hid (S9 = ((hnM M).1, T ++ [if (hnM M).2.2 then (hnM M).2.1 else -2])) := HS
            clear HS
            cases hF : (hnM M).2.2 with
            | false =>
              rw [hF] at CF
              have HSE : Hid (S9 = ((hnM M).1, T ++ [-2])) := by show _ = _; rw [HSE0.out, hF]; rfl
              clear hF HSE0
              generalize (hnM M).1 = M2 at CF HSE
              generalize (hnM M).2.1 = no at CF
              go_wp2_with fail
              go_at_call 55
              refine CF.mono ?_
              rintro e w2 ⟨rfl, ⟨v9, hL2, hT2⟩, hb2⟩
              have HI2 : Hid (type_of% (HI.out.turn hL2 hT2)) := HI.out.turn hL2 hT2
              have hs2 : wr.heap.size ≤ w2.heap.size := hb2.size
              clear CF hL2 hT2 hb2
              go_wp2_with (at_builtin; refine wpList_append_lies _ rfl _ _ 22 rfl (w.heap.size + 1) 3 i0 (.int .i64 0) 1 8 Try.underlying22 hi0 hz0 hz1' hz2 rfl (by decide) _ T.length _ rfl (World.ownsRow.alloc HI2.out.t _) ⟨w2.heap.size, 0, none⟩ 1 1 [.int .i64 (-2)] rfl rfl (World.news_of_block (heap_alloc_new w2 _)) (one1Q (-2)) (by omega) (by unfold maxLen; omega) (by omega) (by simp; omega) (w2.heap.size + 1) (by simp) ?_)
              intro g9 cap9 w9 hown9 hgrow9 hat9 hlt9
              have HI9 : Hid (type_of% (HI2.out.tell hown9 hgrow9 hat9)) := HI2.out.tell hown9 hgrow9 hat9
              clear hown9 hgrow9 hat9 hlt9 HI2
              go_wp2
              go_roundw
              case rel => exact ⟨k + 1, v9, by omega, by go_num, by show PyI _ _ _ _ _ _ _ _ _; rw [← HS9.out, HSE.out]; exact HI9.out⟩
              case measure => simp [intOf]; omega
            | true =>
              rw [hF] at CF
              have HSE : Hid (S9 = ((hnM M).1, T ++ [(hnM M).2.1])) := by show _ = _; rw [HSE0.out, hF]; rfl
              clear hF HSE0
              generalize (hnM M).1 = M2 at CF HSE
              generalize (hnM M).2.1 = no at CF HSE
              go_wp2_with fail
              go_at_call 55
              refine CF.mono ?_
              rintro e w2 ⟨rfl, ⟨v9, hL2, hT2⟩, hb2⟩
              have HI2 : Hid (type_of% (HI.out.turn hL2 hT2)) := HI.out.turn hL2 hT2
              have hs2 : wr.heap.size ≤ w2.heap.size := hb2.size
              clear CF hL2 hT2 hb2
              go_wp2_with (at_builtin; refine wpList_append_lies _ rfl _ _ 22 rfl (w.heap.size + 1) 3 i0 (.int .i64 0) 1 8 Try.underlying22 hi0 hz0 hz1' hz2 rfl (by decide) _ T.length _ rfl (World.ownsRow.alloc HI2.out.t _) ⟨w2.heap.size, 0, none⟩ 1 1 [.int .i64 no] rfl rfl (World.news_of_block (heap_alloc_new w2 _)) (one1Q no) (by omega) (by unfold maxLen; omega) (by omega) (by simp; omega) (w2.heap.size + 1) (by simp) ?_)
              intro g9 cap9 w9 hown9 hgrow9 hat9 hlt9
              have HI9 : Hid (type_of% (HI2.out.tell hown9 hgrow9 hat9)) := HI2.out.tell hown9 hgrow9 hat9
              clear hown9 hgrow9 hat9 hlt9 HI2
              go_wp2
              go_roundw
              case rel => exact ⟨k + 1, v9, by omega, by go_num, by show PyI _ _ _ _ _ _ _ _ _; rw [← HS9.out, HSE.out]; exact HI9.out⟩
              case measure => simp [intOf]; omega
          | true =>
            have CF := offerT N N c r M vm wr HI.out.u hGd hc1 HRR.out hNw
            have HSE0 : Hid (S9 = ((ofM c r M).1, T ++ [if (ofM c r M).2.2 then (ofM c r M).2.1 else -2])) := HS
            clear HS
            cases hF : (ofM c r M).2.2 with
            | false =>
              rw [hF] at CF
              have HSE : Hid (S9 = ((ofM c r M).1, T ++ [-2])) := by show _ = _; rw [HSE0.out, hF]; rfl
              clear hF HSE0
              generalize (ofM c r M).1 = M2 at CF HSE
              generalize (ofM c r M).2.1 = no at CF
              go_wp2_with fail
              go_at_call 53
              refine CF.mono ?_
              rintro e w2 ⟨rfl, ⟨v9, hL2, hT2⟩, hb2⟩
              have HI2 : Hid (type_of% (HI.out.turn hL2 hT2)) := HI.out.turn hL2 hT2
              have hs2 : wr.heap.size ≤ w2.heap.size := hb2.size
              clear CF hL2 hT2 hb2
              go_wp2_with (at_builtin; refine wpList_append_lies _ rfl _ _ 22 rfl (w.heap.size + 1) 3 i0 (.int .i64 0) 1 8 Try.underlying22 hi0 hz0 hz1' hz2 rfl (by decide) _ T.length _ rfl (World.ownsRow.alloc HI2.out.t _) ⟨w2.heap.size, 0, none⟩ 1 1 [.int .i64 (-2)] rfl rfl (World.news_of_block (heap_alloc_new w2 _)) (one1Q (-2)) (by omega) (by unfold maxLen; omega) (by omega) (by simp; omega) (w2.heap.size + 1) (by simp) ?_)
              intro g9 cap9 w9 hown9 hgrow9 hat9 hlt9
              have HI9 : Hid (type_of% (HI2.out.tell hown9 hgrow9 hat9)) := HI2.out.tell hown9 hgrow9 hat9
              clear hown9 hgrow9 hat9 hlt9 HI2
              go_wp2
              go_roundw
              case rel => exact ⟨k + 1, v9, by omega, by go_num, by show PyI _ _ _ _ _ _ _ _ _; rw [← HS9.out, HSE.out]; exact HI9.out⟩
              case measure => simp [intOf]; omega
            | true =>
              rw [hF] at CF
              have HSE : Hid (S9 = ((ofM c r M).1, T ++ [(ofM c r M).2.1])) := by show _ = _; rw [HSE0.out, hF]; rfl
              clear hF HSE0
              generalize (ofM c r M).1 = M2 at CF HSE
              generalize (ofM c r M).2.1 = no at CF HSE
              go_wp2_with fail
              go_at_call 53
              refine CF.mono ?_
              rintro e w2 ⟨rfl, ⟨v9, hL2, hT2⟩, hb2⟩
              have HI2 : Hid (type_of% (HI.out.turn hL2 hT2)) := HI.out.turn hL2 hT2
              have hs2 : wr.heap.size ≤ w2.heap.size := hb2.size
              clear CF hL2 hT2 hb2
              go_wp2_with (at_builtin; refine wpList_append_lies _ rfl _ _ 22 rfl (w.heap.size + 1) 3 i0 (.int .i64 0) 1 8 Try.underlying22 hi0 hz0 hz1' hz2 rfl (by decide) _ T.length _ rfl (World.ownsRow.alloc HI2.out.t _) ⟨w2.heap.size, 0, none⟩ 1 1 [.int .i64 no] rfl rfl (World.news_of_block (heap_alloc_new w2 _)) (one1Q no) (by omega) (by unfold maxLen; omega) (by omega) (by simp; omega) (w2.heap.size + 1) (by simp) ?_)
              intro g9 cap9 w9 hown9 hgrow9 hat9 hlt9
              have HI9 : Hid (type_of% (HI2.out.tell hown9 hgrow9 hat9)) := HI2.out.tell hown9 hgrow9 hat9
              clear hown9 hgrow9 hat9 hlt9 HI2
              go_wp2
              go_roundw
              case rel => exact ⟨k + 1, v9, by omega, by go_num, by show PyI _ _ _ _ _ _ _ _ _; rw [← HS9.out, HSE.out]; exact HI9.out⟩
              case measure => simp [intOf]; omega
        · have hke : k = l.length := by omega
          subst hke
          have hge : ¬ ((l.length : Int) < (l.length : Int)) := by omega
          rw [List.take_length] at HI hGd hTl
          obtain ⟨MT, hMT⟩ : ∃ S, S = plP c r l := ⟨_, rfl⟩
          rw [← hMT] at HI hGd hTl HQ
          clear hMT
          obtain ⟨M, T⟩ := MT
          dsimp only at HI hGd hTl HQ
          clear hTl
          have CT := toldU N N c r M vm wr HI.out.u (by have := hGd.len; omega)
          obtain ⟨at0, ct0, rfl⟩ := ZRow.slice HI.out.t
          go_wp2_with fail
          go_at_call 46
          refine CT.mono ?_
          rintro e w2 ⟨a1, c1, a2, c2, a3, c3, rfl, hr, hb2⟩
          have HV : Hid (type_of% (HI.out.v.below hb2)) := HI.out.v.below hb2
          have HE : Hid (Below w.heap.size w w2) := HI.out.b.trans (hb2.mono HI.out.b.size)
          have HR : Hid (type_of% hr) := hr
          have HTT : Hid (ZRow w2 (w.heap.size + 1) (.slice at0 T.length ct0) T) := own_belowQ HI.out.t hb2
          have HAP : Hid (∀ g, P3 (.slice a1 (tq c r M).wt.length c1) (.slice a2 (tq c r M).hd.length c2) (.slice a3 (tq c r M).dr.length c3) g → (Value.slice at0 T.length ct0).ownBlock ≠ some g) := fun g hg e => by
            have h1 := (World.ownsRow.lt HI.out.t g e).2
            have h2 := hr.ownIn g hg
            omega
          have hlow : w.heap.size < wr.heap.size := HI.out.v.low
          clear hr hb2 CT HI
          have y0 := HV.out.c0
          have z0 := HV.out.f0
          have y1 := HV.out.c1
          have z1 := HV.out.f1
          have y2 := HV.out.c2
          have z2 := HV.out.f2
          have y3 := HV.out.c3
          have z3 := HV.out.f3
          have y4 := HV.out.c4
          have z4 := HV.out.f4
          have y5 := HV.out.c5
          have z5 := HV.out.f5
          go_wp2_with fail
          (try simp only [Exit.inBlock, Exit.then])
          refine bodyPost_ret (v := .tuple #[.agg #[.int .i64 (tq c r M).cap, .int .i64 (tq c r M).rule, .int .i64 (tq c r M).next, .slice a1 (tq c r M).wt.length c1, .slice a2 (tq c r M).hd.length c2, .slice a3 (tq c r M).dr.length c3], .slice at0 T.length ct0, .bool true]) ?_ rfl ?_
          · rw [rc]
            go_simp
          · rw [HQ.out.1, HQ.out.2.1, HQ.out.2.2]
            exact ⟨a1, c1, a2, c2, a3, c3, at0, ct0, rfl, (HR.out.set6 hlow).lower (by omega), ZRow.lower (own_set6Q HTT.out (fun g hg => by have := (World.ownsRow.lt HTT.out g hg).1; omega)) (by omega), HAP.out, Below.set6Q HE.out (Nat.le_refl _)⟩
    · have hP : okP c r l = false := by unfold okP; rw [decide_eq_false hln, Bool.and_false]
      have HQ : Hid (plQ c r l = qz ∧ plT c r l = [] ∧ okP c r l = false) := ⟨(okP_no hP).1, (okP_no hP).2, hP⟩
      have d1 : decide ((200 : Int) < (l.length : Int)) = true := by simp; omega
      clear hP hok hln
      go_enter Try.func27, Try.ntmps27
      go_upto_region 1 with fail
      rw [← hW0]
      clear hW0
      go_wp2_with fail
      go_at_call 45
      refine CN.mono ?_
      rintro e w1 ⟨rfl, hb1, -⟩
      have HV : Hid (type_of% (HV0.out.below hb1)) := HV0.out.below hb1
      have HE : Hid (Below w.heap.size w w1) := HB.out.trans (hb1.mono HB.out.size)
      clear hb1 CN
      have y0 := HV.out.c0
      have z0 := HV.out.f0
      have y1 := HV.out.c1
      have z1 := HV.out.f1
      have y2 := HV.out.c2
      have z2 := HV.out.f2
      have y3 := HV.out.c3
      have z3 := HV.out.f3
      have y4 := HV.out.c4
      have z4 := HV.out.f4
      have y5 := HV.out.c5
      have z5 := HV.out.f5
      go_wp2_with fail
      (try simp only [Exit.inBlock, Exit.then])
      refine bodyPost_ret (v := .tuple #[.agg #[.int .i64 0, .int .i64 0, .int .i64 0, .slice none 0 0, .slice none 0 0, .slice none 0 0], .slice none 0 0, .bool false]) ?_ rfl ?_
      · rw [rc]
        go_simp
      · rw [HQ.out.1, HQ.out.2.1, HQ.out.2.2]
        exact PlO.zero (Below.set6Q HE.out (Nat.le_refl _))
  · have hok' : okR c r = false := by simpa using hok
    have hP : okP c r l = false := by unfold okP; rw [hok']; rfl
    have HQ : Hid (plQ c r l = qz ∧ plT c r l = [] ∧ okP c r l = false) := ⟨(okP_no hP).1, (okP_no hP).2, hP⟩
    rw [hok'] at CN
    clear hP hok hok'
    go_enter Try.func27, Try.ntmps27
    go_upto_region 1 with fail
    rw [← hW0]
    clear hW0
    go_wp2_with fail
    go_at_call 45
    refine CN.mono ?_
    rintro e w1 ⟨rfl, hb1, -⟩
    have HV : Hid (type_of% (HV0.out.below hb1)) := HV0.out.below hb1
    have HE : Hid (Below w.heap.size w w1) := HB.out.trans (hb1.mono HB.out.size)
    clear hb1 CN
    have y0 := HV.out.c0
    have z0 := HV.out.f0
    have y1 := HV.out.c1
    have z1 := HV.out.f1
    have y2 := HV.out.c2
    have z2 := HV.out.f2
    have y3 := HV.out.c3
    have z3 := HV.out.f3
    have y4 := HV.out.c4
    have z4 := HV.out.f4
    have y5 := HV.out.c5
    have z5 := HV.out.f5
    go_wp2_with fail
    (try simp only [Exit.inBlock, Exit.then])
    refine bodyPost_ret (v := .tuple #[.agg #[.int .i64 0, .int .i64 0, .int .i64 0, .slice none 0 0, .slice none 0 0, .slice none 0 0], .slice none 0 0, .bool false]) ?_ rfl ?_
    · rw [rc]
      go_simp
    · rw [HQ.out.1, HQ.out.2.1, HQ.out.2.2]
      exact PlO.zero (Below.set6Q HE.out (Nat.le_refl _))

end Go.Proofs.Ytfkhbbmnjndmcaa
