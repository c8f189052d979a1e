/- The model's PlayQueue. -/
import Derived.Test.YtfkhbbmnjndmcaaQpA
import Derived.Test.YtfkhbbmnjndmcaaQsH
namespace Go.Proofs.Ytfkhbbmnjndmcaa
open Go.RowKit Plain Qus
open Mch (en)

theorem Sv.set6other {w : World} {b c : Nat} {y0 y1 y2 y3 y4 y5 x0 x1 x2 x3 x4 x5 : Value} (h : Sv w b y0 y1 y2 y3 y4 y5) (hne : b ≠ c) : Sv ((((((w.setCell ⟨c, 0, none⟩ x0).setCell ⟨c, 1, none⟩ x1).setCell ⟨c, 2, none⟩ x2).setCell ⟨c, 3, none⟩ x3).setCell ⟨c, 4, none⟩ x4).setCell ⟨c, 5, none⟩ x5) b y0 y1 y2 y3 y4 y5 :=
  (((((h.apart hne).apart hne).apart hne).apart hne).apart hne).apart hne
theorem QuRow.set6N {w : World} {B b : Nat} {q : Qu} {v1 v2 v3 x0 x1 x2 x3 x4 x5 : Value} (h : QuRow w B q v1 v2 v3) (n : ∀ g, P3 v1 v2 v3 g → g ≠ b) : QuRow ((((((w.setCell ⟨b, 0, none⟩ x0).setCell ⟨b, 1, none⟩ x1).setCell ⟨b, 2, none⟩ x2).setCell ⟨b, 3, none⟩ x3).setCell ⟨b, 4, none⟩ x4).setCell ⟨b, 5, none⟩ x5) B q v1 v2 v3 :=
  (((((h.setN _ 0 _ n).setN _ 1 _ n).setN _ 2 _ n).setN _ 3 _ n).setN _ 4 _ n).setN _ 5 _ n

/-- what the loop keeps: the queue in a variable, what was told -/
structure PzI (w W : World) (N : Nat) (q : Qu) (T : List Int) (vt v1 v2 v3 : Value) : Prop where
  t : ZRow W (w.heap.size + 1) vt T
  tn : vt.ownBlock ≠ some N
  r : QuRow W (w.heap.size + 1) q v1 v2 v3
  rn : ∀ g, P3 v1 v2 v3 g → g ≠ N
  a : ∀ g, P3 v1 v2 v3 g → vt.ownBlock ≠ some g
  b : Below w.heap.size w W
  v : Sv W w.heap.size (.int .i64 0) (.int .i64 0) (.int .i64 0) (.slice none 0 0) (.slice none 0 0) (.slice none 0 0)
  x : Sv W N (.int .i64 q.cap) (.int .i64 q.rule) (.int .i64 q.next) v1 v2 v3
  s : w.heap.size < N

theorem PzI.below {w W W' : World} {N : Nat} {q : Qu} {T : List Int} {vt v1 v2 v3 : Value} (h : PzI w W N q T vt v1 v2 v3) (hb : Below W.heap.size W W') : PzI w W' N q T vt v1 v2 v3 :=
  ⟨own_belowQ h.t hb, h.tn, h.r.below hb, h.rn, h.a, h.b.trans (hb.mono h.b.size), h.v.below hb, h.x.below hb, h.s⟩

theorem PzI.set {w W : World} {N : Nat} {q : Qu} {T : List Int} {vt v1 v2 v3 x0 x1 x2 x3 x4 x5 : Value} {b : Nat} (h : PzI w W N q T vt v1 v2 v3) (hb : w.heap.size < b) (hN : N ≠ b) (ht : vt.ownBlock ≠ some b) (hq : ∀ g, P3 v1 v2 v3 g → g ≠ b) :
    PzI w ((((((((((((W).setCell ⟨b, 0, none⟩ (x0))).setCell ⟨b, 1, none⟩ (x1))).setCell ⟨b, 2, none⟩ (x2))).setCell ⟨b, 3, none⟩ (x3))).setCell ⟨b, 4, none⟩ (x4))).setCell ⟨b, 5, none⟩ (x5)) N q T vt v1 v2 v3 :=
  ⟨own_set6Q h.t (fun g hg e => ht (by rw [← e]; exact hg)), h.tn, h.r.set6N hq, h.rn, h.a, Below.set6Q h.b (by omega), h.v.set6other (by omega), h.x.set6other hN, h.s⟩

theorem PzI.turn {w W : World} {N : Nat} {q F : Qu} {T : List Int} {vt v1 v2 v3 u1 u2 u3 : Value} (h : PzI w W N q T vt v1 v2 v3) (hr : QuRow W (w.heap.size + 1) F u1 u2 u3) (hn : ∀ g, P3 u1 u2 u3 g → g ≠ N) (ha : ∀ g, P3 u1 u2 u3 g → vt.ownBlock ≠ some g) :
    PzI w ((((((((((((W).setCell ⟨N, 0, none⟩ (.int .i64 F.cap))).setCell ⟨N, 1, none⟩ (.int .i64 F.rule))).setCell ⟨N, 2, none⟩ (.int .i64 F.next))).setCell ⟨N, 3, none⟩ (u1))).setCell ⟨N, 4, none⟩ (u2))).setCell ⟨N, 5, none⟩ (u3)) N F T vt u1 u2 u3 :=
  ⟨own_set6Q h.t (fun g hg e => h.tn (by rw [← e]; exact hg)), h.tn, hr.set6N hn, hn, ha, Below.set6Q h.b (Nat.le_of_lt h.s), h.v.set6other (by have := h.s; omega), h.x.set6Q, h.s⟩

theorem PzI.tell {w W w9 : World} {N : Nat} {q : Qu} {g9 cap9 : Nat} {x : Int} {T : List Int} {vt v1 v2 v3 : Value} {o : Obj} (h : PzI w W N q T vt v1 v2 v3)
    (hown9 : w9.ownsRow (w.heap.size + 1) 3 1 (.slice (some ⟨g9, 0, none⟩) (T.length + 1) cap9) (T.length + 1) (zints T ++ [.int .i64 x])) (hgrow9 : (W.alloc o).grownBy w9 vt.ownBlock) (hat9 : vt.ownBlock = some g9 ∨ g9 = W.heap.size + 1) : PzI w w9 N q (T ++ [x]) (.slice (some ⟨g9, 0, none⟩) (T.length + 1) cap9) v1 v2 v3 := by
  have hbo : Below W.heap.size W (W.alloc o) := (Below.refl _ W).alloc (Nat.le_refl _) o
  have hso : (W.alloc o).heap.size = W.heap.size + 1 := by simp
  have h1 := h.below hbo
  have hlt := World.ownsRow.lt h.t
  have hq := h.r.ownIn
  have hs := h.s
  have hNl := h.x.low
  have hgs := hgrow9.size
  have hneR : some w.heap.size ≠ vt.ownBlock := fun e => by have := (hlt _ e.symm).1; omega
  have hneX : some N ≠ vt.ownBlock := fun e => h.tn e.symm
  have hb9 : Below w.heap.size (W.alloc o) w9 := ⟨hgrow9.os, hgrow9.tape, hgrow9.output, hgrow9.size, fun j hj => hgrow9.block j (by have := h.b.size; omega) (fun e => by have := (hlt j e.symm).1; omega)⟩
  refine ⟨ZRow.snocQ hown9, fun e => ?_, ⟨own_asideQ h1.r.a hgrow9 (fun g hg e => h.a g (.inl hg) e), own_asideQ h1.r.b hgrow9 (fun g hg e => h.a g (.inr (.inl hg)) e), own_asideQ h1.r.c hgrow9 (fun g hg e => h.a g (.inr (.inr hg)) e), h.r.ab, h.r.ac, h.r.bc⟩, h.rn, fun g hg e => ?_, h1.b.trans hb9, h1.v.kept (hgrow9.block _ (by omega) hneR) hgs, h1.x.kept (hgrow9.block _ (by omega) hneX) hgs, h.s⟩
  · simp [Value.ownBlock] at e
    subst e
    rcases hat9 with e2 | e2
    · exact h.tn e2
    · omega
  · simp [Value.ownBlock] at e
    subst e
    rcases hat9 with e2 | e2
    · exact h.a _ hg e2
    · have := hq _ hg; omega

theorem ofM_false {c r : Int} {M : List Int} (h : (ofM c r M).2.2 = false) : (ofM c r M).1 = M := by
  unfold ofM at h ⊢
  by_cases h1 : M.length = 100
  · rw [if_pos h1]
  · rw [if_neg h1] at h
    by_cases h2 : ((al M 1).length : Int) < c
    · rw [if_pos h2] at h; simp at h
    · rw [if_neg h2] at h; simp at h
theorem hnM_false {M : List Int} (h : (hnM M).2.2 = false) : (hnM M).1 = M := by
  unfold hnM at h ⊢
  by_cases h1 : fstM M 1 < 0
  · rw [if_pos h1]
  · rw [if_neg h1] at h; simp at h

set_option maxRecDepth 100000 in
set_option maxHeartbeats 16000000 in
theorem specPlayQ (c r : Int) (l : List Bool) (v : Value) (w : World) (h : EAt w w.heap.size v l) :
    Calls Try.prog 25 #[.int .i64 c, .int .i64 r, v] w fun e w' => PlO w w' e (plQ c r l) (plT c r l) (okP c r l) := by
  have rc := fun (tmps : Array Value) (P : Program) (w : World) => results_cell_tmp2Q (fn := Try.f25) (p := 6) (u := 7) (v := 8) (ty := 24) rfl tmps P w
  obtain ⟨ao, cap, rfl, hlc, hcm, hrow⟩ := h
  have HROW : Hid (∀ i, i < l.length → ∃ g o, ao = some ⟨g, o, none⟩ ∧ g < w.heap.size ∧ w.cell? ⟨g, o + i, none⟩ = some (.bool (en l i))) := hrow
  unfold maxLen at hcm
  obtain ⟨W0, hW0⟩ : ∃ W, W = w.alloc (.cells #[.int .i64 0, .int .i64 0, .int .i64 0, .slice none 0 0, .slice none 0 0, .slice none 0 0] 24) := ⟨_, rfl⟩
  have hB0 : Below w.heap.size w W0 := by rw [hW0]; exact (Below.refl _ w).alloc (Nat.le_refl _) _
  have V1 : Sv W0 w.heap.size (.int .i64 0) (.int .i64 0) (.int .i64 0) (.slice none 0 0) (.slice none 0 0) (.slice none 0 0) := by rw [hW0]; exact Sv.fresh w _ _ _ _ _ _ _
  have hs0 : W0.heap.size = w.heap.size + 1 := by rw [hW0]; simp
  have CN := specNewQ c r W0
  have HB : Hid (type_of% hB0) := hB0
  have HV0 : Hid (type_of% V1) := V1
  have HS0 : Hid (W0.heap.size = w.heap.size + 1) := hs0
  have hsz : w.heap.size < W0.heap.size := V1.low
  clear hB0 V1 hrow hs0
  by_cases hok : okR c r = true
  · by_cases hln : l.length ≤ 200
    · have hP : okP c r l = true := by unfold okP; rw [hok, decide_eq_true hln]; rfl
      obtain ⟨i0, hi0, hz0, hz1', hz2⟩ := info_parts infoIntR
      have hcr : (1 ≤ c ∧ c ≤ 10) ∧ (1 ≤ r ∧ r ≤ 3) := by
        unfold okR at hok
        simpa using hok
      obtain ⟨⟨hc1, _⟩, hrr⟩ := hcr
      have hnq : nqQ c r = tq c r [] := by unfold nqQ; rw [hok]; rfl
      rw [hok, hnq] at CN
      have HQ : Hid (plQ c r l = tq c r (plP c r l).1 ∧ plT c r l = (plP c r l).2 ∧ okP c r l = true) := ⟨(okP_yes hP).1, (okP_yes hP).2, hP⟩
      have HGD : Hid (∀ k, GdM c (plP c r (l.take k)).1) := fun k => GdM.play hc1 _
      have HTL : Hid (∀ k, k ≤ l.length → (plP c r (l.take k)).2.length = k) := fun k hk => by rw [plP_len, List.length_take]; omega
      have HST : Hid (∀ k, k < l.length → plP c r (l.take (k + 1)) = stepP c r (plP c r (l.take k)) (en l k)) := fun k hk => plP_step c r l k (en l k) (en_at hk)
      have HRR : Hid (type_of% hrr) := hrr
      have hlI : (l.length : Int) ≤ 200 := by omega
      clear hP hok hrr hln hnq
      go_enter Try.func25, Try.ntmps25
      go_upto_region 1 with fail
      rw [← hW0]
      clear hW0
      go_wp2_with fail
      go_at_call 12
      refine CN.mono ?_
      rintro e w1 ⟨a1, c1, a2, c2, a3, c3, rfl, hr1, hb1⟩
      have hI1 : ∀ W, Below w1.heap.size w1 W → Sv W w1.heap.size (.int .i64 (tq c r []).cap) (.int .i64 (tq c r []).rule) (.int .i64 (tq c r []).next) (.slice a1 (tq c r []).wt.length c1) (.slice a2 (tq c r []).hd.length c2) (.slice a3 (tq c r []).dr.length c3) → PzI w W w1.heap.size (tq c r []) [] (.slice none 0 0) (.slice a1 (tq c r []).wt.length c1) (.slice a2 (tq c r []).hd.length c2) (.slice a3 (tq c r []).dr.length c3) := fun W hW hx => by
        have hlow := hr1.ownIn
        have e0 := HS0.out
        have hs1 := hb1.size
        exact ⟨ZRow.nilQ _ _, by simp [Value.ownBlock], (hr1.below hW).lower (by omega), fun g hg => by have := hlow g hg; omega, fun g _ h => by simp [Value.ownBlock] at h, HB.out.trans ((hb1.trans (hW.mono hb1.size)).mono HB.out.size), (HV0.out.below hb1).below hW, hx, by omega⟩
      obtain ⟨W1, hW1⟩ : ∃ W, W = w1.alloc (.cells #[.int .i64 (tq c r []).cap, .int .i64 (tq c r []).rule, .int .i64 (tq c r []).next, .slice a1 (tq c r []).wt.length c1, .slice a2 (tq c r []).hd.length c2, .slice a3 (tq c r []).dr.length c3] 24) := ⟨_, rfl⟩
      have HI1 : Hid (PzI w W1 w1.heap.size (tq c r []) [] (.slice none 0 0) (.slice a1 (tq c r []).wt.length c1) (.slice a2 (tq c r []).hd.length c2) (.slice a3 (tq c r []).dr.length c3)) := by
        refine hI1 W1 (by rw [hW1]; exact (Below.refl _ w1).alloc (Nat.le_refl _) _) ?_
        rw [hW1]
        exact Sv.fresh w1 _ _ _ _ _ _ _
      clear hb1 hr1 CN HV0 HB HS0 hI1
      obtain ⟨N, hN⟩ : ∃ N, N = w1.heap.size := ⟨_, rfl⟩
      go_upto_region 2 with fail
      rw [← hW1]
      clear hW1
      rw [← hN] at HI1 ⊢
      clear hN
      go_wp2
      go_loopw [11, 33] (fun vt vi wr => ∃ (k : Nat) (v1 v2 v3 : Value), k ≤ l.length ∧ vi = .int .i64 (k : Int) ∧ Hid (PzI w wr N (tq c r (plP c r (l.take k)).1) (plP c r (l.take k)).2 vt v1 v2 v3))
        (fun _ vi _ => l.length - (intOf vi).toNat)
      case atStart => exact ⟨0, _, _, _, by omega, rfl, HI1⟩
      case round =>
        obtain ⟨k, v1, v2, v3, hk, rfl, HI⟩ := hrel
        have hGd := HGD.out k
        have hTl := HTL.out k hk
        by_cases hlt : k < l.length
        · have hltI : (k : Int) < (l.length : Int) := by omega
          have HS := HST.out k hlt
          obtain ⟨g, o, rfl, hg, hc0⟩ := HROW.out k hlt
          have e1 := (HI.out.b.cell (p := ⟨g, o + k, none⟩) hg).trans hc0
          obtain ⟨S9, hS9⟩ : ∃ S, S = plP c r (l.take (k + 1)) := ⟨_, rfl⟩
          have HS9 : Hid (S9 = plP c r (l.take (k + 1))) := hS9
          rw [← hS9] at HS
          clear hS9 hc0
          obtain ⟨MT, hMT⟩ : ∃ S, S = plP c r (l.take k) := ⟨_, rfl⟩
          rw [← hMT] at HI hGd hTl HS
          clear hMT
          obtain ⟨M, T⟩ := MT
          dsimp only at HI hGd hTl
          have hT100 : T.length ≤ 200 := by omega
          clear hTl
          have hsm : SmlQ (tq c r M) 1000 := tq_small hGd
          have hNw : N < wr.heap.size := HI.out.x.low
          have hwN : w.heap.size < N := HI.out.s
          obtain ⟨at0, ct0, rfl⟩ := ZRow.slice HI.out.t
          obtain ⟨b1, d1, b2, d2, b3, d3, rfl, rfl, rfl⟩ := HI.out.r.form
          obtain ⟨q, hq⟩ : ∃ q, q = tq c r M := ⟨_, rfl⟩
          rw [← hq] at HI hsm
          have HOF : Hid (∀ W B v1 v2 v3, QuRow W B q v1 v2 v3 → B ≤ W.heap.size → Calls Try.prog 50 #[.agg #[.int .i64 q.cap, .int .i64 q.rule, .int .i64 q.next, v1, v2, v3]] W fun e w' => QuOutB W w' B (ofL q).1 (fun v => e = .returned (.tuple #[v, .int .i64 (ofL q).2.1, .bool (ofL q).2.2]))) := fun W B v1 v2 v3 hr hB => l16Offer_any hGd hc1 q hq B v1 v2 v3 W hr hB
          have HHN : Hid (∀ W B v1 v2 v3, QuRow W B q v1 v2 v3 → B ≤ W.heap.size → Calls Try.prog 54 #[.agg #[.int .i64 q.cap, .int .i64 q.rule, .int .i64 q.next, v1, v2, v3]] W fun e w' => QuOutB W w' B (hnL q).1 (fun v => e = .returned (.tuple #[v, .int .i64 (hnL q).2.1, .bool (hnL q).2.2]))) := fun W B v1 v2 v3 hr hB => l16Hand_tq hGd q hq B v1 v2 v3 W hr hB
          have HLO : Hid (ofL q = if (ofM c r M).2.2 then (tq c r (ofM c r M).1, (ofM c r M).2.1, true) else (qz, 0, false)) := by show _ = _; rw [hq]; exact ofL_tq hc1
          have HLH : Hid (hnL q = if (hnM M).2.2 then (tq c r (hnM M).1, (hnM M).2.1, true) else (qz, 0, false)) := by show _ = _; rw [hq]; exact hnL_tq
          obtain ⟨WX, hWX⟩ : ∃ W, W = wr.alloc (.cells #[.int .i64 q.cap, .int .i64 q.rule, .int .i64 q.next, .slice b1 q.wt.length d1, .slice b2 q.hd.length d2, .slice b3 q.dr.length d3] 24) := ⟨_, rfl⟩
          have hbX : Below wr.heap.size wr WX := by rw [hWX]; exact (Below.refl _ wr).alloc (Nat.le_refl _) _
          have HIX : Hid (PzI w WX N q T (.slice at0 T.length ct0) (.slice b1 q.wt.length d1) (.slice b2 q.hd.length d2) (.slice b3 q.dr.length d3)) := HI.out.below hbX
          have COW : Calls Try.prog 51 #[.agg #[.int .i64 q.cap, .int .i64 q.rule, .int .i64 q.next, .slice b1 q.wt.length d1, .slice b2 q.hd.length d2, .slice b3 q.dr.length d3]] WX fun e w' => QuOut WX w' q (fun v => e = .returned v) := l16Own_any q _ _ _ WX HIX.out.r.at hsm
          have HQQ : Hid (type_of% hq) := hq
          clear hsm hGd
          clear hq
          generalize en l k = b at e1 HS
          have HVX : Hid (Sv WX wr.heap.size (.int .i64 q.cap) (.int .i64 q.rule) (.int .i64 q.next) (.slice b1 q.wt.length d1) (.slice b2 q.hd.length d2) (.slice b3 q.dr.length d3)) := by show Sv _ _ _ _ _ _ _ _; rw [hWX]; exact Sv.fresh wr _ _ _ _ _ _ _
          have hsX : wr.heap.size < WX.heap.size := HVX.out.low
          have x0 := HI.out.x.c0
          have x1 := HI.out.x.c1
          have x2 := HI.out.x.c2
          have x3 := HI.out.x.c3
          have x4 := HI.out.x.c4
          have x5 := HI.out.x.c5
          have HNP : Hid (∀ g, (Value.slice at0 T.length ct0).ownBlock = some g → g < wr.heap.size) := fun g hg => (World.ownsRow.lt HI.out.t g hg).2
          have HNQ : Hid (∀ g, P3 (.slice b1 q.wt.length d1) (.slice b2 q.hd.length d2) (.slice b3 q.dr.length d3) g → g < wr.heap.size) := fun g hg => (HI.out.r.ownIn g hg).2
          clear hbX HI
          cases b with
          | false =>
            have HSE0 : Hid (S9 = ((hnM M).1, T ++ [if (hnM M).2.2 then (hnM M).2.1 else -2])) := HS
            clear HS
            go_upto_region 9 with fail
            rw [← hWX]
            clear hWX x0 x1 x2 x3 x4 x5
            have x0 := HIX.out.x.c0
            have x1 := HIX.out.x.c1
            have x2 := HIX.out.x.c2
            have x3 := HIX.out.x.c3
            have x4 := HIX.out.x.c4
            have x5 := HIX.out.x.c5
            go_wp2_with fail
            go_at_call 51
            refine COW.mono ?_
            rintro e w2 ⟨p1, f1, p2, f2, p3, f3, rfl, hr2, hb2⟩
            have CF := HHN.out w2 WX.heap.size _ _ _ hr2 hb2.size
            have HB2 : Hid (Below WX.heap.size WX w2) := hb2
            clear hr2 hb2 COW x0 x1 x2 x3 x4 x5
            cases hF : (hnM M).2.2 with
            | false =>
              have hLq : hnL q = (qz, 0, false) := by rw [HLH.out, hF]; rfl
              rw [hLq] at CF
              dsimp only at CF
              have HSE : Hid (S9 = ((hnM M).1, T ++ [-2])) := by show _ = _; rw [HSE0.out, hF]; rfl
              have HM1 : Hid ((hnM M).1 = M) := hnM_false hF
              clear hF HSE0 hLq
              go_wp2_with fail
              go_at_call 54
              refine CF.mono ?_
              rintro e w3 ⟨a4, c4, a5, c5, a6, c6, rfl, hr3, hb3⟩
              have hb23 : Below WX.heap.size WX w3 := HB2.out.trans hb3
              have X3 := HVX.out.below hb23
              have HX3 : Hid (type_of% X3) := X3
              have HR3 : Hid (type_of% hr3) := hr3
              have HI3 : Hid (type_of% (HIX.out.below hb23)) := HIX.out.below hb23
              have y0 := X3.c0
              have z0 := X3.f0
              have y1 := X3.c1
              have z1 := X3.f1
              have y2 := X3.c2
              have z2 := X3.f2
              have y3 := X3.c3
              have z3 := X3.f3
              have y4 := X3.c4
              have z4 := X3.f4
              have y5 := X3.c5
              have z5 := X3.f5
              clear X3 hr3 hb3 hb23 CF HB2
              go_upto_region 14 with fail
              obtain ⟨W4, hW4⟩ : ∃ W, W = ((((((((((((w3).setCell ⟨wr.heap.size, 0, none⟩ (.int .i64 qz.cap))).setCell ⟨wr.heap.size, 1, none⟩ (.int .i64 qz.rule))).setCell ⟨wr.heap.size, 2, none⟩ (.int .i64 qz.next))).setCell ⟨wr.heap.size, 3, none⟩ (.slice a4 qz.wt.length c4))).setCell ⟨wr.heap.size, 4, none⟩ (.slice a5 qz.hd.length c5))).setCell ⟨wr.heap.size, 5, none⟩ (.slice a6 qz.dr.length c6)) := ⟨_, rfl⟩
              rw [← hW4]
              have HI4 : Hid (PzI w W4 N q T (.slice at0 T.length ct0) (.slice b1 q.wt.length d1) (.slice b2 q.hd.length d2) (.slice b3 q.dr.length d3)) := by
                rw [hW4]
                exact HI3.out.set (by omega) (by omega) (fun e => by have := HNP.out _ e; omega) (fun g hg => by have := HNQ.out g hg; omega)
              clear hW4 y0 y1 y2 y3 y4 y5 z0 z1 z2 z3 z4 z5 HX3 HR3 HI3
              obtain ⟨W5, hW5⟩ : ∃ W, W = W4 := ⟨_, rfl⟩
              rw [← hW5] at HI4 ⊢
              clear hW5
              have HI2 : Hid (type_of% HI4.out) := HI4.out
              clear HI4
              have hw5 : w.heap.size + 1 ≤ W5.heap.size := by have := HI2.out.x.low; omega
              go_wp2_with (at_builtin; refine wpList_append_lies _ rfl _ _ 22 rfl (w.heap.size + 1) 3 i0 (.int .i64 0) 1 8 Try.underlying22 hi0 hz0 hz1' hz2 rfl (by decide) _ T.length _ rfl (World.ownsRow.alloc HI2.out.t _) ⟨W5.heap.size, 0, none⟩ 1 1 [.int .i64 (-2)] rfl rfl (World.news_of_block (heap_alloc_new W5 _)) (one1Q (-2)) (by omega) (by unfold maxLen; omega) (by omega) (by simp; omega) (W5.heap.size + 1) (by simp) ?_)
              intro g9 cap9 w9 hown9 hgrow9 hat9 hlt9
              have HI9 : Hid (type_of% (HI2.out.tell hown9 hgrow9 hat9)) := HI2.out.tell hown9 hgrow9 hat9
              clear hown9 hgrow9 hat9 hlt9 HI2
              go_wp2
              go_roundw
              case rel => exact ⟨k + 1, _, _, _, by omega, by go_num, by show PzI _ _ _ _ _ _ _ _ _; rw [← HS9.out, HSE.out]; show PzI _ _ _ (tq c r (hnM M).1) _ _ _ _ _; rw [HM1.out, ← HQQ.out]; exact HI9.out⟩
              case measure => simp [intOf]; omega
            | true =>
              have hLq : hnL q = (tq c r (hnM M).1, (hnM M).2.1, true) := by rw [HLH.out, hF]; rfl
              rw [hLq] at CF
              dsimp only at CF
              have HSE : Hid (S9 = ((hnM M).1, T ++ [(hnM M).2.1])) := by show _ = _; rw [HSE0.out, hF]; rfl
              clear hF HSE0 hLq HLO HLH
              generalize (hnM M).1 = M2 at CF HSE
              generalize (hnM M).2.1 = no at CF HSE
              go_wp2_with fail
              go_at_call 54
              refine CF.mono ?_
              rintro e w3 ⟨a4, c4, a5, c5, a6, c6, rfl, hr3, hb3⟩
              have hb23 : Below WX.heap.size WX w3 := HB2.out.trans hb3
              have X3 := HVX.out.below hb23
              have HX3 : Hid (type_of% X3) := X3
              have HR3 : Hid (type_of% hr3) := hr3
              have HI3 : Hid (type_of% (HIX.out.below hb23)) := HIX.out.below hb23
              have y0 := X3.c0
              have z0 := X3.f0
              have y1 := X3.c1
              have z1 := X3.f1
              have y2 := X3.c2
              have z2 := X3.f2
              have y3 := X3.c3
              have z3 := X3.f3
              have y4 := X3.c4
              have z4 := X3.f4
              have y5 := X3.c5
              have z5 := X3.f5
              clear X3 hr3 hb3 hb23 CF HB2
              go_upto_region 14 with fail
              obtain ⟨W4, hW4⟩ : ∃ W, W = ((((((((((((w3).setCell ⟨wr.heap.size, 0, none⟩ (.int .i64 (tq c r M2).cap))).setCell ⟨wr.heap.size, 1, none⟩ (.int .i64 (tq c r M2).rule))).setCell ⟨wr.heap.size, 2, none⟩ (.int .i64 (tq c r M2).next))).setCell ⟨wr.heap.size, 3, none⟩ (.slice a4 (tq c r M2).wt.length c4))).setCell ⟨wr.heap.size, 4, none⟩ (.slice a5 (tq c r M2).hd.length c5))).setCell ⟨wr.heap.size, 5, none⟩ (.slice a6 (tq c r M2).dr.length c6)) := ⟨_, rfl⟩
              rw [← hW4]
              have HI4 : Hid (PzI w W4 N q T (.slice at0 T.length ct0) (.slice b1 q.wt.length d1) (.slice b2 q.hd.length d2) (.slice b3 q.dr.length d3)) := by
                rw [hW4]
                exact HI3.out.set (by omega) (by omega) (fun e => by have := HNP.out _ e; omega) (fun g hg => by have := HNQ.out g hg; omega)
              have HX4 : Hid (Sv W4 wr.heap.size (.int .i64 (tq c r M2).cap) (.int .i64 (tq c r M2).rule) (.int .i64 (tq c r M2).next) (.slice a4 (tq c r M2).wt.length c4) (.slice a5 (tq c r M2).hd.length c5) (.slice a6 (tq c r M2).dr.length c6)) := by show Sv _ _ _ _ _ _ _ _; rw [hW4]; exact HX3.out.set6Q
              have HR4 : Hid (QuRow W4 WX.heap.size (tq c r M2) (.slice a4 (tq c r M2).wt.length c4) (.slice a5 (tq c r M2).hd.length c5) (.slice a6 (tq c r M2).dr.length c6)) := by
                show QuRow _ _ _ _ _ _
                rw [hW4]
                exact HR3.out.set6N (fun g hg => by have := HR3.out.ownIn g hg; omega)
              clear hW4 y0 y1 y2 y3 y4 y5 z0 z1 z2 z3 z4 z5 HX3 HR3 HI3
              have y0 := HX4.out.c0
              have u0 := HI4.out.x.c0
              have z0 := HI4.out.x.f0
              have y1 := HX4.out.c1
              have u1 := HI4.out.x.c1
              have z1 := HI4.out.x.f1
              have y2 := HX4.out.c2
              have u2 := HI4.out.x.c2
              have z2 := HI4.out.x.f2
              have y3 := HX4.out.c3
              have u3 := HI4.out.x.c3
              have z3 := HI4.out.x.f3
              have y4 := HX4.out.c4
              have u4 := HI4.out.x.c4
              have z4 := HI4.out.x.f4
              have y5 := HX4.out.c5
              have u5 := HI4.out.x.c5
              have z5 := HI4.out.x.f5
              go_upto_region 17 with fail
              obtain ⟨W5, hW5⟩ : ∃ W, W = ((((((((((((W4).setCell ⟨N, 0, none⟩ (.int .i64 (tq c r M2).cap))).setCell ⟨N, 1, none⟩ (.int .i64 (tq c r M2).rule))).setCell ⟨N, 2, none⟩ (.int .i64 (tq c r M2).next))).setCell ⟨N, 3, none⟩ (.slice a4 (tq c r M2).wt.length c4))).setCell ⟨N, 4, none⟩ (.slice a5 (tq c r M2).hd.length c5))).setCell ⟨N, 5, none⟩ (.slice a6 (tq c r M2).dr.length c6)) := ⟨_, rfl⟩
              rw [← hW5]
              have HI2 : Hid (PzI w W5 N (tq c r M2) T (.slice at0 T.length ct0) (.slice a4 (tq c r M2).wt.length c4) (.slice a5 (tq c r M2).hd.length c5) (.slice a6 (tq c r M2).dr.length c6)) := by
                show PzI _ _ _ _ _ _ _ _ _
                rw [hW5]
                exact HI4.out.turn (HR4.out.lower (by omega)) (fun g hg => by have := HR4.out.ownIn g hg; omega) (fun g hg e => by have h1 := HR4.out.ownIn g hg; have h2 := HNP.out g e; omega)
              clear hW5 HX4 HR4 HI4 y0 y1 y2 y3 y4 y5 z0 z1 z2 z3 z4 z5 u0 u1 u2 u3 u4 u5
              have hw5 : w.heap.size + 1 ≤ W5.heap.size := by have := HI2.out.x.low; omega
              go_wp2_with (at_builtin; refine wpList_append_lies _ rfl _ _ 22 rfl (w.heap.size + 1) 3 i0 (.int .i64 0) 1 8 Try.underlying22 hi0 hz0 hz1' hz2 rfl (by decide) _ T.length _ rfl (World.ownsRow.alloc HI2.out.t _) ⟨W5.heap.size, 0, none⟩ 1 1 [.int .i64 no] rfl rfl (World.news_of_block (heap_alloc_new W5 _)) (one1Q no) (by omega) (by unfold maxLen; omega) (by omega) (by simp; omega) (W5.heap.size + 1) (by simp) ?_)
              intro g9 cap9 w9 hown9 hgrow9 hat9 hlt9
              have HI9 : Hid (type_of% (HI2.out.tell hown9 hgrow9 hat9)) := HI2.out.tell hown9 hgrow9 hat9
              clear hown9 hgrow9 hat9 hlt9 HI2
              go_wp2
              go_roundw
              case rel => exact ⟨k + 1, _, _, _, by omega, by go_num, by show PzI _ _ _ _ _ _ _ _ _; rw [← HS9.out, HSE.out]; exact HI9.out⟩
              case measure => simp [intOf]; omega
          | true =>
            have HSE0 : Hid (S9 = ((ofM c r M).1, T ++ [if (ofM c r M).2.2 then (ofM c r M).2.1 else -2])) := HS
            clear HS
            go_upto_region 9 with fail
            rw [← hWX]
            clear hWX x0 x1 x2 x3 x4 x5
            have x0 := HIX.out.x.c0
            have x1 := HIX.out.x.c1
            have x2 := HIX.out.x.c2
            have x3 := HIX.out.x.c3
            have x4 := HIX.out.x.c4
            have x5 := HIX.out.x.c5
            go_wp2_with fail
            go_at_call 51
            refine COW.mono ?_
            rintro e w2 ⟨p1, f1, p2, f2, p3, f3, rfl, hr2, hb2⟩
            have CF := HOF.out w2 WX.heap.size _ _ _ hr2 hb2.size
            have HB2 : Hid (Below WX.heap.size WX w2) := hb2
            clear hr2 hb2 COW x0 x1 x2 x3 x4 x5
            cases hF : (ofM c r M).2.2 with
            | false =>
              have hLq : ofL q = (qz, 0, false) := by rw [HLO.out, hF]; rfl
              rw [hLq] at CF
              dsimp only at CF
              have HSE : Hid (S9 = ((ofM c r M).1, T ++ [-2])) := by show _ = _; rw [HSE0.out, hF]; rfl
              have HM1 : Hid ((ofM c r M).1 = M) := ofM_false hF
              clear hF HSE0 hLq
              go_wp2_with fail
              go_at_call 50
              refine CF.mono ?_
              rintro e w3 ⟨a4, c4, a5, c5, a6, c6, rfl, hr3, hb3⟩
              have hb23 : Below WX.heap.size WX w3 := HB2.out.trans hb3
              have X3 := HVX.out.below hb23
              have HX3 : Hid (type_of% X3) := X3
              have HR3 : Hid (type_of% hr3) := hr3
              have HI3 : Hid (type_of% (HIX.out.below hb23)) := HIX.out.below hb23
              have y0 := X3.c0
              have z0 := X3.f0
              have y1 := X3.c1
              have z1 := X3.f1
              have y2 := X3.c2
              have z2 := X3.f2
              have y3 := X3.c3
              have z3 := X3.f3
              have y4 := X3.c4
              have z4 := X3.f4
              have y5 := X3.c5
              have z5 := X3.f5
              clear X3 hr3 hb3 hb23 CF HB2
              go_upto_region 14 with fail
              obtain ⟨W4, hW4⟩ : ∃ W, W = ((((((((((((w3).setCell ⟨wr.heap.size, 0, none⟩ (.int .i64 qz.cap))).setCell ⟨wr.heap.size, 1, none⟩ (.int .i64 qz.rule))).setCell ⟨wr.heap.size, 2, none⟩ (.int .i64 qz.next))).setCell ⟨wr.heap.size, 3, none⟩ (.slice a4 qz.wt.length c4))).setCell ⟨wr.heap.size, 4, none⟩ (.slice a5 qz.hd.length c5))).setCell ⟨wr.heap.size, 5, none⟩ (.slice a6 qz.dr.length c6)) := ⟨_, rfl⟩
              rw [← hW4]
              have HI4 : Hid (PzI w W4 N q T (.slice at0 T.length ct0) (.slice b1 q.wt.length d1) (.slice b2 q.hd.length d2) (.slice b3 q.dr.length d3)) := by
                rw [hW4]
                exact HI3.out.set (by omega) (by omega) (fun e => by have := HNP.out _ e; omega) (fun g hg => by have := HNQ.out g hg; omega)
              clear hW4 y0 y1 y2 y3 y4 y5 z0 z1 z2 z3 z4 z5 HX3 HR3 HI3
              obtain ⟨W5, hW5⟩ : ∃ W, W = W4 := ⟨_, rfl⟩
              rw [← hW5] at HI4 ⊢
              clear hW5
              have HI2 : Hid (type_of% HI4.out) := HI4.out
              clear HI4
              have hw5 : w.heap.size + 1 ≤ W5.heap.size := by have := HI2.out.x.low; omega
              go_wp2_with (at_builtin; refine wpList_append_lies _ rfl _ _ 22 rfl (w.heap.size + 1) 3 i0 (.int .i64 0) 1 8 Try.underlying22 hi0 hz0 hz1' hz2 rfl (by decide) _ T.length _ rfl (World.ownsRow.alloc HI2.out.t _) ⟨W5.heap.size, 0, none⟩ 1 1 [.int .i64 (-2)] rfl rfl (World.news_of_block (heap_alloc_new W5 _)) (one1Q (-2)) (by omega) (by unfold maxLen; omega) (by omega) (by simp; omega) (W5.heap.size + 1) (by simp) ?_)
              intro g9 cap9 w9 hown9 hgrow9 hat9 hlt9
              have HI9 : Hid (type_of% (HI2.out.tell hown9 hgrow9 hat9)) := HI2.out.tell hown9 hgrow9 hat9
              clear hown9 hgrow9 hat9 hlt9 HI2
              go_wp2
              go_roundw
              case rel => exact ⟨k + 1, _, _, _, by omega, by go_num, by show PzI _ _ _ _ _ _ _ _ _; rw [← HS9.out, HSE.out]; show PzI _ _ _ (tq c r (ofM c r M).1) _ _ _ _ _; rw [HM1.out, ← HQQ.out]; exact HI9.out⟩
              case measure => simp [intOf]; omega
            | true =>
              have hLq : ofL q = (tq c r (ofM c r M).1, (ofM c r M).2.1, true) := by rw [HLO.out, hF]; rfl
              rw [hLq] at CF
              dsimp only at CF
              have HSE : Hid (S9 = ((ofM c r M).1, T ++ [(ofM c r M).2.1])) := by show _ = _; rw [HSE0.out, hF]; rfl
              clear hF HSE0 hLq HLO HLH
              generalize (ofM c r M).1 = M2 at CF HSE
              generalize (ofM c r M).2.1 = no at CF HSE
              go_wp2_with fail
              go_at_call 50
              refine CF.mono ?_
              rintro e w3 ⟨a4, c4, a5, c5, a6, c6, rfl, hr3, hb3⟩
              have hb23 : Below WX.heap.size WX w3 := HB2.out.trans hb3
              have X3 := HVX.out.below hb23
              have HX3 : Hid (type_of% X3) := X3
              have HR3 : Hid (type_of% hr3) := hr3
              have HI3 : Hid (type_of% (HIX.out.below hb23)) := HIX.out.below hb23
              have y0 := X3.c0
              have z0 := X3.f0
              have y1 := X3.c1
              have z1 := X3.f1
              have y2 := X3.c2
              have z2 := X3.f2
              have y3 := X3.c3
              have z3 := X3.f3
              have y4 := X3.c4
              have z4 := X3.f4
              have y5 := X3.c5
              have z5 := X3.f5
              clear X3 hr3 hb3 hb23 CF HB2
              go_upto_region 14 with fail
              obtain ⟨W4, hW4⟩ : ∃ W, W = ((((((((((((w3).setCell ⟨wr.heap.size, 0, none⟩ (.int .i64 (tq c r M2).cap))).setCell ⟨wr.heap.size, 1, none⟩ (.int .i64 (tq c r M2).rule))).setCell ⟨wr.heap.size, 2, none⟩ (.int .i64 (tq c r M2).next))).setCell ⟨wr.heap.size, 3, none⟩ (.slice a4 (tq c r M2).wt.length c4))).setCell ⟨wr.heap.size, 4, none⟩ (.slice a5 (tq c r M2).hd.length c5))).setCell ⟨wr.heap.size, 5, none⟩ (.slice a6 (tq c r M2).dr.length c6)) := ⟨_, rfl⟩
              rw [← hW4]
              have HI4 : Hid (PzI w W4 N q T (.slice at0 T.length ct0) (.slice b1 q.wt.length d1) (.slice b2 q.hd.length d2) (.slice b3 q.dr.length d3)) := by
                rw [hW4]
                exact HI3.out.set (by omega) (by omega) (fun e => by have := HNP.out _ e; omega) (fun g hg => by have := HNQ.out g hg; omega)
              have HX4 : Hid (Sv W4 wr.heap.size (.int .i64 (tq c r M2).cap) (.int .i64 (tq c r M2).rule) (.int .i64 (tq c r M2).next) (.slice a4 (tq c r M2).wt.length c4) (.slice a5 (tq c r M2).hd.length c5) (.slice a6 (tq c r M2).dr.length c6)) := by show Sv _ _ _ _ _ _ _ _; rw [hW4]; exact HX3.out.set6Q
              have HR4 : Hid (QuRow W4 WX.heap.size (tq c r M2) (.slice a4 (tq c r M2).wt.length c4) (.slice a5 (tq c r M2).hd.length c5) (.slice a6 (tq c r M2).dr.length c6)) := by
                show QuRow _ _ _ _ _ _
                rw [hW4]
                exact HR3.out.set6N (fun g hg => by have := HR3.out.ownIn g hg; omega)
              clear hW4 y0 y1 y2 y3 y4 y5 z0 z1 z2 z3 z4 z5 HX3 HR3 HI3
              have y0 := HX4.out.c0
              have u0 := HI4.out.x.c0
              have z0 := HI4.out.x.f0
              have y1 := HX4.out.c1
              have u1 := HI4.out.x.c1
              have z1 := HI4.out.x.f1
              have y2 := HX4.out.c2
              have u2 := HI4.out.x.c2
              have z2 := HI4.out.x.f2
              have y3 := HX4.out.c3
              have u3 := HI4.out.x.c3
              have z3 := HI4.out.x.f3
              have y4 := HX4.out.c4
              have u4 := HI4.out.x.c4
              have z4 := HI4.out.x.f4
              have y5 := HX4.out.c5
              have u5 := HI4.out.x.c5
              have z5 := HI4.out.x.f5
              go_upto_region 17 with fail
              obtain ⟨W5, hW5⟩ : ∃ W, W = ((((((((((((W4).setCell ⟨N, 0, none⟩ (.int .i64 (tq c r M2).cap))).setCell ⟨N, 1, none⟩ (.int .i64 (tq c r M2).rule))).setCell ⟨N, 2, none⟩ (.int .i64 (tq c r M2).next))).setCell ⟨N, 3, none⟩ (.slice a4 (tq c r M2).wt.length c4))).setCell ⟨N, 4, none⟩ (.slice a5 (tq c r M2).hd.length c5))).setCell ⟨N, 5, none⟩ (.slice a6 (tq c r M2).dr.length c6)) := ⟨_, rfl⟩
              rw [← hW5]
              have HI2 : Hid (PzI w W5 N (tq c r M2) T (.slice at0 T.length ct0) (.slice a4 (tq c r M2).wt.length c4) (.slice a5 (tq c r M2).hd.length c5) (.slice a6 (tq c r M2).dr.length c6)) := by
                show PzI _ _ _ _ _ _ _ _ _
                rw [hW5]
                exact HI4.out.turn (HR4.out.lower (by omega)) (fun g hg => by have := HR4.out.ownIn g hg; omega) (fun g hg e => by have h1 := HR4.out.ownIn g hg; have h2 := HNP.out g e; omega)
              clear hW5 HX4 HR4 HI4 y0 y1 y2 y3 y4 y5 z0 z1 z2 z3 z4 z5 u0 u1 u2 u3 u4 u5
              have hw5 : w.heap.size + 1 ≤ W5.heap.size := by have := HI2.out.x.low; omega
              go_wp2_with (at_builtin; refine wpList_append_lies _ rfl _ _ 22 rfl (w.heap.size + 1) 3 i0 (.int .i64 0) 1 8 Try.underlying22 hi0 hz0 hz1' hz2 rfl (by decide) _ T.length _ rfl (World.ownsRow.alloc HI2.out.t _) ⟨W5.heap.size, 0, none⟩ 1 1 [.int .i64 no] rfl rfl (World.news_of_block (heap_alloc_new W5 _)) (one1Q no) (by omega) (by unfold maxLen; omega) (by omega) (by simp; omega) (W5.heap.size + 1) (by simp) ?_)
              intro g9 cap9 w9 hown9 hgrow9 hat9 hlt9
              have HI9 : Hid (type_of% (HI2.out.tell hown9 hgrow9 hat9)) := HI2.out.tell hown9 hgrow9 hat9
              clear hown9 hgrow9 hat9 hlt9 HI2
              go_wp2
              go_roundw
              case rel => exact ⟨k + 1, _, _, _, by omega, by go_num, by show PzI _ _ _ _ _ _ _ _ _; rw [← HS9.out, HSE.out]; exact HI9.out⟩
              case measure => simp [intOf]; omega
        · have hke : k = l.length := by omega
          subst hke
          have hge : ¬ ((l.length : Int) < (l.length : Int)) := by omega
          rw [List.take_length] at HI hGd hTl
          obtain ⟨MT, hMT⟩ : ∃ S, S = plP c r l := ⟨_, rfl⟩
          rw [← hMT] at HI hGd hTl HQ
          clear hMT
          obtain ⟨M, T⟩ := MT
          dsimp only at HI hGd hTl HQ
          clear hTl
          have hsm : SmlQ (tq c r M) 1000 := tq_small hGd
          have COW := l16Own_any (tq c r M) v1 v2 v3 wr HI.out.r.at hsm
          obtain ⟨at0, ct0, rfl⟩ := ZRow.slice HI.out.t
          obtain ⟨b1, d1, b2, d2, b3, d3, rfl, rfl, rfl⟩ := HI.out.r.form
          generalize tq c r M = q at HI COW HQ
          unfold Qu.val at COW
          have x0 := HI.out.x.c0
          have x1 := HI.out.x.c1
          have x2 := HI.out.x.c2
          have x3 := HI.out.x.c3
          have x4 := HI.out.x.c4
          have x5 := HI.out.x.c5
          clear hsm hGd
          go_wp2_with fail
          go_at_call 51
          refine COW.mono ?_
          rintro e w2 ⟨a1, c1, a2, c2, a3, c3, rfl, hr, hb2⟩
          have HV : Hid (type_of% (HI.out.v.below hb2)) := HI.out.v.below hb2
          have HE : Hid (Below w.heap.size w w2) := HI.out.b.trans (hb2.mono HI.out.b.size)
          have HR : Hid (type_of% hr) := hr
          have HTT : Hid (ZRow w2 (w.heap.size + 1) (.slice at0 T.length ct0) T) := own_belowQ HI.out.t hb2
          have HAP : Hid (∀ g, P3 (.slice a1 q.wt.length c1) (.slice a2 q.hd.length c2) (.slice a3 q.dr.length c3) g → (Value.slice at0 T.length ct0).ownBlock ≠ some g) := fun g hg e => by
            have h1 := (World.ownsRow.lt HI.out.t g e).2
            have h2 := hr.ownIn g hg
            omega
          have hlow : w.heap.size < wr.heap.size := HI.out.v.low
          clear hr hb2 COW HI x0 x1 x2 x3 x4 x5
          have y0 := HV.out.c0
          have z0 := HV.out.f0
          have y1 := HV.out.c1
          have z1 := HV.out.f1
          have y2 := HV.out.c2
          have z2 := HV.out.f2
          have y3 := HV.out.c3
          have z3 := HV.out.f3
          have y4 := HV.out.c4
          have z4 := HV.out.f4
          have y5 := HV.out.c5
          have z5 := HV.out.f5
          go_wp2_with fail
          (try simp only [Exit.inBlock, Exit.then])
          refine bodyPost_ret (v := .tuple #[.agg #[.int .i64 q.cap, .int .i64 q.rule, .int .i64 q.next, .slice a1 q.wt.length c1, .slice a2 q.hd.length c2, .slice a3 q.dr.length c3], .slice at0 T.length ct0, .bool true]) ?_ rfl ?_
          · rw [rc]
            go_simp
          · rw [HQ.out.1, HQ.out.2.1, HQ.out.2.2]
            exact ⟨a1, c1, a2, c2, a3, c3, at0, ct0, rfl, (HR.out.set6 hlow).lower (by omega), ZRow.lower (own_set6Q HTT.out (fun g hg => by have := (World.ownsRow.lt HTT.out g hg).1; omega)) (by omega), HAP.out, Below.set6Q HE.out (Nat.le_refl _)⟩
    · have hP : okP c r l = false := by unfold okP; rw [decide_eq_false hln, Bool.and_false]
      have HQ : Hid (plQ c r l = qz ∧ plT c r l = [] ∧ okP c r l = false) := ⟨(okP_no hP).1, (okP_no hP).2, hP⟩
      have d1 : decide ((200 : Int) < (l.length : Int)) = true := by simp; omega
      rw [hok] at CN
      generalize nqQ c r = F at CN
      clear hP hok hln HS0
      go_enter Try.func25, Try.ntmps25
      go_upto_region 1 with fail
      rw [← hW0]
      clear hW0
      go_wp2_with fail
      go_at_call 12
      refine CN.mono ?_
      rintro e w1 ⟨a1, c1, a2, c2, a3, c3, rfl, hr1, hb1⟩
      have HV : Hid (type_of% (HV0.out.below hb1)) := HV0.out.below hb1
      have HE : Hid (Below w.heap.size w w1) := HB.out.trans (hb1.mono HB.out.size)
      obtain ⟨W1, hW1⟩ : ∃ W, W = w1.alloc (.cells #[.int .i64 F.cap, .int .i64 F.rule, .int .i64 F.next, .slice a1 F.wt.length c1, .slice a2 F.hd.length c2, .slice a3 F.dr.length c3] 24) := ⟨_, rfl⟩
      have hbA : Below w1.heap.size w1 W1 := by rw [hW1]; exact (Below.refl _ _).alloc (Nat.le_refl _) _
      have HV : Hid (type_of% (HV.out.below hbA)) := HV.out.below hbA
      have HE : Hid (Below w.heap.size w W1) := HE.out.trans (hbA.mono HE.out.size)
      clear hb1 CN hr1 hbA
      go_upto_region 2 with fail
      rw [← hW1]
      clear hW1
      have y0 := HV.out.c0
      have z0 := HV.out.f0
      have y1 := HV.out.c1
      have z1 := HV.out.f1
      have y2 := HV.out.c2
      have z2 := HV.out.f2
      have y3 := HV.out.c3
      have z3 := HV.out.f3
      have y4 := HV.out.c4
      have z4 := HV.out.f4
      have y5 := HV.out.c5
      have z5 := HV.out.f5
      go_wp2_with fail
      (try simp only [Exit.inBlock, Exit.then])
      refine bodyPost_ret (v := .tuple #[.agg #[.int .i64 0, .int .i64 0, .int .i64 0, .slice none 0 0, .slice none 0 0, .slice none 0 0], .slice none 0 0, .bool false]) ?_ rfl ?_
      · rw [rc]
        go_simp
      · rw [HQ.out.1, HQ.out.2.1, HQ.out.2.2]
        exact PlO.zero (Below.set6Q HE.out (Nat.le_refl _))
  · have hok' : okR c r = false := by simpa using hok
    have hP : okP c r l = false := by unfold okP; rw [hok']; rfl
    have HQ : Hid (plQ c r l = qz ∧ plT c r l = [] ∧ okP c r l = false) := ⟨(okP_no hP).1, (okP_no hP).2, hP⟩
    rw [hok'] at CN
    generalize nqQ c r = F at CN
    clear hP hok hok' HS0
    go_enter Try.func25, Try.ntmps25
    go_upto_region 1 with fail
    rw [← hW0]
    clear hW0
    go_wp2_with fail
    go_at_call 12
    refine CN.mono ?_
    rintro e w1 ⟨a1, c1, a2, c2, a3, c3, rfl, hr1, hb1⟩
    have HV : Hid (type_of% (HV0.out.below hb1)) := HV0.out.below hb1
    have HE : Hid (Below w.heap.size w w1) := HB.out.trans (hb1.mono HB.out.size)
    obtain ⟨W1, hW1⟩ : ∃ W, W = w1.alloc (.cells #[.int .i64 F.cap, .int .i64 F.rule, .int .i64 F.next, .slice a1 F.wt.length c1, .slice a2 F.hd.length c2, .slice a3 F.dr.length c3] 24) := ⟨_, rfl⟩
    have hbA : Below w1.heap.size w1 W1 := by rw [hW1]; exact (Below.refl _ _).alloc (Nat.le_refl _) _
    have HV : Hid (type_of% (HV.out.below hbA)) := HV.out.below hbA
    have HE : Hid (Below w.heap.size w W1) := HE.out.trans (hbA.mono HE.out.size)
    clear hb1 CN hr1 hbA
    go_upto_region 2 with fail
    rw [← hW1]
    clear hW1
    have y0 := HV.out.c0
    have z0 := HV.out.f0
    have y1 := HV.out.c1
    have z1 := HV.out.f1
    have y2 := HV.out.c2
    have z2 := HV.out.f2
    have y3 := HV.out.c3
    have z3 := HV.out.f3
    have y4 := HV.out.c4
    have z4 := HV.out.f4
    have y5 := HV.out.c5
    have z5 := HV.out.f5
    go_wp2_with fail
    (try simp only [Exit.inBlock, Exit.then])
    refine bodyPost_ret (v := .tuple #[.agg #[.int .i64 0, .int .i64 0, .int .i64 0, .slice none 0 0, .slice none 0 0, .slice none 0 0], .slice none 0 0, .bool false]) ?_ rfl ?_
    · rw [rc]
      go_simp
    · rw [HQ.out.1, HQ.out.2.1, HQ.out.2.2]
      exact PlO.zero (Below.set6Q HE.out (Nat.le_refl _))

end Go.Proofs.Ytfkhbbmnjndmcaa
