/- The program's StepSession. The model's StepSession. A step, and steps, that a law is given: opened. -/
import Derived.Test.YtnlppeieccbhgaaXy
import Derived.Test.YtnlppeieccbhgaaSnSt
import Derived.Test.YtnlppeieccbhgaaSnTo
import Derived.Test.YtnlppeieccbhgaaXq
import Derived.Test.YtnlppeieccbhgaaSnI
import Derived.Test.YtnlppeieccbhgaaXt
import Derived.Test.YtnlppeieccbhgaaSnT
namespace Go.Proofs.Ytnlppeieccbhgaa
open Go.RowKit Plain Tpc Ssn

set_option maxRecDepth 100000 in
set_option maxHeartbeats 8000000 in
theorem implStepS (s : Ses) (x : Sp) (vi vh vw va : Value) (w : World) (h : SesAt w w.heap.size s vi vh vw va) (hS : Shr s 9223372036854775807) (hx : x.tx.size ≤ 9223372036854775807) :
    Calls Try.prog 28 #[s.val vi vh vw va, .agg #[.int .i64 x.kind, .int .i64 x.kk, .string x.tx]] w fun e w' => StpO w w' e s x := by
  have rc := fun (tmps : Array Value) (P : Program) (w : World) => results_cell1S (fn := Try.f28) (p := 4) (q := 5) (ty := 26) rfl tmps P w
  have HA : Hid (SesAt w w.heap.size s vi vh vw va) := h
  have HS : Hid (Shr s 9223372036854775807) := hS
  obtain ⟨ai, ci, ah, ch, aw, cw, aa, ca, rfl, rfl, rfl, rfl⟩ := h.form
  unfold Ses.val
  obtain ⟨W0, hW0⟩ : ∃ X, X = ((w.alloc (.cells #[.int .i64 s.ep, .slice ai s.items.length ci, .int .i64 s.base, .slice ah s.handed.length ch, .slice aw s.way.length cw, .slice aa s.acks.length ca] 26)).alloc (.cells #[.int .i64 x.kind, .int .i64 x.kk, .string x.tx] 48)).alloc (.cells #[.int .i64 0, .slice none 0 0, .int .i64 0, .slice none 0 0, .slice none 0 0, .slice none 0 0] 26) := ⟨_, rfl⟩
  have hB0 : Below w.heap.size w W0 := by rw [hW0]; exact (((Below.refl _ w).alloc (Nat.le_refl _) _).alloc (by simp) _).alloc (by simp; omega) _
  have hs0 : W0.heap.size = w.heap.size + 3 := by rw [hW0]; simp
  have HV0 : Hid (Sv W0 w.heap.size (.int .i64 s.ep) (.slice ai s.items.length ci) (.int .i64 s.base) (.slice ah s.handed.length ch) (.slice aw s.way.length cw) (.slice aa s.acks.length ca)) := by
    show Sv _ _ _ _ _ _ _ _
    rw [hW0]
    exact ((Sv.fresh w _ _ _ _ _ _ _).below ((Below.refl _ _).alloc (Nat.le_refl _) _)).below ((Below.refl _ _).alloc (Nat.le_refl _) _)
  have HC0 : Hid (Cv3 W0 (w.heap.size + 1) (.int .i64 x.kind) (.int .i64 x.kk) (.string x.tx)) := by
    show Cv3 _ _ _ _ _
    rw [hW0]
    have h := Cv3.fresh (w.alloc (.cells #[.int .i64 s.ep, .slice ai s.items.length ci, .int .i64 s.base, .slice ah s.handed.length ch, .slice aw s.way.length cw, .slice aa s.acks.length ca] 26)) (.int .i64 x.kind) (.int .i64 x.kk) (.string x.tx) 48
    have h2 := h.below ((Below.refl _ _).alloc (Nat.le_refl _) (.cells #[.int .i64 0, .slice none 0 0, .int .i64 0, .slice none 0 0, .slice none 0 0, .slice none 0 0] 26))
    simpa using h2
  have HZ0 : Hid (Sv W0 (w.heap.size + 2) (.int .i64 0) (.slice none 0 0) (.int .i64 0) (.slice none 0 0) (.slice none 0 0) (.slice none 0 0)) := by
    show Sv _ _ _ _ _ _ _ _
    have h := Sv.fresh ((w.alloc (.cells #[.int .i64 s.ep, .slice ai s.items.length ci, .int .i64 s.base, .slice ah s.handed.length ch, .slice aw s.way.length cw, .slice aa s.acks.length ca] 26)).alloc (.cells #[.int .i64 x.kind, .int .i64 x.kk, .string x.tx] 48)) (.int .i64 0) (.slice none 0 0) (.int .i64 0) (.slice none 0 0) (.slice none 0 0) (.slice none 0 0) 26
    rw [hW0]
    simpa using h
  have HB0 : Hid (type_of% hB0) := hB0
  have CG := implGoodS s _ _ _ _ W0 (h.below hB0) hS
  unfold Ses.val at CG
  have HNO : Hid (spK s x = false → ∀ w', Below w.heap.size w w' → StpO w w' (.returned (.tuple #[.agg #[.int .i64 0, .slice none 0 0, .int .i64 0, .slice none 0 0, .slice none 0 0, .slice none 0 0], .bool false])) s x) := fun h w' hb => StpO.no h hb
  have HGD : Hid (gs s = true → Gd s) := (gs_iff s).1
  have hgq : spK s x = (gs s && stK s x) := rfl
  have HGQ : Hid (type_of% hgq) := hgq
  clear hgq h hS hB0
  generalize hG : gs s = G at CG
  cases G with
  | false =>
    have hF := HNO.out (by rw [HGQ.out, hG]; rfl)
    have HF : Hid (type_of% hF) := hF
    have y00 := HV0.out.c0
    have y01 := HV0.out.c1
    have y02 := HV0.out.c2
    have y03 := HV0.out.c3
    have y04 := HV0.out.c4
    have y05 := HV0.out.c5
    clear hF HNO hG
    go_enter Try.func28, Try.ntmps28
    go_upto_region 1 with fail
    rw [← hW0]
    clear hW0
    go_wp2_with fail
    go_at_call 19
    refine CG.mono ?_
    rintro e w1 ⟨rfl, hb1⟩
    have HB1 : Hid (Below w.heap.size w w1) := HB0.out.trans (hb1.mono HB0.out.size)
    have hz := HZ0.out.below hb1
    have z0 := hz.c0
    have q0 := hz.f0
    have z1 := hz.c1
    have q1 := hz.f1
    have z2 := hz.c2
    have q2 := hz.f2
    have z3 := hz.c3
    have q3 := hz.f3
    have z4 := hz.c4
    have q4 := hz.f4
    have z5 := hz.c5
    have q5 := hz.f5
    clear hz
    clear hb1 y00 y01 y02 y03 y04 y05
    go_wp2_with fail
    (try simp only [Exit.inBlock, Exit.then])
    refine bodyPost_ret (v := .tuple #[.agg #[.int .i64 0, .slice none 0 0, .int .i64 0, .slice none 0 0, .slice none 0 0, .slice none 0 0], .bool false]) ?_ rfl (HF.out _ ?_)
    · rw [rc]
      go_simp
    · exact Below.sets6 (HB1.out) (by omega)
  | true =>
    have HGd : Hid (Gd s) := HGD.out hG
    have HSP : Hid (spK s x = stK s x) := by show _ = _; rw [HGQ.out, hG]; rfl
    have y00 := HV0.out.c0
    have y01 := HV0.out.c1
    have y02 := HV0.out.c2
    have y03 := HV0.out.c3
    have y04 := HV0.out.c4
    have y05 := HV0.out.c5
    clear hG HGD HGQ
    go_enter Try.func28, Try.ntmps28
    go_upto_region 1 with fail
    rw [← hW0]
    clear hW0
    go_wp2_with fail
    go_at_call 19
    refine CG.mono ?_
    rintro e w1 ⟨rfl, hb1⟩
    have HB1 : Hid (Below W0.heap.size W0 w1) := hb1
    clear y00 y01 y02 y03 y04 y05
    have y00 := (HV0.out.below hb1).c0
    have y01 := (HV0.out.below hb1).c1
    have y02 := (HV0.out.below hb1).c2
    have y03 := (HV0.out.below hb1).c3
    have y04 := (HV0.out.below hb1).c4
    have y05 := (HV0.out.below hb1).c5
    have CE := exchangeOf_any s _ _ _ _ w1 (HA.out.below (HB0.out.trans (hb1.mono HB0.out.size))) (HGd.out.sml.up (by decide)) HGd.out
    unfold Ses.val at CE
    clear hb1
    go_wp2_with fail
    go_at_call 73
    refine CE.mono ?_
    rintro e w2 ⟨b, ui, uw, ua, rfl, hE, hb2⟩
    have HE : Hid (Ex w2 b w1.heap.size s ui uw ua) := hE
    have HB2 : Hid (Below W0.heap.size W0 w2) := HB1.out.trans (hb2.mono HB1.out.size)
    clear y00 y01 y02 y03 y04 y05
    have y0 := (HC0.out.below HB2.out).c0
    have y1 := (HC0.out.below HB2.out).c1
    have y2 := (HC0.out.below HB2.out).c2
    have CT := step_any s x b w1.heap.size ui uw ua w2 hE HGd.out hx
    have HN : Hid (W0.heap.size ≤ w1.heap.size) := HB1.out.size
    clear hE hb2
    go_wp2_with fail
    go_at_call 74
    refine CT.mono ?_
    rintro e w3 ⟨rfl, v7, v8, v9, hE3, hT3⟩
    have HB3 : Hid (Below W0.heap.size W0 w3) := HB2.out.trans (hT3.below HB2.out.size (fun g hg => by
      have := HN.out
      rcases hg with rfl | hg
      · exact Nat.le_trans this HE.out.b
      · exact Nat.le_trans this (HE.out.r.lt4 g hg).1))
    have HBW3 : Hid (Below w.heap.size w w3) := HB0.out.trans (HB3.out.mono HB0.out.size)
    have HE3 : Hid (Ex w3 b w1.heap.size (stS s x) v7 v8 v9) := hE3
    have HGd3 : Hid (Gd (stS s x)) := HGd.out.step x
    have HYES : Hid (stK s x = true → ∀ w' ui uh uw ua, SesRow w' w.heap.size (stS s x) ui uh uw ua → Below w.heap.size w w' → StpO w w' (.returned (.tuple #[(stS s x).val ui uh uw ua, .bool true])) s x) := fun h w' ui uh uw ua hr hb => StpO.yes (HSP.out.trans h) hr hb
    have HNO2 : Hid (stK s x = false → ∀ w', Below w.heap.size w w' → StpO w w' (.returned (.tuple #[.agg #[.int .i64 0, .slice none 0 0, .int .i64 0, .slice none 0 0, .slice none 0 0, .slice none 0 0], .bool false])) s x) := fun h => HNO.out (HSP.out.trans h)
    clear y0 y1 y2 hE3 hT3 HNO HSP
    generalize hk : stK s x = K at *
    cases K with
    | false =>
      have hF := HNO2.out rfl
      have HF : Hid (type_of% hF) := hF
      clear hF HNO2 HYES hk
      have hz := HZ0.out.below HB3.out
      have z0 := hz.c0
      have q0 := hz.f0
      have z1 := hz.c1
      have q1 := hz.f1
      have z2 := hz.c2
      have q2 := hz.f2
      have z3 := hz.c3
      have q3 := hz.f3
      have z4 := hz.c4
      have q4 := hz.f4
      have z5 := hz.c5
      have q5 := hz.f5
      clear hz
      go_wp2_with fail
      (try simp only [Exit.inBlock, Exit.then])
      refine bodyPost_ret (v := .tuple #[.agg #[.int .i64 0, .slice none 0 0, .int .i64 0, .slice none 0 0, .slice none 0 0, .slice none 0 0], .bool false]) ?_ rfl (HF.out _ ?_)
      · rw [rc]
        go_simp
      · exact Below.sets6 (HBW3.out) (by omega)

    | true =>
      have hF := HYES.out rfl
      have HF : Hid (type_of% hF) := hF
      have CO := told_any (stS s x) b w1.heap.size v7 v8 v9 w3 HE3.out HGd3.out
      unfold Ses.val at CO
      clear hF HNO2 HYES hk
      generalize stS s x = S9 at CO HF HE3
      go_wp2_with fail
      go_at_call 75
      refine CO.mono ?_
      rintro e w4 ⟨ui4, uh4, uw4, ua4, rfl, hr4, hb4⟩
      have HB4 : Hid (Below W0.heap.size W0 w4) := HB3.out.trans (hb4.mono HB3.out.size)
      have HBW4 : Hid (Below w.heap.size w w4) := HBW3.out.trans (hb4.mono HBW3.out.size)
      have HR4 : Hid (SesRow w4 w3.heap.size S9 ui4 uh4 uw4 ua4) := hr4
      have hs3 : w.heap.size + 2 < w3.heap.size := by have := HB3.out.size; omega
      obtain ⟨ai4, ci4, ah4, ch4, aw4, cw4, aa4, ca4, rfl, rfl, rfl, rfl⟩ := hr4.form
      have hz := HZ0.out.below HB4.out
      have z0 := hz.c0
      have q0 := hz.f0
      have z1 := hz.c1
      have q1 := hz.f1
      have z2 := hz.c2
      have q2 := hz.f2
      have z3 := hz.c3
      have q3 := hz.f3
      have z4 := hz.c4
      have q4 := hz.f4
      have z5 := hz.c5
      have q5 := hz.f5
      clear hz
      clear hr4 hb4
      go_wp2_with fail
      (try simp only [Exit.inBlock, Exit.then])
      refine bodyPost_ret (v := .tuple #[.agg #[.int .i64 S9.ep, .slice ai4 S9.items.length ci4, .int .i64 S9.base, .slice ah4 S9.handed.length ch4, .slice aw4 S9.way.length cw4, .slice aa4 S9.acks.length ca4], .bool true]) ?_ rfl (HF.out _ _ _ _ _ ?_ ?_)
      · rw [rc]
        go_simp
      · exact SesRow.set6 (HR4.out.lower (by omega)) (fun q => by have := (HR4.out.lt4 _ q).1; omega)
      · exact Below.sets6 HBW4.out (by omega)

end Go.Proofs.Ytnlppeieccbhgaa

namespace Go.Proofs.Ytnlppeieccbhgaa
open Go.RowKit Plain Tpc Ssn

theorem listed_ofB2 {md : Region.Mode} {ops : Array Oper} {l : Array Bool} (h0 : Region.ready md ops l = []) (i : Nat) (o : Oper) (hs : i < l.size) (ho : ops[i]? = some o) (hd : ∀ e ∈ o.after, Region.binds md e = true → l.getD e.on false = true) : l.getD i false = true := by
  rcases Bool.eq_false_or_eq_true (l.getD i false) with h | h
  · exact h
  · have hi : i ∈ Region.ready md ops l := mem_ready.2 ⟨by
      simp only [Array.getD, dif_pos hs] at h ⊢
      exact h, o, ho, hd⟩
    rw [h0] at hi
    cases hi

def Sm3 (w W0 : World) (s S9 : Ses) (x : Sp) (ok : Bool) (ai ah aw aa : Option Addr) (ci ch cw ca : Nat) (l : Array Bool) (a : Act) (W : World) : Prop :=
  l.size = 10 ∧ Below W0.heap.size W0 W ∧ ∃ (oi oh ow oa : Value) (ri rh rw ra : Option Addr) (ki kh kw ka : Nat) (u13 u14 u15 u16 u12 u17 u18 u6 u7 : Value), a = ⟨#[.agg #[.int .i64 s.ep, .slice ai s.items.length ci, .int .i64 s.base, .slice ah s.handed.length ch, .slice aw s.way.length cw, .slice aa s.acks.length ca], .agg #[.int .i64 x.kind, .int .i64 x.kk, .string x.tx], .pointer (some ⟨w.heap.size, 0, none⟩), .pointer (some ⟨w.heap.size + 1, 0, none⟩), .pointer (some ⟨w.heap.size + 2, 0, none⟩), .bool false, u6, u7, .agg #[.int .i64 s.ep, .slice ai s.items.length ci, .int .i64 s.base, .slice ah s.handed.length ch, .slice aw s.way.length cw, .slice aa s.acks.length ca], .bool true, .bool false, undef, u12, u13, u14, u15, u16, u17, u18, undef, undef, undef, undef, undef], []⟩ ∧
    (l.getD 1 false = true → l.getD 3 false = false → SesRow W W0.heap.size s oi oh ow oa) ∧
    (l.getD 3 false = true → SesRow W W0.heap.size S9 (.slice ri S9.items.length ki) (.slice rh S9.handed.length kh) (.slice rw S9.way.length kw) (.slice ra S9.acks.length ka)) ∧
    (l.getD 1 false = true → ∀ g, P4 oi oh ow oa g → g < W.heap.size) ∧
    (l.getD 0 false = true → u13 = .agg #[.int .i64 s.ep, .slice ai s.items.length ci, .int .i64 s.base, .slice ah s.handed.length ch, .slice aw s.way.length cw, .slice aa s.acks.length ca]) ∧
    (l.getD 1 false = true → u14 = s.val oi oh ow oa) ∧
    (l.getD 2 false = true → u15 = .agg #[.int .i64 x.kind, .int .i64 x.kk, .string x.tx]) ∧
    (l.getD 3 false = true → l.getD 1 false = true ∧ u16 = .tuple #[.agg #[.int .i64 S9.ep, .slice ri S9.items.length ki, .int .i64 S9.base, .slice rh S9.handed.length kh, .slice rw S9.way.length kw, .slice ra S9.acks.length ka], .bool ok]) ∧
    (l.getD 4 false = true → l.getD 3 false = true ∧ u12 = .tuple #[.agg #[.int .i64 S9.ep, .slice ri S9.items.length ki, .int .i64 S9.base, .slice rh S9.handed.length kh, .slice rw S9.way.length kw, .slice ra S9.acks.length ka], .bool ok]) ∧
    (l.getD 5 false = true → l.getD 3 false = true ∧ u17 = .agg #[.int .i64 S9.ep, .slice ri S9.items.length ki, .int .i64 S9.base, .slice rh S9.handed.length kh, .slice rw S9.way.length kw, .slice ra S9.acks.length ka]) ∧
    (l.getD 6 false = true → u18 = .bool ok) ∧
    (l.getD 7 false = true → ∃ g, u6 = .pointer (some ⟨g, 0, none⟩) ∧ (W0.heap.size ≤ g ∧ g < W.heap.size) ∧ (∃ y0 y1 y2 y3 y4 y5, Sv W g y0 y1 y2 y3 y4 y5) ∧ (l.getD 1 false = true → ¬ P4 oi oh ow oa g) ∧ (l.getD 3 false = true → ¬ P4 (.slice ri S9.items.length ki) (.slice rh S9.handed.length kh) (.slice rw S9.way.length kw) (.slice ra S9.acks.length ka) g) ∧ (l.getD 8 false = true → Sv W g (.int .i64 S9.ep) (.slice ri S9.items.length ki) (.int .i64 S9.base) (.slice rh S9.handed.length kh) (.slice rw S9.way.length kw) (.slice ra S9.acks.length ka))) ∧
    (l.getD 8 false = true → l.getD 5 false = true ∧ l.getD 7 false = true) ∧
    (l.getD 9 false = true → u7 = .bool ok)

set_option maxRecDepth 100000 in
set_option maxHeartbeats 8000000 in
theorem specStepS (s : Ses) (x : Sp) (vi vh vw va : Value) (w : World) (h : SesAt w w.heap.size s vi vh vw va) (hS : Shr s 9223372036854775807) (hx : x.tx.size ≤ 9223372036854775807) :
    Calls Try.prog 26 #[s.val vi vh vw va, .agg #[.int .i64 x.kind, .int .i64 x.kk, .string x.tx]] w fun e w' => StpO w w' e s x := by
  have rc := fun (tmps : Array Value) (P : Program) (w : World) => results_cell1S (fn := Try.f26) (p := 4) (q := 5) (ty := 26) rfl tmps P w
  have HA : Hid (SesAt w w.heap.size s vi vh vw va) := h
  obtain ⟨ai, ci, ah, ch, aw, cw, aa, ca, rfl, rfl, rfl, rfl⟩ := h.form
  unfold Ses.val
  obtain ⟨W0, hW0⟩ : ∃ X, X = ((w.alloc (.cells #[.int .i64 s.ep, .slice ai s.items.length ci, .int .i64 s.base, .slice ah s.handed.length ch, .slice aw s.way.length cw, .slice aa s.acks.length ca] 26)).alloc (.cells #[.int .i64 x.kind, .int .i64 x.kk, .string x.tx] 48)).alloc (.cells #[.int .i64 0, .slice none 0 0, .int .i64 0, .slice none 0 0, .slice none 0 0, .slice none 0 0] 26) := ⟨_, rfl⟩
  have hB0 : Below w.heap.size w W0 := by rw [hW0]; exact (((Below.refl _ w).alloc (Nat.le_refl _) _).alloc (by simp) _).alloc (by simp; omega) _
  have hs0 : W0.heap.size = w.heap.size + 3 := by rw [hW0]; simp
  have HV0 : Hid (Sv W0 w.heap.size (.int .i64 s.ep) (.slice ai s.items.length ci) (.int .i64 s.base) (.slice ah s.handed.length ch) (.slice aw s.way.length cw) (.slice aa s.acks.length ca)) := by
    show Sv _ _ _ _ _ _ _ _
    rw [hW0]
    exact ((Sv.fresh w _ _ _ _ _ _ _).below ((Below.refl _ _).alloc (Nat.le_refl _) _)).below ((Below.refl _ _).alloc (Nat.le_refl _) _)
  have HC0 : Hid (Cv3 W0 (w.heap.size + 1) (.int .i64 x.kind) (.int .i64 x.kk) (.string x.tx)) := by
    show Cv3 _ _ _ _ _
    rw [hW0]
    have h := Cv3.fresh (w.alloc (.cells #[.int .i64 s.ep, .slice ai s.items.length ci, .int .i64 s.base, .slice ah s.handed.length ch, .slice aw s.way.length cw, .slice aa s.acks.length ca] 26)) (.int .i64 x.kind) (.int .i64 x.kk) (.string x.tx) 48
    have h2 := h.below ((Below.refl _ _).alloc (Nat.le_refl _) (.cells #[.int .i64 0, .slice none 0 0, .int .i64 0, .slice none 0 0, .slice none 0 0, .slice none 0 0] 26))
    simpa using h2
  have HZ0 : Hid (Sv W0 (w.heap.size + 2) (.int .i64 0) (.slice none 0 0) (.int .i64 0) (.slice none 0 0) (.slice none 0 0) (.slice none 0 0)) := by
    show Sv _ _ _ _ _ _ _ _
    have h := Sv.fresh ((w.alloc (.cells #[.int .i64 s.ep, .slice ai s.items.length ci, .int .i64 s.base, .slice ah s.handed.length ch, .slice aw s.way.length cw, .slice aa s.acks.length ca] 26)).alloc (.cells #[.int .i64 x.kind, .int .i64 x.kk, .string x.tx] 48)) (.int .i64 0) (.slice none 0 0) (.int .i64 0) (.slice none 0 0) (.slice none 0 0) (.slice none 0 0) 26
    rw [hW0]
    simpa using h
  have HB0 : Hid (type_of% hB0) := hB0
  have CG := specGoodS s _ _ _ _ W0 (h.below hB0) hS
  unfold Ses.val at CG
  have HNO : Hid (spK s x = false → ∀ w', Below w.heap.size w w' → StpO w w' (.returned (.tuple #[.agg #[.int .i64 0, .slice none 0 0, .int .i64 0, .slice none 0 0, .slice none 0 0, .slice none 0 0], .bool false])) s x) := fun h w' hb => StpO.no h hb
  have HGD : Hid (gs s = true → Gd s) := (gs_iff s).1
  have hgq : spK s x = (gs s && stK s x) := rfl
  have HGQ : Hid (type_of% hgq) := hgq
  clear hgq h hS hB0
  generalize hG : gs s = G at CG
  cases G with
  | false =>
    have hF := HNO.out (by rw [HGQ.out, hG]; rfl)
    have HF : Hid (type_of% hF) := hF
    have y00 := HV0.out.c0
    have y01 := HV0.out.c1
    have y02 := HV0.out.c2
    have y03 := HV0.out.c3
    have y04 := HV0.out.c4
    have y05 := HV0.out.c5
    clear hF HNO hG
    go_enter Try.func26, Try.ntmps26
    go_upto_region 1 with fail
    rw [← hW0]
    clear hW0
    go_wp2_with fail
    go_at_call 17
    refine CG.mono ?_
    rintro e w1 ⟨rfl, hb1⟩
    have HB1 : Hid (Below w.heap.size w w1) := HB0.out.trans (hb1.mono HB0.out.size)
    have hz := HZ0.out.below hb1
    have z0 := hz.c0
    have q0 := hz.f0
    have z1 := hz.c1
    have q1 := hz.f1
    have z2 := hz.c2
    have q2 := hz.f2
    have z3 := hz.c3
    have q3 := hz.f3
    have z4 := hz.c4
    have q4 := hz.f4
    have z5 := hz.c5
    have q5 := hz.f5
    clear hz
    clear hb1 y00 y01 y02 y03 y04 y05
    go_wp2_with fail
    (try simp only [Exit.inBlock, Exit.then])
    refine bodyPost_ret (v := .tuple #[.agg #[.int .i64 0, .slice none 0 0, .int .i64 0, .slice none 0 0, .slice none 0 0, .slice none 0 0], .bool false]) ?_ rfl (HF.out _ ?_)
    · rw [rc]
      go_simp
    · exact Below.sets6 (HB1.out) (by omega)
  | true =>
    have hGd : Gd s := HGD.out hG
    have HSP : Hid (spK s x = stK s x) := by show _ = _; rw [HGQ.out, hG]; rfl
    have HGd3 : Hid (Gd (stS s x)) := hGd.step x
    have HYES : Hid (stK s x = true → ∀ w' ui uh uw ua, SesRow w' w.heap.size (stS s x) ui uh uw ua → Below w.heap.size w w' → StpO w w' (.returned (.tuple #[(stS s x).val ui uh uw ua, .bool true])) s x) := fun h w' ui uh uw ua hr hb => StpO.yes (HSP.out.trans h) hr hb
    have HNO2 : Hid (stK s x = false → ∀ w', Below w.heap.size w w' → StpO w w' (.returned (.tuple #[.agg #[.int .i64 0, .slice none 0 0, .int .i64 0, .slice none 0 0, .slice none 0 0, .slice none 0 0], .bool false])) s x) := fun h => HNO.out (HSP.out.trans h)
    have CO : Hid (∀ W, Below W0.heap.size W0 W → Calls Try.prog 72 #[.agg #[.int .i64 s.ep, .slice ai s.items.length ci, .int .i64 s.base, .slice ah s.handed.length ch, .slice aw s.way.length cw, .slice aa s.acks.length ca]] W fun e w' => ∃ ui uh uw ua, e = .returned (s.val ui uh uw ua) ∧ SesRow w' W.heap.size s ui uh uw ua ∧ Below W.heap.size W w') := fun W hW => l15Own_any s _ _ _ _ W (HA.out.below (HB0.out.trans (hW.mono HB0.out.size))) (hGd.sml.up (by decide))
    have CO9 : Hid (∀ W vi vh vw va, SesAt W W.heap.size (stS s x) vi vh vw va → Calls Try.prog 72 #[(stS s x).val vi vh vw va] W fun e w' => ∃ ui uh uw ua, e = .returned ((stS s x).val ui uh uw ua) ∧ SesRow w' W.heap.size (stS s x) ui uh uw ua ∧ Below W.heap.size W w') := fun W vi vh vw va hw => l15Own_any (stS s x) _ _ _ _ W hw (HGd3.out.sml.up (by decide))
    have CT : Hid (∀ W vi vh vw va, SesRow W W0.heap.size s vi vh vw va → W0.heap.size ≤ W.heap.size → Calls Try.prog 71 #[s.val vi vh vw va, .agg #[.int .i64 x.kind, .int .i64 x.kk, .string x.tx]] W fun e w' => ∃ (ri rh rw ra : Option Addr) (ki kh kw ka : Nat), e = .returned (.tuple #[.agg #[.int .i64 (stS s x).ep, .slice ri (stS s x).items.length ki, .int .i64 (stS s x).base, .slice rh (stS s x).handed.length kh, .slice rw (stS s x).way.length kw, .slice ra (stS s x).acks.length ka], .bool (stK s x)]) ∧ SesRow w' W0.heap.size (stS s x) (.slice ri (stS s x).items.length ki) (.slice rh (stS s x).handed.length kh) (.slice rw (stS s x).way.length kw) (.slice ra (stS s x).acks.length ka) ∧ Tch W w' (P4 vi vh vw va) (P4 (.slice ri (stS s x).items.length ki) (.slice rh (stS s x).handed.length kh) (.slice rw (stS s x).way.length kw) (.slice ra (stS s x).acks.length ka))) := fun W vi vh vw va hr hs => (l15Step_any s x W0.heap.size vi vh vw va W hr hs hGd hx).mono fun e w' hh => by
      obtain ⟨ui, uh, uw, ua, he, hr, ht⟩ := hh
      obtain ⟨ri, ki, rh, kh, rw, kw, ra, ka, rfl, rfl, rfl, rfl⟩ := hr.form
      exact ⟨ri, rh, rw, ra, ki, kh, kw, ka, he, hr, ht⟩
    generalize hK : stK s x = ok at CT HYES HNO2
    generalize stS s x = S9 at CT HYES CO9
    have HV0d : Hid (∀ W, Below W0.heap.size W0 W → Sv W w.heap.size (.int .i64 s.ep) (.slice ai s.items.length ci) (.int .i64 s.base) (.slice ah s.handed.length ch) (.slice aw s.way.length cw) (.slice aa s.acks.length ca)) := fun W hW => HV0.out.below hW
    have y00 := HV0.out.c0
    have y01 := HV0.out.c1
    have y02 := HV0.out.c2
    have y03 := HV0.out.c3
    have y04 := HV0.out.c4
    have y05 := HV0.out.c5
    clear hG HGD HGQ hGd HNO HSP hK HGd3
    go_enter Try.func26, Try.ntmps26
    go_upto_region 1 with fail
    rw [← hW0]
    clear hW0
    go_wp2_with fail
    go_at_call 17
    refine CG.mono ?_
    rintro e w1 ⟨rfl, hb1⟩
    have HI0 : Hid (Sm3 w W0 s S9 x ok ai ah aw aa ci ch cw ca (Array.replicate 10 false) ⟨#[.agg #[.int .i64 s.ep, .slice ai s.items.length ci, .int .i64 s.base, .slice ah s.handed.length ch, .slice aw s.way.length cw, .slice aa s.acks.length ca], .agg #[.int .i64 x.kind, .int .i64 x.kk, .string x.tx], .pointer (some ⟨w.heap.size, 0, none⟩), .pointer (some ⟨w.heap.size + 1, 0, none⟩), .pointer (some ⟨w.heap.size + 2, 0, none⟩), .bool false, undef, undef, .agg #[.int .i64 s.ep, .slice ai s.items.length ci, .int .i64 s.base, .slice ah s.handed.length ch, .slice aw s.way.length cw, .slice aa s.acks.length ca], .bool true, .bool false, undef, undef, undef, undef, undef, undef, undef, undef, undef, undef, undef, undef, undef], []⟩ w1.drew) := by
      refine ⟨by simp, hb1.drew, undef, undef, undef, undef, none, none, none, none, 0, 0, 0, 0, _, _, _, _, _, _, _, _, _, rfl, ?_, ?_, ?_, ?_, ?_, ?_, ?_, ?_, ?_, ?_, ?_, ?_, ?_⟩
      all_goals
        intro h
        exact absurd h (by decide)
    clear y00 y01 y02 y03 y04 y05 hb1
    go_upto_region 3 with fail
    refine wp_region_held_drew (S := fun _ => True) (by kernel_rfl) trivial (fun _ => ?_)
    refine wpAnyH_inv (Sm3 w W0 s S9 x ok ai ah aw aa ci ch cw ca) ?step ?fin _ _ _ _ HI0.out (by decide)
    case fin =>
      intro l a W hI h0
      obtain ⟨hls, hB, oi, oh, ow, oa, ri, rh, rw, ra, ki, kh, kw, ka, u13, u14, u15, u16, u12, u17, u18, u6, u7, rfl, cO, cR, cL, c0, c1, c2, c3, c4, c5, c6, c7, c8, c9⟩ := hI
      have b0 : l.getD 0 false = true := listed_of h0 0 _ (by omega) rfl (by intro e he; first | (simp at he; done) | skip; simp at he; (repeat (rcases he with rfl | he; · assumption)); all_goals (subst he; assumption))
      have b1 : l.getD 1 false = true := listed_of h0 1 _ (by omega) rfl (by intro e he; first | (simp at he; done) | skip; simp at he; (repeat (rcases he with rfl | he; · assumption)); all_goals (subst he; assumption))
      have b2 : l.getD 2 false = true := listed_of h0 2 _ (by omega) rfl (by intro e he; first | (simp at he; done) | skip; simp at he; (repeat (rcases he with rfl | he; · assumption)); all_goals (subst he; assumption))
      have b3 : l.getD 3 false = true := listed_of h0 3 _ (by omega) rfl (by intro e he; first | (simp at he; done) | skip; simp at he; (repeat (rcases he with rfl | he; · assumption)); all_goals (subst he; assumption))
      have b4 : l.getD 4 false = true := listed_of h0 4 _ (by omega) rfl (by intro e he; first | (simp at he; done) | skip; simp at he; (repeat (rcases he with rfl | he; · assumption)); all_goals (subst he; assumption))
      have b5 : l.getD 5 false = true := listed_of h0 5 _ (by omega) rfl (by intro e he; first | (simp at he; done) | skip; simp at he; (repeat (rcases he with rfl | he; · assumption)); all_goals (subst he; assumption))
      have b6 : l.getD 6 false = true := listed_ofB2 h0 6 _ (by omega) rfl (by intro e he hbd; simp at he; (repeat (rcases he with rfl | he; · first | assumption | exact absurd hbd (by decide))); all_goals (subst he; first | assumption | exact absurd hbd (by decide)))
      have b7 : l.getD 7 false = true := listed_of h0 7 _ (by omega) rfl (by intro e he; first | (simp at he; done) | skip; simp at he; (repeat (rcases he with rfl | he; · assumption)); all_goals (subst he; assumption))
      have b8 : l.getD 8 false = true := listed_of h0 8 _ (by omega) rfl (by intro e he; first | (simp at he; done) | skip; simp at he; (repeat (rcases he with rfl | he; · assumption)); all_goals (subst he; assumption))
      have b9 : l.getD 9 false = true := listed_of h0 9 _ (by omega) rfl (by intro e he; first | (simp at he; done) | skip; simp at he; (repeat (rcases he with rfl | he; · assumption)); all_goals (subst he; assumption))
      obtain ⟨g, q1, q2, _, _, q5, q6⟩ := c7 b7
      subst q1
      have HV9 : Hid (type_of% (q6 b8)) := q6 b8
      have HR9 : Hid (type_of% (cR b3)) := cR b3
      have HBW : Hid (Below W0.heap.size W0 W) := hB
      have HBw : Hid (Below w.heap.size w W) := HB0.out.trans (hB.mono HB0.out.size)
      obtain rfl := c9 b9
      clear cO cR cL c0 c1 c2 c3 c4 c5 c6 c7 c8 c9 b0 b1 b2 b3 b4 b5 b6 b7 b8 b9 q5 q6 hB h0 hls
      (try dsimp only)
      cases ok with
      | false =>
        have hF := HNO2.out rfl
        have HF : Hid (type_of% hF) := hF
        clear hF HNO2 HYES
        have hz := HZ0.out.below HBW.out
        have z0 := hz.c0
        have q0 := hz.f0
        have z1 := hz.c1
        have q1 := hz.f1
        have z2 := hz.c2
        have q2 := hz.f2
        have z3 := hz.c3
        have q3 := hz.f3
        have z4 := hz.c4
        have q4 := hz.f4
        have z5 := hz.c5
        have q5 := hz.f5
        clear hz
        go_wp2_with fail
        (try simp only [Exit.inBlock, Exit.then])
        refine bodyPost_ret (v := .tuple #[.agg #[.int .i64 0, .slice none 0 0, .int .i64 0, .slice none 0 0, .slice none 0 0, .slice none 0 0], .bool false]) ?_ rfl (HF.out _ ?_)
        · rw [rc]
          go_simp
        · exact Below.sets6 (HBw.out) (by omega)
      | true =>
        have hF := HYES.out rfl
        have HF : Hid (type_of% hF) := hF
        have CC := CO9.out W _ _ _ _ HR9.out.at
        unfold Ses.val at CC
        clear hF HNO2 HYES
        have y0 := HV9.out.c0
        have y1 := HV9.out.c1
        have y2 := HV9.out.c2
        have y3 := HV9.out.c3
        have y4 := HV9.out.c4
        have y5 := HV9.out.c5
        go_wp2_with fail
        go_at_call 72
        refine CC.mono ?_
        rintro e w4 ⟨ui4, uh4, uw4, ua4, rfl, hr4, hb4⟩
        have HB4 : Hid (Below W0.heap.size W0 w4) := HBW.out.trans (hb4.mono HBW.out.size)
        have HBW4 : Hid (Below w.heap.size w w4) := HBw.out.trans (hb4.mono HBw.out.size)
        have HR4 : Hid (SesRow w4 W.heap.size S9 ui4 uh4 uw4 ua4) := hr4
        have hs3 : w.heap.size + 2 < W.heap.size := by have := HBW.out.size; omega
        obtain ⟨ai4, ci4, ah4, ch4, aw4, cw4, aa4, ca4, rfl, rfl, rfl, rfl⟩ := hr4.form
        have hz := HZ0.out.below HB4.out
        have z0 := hz.c0
        have q0 := hz.f0
        have z1 := hz.c1
        have q1 := hz.f1
        have z2 := hz.c2
        have q2 := hz.f2
        have z3 := hz.c3
        have q3 := hz.f3
        have z4 := hz.c4
        have q4 := hz.f4
        have z5 := hz.c5
        have q5 := hz.f5
        clear hz
        clear hr4 hb4 y0 y1 y2 y3 y4 y5
        go_wp2_with fail
        (try simp only [Exit.inBlock, Exit.then])
        refine bodyPost_ret (v := .tuple #[.agg #[.int .i64 S9.ep, .slice ai4 S9.items.length ci4, .int .i64 S9.base, .slice ah4 S9.handed.length ch4, .slice aw4 S9.way.length cw4, .slice aa4 S9.acks.length ca4], .bool true]) ?_ rfl (HF.out _ _ _ _ _ ?_ ?_)
        · rw [rc]
          go_simp
        · exact SesRow.set6 (HR4.out.lower (by omega)) (fun q => by have := (HR4.out.lt4 _ q).1; omega)
        · exact Below.sets6 HBW4.out (by omega)
    case step =>
      intro l a W i hI hi K hK
      have hlt := ready_lt hi
      obtain ⟨hls, hB, oi, oh, ow, oa, ri, rh, rw, ra, ki, kh, kw, ka, u13, u14, u15, u16, u12, u17, u18, u6, u7, rfl, cO, cR, cL, c0, c1, c2, c3, c4, c5, c6, c7, c8, c9⟩ := hI
      have hlt' : i < 10 := hlt
      have hsz := hB.size
      rcases (show i = 0 ∨ i = 1 ∨ i = 2 ∨ i = 3 ∨ i = 4 ∨ i = 5 ∨ i = 6 ∨ i = 7 ∨ i = 8 ∨ i = 9 by omega) with rfl | rfl | rfl | rfl | rfl | rfl | rfl | rfl | rfl | rfl
      · -- 0
        have V := HV0d.out W hB
        have y0 := V.c0
        have y1 := V.c1
        have y2 := V.c2
        have y3 := V.c3
        have y4 := V.c4
        have y5 := V.c5
        clear V
        refine wpOp_step rfl (fun K' hK' => ?_)
        have HK : Hid (∀ a w, K a w → K' a w) := hK'
        have HK2 : Hid (type_of% hK) := hK
        clear hK hK'
        go_simp
        exact HK.out _ _ (HK2.out _ _ ⟨by simp [hls], hB, oi, oh, ow, oa, ri, rh, rw, ra, ki, kh, kw, ka, _, _, _, _, _, _, _, _, _, rfl, fun h h3 => cO (getD_ne h (by decide)) (getD_off h3 (by decide)), fun h => cR (getD_ne h (by decide)), fun h => cL (getD_ne h (by decide)), fun _ => rfl, fun h => (c1 (getD_ne h (by decide))), fun h => (c2 (getD_ne h (by decide))), fun h => ⟨getD_set_true (c3 (getD_ne h (by decide))).1, (c3 (getD_ne h (by decide))).2⟩, fun h => ⟨getD_set_true (c4 (getD_ne h (by decide))).1, (c4 (getD_ne h (by decide))).2⟩, fun h => ⟨getD_set_true (c5 (getD_ne h (by decide))).1, (c5 (getD_ne h (by decide))).2⟩, fun h => (c6 (getD_ne h (by decide))), fun h => by obtain ⟨g, q1, q2, q3, q4, q5, q6⟩ := (c7 (getD_ne h (by decide))); exact ⟨g, q1, q2, q3, fun h5 => q4 (getD_ne h5 (by decide)), fun h5 => q5 (getD_ne h5 (by decide)), fun h5 => q6 (getD_ne h5 (by decide))⟩, fun h => ⟨getD_set_true (c8 (getD_ne h (by decide))).1, getD_set_true (c8 (getD_ne h (by decide))).2⟩, fun h => (c9 (getD_ne h (by decide)))⟩)
      · -- 1
        obtain rfl := c0 (by have hd := ready_deps hi (o := _) rfl; exact hd ⟨0, .data⟩ (by simp) (by rfl))
        have hoff := ready_off hi (by omega)
        have CC := CO.out W hB
        have h3off : l.getD 3 false = false := by
          rcases Bool.eq_false_or_eq_true (l.getD 3 false) with q | q
          · exact absurd (c3 q).1 (by rw [hoff]; decide)
          · exact q
        refine wpOp_step rfl (fun K' hK' => ?_)
        have HK : Hid (∀ a w, K a w → K' a w) := hK'
        have HK2 : Hid (type_of% hK) := hK
        clear hK hK'
        go_simp
        go_at_call 72
        refine CC.mono ?_
        rintro r W9 ⟨ui, uh, uw, ua, rfl, hr, hb⟩
        (try go_simp)
        exact HK.out _ _ (HK2.out _ _ ⟨by simp [hls], hB.trans (hb.mono hsz), ui, uh, uw, ua, ri, rh, rw, ra, ki, kh, kw, ka, _, _, _, _, _, _, _, _, _, rfl, fun _ _ => hr.lower hsz, fun h => absurd (getD_ne h (by decide)) (by rw [h3off]; decide), fun _ g q => (hr.lt4 g q).2, fun h => (c0 (getD_ne h (by decide))), fun _ => rfl, fun h => (c2 (getD_ne h (by decide))), fun h => absurd (getD_ne h (by decide)) (by rw [h3off]; decide), fun h => absurd (c4 (getD_ne h (by decide))).1 (by rw [h3off]; decide), fun h => absurd (c5 (getD_ne h (by decide))).1 (by rw [h3off]; decide), fun h => (c6 (getD_ne h (by decide))), fun h => by obtain ⟨g, q1, q2, ⟨y0, y1, y2, y3, y4, y5, q3⟩, q4, q5, q6⟩ := (c7 (getD_ne h (by decide))); exact ⟨g, q1, ⟨q2.1, Nat.lt_of_lt_of_le q2.2 hb.size⟩, ⟨y0, y1, y2, y3, y4, y5, q3.below hb⟩, fun _ q => by have := (hr.lt4 g q).1; omega, fun h5 => absurd (getD_ne h5 (by decide)) (by rw [h3off]; decide), fun h5 => absurd (c5 (c8 (getD_ne h5 (by decide))).1).1 (by rw [h3off]; decide)⟩, fun h => absurd (c5 (c8 (getD_ne h (by decide))).1).1 (by rw [h3off]; decide), fun h => (c9 (getD_ne h (by decide)))⟩)
      · -- 2
        have V := HC0.out.below hB
        have y0 := V.c0
        have y1 := V.c1
        have y2 := V.c2
        clear V
        refine wpOp_step rfl (fun K' hK' => ?_)
        have HK : Hid (∀ a w, K a w → K' a w) := hK'
        have HK2 : Hid (type_of% hK) := hK
        clear hK hK'
        go_simp
        exact HK.out _ _ (HK2.out _ _ ⟨by simp [hls], hB, oi, oh, ow, oa, ri, rh, rw, ra, ki, kh, kw, ka, _, _, _, _, _, _, _, _, _, rfl, fun h h3 => cO (getD_ne h (by decide)) (getD_off h3 (by decide)), fun h => cR (getD_ne h (by decide)), fun h => cL (getD_ne h (by decide)), fun h => (c0 (getD_ne h (by decide))), fun h => (c1 (getD_ne h (by decide))), fun _ => rfl, fun h => ⟨getD_set_true (c3 (getD_ne h (by decide))).1, (c3 (getD_ne h (by decide))).2⟩, fun h => ⟨getD_set_true (c4 (getD_ne h (by decide))).1, (c4 (getD_ne h (by decide))).2⟩, fun h => ⟨getD_set_true (c5 (getD_ne h (by decide))).1, (c5 (getD_ne h (by decide))).2⟩, fun h => (c6 (getD_ne h (by decide))), fun h => by obtain ⟨g, q1, q2, q3, q4, q5, q6⟩ := (c7 (getD_ne h (by decide))); exact ⟨g, q1, q2, q3, fun h5 => q4 (getD_ne h5 (by decide)), fun h5 => q5 (getD_ne h5 (by decide)), fun h5 => q6 (getD_ne h5 (by decide))⟩, fun h => ⟨getD_set_true (c8 (getD_ne h (by decide))).1, getD_set_true (c8 (getD_ne h (by decide))).2⟩, fun h => (c9 (getD_ne h (by decide)))⟩)
      · -- 3
        have D1 : Hid (l.getD 1 false = true) := (by have hd := ready_deps hi (o := _) rfl; exact hd ⟨1, .data⟩ (by simp) (by rfl))
        obtain rfl := c1 D1.out
        obtain rfl := c2 (by have hd := ready_deps hi (o := _) rfl; exact hd ⟨2, .data⟩ (by simp) (by rfl))
        have hoff := ready_off hi (by omega)
        have hrO := cO D1.out hoff
        have CC := CT.out W _ _ _ _ hrO hsz
        have HRO : Hid (type_of% hrO) := hrO
        clear hrO
        refine wpOp_step rfl (fun K' hK' => ?_)
        have HK : Hid (∀ a w, K a w → K' a w) := hK'
        have HK2 : Hid (type_of% hK) := hK
        clear hK hK'
        go_simp
        go_at_call 71
        refine CC.mono ?_
        rintro r W9 ⟨ri', rh', rw', ra', ki', kh', kw', ka', rfl, hr, ht⟩
        (try go_simp)
        exact HK.out _ _ (HK2.out _ _ ⟨by simp [hls], hB.trans (ht.below hsz (fun k hk => (HRO.out.lt4 k hk).1)), oi, oh, ow, oa, ri', rh', rw', ra', ki', kh', kw', ka', _, _, _, _, _, _, _, _, _, rfl, fun _ h3 => absurd h3 (by rw [getD_on (by omega)]; decide), fun _ => hr, fun _ g q => Nat.lt_of_lt_of_le (cL D1.out g q) ht.size, fun h => (c0 (getD_ne h (by decide))), fun h => (c1 (getD_ne h (by decide))), fun h => (c2 (getD_ne h (by decide))), fun _ => ⟨getD_set_true D1.out, rfl⟩, fun h => absurd (c4 (getD_ne h (by decide))).1 (by rw [hoff]; decide), fun h => absurd (c5 (getD_ne h (by decide))).1 (by rw [hoff]; decide), fun h => (c6 (getD_ne h (by decide))), fun h => by obtain ⟨g, q1, q2, ⟨y0, y1, y2, y3, y4, y5, q3⟩, q4, q5, q6⟩ := (c7 (getD_ne h (by decide))); exact ⟨g, q1, ⟨q2.1, Nat.lt_of_lt_of_le q2.2 ht.size⟩, ⟨y0, y1, y2, y3, y4, y5, q3.step ht (q4 D1.out)⟩, fun _ => q4 D1.out, fun _ => ht.avoid q2.2 (q4 D1.out), fun h5 => absurd (c5 (c8 (getD_ne h5 (by decide))).1).1 (by rw [hoff]; decide)⟩, fun h => absurd (c5 (c8 (getD_ne h (by decide))).1).1 (by rw [hoff]; decide), fun h => (c9 (getD_ne h (by decide)))⟩)
      · -- 4
        have D3 : Hid (l.getD 3 false = true) := (by have hd := ready_deps hi (o := _) rfl; exact hd ⟨3, .data⟩ (by simp) (by rfl))
        have f3 := c3 D3.out
        obtain rfl := f3.2
        clear f3
        refine wpOp_step rfl (fun K' hK' => ?_)
        have HK : Hid (∀ a w, K a w → K' a w) := hK'
        have HK2 : Hid (type_of% hK) := hK
        clear hK hK'
        go_simp
        exact HK.out _ _ (HK2.out _ _ ⟨by simp [hls], hB, oi, oh, ow, oa, ri, rh, rw, ra, ki, kh, kw, ka, _, _, _, _, _, _, _, _, _, rfl, fun h h3 => cO (getD_ne h (by decide)) (getD_off h3 (by decide)), fun h => cR (getD_ne h (by decide)), fun h => cL (getD_ne h (by decide)), fun h => (c0 (getD_ne h (by decide))), fun h => (c1 (getD_ne h (by decide))), fun h => (c2 (getD_ne h (by decide))), fun h => ⟨getD_set_true (c3 (getD_ne h (by decide))).1, (c3 (getD_ne h (by decide))).2⟩, fun _ => ⟨getD_set_true D3.out, rfl⟩, fun h => ⟨getD_set_true (c5 (getD_ne h (by decide))).1, (c5 (getD_ne h (by decide))).2⟩, fun h => (c6 (getD_ne h (by decide))), fun h => by obtain ⟨g, q1, q2, q3, q4, q5, q6⟩ := (c7 (getD_ne h (by decide))); exact ⟨g, q1, q2, q3, fun h5 => q4 (getD_ne h5 (by decide)), fun h5 => q5 (getD_ne h5 (by decide)), fun h5 => q6 (getD_ne h5 (by decide))⟩, fun h => ⟨getD_set_true (c8 (getD_ne h (by decide))).1, getD_set_true (c8 (getD_ne h (by decide))).2⟩, fun h => (c9 (getD_ne h (by decide)))⟩)
      · -- 5
        have D4 : Hid (l.getD 4 false = true) := (by have hd := ready_deps hi (o := _) rfl; exact hd ⟨4, .data⟩ (by simp) (by rfl))
        have f4 := c4 D4.out
        obtain rfl := f4.2
        have D3 : Hid (l.getD 3 false = true) := f4.1
        clear f4
        refine wpOp_step rfl (fun K' hK' => ?_)
        have HK : Hid (∀ a w, K a w → K' a w) := hK'
        have HK2 : Hid (type_of% hK) := hK
        clear hK hK'
        go_simp
        exact HK.out _ _ (HK2.out _ _ ⟨by simp [hls], hB, oi, oh, ow, oa, ri, rh, rw, ra, ki, kh, kw, ka, _, _, _, _, _, _, _, _, _, rfl, fun h h3 => cO (getD_ne h (by decide)) (getD_off h3 (by decide)), fun h => cR (getD_ne h (by decide)), fun h => cL (getD_ne h (by decide)), fun h => (c0 (getD_ne h (by decide))), fun h => (c1 (getD_ne h (by decide))), fun h => (c2 (getD_ne h (by decide))), fun h => ⟨getD_set_true (c3 (getD_ne h (by decide))).1, (c3 (getD_ne h (by decide))).2⟩, fun h => ⟨getD_set_true (c4 (getD_ne h (by decide))).1, (c4 (getD_ne h (by decide))).2⟩, fun _ => ⟨getD_set_true D3.out, rfl⟩, fun h => (c6 (getD_ne h (by decide))), fun h => by obtain ⟨g, q1, q2, q3, q4, q5, q6⟩ := (c7 (getD_ne h (by decide))); exact ⟨g, q1, q2, q3, fun h5 => q4 (getD_ne h5 (by decide)), fun h5 => q5 (getD_ne h5 (by decide)), fun h5 => q6 (getD_ne h5 (by decide))⟩, fun h => ⟨getD_set_true (c8 (getD_ne h (by decide))).1, getD_set_true (c8 (getD_ne h (by decide))).2⟩, fun h => (c9 (getD_ne h (by decide)))⟩)
      · -- 6
        have D4 : Hid (l.getD 4 false = true) := (by have hd := ready_deps hi (o := _) rfl; exact hd ⟨4, .data⟩ (by simp) (by rfl))
        have f4 := c4 D4.out
        obtain rfl := f4.2
        have D3 : Hid (l.getD 3 false = true) := f4.1
        clear f4
        refine wpOp_step rfl (fun K' hK' => ?_)
        have HK : Hid (∀ a w, K a w → K' a w) := hK'
        have HK2 : Hid (type_of% hK) := hK
        clear hK hK'
        go_simp
        exact HK.out _ _ (HK2.out _ _ ⟨by simp [hls], hB, oi, oh, ow, oa, ri, rh, rw, ra, ki, kh, kw, ka, _, _, _, _, _, _, _, _, _, rfl, fun h h3 => cO (getD_ne h (by decide)) (getD_off h3 (by decide)), fun h => cR (getD_ne h (by decide)), fun h => cL (getD_ne h (by decide)), fun h => (c0 (getD_ne h (by decide))), fun h => (c1 (getD_ne h (by decide))), fun h => (c2 (getD_ne h (by decide))), fun h => ⟨getD_set_true (c3 (getD_ne h (by decide))).1, (c3 (getD_ne h (by decide))).2⟩, fun h => ⟨getD_set_true (c4 (getD_ne h (by decide))).1, (c4 (getD_ne h (by decide))).2⟩, fun h => ⟨getD_set_true (c5 (getD_ne h (by decide))).1, (c5 (getD_ne h (by decide))).2⟩, fun _ => rfl, fun h => by obtain ⟨g, q1, q2, q3, q4, q5, q6⟩ := (c7 (getD_ne h (by decide))); exact ⟨g, q1, q2, q3, fun h5 => q4 (getD_ne h5 (by decide)), fun h5 => q5 (getD_ne h5 (by decide)), fun h5 => q6 (getD_ne h5 (by decide))⟩, fun h => ⟨getD_set_true (c8 (getD_ne h (by decide))).1, getD_set_true (c8 (getD_ne h (by decide))).2⟩, fun h => (c9 (getD_ne h (by decide)))⟩)
      · -- 7
        have hoff := ready_off hi (by omega)
        refine wpOp_step rfl (fun K' hK' => ?_)
        have HK : Hid (∀ a w, K a w → K' a w) := hK'
        have HK2 : Hid (type_of% hK) := hK
        clear hK hK'
        have hb : Below W.heap.size W (W.alloc (.cells #[.int .i64 0, .slice none 0 0, .int .i64 0, .slice none 0 0, .slice none 0 0, .slice none 0 0] 26)) := (Below.refl _ W).alloc (Nat.le_refl _) _
        go_simp
        exact HK.out _ _ (HK2.out _ _ ⟨by simp [hls], hB.alloc hsz _, oi, oh, ow, oa, ri, rh, rw, ra, ki, kh, kw, ka, _, _, _, _, _, _, _, _, _, rfl, fun h h3 => (cO (getD_ne h (by decide)) (getD_off h3 (by decide))).below hb, fun h => (cR (getD_ne h (by decide))).below hb, fun h g q => Nat.lt_of_lt_of_le (cL (getD_ne h (by decide)) g q) hb.size, fun h => (c0 (getD_ne h (by decide))), fun h => (c1 (getD_ne h (by decide))), fun h => (c2 (getD_ne h (by decide))), fun h => ⟨getD_set_true (c3 (getD_ne h (by decide))).1, (c3 (getD_ne h (by decide))).2⟩, fun h => ⟨getD_set_true (c4 (getD_ne h (by decide))).1, (c4 (getD_ne h (by decide))).2⟩, fun h => ⟨getD_set_true (c5 (getD_ne h (by decide))).1, (c5 (getD_ne h (by decide))).2⟩, fun h => (c6 (getD_ne h (by decide))), fun _ => ⟨W.heap.size, rfl, ⟨hsz, by simp⟩, ⟨_, _, _, _, _, _, Sv.fresh W _ _ _ _ _ _ _⟩, fun h5 q => by have := cL (getD_ne h5 (by decide)) _ q; omega, fun h5 q => by have := ((cR (getD_ne h5 (by decide))).lt4 _ q).2; omega, fun h5 => absurd (c8 (getD_ne h5 (by decide))).2 (by rw [hoff]; decide)⟩, fun h => absurd (c8 (getD_ne h (by decide))).2 (by rw [hoff]; decide), fun h => (c9 (getD_ne h (by decide)))⟩)
      · -- 8
        have D7 : Hid (l.getD 7 false = true) := (by have hd := ready_deps hi (o := _) rfl; exact hd ⟨7, .data⟩ (by simp) (by rfl))
        have D5 : Hid (l.getD 5 false = true) := (by have hd := ready_deps hi (o := _) rfl; exact hd ⟨5, .data⟩ (by simp) (by rfl))
        obtain ⟨g, q1, q2, ⟨y0, y1, y2, y3, y4, y5, q3⟩, q4, q5, q6⟩ := c7 D7.out
        subst q1
        have f5 := c5 D5.out
        have D3 : Hid (l.getD 3 false = true) := f5.1
        obtain rfl := f5.2
        have hnR := q5 D3.out
        have t0 := q3.c0
        have z0 := q3.f0
        have t1 := q3.c1
        have z1 := q3.f1
        have t2 := q3.c2
        have z2 := q3.f2
        have t3 := q3.c3
        have z3 := q3.f3
        have t4 := q3.c4
        have z4 := q3.f4
        have t5 := q3.c5
        have z5 := q3.f5
        clear f5
        refine wpOp_step rfl (fun K' hK' => ?_)
        have HK : Hid (∀ a w, K a w → K' a w) := hK'
        have HK2 : Hid (type_of% hK) := hK
        clear hK hK'
        go_simp
        exact HK.out _ _ (HK2.out _ _ ⟨by simp [hls], Below.sets6 hB q2.1, oi, oh, ow, oa, ri, rh, rw, ra, ki, kh, kw, ka, _, _, _, _, _, _, _, _, _, rfl, fun _ h3 => absurd D3.out (by rw [getD_off h3 (by decide)]; decide), fun _ => (cR D3.out).set6 hnR, fun h g q => by simpa using cL (getD_ne h (by decide)) g q, fun h => (c0 (getD_ne h (by decide))), fun h => (c1 (getD_ne h (by decide))), fun h => (c2 (getD_ne h (by decide))), fun h => ⟨getD_set_true (c3 (getD_ne h (by decide))).1, (c3 (getD_ne h (by decide))).2⟩, fun h => ⟨getD_set_true (c4 (getD_ne h (by decide))).1, (c4 (getD_ne h (by decide))).2⟩, fun h => ⟨getD_set_true (c5 (getD_ne h (by decide))).1, (c5 (getD_ne h (by decide))).2⟩, fun h => (c6 (getD_ne h (by decide))), fun _ => ⟨g, rfl, ⟨q2.1, by simpa using q2.2⟩, ⟨_, _, _, _, _, _, q3.set6⟩, fun h5 => q4 (getD_ne h5 (by decide)), fun _ => hnR, fun _ => q3.set6⟩, fun _ => ⟨getD_set_true D5.out, getD_set_true D7.out⟩, fun h => (c9 (getD_ne h (by decide)))⟩)
      · -- 9
        obtain rfl := c6 (by have hd := ready_deps hi (o := _) rfl; exact hd ⟨6, .data⟩ (by simp) (by rfl))
        refine wpOp_step rfl (fun K' hK' => ?_)
        have HK : Hid (∀ a w, K a w → K' a w) := hK'
        have HK2 : Hid (type_of% hK) := hK
        clear hK hK'
        go_simp
        exact HK.out _ _ (HK2.out _ _ ⟨by simp [hls], hB, oi, oh, ow, oa, ri, rh, rw, ra, ki, kh, kw, ka, _, _, _, _, _, _, _, _, _, rfl, fun h h3 => cO (getD_ne h (by decide)) (getD_off h3 (by decide)), fun h => cR (getD_ne h (by decide)), fun h => cL (getD_ne h (by decide)), fun h => (c0 (getD_ne h (by decide))), fun h => (c1 (getD_ne h (by decide))), fun h => (c2 (getD_ne h (by decide))), fun h => ⟨getD_set_true (c3 (getD_ne h (by decide))).1, (c3 (getD_ne h (by decide))).2⟩, fun h => ⟨getD_set_true (c4 (getD_ne h (by decide))).1, (c4 (getD_ne h (by decide))).2⟩, fun h => ⟨getD_set_true (c5 (getD_ne h (by decide))).1, (c5 (getD_ne h (by decide))).2⟩, fun h => (c6 (getD_ne h (by decide))), fun h => by obtain ⟨g, q1, q2, q3, q4, q5, q6⟩ := (c7 (getD_ne h (by decide))); exact ⟨g, q1, q2, q3, fun h5 => q4 (getD_ne h5 (by decide)), fun h5 => q5 (getD_ne h5 (by decide)), fun h5 => q6 (getD_ne h5 (by decide))⟩, fun h => ⟨getD_set_true (c8 (getD_ne h (by decide))).1, getD_set_true (c8 (getD_ne h (by decide))).2⟩, fun _ => rfl⟩)

end Go.Proofs.Ytnlppeieccbhgaa

namespace Go.Proofs.Ytnlppeieccbhgaa
open Go.RowKit Plain Tpc Ssn

set_option maxRecDepth 100000 in
theorem open_step {H : Type} {enc : TypeId × Value → H} {W : World} {base : Nat} {v0 : Value} {d0 : DataW H} {p0 : List MemPlace} (hok : Value.okWide Try.prog W .any base 45 v0)
    (h0 : DataW.Trod enc Try.prog W 0 (fun _ => true) true 45 v0 d0 p0) : ∃ R : Sp, v0 = .agg #[.int .i64 R.kind, .int .i64 R.kk, .string R.tx] ∧ R.tx.size ≤ 9223372036854775807 := by
  unfold Value.okWide at hok
  rw [Try.underlying45] at hok
  obtain ⟨cs, rfl, hsz, _⟩ := hok
  have c75 : Try.prog.cellsOf 45 = 3 := by kernel_rfl
  rw [c75] at hsz
  obtain ⟨fuel, hf⟩ := h0
  obtain ⟨l⟩ := cs
  match l, hsz with
  | [k0, k1, k2], _ =>
    obtain ⟨t, ht, hs⟩ := open_Sp (cs := [k0, k1, k2]) hf
    simp only [Sp.cells, List.cons.injEq] at ht
    obtain ⟨rfl, rfl, rfl, -⟩ := ht
    exact ⟨t, rfl, by unfold maxLen at hs; omega⟩

set_option maxRecDepth 100000 in
theorem open_steps {H : Type} {enc : TypeId × Value → H} {W : World} {base : Nat} {v0 : Value} {d0 : DataW H} {p0 : List MemPlace} (hok : Value.okWide Try.prog W .any base 51 v0)
    (h0 : DataW.Trod enc Try.prog W 0 (fun _ => true) true 51 v0 d0 p0) : ∃ T, SpsAt W W.heap.size v0 T ∧ ∀ i, i < T.length → (sp T i).tx.size ≤ 9223372036854775807 := by
  obtain ⟨a, len, cap, rfl⟩ := Go.WideShapes.okWide_slice Try.underlying51 hok
  obtain ⟨fuel, hf⟩ := h0
  rw [show (Value.slice a len cap).cells = #[Value.slice a len cap] from rfl] at hf
  exact open_SpsIn hf

end Go.Proofs.Ytnlppeieccbhgaa
