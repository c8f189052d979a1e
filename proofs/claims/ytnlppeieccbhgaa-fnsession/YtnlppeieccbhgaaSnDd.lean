/- The law FnSession, walked: for what is drawn from the bytes it answers true. -/
import Derived.Test.YtnlppeieccbhgaaXz
import Derived.Test.YtnlppeieccbhgaaXv
import Derived.Test.YtnlppeieccbhgaaXc
import Derived.Test.YtnlppeieccbhgaaSnD
namespace Go.Proofs.Ytnlppeieccbhgaa
open Go.RowKit Plain Tpc Ssn

theorem listed_ofB4 {md : Region.Mode} {ops : Array Oper} {l : Array Bool} (h0 : Region.ready md ops l = []) (i : Nat) (o : Oper) (hs : i < l.size) (ho : ops[i]? = some o) (hd : ∀ e ∈ o.after, Region.binds md e = true → l.getD e.on false = true) : l.getD i false = true := by
  rcases Bool.eq_false_or_eq_true (l.getD i false) with h | h
  · exact h
  · have hi : i ∈ Region.ready md ops l := mem_ready.2 ⟨by
      simp only [Array.getD, dif_pos hs] at h ⊢
      exact h, o, ho, hd⟩
    rw [h0] at hi
    cases hi

/-- a session in a variable -/
structure SvJ (w W : World) (N : Nat) (F : Ses) (vi vh vw va : Value) : Prop where
  sa : SesAt W W.heap.size F vi vh vw va
  x : Sv W N (.int .i64 F.ep) vi (.int .i64 F.base) vh vw va
  b : Below w.heap.size w W
theorem SvJ.below {w W W' : World} {N : Nat} {F : Ses} {vi vh vw va : Value} (h : SvJ w W N F vi vh vw va) (hb : Below W.heap.size W W') : SvJ w W' N F vi vh vw va :=
  ⟨h.sa.below hb, h.x.below hb, h.b.trans (hb.mono h.b.size)⟩
theorem SvJ.new {w W : World} {B : Nat} {F : Ses} {vi vh vw va : Value} (h : SesRow W B F vi vh vw va) (hb : Below w.heap.size w W) (t : TypeId) : SvJ w (W.alloc (.cells #[.int .i64 F.ep, vi, .int .i64 F.base, vh, vw, va] t)) W.heap.size F vi vh vw va :=
  ⟨h.at.below ((Below.refl _ W).alloc (Nat.le_refl _) _), Sv.fresh W _ _ _ _ _ _ _, hb.alloc hb.size _⟩

def Fs11 (Wx : World) (N1 : Nat) (N2 : Nat) (t : ByteArray) (l : List Sp) (F : Ses) (D : List Bool) (ai1 : Option Addr) (ah1 : Option Addr) (aw1 : Option Addr) (aa1 : Option Addr) (bo1 : Option Addr) (ai2 : Option Addr) (ah2 : Option Addr) (aw2 : Option Addr) (aa2 : Option Addr) (bo2 : Option Addr) (ci1 : Nat) (ch1 : Nat) (cw1 : Nat) (ca1 : Nat) (bc1 : Nat) (ci2 : Nat) (ch2 : Nat) (cw2 : Nat) (ca2 : Nat) (bc2 : Nat) (a0 : Option Addr) (len0 : Nat) (cap0 : Nat) (av : Option Addr) (cv : Nat) (lb : Array Bool) (a : Act) (W : World) : Prop :=
  lb.size = 26 ∧ Below Wx.heap.size Wx W ∧ ∃ u62 u63 u64 u65 u66 u67 u68 u69 u70 u71 u72 u73 u74 u75 u76 u77 u78 u79 u80 u81 u82 u83 u84 u85 u86 u87 : Value, a = ⟨#[Value.slice a0 len0 cap0, undef, Value.bool false, Value.string t, Value.slice av l.length cv, Value.pointer (some { block := N1, off := 0 }), Value.slice bo1 D.length bc1, Value.bool true, Value.pointer (some { block := N2, off := 0 }), Value.slice bo2 D.length bc2, Value.bool true, Value.int IntKind.i64 ↑F.handed.length, undef, undef, undef, undef, undef, Value.slice a0 len0 cap0, Value.int IntKind.i64 ↑len0, Value.bool false, Value.tuple #[Value.string t, Value.slice av l.length cv], Value.slice a0 len0 cap0, Value.tuple #[Value.string t, Value.slice av l.length cv], Value.string t, Value.slice av l.length cv, Value.tuple #[Value.agg #[Value.int IntKind.i64 F.ep, Value.slice ai1 F.items.length ci1, Value.int IntKind.i64 F.base, Value.slice ah1 F.handed.length ch1, Value.slice aw1 F.way.length cw1, Value.slice aa1 F.acks.length ca1], Value.slice bo1 D.length bc1, Value.bool true], Value.string t, Value.slice av l.length cv, Value.tuple #[Value.agg #[Value.int IntKind.i64 F.ep, Value.slice ai1 F.items.length ci1, Value.int IntKind.i64 F.base, Value.slice ah1 F.handed.length ch1, Value.slice aw1 F.way.length cw1, Value.slice aa1 F.acks.length ca1], Value.slice bo1 D.length bc1, Value.bool true], Value.agg #[Value.int IntKind.i64 F.ep, Value.slice ai1 F.items.length ci1, Value.int IntKind.i64 F.base, Value.slice ah1 F.handed.length ch1, Value.slice aw1 F.way.length cw1, Value.slice aa1 F.acks.length ca1], Value.slice bo1 D.length bc1, Value.bool true, Value.tuple #[Value.agg #[Value.int IntKind.i64 F.ep, Value.slice ai2 F.items.length ci2, Value.int IntKind.i64 F.base, Value.slice ah2 F.handed.length ch2, Value.slice aw2 F.way.length cw2, Value.slice aa2 F.acks.length ca2], Value.slice bo2 D.length bc2, Value.bool true], Value.string t, Value.slice av l.length cv, Value.tuple #[Value.agg #[Value.int IntKind.i64 F.ep, Value.slice ai2 F.items.length ci2, Value.int IntKind.i64 F.base, Value.slice ah2 F.handed.length ch2, Value.slice aw2 F.way.length cw2, Value.slice aa2 F.acks.length ca2], Value.slice bo2 D.length bc2, Value.bool true], Value.agg #[Value.int IntKind.i64 F.ep, Value.slice ai2 F.items.length ci2, Value.int IntKind.i64 F.base, Value.slice ah2 F.handed.length ch2, Value.slice aw2 F.way.length cw2, Value.slice aa2 F.acks.length ca2], Value.slice bo2 D.length bc2, Value.bool true, Value.bool true, Value.bool true, Value.bool false, Value.bool false, Value.slice bo1 D.length bc1, Value.slice bo2 D.length bc2, Value.bool true, Value.bool false, Value.bool false, Value.bool false, Value.agg #[Value.int IntKind.i64 F.ep, Value.slice ai1 F.items.length ci1, Value.int IntKind.i64 F.base, Value.slice ah1 F.handed.length ch1, Value.slice aw1 F.way.length cw1, Value.slice aa1 F.acks.length ca1], Value.agg #[Value.int IntKind.i64 F.ep, Value.slice ai2 F.items.length ci2, Value.int IntKind.i64 F.base, Value.slice ah2 F.handed.length ch2, Value.slice aw2 F.way.length cw2, Value.slice aa2 F.acks.length ca2], Value.bool true, Value.bool false, Value.bool false, Value.bool true, Value.bool false, undef, undef, undef, Value.pointer (some { block := N1, off := 3 }), Value.slice ah1 F.handed.length ch1, Value.int IntKind.i64 ↑F.handed.length, u62, u63, u64, u65, u66, u67, u68, u69, u70, u71, u72, u73, u74, u75, u76, u77, u78, u79, u80, u81, u82, u83, u84, u85, u86, u87, undef, undef, undef, undef, undef, undef, undef, undef, undef, undef, undef, undef, undef, undef, undef, undef, undef, undef, undef, undef, undef, undef, undef, undef, undef, undef, undef, undef, undef, undef, undef, undef, undef, undef, undef, undef, undef, undef, undef, undef, undef, undef, undef, undef, undef, undef, undef, undef, undef, undef], []⟩ ∧
    (lb.getD 0 false = true → u62 = .agg #[.int .i64 F.ep, .slice ai1 F.items.length ci1, .int .i64 F.base, .slice ah1 F.handed.length ch1, .slice aw1 F.way.length cw1, .slice aa1 F.acks.length ca1]) ∧
    (lb.getD 1 false = true → u63 = .bool true) ∧
    (lb.getD 2 false = true → u64 = .bool false) ∧
    (lb.getD 3 false = true → u65 = .bool false) ∧
    (lb.getD 4 false = true → u66 = .int .i64 (F.handed.length : Int)) ∧
    (lb.getD 5 false = true → u67 = .pointer (some ⟨N1, 1, none⟩)) ∧
    (lb.getD 6 false = true → u68 = .slice ai1 F.items.length ci1) ∧
    (lb.getD 7 false = true → u69 = .int .i64 (F.items.length : Int)) ∧
    (lb.getD 8 false = true → u70 = .bool false) ∧
    (lb.getD 9 false = true → u71 = .bool false) ∧
    (lb.getD 10 false = true → u72 = .bool false) ∧
    (lb.getD 11 false = true → u73 = .pointer (some ⟨N1, 3, none⟩)) ∧
    (lb.getD 12 false = true → u74 = .slice ah1 F.handed.length ch1) ∧
    (lb.getD 13 false = true → u75 = .pointer (some ⟨N1, 1, none⟩)) ∧
    (lb.getD 14 false = true → u76 = .slice ai1 F.items.length ci1) ∧
    (lb.getD 15 false = true → u77 = .int .i64 (F.handed.length : Int)) ∧
    (lb.getD 16 false = true → u78 = .slice ai1 F.handed.length ci1) ∧
    (lb.getD 17 false = true → u79 = .bool true) ∧
    (lb.getD 18 false = true → u80 = .bool false) ∧
    (lb.getD 19 false = true → u81 = .bool false) ∧
    (lb.getD 20 false = true → u82 = .bool false) ∧
    (lb.getD 21 false = true → u83 = .pointer (some ⟨N1, 2, none⟩)) ∧
    (lb.getD 22 false = true → u84 = .int .i64 F.base) ∧
    (lb.getD 23 false = true → u85 = .int .i64 (F.handed.length : Int)) ∧
    (lb.getD 24 false = true → u86 = .bool false) ∧
    (lb.getD 25 false = true → u87 = .bool false)

set_option maxRecDepth 100000 in
set_option maxHeartbeats 32000000 in
theorem walkFnSession (a0 : Option Addr) (len0 cap0 : Nat) (w : World) (h0 : len0 ≤ 1048576 → CodeAt w a0 len0) (y0 : len0 ≤ 140737488351232) :
    Calls Try.prog 10 #[.slice a0 len0 cap0] w fun e w' => e = .returned (.bool true) ∧ Below w.heap.size w w' := by
  by_cases hbig : 1048576 < len0
  · have hbig' : (1048576 : Int) < (len0 : Int) := by omega
    clear h0
    go_enter Try.func10, Try.ntmps10
    go_wp2
    go_ret
    exact ⟨rfl, Below.refl _ _⟩
  have hbig' : ¬ (1048576 : Int) < (len0 : Int) := by omega
  have H0 : Hid (CodeAt w a0 len0) := h0 (by omega)
  clear h0 hbig y0
  go_enter Try.func10, Try.ntmps10
  go_wp2_with fail
  go_at_call 45
  refine (drawPlayS_any a0 len0 cap0 w H0.out).mono ?_
  rintro e w1 ⟨⟨t, l, av, cv, rfl, ht30, hR1, hl201, hS1⟩, hB1⟩
  have HB1 : Hid (Below w.heap.size w w1) := hB1
  have HA1 : Hid (SpsAt w1 w1.heap.size (.slice av l.length cv) l) := SpsAt.own hR1
  have HN : Hid (∀ i, i < l.length → (sp l i).tx.size ≤ 9223372036854775807) := fun i hi => by
    have := hS1 (sp l i) (by unfold sp; simp [List.getD, List.getElem?_eq_getElem hi])
    omega
  have CI : Hid (Calls Try.prog 32 #[.string t, .slice av l.length cv] w1 fun e w' => PlO w1 w' e t l) := implPlayS t l _ w1 (by omega) HA1.out HN.out
  have CS : Hid (∀ W, Below w1.heap.size w1 W → Calls Try.prog 30 #[.string t, .slice av l.length cv] W fun e w' => PlO W w' e t l) := fun W hW => specPlayS t l _ W (by omega) (HA1.out.below hW) HN.out
  have HGK : Hid (plK t l = true → Gd (plS t l)) := fun h => by
    unfold plS
    rw [if_pos h]
    have hq : nwK t = true := by unfold plK at h; simp at h; exact h.1
    exact plF_good l _ (nwS_good hq)
  have HFl : Hid (Sml (plS t l) 40) := by
    show Sml _ _
    by_cases h : plK t l = true
    · exact (HGK.out h).sml.up (by decide)
    · unfold plS; rw [if_neg h]; exact ⟨Nat.zero_le _, Nat.zero_le _, Nat.zero_le _, Nat.zero_le _⟩
  have HDN : Hid (plK t l = false → (plD t l).length = 0) := fun h => by unfold plD; rw [h]; rfl
  have HDL : Hid ((plD t l).length ≤ 300) := by
    show _ ≤ _
    unfold plD
    split
    · rw [plB_len]; omega
    · exact Nat.zero_le _
  unfold PlO at CI CS
  generalize plS t l = F at CI CS HGK HFl
  generalize plD t l = D at CI CS HDN HDL
  generalize plK t l = K at CI CS HGK HDN
  have nK : (K != K) = false := bne_self_eq_false K
  clear hR1 hS1 H0 hB1
  go_wp2_with fail
  go_at_call 32
  refine CI.out.mono ?_
  rintro e w2 ⟨ai1, ci1, ah1, ch1, aw1, cw1, aa1, ca1, bo1, bc1, m1, rfl, hr, hd, _, _, hb⟩
  obtain ⟨W2, hW2⟩ : ∃ X, X = w2.alloc (.cells #[.int .i64 F.ep, .slice ai1 F.items.length ci1, .int .i64 F.base, .slice ah1 F.handed.length ch1, .slice aw1 F.way.length cw1, .slice aa1 F.acks.length ca1] 26) := ⟨_, rfl⟩
  have hB2 : Below w1.heap.size w1 W2 := by rw [hW2]; exact hb.alloc hb.size _
  have HJ1 : Hid (SvJ w W2 w2.heap.size F (.slice ai1 F.items.length ci1) (.slice ah1 F.handed.length ch1) (.slice aw1 F.way.length cw1) (.slice aa1 F.acks.length ca1)) := by
    show SvJ _ _ _ _ _ _ _ _
    rw [hW2]
    exact SvJ.new hr (HB1.out.trans (hb.mono HB1.out.size)) _
  have HD1 : Hid (EAt W2 W2.heap.size (.slice bo1 D.length bc1) D) := by
    show EAt _ _ _ _
    rw [hW2]
    exact (EAt.own hd).below ((Below.refl _ w2).alloc (Nat.le_refl _) _)
  have CS2 := CS.out W2 hB2
  obtain ⟨N1, hN1⟩ : ∃ N, N = w2.heap.size := ⟨_, rfl⟩
  rw [← hN1] at HJ1
  clear hr hd hb hB2 CI CS
  go_upto_region 5 with fail
  rw [← hW2, ← hN1]
  clear hW2 hN1
  go_wp2_with fail
  go_at_call 30
  refine CS2.mono ?_
  rintro e w3 ⟨ai2, ci2, ah2, ch2, aw2, cw2, aa2, ca2, bo2, bc2, m2, rfl, hr, hd, _, _, hb⟩
  obtain ⟨W3, hW3⟩ : ∃ X, X = w3.alloc (.cells #[.int .i64 F.ep, .slice ai2 F.items.length ci2, .int .i64 F.base, .slice ah2 F.handed.length ch2, .slice aw2 F.way.length cw2, .slice aa2 F.acks.length ca2] 26) := ⟨_, rfl⟩
  have hB3 : Below W2.heap.size W2 W3 := by rw [hW3]; exact hb.alloc hb.size _
  have HJ2 : Hid (SvJ w W3 w3.heap.size F (.slice ai2 F.items.length ci2) (.slice ah2 F.handed.length ch2) (.slice aw2 F.way.length cw2) (.slice aa2 F.acks.length ca2)) := by
    show SvJ _ _ _ _ _ _ _ _
    rw [hW3]
    exact SvJ.new hr (HJ1.out.b.trans (hb.mono HJ1.out.b.size)) _
  have HD2 : Hid (EAt W3 W3.heap.size (.slice bo2 D.length bc2) D) := by
    show EAt _ _ _ _
    rw [hW3]
    exact (EAt.own hd).below ((Below.refl _ w3).alloc (Nat.le_refl _) _)
  have HJ1 : Hid (SvJ w W3 N1 F (.slice ai1 F.items.length ci1) (.slice ah1 F.handed.length ch1) (.slice aw1 F.way.length cw1) (.slice aa1 F.acks.length ca1)) := HJ1.out.below hB3
  have HD1 : Hid (EAt W3 W3.heap.size (.slice bo1 D.length bc1) D) := HD1.out.below hB3
  obtain ⟨N2, hN2⟩ : ∃ N, N = w3.heap.size := ⟨_, rfl⟩
  rw [← hN2] at HJ2
  have CB := sameBoolsS_same D _ _ W3 HD1.out HD2.out (by have := HDL.out; omega)
  clear hr hd hb hB3 CS2
  go_upto_region 6 with fail
  rw [← hW3, ← hN2]
  clear hW3 hN2
  go_wp2_with fail
  go_at_call 46
  refine CB.mono ?_
  rintro e w4 ⟨rfl, hb⟩
  have HJ1 : Hid (SvJ w w4 N1 F (.slice ai1 F.items.length ci1) (.slice ah1 F.handed.length ch1) (.slice aw1 F.way.length cw1) (.slice aa1 F.acks.length ca1)) := HJ1.out.below hb
  have HJ2 : Hid (SvJ w w4 N2 F (.slice ai2 F.items.length ci2) (.slice ah2 F.handed.length ch2) (.slice aw2 F.way.length cw2) (.slice aa2 F.acks.length ca2)) := HJ2.out.below hb
  have CC := sameSessions_same F (.slice ai1 F.items.length ci1) (.slice ah1 F.handed.length ch1) (.slice aw1 F.way.length cw1) (.slice aa1 F.acks.length ca1) (.slice ai2 F.items.length ci2) (.slice ah2 F.handed.length ch2) (.slice aw2 F.way.length cw2) (.slice aa2 F.acks.length ca2) w4 HJ1.out.sa HJ2.out.sa (HFl.out.up (by decide))
  have y0 := HJ1.out.x.c0
  have z0 := HJ2.out.x.c0
  have y1 := HJ1.out.x.c1
  have z1 := HJ2.out.x.c1
  have y2 := HJ1.out.x.c2
  have z2 := HJ2.out.x.c2
  have y3 := HJ1.out.x.c3
  have z3 := HJ2.out.x.c3
  have y4 := HJ1.out.x.c4
  have z4 := HJ2.out.x.c4
  have y5 := HJ1.out.x.c5
  have z5 := HJ2.out.x.c5
  clear hb CB HD1 HD2
  go_wp2_with fail
  go_at_call 41
  refine CC.mono ?_
  rintro e w5 ⟨rfl, hb⟩
  have HJ1 : Hid (SvJ w w5 N1 F (.slice ai1 F.items.length ci1) (.slice ah1 F.handed.length ch1) (.slice aw1 F.way.length cw1) (.slice aa1 F.acks.length ca1)) := HJ1.out.below hb
  clear hb CC HJ2 y0 z0 y1 z1 y2 z2 y3 z3 y4 z4 y5 z5
  cases K with
  | false =>
    have hD0 : D.length = 0 := HDN.out rfl
    have hDe : ((D.length : Int) == 0) = true := by rw [hD0]; rfl
    clear HGK HDN
    go_wp2_with fail
    go_ret
    exact ⟨by first | rfl | (rw [hD0]; rfl), HJ1.out.b⟩
  | true =>
    have HG : Hid (Gd F) := HGK.out rfl
    have hgs : gs F = true := (gs_iff F).2 HG.out
    have hSh : Shr F 9223372036854775807 := by
      have g := HG.out
      refine ⟨fun j hj => Nat.le_trans (g.it j hj) (by decide), fun j hj => by rw [g.handed_at hj]; exact Nat.le_trans (g.it j (by have := g.hl; omega)) (by decide), fun j hj => ?_⟩
      obtain ⟨_, h1, h2, _, h5⟩ := g.yo (pk F.way j) (by unfold pk; simp [List.getD, List.getElem?_eq_getElem hj])
      rw [h5]
      exact Nat.le_trans (g.it _ (by omega)) (by decide)
    have HSH : Hid (Shr F 9223372036854775807) := hSh
    have CGD : Hid (∀ W, Below w5.heap.size w5 W → Calls Try.prog 19 #[.agg #[.int .i64 F.ep, .slice ai1 F.items.length ci1, .int .i64 F.base, .slice ah1 F.handed.length ch1, .slice aw1 F.way.length cw1, .slice aa1 F.acks.length ca1]] W fun e w' => e = .returned (.bool true) ∧ Below W.heap.size W w') := fun W hW => by
      have h := implGoodS F _ _ _ _ W (HJ1.out.below hW).sa hSh
      rw [hgs] at h
      exact h
    have CST : Hid (∀ W, Below w5.heap.size w5 W → Calls Try.prog 42 #[.slice ah1 F.handed.length ch1, .slice ai1 F.handed.length ci1] W fun e w' => e = .returned (.bool true) ∧ Below W.heap.size W w') := fun W hW => by
      have hj := HJ1.out.below hW
      have h9 := StAt.takeS (k := F.handed.length) hj.sa.i HG.out.hl
      rw [← HG.out.he] at h9
      exact sameTextsS_same F.handed _ _ W hj.sa.h h9 (by have := HFl.out.h; omega)
    have hil := HG.out.il
    have hhl := HG.out.hl
    have hb1 := HG.out.b1
    have HGS : Hid (gs F = true) := hgs
    obtain ⟨_, _, hq, hic, hcm, _⟩ := HJ1.out.sa.i
    simp only [Value.slice.injEq] at hq
    obtain ⟨rfl, -, rfl⟩ := hq
    unfold maxLen at hcm
    have hd1 : decide ((F.items.length : Int) < (F.handed.length : Int)) = false := decide_eq_false (by omega)
    have hd1n : decide (F.items.length < F.handed.length) = false := decide_eq_false (by omega)
    have hd2 : decide ((F.handed.length : Int) < F.base) = false := decide_eq_false (by omega)
    have x3 := HJ1.out.x.c3
    clear hgs hSh HGK HDN
    have HI0 : Hid (Fs11 w5 N1 N2 t l F D ai1 ah1 aw1 aa1 bo1 ai2 ah2 aw2 aa2 bo2 ci1 ch1 cw1 ca1 bc1 ci2 ch2 cw2 ca2 bc2 a0 len0 cap0 av cv (Array.replicate 26 false) ⟨#[Value.slice a0 len0 cap0, undef, Value.bool false, Value.string t, Value.slice av l.length cv, Value.pointer (some { block := N1, off := 0 }), Value.slice bo1 D.length bc1, Value.bool true, Value.pointer (some { block := N2, off := 0 }), Value.slice bo2 D.length bc2, Value.bool true, Value.int IntKind.i64 ↑F.handed.length, undef, undef, undef, undef, undef, Value.slice a0 len0 cap0, Value.int IntKind.i64 ↑len0, Value.bool false, Value.tuple #[Value.string t, Value.slice av l.length cv], Value.slice a0 len0 cap0, Value.tuple #[Value.string t, Value.slice av l.length cv], Value.string t, Value.slice av l.length cv, Value.tuple #[Value.agg #[Value.int IntKind.i64 F.ep, Value.slice ai1 F.items.length ci1, Value.int IntKind.i64 F.base, Value.slice ah1 F.handed.length ch1, Value.slice aw1 F.way.length cw1, Value.slice aa1 F.acks.length ca1], Value.slice bo1 D.length bc1, Value.bool true], Value.string t, Value.slice av l.length cv, Value.tuple #[Value.agg #[Value.int IntKind.i64 F.ep, Value.slice ai1 F.items.length ci1, Value.int IntKind.i64 F.base, Value.slice ah1 F.handed.length ch1, Value.slice aw1 F.way.length cw1, Value.slice aa1 F.acks.length ca1], Value.slice bo1 D.length bc1, Value.bool true], Value.agg #[Value.int IntKind.i64 F.ep, Value.slice ai1 F.items.length ci1, Value.int IntKind.i64 F.base, Value.slice ah1 F.handed.length ch1, Value.slice aw1 F.way.length cw1, Value.slice aa1 F.acks.length ca1], Value.slice bo1 D.length bc1, Value.bool true, Value.tuple #[Value.agg #[Value.int IntKind.i64 F.ep, Value.slice ai2 F.items.length ci2, Value.int IntKind.i64 F.base, Value.slice ah2 F.handed.length ch2, Value.slice aw2 F.way.length cw2, Value.slice aa2 F.acks.length ca2], Value.slice bo2 D.length bc2, Value.bool true], Value.string t, Value.slice av l.length cv, Value.tuple #[Value.agg #[Value.int IntKind.i64 F.ep, Value.slice ai2 F.items.length ci2, Value.int IntKind.i64 F.base, Value.slice ah2 F.handed.length ch2, Value.slice aw2 F.way.length cw2, Value.slice aa2 F.acks.length ca2], Value.slice bo2 D.length bc2, Value.bool true], Value.agg #[Value.int IntKind.i64 F.ep, Value.slice ai2 F.items.length ci2, Value.int IntKind.i64 F.base, Value.slice ah2 F.handed.length ch2, Value.slice aw2 F.way.length cw2, Value.slice aa2 F.acks.length ca2], Value.slice bo2 D.length bc2, Value.bool true, Value.bool true, Value.bool true, Value.bool false, Value.bool false, Value.slice bo1 D.length bc1, Value.slice bo2 D.length bc2, Value.bool true, Value.bool false, Value.bool false, Value.bool false, Value.agg #[Value.int IntKind.i64 F.ep, Value.slice ai1 F.items.length ci1, Value.int IntKind.i64 F.base, Value.slice ah1 F.handed.length ch1, Value.slice aw1 F.way.length cw1, Value.slice aa1 F.acks.length ca1], Value.agg #[Value.int IntKind.i64 F.ep, Value.slice ai2 F.items.length ci2, Value.int IntKind.i64 F.base, Value.slice ah2 F.handed.length ch2, Value.slice aw2 F.way.length cw2, Value.slice aa2 F.acks.length ca2], Value.bool true, Value.bool false, Value.bool false, Value.bool true, Value.bool false, undef, undef, undef, Value.pointer (some { block := N1, off := 3 }), Value.slice ah1 F.handed.length ch1, Value.int IntKind.i64 ↑F.handed.length, undef, undef, undef, undef, undef, undef, undef, undef, undef, undef, undef, undef, undef, undef, undef, undef, undef, undef, undef, undef, undef, undef, undef, undef, undef, undef, undef, undef, undef, undef, undef, undef, undef, undef, undef, undef, undef, undef, undef, undef, undef, undef, undef, undef, undef, undef, undef, undef, undef, undef, undef, undef, undef, undef, undef, undef, undef, undef, undef, undef, undef, undef, undef, undef, undef, undef, undef, undef, undef, undef, undef, undef, undef, undef, undef, undef], []⟩ w5.drew) := by
      refine ⟨by simp, (Below.refl _ w5).drew, _, _, _, _, _, _, _, _, _, _, _, _, _, _, _, _, _, _, _, _, _, _, _, _, _, _, rfl, ?_, ?_, ?_, ?_, ?_, ?_, ?_, ?_, ?_, ?_, ?_, ?_, ?_, ?_, ?_, ?_, ?_, ?_, ?_, ?_, ?_, ?_, ?_, ?_, ?_, ?_⟩
      all_goals
        intro h
        exact absurd h (by decide)
    go_upto_region 11 with fail
    clear x3
    refine wp_region_held_drew (S := fun _ => True) (by kernel_rfl) trivial (fun _ => ?_)
    refine wpAnyH_inv (Fs11 w5 N1 N2 t l F D ai1 ah1 aw1 aa1 bo1 ai2 ah2 aw2 aa2 bo2 ci1 ch1 cw1 ca1 bc1 ci2 ch2 cw2 ca2 bc2 a0 len0 cap0 av cv) ?stepA ?finA _ _ _ _ HI0.out (by decide)
    case stepA =>
      intro lb a W j hI hi' K' hK'
      have hlt9 := ready_lt hi'
      obtain ⟨hls, hB, u62, u63, u64, u65, u66, u67, u68, u69, u70, u71, u72, u73, u74, u75, u76, u77, u78, u79, u80, u81, u82, u83, u84, u85, u86, u87, rfl, c0, c1, c2, c3, c4, c5, c6, c7, c8, c9, c10, c11, c12, c13, c14, c15, c16, c17, c18, c19, c20, c21, c22, c23, c24, c25⟩ := hI
      have hlt' : j < 26 := hlt9
      have hsz := hB.size
      rcases (show j = 0 ∨ j = 1 ∨ j = 2 ∨ j = 3 ∨ j = 4 ∨ j = 5 ∨ j = 6 ∨ j = 7 ∨ j = 8 ∨ j = 9 ∨ j = 10 ∨ j = 11 ∨ j = 12 ∨ j = 13 ∨ j = 14 ∨ j = 15 ∨ j = 16 ∨ j = 17 ∨ j = 18 ∨ j = 19 ∨ j = 20 ∨ j = 21 ∨ j = 22 ∨ j = 23 ∨ j = 24 ∨ j = 25 by omega) with rfl | rfl | rfl | rfl | rfl | rfl | rfl | rfl | rfl | rfl | rfl | rfl | rfl | rfl | rfl | rfl | rfl | rfl | rfl | rfl | rfl | rfl | rfl | rfl | rfl | rfl
      · -- 0
        have V := (HJ1.out.below hB).x
        have y0 := V.c0
        have y1 := V.c1
        have y2 := V.c2
        have y3 := V.c3
        have y4 := V.c4
        have y5 := V.c5
        clear V
        refine wpOp_step rfl (fun K9 hK9 => ?_)
        have HK : Hid (∀ a w, K' a w → K9 a w) := hK9
        have HK2 : Hid (type_of% hK') := hK'
        clear hK9 hK'
        go_simp
        exact HK.out _ _ (HK2.out _ _ ⟨by simp [hls], hB, _, _, _, _, _, _, _, _, _, _, _, _, _, _, _, _, _, _, _, _, _, _, _, _, _, _, rfl, fun _ => rfl, fun h => (c1 (getD_ne h (by decide))), fun h => (c2 (getD_ne h (by decide))), fun h => (c3 (getD_ne h (by decide))), fun h => (c4 (getD_ne h (by decide))), fun h => (c5 (getD_ne h (by decide))), fun h => (c6 (getD_ne h (by decide))), fun h => (c7 (getD_ne h (by decide))), fun h => (c8 (getD_ne h (by decide))), fun h => (c9 (getD_ne h (by decide))), fun h => (c10 (getD_ne h (by decide))), fun h => (c11 (getD_ne h (by decide))), fun h => (c12 (getD_ne h (by decide))), fun h => (c13 (getD_ne h (by decide))), fun h => (c14 (getD_ne h (by decide))), fun h => (c15 (getD_ne h (by decide))), fun h => (c16 (getD_ne h (by decide))), fun h => (c17 (getD_ne h (by decide))), fun h => (c18 (getD_ne h (by decide))), fun h => (c19 (getD_ne h (by decide))), fun h => (c20 (getD_ne h (by decide))), fun h => (c21 (getD_ne h (by decide))), fun h => (c22 (getD_ne h (by decide))), fun h => (c23 (getD_ne h (by decide))), fun h => (c24 (getD_ne h (by decide))), fun h => (c25 (getD_ne h (by decide)))⟩)
      · -- 1
        obtain rfl := c0 (by have hd := ready_deps hi' (o := _) rfl; exact hd ⟨0, .data⟩ (by simp) (by rfl))
        refine wpOp_step rfl (fun K9 hK9 => ?_)
        have HK : Hid (∀ a w, K' a w → K9 a w) := hK9
        have HK2 : Hid (type_of% hK') := hK'
        clear hK9 hK'
        have CC := CGD.out W hB
        go_simp
        go_at_call 19
        refine CC.mono ?_
        rintro r W9 ⟨rfl, hb⟩
        (try go_simp)
        exact HK.out _ _ (HK2.out _ _ ⟨by simp [hls], hB.trans (hb.mono hsz), _, _, _, _, _, _, _, _, _, _, _, _, _, _, _, _, _, _, _, _, _, _, _, _, _, _, rfl, fun h => (c0 (getD_ne h (by decide))), fun _ => rfl, fun h => (c2 (getD_ne h (by decide))), fun h => (c3 (getD_ne h (by decide))), fun h => (c4 (getD_ne h (by decide))), fun h => (c5 (getD_ne h (by decide))), fun h => (c6 (getD_ne h (by decide))), fun h => (c7 (getD_ne h (by decide))), fun h => (c8 (getD_ne h (by decide))), fun h => (c9 (getD_ne h (by decide))), fun h => (c10 (getD_ne h (by decide))), fun h => (c11 (getD_ne h (by decide))), fun h => (c12 (getD_ne h (by decide))), fun h => (c13 (getD_ne h (by decide))), fun h => (c14 (getD_ne h (by decide))), fun h => (c15 (getD_ne h (by decide))), fun h => (c16 (getD_ne h (by decide))), fun h => (c17 (getD_ne h (by decide))), fun h => (c18 (getD_ne h (by decide))), fun h => (c19 (getD_ne h (by decide))), fun h => (c20 (getD_ne h (by decide))), fun h => (c21 (getD_ne h (by decide))), fun h => (c22 (getD_ne h (by decide))), fun h => (c23 (getD_ne h (by decide))), fun h => (c24 (getD_ne h (by decide))), fun h => (c25 (getD_ne h (by decide)))⟩)
      · -- 2
        obtain rfl := c1 (by have hd := ready_deps hi' (o := _) rfl; exact hd ⟨1, .data⟩ (by simp) (by rfl))
        refine wpOp_step rfl (fun K9 hK9 => ?_)
        have HK : Hid (∀ a w, K' a w → K9 a w) := hK9
        have HK2 : Hid (type_of% hK') := hK'
        clear hK9 hK'
        go_simp
        exact HK.out _ _ (HK2.out _ _ ⟨by simp [hls], hB, _, _, _, _, _, _, _, _, _, _, _, _, _, _, _, _, _, _, _, _, _, _, _, _, _, _, rfl, fun h => (c0 (getD_ne h (by decide))), fun h => (c1 (getD_ne h (by decide))), fun _ => rfl, fun h => (c3 (getD_ne h (by decide))), fun h => (c4 (getD_ne h (by decide))), fun h => (c5 (getD_ne h (by decide))), fun h => (c6 (getD_ne h (by decide))), fun h => (c7 (getD_ne h (by decide))), fun h => (c8 (getD_ne h (by decide))), fun h => (c9 (getD_ne h (by decide))), fun h => (c10 (getD_ne h (by decide))), fun h => (c11 (getD_ne h (by decide))), fun h => (c12 (getD_ne h (by decide))), fun h => (c13 (getD_ne h (by decide))), fun h => (c14 (getD_ne h (by decide))), fun h => (c15 (getD_ne h (by decide))), fun h => (c16 (getD_ne h (by decide))), fun h => (c17 (getD_ne h (by decide))), fun h => (c18 (getD_ne h (by decide))), fun h => (c19 (getD_ne h (by decide))), fun h => (c20 (getD_ne h (by decide))), fun h => (c21 (getD_ne h (by decide))), fun h => (c22 (getD_ne h (by decide))), fun h => (c23 (getD_ne h (by decide))), fun h => (c24 (getD_ne h (by decide))), fun h => (c25 (getD_ne h (by decide)))⟩)
      · -- 3
        obtain rfl := c2 (by have hd := ready_deps hi' (o := _) rfl; exact hd ⟨2, .data⟩ (by simp) (by rfl))
        obtain rfl := c1 (by have hd := ready_deps hi' (o := _) rfl; exact hd ⟨1, .chain⟩ (by simp) (by rfl))
        refine wpOp_step rfl (fun K9 hK9 => ?_)
        have HK : Hid (∀ a w, K' a w → K9 a w) := hK9
        have HK2 : Hid (type_of% hK') := hK'
        clear hK9 hK'
        go_simp
        exact HK.out _ _ (HK2.out _ _ ⟨by simp [hls], hB, _, _, _, _, _, _, _, _, _, _, _, _, _, _, _, _, _, _, _, _, _, _, _, _, _, _, rfl, fun h => (c0 (getD_ne h (by decide))), fun h => (c1 (getD_ne h (by decide))), fun h => (c2 (getD_ne h (by decide))), fun _ => rfl, fun h => (c4 (getD_ne h (by decide))), fun h => (c5 (getD_ne h (by decide))), fun h => (c6 (getD_ne h (by decide))), fun h => (c7 (getD_ne h (by decide))), fun h => (c8 (getD_ne h (by decide))), fun h => (c9 (getD_ne h (by decide))), fun h => (c10 (getD_ne h (by decide))), fun h => (c11 (getD_ne h (by decide))), fun h => (c12 (getD_ne h (by decide))), fun h => (c13 (getD_ne h (by decide))), fun h => (c14 (getD_ne h (by decide))), fun h => (c15 (getD_ne h (by decide))), fun h => (c16 (getD_ne h (by decide))), fun h => (c17 (getD_ne h (by decide))), fun h => (c18 (getD_ne h (by decide))), fun h => (c19 (getD_ne h (by decide))), fun h => (c20 (getD_ne h (by decide))), fun h => (c21 (getD_ne h (by decide))), fun h => (c22 (getD_ne h (by decide))), fun h => (c23 (getD_ne h (by decide))), fun h => (c24 (getD_ne h (by decide))), fun h => (c25 (getD_ne h (by decide)))⟩)
      · -- 4
        obtain rfl := c3 (by have hd := ready_deps hi' (o := _) rfl; exact hd ⟨3, .guard⟩ (by simp) (by rfl))
        refine wpOp_step rfl (fun K9 hK9 => ?_)
        have HK : Hid (∀ a w, K' a w → K9 a w) := hK9
        have HK2 : Hid (type_of% hK') := hK'
        clear hK9 hK'
        rw [if_pos (show Region.wanted _ _ = true from rfl)]
        go_simp
        exact HK.out _ _ (HK2.out _ _ ⟨by simp [hls], hB, _, _, _, _, _, _, _, _, _, _, _, _, _, _, _, _, _, _, _, _, _, _, _, _, _, _, rfl, fun h => (c0 (getD_ne h (by decide))), fun h => (c1 (getD_ne h (by decide))), fun h => (c2 (getD_ne h (by decide))), fun h => (c3 (getD_ne h (by decide))), fun _ => rfl, fun h => (c5 (getD_ne h (by decide))), fun h => (c6 (getD_ne h (by decide))), fun h => (c7 (getD_ne h (by decide))), fun h => (c8 (getD_ne h (by decide))), fun h => (c9 (getD_ne h (by decide))), fun h => (c10 (getD_ne h (by decide))), fun h => (c11 (getD_ne h (by decide))), fun h => (c12 (getD_ne h (by decide))), fun h => (c13 (getD_ne h (by decide))), fun h => (c14 (getD_ne h (by decide))), fun h => (c15 (getD_ne h (by decide))), fun h => (c16 (getD_ne h (by decide))), fun h => (c17 (getD_ne h (by decide))), fun h => (c18 (getD_ne h (by decide))), fun h => (c19 (getD_ne h (by decide))), fun h => (c20 (getD_ne h (by decide))), fun h => (c21 (getD_ne h (by decide))), fun h => (c22 (getD_ne h (by decide))), fun h => (c23 (getD_ne h (by decide))), fun h => (c24 (getD_ne h (by decide))), fun h => (c25 (getD_ne h (by decide)))⟩)
      · -- 5
        obtain rfl := c3 (by have hd := ready_deps hi' (o := _) rfl; exact hd ⟨3, .guard⟩ (by simp) (by rfl))
        refine wpOp_step rfl (fun K9 hK9 => ?_)
        have HK : Hid (∀ a w, K' a w → K9 a w) := hK9
        have HK2 : Hid (type_of% hK') := hK'
        clear hK9 hK'
        rw [if_pos (show Region.wanted _ _ = true from rfl)]
        go_simp
        exact HK.out _ _ (HK2.out _ _ ⟨by simp [hls], hB, _, _, _, _, _, _, _, _, _, _, _, _, _, _, _, _, _, _, _, _, _, _, _, _, _, _, rfl, fun h => (c0 (getD_ne h (by decide))), fun h => (c1 (getD_ne h (by decide))), fun h => (c2 (getD_ne h (by decide))), fun h => (c3 (getD_ne h (by decide))), fun h => (c4 (getD_ne h (by decide))), fun _ => rfl, fun h => (c6 (getD_ne h (by decide))), fun h => (c7 (getD_ne h (by decide))), fun h => (c8 (getD_ne h (by decide))), fun h => (c9 (getD_ne h (by decide))), fun h => (c10 (getD_ne h (by decide))), fun h => (c11 (getD_ne h (by decide))), fun h => (c12 (getD_ne h (by decide))), fun h => (c13 (getD_ne h (by decide))), fun h => (c14 (getD_ne h (by decide))), fun h => (c15 (getD_ne h (by decide))), fun h => (c16 (getD_ne h (by decide))), fun h => (c17 (getD_ne h (by decide))), fun h => (c18 (getD_ne h (by decide))), fun h => (c19 (getD_ne h (by decide))), fun h => (c20 (getD_ne h (by decide))), fun h => (c21 (getD_ne h (by decide))), fun h => (c22 (getD_ne h (by decide))), fun h => (c23 (getD_ne h (by decide))), fun h => (c24 (getD_ne h (by decide))), fun h => (c25 (getD_ne h (by decide)))⟩)
      · -- 6
        obtain rfl := c5 (by have hd := ready_deps hi' (o := _) rfl; exact hd ⟨5, .data⟩ (by simp) (by rfl))
        obtain rfl := c3 (by have hd := ready_deps hi' (o := _) rfl; exact hd ⟨3, .guard⟩ (by simp) (by rfl))
        have V := (HJ1.out.below hB).x
        have y1 := V.c1
        clear V
        refine wpOp_step rfl (fun K9 hK9 => ?_)
        have HK : Hid (∀ a w, K' a w → K9 a w) := hK9
        have HK2 : Hid (type_of% hK') := hK'
        clear hK9 hK'
        rw [if_pos (show Region.wanted _ _ = true from rfl)]
        go_simp
        exact HK.out _ _ (HK2.out _ _ ⟨by simp [hls], hB, _, _, _, _, _, _, _, _, _, _, _, _, _, _, _, _, _, _, _, _, _, _, _, _, _, _, rfl, fun h => (c0 (getD_ne h (by decide))), fun h => (c1 (getD_ne h (by decide))), fun h => (c2 (getD_ne h (by decide))), fun h => (c3 (getD_ne h (by decide))), fun h => (c4 (getD_ne h (by decide))), fun h => (c5 (getD_ne h (by decide))), fun _ => rfl, fun h => (c7 (getD_ne h (by decide))), fun h => (c8 (getD_ne h (by decide))), fun h => (c9 (getD_ne h (by decide))), fun h => (c10 (getD_ne h (by decide))), fun h => (c11 (getD_ne h (by decide))), fun h => (c12 (getD_ne h (by decide))), fun h => (c13 (getD_ne h (by decide))), fun h => (c14 (getD_ne h (by decide))), fun h => (c15 (getD_ne h (by decide))), fun h => (c16 (getD_ne h (by decide))), fun h => (c17 (getD_ne h (by decide))), fun h => (c18 (getD_ne h (by decide))), fun h => (c19 (getD_ne h (by decide))), fun h => (c20 (getD_ne h (by decide))), fun h => (c21 (getD_ne h (by decide))), fun h => (c22 (getD_ne h (by decide))), fun h => (c23 (getD_ne h (by decide))), fun h => (c24 (getD_ne h (by decide))), fun h => (c25 (getD_ne h (by decide)))⟩)
      · -- 7
        obtain rfl := c6 (by have hd := ready_deps hi' (o := _) rfl; exact hd ⟨6, .data⟩ (by simp) (by rfl))
        obtain rfl := c3 (by have hd := ready_deps hi' (o := _) rfl; exact hd ⟨3, .guard⟩ (by simp) (by rfl))
        refine wpOp_step rfl (fun K9 hK9 => ?_)
        have HK : Hid (∀ a w, K' a w → K9 a w) := hK9
        have HK2 : Hid (type_of% hK') := hK'
        clear hK9 hK'
        rw [if_pos (show Region.wanted _ _ = true from rfl)]
        go_simp
        exact HK.out _ _ (HK2.out _ _ ⟨by simp [hls], hB, _, _, _, _, _, _, _, _, _, _, _, _, _, _, _, _, _, _, _, _, _, _, _, _, _, _, rfl, fun h => (c0 (getD_ne h (by decide))), fun h => (c1 (getD_ne h (by decide))), fun h => (c2 (getD_ne h (by decide))), fun h => (c3 (getD_ne h (by decide))), fun h => (c4 (getD_ne h (by decide))), fun h => (c5 (getD_ne h (by decide))), fun h => (c6 (getD_ne h (by decide))), fun _ => rfl, fun h => (c8 (getD_ne h (by decide))), fun h => (c9 (getD_ne h (by decide))), fun h => (c10 (getD_ne h (by decide))), fun h => (c11 (getD_ne h (by decide))), fun h => (c12 (getD_ne h (by decide))), fun h => (c13 (getD_ne h (by decide))), fun h => (c14 (getD_ne h (by decide))), fun h => (c15 (getD_ne h (by decide))), fun h => (c16 (getD_ne h (by decide))), fun h => (c17 (getD_ne h (by decide))), fun h => (c18 (getD_ne h (by decide))), fun h => (c19 (getD_ne h (by decide))), fun h => (c20 (getD_ne h (by decide))), fun h => (c21 (getD_ne h (by decide))), fun h => (c22 (getD_ne h (by decide))), fun h => (c23 (getD_ne h (by decide))), fun h => (c24 (getD_ne h (by decide))), fun h => (c25 (getD_ne h (by decide)))⟩)
      · -- 8
        obtain rfl := c4 (by have hd := ready_deps hi' (o := _) rfl; exact hd ⟨4, .data⟩ (by simp) (by rfl))
        obtain rfl := c7 (by have hd := ready_deps hi' (o := _) rfl; exact hd ⟨7, .data⟩ (by simp) (by rfl))
        obtain rfl := c3 (by have hd := ready_deps hi' (o := _) rfl; exact hd ⟨3, .guard⟩ (by simp) (by rfl))
        refine wpOp_step rfl (fun K9 hK9 => ?_)
        have HK : Hid (∀ a w, K' a w → K9 a w) := hK9
        have HK2 : Hid (type_of% hK') := hK'
        clear hK9 hK'
        rw [if_pos (show Region.wanted _ _ = true from rfl)]
        go_simp
        exact HK.out _ _ (HK2.out _ _ ⟨by simp [hls], hB, _, _, _, _, _, _, _, _, _, _, _, _, _, _, _, _, _, _, _, _, _, _, _, _, _, _, rfl, fun h => (c0 (getD_ne h (by decide))), fun h => (c1 (getD_ne h (by decide))), fun h => (c2 (getD_ne h (by decide))), fun h => (c3 (getD_ne h (by decide))), fun h => (c4 (getD_ne h (by decide))), fun h => (c5 (getD_ne h (by decide))), fun h => (c6 (getD_ne h (by decide))), fun h => (c7 (getD_ne h (by decide))), fun _ => rfl, fun h => (c9 (getD_ne h (by decide))), fun h => (c10 (getD_ne h (by decide))), fun h => (c11 (getD_ne h (by decide))), fun h => (c12 (getD_ne h (by decide))), fun h => (c13 (getD_ne h (by decide))), fun h => (c14 (getD_ne h (by decide))), fun h => (c15 (getD_ne h (by decide))), fun h => (c16 (getD_ne h (by decide))), fun h => (c17 (getD_ne h (by decide))), fun h => (c18 (getD_ne h (by decide))), fun h => (c19 (getD_ne h (by decide))), fun h => (c20 (getD_ne h (by decide))), fun h => (c21 (getD_ne h (by decide))), fun h => (c22 (getD_ne h (by decide))), fun h => (c23 (getD_ne h (by decide))), fun h => (c24 (getD_ne h (by decide))), fun h => (c25 (getD_ne h (by decide)))⟩)
      · -- 9
        obtain rfl := c3 (by have hd := ready_deps hi' (o := _) rfl; exact hd ⟨3, .data⟩ (by simp) (by rfl))
        obtain rfl := c8 (by have hd := ready_deps hi' (o := _) rfl; exact hd ⟨8, .data⟩ (by simp) (by rfl))
        refine wpOp_step rfl (fun K9 hK9 => ?_)
        have HK : Hid (∀ a w, K' a w → K9 a w) := hK9
        have HK2 : Hid (type_of% hK') := hK'
        clear hK9 hK'
        go_simp
        exact HK.out _ _ (HK2.out _ _ ⟨by simp [hls], hB, _, _, _, _, _, _, _, _, _, _, _, _, _, _, _, _, _, _, _, _, _, _, _, _, _, _, rfl, fun h => (c0 (getD_ne h (by decide))), fun h => (c1 (getD_ne h (by decide))), fun h => (c2 (getD_ne h (by decide))), fun h => (c3 (getD_ne h (by decide))), fun h => (c4 (getD_ne h (by decide))), fun h => (c5 (getD_ne h (by decide))), fun h => (c6 (getD_ne h (by decide))), fun h => (c7 (getD_ne h (by decide))), fun h => (c8 (getD_ne h (by decide))), fun _ => rfl, fun h => (c10 (getD_ne h (by decide))), fun h => (c11 (getD_ne h (by decide))), fun h => (c12 (getD_ne h (by decide))), fun h => (c13 (getD_ne h (by decide))), fun h => (c14 (getD_ne h (by decide))), fun h => (c15 (getD_ne h (by decide))), fun h => (c16 (getD_ne h (by decide))), fun h => (c17 (getD_ne h (by decide))), fun h => (c18 (getD_ne h (by decide))), fun h => (c19 (getD_ne h (by decide))), fun h => (c20 (getD_ne h (by decide))), fun h => (c21 (getD_ne h (by decide))), fun h => (c22 (getD_ne h (by decide))), fun h => (c23 (getD_ne h (by decide))), fun h => (c24 (getD_ne h (by decide))), fun h => (c25 (getD_ne h (by decide)))⟩)
      · -- 10
        obtain rfl := c9 (by have hd := ready_deps hi' (o := _) rfl; exact hd ⟨9, .data⟩ (by simp) (by rfl))
        obtain rfl := c3 (by have hd := ready_deps hi' (o := _) rfl; exact hd ⟨3, .chain⟩ (by simp) (by rfl))
        refine wpOp_step rfl (fun K9 hK9 => ?_)
        have HK : Hid (∀ a w, K' a w → K9 a w) := hK9
        have HK2 : Hid (type_of% hK') := hK'
        clear hK9 hK'
        go_simp
        exact HK.out _ _ (HK2.out _ _ ⟨by simp [hls], hB, _, _, _, _, _, _, _, _, _, _, _, _, _, _, _, _, _, _, _, _, _, _, _, _, _, _, rfl, fun h => (c0 (getD_ne h (by decide))), fun h => (c1 (getD_ne h (by decide))), fun h => (c2 (getD_ne h (by decide))), fun h => (c3 (getD_ne h (by decide))), fun h => (c4 (getD_ne h (by decide))), fun h => (c5 (getD_ne h (by decide))), fun h => (c6 (getD_ne h (by decide))), fun h => (c7 (getD_ne h (by decide))), fun h => (c8 (getD_ne h (by decide))), fun h => (c9 (getD_ne h (by decide))), fun _ => rfl, fun h => (c11 (getD_ne h (by decide))), fun h => (c12 (getD_ne h (by decide))), fun h => (c13 (getD_ne h (by decide))), fun h => (c14 (getD_ne h (by decide))), fun h => (c15 (getD_ne h (by decide))), fun h => (c16 (getD_ne h (by decide))), fun h => (c17 (getD_ne h (by decide))), fun h => (c18 (getD_ne h (by decide))), fun h => (c19 (getD_ne h (by decide))), fun h => (c20 (getD_ne h (by decide))), fun h => (c21 (getD_ne h (by decide))), fun h => (c22 (getD_ne h (by decide))), fun h => (c23 (getD_ne h (by decide))), fun h => (c24 (getD_ne h (by decide))), fun h => (c25 (getD_ne h (by decide)))⟩)
      · -- 11
        obtain rfl := c10 (by have hd := ready_deps hi' (o := _) rfl; exact hd ⟨10, .guard⟩ (by simp) (by rfl))
        refine wpOp_step rfl (fun K9 hK9 => ?_)
        have HK : Hid (∀ a w, K' a w → K9 a w) := hK9
        have HK2 : Hid (type_of% hK') := hK'
        clear hK9 hK'
        rw [if_pos (show Region.wanted _ _ = true from rfl)]
        go_simp
        exact HK.out _ _ (HK2.out _ _ ⟨by simp [hls], hB, _, _, _, _, _, _, _, _, _, _, _, _, _, _, _, _, _, _, _, _, _, _, _, _, _, _, rfl, fun h => (c0 (getD_ne h (by decide))), fun h => (c1 (getD_ne h (by decide))), fun h => (c2 (getD_ne h (by decide))), fun h => (c3 (getD_ne h (by decide))), fun h => (c4 (getD_ne h (by decide))), fun h => (c5 (getD_ne h (by decide))), fun h => (c6 (getD_ne h (by decide))), fun h => (c7 (getD_ne h (by decide))), fun h => (c8 (getD_ne h (by decide))), fun h => (c9 (getD_ne h (by decide))), fun h => (c10 (getD_ne h (by decide))), fun _ => rfl, fun h => (c12 (getD_ne h (by decide))), fun h => (c13 (getD_ne h (by decide))), fun h => (c14 (getD_ne h (by decide))), fun h => (c15 (getD_ne h (by decide))), fun h => (c16 (getD_ne h (by decide))), fun h => (c17 (getD_ne h (by decide))), fun h => (c18 (getD_ne h (by decide))), fun h => (c19 (getD_ne h (by decide))), fun h => (c20 (getD_ne h (by decide))), fun h => (c21 (getD_ne h (by decide))), fun h => (c22 (getD_ne h (by decide))), fun h => (c23 (getD_ne h (by decide))), fun h => (c24 (getD_ne h (by decide))), fun h => (c25 (getD_ne h (by decide)))⟩)
      · -- 12
        obtain rfl := c11 (by have hd := ready_deps hi' (o := _) rfl; exact hd ⟨11, .data⟩ (by simp) (by rfl))
        obtain rfl := c10 (by have hd := ready_deps hi' (o := _) rfl; exact hd ⟨10, .guard⟩ (by simp) (by rfl))
        have V := (HJ1.out.below hB).x
        have y3 := V.c3
        clear V
        refine wpOp_step rfl (fun K9 hK9 => ?_)
        have HK : Hid (∀ a w, K' a w → K9 a w) := hK9
        have HK2 : Hid (type_of% hK') := hK'
        clear hK9 hK'
        rw [if_pos (show Region.wanted _ _ = true from rfl)]
        go_simp
        exact HK.out _ _ (HK2.out _ _ ⟨by simp [hls], hB, _, _, _, _, _, _, _, _, _, _, _, _, _, _, _, _, _, _, _, _, _, _, _, _, _, _, rfl, fun h => (c0 (getD_ne h (by decide))), fun h => (c1 (getD_ne h (by decide))), fun h => (c2 (getD_ne h (by decide))), fun h => (c3 (getD_ne h (by decide))), fun h => (c4 (getD_ne h (by decide))), fun h => (c5 (getD_ne h (by decide))), fun h => (c6 (getD_ne h (by decide))), fun h => (c7 (getD_ne h (by decide))), fun h => (c8 (getD_ne h (by decide))), fun h => (c9 (getD_ne h (by decide))), fun h => (c10 (getD_ne h (by decide))), fun h => (c11 (getD_ne h (by decide))), fun _ => rfl, fun h => (c13 (getD_ne h (by decide))), fun h => (c14 (getD_ne h (by decide))), fun h => (c15 (getD_ne h (by decide))), fun h => (c16 (getD_ne h (by decide))), fun h => (c17 (getD_ne h (by decide))), fun h => (c18 (getD_ne h (by decide))), fun h => (c19 (getD_ne h (by decide))), fun h => (c20 (getD_ne h (by decide))), fun h => (c21 (getD_ne h (by decide))), fun h => (c22 (getD_ne h (by decide))), fun h => (c23 (getD_ne h (by decide))), fun h => (c24 (getD_ne h (by decide))), fun h => (c25 (getD_ne h (by decide)))⟩)
      · -- 13
        obtain rfl := c10 (by have hd := ready_deps hi' (o := _) rfl; exact hd ⟨10, .guard⟩ (by simp) (by rfl))
        refine wpOp_step rfl (fun K9 hK9 => ?_)
        have HK : Hid (∀ a w, K' a w → K9 a w) := hK9
        have HK2 : Hid (type_of% hK') := hK'
        clear hK9 hK'
        rw [if_pos (show Region.wanted _ _ = true from rfl)]
        go_simp
        exact HK.out _ _ (HK2.out _ _ ⟨by simp [hls], hB, _, _, _, _, _, _, _, _, _, _, _, _, _, _, _, _, _, _, _, _, _, _, _, _, _, _, rfl, fun h => (c0 (getD_ne h (by decide))), fun h => (c1 (getD_ne h (by decide))), fun h => (c2 (getD_ne h (by decide))), fun h => (c3 (getD_ne h (by decide))), fun h => (c4 (getD_ne h (by decide))), fun h => (c5 (getD_ne h (by decide))), fun h => (c6 (getD_ne h (by decide))), fun h => (c7 (getD_ne h (by decide))), fun h => (c8 (getD_ne h (by decide))), fun h => (c9 (getD_ne h (by decide))), fun h => (c10 (getD_ne h (by decide))), fun h => (c11 (getD_ne h (by decide))), fun h => (c12 (getD_ne h (by decide))), fun _ => rfl, fun h => (c14 (getD_ne h (by decide))), fun h => (c15 (getD_ne h (by decide))), fun h => (c16 (getD_ne h (by decide))), fun h => (c17 (getD_ne h (by decide))), fun h => (c18 (getD_ne h (by decide))), fun h => (c19 (getD_ne h (by decide))), fun h => (c20 (getD_ne h (by decide))), fun h => (c21 (getD_ne h (by decide))), fun h => (c22 (getD_ne h (by decide))), fun h => (c23 (getD_ne h (by decide))), fun h => (c24 (getD_ne h (by decide))), fun h => (c25 (getD_ne h (by decide)))⟩)
      · -- 14
        obtain rfl := c13 (by have hd := ready_deps hi' (o := _) rfl; exact hd ⟨13, .data⟩ (by simp) (by rfl))
        obtain rfl := c10 (by have hd := ready_deps hi' (o := _) rfl; exact hd ⟨10, .guard⟩ (by simp) (by rfl))
        have V := (HJ1.out.below hB).x
        have y1 := V.c1
        clear V
        refine wpOp_step rfl (fun K9 hK9 => ?_)
        have HK : Hid (∀ a w, K' a w → K9 a w) := hK9
        have HK2 : Hid (type_of% hK') := hK'
        clear hK9 hK'
        rw [if_pos (show Region.wanted _ _ = true from rfl)]
        go_simp
        exact HK.out _ _ (HK2.out _ _ ⟨by simp [hls], hB, _, _, _, _, _, _, _, _, _, _, _, _, _, _, _, _, _, _, _, _, _, _, _, _, _, _, rfl, fun h => (c0 (getD_ne h (by decide))), fun h => (c1 (getD_ne h (by decide))), fun h => (c2 (getD_ne h (by decide))), fun h => (c3 (getD_ne h (by decide))), fun h => (c4 (getD_ne h (by decide))), fun h => (c5 (getD_ne h (by decide))), fun h => (c6 (getD_ne h (by decide))), fun h => (c7 (getD_ne h (by decide))), fun h => (c8 (getD_ne h (by decide))), fun h => (c9 (getD_ne h (by decide))), fun h => (c10 (getD_ne h (by decide))), fun h => (c11 (getD_ne h (by decide))), fun h => (c12 (getD_ne h (by decide))), fun h => (c13 (getD_ne h (by decide))), fun _ => rfl, fun h => (c15 (getD_ne h (by decide))), fun h => (c16 (getD_ne h (by decide))), fun h => (c17 (getD_ne h (by decide))), fun h => (c18 (getD_ne h (by decide))), fun h => (c19 (getD_ne h (by decide))), fun h => (c20 (getD_ne h (by decide))), fun h => (c21 (getD_ne h (by decide))), fun h => (c22 (getD_ne h (by decide))), fun h => (c23 (getD_ne h (by decide))), fun h => (c24 (getD_ne h (by decide))), fun h => (c25 (getD_ne h (by decide)))⟩)
      · -- 15
        obtain rfl := c10 (by have hd := ready_deps hi' (o := _) rfl; exact hd ⟨10, .guard⟩ (by simp) (by rfl))
        refine wpOp_step rfl (fun K9 hK9 => ?_)
        have HK : Hid (∀ a w, K' a w → K9 a w) := hK9
        have HK2 : Hid (type_of% hK') := hK'
        clear hK9 hK'
        rw [if_pos (show Region.wanted _ _ = true from rfl)]
        go_simp
        exact HK.out _ _ (HK2.out _ _ ⟨by simp [hls], hB, _, _, _, _, _, _, _, _, _, _, _, _, _, _, _, _, _, _, _, _, _, _, _, _, _, _, rfl, fun h => (c0 (getD_ne h (by decide))), fun h => (c1 (getD_ne h (by decide))), fun h => (c2 (getD_ne h (by decide))), fun h => (c3 (getD_ne h (by decide))), fun h => (c4 (getD_ne h (by decide))), fun h => (c5 (getD_ne h (by decide))), fun h => (c6 (getD_ne h (by decide))), fun h => (c7 (getD_ne h (by decide))), fun h => (c8 (getD_ne h (by decide))), fun h => (c9 (getD_ne h (by decide))), fun h => (c10 (getD_ne h (by decide))), fun h => (c11 (getD_ne h (by decide))), fun h => (c12 (getD_ne h (by decide))), fun h => (c13 (getD_ne h (by decide))), fun h => (c14 (getD_ne h (by decide))), fun _ => rfl, fun h => (c16 (getD_ne h (by decide))), fun h => (c17 (getD_ne h (by decide))), fun h => (c18 (getD_ne h (by decide))), fun h => (c19 (getD_ne h (by decide))), fun h => (c20 (getD_ne h (by decide))), fun h => (c21 (getD_ne h (by decide))), fun h => (c22 (getD_ne h (by decide))), fun h => (c23 (getD_ne h (by decide))), fun h => (c24 (getD_ne h (by decide))), fun h => (c25 (getD_ne h (by decide)))⟩)
      · -- 16
        obtain rfl := c14 (by have hd := ready_deps hi' (o := _) rfl; exact hd ⟨14, .data⟩ (by simp) (by rfl))
        obtain rfl := c15 (by have hd := ready_deps hi' (o := _) rfl; exact hd ⟨15, .data⟩ (by simp) (by rfl))
        obtain rfl := c10 (by have hd := ready_deps hi' (o := _) rfl; exact hd ⟨10, .guard⟩ (by simp) (by rfl))
        refine wpOp_step rfl (fun K9 hK9 => ?_)
        have HK : Hid (∀ a w, K' a w → K9 a w) := hK9
        have HK2 : Hid (type_of% hK') := hK'
        clear hK9 hK'
        rw [if_pos (show Region.wanted _ _ = true from rfl)]
        have hl0 : ¬ ((F.handed.length : Int) < 0) := by omega
        have hl1 : F.handed.length ≤ ci1 := by omega
        have hl2 : (F.handed.length : Int) ≤ (ci1 : Int) := by omega
        go_simp
        exact HK.out _ _ (HK2.out _ _ ⟨by simp [hls], hB, _, _, _, _, _, _, _, _, _, _, _, _, _, _, _, _, _, _, _, _, _, _, _, _, _, _, rfl, fun h => (c0 (getD_ne h (by decide))), fun h => (c1 (getD_ne h (by decide))), fun h => (c2 (getD_ne h (by decide))), fun h => (c3 (getD_ne h (by decide))), fun h => (c4 (getD_ne h (by decide))), fun h => (c5 (getD_ne h (by decide))), fun h => (c6 (getD_ne h (by decide))), fun h => (c7 (getD_ne h (by decide))), fun h => (c8 (getD_ne h (by decide))), fun h => (c9 (getD_ne h (by decide))), fun h => (c10 (getD_ne h (by decide))), fun h => (c11 (getD_ne h (by decide))), fun h => (c12 (getD_ne h (by decide))), fun h => (c13 (getD_ne h (by decide))), fun h => (c14 (getD_ne h (by decide))), fun h => (c15 (getD_ne h (by decide))), fun _ => rfl, fun h => (c17 (getD_ne h (by decide))), fun h => (c18 (getD_ne h (by decide))), fun h => (c19 (getD_ne h (by decide))), fun h => (c20 (getD_ne h (by decide))), fun h => (c21 (getD_ne h (by decide))), fun h => (c22 (getD_ne h (by decide))), fun h => (c23 (getD_ne h (by decide))), fun h => (c24 (getD_ne h (by decide))), fun h => (c25 (getD_ne h (by decide)))⟩)
      · -- 17
        obtain rfl := c12 (by have hd := ready_deps hi' (o := _) rfl; exact hd ⟨12, .data⟩ (by simp) (by rfl))
        obtain rfl := c16 (by have hd := ready_deps hi' (o := _) rfl; exact hd ⟨16, .data⟩ (by simp) (by rfl))
        obtain rfl := c10 (by have hd := ready_deps hi' (o := _) rfl; exact hd ⟨10, .chain⟩ (by simp) (by rfl))
        refine wpOp_step rfl (fun K9 hK9 => ?_)
        have HK : Hid (∀ a w, K' a w → K9 a w) := hK9
        have HK2 : Hid (type_of% hK') := hK'
        clear hK9 hK'
        rw [if_pos (show Region.wanted _ _ = true from rfl)]
        have CC := CST.out W hB
        go_simp
        go_at_call 42
        refine CC.mono ?_
        rintro r W9 ⟨rfl, hb⟩
        (try go_simp)
        exact HK.out _ _ (HK2.out _ _ ⟨by simp [hls], hB.trans (hb.mono hsz), _, _, _, _, _, _, _, _, _, _, _, _, _, _, _, _, _, _, _, _, _, _, _, _, _, _, rfl, fun h => (c0 (getD_ne h (by decide))), fun h => (c1 (getD_ne h (by decide))), fun h => (c2 (getD_ne h (by decide))), fun h => (c3 (getD_ne h (by decide))), fun h => (c4 (getD_ne h (by decide))), fun h => (c5 (getD_ne h (by decide))), fun h => (c6 (getD_ne h (by decide))), fun h => (c7 (getD_ne h (by decide))), fun h => (c8 (getD_ne h (by decide))), fun h => (c9 (getD_ne h (by decide))), fun h => (c10 (getD_ne h (by decide))), fun h => (c11 (getD_ne h (by decide))), fun h => (c12 (getD_ne h (by decide))), fun h => (c13 (getD_ne h (by decide))), fun h => (c14 (getD_ne h (by decide))), fun h => (c15 (getD_ne h (by decide))), fun h => (c16 (getD_ne h (by decide))), fun _ => rfl, fun h => (c18 (getD_ne h (by decide))), fun h => (c19 (getD_ne h (by decide))), fun h => (c20 (getD_ne h (by decide))), fun h => (c21 (getD_ne h (by decide))), fun h => (c22 (getD_ne h (by decide))), fun h => (c23 (getD_ne h (by decide))), fun h => (c24 (getD_ne h (by decide))), fun h => (c25 (getD_ne h (by decide)))⟩)
      · -- 18
        obtain rfl := c17 (by have hd := ready_deps hi' (o := _) rfl; exact hd ⟨17, .data⟩ (by simp) (by rfl))
        obtain rfl := c10 (by have hd := ready_deps hi' (o := _) rfl; exact hd ⟨10, .guard⟩ (by simp) (by rfl))
        refine wpOp_step rfl (fun K9 hK9 => ?_)
        have HK : Hid (∀ a w, K' a w → K9 a w) := hK9
        have HK2 : Hid (type_of% hK') := hK'
        clear hK9 hK'
        rw [if_pos (show Region.wanted _ _ = true from rfl)]
        go_simp
        exact HK.out _ _ (HK2.out _ _ ⟨by simp [hls], hB, _, _, _, _, _, _, _, _, _, _, _, _, _, _, _, _, _, _, _, _, _, _, _, _, _, _, rfl, fun h => (c0 (getD_ne h (by decide))), fun h => (c1 (getD_ne h (by decide))), fun h => (c2 (getD_ne h (by decide))), fun h => (c3 (getD_ne h (by decide))), fun h => (c4 (getD_ne h (by decide))), fun h => (c5 (getD_ne h (by decide))), fun h => (c6 (getD_ne h (by decide))), fun h => (c7 (getD_ne h (by decide))), fun h => (c8 (getD_ne h (by decide))), fun h => (c9 (getD_ne h (by decide))), fun h => (c10 (getD_ne h (by decide))), fun h => (c11 (getD_ne h (by decide))), fun h => (c12 (getD_ne h (by decide))), fun h => (c13 (getD_ne h (by decide))), fun h => (c14 (getD_ne h (by decide))), fun h => (c15 (getD_ne h (by decide))), fun h => (c16 (getD_ne h (by decide))), fun h => (c17 (getD_ne h (by decide))), fun _ => rfl, fun h => (c19 (getD_ne h (by decide))), fun h => (c20 (getD_ne h (by decide))), fun h => (c21 (getD_ne h (by decide))), fun h => (c22 (getD_ne h (by decide))), fun h => (c23 (getD_ne h (by decide))), fun h => (c24 (getD_ne h (by decide))), fun h => (c25 (getD_ne h (by decide)))⟩)
      · -- 19
        obtain rfl := c10 (by have hd := ready_deps hi' (o := _) rfl; exact hd ⟨10, .data⟩ (by simp) (by rfl))
        obtain rfl := c18 (by have hd := ready_deps hi' (o := _) rfl; exact hd ⟨18, .data⟩ (by simp) (by rfl))
        refine wpOp_step rfl (fun K9 hK9 => ?_)
        have HK : Hid (∀ a w, K' a w → K9 a w) := hK9
        have HK2 : Hid (type_of% hK') := hK'
        clear hK9 hK'
        go_simp
        exact HK.out _ _ (HK2.out _ _ ⟨by simp [hls], hB, _, _, _, _, _, _, _, _, _, _, _, _, _, _, _, _, _, _, _, _, _, _, _, _, _, _, rfl, fun h => (c0 (getD_ne h (by decide))), fun h => (c1 (getD_ne h (by decide))), fun h => (c2 (getD_ne h (by decide))), fun h => (c3 (getD_ne h (by decide))), fun h => (c4 (getD_ne h (by decide))), fun h => (c5 (getD_ne h (by decide))), fun h => (c6 (getD_ne h (by decide))), fun h => (c7 (getD_ne h (by decide))), fun h => (c8 (getD_ne h (by decide))), fun h => (c9 (getD_ne h (by decide))), fun h => (c10 (getD_ne h (by decide))), fun h => (c11 (getD_ne h (by decide))), fun h => (c12 (getD_ne h (by decide))), fun h => (c13 (getD_ne h (by decide))), fun h => (c14 (getD_ne h (by decide))), fun h => (c15 (getD_ne h (by decide))), fun h => (c16 (getD_ne h (by decide))), fun h => (c17 (getD_ne h (by decide))), fun h => (c18 (getD_ne h (by decide))), fun _ => rfl, fun h => (c20 (getD_ne h (by decide))), fun h => (c21 (getD_ne h (by decide))), fun h => (c22 (getD_ne h (by decide))), fun h => (c23 (getD_ne h (by decide))), fun h => (c24 (getD_ne h (by decide))), fun h => (c25 (getD_ne h (by decide)))⟩)
      · -- 20
        obtain rfl := c19 (by have hd := ready_deps hi' (o := _) rfl; exact hd ⟨19, .data⟩ (by simp) (by rfl))
        obtain rfl := c17 (by have hd := ready_deps hi' (o := _) rfl; exact hd ⟨17, .chain⟩ (by simp) (by rfl))
        refine wpOp_step rfl (fun K9 hK9 => ?_)
        have HK : Hid (∀ a w, K' a w → K9 a w) := hK9
        have HK2 : Hid (type_of% hK') := hK'
        clear hK9 hK'
        go_simp
        exact HK.out _ _ (HK2.out _ _ ⟨by simp [hls], hB, _, _, _, _, _, _, _, _, _, _, _, _, _, _, _, _, _, _, _, _, _, _, _, _, _, _, rfl, fun h => (c0 (getD_ne h (by decide))), fun h => (c1 (getD_ne h (by decide))), fun h => (c2 (getD_ne h (by decide))), fun h => (c3 (getD_ne h (by decide))), fun h => (c4 (getD_ne h (by decide))), fun h => (c5 (getD_ne h (by decide))), fun h => (c6 (getD_ne h (by decide))), fun h => (c7 (getD_ne h (by decide))), fun h => (c8 (getD_ne h (by decide))), fun h => (c9 (getD_ne h (by decide))), fun h => (c10 (getD_ne h (by decide))), fun h => (c11 (getD_ne h (by decide))), fun h => (c12 (getD_ne h (by decide))), fun h => (c13 (getD_ne h (by decide))), fun h => (c14 (getD_ne h (by decide))), fun h => (c15 (getD_ne h (by decide))), fun h => (c16 (getD_ne h (by decide))), fun h => (c17 (getD_ne h (by decide))), fun h => (c18 (getD_ne h (by decide))), fun h => (c19 (getD_ne h (by decide))), fun _ => rfl, fun h => (c21 (getD_ne h (by decide))), fun h => (c22 (getD_ne h (by decide))), fun h => (c23 (getD_ne h (by decide))), fun h => (c24 (getD_ne h (by decide))), fun h => (c25 (getD_ne h (by decide)))⟩)
      · -- 21
        obtain rfl := c20 (by have hd := ready_deps hi' (o := _) rfl; exact hd ⟨20, .guard⟩ (by simp) (by rfl))
        refine wpOp_step rfl (fun K9 hK9 => ?_)
        have HK : Hid (∀ a w, K' a w → K9 a w) := hK9
        have HK2 : Hid (type_of% hK') := hK'
        clear hK9 hK'
        rw [if_pos (show Region.wanted _ _ = true from rfl)]
        go_simp
        exact HK.out _ _ (HK2.out _ _ ⟨by simp [hls], hB, _, _, _, _, _, _, _, _, _, _, _, _, _, _, _, _, _, _, _, _, _, _, _, _, _, _, rfl, fun h => (c0 (getD_ne h (by decide))), fun h => (c1 (getD_ne h (by decide))), fun h => (c2 (getD_ne h (by decide))), fun h => (c3 (getD_ne h (by decide))), fun h => (c4 (getD_ne h (by decide))), fun h => (c5 (getD_ne h (by decide))), fun h => (c6 (getD_ne h (by decide))), fun h => (c7 (getD_ne h (by decide))), fun h => (c8 (getD_ne h (by decide))), fun h => (c9 (getD_ne h (by decide))), fun h => (c10 (getD_ne h (by decide))), fun h => (c11 (getD_ne h (by decide))), fun h => (c12 (getD_ne h (by decide))), fun h => (c13 (getD_ne h (by decide))), fun h => (c14 (getD_ne h (by decide))), fun h => (c15 (getD_ne h (by decide))), fun h => (c16 (getD_ne h (by decide))), fun h => (c17 (getD_ne h (by decide))), fun h => (c18 (getD_ne h (by decide))), fun h => (c19 (getD_ne h (by decide))), fun h => (c20 (getD_ne h (by decide))), fun _ => rfl, fun h => (c22 (getD_ne h (by decide))), fun h => (c23 (getD_ne h (by decide))), fun h => (c24 (getD_ne h (by decide))), fun h => (c25 (getD_ne h (by decide)))⟩)
      · -- 22
        obtain rfl := c21 (by have hd := ready_deps hi' (o := _) rfl; exact hd ⟨21, .data⟩ (by simp) (by rfl))
        obtain rfl := c20 (by have hd := ready_deps hi' (o := _) rfl; exact hd ⟨20, .guard⟩ (by simp) (by rfl))
        have V := (HJ1.out.below hB).x
        have y2 := V.c2
        clear V
        refine wpOp_step rfl (fun K9 hK9 => ?_)
        have HK : Hid (∀ a w, K' a w → K9 a w) := hK9
        have HK2 : Hid (type_of% hK') := hK'
        clear hK9 hK'
        rw [if_pos (show Region.wanted _ _ = true from rfl)]
        go_simp
        exact HK.out _ _ (HK2.out _ _ ⟨by simp [hls], hB, _, _, _, _, _, _, _, _, _, _, _, _, _, _, _, _, _, _, _, _, _, _, _, _, _, _, rfl, fun h => (c0 (getD_ne h (by decide))), fun h => (c1 (getD_ne h (by decide))), fun h => (c2 (getD_ne h (by decide))), fun h => (c3 (getD_ne h (by decide))), fun h => (c4 (getD_ne h (by decide))), fun h => (c5 (getD_ne h (by decide))), fun h => (c6 (getD_ne h (by decide))), fun h => (c7 (getD_ne h (by decide))), fun h => (c8 (getD_ne h (by decide))), fun h => (c9 (getD_ne h (by decide))), fun h => (c10 (getD_ne h (by decide))), fun h => (c11 (getD_ne h (by decide))), fun h => (c12 (getD_ne h (by decide))), fun h => (c13 (getD_ne h (by decide))), fun h => (c14 (getD_ne h (by decide))), fun h => (c15 (getD_ne h (by decide))), fun h => (c16 (getD_ne h (by decide))), fun h => (c17 (getD_ne h (by decide))), fun h => (c18 (getD_ne h (by decide))), fun h => (c19 (getD_ne h (by decide))), fun h => (c20 (getD_ne h (by decide))), fun h => (c21 (getD_ne h (by decide))), fun _ => rfl, fun h => (c23 (getD_ne h (by decide))), fun h => (c24 (getD_ne h (by decide))), fun h => (c25 (getD_ne h (by decide)))⟩)
      · -- 23
        obtain rfl := c20 (by have hd := ready_deps hi' (o := _) rfl; exact hd ⟨20, .guard⟩ (by simp) (by rfl))
        refine wpOp_step rfl (fun K9 hK9 => ?_)
        have HK : Hid (∀ a w, K' a w → K9 a w) := hK9
        have HK2 : Hid (type_of% hK') := hK'
        clear hK9 hK'
        rw [if_pos (show Region.wanted _ _ = true from rfl)]
        go_simp
        exact HK.out _ _ (HK2.out _ _ ⟨by simp [hls], hB, _, _, _, _, _, _, _, _, _, _, _, _, _, _, _, _, _, _, _, _, _, _, _, _, _, _, rfl, fun h => (c0 (getD_ne h (by decide))), fun h => (c1 (getD_ne h (by decide))), fun h => (c2 (getD_ne h (by decide))), fun h => (c3 (getD_ne h (by decide))), fun h => (c4 (getD_ne h (by decide))), fun h => (c5 (getD_ne h (by decide))), fun h => (c6 (getD_ne h (by decide))), fun h => (c7 (getD_ne h (by decide))), fun h => (c8 (getD_ne h (by decide))), fun h => (c9 (getD_ne h (by decide))), fun h => (c10 (getD_ne h (by decide))), fun h => (c11 (getD_ne h (by decide))), fun h => (c12 (getD_ne h (by decide))), fun h => (c13 (getD_ne h (by decide))), fun h => (c14 (getD_ne h (by decide))), fun h => (c15 (getD_ne h (by decide))), fun h => (c16 (getD_ne h (by decide))), fun h => (c17 (getD_ne h (by decide))), fun h => (c18 (getD_ne h (by decide))), fun h => (c19 (getD_ne h (by decide))), fun h => (c20 (getD_ne h (by decide))), fun h => (c21 (getD_ne h (by decide))), fun h => (c22 (getD_ne h (by decide))), fun _ => rfl, fun h => (c24 (getD_ne h (by decide))), fun h => (c25 (getD_ne h (by decide)))⟩)
      · -- 24
        obtain rfl := c22 (by have hd := ready_deps hi' (o := _) rfl; exact hd ⟨22, .data⟩ (by simp) (by rfl))
        obtain rfl := c23 (by have hd := ready_deps hi' (o := _) rfl; exact hd ⟨23, .data⟩ (by simp) (by rfl))
        obtain rfl := c20 (by have hd := ready_deps hi' (o := _) rfl; exact hd ⟨20, .guard⟩ (by simp) (by rfl))
        refine wpOp_step rfl (fun K9 hK9 => ?_)
        have HK : Hid (∀ a w, K' a w → K9 a w) := hK9
        have HK2 : Hid (type_of% hK') := hK'
        clear hK9 hK'
        rw [if_pos (show Region.wanted _ _ = true from rfl)]
        go_simp
        exact HK.out _ _ (HK2.out _ _ ⟨by simp [hls], hB, _, _, _, _, _, _, _, _, _, _, _, _, _, _, _, _, _, _, _, _, _, _, _, _, _, _, rfl, fun h => (c0 (getD_ne h (by decide))), fun h => (c1 (getD_ne h (by decide))), fun h => (c2 (getD_ne h (by decide))), fun h => (c3 (getD_ne h (by decide))), fun h => (c4 (getD_ne h (by decide))), fun h => (c5 (getD_ne h (by decide))), fun h => (c6 (getD_ne h (by decide))), fun h => (c7 (getD_ne h (by decide))), fun h => (c8 (getD_ne h (by decide))), fun h => (c9 (getD_ne h (by decide))), fun h => (c10 (getD_ne h (by decide))), fun h => (c11 (getD_ne h (by decide))), fun h => (c12 (getD_ne h (by decide))), fun h => (c13 (getD_ne h (by decide))), fun h => (c14 (getD_ne h (by decide))), fun h => (c15 (getD_ne h (by decide))), fun h => (c16 (getD_ne h (by decide))), fun h => (c17 (getD_ne h (by decide))), fun h => (c18 (getD_ne h (by decide))), fun h => (c19 (getD_ne h (by decide))), fun h => (c20 (getD_ne h (by decide))), fun h => (c21 (getD_ne h (by decide))), fun h => (c22 (getD_ne h (by decide))), fun h => (c23 (getD_ne h (by decide))), fun _ => rfl, fun h => (c25 (getD_ne h (by decide)))⟩)
      · -- 25
        obtain rfl := c20 (by have hd := ready_deps hi' (o := _) rfl; exact hd ⟨20, .data⟩ (by simp) (by rfl))
        obtain rfl := c24 (by have hd := ready_deps hi' (o := _) rfl; exact hd ⟨24, .data⟩ (by simp) (by rfl))
        refine wpOp_step rfl (fun K9 hK9 => ?_)
        have HK : Hid (∀ a w, K' a w → K9 a w) := hK9
        have HK2 : Hid (type_of% hK') := hK'
        clear hK9 hK'
        go_simp
        exact HK.out _ _ (HK2.out _ _ ⟨by simp [hls], hB, _, _, _, _, _, _, _, _, _, _, _, _, _, _, _, _, _, _, _, _, _, _, _, _, _, _, rfl, fun h => (c0 (getD_ne h (by decide))), fun h => (c1 (getD_ne h (by decide))), fun h => (c2 (getD_ne h (by decide))), fun h => (c3 (getD_ne h (by decide))), fun h => (c4 (getD_ne h (by decide))), fun h => (c5 (getD_ne h (by decide))), fun h => (c6 (getD_ne h (by decide))), fun h => (c7 (getD_ne h (by decide))), fun h => (c8 (getD_ne h (by decide))), fun h => (c9 (getD_ne h (by decide))), fun h => (c10 (getD_ne h (by decide))), fun h => (c11 (getD_ne h (by decide))), fun h => (c12 (getD_ne h (by decide))), fun h => (c13 (getD_ne h (by decide))), fun h => (c14 (getD_ne h (by decide))), fun h => (c15 (getD_ne h (by decide))), fun h => (c16 (getD_ne h (by decide))), fun h => (c17 (getD_ne h (by decide))), fun h => (c18 (getD_ne h (by decide))), fun h => (c19 (getD_ne h (by decide))), fun h => (c20 (getD_ne h (by decide))), fun h => (c21 (getD_ne h (by decide))), fun h => (c22 (getD_ne h (by decide))), fun h => (c23 (getD_ne h (by decide))), fun h => (c24 (getD_ne h (by decide))), fun _ => rfl⟩)
    case finA =>
      intro lb a w6 hI h0
      obtain ⟨hls, hB, u62, u63, u64, u65, u66, u67, u68, u69, u70, u71, u72, u73, u74, u75, u76, u77, u78, u79, u80, u81, u82, u83, u84, u85, u86, u87, rfl, c0, c1, c2, c3, c4, c5, c6, c7, c8, c9, c10, c11, c12, c13, c14, c15, c16, c17, c18, c19, c20, c21, c22, c23, c24, c25⟩ := hI
      have b0 : lb.getD 0 false = true := listed_ofB4 h0 0 _ (by omega) rfl (by intro e he hbd; first | (simp at he; done) | skip; simp at he; (repeat (rcases he with rfl | he; · first | assumption | exact absurd hbd (by decide))); all_goals (subst he; first | assumption | exact absurd hbd (by decide)))
      have b1 : lb.getD 1 false = true := listed_ofB4 h0 1 _ (by omega) rfl (by intro e he hbd; first | (simp at he; done) | skip; simp at he; (repeat (rcases he with rfl | he; · first | assumption | exact absurd hbd (by decide))); all_goals (subst he; first | assumption | exact absurd hbd (by decide)))
      have b2 : lb.getD 2 false = true := listed_ofB4 h0 2 _ (by omega) rfl (by intro e he hbd; first | (simp at he; done) | skip; simp at he; (repeat (rcases he with rfl | he; · first | assumption | exact absurd hbd (by decide))); all_goals (subst he; first | assumption | exact absurd hbd (by decide)))
      have b3 : lb.getD 3 false = true := listed_ofB4 h0 3 _ (by omega) rfl (by intro e he hbd; first | (simp at he; done) | skip; simp at he; (repeat (rcases he with rfl | he; · first | assumption | exact absurd hbd (by decide))); all_goals (subst he; first | assumption | exact absurd hbd (by decide)))
      have b4 : lb.getD 4 false = true := listed_ofB4 h0 4 _ (by omega) rfl (by intro e he hbd; first | (simp at he; done) | skip; simp at he; (repeat (rcases he with rfl | he; · first | assumption | exact absurd hbd (by decide))); all_goals (subst he; first | assumption | exact absurd hbd (by decide)))
      have b5 : lb.getD 5 false = true := listed_ofB4 h0 5 _ (by omega) rfl (by intro e he hbd; first | (simp at he; done) | skip; simp at he; (repeat (rcases he with rfl | he; · first | assumption | exact absurd hbd (by decide))); all_goals (subst he; first | assumption | exact absurd hbd (by decide)))
      have b6 : lb.getD 6 false = true := listed_ofB4 h0 6 _ (by omega) rfl (by intro e he hbd; first | (simp at he; done) | skip; simp at he; (repeat (rcases he with rfl | he; · first | assumption | exact absurd hbd (by decide))); all_goals (subst he; first | assumption | exact absurd hbd (by decide)))
      have b7 : lb.getD 7 false = true := listed_ofB4 h0 7 _ (by omega) rfl (by intro e he hbd; first | (simp at he; done) | skip; simp at he; (repeat (rcases he with rfl | he; · first | assumption | exact absurd hbd (by decide))); all_goals (subst he; first | assumption | exact absurd hbd (by decide)))
      have b8 : lb.getD 8 false = true := listed_ofB4 h0 8 _ (by omega) rfl (by intro e he hbd; first | (simp at he; done) | skip; simp at he; (repeat (rcases he with rfl | he; · first | assumption | exact absurd hbd (by decide))); all_goals (subst he; first | assumption | exact absurd hbd (by decide)))
      have b9 : lb.getD 9 false = true := listed_ofB4 h0 9 _ (by omega) rfl (by intro e he hbd; first | (simp at he; done) | skip; simp at he; (repeat (rcases he with rfl | he; · first | assumption | exact absurd hbd (by decide))); all_goals (subst he; first | assumption | exact absurd hbd (by decide)))
      have b10 : lb.getD 10 false = true := listed_ofB4 h0 10 _ (by omega) rfl (by intro e he hbd; first | (simp at he; done) | skip; simp at he; (repeat (rcases he with rfl | he; · first | assumption | exact absurd hbd (by decide))); all_goals (subst he; first | assumption | exact absurd hbd (by decide)))
      have b11 : lb.getD 11 false = true := listed_ofB4 h0 11 _ (by omega) rfl (by intro e he hbd; first | (simp at he; done) | skip; simp at he; (repeat (rcases he with rfl | he; · first | assumption | exact absurd hbd (by decide))); all_goals (subst he; first | assumption | exact absurd hbd (by decide)))
      have b12 : lb.getD 12 false = true := listed_ofB4 h0 12 _ (by omega) rfl (by intro e he hbd; first | (simp at he; done) | skip; simp at he; (repeat (rcases he with rfl | he; · first | assumption | exact absurd hbd (by decide))); all_goals (subst he; first | assumption | exact absurd hbd (by decide)))
      have b13 : lb.getD 13 false = true := listed_ofB4 h0 13 _ (by omega) rfl (by intro e he hbd; first | (simp at he; done) | skip; simp at he; (repeat (rcases he with rfl | he; · first | assumption | exact absurd hbd (by decide))); all_goals (subst he; first | assumption | exact absurd hbd (by decide)))
      have b14 : lb.getD 14 false = true := listed_ofB4 h0 14 _ (by omega) rfl (by intro e he hbd; first | (simp at he; done) | skip; simp at he; (repeat (rcases he with rfl | he; · first | assumption | exact absurd hbd (by decide))); all_goals (subst he; first | assumption | exact absurd hbd (by decide)))
      have b15 : lb.getD 15 false = true := listed_ofB4 h0 15 _ (by omega) rfl (by intro e he hbd; first | (simp at he; done) | skip; simp at he; (repeat (rcases he with rfl | he; · first | assumption | exact absurd hbd (by decide))); all_goals (subst he; first | assumption | exact absurd hbd (by decide)))
      have b16 : lb.getD 16 false = true := listed_ofB4 h0 16 _ (by omega) rfl (by intro e he hbd; first | (simp at he; done) | skip; simp at he; (repeat (rcases he with rfl | he; · first | assumption | exact absurd hbd (by decide))); all_goals (subst he; first | assumption | exact absurd hbd (by decide)))
      have b17 : lb.getD 17 false = true := listed_ofB4 h0 17 _ (by omega) rfl (by intro e he hbd; first | (simp at he; done) | skip; simp at he; (repeat (rcases he with rfl | he; · first | assumption | exact absurd hbd (by decide))); all_goals (subst he; first | assumption | exact absurd hbd (by decide)))
      have b18 : lb.getD 18 false = true := listed_ofB4 h0 18 _ (by omega) rfl (by intro e he hbd; first | (simp at he; done) | skip; simp at he; (repeat (rcases he with rfl | he; · first | assumption | exact absurd hbd (by decide))); all_goals (subst he; first | assumption | exact absurd hbd (by decide)))
      have b19 : lb.getD 19 false = true := listed_ofB4 h0 19 _ (by omega) rfl (by intro e he hbd; first | (simp at he; done) | skip; simp at he; (repeat (rcases he with rfl | he; · first | assumption | exact absurd hbd (by decide))); all_goals (subst he; first | assumption | exact absurd hbd (by decide)))
      have b20 : lb.getD 20 false = true := listed_ofB4 h0 20 _ (by omega) rfl (by intro e he hbd; first | (simp at he; done) | skip; simp at he; (repeat (rcases he with rfl | he; · first | assumption | exact absurd hbd (by decide))); all_goals (subst he; first | assumption | exact absurd hbd (by decide)))
      have b21 : lb.getD 21 false = true := listed_ofB4 h0 21 _ (by omega) rfl (by intro e he hbd; first | (simp at he; done) | skip; simp at he; (repeat (rcases he with rfl | he; · first | assumption | exact absurd hbd (by decide))); all_goals (subst he; first | assumption | exact absurd hbd (by decide)))
      have b22 : lb.getD 22 false = true := listed_ofB4 h0 22 _ (by omega) rfl (by intro e he hbd; first | (simp at he; done) | skip; simp at he; (repeat (rcases he with rfl | he; · first | assumption | exact absurd hbd (by decide))); all_goals (subst he; first | assumption | exact absurd hbd (by decide)))
      have b23 : lb.getD 23 false = true := listed_ofB4 h0 23 _ (by omega) rfl (by intro e he hbd; first | (simp at he; done) | skip; simp at he; (repeat (rcases he with rfl | he; · first | assumption | exact absurd hbd (by decide))); all_goals (subst he; first | assumption | exact absurd hbd (by decide)))
      have b24 : lb.getD 24 false = true := listed_ofB4 h0 24 _ (by omega) rfl (by intro e he hbd; first | (simp at he; done) | skip; simp at he; (repeat (rcases he with rfl | he; · first | assumption | exact absurd hbd (by decide))); all_goals (subst he; first | assumption | exact absurd hbd (by decide)))
      have b25 : lb.getD 25 false = true := listed_ofB4 h0 25 _ (by omega) rfl (by intro e he hbd; first | (simp at he; done) | skip; simp at he; (repeat (rcases he with rfl | he; · first | assumption | exact absurd hbd (by decide))); all_goals (subst he; first | assumption | exact absurd hbd (by decide)))
      obtain rfl := c0 b0
      obtain rfl := c1 b1
      obtain rfl := c2 b2
      obtain rfl := c3 b3
      obtain rfl := c4 b4
      obtain rfl := c5 b5
      obtain rfl := c6 b6
      obtain rfl := c7 b7
      obtain rfl := c8 b8
      obtain rfl := c9 b9
      obtain rfl := c10 b10
      obtain rfl := c11 b11
      obtain rfl := c12 b12
      obtain rfl := c13 b13
      obtain rfl := c14 b14
      obtain rfl := c15 b15
      obtain rfl := c16 b16
      obtain rfl := c17 b17
      obtain rfl := c18 b18
      obtain rfl := c19 b19
      obtain rfl := c20 b20
      obtain rfl := c21 b21
      obtain rfl := c22 b22
      obtain rfl := c23 b23
      obtain rfl := c24 b24
      obtain rfl := c25 b25
      clear b0 b1 b2 b3 b4 b5 b6 b7 b8 b9 b10 b11 b12 b13 b14 b15 b16 b17 b18 b19 b20 b21 b22 b23 b24 b25 h0 hls CGD CST HI0
      (try dsimp only)
      have HJ1 : Hid (SvJ w w6 N1 F (.slice ai1 F.items.length ci1) (.slice ah1 F.handed.length ch1) (.slice aw1 F.way.length cw1) (.slice aa1 F.acks.length ca1)) := HJ1.out.below hB
      clear hB hd1 hd1n hd2
      have CP := implPend F _ _ _ _ w6 HJ1.out.sa HSH.out
      unfold PnO Ses.val at CP
      rw [HGS.out, show pnL F = F.items.drop F.handed.length by unfold pnL; rw [if_pos HGS.out]] at CP
      obtain ⟨L, hL⟩ : ∃ L, L = F.items.drop F.handed.length := ⟨_, rfl⟩
      rw [← hL] at CP
      have HL : Hid (L = F.items.drop F.handed.length) := hL
      clear hL
      have y0 := HJ1.out.x.c0
      have y1 := HJ1.out.x.c1
      have y2 := HJ1.out.x.c2
      have y3 := HJ1.out.x.c3
      have y4 := HJ1.out.x.c4
      have y5 := HJ1.out.x.c5
      go_wp2_with fail
      go_at_call 21
      refine CP.mono ?_
      rintro e w7 ⟨vp, rfl, hr, hb⟩
      have HJ1 : Hid (SvJ w w7 N1 F (.slice ai1 F.items.length ci1) (.slice ah1 F.handed.length ch1) (.slice aw1 F.way.length cw1) (.slice aa1 F.acks.length ca1)) := HJ1.out.below hb
      have HP7 : Hid (StAt w7 w7.heap.size vp L) := StAt.own hr
      obtain ⟨ap, cp, rfl⟩ := StRow.slice hr
      clear hr hb CP y0 y1 y2 y3 y4 y5
      have HDD : Hid (∀ aq, (F.handed.length < F.items.length → ∀ g o, ai1 = some ⟨g, o, none⟩ → aq = some ⟨g, o + F.handed.length, none⟩) → StAt w7 w7.heap.size (.slice aq (F.items.length - F.handed.length) (ci1 - F.handed.length)) L) := fun aq h => by rw [HL.out]; exact StAt.drop HJ1.out.sa.i hhl aq h
      have hniI : (F.handed.length : Int) ≤ (F.items.length : Int) := by omega
      have hdl : L.length ≤ 2097152 := by rw [HL.out, List.length_drop]; omega
      have HCS : Hid (∀ v2, StAt w7 w7.heap.size v2 L → Calls Try.prog 42 #[.slice ap L.length cp, v2] w7 fun e w' => e = .returned (.bool true) ∧ Below w7.heap.size w7 w') := fun v2 h => sameTextsS_same _ _ _ w7 HP7.out h hdl
      have HCL : Hid (∃ ep, (clm F).1 = ⟨ep, F.items, (F.items.length : Int), F.items, [], []⟩) := clm_all HG.out
      have HCC : Hid (∀ W, Below w7.heap.size w7 W → Calls Try.prog 39 #[.agg #[.int .i64 F.ep, .slice ai1 F.items.length ci1, .int .i64 F.base, .slice ah1 F.handed.length ch1, .slice aw1 F.way.length cw1, .slice aa1 F.acks.length ca1]] W fun e w' => CmO W w' e F) := fun W hW => implCalmS F _ _ _ _ W (HJ1.out.below hW).sa HSH.out
      clear hdl HP7
      have z1 := HJ1.out.x.c1
      by_cases hck : ci1 = F.handed.length
      · have hD1 := HDD.out ai1 (fun hlt => by omega)
        rw [show F.items.length - F.handed.length = 0 by omega, show ci1 - F.handed.length = 0 by omega] at hD1
        have CT := HCS.out _ hD1
        clear hD1 HDD HCS
        subst hck
        go_wp2_with fail
        go_at_call 42
        refine CT.mono ?_
        rintro e w8 ⟨rfl, hb⟩
        have HB8 : Hid (Below w7.heap.size w7 w8) := hb
        have HJ1 : Hid (type_of% (HJ1.out.below hb)) := HJ1.out.below hb
        have CC := HCC.out w8 hb
        clear hb CT
        have y0 := HJ1.out.x.c0
        have y1 := HJ1.out.x.c1
        have y2 := HJ1.out.x.c2
        have y3 := HJ1.out.x.c3
        have y4 := HJ1.out.x.c4
        have y5 := HJ1.out.x.c5
        unfold CmO at CC
        rw [HGS.out, show cmS F = (clm F).1 by unfold cmS; rw [if_pos HGS.out]] at CC
        obtain ⟨ep, hep⟩ := HCL.out
        rw [hep] at CC
        unfold SesOut at CC
        dsimp only at CC
        simp only [List.length_nil] at CC
        clear hep HCL HCC
        go_wp2_with fail
        go_at_call 39
        refine CC.mono ?_
        rintro e w9 ⟨ai3, ci3, ah3, ch3, aw3, cw3, aa3, ca3, rfl, hr, hb⟩
        obtain ⟨W9, hW9⟩ : ∃ X, X = w9.alloc (.cells #[.int .i64 ep, .slice ai3 F.items.length ci3, .int .i64 (F.items.length : Int), .slice ah3 F.items.length ch3, .slice aw3 0 cw3, .slice aa3 0 ca3] 26) := ⟨_, rfl⟩
        have hB9 : Below w8.heap.size w8 W9 := by rw [hW9]; exact hb.alloc hb.size _
        have HJ1 : Hid (type_of% (HJ1.out.below hB9)) := HJ1.out.below hB9
        have HV9 : Hid (Sv W9 w9.heap.size (.int .i64 ep) (.slice ai3 F.items.length ci3) (.int .i64 (F.items.length : Int)) (.slice ah3 F.items.length ch3) (.slice aw3 0 cw3) (.slice aa3 0 ca3)) := by
          show Sv _ _ _ _ _ _ _ _
          rw [hW9]
          exact Sv.fresh w9 _ _ _ _ _ _ _
        have hsa := hr.h
        have HTA : Hid (StAt W9 W9.heap.size (.slice ah3 F.items.length ch3) F.items) := by
          show StAt _ _ _ _
          rw [hW9]
          exact (StAt.own hsa).below ((Below.refl _ w9).alloc (Nat.le_refl _) _)
        have CT := sameTextsS_same F.items _ _ W9 HTA.out HJ1.out.sa.i (by omega)
        clear hr hb hsa hB9 CC y0 y1 y2 y3 y4 y5
        have y0 := HV9.out.c0
        have y1 := HV9.out.c1
        have y2 := HV9.out.c2
        have y3 := HV9.out.c3
        have y4 := HV9.out.c4
        have y5 := HV9.out.c5
        have z0 := HJ1.out.x.c0
        have z1 := HJ1.out.x.c1
        have z2 := HJ1.out.x.c2
        have z3 := HJ1.out.x.c3
        have z4 := HJ1.out.x.c4
        have z5 := HJ1.out.x.c5
        go_upto_region 17 with fail
        rw [← hW9]
        clear hW9
        go_wp2_with fail
        go_at_call 42
        refine CT.mono ?_
        rintro e w10 ⟨rfl, hb⟩
        clear y0 z0 y1 z1 y2 z2 y3 z3 y4 z4 y5 z5
        have HV10 := HV9.out.below hb
        have HVX : Hid (type_of% HV10) := HV10
        have y0 := HV10.c0
        have y1 := HV10.c1
        have y2 := HV10.c2
        have y3 := HV10.c3
        have y4 := HV10.c4
        have y5 := HV10.c5
        have HJX := HJ1.out.below hb
        have HJY : Hid (type_of% HJX) := HJX
        have z0 := HJX.x.c0
        have z1 := HJX.x.c1
        have z2 := HJX.x.c2
        have z3 := HJX.x.c3
        have z4 := HJX.x.c4
        have z5 := HJX.x.c5
        clear hb HV10 HJX
        go_wp2_with fail
        go_ret
        exact ⟨by first | rfl | simp, HJY.out.b⟩
      · have CT := HCS.out _ (HDD.out (Option.map (fun x => x.add F.handed.length) ai1) (fun hlt g o ha => by subst ha; exact congrArg some (add_row g o _)))
        clear HDD HCS
        go_wp2_with fail
        go_at_call 42
        refine CT.mono ?_
        rintro e w8 ⟨rfl, hb⟩
        have HB8 : Hid (Below w7.heap.size w7 w8) := hb
        have HJ1 : Hid (type_of% (HJ1.out.below hb)) := HJ1.out.below hb
        have CC := HCC.out w8 hb
        clear hb CT
        have y0 := HJ1.out.x.c0
        have y1 := HJ1.out.x.c1
        have y2 := HJ1.out.x.c2
        have y3 := HJ1.out.x.c3
        have y4 := HJ1.out.x.c4
        have y5 := HJ1.out.x.c5
        unfold CmO at CC
        rw [HGS.out, show cmS F = (clm F).1 by unfold cmS; rw [if_pos HGS.out]] at CC
        obtain ⟨ep, hep⟩ := HCL.out
        rw [hep] at CC
        unfold SesOut at CC
        dsimp only at CC
        simp only [List.length_nil] at CC
        clear hep HCL HCC
        go_wp2_with fail
        go_at_call 39
        refine CC.mono ?_
        rintro e w9 ⟨ai3, ci3, ah3, ch3, aw3, cw3, aa3, ca3, rfl, hr, hb⟩
        obtain ⟨W9, hW9⟩ : ∃ X, X = w9.alloc (.cells #[.int .i64 ep, .slice ai3 F.items.length ci3, .int .i64 (F.items.length : Int), .slice ah3 F.items.length ch3, .slice aw3 0 cw3, .slice aa3 0 ca3] 26) := ⟨_, rfl⟩
        have hB9 : Below w8.heap.size w8 W9 := by rw [hW9]; exact hb.alloc hb.size _
        have HJ1 : Hid (type_of% (HJ1.out.below hB9)) := HJ1.out.below hB9
        have HV9 : Hid (Sv W9 w9.heap.size (.int .i64 ep) (.slice ai3 F.items.length ci3) (.int .i64 (F.items.length : Int)) (.slice ah3 F.items.length ch3) (.slice aw3 0 cw3) (.slice aa3 0 ca3)) := by
          show Sv _ _ _ _ _ _ _ _
          rw [hW9]
          exact Sv.fresh w9 _ _ _ _ _ _ _
        have hsa := hr.h
        have HTA : Hid (StAt W9 W9.heap.size (.slice ah3 F.items.length ch3) F.items) := by
          show StAt _ _ _ _
          rw [hW9]
          exact (StAt.own hsa).below ((Below.refl _ w9).alloc (Nat.le_refl _) _)
        have CT := sameTextsS_same F.items _ _ W9 HTA.out HJ1.out.sa.i (by omega)
        clear hr hb hsa hB9 CC y0 y1 y2 y3 y4 y5
        have y0 := HV9.out.c0
        have y1 := HV9.out.c1
        have y2 := HV9.out.c2
        have y3 := HV9.out.c3
        have y4 := HV9.out.c4
        have y5 := HV9.out.c5
        have z0 := HJ1.out.x.c0
        have z1 := HJ1.out.x.c1
        have z2 := HJ1.out.x.c2
        have z3 := HJ1.out.x.c3
        have z4 := HJ1.out.x.c4
        have z5 := HJ1.out.x.c5
        go_upto_region 17 with fail
        rw [← hW9]
        clear hW9
        go_wp2_with fail
        go_at_call 42
        refine CT.mono ?_
        rintro e w10 ⟨rfl, hb⟩
        clear y0 z0 y1 z1 y2 z2 y3 z3 y4 z4 y5 z5
        have HV10 := HV9.out.below hb
        have HVX : Hid (type_of% HV10) := HV10
        have y0 := HV10.c0
        have y1 := HV10.c1
        have y2 := HV10.c2
        have y3 := HV10.c3
        have y4 := HV10.c4
        have y5 := HV10.c5
        have HJX := HJ1.out.below hb
        have HJY : Hid (type_of% HJX) := HJX
        have z0 := HJX.x.c0
        have z1 := HJX.x.c1
        have z2 := HJX.x.c2
        have z3 := HJX.x.c3
        have z4 := HJX.x.c4
        have z5 := HJX.x.c5
        clear hb HV10 HJX
        go_wp2_with fail
        go_ret
        exact ⟨by first | rfl | simp, HJY.out.b⟩

end Go.Proofs.Ytnlppeieccbhgaa
