/- The model's l15Step. -/
import Derived.Test.YtnlppeieccbhgaaSnU
import Derived.Deep.RegionLaw
namespace Go.Proofs.Ytnlppeieccbhgaa
open Go.RowKit Plain Tpc Ssn

theorem StO.ret2 {w w' : World} {B : Nat} {vi vh vw va v : Value} {s' : Ses} {b : Bool} (ui uh uw ua : Value) (hv : v = s'.val ui uh uw ua) (hr : SesRow w' B s' ui uh uw ua) (ht : Tch w w' (P4 vi vh vw va) (P4 ui uh uw ua)) : StO w w' B vi vh vw va s' (fun x => Ending.returned (.tuple #[v, .bool b]) = Ending.returned (.tuple #[x, .bool b])) :=
  ⟨ui, uh, uw, ua, by rw [hv], hr, ht⟩

/-- the state when the walk begins -/
structure Sta (w W0 : World) (B : Nat) (s : Ses) (x : Sp) (ai ah aw aa : Option Addr) (ci ch cw ca : Nat) : Prop where
  X : Sv W0 w.heap.size (.int .i64 s.ep) (.slice ai s.items.length ci) (.int .i64 s.base) (.slice ah s.handed.length ch) (.slice aw s.way.length cw) (.slice aa s.acks.length ca)
  S : Cv3 W0 (w.heap.size + 1) (.int .i64 x.kind) (.int .i64 x.kk) (.string x.tx)
  Z : Sv W0 (w.heap.size + 2) (.int .i64 0) (.slice none 0 0) (.int .i64 0) (.slice none 0 0) (.slice none 0 0) (.slice none 0 0)
  R : SesRow W0 B s (.slice ai s.items.length ci) (.slice ah s.handed.length ch) (.slice aw s.way.length cw) (.slice aa s.acks.length ca)
  T : Tch w W0 (P4 (.slice ai s.items.length ci) (.slice ah s.handed.length ch) (.slice aw s.way.length cw) (.slice aa s.acks.length ca)) (P4 (.slice ai s.items.length ci) (.slice ah s.handed.length ch) (.slice aw s.way.length cw) (.slice aa s.acks.length ca))
  nX : ¬ (P4 (.slice ai s.items.length ci) (.slice ah s.handed.length ch) (.slice aw s.way.length cw) (.slice aa s.acks.length ca)) w.heap.size
  nS : ¬ (P4 (.slice ai s.items.length ci) (.slice ah s.handed.length ch) (.slice aw s.way.length cw) (.slice aa s.acks.length ca)) (w.heap.size + 1)
  nZ : ¬ (P4 (.slice ai s.items.length ci) (.slice ah s.handed.length ch) (.slice aw s.way.length cw) (.slice aa s.acks.length ca)) (w.heap.size + 2)

theorem Sta.begin {w : World} {B : Nat} {s : Ses} (x : Sp) {ai ah aw aa : Option Addr} {ci ch cw ca : Nat} (hR : SesRow w B s (.slice ai s.items.length ci) (.slice ah s.handed.length ch) (.slice aw s.way.length cw) (.slice aa s.acks.length ca)) : Sta w (((w.alloc (.cells #[.int .i64 s.ep, .slice ai s.items.length ci, .int .i64 s.base, .slice ah s.handed.length ch, .slice aw s.way.length cw, .slice aa s.acks.length ca] 26)).alloc (.cells #[.int .i64 x.kind, .int .i64 x.kk, .string x.tx] 48)).alloc (.cells #[.int .i64 0, .slice none 0 0, .int .i64 0, .slice none 0 0, .slice none 0 0, .slice none 0 0] 26)) B s x ai ah aw aa ci ch cw ca := by
  have hB0 : Below w.heap.size w (((w.alloc (.cells #[.int .i64 s.ep, .slice ai s.items.length ci, .int .i64 s.base, .slice ah s.handed.length ch, .slice aw s.way.length cw, .slice aa s.acks.length ca] 26)).alloc (.cells #[.int .i64 x.kind, .int .i64 x.kk, .string x.tx] 48)).alloc (.cells #[.int .i64 0, .slice none 0 0, .int .i64 0, .slice none 0 0, .slice none 0 0, .slice none 0 0] 26)) := (((Below.refl _ w).alloc (Nat.le_refl _) _).alloc (by simp) _).alloc (by simp; omega) _
  have hlt4 := hR.lt4
  refine ⟨((Sv.fresh w _ _ _ _ _ _ _).below ((Below.refl _ _).alloc (Nat.le_refl _) _)).below ((Below.refl _ _).alloc (Nat.le_refl _) _), ?_, ?_, hR.below hB0, Tch.of_below hB0, fun h => by have := (hlt4 _ h).2; omega, fun h => by have := (hlt4 _ h).2; omega, fun h => by have := (hlt4 _ h).2; omega⟩
  · have h := (Cv3.fresh (w.alloc (.cells #[.int .i64 s.ep, .slice ai s.items.length ci, .int .i64 s.base, .slice ah s.handed.length ch, .slice aw s.way.length cw, .slice aa s.acks.length ca] 26)) (.int .i64 x.kind) (.int .i64 x.kk) (.string x.tx) 48).below ((Below.refl _ _).alloc (Nat.le_refl _) (.cells #[.int .i64 0, .slice none 0 0, .int .i64 0, .slice none 0 0, .slice none 0 0, .slice none 0 0] 26))
    simpa using h
  · have h := Sv.fresh ((w.alloc (.cells #[.int .i64 s.ep, .slice ai s.items.length ci, .int .i64 s.base, .slice ah s.handed.length ch, .slice aw s.way.length cw, .slice aa s.acks.length ca] 26)).alloc (.cells #[.int .i64 x.kind, .int .i64 x.kk, .string x.tx] 48)) (.int .i64 0) (.slice none 0 0) (.int .i64 0) (.slice none 0 0) (.slice none 0 0) (.slice none 0 0) 26
    simpa using h

set_option maxRecDepth 100000 in
set_option maxHeartbeats 8000000 in
theorem stPush0 (s : Ses) (x : Sp) (B : Nat) (ai ah aw aa : Option Addr) (ci ch cw ca : Nat) (w : World) (hR : SesRow w B s (.slice ai s.items.length ci) (.slice ah s.handed.length ch) (.slice aw s.way.length cw) (.slice aa s.acks.length ca)) (hBw : B ≤ w.heap.size) (hg : Gd s) (hk : x.kind = 1) (htx : x.tx.size ≤ 9223372036854775807) (h20 : ¬ x.tx.size ≤ 20) :
    Calls Try.prog 71 #[.agg #[.int .i64 s.ep, .slice ai s.items.length ci, .int .i64 s.base, .slice ah s.handed.length ch, .slice aw s.way.length cw, .slice aa s.acks.length ca], .agg #[.int .i64 x.kind, .int .i64 x.kk, .string x.tx]] w fun e w' => StO w w' B (.slice ai s.items.length ci) (.slice ah s.handed.length ch) (.slice aw s.way.length cw) (.slice aa s.acks.length ca) (stS s x) (fun v => e = .returned (.tuple #[v, .bool (stK s x)])) := by
  have rc := fun (tmps : Array Value) (P : Program) (w : World) => results_cell1S (fn := Try.f71) (p := 4) (q := 5) (ty := 26) rfl tmps P w
  obtain ⟨i0, hi, hz0, hz1, hz2⟩ := info_parts infoStr
  obtain ⟨p0', hp, hpz0, hpz1, hpz2⟩ := info_parts Try.infoPk
  obtain ⟨q0, hq, hqz0, hqz1, hqz2⟩ := info_parts Try.infoAk
  have HST := Sta.begin x hR
  obtain ⟨W0, hW0⟩ : ∃ X, X = ((w.alloc (.cells #[.int .i64 s.ep, .slice ai s.items.length ci, .int .i64 s.base, .slice ah s.handed.length ch, .slice aw s.way.length cw, .slice aa s.acks.length ca] 26)).alloc (.cells #[.int .i64 x.kind, .int .i64 x.kk, .string x.tx] 48)).alloc (.cells #[.int .i64 0, .slice none 0 0, .int .i64 0, .slice none 0 0, .slice none 0 0, .slice none 0 0] 26) := ⟨_, rfl⟩
  rw [← hW0] at HST
  have HX : Hid (type_of% HST.X) := HST.X
  have HP : Hid (type_of% HST.S) := HST.S
  have HZ : Hid (type_of% HST.Z) := HST.Z
  have HR : Hid (type_of% HST.R) := HST.R
  have HT : Hid (type_of% HST.T) := HST.T
  have HnX : Hid (type_of% HST.nX) := HST.nX
  have HnP : Hid (type_of% HST.nS) := HST.nS
  have HnZ : Hid (type_of% HST.nZ) := HST.nZ
  have hil := hg.il
  have hyl := hg.yl
  have hal := hg.al
  have hhl := hg.hl
  have hb0 := hg.b0
  have hb1 := hg.b1
  have he1 := hg.e1
  have hs3 : w.heap.size + 2 < W0.heap.size := HST.Z.low
  have hsB : B ≤ W0.heap.size := by omega
  clear HST hR hg
  have HK : Hid (stK s x = false) := by
    show _ = _
    unfold stK
    rw [if_pos hk]
    unfold pushK
    rw [decide_eq_false h20, Bool.false_and]
  have HE : Hid (stS s x = s) := by show _ = _; unfold stS; rw [HK.out, if_pos rfl]
  have CT := l15Text_any x.tx W0 htx
  rw [decide_eq_false h20] at CT
  obtain ⟨kind, kk, tx⟩ := x
  dsimp only at *
  subst hk
  go_enter Try.func71, Try.ntmps71
  go_upto_region 1 with fail
  rw [← hW0]
  clear hW0
  have k0 := HP.out.c0
  have k1 := HP.out.c1
  have k2 := HP.out.c2
  have x1 := HX.out.c1
  go_wp2_with fail
  go_at_call 47
  refine CT.mono ?_
  rintro e w2 ⟨rfl, hw2⟩
  have hw2 := hw2.symm
  subst hw2
  clear x1
  have y0 := HX.out.c0
  have z0 := HZ.out.c0
  have f0 := HZ.out.f0
  have y1 := HX.out.c1
  have z1 := HZ.out.c1
  have f1 := HZ.out.f1
  have y2 := HX.out.c2
  have z2 := HZ.out.c2
  have f2 := HZ.out.f2
  have y3 := HX.out.c3
  have z3 := HZ.out.c3
  have f3 := HZ.out.f3
  have y4 := HX.out.c4
  have z4 := HZ.out.c4
  have f4 := HZ.out.f4
  have y5 := HX.out.c5
  have z5 := HZ.out.c5
  have f5 := HZ.out.f5
  go_wp2_with fail
  (try simp only [Exit.inBlock, Exit.then])
  rw [HE.out, HK.out]
  refine bodyPost_ret (v := .tuple #[.agg #[.int .i64 s.ep, .slice ai s.items.length ci, .int .i64 s.base, .slice ah s.handed.length ch, .slice aw s.way.length cw, .slice aa s.acks.length ca], .bool false]) ?_ rfl (StO.ret2 (.slice ai s.items.length ci) (.slice ah s.handed.length ch) (.slice aw s.way.length cw) (.slice aa s.acks.length ca) ?_ ?_ ?_)
  · rw [rc]
    go_simp
  · rfl
  · exact HR.out.set6 HnZ.out
  · exact HT.out.set6 (by omega)

set_option maxRecDepth 100000 in
set_option maxHeartbeats 8000000 in
theorem stPush1 (s : Ses) (x : Sp) (B : Nat) (ai ah aw aa : Option Addr) (ci ch cw ca : Nat) (w : World) (hR : SesRow w B s (.slice ai s.items.length ci) (.slice ah s.handed.length ch) (.slice aw s.way.length cw) (.slice aa s.acks.length ca)) (hBw : B ≤ w.heap.size) (hg : Gd s) (hk : x.kind = 1) (htx : x.tx.size ≤ 9223372036854775807) (h20 : x.tx.size ≤ 20) (h30 : ¬ s.items.length < 30) :
    Calls Try.prog 71 #[.agg #[.int .i64 s.ep, .slice ai s.items.length ci, .int .i64 s.base, .slice ah s.handed.length ch, .slice aw s.way.length cw, .slice aa s.acks.length ca], .agg #[.int .i64 x.kind, .int .i64 x.kk, .string x.tx]] w fun e w' => StO w w' B (.slice ai s.items.length ci) (.slice ah s.handed.length ch) (.slice aw s.way.length cw) (.slice aa s.acks.length ca) (stS s x) (fun v => e = .returned (.tuple #[v, .bool (stK s x)])) := by
  have rc := fun (tmps : Array Value) (P : Program) (w : World) => results_cell1S (fn := Try.f71) (p := 4) (q := 5) (ty := 26) rfl tmps P w
  obtain ⟨i0, hi, hz0, hz1, hz2⟩ := info_parts infoStr
  obtain ⟨p0', hp, hpz0, hpz1, hpz2⟩ := info_parts Try.infoPk
  obtain ⟨q0, hq, hqz0, hqz1, hqz2⟩ := info_parts Try.infoAk
  have HST := Sta.begin x hR
  obtain ⟨W0, hW0⟩ : ∃ X, X = ((w.alloc (.cells #[.int .i64 s.ep, .slice ai s.items.length ci, .int .i64 s.base, .slice ah s.handed.length ch, .slice aw s.way.length cw, .slice aa s.acks.length ca] 26)).alloc (.cells #[.int .i64 x.kind, .int .i64 x.kk, .string x.tx] 48)).alloc (.cells #[.int .i64 0, .slice none 0 0, .int .i64 0, .slice none 0 0, .slice none 0 0, .slice none 0 0] 26) := ⟨_, rfl⟩
  rw [← hW0] at HST
  have HX : Hid (type_of% HST.X) := HST.X
  have HP : Hid (type_of% HST.S) := HST.S
  have HZ : Hid (type_of% HST.Z) := HST.Z
  have HR : Hid (type_of% HST.R) := HST.R
  have HT : Hid (type_of% HST.T) := HST.T
  have HnX : Hid (type_of% HST.nX) := HST.nX
  have HnP : Hid (type_of% HST.nS) := HST.nS
  have HnZ : Hid (type_of% HST.nZ) := HST.nZ
  have hil := hg.il
  have hyl := hg.yl
  have hal := hg.al
  have hhl := hg.hl
  have hb0 := hg.b0
  have hb1 := hg.b1
  have he1 := hg.e1
  have hs3 : w.heap.size + 2 < W0.heap.size := HST.Z.low
  have hsB : B ≤ W0.heap.size := by omega
  clear HST hR hg
  have HK : Hid (stK s x = false) := by
    show _ = _
    unfold stK
    rw [if_pos hk]
    unfold pushK
    rw [decide_eq_false h30, Bool.and_false]
  have HE : Hid (stS s x = s) := by show _ = _; unfold stS; rw [HK.out, if_pos rfl]
  have CT := l15Text_any x.tx W0 htx
  rw [decide_eq_true h20] at CT
  have hL : ((s.items.length : Int) == 30) = true := by simp; omega
  obtain ⟨kind, kk, tx⟩ := x
  dsimp only at *
  subst hk
  have hLe : s.items.length = 30 := by omega
  clear hLe
  go_enter Try.func71, Try.ntmps71
  go_upto_region 1 with fail
  rw [← hW0]
  clear hW0
  have k0 := HP.out.c0
  have k1 := HP.out.c1
  have k2 := HP.out.c2
  have x1 := HX.out.c1
  go_wp2_with fail
  go_at_call 47
  refine CT.mono ?_
  rintro e w2 ⟨rfl, hw2⟩
  have hw2 := hw2.symm
  subst hw2
  clear x1
  have y0 := HX.out.c0
  have z0 := HZ.out.c0
  have f0 := HZ.out.f0
  have y1 := HX.out.c1
  have z1 := HZ.out.c1
  have f1 := HZ.out.f1
  have y2 := HX.out.c2
  have z2 := HZ.out.c2
  have f2 := HZ.out.f2
  have y3 := HX.out.c3
  have z3 := HZ.out.c3
  have f3 := HZ.out.f3
  have y4 := HX.out.c4
  have z4 := HZ.out.c4
  have f4 := HZ.out.f4
  have y5 := HX.out.c5
  have z5 := HZ.out.c5
  have f5 := HZ.out.f5
  go_wp2_with fail
  (try simp only [Exit.inBlock, Exit.then])
  rw [HE.out, HK.out]
  refine bodyPost_ret (v := .tuple #[.agg #[.int .i64 s.ep, .slice ai s.items.length ci, .int .i64 s.base, .slice ah s.handed.length ch, .slice aw s.way.length cw, .slice aa s.acks.length ca], .bool false]) ?_ rfl (StO.ret2 (.slice ai s.items.length ci) (.slice ah s.handed.length ch) (.slice aw s.way.length cw) (.slice aa s.acks.length ca) ?_ ?_ ?_)
  · rw [rc]
    go_simp
  · rfl
  · exact HR.out.set6 HnZ.out
  · exact HT.out.set6 (by omega)

set_option maxRecDepth 100000 in
set_option maxHeartbeats 8000000 in
theorem stSend0 (s : Ses) (x : Sp) (B : Nat) (ai ah aw aa : Option Addr) (ci ch cw ca : Nat) (w : World) (hR : SesRow w B s (.slice ai s.items.length ci) (.slice ah s.handed.length ch) (.slice aw s.way.length cw) (.slice aa s.acks.length ca)) (hBw : B ≤ w.heap.size) (hg : Gd s) (hk : x.kind = 2) (h1 : x.kk < s.base) :
    Calls Try.prog 71 #[.agg #[.int .i64 s.ep, .slice ai s.items.length ci, .int .i64 s.base, .slice ah s.handed.length ch, .slice aw s.way.length cw, .slice aa s.acks.length ca], .agg #[.int .i64 x.kind, .int .i64 x.kk, .string x.tx]] w fun e w' => StO w w' B (.slice ai s.items.length ci) (.slice ah s.handed.length ch) (.slice aw s.way.length cw) (.slice aa s.acks.length ca) (stS s x) (fun v => e = .returned (.tuple #[v, .bool (stK s x)])) := by
  have rc := fun (tmps : Array Value) (P : Program) (w : World) => results_cell1S (fn := Try.f71) (p := 4) (q := 5) (ty := 26) rfl tmps P w
  obtain ⟨i0, hi, hz0, hz1, hz2⟩ := info_parts infoStr
  obtain ⟨p0', hp, hpz0, hpz1, hpz2⟩ := info_parts Try.infoPk
  obtain ⟨q0, hq, hqz0, hqz1, hqz2⟩ := info_parts Try.infoAk
  have HST := Sta.begin x hR
  obtain ⟨W0, hW0⟩ : ∃ X, X = ((w.alloc (.cells #[.int .i64 s.ep, .slice ai s.items.length ci, .int .i64 s.base, .slice ah s.handed.length ch, .slice aw s.way.length cw, .slice aa s.acks.length ca] 26)).alloc (.cells #[.int .i64 x.kind, .int .i64 x.kk, .string x.tx] 48)).alloc (.cells #[.int .i64 0, .slice none 0 0, .int .i64 0, .slice none 0 0, .slice none 0 0, .slice none 0 0] 26) := ⟨_, rfl⟩
  rw [← hW0] at HST
  have HX : Hid (type_of% HST.X) := HST.X
  have HP : Hid (type_of% HST.S) := HST.S
  have HZ : Hid (type_of% HST.Z) := HST.Z
  have HR : Hid (type_of% HST.R) := HST.R
  have HT : Hid (type_of% HST.T) := HST.T
  have HnX : Hid (type_of% HST.nX) := HST.nX
  have HnP : Hid (type_of% HST.nS) := HST.nS
  have HnZ : Hid (type_of% HST.nZ) := HST.nZ
  have hil := hg.il
  have hyl := hg.yl
  have hal := hg.al
  have hhl := hg.hl
  have hb0 := hg.b0
  have hb1 := hg.b1
  have he1 := hg.e1
  have hs3 : w.heap.size + 2 < W0.heap.size := HST.Z.low
  have hsB : B ≤ W0.heap.size := by omega
  clear HST hR hg
  have HK : Hid (stK s x = false) := by
    show _ = _
    unfold stK
    rw [if_neg (by omega), if_pos hk]
    unfold sendK
    rw [decide_eq_false (by omega), Bool.false_and]
  have HE : Hid (stS s x = s) := by show _ = _; unfold stS; rw [HK.out, if_pos rfl]
  have hw4 : IntKind.i64.wrap (s.base + 4) = s.base + 4 := by rw [IntKind.wrap_i64]; omega
  obtain ⟨kind, kk, tx⟩ := x
  dsimp only at *
  subst hk
  go_enter Try.func71, Try.ntmps71
  go_upto_region 1 with fail
  rw [← hW0]
  clear hW0
  have k0 := HP.out.c0
  have k1 := HP.out.c1
  have k2 := HP.out.c2
  have x0 := HX.out.c0
  have x1 := HX.out.c1
  have x2 := HX.out.c2
  have x4 := HX.out.c4
  have y0 := HX.out.c0
  have z0 := HZ.out.c0
  have f0 := HZ.out.f0
  have y1 := HX.out.c1
  have z1 := HZ.out.c1
  have f1 := HZ.out.f1
  have y2 := HX.out.c2
  have z2 := HZ.out.c2
  have f2 := HZ.out.f2
  have y3 := HX.out.c3
  have z3 := HZ.out.c3
  have f3 := HZ.out.f3
  have y4 := HX.out.c4
  have z4 := HZ.out.c4
  have f4 := HZ.out.f4
  have y5 := HX.out.c5
  have z5 := HZ.out.c5
  have f5 := HZ.out.f5
  go_wp2_with fail
  (try simp only [Exit.inBlock, Exit.then])
  rw [HE.out, HK.out]
  refine bodyPost_ret (v := .tuple #[.agg #[.int .i64 s.ep, .slice ai s.items.length ci, .int .i64 s.base, .slice ah s.handed.length ch, .slice aw s.way.length cw, .slice aa s.acks.length ca], .bool false]) ?_ rfl (StO.ret2 (.slice ai s.items.length ci) (.slice ah s.handed.length ch) (.slice aw s.way.length cw) (.slice aa s.acks.length ca) ?_ ?_ ?_)
  · rw [rc]
    go_simp
  · rfl
  · exact HR.out.set6 HnZ.out
  · exact HT.out.set6 (by omega)

set_option maxRecDepth 100000 in
set_option maxHeartbeats 8000000 in
theorem stSend1 (s : Ses) (x : Sp) (B : Nat) (ai ah aw aa : Option Addr) (ci ch cw ca : Nat) (w : World) (hR : SesRow w B s (.slice ai s.items.length ci) (.slice ah s.handed.length ch) (.slice aw s.way.length cw) (.slice aa s.acks.length ca)) (hBw : B ≤ w.heap.size) (hg : Gd s) (hk : x.kind = 2) (h1 : ¬ x.kk < s.base) (h2 : s.base + 4 ≤ x.kk) :
    Calls Try.prog 71 #[.agg #[.int .i64 s.ep, .slice ai s.items.length ci, .int .i64 s.base, .slice ah s.handed.length ch, .slice aw s.way.length cw, .slice aa s.acks.length ca], .agg #[.int .i64 x.kind, .int .i64 x.kk, .string x.tx]] w fun e w' => StO w w' B (.slice ai s.items.length ci) (.slice ah s.handed.length ch) (.slice aw s.way.length cw) (.slice aa s.acks.length ca) (stS s x) (fun v => e = .returned (.tuple #[v, .bool (stK s x)])) := by
  have rc := fun (tmps : Array Value) (P : Program) (w : World) => results_cell1S (fn := Try.f71) (p := 4) (q := 5) (ty := 26) rfl tmps P w
  obtain ⟨i0, hi, hz0, hz1, hz2⟩ := info_parts infoStr
  obtain ⟨p0', hp, hpz0, hpz1, hpz2⟩ := info_parts Try.infoPk
  obtain ⟨q0, hq, hqz0, hqz1, hqz2⟩ := info_parts Try.infoAk
  have HST := Sta.begin x hR
  obtain ⟨W0, hW0⟩ : ∃ X, X = ((w.alloc (.cells #[.int .i64 s.ep, .slice ai s.items.length ci, .int .i64 s.base, .slice ah s.handed.length ch, .slice aw s.way.length cw, .slice aa s.acks.length ca] 26)).alloc (.cells #[.int .i64 x.kind, .int .i64 x.kk, .string x.tx] 48)).alloc (.cells #[.int .i64 0, .slice none 0 0, .int .i64 0, .slice none 0 0, .slice none 0 0, .slice none 0 0] 26) := ⟨_, rfl⟩
  rw [← hW0] at HST
  have HX : Hid (type_of% HST.X) := HST.X
  have HP : Hid (type_of% HST.S) := HST.S
  have HZ : Hid (type_of% HST.Z) := HST.Z
  have HR : Hid (type_of% HST.R) := HST.R
  have HT : Hid (type_of% HST.T) := HST.T
  have HnX : Hid (type_of% HST.nX) := HST.nX
  have HnP : Hid (type_of% HST.nS) := HST.nS
  have HnZ : Hid (type_of% HST.nZ) := HST.nZ
  have hil := hg.il
  have hyl := hg.yl
  have hal := hg.al
  have hhl := hg.hl
  have hb0 := hg.b0
  have hb1 := hg.b1
  have he1 := hg.e1
  have hs3 : w.heap.size + 2 < W0.heap.size := HST.Z.low
  have hsB : B ≤ W0.heap.size := by omega
  clear HST hR hg
  have HK : Hid (stK s x = false) := by
    show _ = _
    unfold stK
    rw [if_neg (by omega), if_pos hk]
    unfold sendK
    rw [decide_eq_false (show ¬ x.kk < s.base + 4 by omega)]; simp
  have HE : Hid (stS s x = s) := by show _ = _; unfold stS; rw [HK.out, if_pos rfl]
  have hw4 : IntKind.i64.wrap (s.base + 4) = s.base + 4 := by rw [IntKind.wrap_i64]; omega
  obtain ⟨kind, kk, tx⟩ := x
  dsimp only at *
  subst hk
  go_enter Try.func71, Try.ntmps71
  go_upto_region 1 with fail
  rw [← hW0]
  clear hW0
  have k0 := HP.out.c0
  have k1 := HP.out.c1
  have k2 := HP.out.c2
  have x0 := HX.out.c0
  have x1 := HX.out.c1
  have x2 := HX.out.c2
  have x4 := HX.out.c4
  have y0 := HX.out.c0
  have z0 := HZ.out.c0
  have f0 := HZ.out.f0
  have y1 := HX.out.c1
  have z1 := HZ.out.c1
  have f1 := HZ.out.f1
  have y2 := HX.out.c2
  have z2 := HZ.out.c2
  have f2 := HZ.out.f2
  have y3 := HX.out.c3
  have z3 := HZ.out.c3
  have f3 := HZ.out.f3
  have y4 := HX.out.c4
  have z4 := HZ.out.c4
  have f4 := HZ.out.f4
  have y5 := HX.out.c5
  have z5 := HZ.out.c5
  have f5 := HZ.out.f5
  go_wp2_with fail
  (try simp only [Exit.inBlock, Exit.then])
  rw [HE.out, HK.out]
  refine bodyPost_ret (v := .tuple #[.agg #[.int .i64 s.ep, .slice ai s.items.length ci, .int .i64 s.base, .slice ah s.handed.length ch, .slice aw s.way.length cw, .slice aa s.acks.length ca], .bool false]) ?_ rfl (StO.ret2 (.slice ai s.items.length ci) (.slice ah s.handed.length ch) (.slice aw s.way.length cw) (.slice aa s.acks.length ca) ?_ ?_ ?_)
  · rw [rc]
    go_simp
  · rfl
  · exact HR.out.set6 HnZ.out
  · exact HT.out.set6 (by omega)

set_option maxRecDepth 100000 in
set_option maxHeartbeats 8000000 in
theorem stSend2 (s : Ses) (x : Sp) (B : Nat) (ai ah aw aa : Option Addr) (ci ch cw ca : Nat) (w : World) (hR : SesRow w B s (.slice ai s.items.length ci) (.slice ah s.handed.length ch) (.slice aw s.way.length cw) (.slice aa s.acks.length ca)) (hBw : B ≤ w.heap.size) (hg : Gd s) (hk : x.kind = 2) (h1 : ¬ x.kk < s.base) (h2 : ¬ s.base + 4 ≤ x.kk) (h3 : (s.items.length : Int) ≤ x.kk) :
    Calls Try.prog 71 #[.agg #[.int .i64 s.ep, .slice ai s.items.length ci, .int .i64 s.base, .slice ah s.handed.length ch, .slice aw s.way.length cw, .slice aa s.acks.length ca], .agg #[.int .i64 x.kind, .int .i64 x.kk, .string x.tx]] w fun e w' => StO w w' B (.slice ai s.items.length ci) (.slice ah s.handed.length ch) (.slice aw s.way.length cw) (.slice aa s.acks.length ca) (stS s x) (fun v => e = .returned (.tuple #[v, .bool (stK s x)])) := by
  have rc := fun (tmps : Array Value) (P : Program) (w : World) => results_cell1S (fn := Try.f71) (p := 4) (q := 5) (ty := 26) rfl tmps P w
  obtain ⟨i0, hi, hz0, hz1, hz2⟩ := info_parts infoStr
  obtain ⟨p0', hp, hpz0, hpz1, hpz2⟩ := info_parts Try.infoPk
  obtain ⟨q0, hq, hqz0, hqz1, hqz2⟩ := info_parts Try.infoAk
  have HST := Sta.begin x hR
  obtain ⟨W0, hW0⟩ : ∃ X, X = ((w.alloc (.cells #[.int .i64 s.ep, .slice ai s.items.length ci, .int .i64 s.base, .slice ah s.handed.length ch, .slice aw s.way.length cw, .slice aa s.acks.length ca] 26)).alloc (.cells #[.int .i64 x.kind, .int .i64 x.kk, .string x.tx] 48)).alloc (.cells #[.int .i64 0, .slice none 0 0, .int .i64 0, .slice none 0 0, .slice none 0 0, .slice none 0 0] 26) := ⟨_, rfl⟩
  rw [← hW0] at HST
  have HX : Hid (type_of% HST.X) := HST.X
  have HP : Hid (type_of% HST.S) := HST.S
  have HZ : Hid (type_of% HST.Z) := HST.Z
  have HR : Hid (type_of% HST.R) := HST.R
  have HT : Hid (type_of% HST.T) := HST.T
  have HnX : Hid (type_of% HST.nX) := HST.nX
  have HnP : Hid (type_of% HST.nS) := HST.nS
  have HnZ : Hid (type_of% HST.nZ) := HST.nZ
  have hil := hg.il
  have hyl := hg.yl
  have hal := hg.al
  have hhl := hg.hl
  have hb0 := hg.b0
  have hb1 := hg.b1
  have he1 := hg.e1
  have hs3 : w.heap.size + 2 < W0.heap.size := HST.Z.low
  have hsB : B ≤ W0.heap.size := by omega
  clear HST hR hg
  have HK : Hid (stK s x = false) := by
    show _ = _
    unfold stK
    rw [if_neg (by omega), if_pos hk]
    unfold sendK
    rw [decide_eq_false (show ¬ x.kk < (s.items.length : Int) by omega)]; simp
  have HE : Hid (stS s x = s) := by show _ = _; unfold stS; rw [HK.out, if_pos rfl]
  have hw4 : IntKind.i64.wrap (s.base + 4) = s.base + 4 := by rw [IntKind.wrap_i64]; omega
  obtain ⟨kind, kk, tx⟩ := x
  dsimp only at *
  subst hk
  go_enter Try.func71, Try.ntmps71
  go_upto_region 1 with fail
  rw [← hW0]
  clear hW0
  have k0 := HP.out.c0
  have k1 := HP.out.c1
  have k2 := HP.out.c2
  have x0 := HX.out.c0
  have x1 := HX.out.c1
  have x2 := HX.out.c2
  have x4 := HX.out.c4
  have y0 := HX.out.c0
  have z0 := HZ.out.c0
  have f0 := HZ.out.f0
  have y1 := HX.out.c1
  have z1 := HZ.out.c1
  have f1 := HZ.out.f1
  have y2 := HX.out.c2
  have z2 := HZ.out.c2
  have f2 := HZ.out.f2
  have y3 := HX.out.c3
  have z3 := HZ.out.c3
  have f3 := HZ.out.f3
  have y4 := HX.out.c4
  have z4 := HZ.out.c4
  have f4 := HZ.out.f4
  have y5 := HX.out.c5
  have z5 := HZ.out.c5
  have f5 := HZ.out.f5
  go_wp2_with fail
  (try simp only [Exit.inBlock, Exit.then])
  rw [HE.out, HK.out]
  refine bodyPost_ret (v := .tuple #[.agg #[.int .i64 s.ep, .slice ai s.items.length ci, .int .i64 s.base, .slice ah s.handed.length ch, .slice aw s.way.length cw, .slice aa s.acks.length ca], .bool false]) ?_ rfl (StO.ret2 (.slice ai s.items.length ci) (.slice ah s.handed.length ch) (.slice aw s.way.length cw) (.slice aa s.acks.length ca) ?_ ?_ ?_)
  · rw [rc]
    go_simp
  · rfl
  · exact HR.out.set6 HnZ.out
  · exact HT.out.set6 (by omega)

set_option maxRecDepth 100000 in
set_option maxHeartbeats 8000000 in
theorem stSend3 (s : Ses) (x : Sp) (B : Nat) (ai ah aw aa : Option Addr) (ci ch cw ca : Nat) (w : World) (hR : SesRow w B s (.slice ai s.items.length ci) (.slice ah s.handed.length ch) (.slice aw s.way.length cw) (.slice aa s.acks.length ca)) (hBw : B ≤ w.heap.size) (hg : Gd s) (hk : x.kind = 2) (h1 : ¬ x.kk < s.base) (h2 : ¬ s.base + 4 ≤ x.kk) (h3 : ¬ (s.items.length : Int) ≤ x.kk) (h4 : ¬ s.way.length < 12) :
    Calls Try.prog 71 #[.agg #[.int .i64 s.ep, .slice ai s.items.length ci, .int .i64 s.base, .slice ah s.handed.length ch, .slice aw s.way.length cw, .slice aa s.acks.length ca], .agg #[.int .i64 x.kind, .int .i64 x.kk, .string x.tx]] w fun e w' => StO w w' B (.slice ai s.items.length ci) (.slice ah s.handed.length ch) (.slice aw s.way.length cw) (.slice aa s.acks.length ca) (stS s x) (fun v => e = .returned (.tuple #[v, .bool (stK s x)])) := by
  have rc := fun (tmps : Array Value) (P : Program) (w : World) => results_cell1S (fn := Try.f71) (p := 4) (q := 5) (ty := 26) rfl tmps P w
  obtain ⟨i0, hi, hz0, hz1, hz2⟩ := info_parts infoStr
  obtain ⟨p0', hp, hpz0, hpz1, hpz2⟩ := info_parts Try.infoPk
  obtain ⟨q0, hq, hqz0, hqz1, hqz2⟩ := info_parts Try.infoAk
  have HST := Sta.begin x hR
  obtain ⟨W0, hW0⟩ : ∃ X, X = ((w.alloc (.cells #[.int .i64 s.ep, .slice ai s.items.length ci, .int .i64 s.base, .slice ah s.handed.length ch, .slice aw s.way.length cw, .slice aa s.acks.length ca] 26)).alloc (.cells #[.int .i64 x.kind, .int .i64 x.kk, .string x.tx] 48)).alloc (.cells #[.int .i64 0, .slice none 0 0, .int .i64 0, .slice none 0 0, .slice none 0 0, .slice none 0 0] 26) := ⟨_, rfl⟩
  rw [← hW0] at HST
  have HX : Hid (type_of% HST.X) := HST.X
  have HP : Hid (type_of% HST.S) := HST.S
  have HZ : Hid (type_of% HST.Z) := HST.Z
  have HR : Hid (type_of% HST.R) := HST.R
  have HT : Hid (type_of% HST.T) := HST.T
  have HnX : Hid (type_of% HST.nX) := HST.nX
  have HnP : Hid (type_of% HST.nS) := HST.nS
  have HnZ : Hid (type_of% HST.nZ) := HST.nZ
  have hil := hg.il
  have hyl := hg.yl
  have hal := hg.al
  have hhl := hg.hl
  have hb0 := hg.b0
  have hb1 := hg.b1
  have he1 := hg.e1
  have hs3 : w.heap.size + 2 < W0.heap.size := HST.Z.low
  have hsB : B ≤ W0.heap.size := by omega
  clear HST hR hg
  have HK : Hid (stK s x = false) := by
    show _ = _
    unfold stK
    rw [if_neg (by omega), if_pos hk]
    unfold sendK
    rw [decide_eq_false h4]; simp
  have HE : Hid (stS s x = s) := by show _ = _; unfold stS; rw [HK.out, if_pos rfl]
  have hw4 : IntKind.i64.wrap (s.base + 4) = s.base + 4 := by rw [IntKind.wrap_i64]; omega
  have hL : ((s.way.length : Int) == 12) = true := by simp; omega
  obtain ⟨kind, kk, tx⟩ := x
  dsimp only at *
  subst hk
  go_enter Try.func71, Try.ntmps71
  go_upto_region 1 with fail
  rw [← hW0]
  clear hW0
  have k0 := HP.out.c0
  have k1 := HP.out.c1
  have k2 := HP.out.c2
  have x0 := HX.out.c0
  have x1 := HX.out.c1
  have x2 := HX.out.c2
  have x4 := HX.out.c4
  have y0 := HX.out.c0
  have z0 := HZ.out.c0
  have f0 := HZ.out.f0
  have y1 := HX.out.c1
  have z1 := HZ.out.c1
  have f1 := HZ.out.f1
  have y2 := HX.out.c2
  have z2 := HZ.out.c2
  have f2 := HZ.out.f2
  have y3 := HX.out.c3
  have z3 := HZ.out.c3
  have f3 := HZ.out.f3
  have y4 := HX.out.c4
  have z4 := HZ.out.c4
  have f4 := HZ.out.f4
  have y5 := HX.out.c5
  have z5 := HZ.out.c5
  have f5 := HZ.out.f5
  go_wp2_with fail
  (try simp only [Exit.inBlock, Exit.then])
  rw [HE.out, HK.out]
  refine bodyPost_ret (v := .tuple #[.agg #[.int .i64 s.ep, .slice ai s.items.length ci, .int .i64 s.base, .slice ah s.handed.length ch, .slice aw s.way.length cw, .slice aa s.acks.length ca], .bool false]) ?_ rfl (StO.ret2 (.slice ai s.items.length ci) (.slice ah s.handed.length ch) (.slice aw s.way.length cw) (.slice aa s.acks.length ca) ?_ ?_ ?_)
  · rw [rc]
    go_simp
  · rfl
  · exact HR.out.set6 HnZ.out
  · exact HT.out.set6 (by omega)

set_option maxRecDepth 100000 in
set_option maxHeartbeats 8000000 in
theorem stAck0 (s : Ses) (x : Sp) (B : Nat) (ai ah aw aa : Option Addr) (ci ch cw ca : Nat) (w : World) (hR : SesRow w B s (.slice ai s.items.length ci) (.slice ah s.handed.length ch) (.slice aw s.way.length cw) (.slice aa s.acks.length ca)) (hBw : B ≤ w.heap.size) (hg : Gd s) (hk : x.kind = 6) (h1 : x.kk < 0) :
    Calls Try.prog 71 #[.agg #[.int .i64 s.ep, .slice ai s.items.length ci, .int .i64 s.base, .slice ah s.handed.length ch, .slice aw s.way.length cw, .slice aa s.acks.length ca], .agg #[.int .i64 x.kind, .int .i64 x.kk, .string x.tx]] w fun e w' => StO w w' B (.slice ai s.items.length ci) (.slice ah s.handed.length ch) (.slice aw s.way.length cw) (.slice aa s.acks.length ca) (stS s x) (fun v => e = .returned (.tuple #[v, .bool (stK s x)])) := by
  have rc := fun (tmps : Array Value) (P : Program) (w : World) => results_cell1S (fn := Try.f71) (p := 4) (q := 5) (ty := 26) rfl tmps P w
  obtain ⟨i0, hi, hz0, hz1, hz2⟩ := info_parts infoStr
  obtain ⟨p0', hp, hpz0, hpz1, hpz2⟩ := info_parts Try.infoPk
  obtain ⟨q0, hq, hqz0, hqz1, hqz2⟩ := info_parts Try.infoAk
  have HST := Sta.begin x hR
  obtain ⟨W0, hW0⟩ : ∃ X, X = ((w.alloc (.cells #[.int .i64 s.ep, .slice ai s.items.length ci, .int .i64 s.base, .slice ah s.handed.length ch, .slice aw s.way.length cw, .slice aa s.acks.length ca] 26)).alloc (.cells #[.int .i64 x.kind, .int .i64 x.kk, .string x.tx] 48)).alloc (.cells #[.int .i64 0, .slice none 0 0, .int .i64 0, .slice none 0 0, .slice none 0 0, .slice none 0 0] 26) := ⟨_, rfl⟩
  rw [← hW0] at HST
  have HX : Hid (type_of% HST.X) := HST.X
  have HP : Hid (type_of% HST.S) := HST.S
  have HZ : Hid (type_of% HST.Z) := HST.Z
  have HR : Hid (type_of% HST.R) := HST.R
  have HT : Hid (type_of% HST.T) := HST.T
  have HnX : Hid (type_of% HST.nX) := HST.nX
  have HnP : Hid (type_of% HST.nS) := HST.nS
  have HnZ : Hid (type_of% HST.nZ) := HST.nZ
  have hil := hg.il
  have hyl := hg.yl
  have hal := hg.al
  have hhl := hg.hl
  have hb0 := hg.b0
  have hb1 := hg.b1
  have he1 := hg.e1
  have hs3 : w.heap.size + 2 < W0.heap.size := HST.Z.low
  have hsB : B ≤ W0.heap.size := by omega
  clear HST hR hg
  have HK : Hid (stK s x = false) := by
    show _ = _
    unfold stK
    rw [if_neg (by omega), if_neg (by omega), if_neg (by omega), if_neg (by omega), if_neg (by omega), if_pos hk]
    unfold inA
    exact decide_eq_false (by omega)
  have HE : Hid (stS s x = s) := by show _ = _; unfold stS; rw [HK.out, if_pos rfl]
  obtain ⟨kind, kk, tx⟩ := x
  dsimp only at *
  subst hk
  go_enter Try.func71, Try.ntmps71
  go_upto_region 1 with fail
  rw [← hW0]
  clear hW0
  have k0 := HP.out.c0
  have k1 := HP.out.c1
  have k2 := HP.out.c2
  have x5 := HX.out.c5
  have y0 := HX.out.c0
  have z0 := HZ.out.c0
  have f0 := HZ.out.f0
  have y1 := HX.out.c1
  have z1 := HZ.out.c1
  have f1 := HZ.out.f1
  have y2 := HX.out.c2
  have z2 := HZ.out.c2
  have f2 := HZ.out.f2
  have y3 := HX.out.c3
  have z3 := HZ.out.c3
  have f3 := HZ.out.f3
  have y4 := HX.out.c4
  have z4 := HZ.out.c4
  have f4 := HZ.out.f4
  have y5 := HX.out.c5
  have z5 := HZ.out.c5
  have f5 := HZ.out.f5
  go_wp2_with fail
  (try simp only [Exit.inBlock, Exit.then])
  rw [HE.out, HK.out]
  refine bodyPost_ret (v := .tuple #[.agg #[.int .i64 s.ep, .slice ai s.items.length ci, .int .i64 s.base, .slice ah s.handed.length ch, .slice aw s.way.length cw, .slice aa s.acks.length ca], .bool false]) ?_ rfl (StO.ret2 (.slice ai s.items.length ci) (.slice ah s.handed.length ch) (.slice aw s.way.length cw) (.slice aa s.acks.length ca) ?_ ?_ ?_)
  · rw [rc]
    go_simp
  · rfl
  · exact HR.out.set6 HnZ.out
  · exact HT.out.set6 (by omega)

set_option maxRecDepth 100000 in
set_option maxHeartbeats 8000000 in
theorem stAck1 (s : Ses) (x : Sp) (B : Nat) (ai ah aw aa : Option Addr) (ci ch cw ca : Nat) (w : World) (hR : SesRow w B s (.slice ai s.items.length ci) (.slice ah s.handed.length ch) (.slice aw s.way.length cw) (.slice aa s.acks.length ca)) (hBw : B ≤ w.heap.size) (hg : Gd s) (hk : x.kind = 6) (h1 : ¬ x.kk < 0) (h2 : (s.acks.length : Int) ≤ x.kk) :
    Calls Try.prog 71 #[.agg #[.int .i64 s.ep, .slice ai s.items.length ci, .int .i64 s.base, .slice ah s.handed.length ch, .slice aw s.way.length cw, .slice aa s.acks.length ca], .agg #[.int .i64 x.kind, .int .i64 x.kk, .string x.tx]] w fun e w' => StO w w' B (.slice ai s.items.length ci) (.slice ah s.handed.length ch) (.slice aw s.way.length cw) (.slice aa s.acks.length ca) (stS s x) (fun v => e = .returned (.tuple #[v, .bool (stK s x)])) := by
  have rc := fun (tmps : Array Value) (P : Program) (w : World) => results_cell1S (fn := Try.f71) (p := 4) (q := 5) (ty := 26) rfl tmps P w
  obtain ⟨i0, hi, hz0, hz1, hz2⟩ := info_parts infoStr
  obtain ⟨p0', hp, hpz0, hpz1, hpz2⟩ := info_parts Try.infoPk
  obtain ⟨q0, hq, hqz0, hqz1, hqz2⟩ := info_parts Try.infoAk
  have HST := Sta.begin x hR
  obtain ⟨W0, hW0⟩ : ∃ X, X = ((w.alloc (.cells #[.int .i64 s.ep, .slice ai s.items.length ci, .int .i64 s.base, .slice ah s.handed.length ch, .slice aw s.way.length cw, .slice aa s.acks.length ca] 26)).alloc (.cells #[.int .i64 x.kind, .int .i64 x.kk, .string x.tx] 48)).alloc (.cells #[.int .i64 0, .slice none 0 0, .int .i64 0, .slice none 0 0, .slice none 0 0, .slice none 0 0] 26) := ⟨_, rfl⟩
  rw [← hW0] at HST
  have HX : Hid (type_of% HST.X) := HST.X
  have HP : Hid (type_of% HST.S) := HST.S
  have HZ : Hid (type_of% HST.Z) := HST.Z
  have HR : Hid (type_of% HST.R) := HST.R
  have HT : Hid (type_of% HST.T) := HST.T
  have HnX : Hid (type_of% HST.nX) := HST.nX
  have HnP : Hid (type_of% HST.nS) := HST.nS
  have HnZ : Hid (type_of% HST.nZ) := HST.nZ
  have hil := hg.il
  have hyl := hg.yl
  have hal := hg.al
  have hhl := hg.hl
  have hb0 := hg.b0
  have hb1 := hg.b1
  have he1 := hg.e1
  have hs3 : w.heap.size + 2 < W0.heap.size := HST.Z.low
  have hsB : B ≤ W0.heap.size := by omega
  clear HST hR hg
  have HK : Hid (stK s x = false) := by
    show _ = _
    unfold stK
    rw [if_neg (by omega), if_neg (by omega), if_neg (by omega), if_neg (by omega), if_neg (by omega), if_pos hk]
    unfold inA
    exact decide_eq_false (by omega)
  have HE : Hid (stS s x = s) := by show _ = _; unfold stS; rw [HK.out, if_pos rfl]
  obtain ⟨kind, kk, tx⟩ := x
  dsimp only at *
  subst hk
  go_enter Try.func71, Try.ntmps71
  go_upto_region 1 with fail
  rw [← hW0]
  clear hW0
  have k0 := HP.out.c0
  have k1 := HP.out.c1
  have k2 := HP.out.c2
  have x5 := HX.out.c5
  have y0 := HX.out.c0
  have z0 := HZ.out.c0
  have f0 := HZ.out.f0
  have y1 := HX.out.c1
  have z1 := HZ.out.c1
  have f1 := HZ.out.f1
  have y2 := HX.out.c2
  have z2 := HZ.out.c2
  have f2 := HZ.out.f2
  have y3 := HX.out.c3
  have z3 := HZ.out.c3
  have f3 := HZ.out.f3
  have y4 := HX.out.c4
  have z4 := HZ.out.c4
  have f4 := HZ.out.f4
  have y5 := HX.out.c5
  have z5 := HZ.out.c5
  have f5 := HZ.out.f5
  go_wp2_with fail
  (try simp only [Exit.inBlock, Exit.then])
  rw [HE.out, HK.out]
  refine bodyPost_ret (v := .tuple #[.agg #[.int .i64 s.ep, .slice ai s.items.length ci, .int .i64 s.base, .slice ah s.handed.length ch, .slice aw s.way.length cw, .slice aa s.acks.length ca], .bool false]) ?_ rfl (StO.ret2 (.slice ai s.items.length ci) (.slice ah s.handed.length ch) (.slice aw s.way.length cw) (.slice aa s.acks.length ca) ?_ ?_ ?_)
  · rw [rc]
    go_simp
  · rfl
  · exact HR.out.set6 HnZ.out
  · exact HT.out.set6 (by omega)

set_option maxRecDepth 100000 in
set_option maxHeartbeats 8000000 in
theorem stCut0 (s : Ses) (x : Sp) (B : Nat) (ai ah aw aa : Option Addr) (ci ch cw ca : Nat) (w : World) (hR : SesRow w B s (.slice ai s.items.length ci) (.slice ah s.handed.length ch) (.slice aw s.way.length cw) (.slice aa s.acks.length ca)) (hBw : B ≤ w.heap.size) (hg : Gd s) (hk : x.kind = 7) (h1 : ¬ s.ep < 1000) :
    Calls Try.prog 71 #[.agg #[.int .i64 s.ep, .slice ai s.items.length ci, .int .i64 s.base, .slice ah s.handed.length ch, .slice aw s.way.length cw, .slice aa s.acks.length ca], .agg #[.int .i64 x.kind, .int .i64 x.kk, .string x.tx]] w fun e w' => StO w w' B (.slice ai s.items.length ci) (.slice ah s.handed.length ch) (.slice aw s.way.length cw) (.slice aa s.acks.length ca) (stS s x) (fun v => e = .returned (.tuple #[v, .bool (stK s x)])) := by
  have rc := fun (tmps : Array Value) (P : Program) (w : World) => results_cell1S (fn := Try.f71) (p := 4) (q := 5) (ty := 26) rfl tmps P w
  obtain ⟨i0, hi, hz0, hz1, hz2⟩ := info_parts infoStr
  obtain ⟨p0', hp, hpz0, hpz1, hpz2⟩ := info_parts Try.infoPk
  obtain ⟨q0, hq, hqz0, hqz1, hqz2⟩ := info_parts Try.infoAk
  have HST := Sta.begin x hR
  obtain ⟨W0, hW0⟩ : ∃ X, X = ((w.alloc (.cells #[.int .i64 s.ep, .slice ai s.items.length ci, .int .i64 s.base, .slice ah s.handed.length ch, .slice aw s.way.length cw, .slice aa s.acks.length ca] 26)).alloc (.cells #[.int .i64 x.kind, .int .i64 x.kk, .string x.tx] 48)).alloc (.cells #[.int .i64 0, .slice none 0 0, .int .i64 0, .slice none 0 0, .slice none 0 0, .slice none 0 0] 26) := ⟨_, rfl⟩
  rw [← hW0] at HST
  have HX : Hid (type_of% HST.X) := HST.X
  have HP : Hid (type_of% HST.S) := HST.S
  have HZ : Hid (type_of% HST.Z) := HST.Z
  have HR : Hid (type_of% HST.R) := HST.R
  have HT : Hid (type_of% HST.T) := HST.T
  have HnX : Hid (type_of% HST.nX) := HST.nX
  have HnP : Hid (type_of% HST.nS) := HST.nS
  have HnZ : Hid (type_of% HST.nZ) := HST.nZ
  have hil := hg.il
  have hyl := hg.yl
  have hal := hg.al
  have hhl := hg.hl
  have hb0 := hg.b0
  have hb1 := hg.b1
  have he1 := hg.e1
  have hs3 : w.heap.size + 2 < W0.heap.size := HST.Z.low
  have hsB : B ≤ W0.heap.size := by omega
  clear HST hR hg
  have HK : Hid (stK s x = false) := by
    show _ = _
    unfold stK
    rw [if_neg (by omega), if_neg (by omega), if_neg (by omega), if_neg (by omega), if_neg (by omega), if_neg (by omega), if_pos hk]
    unfold cutK
    exact decide_eq_false (by omega)
  have HE : Hid (stS s x = s) := by show _ = _; unfold stS; rw [HK.out, if_pos rfl]
  have hL : (s.ep == 1000) = true := by simp; omega
  obtain ⟨kind, kk, tx⟩ := x
  dsimp only at *
  subst hk
  go_enter Try.func71, Try.ntmps71
  go_upto_region 1 with fail
  rw [← hW0]
  clear hW0
  have k0 := HP.out.c0
  have k1 := HP.out.c1
  have k2 := HP.out.c2
  have x0 := HX.out.c0
  have y0 := HX.out.c0
  have z0 := HZ.out.c0
  have f0 := HZ.out.f0
  have y1 := HX.out.c1
  have z1 := HZ.out.c1
  have f1 := HZ.out.f1
  have y2 := HX.out.c2
  have z2 := HZ.out.c2
  have f2 := HZ.out.f2
  have y3 := HX.out.c3
  have z3 := HZ.out.c3
  have f3 := HZ.out.f3
  have y4 := HX.out.c4
  have z4 := HZ.out.c4
  have f4 := HZ.out.f4
  have y5 := HX.out.c5
  have z5 := HZ.out.c5
  have f5 := HZ.out.f5
  go_wp2_with fail
  (try simp only [Exit.inBlock, Exit.then])
  rw [HE.out, HK.out]
  refine bodyPost_ret (v := .tuple #[.agg #[.int .i64 s.ep, .slice ai s.items.length ci, .int .i64 s.base, .slice ah s.handed.length ch, .slice aw s.way.length cw, .slice aa s.acks.length ca], .bool false]) ?_ rfl (StO.ret2 (.slice ai s.items.length ci) (.slice ah s.handed.length ch) (.slice aw s.way.length cw) (.slice aa s.acks.length ca) ?_ ?_ ?_)
  · rw [rc]
    go_simp
  · rfl
  · exact HR.out.set6 HnZ.out
  · exact HT.out.set6 (by omega)

set_option maxRecDepth 100000 in
set_option maxHeartbeats 8000000 in
theorem stOth0 (s : Ses) (x : Sp) (B : Nat) (ai ah aw aa : Option Addr) (ci ch cw ca : Nat) (w : World) (hR : SesRow w B s (.slice ai s.items.length ci) (.slice ah s.handed.length ch) (.slice aw s.way.length cw) (.slice aa s.acks.length ca)) (hBw : B ≤ w.heap.size) (hg : Gd s) (k1 : ¬ x.kind = 1) (k2 : ¬ x.kind = 2) (k6 : ¬ x.kind = 6) (k7 : ¬ x.kind = 7) (h1 : x.kk < 0) :
    Calls Try.prog 71 #[.agg #[.int .i64 s.ep, .slice ai s.items.length ci, .int .i64 s.base, .slice ah s.handed.length ch, .slice aw s.way.length cw, .slice aa s.acks.length ca], .agg #[.int .i64 x.kind, .int .i64 x.kk, .string x.tx]] w fun e w' => StO w w' B (.slice ai s.items.length ci) (.slice ah s.handed.length ch) (.slice aw s.way.length cw) (.slice aa s.acks.length ca) (stS s x) (fun v => e = .returned (.tuple #[v, .bool (stK s x)])) := by
  have rc := fun (tmps : Array Value) (P : Program) (w : World) => results_cell1S (fn := Try.f71) (p := 4) (q := 5) (ty := 26) rfl tmps P w
  obtain ⟨i0, hi, hz0, hz1, hz2⟩ := info_parts infoStr
  obtain ⟨p0', hp, hpz0, hpz1, hpz2⟩ := info_parts Try.infoPk
  obtain ⟨q0, hq, hqz0, hqz1, hqz2⟩ := info_parts Try.infoAk
  have HST := Sta.begin x hR
  obtain ⟨W0, hW0⟩ : ∃ X, X = ((w.alloc (.cells #[.int .i64 s.ep, .slice ai s.items.length ci, .int .i64 s.base, .slice ah s.handed.length ch, .slice aw s.way.length cw, .slice aa s.acks.length ca] 26)).alloc (.cells #[.int .i64 x.kind, .int .i64 x.kk, .string x.tx] 48)).alloc (.cells #[.int .i64 0, .slice none 0 0, .int .i64 0, .slice none 0 0, .slice none 0 0, .slice none 0 0] 26) := ⟨_, rfl⟩
  rw [← hW0] at HST
  have HX : Hid (type_of% HST.X) := HST.X
  have HP : Hid (type_of% HST.S) := HST.S
  have HZ : Hid (type_of% HST.Z) := HST.Z
  have HR : Hid (type_of% HST.R) := HST.R
  have HT : Hid (type_of% HST.T) := HST.T
  have HnX : Hid (type_of% HST.nX) := HST.nX
  have HnP : Hid (type_of% HST.nS) := HST.nS
  have HnZ : Hid (type_of% HST.nZ) := HST.nZ
  have hil := hg.il
  have hyl := hg.yl
  have hal := hg.al
  have hhl := hg.hl
  have hb0 := hg.b0
  have hb1 := hg.b1
  have he1 := hg.e1
  have hs3 : w.heap.size + 2 < W0.heap.size := HST.Z.low
  have hsB : B ≤ W0.heap.size := by omega
  clear HST hR hg
  have HK : Hid (stK s x = false) := by
    show _ = _
    have hW : inW s x.kk = false := decide_eq_false (by omega)
    unfold stK
    rw [if_neg k1, if_neg k2]
    unfold twiceK
    rw [hW, if_neg k6, if_neg k7]
    simp
  have HE : Hid (stS s x = s) := by show _ = _; unfold stS; rw [HK.out, if_pos rfl]
  go_enter Try.func71, Try.ntmps71
  go_upto_region 1 with fail
  rw [← hW0]
  clear hW0
  have k0 := HP.out.c0
  have k1 := HP.out.c1
  have k2 := HP.out.c2
  have x4 := HX.out.c4
  have y0 := HX.out.c0
  have z0 := HZ.out.c0
  have f0 := HZ.out.f0
  have y1 := HX.out.c1
  have z1 := HZ.out.c1
  have f1 := HZ.out.f1
  have y2 := HX.out.c2
  have z2 := HZ.out.c2
  have f2 := HZ.out.f2
  have y3 := HX.out.c3
  have z3 := HZ.out.c3
  have f3 := HZ.out.f3
  have y4 := HX.out.c4
  have z4 := HZ.out.c4
  have f4 := HZ.out.f4
  have y5 := HX.out.c5
  have z5 := HZ.out.c5
  have f5 := HZ.out.f5
  go_wp2_with fail
  (try simp only [Exit.inBlock, Exit.then])
  rw [HE.out, HK.out]
  refine bodyPost_ret (v := .tuple #[.agg #[.int .i64 s.ep, .slice ai s.items.length ci, .int .i64 s.base, .slice ah s.handed.length ch, .slice aw s.way.length cw, .slice aa s.acks.length ca], .bool false]) ?_ rfl (StO.ret2 (.slice ai s.items.length ci) (.slice ah s.handed.length ch) (.slice aw s.way.length cw) (.slice aa s.acks.length ca) ?_ ?_ ?_)
  · rw [rc]
    go_simp
  · rfl
  · exact HR.out.set6 HnZ.out
  · exact HT.out.set6 (by omega)

set_option maxRecDepth 100000 in
set_option maxHeartbeats 8000000 in
theorem stOth1 (s : Ses) (x : Sp) (B : Nat) (ai ah aw aa : Option Addr) (ci ch cw ca : Nat) (w : World) (hR : SesRow w B s (.slice ai s.items.length ci) (.slice ah s.handed.length ch) (.slice aw s.way.length cw) (.slice aa s.acks.length ca)) (hBw : B ≤ w.heap.size) (hg : Gd s) (k1 : ¬ x.kind = 1) (k2 : ¬ x.kind = 2) (k6 : ¬ x.kind = 6) (k7 : ¬ x.kind = 7) (h1 : ¬ x.kk < 0) (h2 : (s.way.length : Int) ≤ x.kk) :
    Calls Try.prog 71 #[.agg #[.int .i64 s.ep, .slice ai s.items.length ci, .int .i64 s.base, .slice ah s.handed.length ch, .slice aw s.way.length cw, .slice aa s.acks.length ca], .agg #[.int .i64 x.kind, .int .i64 x.kk, .string x.tx]] w fun e w' => StO w w' B (.slice ai s.items.length ci) (.slice ah s.handed.length ch) (.slice aw s.way.length cw) (.slice aa s.acks.length ca) (stS s x) (fun v => e = .returned (.tuple #[v, .bool (stK s x)])) := by
  have rc := fun (tmps : Array Value) (P : Program) (w : World) => results_cell1S (fn := Try.f71) (p := 4) (q := 5) (ty := 26) rfl tmps P w
  obtain ⟨i0, hi, hz0, hz1, hz2⟩ := info_parts infoStr
  obtain ⟨p0', hp, hpz0, hpz1, hpz2⟩ := info_parts Try.infoPk
  obtain ⟨q0, hq, hqz0, hqz1, hqz2⟩ := info_parts Try.infoAk
  have HST := Sta.begin x hR
  obtain ⟨W0, hW0⟩ : ∃ X, X = ((w.alloc (.cells #[.int .i64 s.ep, .slice ai s.items.length ci, .int .i64 s.base, .slice ah s.handed.length ch, .slice aw s.way.length cw, .slice aa s.acks.length ca] 26)).alloc (.cells #[.int .i64 x.kind, .int .i64 x.kk, .string x.tx] 48)).alloc (.cells #[.int .i64 0, .slice none 0 0, .int .i64 0, .slice none 0 0, .slice none 0 0, .slice none 0 0] 26) := ⟨_, rfl⟩
  rw [← hW0] at HST
  have HX : Hid (type_of% HST.X) := HST.X
  have HP : Hid (type_of% HST.S) := HST.S
  have HZ : Hid (type_of% HST.Z) := HST.Z
  have HR : Hid (type_of% HST.R) := HST.R
  have HT : Hid (type_of% HST.T) := HST.T
  have HnX : Hid (type_of% HST.nX) := HST.nX
  have HnP : Hid (type_of% HST.nS) := HST.nS
  have HnZ : Hid (type_of% HST.nZ) := HST.nZ
  have hil := hg.il
  have hyl := hg.yl
  have hal := hg.al
  have hhl := hg.hl
  have hb0 := hg.b0
  have hb1 := hg.b1
  have he1 := hg.e1
  have hs3 : w.heap.size + 2 < W0.heap.size := HST.Z.low
  have hsB : B ≤ W0.heap.size := by omega
  clear HST hR hg
  have HK : Hid (stK s x = false) := by
    show _ = _
    have hW : inW s x.kk = false := decide_eq_false (by omega)
    unfold stK
    rw [if_neg k1, if_neg k2]
    unfold twiceK
    rw [hW, if_neg k6, if_neg k7]
    simp
  have HE : Hid (stS s x = s) := by show _ = _; unfold stS; rw [HK.out, if_pos rfl]
  go_enter Try.func71, Try.ntmps71
  go_upto_region 1 with fail
  rw [← hW0]
  clear hW0
  have k0 := HP.out.c0
  have k1 := HP.out.c1
  have k2 := HP.out.c2
  have x4 := HX.out.c4
  have y0 := HX.out.c0
  have z0 := HZ.out.c0
  have f0 := HZ.out.f0
  have y1 := HX.out.c1
  have z1 := HZ.out.c1
  have f1 := HZ.out.f1
  have y2 := HX.out.c2
  have z2 := HZ.out.c2
  have f2 := HZ.out.f2
  have y3 := HX.out.c3
  have z3 := HZ.out.c3
  have f3 := HZ.out.f3
  have y4 := HX.out.c4
  have z4 := HZ.out.c4
  have f4 := HZ.out.f4
  have y5 := HX.out.c5
  have z5 := HZ.out.c5
  have f5 := HZ.out.f5
  go_wp2_with fail
  (try simp only [Exit.inBlock, Exit.then])
  rw [HE.out, HK.out]
  refine bodyPost_ret (v := .tuple #[.agg #[.int .i64 s.ep, .slice ai s.items.length ci, .int .i64 s.base, .slice ah s.handed.length ch, .slice aw s.way.length cw, .slice aa s.acks.length ca], .bool false]) ?_ rfl (StO.ret2 (.slice ai s.items.length ci) (.slice ah s.handed.length ch) (.slice aw s.way.length cw) (.slice aa s.acks.length ca) ?_ ?_ ?_)
  · rw [rc]
    go_simp
  · rfl
  · exact HR.out.set6 HnZ.out
  · exact HT.out.set6 (by omega)

set_option maxRecDepth 100000 in
set_option maxHeartbeats 8000000 in
theorem stOth2 (s : Ses) (x : Sp) (B : Nat) (ai ah aw aa : Option Addr) (ci ch cw ca : Nat) (w : World) (hR : SesRow w B s (.slice ai s.items.length ci) (.slice ah s.handed.length ch) (.slice aw s.way.length cw) (.slice aa s.acks.length ca)) (hBw : B ≤ w.heap.size) (hg : Gd s) (k1 : ¬ x.kind = 1) (k2 : ¬ x.kind = 2) (k6 : ¬ x.kind = 6) (k7 : ¬ x.kind = 7) (h1 : ¬ x.kk < 0) (h2 : ¬ (s.way.length : Int) ≤ x.kk) (h3 : ¬ (3 ≤ x.kind ∧ x.kind ≤ 5)) :
    Calls Try.prog 71 #[.agg #[.int .i64 s.ep, .slice ai s.items.length ci, .int .i64 s.base, .slice ah s.handed.length ch, .slice aw s.way.length cw, .slice aa s.acks.length ca], .agg #[.int .i64 x.kind, .int .i64 x.kk, .string x.tx]] w fun e w' => StO w w' B (.slice ai s.items.length ci) (.slice ah s.handed.length ch) (.slice aw s.way.length cw) (.slice aa s.acks.length ca) (stS s x) (fun v => e = .returned (.tuple #[v, .bool (stK s x)])) := by
  have rc := fun (tmps : Array Value) (P : Program) (w : World) => results_cell1S (fn := Try.f71) (p := 4) (q := 5) (ty := 26) rfl tmps P w
  obtain ⟨i0, hi, hz0, hz1, hz2⟩ := info_parts infoStr
  obtain ⟨p0', hp, hpz0, hpz1, hpz2⟩ := info_parts Try.infoPk
  obtain ⟨q0, hq, hqz0, hqz1, hqz2⟩ := info_parts Try.infoAk
  have HST := Sta.begin x hR
  obtain ⟨W0, hW0⟩ : ∃ X, X = ((w.alloc (.cells #[.int .i64 s.ep, .slice ai s.items.length ci, .int .i64 s.base, .slice ah s.handed.length ch, .slice aw s.way.length cw, .slice aa s.acks.length ca] 26)).alloc (.cells #[.int .i64 x.kind, .int .i64 x.kk, .string x.tx] 48)).alloc (.cells #[.int .i64 0, .slice none 0 0, .int .i64 0, .slice none 0 0, .slice none 0 0, .slice none 0 0] 26) := ⟨_, rfl⟩
  rw [← hW0] at HST
  have HX : Hid (type_of% HST.X) := HST.X
  have HP : Hid (type_of% HST.S) := HST.S
  have HZ : Hid (type_of% HST.Z) := HST.Z
  have HR : Hid (type_of% HST.R) := HST.R
  have HT : Hid (type_of% HST.T) := HST.T
  have HnX : Hid (type_of% HST.nX) := HST.nX
  have HnP : Hid (type_of% HST.nS) := HST.nS
  have HnZ : Hid (type_of% HST.nZ) := HST.nZ
  have hil := hg.il
  have hyl := hg.yl
  have hal := hg.al
  have hhl := hg.hl
  have hb0 := hg.b0
  have hb1 := hg.b1
  have he1 := hg.e1
  have hs3 : w.heap.size + 2 < W0.heap.size := HST.Z.low
  have hsB : B ≤ W0.heap.size := by omega
  clear HST hR hg
  have HK : Hid (stK s x = false) := by
    show _ = _
    unfold stK
    rw [if_neg k1, if_neg k2]
    rw [if_neg (by omega), if_neg (by omega), if_neg (by omega), if_neg k6, if_neg k7]
  have HE : Hid (stS s x = s) := by show _ = _; unfold stS; rw [HK.out, if_pos rfl]
  have CI := l1InT x.kind 3 5 W0
  rw [decide_eq_false h3] at CI
  go_enter Try.func71, Try.ntmps71
  go_upto_region 1 with fail
  rw [← hW0]
  clear hW0
  have k0 := HP.out.c0
  have k1 := HP.out.c1
  have k2 := HP.out.c2
  have x4 := HX.out.c4
  go_wp2_with fail
  go_at_call 59
  refine CI.mono ?_
  rintro e w2 ⟨rfl, hw2⟩
  have hw2 := hw2.symm
  subst hw2
  clear x4
  have y0 := HX.out.c0
  have z0 := HZ.out.c0
  have f0 := HZ.out.f0
  have y1 := HX.out.c1
  have z1 := HZ.out.c1
  have f1 := HZ.out.f1
  have y2 := HX.out.c2
  have z2 := HZ.out.c2
  have f2 := HZ.out.f2
  have y3 := HX.out.c3
  have z3 := HZ.out.c3
  have f3 := HZ.out.f3
  have y4 := HX.out.c4
  have z4 := HZ.out.c4
  have f4 := HZ.out.f4
  have y5 := HX.out.c5
  have z5 := HZ.out.c5
  have f5 := HZ.out.f5
  go_wp2_with fail
  (try simp only [Exit.inBlock, Exit.then])
  rw [HE.out, HK.out]
  refine bodyPost_ret (v := .tuple #[.agg #[.int .i64 s.ep, .slice ai s.items.length ci, .int .i64 s.base, .slice ah s.handed.length ch, .slice aw s.way.length cw, .slice aa s.acks.length ca], .bool false]) ?_ rfl (StO.ret2 (.slice ai s.items.length ci) (.slice ah s.handed.length ch) (.slice aw s.way.length cw) (.slice aa s.acks.length ca) ?_ ?_ ?_)
  · rw [rc]
    go_simp
  · rfl
  · exact HR.out.set6 HnZ.out
  · exact HT.out.set6 (by omega)

end Go.Proofs.Ytnlppeieccbhgaa
