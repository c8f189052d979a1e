/- The model's l15Step: an item is sent. The model's l15Step: an ack is taken. The model's l15Step: a packet is lost. The model's l15Step: a packet is taken. The model's l15Step: put together. -/
import Derived.Test.YtnlppeieccbhgaaSnE
namespace Go.Proofs.Ytnlppeieccbhgaa
open Go.RowKit Plain Tpc Ssn

theorem drew_grown2 {w w9 : World} {o : Obj} {r : Option Nat} (h : (w.drew.alloc o).grownBy w9 r) : (w.alloc o).grownBy w9 r := ⟨h.os, h.tape, h.output, h.size, h.block⟩

set_option maxRecDepth 100000 in
set_option maxHeartbeats 8000000 in
theorem stSend4 (s : Ses) (x : Sp) (B : Nat) (ai ah aw aa : Option Addr) (ci ch cw ca : Nat) (w : World) (hR : SesRow w B s (.slice ai s.items.length ci) (.slice ah s.handed.length ch) (.slice aw s.way.length cw) (.slice aa s.acks.length ca)) (hBw : B ≤ w.heap.size) (hg : Gd s) (hk : x.kind = 2) (h1 : ¬ x.kk < s.base) (h2 : ¬ s.base + 4 ≤ x.kk) (h3 : ¬ (s.items.length : Int) ≤ x.kk) (h4 : s.way.length < 12) :
    Calls Try.prog 71 #[.agg #[.int .i64 s.ep, .slice ai s.items.length ci, .int .i64 s.base, .slice ah s.handed.length ch, .slice aw s.way.length cw, .slice aa s.acks.length ca], .agg #[.int .i64 x.kind, .int .i64 x.kk, .string x.tx]] w fun e w' => StO w w' B (.slice ai s.items.length ci) (.slice ah s.handed.length ch) (.slice aw s.way.length cw) (.slice aa s.acks.length ca) (stS s x) (fun v => e = .returned (.tuple #[v, .bool (stK s x)])) := by
  have rc := fun (tmps : Array Value) (P : Program) (w : World) => results_cell1S (fn := Try.f71) (p := 4) (q := 5) (ty := 26) rfl tmps P w
  obtain ⟨i0, hi, hz0, hz1, hz2⟩ := info_parts infoStr
  obtain ⟨p0', hp, hpz0, hpz1, hpz2⟩ := info_parts Try.infoPk
  obtain ⟨q0, hq, hqz0, hqz1, hqz2⟩ := info_parts Try.infoAk
  have HST := Sta.begin x hR
  obtain ⟨W0, hW0⟩ : ∃ X, X = ((w.alloc (.cells #[.int .i64 s.ep, .slice ai s.items.length ci, .int .i64 s.base, .slice ah s.handed.length ch, .slice aw s.way.length cw, .slice aa s.acks.length ca] 26)).alloc (.cells #[.int .i64 x.kind, .int .i64 x.kk, .string x.tx] 48)).alloc (.cells #[.int .i64 0, .slice none 0 0, .int .i64 0, .slice none 0 0, .slice none 0 0, .slice none 0 0] 26) := ⟨_, rfl⟩
  rw [← hW0] at HST
  have HX : Hid (type_of% HST.X) := HST.X
  have HP : Hid (type_of% HST.S) := HST.S
  have HZ : Hid (type_of% HST.Z) := HST.Z
  have HR : Hid (type_of% HST.R) := HST.R
  have HT : Hid (type_of% HST.T) := HST.T
  have HnX : Hid (type_of% HST.nX) := HST.nX
  have HnP : Hid (type_of% HST.nS) := HST.nS
  have HnZ : Hid (type_of% HST.nZ) := HST.nZ
  have hil := hg.il
  have hyl := hg.yl
  have hal := hg.al
  have hhl := hg.hl
  have hb0 := hg.b0
  have hb1 := hg.b1
  have he1 := hg.e1
  have hs3 : w.heap.size + 2 < W0.heap.size := HST.Z.low
  have hsB : B ≤ W0.heap.size := by omega
  clear HST hR hg
  have HK : Hid (stK s x = true) := by
    show _ = _
    unfold stK
    rw [if_neg (by omega), if_pos hk]
    unfold sendK
    rw [decide_eq_true h4, decide_eq_true (show s.base ≤ x.kk by omega), decide_eq_true (show x.kk < s.base + 4 by omega), decide_eq_true (show x.kk < (s.items.length : Int) by omega)]; rfl
  have HE : Hid (stS s x = sendS s x.kk) := by
    show _ = _
    unfold stS
    rw [HK.out, if_neg (by decide)]
    rw [if_neg (by omega), if_pos hk]
  have hL : ((s.way.length : Int) == 12) = false := by simp; omega
  have hw4 : IntKind.i64.wrap (s.base + 4) = s.base + 4 := by rw [IntKind.wrap_i64]; omega
  obtain ⟨kn, hkn⟩ : ∃ n : Nat, x.kk = (n : Int) := ⟨x.kk.toNat, by omega⟩
  obtain ⟨_, _, hvv, _, hcw, hrow⟩ := HR.out.at.i
  simp only [Value.slice.injEq] at hvv
  obtain ⟨rfl, _, rfl⟩ := hvv
  unfold maxLen at hcw
  obtain ⟨gw, ow, rfl, hgw, hin⟩ := hrow kn (by omega)
  clear hrow
  have hkt : x.kk.toNat = kn := by omega
  have HE : Hid (stS s x = { s with way := s.way ++ [⟨s.ep, (kn : Int), lq s.items kn⟩] }) := by show _ = _; rw [HE.out]; unfold sendS; rw [hkt, hkn]
  have HIT : Hid (∀ W B, StAt W B (.slice (some ⟨gw, ow, none⟩) s.items.length ci) s.items → W.cell? ⟨gw, ow + kn, none⟩ = some (.string (lq s.items kn))) := fun W B h => by
    obtain ⟨_, _, hvv, _, _, hr⟩ := h
    simp only [Value.slice.injEq] at hvv
    obtain ⟨g2, o2, ha, _, c⟩ := hr kn (by omega)
    rw [← hvv.1] at ha
    simp only [Option.some.injEq, Addr.mk.injEq, and_true] at ha
    obtain ⟨rfl, rfl⟩ := ha
    exact c
  generalize lq s.items kn = tq at hin HE HIT
  obtain ⟨kind, kk, tx⟩ := x
  dsimp only at *
  subst hk hkn
  go_enter Try.func71, Try.ntmps71
  go_upto_region 1 with fail
  rw [← hW0]
  clear hW0
  have k0 := HP.out.c0
  have k1 := HP.out.c1
  have k2 := HP.out.c2
  have x0 := HX.out.c0
  have x1 := HX.out.c1
  have x2 := HX.out.c2
  have x4 := HX.out.c4
  go_upto_region 10 with fail
  have HSS : Hid (∀ W', Below W0.heap.size W0 W' → W'.cell? ⟨w.heap.size, 4, none⟩ = some (.slice aw s.way.length cw) ∧ W'.cell? ⟨w.heap.size, 0, none⟩ = some (.int .i64 s.ep) ∧ W'.cell? ⟨w.heap.size + 1, 1, none⟩ = some (.int .i64 (kn : Int)) ∧ W'.cell? ⟨w.heap.size, 1, none⟩ = some (.slice (some ⟨gw, ow, none⟩) s.items.length ci) ∧ W'.cell? ⟨gw, ow + kn, none⟩ = some (.string tq)) := fun W' hb => ⟨(HX.out.below hb).c4, (HX.out.below hb).c0, (HP.out.below hb).c1, (HX.out.below hb).c1, (hb.cell (p := ⟨gw, ow + kn, none⟩) hgw).trans hin⟩
  clear x0 x1 x2 x4 k0 k1 k2
  have hknI : (kn : Int) < (s.items.length : Int) := by omega
  refine wpE_begin (fun W' => W'.cell? ⟨w.heap.size, 4, none⟩ = some (.slice aw s.way.length cw) ∧ W'.cell? ⟨w.heap.size, 0, none⟩ = some (.int .i64 s.ep) ∧ W'.cell? ⟨w.heap.size + 1, 1, none⟩ = some (.int .i64 (kn : Int)) ∧ W'.cell? ⟨w.heap.size, 1, none⟩ = some (.slice (some ⟨gw, ow, none⟩) s.items.length ci) ∧ W'.cell? ⟨gw, ow + kn, none⟩ = some (.string tq)) 16 (by kernel_rfl) ?_
  have hHeld := HSS.out _ (Below.refl _ W0).drew
  have hSS : (fun W' : World => W'.cell? ⟨w.heap.size, 4, none⟩ = some (.slice aw s.way.length cw) ∧ W'.cell? ⟨w.heap.size, 0, none⟩ = some (.int .i64 s.ep) ∧ W'.cell? ⟨w.heap.size + 1, 1, none⟩ = some (.int .i64 (kn : Int)) ∧ W'.cell? ⟨w.heap.size, 1, none⟩ = some (.slice (some ⟨gw, ow, none⟩) s.items.length ci) ∧ W'.cell? ⟨gw, ow + kn, none⟩ = some (.string tq)) _ := hHeld
  clear hHeld
  refine wpE_take 0 (oi := { dst := some 61, op := Op.fieldAddr 26 (Operand.tmp 2) 4, type := 0, pos := "l15_session.go:77", after := #[], guard := none }) ?vq1 rfl (by kernel_rfl) (by kernel_rfl) (by kernel_rfl) (by kernel_rfl) (fun _ _ _ h => h) (Or.inl ⟨by rfl, ?hy1⟩) (by assumption) ?rest1
  case hy1 =>
    first
      | (intro w hSw; (try dsimp only at hSw); go_simp; done)
      | (intro w hSw; (try dsimp only at hSw); go_simp; with_reducible rfl)
  try simp only [Act.put, List.setIfInBounds_toArray, List.set_cons_zero, List.set_cons_succ]
  refine wpE_take 2 (oi := { dst := some 63, op := Op.fieldAddr 26 (Operand.tmp 2) 0, type := 0, pos := "l15_session.go:77", after := #[], guard := none }) ?vq2 rfl (by kernel_rfl) (by kernel_rfl) (by kernel_rfl) (by kernel_rfl) (fun _ _ _ h => h) (Or.inl ⟨by rfl, ?hy2⟩) (by assumption) ?rest2
  case hy2 =>
    first
      | (intro w hSw; (try dsimp only at hSw); go_simp; done)
      | (intro w hSw; (try dsimp only at hSw); go_simp; with_reducible rfl)
  try simp only [Act.put, List.setIfInBounds_toArray, List.set_cons_zero, List.set_cons_succ]
  refine wpE_take 4 (oi := { dst := some 65, op := Op.fieldAddr 48 (Operand.tmp 3) 1, type := 0, pos := "l15_session.go:77", after := #[], guard := none }) ?vq3 rfl (by kernel_rfl) (by kernel_rfl) (by kernel_rfl) (by kernel_rfl) (fun _ _ _ h => h) (Or.inl ⟨by rfl, ?hy3⟩) (by assumption) ?rest3
  case hy3 =>
    first
      | (intro w hSw; (try dsimp only at hSw); go_simp; done)
      | (intro w hSw; (try dsimp only at hSw); go_simp; with_reducible rfl)
  try simp only [Act.put, List.setIfInBounds_toArray, List.set_cons_zero, List.set_cons_succ]
  refine wpE_take 6 (oi := { dst := some 67, op := Op.fieldAddr 26 (Operand.tmp 2) 1, type := 0, pos := "l15_session.go:77", after := #[], guard := none }) ?vq4 rfl (by kernel_rfl) (by kernel_rfl) (by kernel_rfl) (by kernel_rfl) (fun _ _ _ h => h) (Or.inl ⟨by rfl, ?hy4⟩) (by assumption) ?rest4
  case hy4 =>
    first
      | (intro w hSw; (try dsimp only at hSw); go_simp; done)
      | (intro w hSw; (try dsimp only at hSw); go_simp; with_reducible rfl)
  try simp only [Act.put, List.setIfInBounds_toArray, List.set_cons_zero, List.set_cons_succ]
  refine wpE_take 8 (oi := { dst := some 69, op := Op.fieldAddr 48 (Operand.tmp 3) 1, type := 0, pos := "l15_session.go:77", after := #[], guard := none }) ?vq5 rfl (by kernel_rfl) (by kernel_rfl) (by kernel_rfl) (by kernel_rfl) (fun _ _ _ h => h) (Or.inl ⟨by rfl, ?hy5⟩) (by assumption) ?rest5
  case hy5 =>
    first
      | (intro w hSw; (try dsimp only at hSw); go_simp; done)
      | (intro w hSw; (try dsimp only at hSw); go_simp; with_reducible rfl)
  try simp only [Act.put, List.setIfInBounds_toArray, List.set_cons_zero, List.set_cons_succ]
  refine wpE_take 1 (oi := { dst := some 62, op := Op.load 23 (Operand.tmp 61), type := 23, pos := "l15_session.go:77", after := #[{ on := 0, ground := Ground.data }], guard := none }) ?vq6 rfl (by kernel_rfl) (by kernel_rfl) (by kernel_rfl) (by kernel_rfl) (fun _ _ _ h => h) (Or.inl ⟨by rfl, ?hy6⟩) (by assumption) ?rest6
  case hy6 =>
    first
      | (intro w hSw; (try dsimp only at hSw); go_simp; done)
      | (intro w hSw; (try dsimp only at hSw); go_simp; with_reducible rfl)
  try simp only [Act.put, List.setIfInBounds_toArray, List.set_cons_zero, List.set_cons_succ]
  refine wpE_take 3 (oi := { dst := some 64, op := Op.load 3 (Operand.tmp 63), type := 3, pos := "l15_session.go:77", after := #[{ on := 2, ground := Ground.data }], guard := none }) ?vq7 rfl (by kernel_rfl) (by kernel_rfl) (by kernel_rfl) (by kernel_rfl) (fun _ _ _ h => h) (Or.inl ⟨by rfl, ?hy7⟩) (by assumption) ?rest7
  case hy7 =>
    first
      | (intro w hSw; (try dsimp only at hSw); go_simp; done)
      | (intro w hSw; (try dsimp only at hSw); go_simp; with_reducible rfl)
  try simp only [Act.put, List.setIfInBounds_toArray, List.set_cons_zero, List.set_cons_succ]
  refine wpE_take 5 (oi := { dst := some 66, op := Op.load 3 (Operand.tmp 65), type := 3, pos := "l15_session.go:77", after := #[{ on := 4, ground := Ground.data }], guard := none }) ?vq8 rfl (by kernel_rfl) (by kernel_rfl) (by kernel_rfl) (by kernel_rfl) (fun _ _ _ h => h) (Or.inl ⟨by rfl, ?hy8⟩) (by assumption) ?rest8
  case hy8 =>
    first
      | (intro w hSw; (try dsimp only at hSw); go_simp; done)
      | (intro w hSw; (try dsimp only at hSw); go_simp; with_reducible rfl)
  try simp only [Act.put, List.setIfInBounds_toArray, List.set_cons_zero, List.set_cons_succ]
  refine wpE_take 7 (oi := { dst := some 68, op := Op.load 22 (Operand.tmp 67), type := 22, pos := "l15_session.go:77", after := #[{ on := 6, ground := Ground.data }], guard := none }) ?vq9 rfl (by kernel_rfl) (by kernel_rfl) (by kernel_rfl) (by kernel_rfl) (fun _ _ _ h => h) (Or.inl ⟨by rfl, ?hy9⟩) (by assumption) ?rest9
  case hy9 =>
    first
      | (intro w hSw; (try dsimp only at hSw); go_simp; done)
      | (intro w hSw; (try dsimp only at hSw); go_simp; with_reducible rfl)
  try simp only [Act.put, List.setIfInBounds_toArray, List.set_cons_zero, List.set_cons_succ]
  refine wpE_take 9 (oi := { dst := some 70, op := Op.load 3 (Operand.tmp 69), type := 3, pos := "l15_session.go:77", after := #[{ on := 8, ground := Ground.data }], guard := none }) ?vq10 rfl (by kernel_rfl) (by kernel_rfl) (by kernel_rfl) (by kernel_rfl) (fun _ _ _ h => h) (Or.inl ⟨by rfl, ?hy10⟩) (by assumption) ?rest10
  case hy10 =>
    first
      | (intro w hSw; (try dsimp only at hSw); go_simp; done)
      | (intro w hSw; (try dsimp only at hSw); go_simp; with_reducible rfl)
  try simp only [Act.put, List.setIfInBounds_toArray, List.set_cons_zero, List.set_cons_succ]
  refine wpE_take 10 (oi := { dst := some 71, op := Op.indexAddr 22 (Operand.tmp 68) (Operand.tmp 70), type := 0, pos := "l15_session.go:77", after := #[{ on := 7, ground := Ground.data }, { on := 9, ground := Ground.data }], guard := none }) ?vq11 rfl (by kernel_rfl) (by kernel_rfl) (by kernel_rfl) (by kernel_rfl) (fun _ _ _ h => h) (Or.inl ⟨by rfl, ?hy11⟩) (by assumption) ?rest11
  case hy11 =>
    first
      | (intro w hSw; (try dsimp only at hSw); go_simp; done)
      | (intro w hSw; (try dsimp only at hSw); go_simp; with_reducible rfl)
  try simp only [Act.put, List.setIfInBounds_toArray, List.set_cons_zero, List.set_cons_succ]
  refine wpE_take 11 (oi := { dst := some 72, op := Op.load 9 (Operand.tmp 71), type := 9, pos := "l15_session.go:77", after := #[{ on := 10, ground := Ground.data }], guard := none }) ?vq12 rfl (by kernel_rfl) (by kernel_rfl) (by kernel_rfl) (by kernel_rfl) (fun _ _ _ h => h) (Or.inl ⟨by rfl, ?hy12⟩) (by assumption) ?rest12
  case hy12 =>
    first
      | (intro w hSw; (try dsimp only at hSw); go_simp; done)
      | (intro w hSw; (try dsimp only at hSw); go_simp; with_reducible rfl)
  try simp only [Act.put, List.setIfInBounds_toArray, List.set_cons_zero, List.set_cons_succ]
  refine wpE_take 12 (oi := { dst := some 73, op := Op.build 84 #[(0, Operand.tmp 64), (1, Operand.tmp 66), (2, Operand.tmp 72)], type := 84, pos := "l15_session.go:77", after := #[{ on := 3, ground := Ground.data }, { on := 5, ground := Ground.data }, { on := 11, ground := Ground.data }], guard := none }) ?vq13 rfl (by kernel_rfl) (by kernel_rfl) (by kernel_rfl) (by kernel_rfl) (fun _ _ _ h => h) (Or.inl ⟨by rfl, ?hy13⟩) (by assumption) ?rest13
  case hy13 =>
    first
      | (intro w hSw; (try dsimp only at hSw); go_simp; done)
      | (intro w hSw; (try dsimp only at hSw); go_simp; with_reducible rfl)
  try simp only [Act.put, List.setIfInBounds_toArray, List.set_cons_zero, List.set_cons_succ]
  refine wpE_one 13 (o := { dst := some 74, op := Op.buildSlice 23 1 #[(0, Operand.tmp 73)], type := 23, pos := "l15_session.go:77", after := #[{ on := 12, ground := Ground.data }], guard := none }) (by kernel_rfl) rfl (fun K hK => ?_)
  go_simp
  refine hK.out _ _ (fun h => HSS.out _ ((Below.refl _ W0).drew.alloc (by simp) _)) ?_
  clear hK K
  try simp only [Act.put, List.setIfInBounds_toArray, List.set_cons_zero, List.set_cons_succ]
  have HNW : Hid (∀ j u, (Pk.cells ⟨s.ep, (kn : Int), tq⟩)[j]? = some u → (W0.drew.alloc (.cells #[.int .i64 s.ep, .int .i64 (kn : Int), .string tq] 84)).cell? ((⟨W0.heap.size, 0, none⟩ : Addr).add j) = some u) := fun j u h => World.news_of_block (heap_alloc_new W0.drew (.cells #[.int .i64 s.ep, .int .i64 (kn : Int), .string tq] 84)) j u h
  refine wpE_one 14 (o := { dst := some 75, op := Op.call { callee := Callee.builtin Builtin.append, args := #[Operand.tmp 62, Operand.tmp 74], argTypes := #[23, 23] }, type := 23, pos := "l15_session.go:77", after := #[{ on := 1, ground := Ground.data }, { on := 13, ground := Ground.data }], guard := none }) (by kernel_rfl) rfl (fun K hK => ?_)
  refine step_append_lies _ rfl _ _ _ rfl B 84 p0' (.agg #[.int .i64 0, .int .i64 0, .string ⟨#[]⟩]) 3 32 Try.underlying23 hp hpz0 hpz1 hpz2 rfl (by decide) _ s.way.length _ rfl (own_belowY HR.out.y ((Below.refl _ W0).drew.alloc (by simp) _)) ⟨W0.heap.size, 0, none⟩ 1 1 (Pk.cells ⟨s.ep, (kn : Int), tq⟩) rfl rfl HNW.out (Pk.cells_one _) (by omega) (by unfold maxLen; omega) (by omega) (by simp; omega) (W0.heap.size + 1) (by simp) ?_
  intro g9 cap9 w9 hown9 hgrow9 hat9 hlt9
  have hQ := SesRow.appY (W := W0) HR.out hown9 rfl (drew_grown2 hgrow9) hat9
  have HX9 := HX.out.step hQ.2 HnX.out
  have HP9 := HP.out.step hQ.2 HnP.out
  have HZ9 := HZ.out.step hQ.2 HnZ.out
  have HnX9 := hQ.2.avoid HX.out.low HnX.out
  have HnP9 := hQ.2.avoid HP.out.low HnP.out
  have HnZ9 := hQ.2.avoid HZ.out.low HnZ.out
  have HQ : Hid (type_of% hQ) := hQ
  have h9 : Hid (W0.heap.size ≤ w9.heap.size) := hQ.2.size
  have hit := HIT.out w9 _ hQ.1.at.i
  clear hown9 hgrow9 hat9 hlt9 hQ
  refine hK.out _ _ (fun h => ⟨HX9.c4, HX9.c0, HP9.c1, HX9.c1, hit⟩) ?_
  clear hK K
  try simp only [Act.put, List.setIfInBounds_toArray, List.set_cons_zero, List.set_cons_succ]
  have hS9 : (fun W' : World => W'.cell? ⟨w.heap.size, 4, none⟩ = some (.slice aw s.way.length cw) ∧ W'.cell? ⟨w.heap.size, 0, none⟩ = some (.int .i64 s.ep) ∧ W'.cell? ⟨w.heap.size + 1, 1, none⟩ = some (.int .i64 (kn : Int)) ∧ W'.cell? ⟨w.heap.size, 1, none⟩ = some (.slice (some ⟨gw, ow, none⟩) s.items.length ci) ∧ W'.cell? ⟨gw, ow + kn, none⟩ = some (.string tq)) w9 := ⟨HX9.c4, HX9.c0, HP9.c1, HX9.c1, hit⟩
  refine wpE_take 15 (oi := { dst := some 76, op := Op.fieldAddr 26 (Operand.tmp 2) 4, type := 0, pos := "l15_session.go:77", after := #[{ on := 0, ground := Ground.phase }, { on := 1, ground := Ground.phase }, { on := 2, ground := Ground.phase }, { on := 3, ground := Ground.phase }, { on := 4, ground := Ground.phase }, { on := 5, ground := Ground.phase }, { on := 6, ground := Ground.phase }, { on := 7, ground := Ground.phase }, { on := 8, ground := Ground.phase }, { on := 9, ground := Ground.phase }, { on := 10, ground := Ground.phase }, { on := 11, ground := Ground.phase }, { on := 12, ground := Ground.phase }, { on := 13, ground := Ground.phase }, { on := 14, ground := Ground.phase }], guard := none }) ?vq14 rfl (by kernel_rfl) (by kernel_rfl) (by kernel_rfl) (by kernel_rfl) (fun _ _ _ h => h) (Or.inl ⟨by rfl, ?hy14⟩) (by assumption) ?rest14
  case hy14 =>
    first
      | (intro w hSw; (try dsimp only at hSw); go_simp; done)
      | (intro w hSw; (try dsimp only at hSw); go_simp; with_reducible rfl)
  try simp only [Act.put, List.setIfInBounds_toArray, List.set_cons_zero, List.set_cons_succ]
  clear hS9
  have y4 := HX9.c4
  have g4 := HX9.f4
  refine wpE_one 16 (o := { dst := none, op := Op.store 23 (Operand.tmp 76) (Operand.tmp 75), type := 0, pos := "l15_session.go:77", after := #[{ on := 15, ground := Ground.data }, { on := 14, ground := Ground.data }, { on := 14, ground := Ground.chain }, { on := 0, ground := Ground.phase }, { on := 1, ground := Ground.phase }, { on := 2, ground := Ground.phase }, { on := 3, ground := Ground.phase }, { on := 4, ground := Ground.phase }, { on := 5, ground := Ground.phase }, { on := 6, ground := Ground.phase }, { on := 7, ground := Ground.phase }, { on := 8, ground := Ground.phase }, { on := 9, ground := Ground.phase }, { on := 10, ground := Ground.phase }, { on := 11, ground := Ground.phase }, { on := 12, ground := Ground.phase }, { on := 13, ground := Ground.phase }, { on := 14, ground := Ground.phase }], guard := none }) (by kernel_rfl) rfl (fun K hK => ?_)
  go_simp
  refine hK.out _ _ (fun h => absurd rfl h) ?_
  clear hK K
  try simp only [Act.put, List.setIfInBounds_toArray, List.set_cons_zero, List.set_cons_succ]
  refine wpE_done (by kernel_rfl) ?_ _
  go_upto_region 11 with fail
  obtain ⟨V1, hV1⟩ : ∃ X, X = w9.setCell ⟨w.heap.size, 4, none⟩ (.slice (some ⟨g9, 0, none⟩) (s.way.length + 1) cap9) := ⟨_, rfl⟩
  have HX : Hid (type_of% (HX9.set4 (.slice (some ⟨g9, 0, none⟩) (s.way.length + 1) cap9))) := HX9.set4 (.slice (some ⟨g9, 0, none⟩) (s.way.length + 1) cap9)
  have HP : Hid (type_of% (HP9.apart (c := w.heap.size) (k := 4) (u := (.slice (some ⟨g9, 0, none⟩) (s.way.length + 1) cap9)) (by omega))) := HP9.apart (c := w.heap.size) (k := 4) (u := (.slice (some ⟨g9, 0, none⟩) (s.way.length + 1) cap9)) (by omega)
  have HZ : Hid (type_of% (HZ9.apart (c := w.heap.size) (k := 4) (u := (.slice (some ⟨g9, 0, none⟩) (s.way.length + 1) cap9)) (by omega))) := HZ9.apart (c := w.heap.size) (k := 4) (u := (.slice (some ⟨g9, 0, none⟩) (s.way.length + 1) cap9)) (by omega)
  have HR : Hid (type_of% (HQ.out.1.setC (k := 4) (u := (.slice (some ⟨g9, 0, none⟩) (s.way.length + 1) cap9)) HnX9)) := HQ.out.1.setC (k := 4) (u := (.slice (some ⟨g9, 0, none⟩) (s.way.length + 1) cap9)) HnX9
  have HT : Hid (type_of% ((HT.out.trans HQ.out.2).setCell w.heap.size 4 (.slice (some ⟨g9, 0, none⟩) (s.way.length + 1) cap9) (Nat.le_refl _))) := (HT.out.trans HQ.out.2).setCell w.heap.size 4 (.slice (some ⟨g9, 0, none⟩) (s.way.length + 1) cap9) (Nat.le_refl _)
  have HnX : Hid (type_of% HnX9) := HnX9
  have HnP : Hid (type_of% HnP9) := HnP9
  have HnZ : Hid (type_of% HnZ9) := HnZ9
  rw [← hV1] at HX HP HZ HR HT ⊢
  have hs3 : w.heap.size + 2 < V1.heap.size := HZ.out.low
  clear hV1 HX9 HP9 HZ9 HnX9 HnP9 HnZ9 HQ y4 g4 h9
  clear hSS hit
  have y0 := HX.out.c0
  have z0 := HZ.out.c0
  have f0 := HZ.out.f0
  have y1 := HX.out.c1
  have z1 := HZ.out.c1
  have f1 := HZ.out.f1
  have y2 := HX.out.c2
  have z2 := HZ.out.c2
  have f2 := HZ.out.f2
  have y3 := HX.out.c3
  have z3 := HZ.out.c3
  have f3 := HZ.out.f3
  have y4 := HX.out.c4
  have z4 := HZ.out.c4
  have f4 := HZ.out.f4
  have y5 := HX.out.c5
  have z5 := HZ.out.c5
  have f5 := HZ.out.f5
  go_wp2_with fail
  (try simp only [Exit.inBlock, Exit.then])
  rw [HE.out, HK.out]
  refine bodyPost_ret (v := .tuple #[.agg #[.int .i64 s.ep, .slice (some ⟨gw, ow, none⟩) s.items.length ci, .int .i64 s.base, .slice ah s.handed.length ch, .slice (some ⟨g9, 0, none⟩) (s.way.length + 1) cap9, .slice aa s.acks.length ca], .bool true]) ?_ rfl (StO.ret2 (.slice (some ⟨gw, ow, none⟩) s.items.length ci) (.slice ah s.handed.length ch) (.slice (some ⟨g9, 0, none⟩) (s.way.length + 1) cap9) (.slice aa s.acks.length ca) ?_ ?_ ?_)
  · rw [rc]
    go_simp
  · rfl
  · exact HR.out.set6 HnZ.out
  · exact HT.out.set6 (by omega)

end Go.Proofs.Ytnlppeieccbhgaa

namespace Go.Proofs.Ytnlppeieccbhgaa
open Go.RowKit Plain Tpc Ssn

set_option maxRecDepth 100000 in
set_option maxHeartbeats 8000000 in
theorem stAck2 (s : Ses) (x : Sp) (B : Nat) (ai ah aw aa : Option Addr) (ci ch cw ca : Nat) (w : World) (hR : SesRow w B s (.slice ai s.items.length ci) (.slice ah s.handed.length ch) (.slice aw s.way.length cw) (.slice aa s.acks.length ca)) (hBw : B ≤ w.heap.size) (hg : Gd s) (hk : x.kind = 6) (h1 : 0 ≤ x.kk) (h2 : x.kk < (s.acks.length : Int))  :
    Calls Try.prog 71 #[.agg #[.int .i64 s.ep, .slice ai s.items.length ci, .int .i64 s.base, .slice ah s.handed.length ch, .slice aw s.way.length cw, .slice aa s.acks.length ca], .agg #[.int .i64 x.kind, .int .i64 x.kk, .string x.tx]] w fun e w' => StO w w' B (.slice ai s.items.length ci) (.slice ah s.handed.length ch) (.slice aw s.way.length cw) (.slice aa s.acks.length ca) (stS s x) (fun v => e = .returned (.tuple #[v, .bool (stK s x)])) := by
  have rc := fun (tmps : Array Value) (P : Program) (w : World) => results_cell1S (fn := Try.f71) (p := 4) (q := 5) (ty := 26) rfl tmps P w
  obtain ⟨i0, hi, hz0, hz1, hz2⟩ := info_parts infoStr
  obtain ⟨p0', hp, hpz0, hpz1, hpz2⟩ := info_parts Try.infoPk
  obtain ⟨q0, hq, hqz0, hqz1, hqz2⟩ := info_parts Try.infoAk
  have HST := Sta.begin x hR
  obtain ⟨W0, hW0⟩ : ∃ X, X = ((w.alloc (.cells #[.int .i64 s.ep, .slice ai s.items.length ci, .int .i64 s.base, .slice ah s.handed.length ch, .slice aw s.way.length cw, .slice aa s.acks.length ca] 26)).alloc (.cells #[.int .i64 x.kind, .int .i64 x.kk, .string x.tx] 48)).alloc (.cells #[.int .i64 0, .slice none 0 0, .int .i64 0, .slice none 0 0, .slice none 0 0, .slice none 0 0] 26) := ⟨_, rfl⟩
  rw [← hW0] at HST
  have HX : Hid (type_of% HST.X) := HST.X
  have HP : Hid (type_of% HST.S) := HST.S
  have HZ : Hid (type_of% HST.Z) := HST.Z
  have HR : Hid (type_of% HST.R) := HST.R
  have HT : Hid (type_of% HST.T) := HST.T
  have HnX : Hid (type_of% HST.nX) := HST.nX
  have HnP : Hid (type_of% HST.nS) := HST.nS
  have HnZ : Hid (type_of% HST.nZ) := HST.nZ
  have hil := hg.il
  have hyl := hg.yl
  have hal := hg.al
  have hhl := hg.hl
  have hb0 := hg.b0
  have hb1 := hg.b1
  have he1 := hg.e1
  have hs3 : w.heap.size + 2 < W0.heap.size := HST.Z.low
  have hsB : B ≤ W0.heap.size := by omega
  clear HST hR hg
  have HK : Hid (stK s x = true) := by
    show _ = _
    unfold stK
    rw [if_neg (by omega), if_neg (by omega), if_neg (by omega), if_neg (by omega), if_neg (by omega), if_pos hk]
    unfold inA
    exact decide_eq_true ⟨h1, h2⟩
  have HE : Hid (stS s x = ackS s x.kk) := by
    show _ = _
    unfold stS
    rw [HK.out, if_neg (by decide)]
    rw [if_neg (by omega), if_neg (by omega), if_neg (by omega), if_neg (by omega), if_neg (by omega), if_pos hk]
  have h1' : ¬ x.kk < 0 := by omega
  have h2' : ¬ (s.acks.length : Int) ≤ x.kk := by omega
  obtain ⟨kn, hkn⟩ : ∃ n : Nat, x.kk = (n : Int) := ⟨x.kk.toNat, by omega⟩
  obtain ⟨_, _, hvv, hlw, hcw, hrow⟩ := HR.out.at.a
  simp only [Value.slice.injEq] at hvv
  obtain ⟨rfl, _, rfl⟩ := hvv
  unfold maxLen at hcw
  obtain ⟨gw, ow, rfl, hgw, hin⟩ := hrow kn (by omega)
  clear hrow
  have hkt : x.kk.toNat = kn := by omega
  obtain ⟨pp, hpp⟩ : ∃ p, ak s.acks kn = p := ⟨_, rfl⟩
  rw [hpp] at hin
  have HE : Hid (stS s x = { s with acks := outA s.acks kn, base := raise s.base s pp }) := by show _ = _; rw [HE.out]; unfold ackS; rw [hkt, hpp]
  obtain ⟨ae, au⟩ := pp
  clear hpp
  obtain ⟨kind, kk, tx⟩ := x
  dsimp only at *
  subst hk hkn
  go_enter Try.func71, Try.ntmps71
  go_upto_region 1 with fail
  rw [← hW0]
  clear hW0
  have k0 := HP.out.c0
  have k1 := HP.out.c1
  have k2 := HP.out.c2
  have x5 := HX.out.c5
  obtain ⟨e0, e1⟩ := hin
  obtain ⟨W1, hW1⟩ : ∃ X, X = W0.alloc (.cells #[.int .i64 ae, .int .i64 au] 86) := ⟨_, rfl⟩
  have hb1' : Below W0.heap.size W0 W1 := by rw [hW1]; exact (Below.refl _ _).alloc (Nat.le_refl _) _
  have q0' : W1.cell? ⟨W0.heap.size, 0, none⟩ = some (.int .i64 ae) := by rw [hW1]; go_simp
  have q1 : W1.cell? ⟨W0.heap.size, 1, none⟩ = some (.int .i64 au) := by rw [hW1]; go_simp
  have HX : Hid (type_of% (HX.out.below hb1')) := HX.out.below hb1'
  have HP : Hid (type_of% (HP.out.below hb1')) := HP.out.below hb1'
  have HZ : Hid (type_of% (HZ.out.below hb1')) := HZ.out.below hb1'
  have HT : Hid (type_of% (HT.out.belowR hb1')) := HT.out.belowR hb1'
  have HR : Hid (type_of% (HR.out.below hb1')) := HR.out.below hb1'
  go_upto_region 16 with fail
  rw [← hW1]
  have hsz1 : W0.heap.size < W1.heap.size := by rw [hW1]; simp
  have hs3 : w.heap.size + 2 < W1.heap.size := HZ.out.low
  have hsB : B ≤ W1.heap.size := by omega
  clear hW1 hb1' e0 e1 x5 k0 k1 k2
  have k1 := HP.out.c1
  have x5 := HX.out.c5
  by_cases hck : ca = kn + 1
  case neg =>
    have HSS : Hid (∀ W', Below W1.heap.size W1 W' → W'.cell? ⟨w.heap.size, 5, none⟩ = some (.slice (some ⟨gw, ow, none⟩) s.acks.length ca) ∧ W'.cell? ⟨w.heap.size + 1, 1, none⟩ = some (.int .i64 (kn : Int))) := fun W' hb => ⟨(HX.out.below hb).c5, (HP.out.below hb).c1⟩
    have hknI : (kn : Int) < (s.acks.length : Int) := by omega
    have hknN : kn < s.acks.length := by omega
    have hkc : (kn : Int) ≤ (ca : Int) := by omega
    have hkc' : kn ≤ ca := by omega
    have hk1 : (kn : Int) + 1 ≤ (s.acks.length : Int) := by omega
    have hwr : IntKind.i64.wrap ((kn : Int) + 1) = (kn : Int) + 1 := by rw [IntKind.wrap_i64]; omega
    have htn : ((kn : Int) + 1).toNat = kn + 1 := by omega
    have h01 : (0 : Int) ≤ (kn : Int) + 1 := by omega
    have HAT : Hid (∀ W', Below W1.heap.size W1 W' → AksAt W' W'.heap.size (.slice (some ⟨gw, ow, none⟩) s.acks.length ca) s.acks) := fun W' hb => HR.out.at.a.below hb
    have hlc : s.acks.length ≤ ca := by omega
    refine wpE_begin (fun W' => W'.cell? ⟨w.heap.size, 5, none⟩ = some (.slice (some ⟨gw, ow, none⟩) s.acks.length ca) ∧ W'.cell? ⟨w.heap.size + 1, 1, none⟩ = some (.int .i64 (kn : Int))) 15 (by kernel_rfl) ?_
    have hHeld := HSS.out _ (Below.refl _ W1).drew
    have hSS : (fun W' : World => W'.cell? ⟨w.heap.size, 5, none⟩ = some (.slice (some ⟨gw, ow, none⟩) s.acks.length ca) ∧ W'.cell? ⟨w.heap.size + 1, 1, none⟩ = some (.int .i64 (kn : Int))) _ := hHeld
    clear hHeld
    refine wpE_take 1 (oi := { dst := some 99, op := Op.fieldAddr 26 (Operand.tmp 2) 5, type := 0, pos := "l15_session.go:84", after := #[], guard := none }) ?vq1 rfl (by kernel_rfl) (by kernel_rfl) (by kernel_rfl) (by kernel_rfl) (fun _ _ _ h => h) (Or.inl ⟨by rfl, ?hy1⟩) (by assumption) ?rest1
    case hy1 =>
      first
        | (intro w hSw; (try dsimp only at hSw); go_simp; done)
        | (intro w hSw; (try dsimp only at hSw); go_simp; with_reducible rfl)
    try simp only [Act.put, List.setIfInBounds_toArray, List.set_cons_zero, List.set_cons_succ]
    refine wpE_take 3 (oi := { dst := some 101, op := Op.fieldAddr 48 (Operand.tmp 3) 1, type := 0, pos := "l15_session.go:84", after := #[], guard := none }) ?vq2 rfl (by kernel_rfl) (by kernel_rfl) (by kernel_rfl) (by kernel_rfl) (fun _ _ _ h => h) (Or.inl ⟨by rfl, ?hy2⟩) (by assumption) ?rest2
    case hy2 =>
      first
        | (intro w hSw; (try dsimp only at hSw); go_simp; done)
        | (intro w hSw; (try dsimp only at hSw); go_simp; with_reducible rfl)
    try simp only [Act.put, List.setIfInBounds_toArray, List.set_cons_zero, List.set_cons_succ]
    refine wpE_take 7 (oi := { dst := some 105, op := Op.fieldAddr 26 (Operand.tmp 2) 5, type := 0, pos := "l15_session.go:84", after := #[], guard := none }) ?vq3 rfl (by kernel_rfl) (by kernel_rfl) (by kernel_rfl) (by kernel_rfl) (fun _ _ _ h => h) (Or.inl ⟨by rfl, ?hy3⟩) (by assumption) ?rest3
    case hy3 =>
      first
        | (intro w hSw; (try dsimp only at hSw); go_simp; done)
        | (intro w hSw; (try dsimp only at hSw); go_simp; with_reducible rfl)
    try simp only [Act.put, List.setIfInBounds_toArray, List.set_cons_zero, List.set_cons_succ]
    refine wpE_take 9 (oi := { dst := some 107, op := Op.fieldAddr 48 (Operand.tmp 3) 1, type := 0, pos := "l15_session.go:84", after := #[], guard := none }) ?vq4 rfl (by kernel_rfl) (by kernel_rfl) (by kernel_rfl) (by kernel_rfl) (fun _ _ _ h => h) (Or.inl ⟨by rfl, ?hy4⟩) (by assumption) ?rest4
    case hy4 =>
      first
        | (intro w hSw; (try dsimp only at hSw); go_simp; done)
        | (intro w hSw; (try dsimp only at hSw); go_simp; with_reducible rfl)
    try simp only [Act.put, List.setIfInBounds_toArray, List.set_cons_zero, List.set_cons_succ]
    refine wpE_take 2 (oi := { dst := some 100, op := Op.load 24 (Operand.tmp 99), type := 24, pos := "l15_session.go:84", after := #[{ on := 1, ground := Ground.data }], guard := none }) ?vq5 rfl (by kernel_rfl) (by kernel_rfl) (by kernel_rfl) (by kernel_rfl) (fun _ _ _ h => h) (Or.inl ⟨by rfl, ?hy5⟩) (by assumption) ?rest5
    case hy5 =>
      first
        | (intro w hSw; (try dsimp only at hSw); go_simp; done)
        | (intro w hSw; (try dsimp only at hSw); go_simp; with_reducible rfl)
    try simp only [Act.put, List.setIfInBounds_toArray, List.set_cons_zero, List.set_cons_succ]
    refine wpE_take 4 (oi := { dst := some 102, op := Op.load 3 (Operand.tmp 101), type := 3, pos := "l15_session.go:84", after := #[{ on := 3, ground := Ground.data }], guard := none }) ?vq6 rfl (by kernel_rfl) (by kernel_rfl) (by kernel_rfl) (by kernel_rfl) (fun _ _ _ h => h) (Or.inl ⟨by rfl, ?hy6⟩) (by assumption) ?rest6
    case hy6 =>
      first
        | (intro w hSw; (try dsimp only at hSw); go_simp; done)
        | (intro w hSw; (try dsimp only at hSw); go_simp; with_reducible rfl)
    try simp only [Act.put, List.setIfInBounds_toArray, List.set_cons_zero, List.set_cons_succ]
    refine wpE_take 8 (oi := { dst := some 106, op := Op.load 24 (Operand.tmp 105), type := 24, pos := "l15_session.go:84", after := #[{ on := 7, ground := Ground.data }], guard := none }) ?vq7 rfl (by kernel_rfl) (by kernel_rfl) (by kernel_rfl) (by kernel_rfl) (fun _ _ _ h => h) (Or.inl ⟨by rfl, ?hy7⟩) (by assumption) ?rest7
    case hy7 =>
      first
        | (intro w hSw; (try dsimp only at hSw); go_simp; done)
        | (intro w hSw; (try dsimp only at hSw); go_simp; with_reducible rfl)
    try simp only [Act.put, List.setIfInBounds_toArray, List.set_cons_zero, List.set_cons_succ]
    refine wpE_take 10 (oi := { dst := some 108, op := Op.load 3 (Operand.tmp 107), type := 3, pos := "l15_session.go:84", after := #[{ on := 9, ground := Ground.data }], guard := none }) ?vq8 rfl (by kernel_rfl) (by kernel_rfl) (by kernel_rfl) (by kernel_rfl) (fun _ _ _ h => h) (Or.inl ⟨by rfl, ?hy8⟩) (by assumption) ?rest8
    case hy8 =>
      first
        | (intro w hSw; (try dsimp only at hSw); go_simp; done)
        | (intro w hSw; (try dsimp only at hSw); go_simp; with_reducible rfl)
    try simp only [Act.put, List.setIfInBounds_toArray, List.set_cons_zero, List.set_cons_succ]
    refine wpE_take 11 (oi := { dst := some 109, op := Op.binOp BinOp.add 3 (Operand.tmp 108) (Operand.const (Value.int IntKind.i64 1)) 3, type := 3, pos := "l15_session.go:84", after := #[{ on := 10, ground := Ground.data }], guard := none }) ?vq9 rfl (by kernel_rfl) (by kernel_rfl) (by kernel_rfl) (by kernel_rfl) (fun _ _ _ h => h) (Or.inl ⟨by rfl, ?hy9⟩) (by assumption) ?rest9
    case hy9 =>
      first
        | (intro w hSw; (try dsimp only at hSw); go_simp; done)
        | (intro w hSw; (try dsimp only at hSw); go_simp; with_reducible rfl)
    try simp only [Act.put, List.setIfInBounds_toArray, List.set_cons_zero, List.set_cons_succ]
    refine wpE_take 5 (oi := { dst := some 103, op := Op.slice 24 (Operand.tmp 100) none (some (Operand.tmp 102)) none, type := 24, pos := "l15_session.go:84", after := #[{ on := 2, ground := Ground.data }, { on := 4, ground := Ground.data }], guard := none }) ?vq10 rfl (by kernel_rfl) (by kernel_rfl) (by kernel_rfl) (by kernel_rfl) (fun _ _ _ h => h) (Or.inl ⟨by rfl, ?hy10⟩) (by assumption) ?rest10
    case hy10 =>
      first
        | (intro w hSw; (try dsimp only at hSw); go_simp; done)
        | (intro w hSw; (try dsimp only at hSw); go_simp; with_reducible rfl)
    try simp only [Act.put, List.setIfInBounds_toArray, List.set_cons_zero, List.set_cons_succ]
    refine wpE_take 12 (oi := { dst := some 110, op := Op.slice 24 (Operand.tmp 106) (some (Operand.tmp 109)) none none, type := 24, pos := "l15_session.go:84", after := #[{ on := 8, ground := Ground.data }, { on := 11, ground := Ground.data }], guard := none }) ?vq11 rfl (by kernel_rfl) (by kernel_rfl) (by kernel_rfl) (by kernel_rfl) (fun _ _ _ h => h) (Or.inl ⟨by rfl, ?hy11⟩) (by assumption) ?rest11
    case hy11 =>
      first
        | (intro w hSw; (try dsimp only at hSw); go_simp; done)
        | (intro w hSw; (try dsimp only at hSw); go_simp; with_reducible rfl)
    try simp only [Act.put, List.setIfInBounds_toArray, List.set_cons_zero, List.set_cons_succ]
    have hbA : Below W1.heap.size W1 (W1.drew.alloc (.cells #[] 86)) := (Below.refl _ W1).drew.alloc (by simp) _
    have hown0 : (W1.drew.alloc (.cells #[] 86)).ownsRow W1.heap.size 86 2 (.slice (some ⟨W1.heap.size, 0, none⟩) 0 0) 0 [] := World.ownsRow_made (base := W1.heap.size) (e := 86) (size := 2) W1.drew #[] 0 (by simp) (by unfold maxLen; omega) rfl
    refine wpE_one 0 (o := { dst := some 98, op := Op.buildSlice 24 0 #[], type := 24, pos := "l15_session.go:84", after := #[], guard := none }) (by kernel_rfl) rfl (fun K hK => ?_)
    go_simp
    refine hK.out _ _ (fun h => HSS.out _ hbA) ?_
    clear hK K
    try simp only [Act.put, List.setIfInBounds_toArray, List.set_cons_zero, List.set_cons_succ]
    refine wpE_one 6 (o := { dst := some 104, op := Op.call { callee := Callee.builtin Builtin.append, args := #[Operand.tmp 98, Operand.tmp 103], argTypes := #[24, 24] }, type := 24, pos := "l15_session.go:84", after := #[{ on := 0, ground := Ground.data }, { on := 5, ground := Ground.data }], guard := none }) (by kernel_rfl) rfl (fun K hK => ?_)
    refine step_append_mayF _ (by rfl) _ _ _ (by rfl) W1.heap.size 86 q0 (.agg #[.int .i64 0, .int .i64 0]) 2 16 Try.underlying24 hq hqz0 hqz1 hqz2 rfl (by decide) _ 0 [] (by rfl) hown0 _ kn _ ((s.acks.take kn).flatMap Ak.cells) (by rfl) (by rw [flatAk_len, List.length_take]; omega) (AksAt.news ((AksAt.take (HAT.out _ hbA) (by omega)))) (onesAk _) (by unfold maxLen; omega) (by omega) (by simp) ?_
    intro ar kq w9 hown9 hgrow9 hnew9
    rw [Nat.zero_add, List.nil_append] at hown9
    rw [Nat.zero_add] at hnew9 ⊢
    have hb9 : Below W1.heap.size W1 w9 := hbA.grown hgrow9 (by simp) (fun k hk => by have := (World.ownsRow.lt hown0 k hk).1; omega)
    refine hK.out _ _ (fun h => HSS.out _ hb9) ?_
    clear hK K
    try simp only [Act.put, List.setIfInBounds_toArray, List.set_cons_zero, List.set_cons_succ]
    refine wpE_one 13 (o := { dst := some 111, op := Op.call { callee := Callee.builtin Builtin.append, args := #[Operand.tmp 104, Operand.tmp 110], argTypes := #[24, 24] }, type := 24, pos := "l15_session.go:84", after := #[{ on := 6, ground := Ground.data }, { on := 12, ground := Ground.data }, { on := 6, ground := Ground.chain }], guard := none }) (by kernel_rfl) rfl (fun K hK => ?_)
    refine step_append_mayF _ (by rfl) _ _ _ (by rfl) W1.heap.size 86 q0 (.agg #[.int .i64 0, .int .i64 0]) 2 16 Try.underlying24 hq hqz0 hqz1 hqz2 rfl (by decide) _ kn _ (by rfl) hown9 _ (s.acks.length - (kn + 1)) _ ((s.acks.drop (kn + 1)).flatMap Ak.cells) (by rfl) (by rw [flatAk_len, List.length_drop]) (by
      have hA := AksAt.drop (HAT.out _ hb9) (k := kn + 1) (by omega) (some ⟨gw, ow + (kn + 1) * 2, none⟩) (fun _ g o ha => by simp only [Option.some.injEq, Addr.mk.injEq, and_true] at ha; obtain ⟨rfl, rfl⟩ := ha; rfl)
      exact AksAt.news hA) (onesAk _) (by unfold maxLen; omega) (by omega) hb9.size ?_
    intro br kr w8 hown8 hgrow8 hnew8
    have hb8 : Below W1.heap.size W1 w8 := hb9.grown hgrow8 hb9.size (fun k hk => (World.ownsRow.lt hown9 k hk).1)
    refine hK.out _ _ (fun h => HSS.out _ hb8) ?_
    clear hK K
    try simp only [Act.put, List.setIfInBounds_toArray, List.set_cons_zero, List.set_cons_succ]
    have hS9 : (fun W' : World => W'.cell? ⟨w.heap.size, 5, none⟩ = some (.slice (some ⟨gw, ow, none⟩) s.acks.length ca) ∧ W'.cell? ⟨w.heap.size + 1, 1, none⟩ = some (.int .i64 (kn : Int))) w8 := HSS.out _ hb8
    refine wpE_take 14 (oi := { dst := some 112, op := Op.fieldAddr 26 (Operand.tmp 2) 5, type := 0, pos := "l15_session.go:84", after := #[{ on := 0, ground := Ground.phase }, { on := 1, ground := Ground.phase }, { on := 2, ground := Ground.phase }, { on := 3, ground := Ground.phase }, { on := 4, ground := Ground.phase }, { on := 5, ground := Ground.phase }, { on := 6, ground := Ground.phase }, { on := 7, ground := Ground.phase }, { on := 8, ground := Ground.phase }, { on := 9, ground := Ground.phase }, { on := 10, ground := Ground.phase }, { on := 11, ground := Ground.phase }, { on := 12, ground := Ground.phase }, { on := 13, ground := Ground.phase }], guard := none }) ?vq12 rfl (by kernel_rfl) (by kernel_rfl) (by kernel_rfl) (by kernel_rfl) (fun _ _ _ h => h) (Or.inl ⟨by rfl, ?hy12⟩) (by assumption) ?rest12
    case hy12 =>
      first
        | (intro w hSw; (try dsimp only at hSw); go_simp; done)
        | (intro w hSw; (try dsimp only at hSw); go_simp; with_reducible rfl)
    try simp only [Act.put, List.setIfInBounds_toArray, List.set_cons_zero, List.set_cons_succ]
    clear hS9
    have HX8 := HX.out.below hb8
    have y8 := HX8.c5
    have g8 := HX8.f5
    refine wpE_one 15 (o := { dst := none, op := Op.store 24 (Operand.tmp 112) (Operand.tmp 111), type := 0, pos := "l15_session.go:84", after := #[{ on := 14, ground := Ground.data }, { on := 13, ground := Ground.data }, { on := 13, ground := Ground.chain }, { on := 0, ground := Ground.phase }, { on := 1, ground := Ground.phase }, { on := 2, ground := Ground.phase }, { on := 3, ground := Ground.phase }, { on := 4, ground := Ground.phase }, { on := 5, ground := Ground.phase }, { on := 6, ground := Ground.phase }, { on := 7, ground := Ground.phase }, { on := 8, ground := Ground.phase }, { on := 9, ground := Ground.phase }, { on := 10, ground := Ground.phase }, { on := 11, ground := Ground.phase }, { on := 12, ground := Ground.phase }, { on := 13, ground := Ground.phase }], guard := none }) (by kernel_rfl) rfl (fun K hK => ?_)
    go_simp
    refine hK.out _ _ (fun h => absurd rfl h) ?_
    clear hK K
    try simp only [Act.put, List.setIfInBounds_toArray, List.set_cons_zero, List.set_cons_succ]
    refine wpE_done (by kernel_rfl) ?_ _
    go_upto_region 17 with fail
    have hlo : (outA s.acks kn).length = kn + (s.acks.length - (kn + 1)) := by rw [len_outA _ (by omega)]; omega
    have hro : AkRow w8 B (.slice br (kn + (s.acks.length - (kn + 1))) kr) (outA s.acks kn) := by (unfold AkRow; rw [hlo]; unfold outA; rw [List.flatMap_append]; exact own_lower hown8 hsB)
    have hQ := SesRow.putA HR.out hro (grow_belowY hb8) (fun g hg => .inr (World.ownsRow.lt hown8 g hg).1)
    have HnX9 := hQ.2.avoid HX.out.low HnX.out
    have HnP9 := hQ.2.avoid HP.out.low HnP.out
    have HnZ9 := hQ.2.avoid HZ.out.low HnZ.out
    have HP9 := HP.out.below hb8
    have HZ9 := HZ.out.below hb8
    have HQ : Hid (type_of% hQ) := hQ
    have HB8 : Hid (type_of% hb8) := hb8
    obtain ⟨V1, hV1⟩ : ∃ X, X = w8.setCell ⟨w.heap.size, 5, none⟩ (.slice br (kn + (s.acks.length - (kn + 1))) kr) := ⟨_, rfl⟩
    have HX : Hid (type_of% (HX8.set5 (.slice br (kn + (s.acks.length - (kn + 1))) kr))) := HX8.set5 (.slice br (kn + (s.acks.length - (kn + 1))) kr)
    have HP : Hid (type_of% (HP9.apart (c := w.heap.size) (k := 5) (u := (.slice br (kn + (s.acks.length - (kn + 1))) kr)) (by omega))) := HP9.apart (c := w.heap.size) (k := 5) (u := (.slice br (kn + (s.acks.length - (kn + 1))) kr)) (by omega)
    have HZ : Hid (type_of% (HZ9.apart (c := w.heap.size) (k := 5) (u := (.slice br (kn + (s.acks.length - (kn + 1))) kr)) (by omega))) := HZ9.apart (c := w.heap.size) (k := 5) (u := (.slice br (kn + (s.acks.length - (kn + 1))) kr)) (by omega)
    have HR : Hid (type_of% (HQ.out.1.setC (k := 5) (u := (.slice br (kn + (s.acks.length - (kn + 1))) kr)) HnX9)) := HQ.out.1.setC (k := 5) (u := (.slice br (kn + (s.acks.length - (kn + 1))) kr)) HnX9
    have HT : Hid (type_of% ((HT.out.trans HQ.out.2).setCell w.heap.size 5 (.slice br (kn + (s.acks.length - (kn + 1))) kr) (Nat.le_refl _))) := (HT.out.trans HQ.out.2).setCell w.heap.size 5 (.slice br (kn + (s.acks.length - (kn + 1))) kr) (Nat.le_refl _)
    have HnX : Hid (type_of% HnX9) := HnX9
    have HnP : Hid (type_of% HnP9) := HnP9
    have HnZ : Hid (type_of% HnZ9) := HnZ9
    have q0V : V1.cell? ⟨W0.heap.size, 0, none⟩ = some (.int .i64 ae) := by rw [hV1, World.cell?_setCell_other _ _ _ _ (by first | (simp; done) | (simp; omega))]; exact (HB8.out.cell (p := ⟨W0.heap.size, 0, none⟩) hsz1).trans q0'
    have q1V : V1.cell? ⟨W0.heap.size, 1, none⟩ = some (.int .i64 au) := by rw [hV1, World.cell?_setCell_other _ _ _ _ (by first | (simp; done) | (simp; omega))]; exact (HB8.out.cell (p := ⟨W0.heap.size, 1, none⟩) hsz1).trans q1
    rw [← hV1] at HX HP HZ HR HT ⊢
    have hs3 : w.heap.size + 2 < V1.heap.size := HZ.out.low
    clear hV1 HX8 HP9 HZ9 HnX9 HnP9 HnZ9 HQ hQ hro hlo y8 g8 hown8 hgrow8 hnew8 hb8 hown9 hgrow9 hnew9 hb9 hown0 hbA hSS HAT HSS
    have x0 := HX.out.c0
    have x2 := HX.out.c2
    have g2 := HX.out.f2
    by_cases hae : ae = s.ep
    · by_cases hau : s.base < au
      · have HE : Hid (stS s { kind := 6, kk := (kn : Int), tx := tx } = { s with acks := outA s.acks kn, base := au }) := by show _ = _; rw [HE.out]; unfold raise; rw [if_pos ⟨hae, hau⟩]
        have hae' : (ae == s.ep) = true := by simp [hae]
        clear hae
        obtain ⟨V2, hV2⟩ : ∃ X, X = V1.setCell ⟨w.heap.size, 2, none⟩ (.int .i64 au) := ⟨_, rfl⟩
        have HX : Hid (type_of% (HX.out.set2 (.int .i64 au))) := HX.out.set2 (.int .i64 au)
        have HP : Hid (type_of% (HP.out.apart (c := w.heap.size) (k := 2) (u := .int .i64 au) (by omega))) := HP.out.apart (c := w.heap.size) (k := 2) (u := .int .i64 au) (by omega)
        have HZ : Hid (type_of% (HZ.out.apart (c := w.heap.size) (k := 2) (u := .int .i64 au) (by omega))) := HZ.out.apart (c := w.heap.size) (k := 2) (u := .int .i64 au) (by omega)
        have HR : Hid (type_of% (HR.out.setC (k := 2) (u := .int .i64 au) HnX.out)) := HR.out.setC (k := 2) (u := .int .i64 au) HnX.out
        have HT : Hid (type_of% (HT.out.setCell w.heap.size 2 (.int .i64 au) (Nat.le_refl _))) := HT.out.setCell w.heap.size 2 (.int .i64 au) (Nat.le_refl _)
        go_upto_region 19 with fail
        rw [← hV2] at HX HP HZ HR HT ⊢
        have hs3 : w.heap.size + 2 < V2.heap.size := HZ.out.low
        have hsB : B ≤ V2.heap.size := by omega
        clear hV2 x0 x2 g2 q0V q1V
        have HR : Hid (SesRow V2 B { s with acks := outA s.acks kn, base := au } (.slice ai s.items.length ci) (.slice ah s.handed.length ch) (.slice aw s.way.length cw) (.slice br (kn + (s.acks.length - (kn + 1))) kr)) := SesRow.retag HR.out rfl rfl rfl rfl
        clear k1
        have y0 := HX.out.c0
        have z0 := HZ.out.c0
        have f0 := HZ.out.f0
        have y1 := HX.out.c1
        have z1 := HZ.out.c1
        have f1 := HZ.out.f1
        have y2 := HX.out.c2
        have z2 := HZ.out.c2
        have f2 := HZ.out.f2
        have y3 := HX.out.c3
        have z3 := HZ.out.c3
        have f3 := HZ.out.f3
        have y4 := HX.out.c4
        have z4 := HZ.out.c4
        have f4 := HZ.out.f4
        have y5 := HX.out.c5
        have z5 := HZ.out.c5
        have f5 := HZ.out.f5
        go_wp2_with fail
        (try simp only [Exit.inBlock, Exit.then])
        rw [HE.out, HK.out]
        refine bodyPost_ret (v := .tuple #[.agg #[.int .i64 s.ep, .slice ai s.items.length ci, .int .i64 au, .slice ah s.handed.length ch, .slice aw s.way.length cw, .slice br (kn + (s.acks.length - (kn + 1))) kr], .bool true]) ?_ rfl (StO.ret2 (.slice ai s.items.length ci) (.slice ah s.handed.length ch) (.slice aw s.way.length cw) (.slice br (kn + (s.acks.length - (kn + 1))) kr) ?_ ?_ ?_)
        · rw [rc]
          go_simp
        · rfl
        · exact HR.out.set6 HnZ.out
        · exact HT.out.set6 (by omega)

      · have HE : Hid (stS s { kind := 6, kk := (kn : Int), tx := tx } = { s with acks := outA s.acks kn, base := s.base }) := by show _ = _; rw [HE.out]; unfold raise; rw [if_neg (fun h => hau h.2)]
        have hae' : (ae == s.ep) = true := by simp [hae]
        clear hae
        have HR : Hid (SesRow V1 B { s with acks := outA s.acks kn, base := s.base } (.slice ai s.items.length ci) (.slice ah s.handed.length ch) (.slice aw s.way.length cw) (.slice br (kn + (s.acks.length - (kn + 1))) kr)) := SesRow.retag HR.out rfl rfl rfl rfl
        go_upto_region 19 with fail
        clear x0 x2 g2 q0V q1V k1
        have y0 := HX.out.c0
        have z0 := HZ.out.c0
        have f0 := HZ.out.f0
        have y1 := HX.out.c1
        have z1 := HZ.out.c1
        have f1 := HZ.out.f1
        have y2 := HX.out.c2
        have z2 := HZ.out.c2
        have f2 := HZ.out.f2
        have y3 := HX.out.c3
        have z3 := HZ.out.c3
        have f3 := HZ.out.f3
        have y4 := HX.out.c4
        have z4 := HZ.out.c4
        have f4 := HZ.out.f4
        have y5 := HX.out.c5
        have z5 := HZ.out.c5
        have f5 := HZ.out.f5
        go_wp2_with fail
        (try simp only [Exit.inBlock, Exit.then])
        rw [HE.out, HK.out]
        refine bodyPost_ret (v := .tuple #[.agg #[.int .i64 s.ep, .slice ai s.items.length ci, .int .i64 s.base, .slice ah s.handed.length ch, .slice aw s.way.length cw, .slice br (kn + (s.acks.length - (kn + 1))) kr], .bool true]) ?_ rfl (StO.ret2 (.slice ai s.items.length ci) (.slice ah s.handed.length ch) (.slice aw s.way.length cw) (.slice br (kn + (s.acks.length - (kn + 1))) kr) ?_ ?_ ?_)
        · rw [rc]
          go_simp
        · rfl
        · exact HR.out.set6 HnZ.out
        · exact HT.out.set6 (by omega)

    · have HE : Hid (stS s { kind := 6, kk := (kn : Int), tx := tx } = { s with acks := outA s.acks kn, base := s.base }) := by show _ = _; rw [HE.out]; unfold raise; rw [if_neg (fun h => hae h.1)]
      have hae' : (ae == s.ep) = false := by simpa using hae
      clear hae
      have HR : Hid (SesRow V1 B { s with acks := outA s.acks kn, base := s.base } (.slice ai s.items.length ci) (.slice ah s.handed.length ch) (.slice aw s.way.length cw) (.slice br (kn + (s.acks.length - (kn + 1))) kr)) := SesRow.retag HR.out rfl rfl rfl rfl
      go_upto_region 19 with fail
      clear x0 x2 g2 q0V q1V k1
      have y0 := HX.out.c0
      have z0 := HZ.out.c0
      have f0 := HZ.out.f0
      have y1 := HX.out.c1
      have z1 := HZ.out.c1
      have f1 := HZ.out.f1
      have y2 := HX.out.c2
      have z2 := HZ.out.c2
      have f2 := HZ.out.f2
      have y3 := HX.out.c3
      have z3 := HZ.out.c3
      have f3 := HZ.out.f3
      have y4 := HX.out.c4
      have z4 := HZ.out.c4
      have f4 := HZ.out.f4
      have y5 := HX.out.c5
      have z5 := HZ.out.c5
      have f5 := HZ.out.f5
      go_wp2_with fail
      (try simp only [Exit.inBlock, Exit.then])
      rw [HE.out, HK.out]
      refine bodyPost_ret (v := .tuple #[.agg #[.int .i64 s.ep, .slice ai s.items.length ci, .int .i64 s.base, .slice ah s.handed.length ch, .slice aw s.way.length cw, .slice br (kn + (s.acks.length - (kn + 1))) kr], .bool true]) ?_ rfl (StO.ret2 (.slice ai s.items.length ci) (.slice ah s.handed.length ch) (.slice aw s.way.length cw) (.slice br (kn + (s.acks.length - (kn + 1))) kr) ?_ ?_ ?_)
      · rw [rc]
        go_simp
      · rfl
      · exact HR.out.set6 HnZ.out
      · exact HT.out.set6 (by omega)

  case pos =>
    subst hck
    have HSS : Hid (∀ W', Below W1.heap.size W1 W' → W'.cell? ⟨w.heap.size, 5, none⟩ = some (.slice (some ⟨gw, ow, none⟩) s.acks.length (kn + 1)) ∧ W'.cell? ⟨w.heap.size + 1, 1, none⟩ = some (.int .i64 (kn : Int))) := fun W' hb => ⟨(HX.out.below hb).c5, (HP.out.below hb).c1⟩
    have hknI : (kn : Int) < (s.acks.length : Int) := by omega
    have hknN : kn < s.acks.length := by omega
    have hkc : (kn : Int) ≤ ((kn + 1) : Int) := by omega
    have hkc' : kn ≤ (kn + 1) := by omega
    have hk1 : (kn : Int) + 1 ≤ (s.acks.length : Int) := by omega
    have hwr : IntKind.i64.wrap ((kn : Int) + 1) = (kn : Int) + 1 := by rw [IntKind.wrap_i64]; omega
    have htn : ((kn : Int) + 1).toNat = kn + 1 := by omega
    have h01 : (0 : Int) ≤ (kn : Int) + 1 := by omega
    have HAT : Hid (∀ W', Below W1.heap.size W1 W' → AksAt W' W'.heap.size (.slice (some ⟨gw, ow, none⟩) s.acks.length (kn + 1)) s.acks) := fun W' hb => HR.out.at.a.below hb
    have hlc : s.acks.length ≤ (kn + 1) := by omega
    refine wpE_begin (fun W' => W'.cell? ⟨w.heap.size, 5, none⟩ = some (.slice (some ⟨gw, ow, none⟩) s.acks.length (kn + 1)) ∧ W'.cell? ⟨w.heap.size + 1, 1, none⟩ = some (.int .i64 (kn : Int))) 15 (by kernel_rfl) ?_
    have hHeld := HSS.out _ (Below.refl _ W1).drew
    have hSS : (fun W' : World => W'.cell? ⟨w.heap.size, 5, none⟩ = some (.slice (some ⟨gw, ow, none⟩) s.acks.length (kn + 1)) ∧ W'.cell? ⟨w.heap.size + 1, 1, none⟩ = some (.int .i64 (kn : Int))) _ := hHeld
    clear hHeld
    refine wpE_take 1 (oi := { dst := some 99, op := Op.fieldAddr 26 (Operand.tmp 2) 5, type := 0, pos := "l15_session.go:84", after := #[], guard := none }) ?vp1 rfl (by kernel_rfl) (by kernel_rfl) (by kernel_rfl) (by kernel_rfl) (fun _ _ _ h => h) (Or.inl ⟨by rfl, ?hp1⟩) (by assumption) ?reste1
    case hp1 =>
      first
        | (intro w hSw; (try dsimp only at hSw); go_simp; done)
        | (intro w hSw; (try dsimp only at hSw); go_simp; with_reducible rfl)
    try simp only [Act.put, List.setIfInBounds_toArray, List.set_cons_zero, List.set_cons_succ]
    refine wpE_take 3 (oi := { dst := some 101, op := Op.fieldAddr 48 (Operand.tmp 3) 1, type := 0, pos := "l15_session.go:84", after := #[], guard := none }) ?vp2 rfl (by kernel_rfl) (by kernel_rfl) (by kernel_rfl) (by kernel_rfl) (fun _ _ _ h => h) (Or.inl ⟨by rfl, ?hp2⟩) (by assumption) ?reste2
    case hp2 =>
      first
        | (intro w hSw; (try dsimp only at hSw); go_simp; done)
        | (intro w hSw; (try dsimp only at hSw); go_simp; with_reducible rfl)
    try simp only [Act.put, List.setIfInBounds_toArray, List.set_cons_zero, List.set_cons_succ]
    refine wpE_take 7 (oi := { dst := some 105, op := Op.fieldAddr 26 (Operand.tmp 2) 5, type := 0, pos := "l15_session.go:84", after := #[], guard := none }) ?vp3 rfl (by kernel_rfl) (by kernel_rfl) (by kernel_rfl) (by kernel_rfl) (fun _ _ _ h => h) (Or.inl ⟨by rfl, ?hp3⟩) (by assumption) ?reste3
    case hp3 =>
      first
        | (intro w hSw; (try dsimp only at hSw); go_simp; done)
        | (intro w hSw; (try dsimp only at hSw); go_simp; with_reducible rfl)
    try simp only [Act.put, List.setIfInBounds_toArray, List.set_cons_zero, List.set_cons_succ]
    refine wpE_take 9 (oi := { dst := some 107, op := Op.fieldAddr 48 (Operand.tmp 3) 1, type := 0, pos := "l15_session.go:84", after := #[], guard := none }) ?vp4 rfl (by kernel_rfl) (by kernel_rfl) (by kernel_rfl) (by kernel_rfl) (fun _ _ _ h => h) (Or.inl ⟨by rfl, ?hp4⟩) (by assumption) ?reste4
    case hp4 =>
      first
        | (intro w hSw; (try dsimp only at hSw); go_simp; done)
        | (intro w hSw; (try dsimp only at hSw); go_simp; with_reducible rfl)
    try simp only [Act.put, List.setIfInBounds_toArray, List.set_cons_zero, List.set_cons_succ]
    refine wpE_take 2 (oi := { dst := some 100, op := Op.load 24 (Operand.tmp 99), type := 24, pos := "l15_session.go:84", after := #[{ on := 1, ground := Ground.data }], guard := none }) ?vp5 rfl (by kernel_rfl) (by kernel_rfl) (by kernel_rfl) (by kernel_rfl) (fun _ _ _ h => h) (Or.inl ⟨by rfl, ?hp5⟩) (by assumption) ?reste5
    case hp5 =>
      first
        | (intro w hSw; (try dsimp only at hSw); go_simp; done)
        | (intro w hSw; (try dsimp only at hSw); go_simp; with_reducible rfl)
    try simp only [Act.put, List.setIfInBounds_toArray, List.set_cons_zero, List.set_cons_succ]
    refine wpE_take 4 (oi := { dst := some 102, op := Op.load 3 (Operand.tmp 101), type := 3, pos := "l15_session.go:84", after := #[{ on := 3, ground := Ground.data }], guard := none }) ?vp6 rfl (by kernel_rfl) (by kernel_rfl) (by kernel_rfl) (by kernel_rfl) (fun _ _ _ h => h) (Or.inl ⟨by rfl, ?hp6⟩) (by assumption) ?reste6
    case hp6 =>
      first
        | (intro w hSw; (try dsimp only at hSw); go_simp; done)
        | (intro w hSw; (try dsimp only at hSw); go_simp; with_reducible rfl)
    try simp only [Act.put, List.setIfInBounds_toArray, List.set_cons_zero, List.set_cons_succ]
    refine wpE_take 8 (oi := { dst := some 106, op := Op.load 24 (Operand.tmp 105), type := 24, pos := "l15_session.go:84", after := #[{ on := 7, ground := Ground.data }], guard := none }) ?vp7 rfl (by kernel_rfl) (by kernel_rfl) (by kernel_rfl) (by kernel_rfl) (fun _ _ _ h => h) (Or.inl ⟨by rfl, ?hp7⟩) (by assumption) ?reste7
    case hp7 =>
      first
        | (intro w hSw; (try dsimp only at hSw); go_simp; done)
        | (intro w hSw; (try dsimp only at hSw); go_simp; with_reducible rfl)
    try simp only [Act.put, List.setIfInBounds_toArray, List.set_cons_zero, List.set_cons_succ]
    refine wpE_take 10 (oi := { dst := some 108, op := Op.load 3 (Operand.tmp 107), type := 3, pos := "l15_session.go:84", after := #[{ on := 9, ground := Ground.data }], guard := none }) ?vp8 rfl (by kernel_rfl) (by kernel_rfl) (by kernel_rfl) (by kernel_rfl) (fun _ _ _ h => h) (Or.inl ⟨by rfl, ?hp8⟩) (by assumption) ?reste8
    case hp8 =>
      first
        | (intro w hSw; (try dsimp only at hSw); go_simp; done)
        | (intro w hSw; (try dsimp only at hSw); go_simp; with_reducible rfl)
    try simp only [Act.put, List.setIfInBounds_toArray, List.set_cons_zero, List.set_cons_succ]
    refine wpE_take 11 (oi := { dst := some 109, op := Op.binOp BinOp.add 3 (Operand.tmp 108) (Operand.const (Value.int IntKind.i64 1)) 3, type := 3, pos := "l15_session.go:84", after := #[{ on := 10, ground := Ground.data }], guard := none }) ?vp9 rfl (by kernel_rfl) (by kernel_rfl) (by kernel_rfl) (by kernel_rfl) (fun _ _ _ h => h) (Or.inl ⟨by rfl, ?hp9⟩) (by assumption) ?reste9
    case hp9 =>
      first
        | (intro w hSw; (try dsimp only at hSw); go_simp; done)
        | (intro w hSw; (try dsimp only at hSw); go_simp; with_reducible rfl)
    try simp only [Act.put, List.setIfInBounds_toArray, List.set_cons_zero, List.set_cons_succ]
    refine wpE_take 5 (oi := { dst := some 103, op := Op.slice 24 (Operand.tmp 100) none (some (Operand.tmp 102)) none, type := 24, pos := "l15_session.go:84", after := #[{ on := 2, ground := Ground.data }, { on := 4, ground := Ground.data }], guard := none }) ?vp10 rfl (by kernel_rfl) (by kernel_rfl) (by kernel_rfl) (by kernel_rfl) (fun _ _ _ h => h) (Or.inl ⟨by rfl, ?hp10⟩) (by assumption) ?reste10
    case hp10 =>
      first
        | (intro w hSw; (try dsimp only at hSw); go_simp; done)
        | (intro w hSw; (try dsimp only at hSw); go_simp; with_reducible rfl)
    try simp only [Act.put, List.setIfInBounds_toArray, List.set_cons_zero, List.set_cons_succ]
    refine wpE_take 12 (oi := { dst := some 110, op := Op.slice 24 (Operand.tmp 106) (some (Operand.tmp 109)) none none, type := 24, pos := "l15_session.go:84", after := #[{ on := 8, ground := Ground.data }, { on := 11, ground := Ground.data }], guard := none }) ?vp11 rfl (by kernel_rfl) (by kernel_rfl) (by kernel_rfl) (by kernel_rfl) (fun _ _ _ h => h) (Or.inl ⟨by rfl, ?hp11⟩) (by assumption) ?reste11
    case hp11 =>
      first
        | (intro w hSw; (try dsimp only at hSw); go_simp; done)
        | (intro w hSw; (try dsimp only at hSw); go_simp; with_reducible rfl)
    try simp only [Act.put, List.setIfInBounds_toArray, List.set_cons_zero, List.set_cons_succ]
    have hbA : Below W1.heap.size W1 (W1.drew.alloc (.cells #[] 86)) := (Below.refl _ W1).drew.alloc (by simp) _
    have hown0 : (W1.drew.alloc (.cells #[] 86)).ownsRow W1.heap.size 86 2 (.slice (some ⟨W1.heap.size, 0, none⟩) 0 0) 0 [] := World.ownsRow_made (base := W1.heap.size) (e := 86) (size := 2) W1.drew #[] 0 (by simp) (by unfold maxLen; omega) rfl
    refine wpE_one 0 (o := { dst := some 98, op := Op.buildSlice 24 0 #[], type := 24, pos := "l15_session.go:84", after := #[], guard := none }) (by kernel_rfl) rfl (fun K hK => ?_)
    go_simp
    refine hK.out _ _ (fun h => HSS.out _ hbA) ?_
    clear hK K
    try simp only [Act.put, List.setIfInBounds_toArray, List.set_cons_zero, List.set_cons_succ]
    refine wpE_one 6 (o := { dst := some 104, op := Op.call { callee := Callee.builtin Builtin.append, args := #[Operand.tmp 98, Operand.tmp 103], argTypes := #[24, 24] }, type := 24, pos := "l15_session.go:84", after := #[{ on := 0, ground := Ground.data }, { on := 5, ground := Ground.data }], guard := none }) (by kernel_rfl) rfl (fun K hK => ?_)
    refine step_append_mayF _ (by rfl) _ _ _ (by rfl) W1.heap.size 86 q0 (.agg #[.int .i64 0, .int .i64 0]) 2 16 Try.underlying24 hq hqz0 hqz1 hqz2 rfl (by decide) _ 0 [] (by rfl) hown0 _ kn _ ((s.acks.take kn).flatMap Ak.cells) (by rfl) (by rw [flatAk_len, List.length_take]; omega) (AksAt.news ((AksAt.take (HAT.out _ hbA) (by omega)))) (onesAk _) (by unfold maxLen; omega) (by omega) (by simp) ?_
    intro ar kq w9 hown9 hgrow9 hnew9
    rw [Nat.zero_add, List.nil_append] at hown9
    rw [Nat.zero_add] at hnew9 ⊢
    have hb9 : Below W1.heap.size W1 w9 := hbA.grown hgrow9 (by simp) (fun k hk => by have := (World.ownsRow.lt hown0 k hk).1; omega)
    refine hK.out _ _ (fun h => HSS.out _ hb9) ?_
    clear hK K
    try simp only [Act.put, List.setIfInBounds_toArray, List.set_cons_zero, List.set_cons_succ]
    refine wpE_one 13 (o := { dst := some 111, op := Op.call { callee := Callee.builtin Builtin.append, args := #[Operand.tmp 104, Operand.tmp 110], argTypes := #[24, 24] }, type := 24, pos := "l15_session.go:84", after := #[{ on := 6, ground := Ground.data }, { on := 12, ground := Ground.data }, { on := 6, ground := Ground.chain }], guard := none }) (by kernel_rfl) rfl (fun K hK => ?_)
    refine step_append_mayF _ (by rfl) _ _ _ (by rfl) W1.heap.size 86 q0 (.agg #[.int .i64 0, .int .i64 0]) 2 16 Try.underlying24 hq hqz0 hqz1 hqz2 rfl (by decide) _ kn _ (by rfl) hown9 _ 0 _ ((s.acks.drop (kn + 1)).flatMap Ak.cells) (by rfl) (by rw [flatAk_len, List.length_drop]; omega) (fun j u hj => by have := (List.getElem?_eq_some_iff.1 hj).1; rw [flatAk_len, List.length_drop] at this; omega) (onesAk _) (by unfold maxLen; omega) (by omega) hb9.size ?_
    intro br kr w8 hown8 hgrow8 hnew8
    rw [Nat.add_zero] at hown8 hnew8 ⊢
    have hb8 : Below W1.heap.size W1 w8 := hb9.grown hgrow8 hb9.size (fun k hk => (World.ownsRow.lt hown9 k hk).1)
    refine hK.out _ _ (fun h => HSS.out _ hb8) ?_
    clear hK K
    try simp only [Act.put, List.setIfInBounds_toArray, List.set_cons_zero, List.set_cons_succ]
    have hS9 : (fun W' : World => W'.cell? ⟨w.heap.size, 5, none⟩ = some (.slice (some ⟨gw, ow, none⟩) s.acks.length (kn + 1)) ∧ W'.cell? ⟨w.heap.size + 1, 1, none⟩ = some (.int .i64 (kn : Int))) w8 := HSS.out _ hb8
    refine wpE_take 14 (oi := { dst := some 112, op := Op.fieldAddr 26 (Operand.tmp 2) 5, type := 0, pos := "l15_session.go:84", after := #[{ on := 0, ground := Ground.phase }, { on := 1, ground := Ground.phase }, { on := 2, ground := Ground.phase }, { on := 3, ground := Ground.phase }, { on := 4, ground := Ground.phase }, { on := 5, ground := Ground.phase }, { on := 6, ground := Ground.phase }, { on := 7, ground := Ground.phase }, { on := 8, ground := Ground.phase }, { on := 9, ground := Ground.phase }, { on := 10, ground := Ground.phase }, { on := 11, ground := Ground.phase }, { on := 12, ground := Ground.phase }, { on := 13, ground := Ground.phase }], guard := none }) ?vp12 rfl (by kernel_rfl) (by kernel_rfl) (by kernel_rfl) (by kernel_rfl) (fun _ _ _ h => h) (Or.inl ⟨by rfl, ?hp12⟩) (by assumption) ?reste12
    case hp12 =>
      first
        | (intro w hSw; (try dsimp only at hSw); go_simp; done)
        | (intro w hSw; (try dsimp only at hSw); go_simp; with_reducible rfl)
    try simp only [Act.put, List.setIfInBounds_toArray, List.set_cons_zero, List.set_cons_succ]
    clear hS9
    have HX8 := HX.out.below hb8
    have y8 := HX8.c5
    have g8 := HX8.f5
    refine wpE_one 15 (o := { dst := none, op := Op.store 24 (Operand.tmp 112) (Operand.tmp 111), type := 0, pos := "l15_session.go:84", after := #[{ on := 14, ground := Ground.data }, { on := 13, ground := Ground.data }, { on := 13, ground := Ground.chain }, { on := 0, ground := Ground.phase }, { on := 1, ground := Ground.phase }, { on := 2, ground := Ground.phase }, { on := 3, ground := Ground.phase }, { on := 4, ground := Ground.phase }, { on := 5, ground := Ground.phase }, { on := 6, ground := Ground.phase }, { on := 7, ground := Ground.phase }, { on := 8, ground := Ground.phase }, { on := 9, ground := Ground.phase }, { on := 10, ground := Ground.phase }, { on := 11, ground := Ground.phase }, { on := 12, ground := Ground.phase }, { on := 13, ground := Ground.phase }], guard := none }) (by kernel_rfl) rfl (fun K hK => ?_)
    go_simp
    refine hK.out _ _ (fun h => absurd rfl h) ?_
    clear hK K
    try simp only [Act.put, List.setIfInBounds_toArray, List.set_cons_zero, List.set_cons_succ]
    refine wpE_done (by kernel_rfl) ?_ _
    go_upto_region 17 with fail
    have hlo : (outA s.acks kn).length = kn := by rw [len_outA _ (by omega)]; omega
    have hro : AkRow w8 B (.slice br kn kr) (outA s.acks kn) := by (unfold AkRow; rw [hlo]; unfold outA; rw [List.flatMap_append]; exact own_lower hown8 hsB)
    have hQ := SesRow.putA HR.out hro (grow_belowY hb8) (fun g hg => .inr (World.ownsRow.lt hown8 g hg).1)
    have HnX9 := hQ.2.avoid HX.out.low HnX.out
    have HnP9 := hQ.2.avoid HP.out.low HnP.out
    have HnZ9 := hQ.2.avoid HZ.out.low HnZ.out
    have HP9 := HP.out.below hb8
    have HZ9 := HZ.out.below hb8
    have HQ : Hid (type_of% hQ) := hQ
    have HB8 : Hid (type_of% hb8) := hb8
    obtain ⟨V1, hV1⟩ : ∃ X, X = w8.setCell ⟨w.heap.size, 5, none⟩ (.slice br kn kr) := ⟨_, rfl⟩
    have HX : Hid (type_of% (HX8.set5 (.slice br kn kr))) := HX8.set5 (.slice br kn kr)
    have HP : Hid (type_of% (HP9.apart (c := w.heap.size) (k := 5) (u := (.slice br kn kr)) (by omega))) := HP9.apart (c := w.heap.size) (k := 5) (u := (.slice br kn kr)) (by omega)
    have HZ : Hid (type_of% (HZ9.apart (c := w.heap.size) (k := 5) (u := (.slice br kn kr)) (by omega))) := HZ9.apart (c := w.heap.size) (k := 5) (u := (.slice br kn kr)) (by omega)
    have HR : Hid (type_of% (HQ.out.1.setC (k := 5) (u := (.slice br kn kr)) HnX9)) := HQ.out.1.setC (k := 5) (u := (.slice br kn kr)) HnX9
    have HT : Hid (type_of% ((HT.out.trans HQ.out.2).setCell w.heap.size 5 (.slice br kn kr) (Nat.le_refl _))) := (HT.out.trans HQ.out.2).setCell w.heap.size 5 (.slice br kn kr) (Nat.le_refl _)
    have HnX : Hid (type_of% HnX9) := HnX9
    have HnP : Hid (type_of% HnP9) := HnP9
    have HnZ : Hid (type_of% HnZ9) := HnZ9
    have q0V : V1.cell? ⟨W0.heap.size, 0, none⟩ = some (.int .i64 ae) := by rw [hV1, World.cell?_setCell_other _ _ _ _ (by first | (simp; done) | (simp; omega))]; exact (HB8.out.cell (p := ⟨W0.heap.size, 0, none⟩) hsz1).trans q0'
    have q1V : V1.cell? ⟨W0.heap.size, 1, none⟩ = some (.int .i64 au) := by rw [hV1, World.cell?_setCell_other _ _ _ _ (by first | (simp; done) | (simp; omega))]; exact (HB8.out.cell (p := ⟨W0.heap.size, 1, none⟩) hsz1).trans q1
    rw [← hV1] at HX HP HZ HR HT ⊢
    have hs3 : w.heap.size + 2 < V1.heap.size := HZ.out.low
    clear hV1 HX8 HP9 HZ9 HnX9 HnP9 HnZ9 HQ hQ hro hlo y8 g8 hown8 hgrow8 hnew8 hb8 hown9 hgrow9 hnew9 hb9 hown0 hbA hSS HAT HSS
    have x0 := HX.out.c0
    have x2 := HX.out.c2
    have g2 := HX.out.f2
    by_cases hae : ae = s.ep
    · by_cases hau : s.base < au
      · have HE : Hid (stS s { kind := 6, kk := (kn : Int), tx := tx } = { s with acks := outA s.acks kn, base := au }) := by show _ = _; rw [HE.out]; unfold raise; rw [if_pos ⟨hae, hau⟩]
        have hae' : (ae == s.ep) = true := by simp [hae]
        clear hae
        obtain ⟨V2, hV2⟩ : ∃ X, X = V1.setCell ⟨w.heap.size, 2, none⟩ (.int .i64 au) := ⟨_, rfl⟩
        have HX : Hid (type_of% (HX.out.set2 (.int .i64 au))) := HX.out.set2 (.int .i64 au)
        have HP : Hid (type_of% (HP.out.apart (c := w.heap.size) (k := 2) (u := .int .i64 au) (by omega))) := HP.out.apart (c := w.heap.size) (k := 2) (u := .int .i64 au) (by omega)
        have HZ : Hid (type_of% (HZ.out.apart (c := w.heap.size) (k := 2) (u := .int .i64 au) (by omega))) := HZ.out.apart (c := w.heap.size) (k := 2) (u := .int .i64 au) (by omega)
        have HR : Hid (type_of% (HR.out.setC (k := 2) (u := .int .i64 au) HnX.out)) := HR.out.setC (k := 2) (u := .int .i64 au) HnX.out
        have HT : Hid (type_of% (HT.out.setCell w.heap.size 2 (.int .i64 au) (Nat.le_refl _))) := HT.out.setCell w.heap.size 2 (.int .i64 au) (Nat.le_refl _)
        go_upto_region 19 with fail
        rw [← hV2] at HX HP HZ HR HT ⊢
        have hs3 : w.heap.size + 2 < V2.heap.size := HZ.out.low
        have hsB : B ≤ V2.heap.size := by omega
        clear hV2 x0 x2 g2 q0V q1V
        have HR : Hid (SesRow V2 B { s with acks := outA s.acks kn, base := au } (.slice ai s.items.length ci) (.slice ah s.handed.length ch) (.slice aw s.way.length cw) (.slice br kn kr)) := SesRow.retag HR.out rfl rfl rfl rfl
        clear k1
        have y0 := HX.out.c0
        have z0 := HZ.out.c0
        have f0 := HZ.out.f0
        have y1 := HX.out.c1
        have z1 := HZ.out.c1
        have f1 := HZ.out.f1
        have y2 := HX.out.c2
        have z2 := HZ.out.c2
        have f2 := HZ.out.f2
        have y3 := HX.out.c3
        have z3 := HZ.out.c3
        have f3 := HZ.out.f3
        have y4 := HX.out.c4
        have z4 := HZ.out.c4
        have f4 := HZ.out.f4
        have y5 := HX.out.c5
        have z5 := HZ.out.c5
        have f5 := HZ.out.f5
        go_wp2_with fail
        (try simp only [Exit.inBlock, Exit.then])
        rw [HE.out, HK.out]
        refine bodyPost_ret (v := .tuple #[.agg #[.int .i64 s.ep, .slice ai s.items.length ci, .int .i64 au, .slice ah s.handed.length ch, .slice aw s.way.length cw, .slice br kn kr], .bool true]) ?_ rfl (StO.ret2 (.slice ai s.items.length ci) (.slice ah s.handed.length ch) (.slice aw s.way.length cw) (.slice br kn kr) ?_ ?_ ?_)
        · rw [rc]
          go_simp
        · rfl
        · exact HR.out.set6 HnZ.out
        · exact HT.out.set6 (by omega)

      · have HE : Hid (stS s { kind := 6, kk := (kn : Int), tx := tx } = { s with acks := outA s.acks kn, base := s.base }) := by show _ = _; rw [HE.out]; unfold raise; rw [if_neg (fun h => hau h.2)]
        have hae' : (ae == s.ep) = true := by simp [hae]
        clear hae
        have HR : Hid (SesRow V1 B { s with acks := outA s.acks kn, base := s.base } (.slice ai s.items.length ci) (.slice ah s.handed.length ch) (.slice aw s.way.length cw) (.slice br kn kr)) := SesRow.retag HR.out rfl rfl rfl rfl
        go_upto_region 19 with fail
        clear x0 x2 g2 q0V q1V k1
        have y0 := HX.out.c0
        have z0 := HZ.out.c0
        have f0 := HZ.out.f0
        have y1 := HX.out.c1
        have z1 := HZ.out.c1
        have f1 := HZ.out.f1
        have y2 := HX.out.c2
        have z2 := HZ.out.c2
        have f2 := HZ.out.f2
        have y3 := HX.out.c3
        have z3 := HZ.out.c3
        have f3 := HZ.out.f3
        have y4 := HX.out.c4
        have z4 := HZ.out.c4
        have f4 := HZ.out.f4
        have y5 := HX.out.c5
        have z5 := HZ.out.c5
        have f5 := HZ.out.f5
        go_wp2_with fail
        (try simp only [Exit.inBlock, Exit.then])
        rw [HE.out, HK.out]
        refine bodyPost_ret (v := .tuple #[.agg #[.int .i64 s.ep, .slice ai s.items.length ci, .int .i64 s.base, .slice ah s.handed.length ch, .slice aw s.way.length cw, .slice br kn kr], .bool true]) ?_ rfl (StO.ret2 (.slice ai s.items.length ci) (.slice ah s.handed.length ch) (.slice aw s.way.length cw) (.slice br kn kr) ?_ ?_ ?_)
        · rw [rc]
          go_simp
        · rfl
        · exact HR.out.set6 HnZ.out
        · exact HT.out.set6 (by omega)

    · have HE : Hid (stS s { kind := 6, kk := (kn : Int), tx := tx } = { s with acks := outA s.acks kn, base := s.base }) := by show _ = _; rw [HE.out]; unfold raise; rw [if_neg (fun h => hae h.1)]
      have hae' : (ae == s.ep) = false := by simpa using hae
      clear hae
      have HR : Hid (SesRow V1 B { s with acks := outA s.acks kn, base := s.base } (.slice ai s.items.length ci) (.slice ah s.handed.length ch) (.slice aw s.way.length cw) (.slice br kn kr)) := SesRow.retag HR.out rfl rfl rfl rfl
      go_upto_region 19 with fail
      clear x0 x2 g2 q0V q1V k1
      have y0 := HX.out.c0
      have z0 := HZ.out.c0
      have f0 := HZ.out.f0
      have y1 := HX.out.c1
      have z1 := HZ.out.c1
      have f1 := HZ.out.f1
      have y2 := HX.out.c2
      have z2 := HZ.out.c2
      have f2 := HZ.out.f2
      have y3 := HX.out.c3
      have z3 := HZ.out.c3
      have f3 := HZ.out.f3
      have y4 := HX.out.c4
      have z4 := HZ.out.c4
      have f4 := HZ.out.f4
      have y5 := HX.out.c5
      have z5 := HZ.out.c5
      have f5 := HZ.out.f5
      go_wp2_with fail
      (try simp only [Exit.inBlock, Exit.then])
      rw [HE.out, HK.out]
      refine bodyPost_ret (v := .tuple #[.agg #[.int .i64 s.ep, .slice ai s.items.length ci, .int .i64 s.base, .slice ah s.handed.length ch, .slice aw s.way.length cw, .slice br kn kr], .bool true]) ?_ rfl (StO.ret2 (.slice ai s.items.length ci) (.slice ah s.handed.length ch) (.slice aw s.way.length cw) (.slice br kn kr) ?_ ?_ ?_)
      · rw [rc]
        go_simp
      · rfl
      · exact HR.out.set6 HnZ.out
      · exact HT.out.set6 (by omega)


end Go.Proofs.Ytnlppeieccbhgaa

namespace Go.Proofs.Ytnlppeieccbhgaa
open Go.RowKit Plain Tpc Ssn

set_option maxRecDepth 100000 in
set_option maxHeartbeats 8000000 in
theorem stLose (s : Ses) (x : Sp) (B : Nat) (ai ah aw aa : Option Addr) (ci ch cw ca : Nat) (w : World) (hR : SesRow w B s (.slice ai s.items.length ci) (.slice ah s.handed.length ch) (.slice aw s.way.length cw) (.slice aa s.acks.length ca)) (hBw : B ≤ w.heap.size) (hg : Gd s) (hk : x.kind = 4) (h1 : 0 ≤ x.kk) (h2 : x.kk < (s.way.length : Int))  :
    Calls Try.prog 71 #[.agg #[.int .i64 s.ep, .slice ai s.items.length ci, .int .i64 s.base, .slice ah s.handed.length ch, .slice aw s.way.length cw, .slice aa s.acks.length ca], .agg #[.int .i64 x.kind, .int .i64 x.kk, .string x.tx]] w fun e w' => StO w w' B (.slice ai s.items.length ci) (.slice ah s.handed.length ch) (.slice aw s.way.length cw) (.slice aa s.acks.length ca) (stS s x) (fun v => e = .returned (.tuple #[v, .bool (stK s x)])) := by
  have rc := fun (tmps : Array Value) (P : Program) (w : World) => results_cell1S (fn := Try.f71) (p := 4) (q := 5) (ty := 26) rfl tmps P w
  obtain ⟨i0, hi, hz0, hz1, hz2⟩ := info_parts infoStr
  obtain ⟨p0', hp, hpz0, hpz1, hpz2⟩ := info_parts Try.infoPk
  obtain ⟨q0, hq, hqz0, hqz1, hqz2⟩ := info_parts Try.infoAk
  have HST := Sta.begin x hR
  obtain ⟨W0, hW0⟩ : ∃ X, X = ((w.alloc (.cells #[.int .i64 s.ep, .slice ai s.items.length ci, .int .i64 s.base, .slice ah s.handed.length ch, .slice aw s.way.length cw, .slice aa s.acks.length ca] 26)).alloc (.cells #[.int .i64 x.kind, .int .i64 x.kk, .string x.tx] 48)).alloc (.cells #[.int .i64 0, .slice none 0 0, .int .i64 0, .slice none 0 0, .slice none 0 0, .slice none 0 0] 26) := ⟨_, rfl⟩
  rw [← hW0] at HST
  have HX : Hid (type_of% HST.X) := HST.X
  have HP : Hid (type_of% HST.S) := HST.S
  have HZ : Hid (type_of% HST.Z) := HST.Z
  have HR : Hid (type_of% HST.R) := HST.R
  have HT : Hid (type_of% HST.T) := HST.T
  have HnX : Hid (type_of% HST.nX) := HST.nX
  have HnP : Hid (type_of% HST.nS) := HST.nS
  have HnZ : Hid (type_of% HST.nZ) := HST.nZ
  have hil := hg.il
  have hyl := hg.yl
  have hal := hg.al
  have hhl := hg.hl
  have hb0 := hg.b0
  have hb1 := hg.b1
  have he1 := hg.e1
  have hs3 : w.heap.size + 2 < W0.heap.size := HST.Z.low
  have hsB : B ≤ W0.heap.size := by omega
  clear HST hR hg
  have HK : Hid (stK s x = true) := by
    show _ = _
    unfold stK
    rw [if_neg (by omega), if_neg (by omega), if_neg (by omega), if_pos hk]
    unfold inW
    exact decide_eq_true ⟨h1, h2⟩
  have HE : Hid (stS s x = loseS s x.kk) := by
    show _ = _
    unfold stS
    rw [HK.out, if_neg (by decide)]
    rw [if_neg (by omega), if_neg (by omega), if_neg (by omega), if_pos hk]
  have h1' : ¬ x.kk < 0 := by omega
  have h2' : ¬ (s.way.length : Int) ≤ x.kk := by omega
  have CI := l1InT x.kind 3 5 W0
  rw [decide_eq_true (by omega)] at CI
  obtain ⟨kn, hkn⟩ : ∃ n : Nat, x.kk = (n : Int) := ⟨x.kk.toNat, by omega⟩
  obtain ⟨_, _, hvv, _, hcw, hrow⟩ := HR.out.at.y
  simp only [Value.slice.injEq] at hvv
  obtain ⟨rfl, _, rfl⟩ := hvv
  unfold maxLen at hcw
  obtain ⟨gw, ow, rfl, hgw, hin⟩ := hrow kn (by omega)
  clear hrow
  have hkt : x.kk.toNat = kn := by omega
  obtain ⟨pp, hpp⟩ : ∃ p, pk s.way kn = p := ⟨_, rfl⟩
  rw [hpp] at hin
  have HE : Hid (stS s x = { s with way := outP s.way kn }) := by show _ = _; rw [HE.out]; unfold loseS; rw [hkt]
  obtain ⟨pe, pn, pt⟩ := pp
  clear hpp
  obtain ⟨kind, kk, tx⟩ := x
  dsimp only at *
  subst hk hkn
  go_enter Try.func71, Try.ntmps71
  go_upto_region 1 with fail
  rw [← hW0]
  clear hW0
  have k0 := HP.out.c0
  have k1 := HP.out.c1
  have k2 := HP.out.c2
  have w4 := HX.out.c4
  obtain ⟨e0, e1, e2⟩ := hin
  go_wp2_with fail
  go_at_call 59
  refine CI.mono ?_
  rintro e w2 ⟨rfl, hw2⟩
  have hw2 := hw2.symm
  subst hw2
  obtain ⟨W1, hW1⟩ : ∃ X, X = W0.alloc (.cells #[.int .i64 pe, .int .i64 pn, .string pt] 84) := ⟨_, rfl⟩
  have hb1' : Below W0.heap.size W0 W1 := by rw [hW1]; exact (Below.refl _ _).alloc (Nat.le_refl _) _
  have HC : Hid (Cv3 W1 W0.heap.size (.int .i64 pe) (.int .i64 pn) (.string pt)) := by show Cv3 _ _ _ _ _; rw [hW1]; exact Cv3.fresh W0 _ _ _ _
  have HX : Hid (type_of% (HX.out.below hb1')) := HX.out.below hb1'
  have HP : Hid (type_of% (HP.out.below hb1')) := HP.out.below hb1'
  have HZ : Hid (type_of% (HZ.out.below hb1')) := HZ.out.below hb1'
  have HT : Hid (type_of% (HT.out.belowR hb1')) := HT.out.belowR hb1'
  have HnC : Hid (¬ P4 (.slice ai s.items.length ci) (.slice ah s.handed.length ch) (.slice (some ⟨gw, ow, none⟩) s.way.length cw) (.slice aa s.acks.length ca) W0.heap.size) := fun h => by have := (HR.out.lt4 _ h).2; omega
  have HR : Hid (type_of% (HR.out.below hb1')) := HR.out.below hb1'
  go_upto_region 29 with fail
  rw [← hW1]
  have hsz1 : W0.heap.size < W1.heap.size := HC.out.low
  have hs3 : w.heap.size + 2 < W1.heap.size := HZ.out.low
  have hsB : B ≤ W1.heap.size := by omega
  clear hW1 hb1' e0 e1 e2 w4 k0 k1 k2
  have k0 := HP.out.c0
  have k1 := HP.out.c1
  go_upto_region 34 with fail
  have x4 := HX.out.c4
  by_cases hck : cw = kn + 1
  case neg =>
    have HSS : Hid (∀ W', Below W1.heap.size W1 W' → W'.cell? ⟨w.heap.size, 4, none⟩ = some (.slice (some ⟨gw, ow, none⟩) s.way.length cw) ∧ W'.cell? ⟨w.heap.size + 1, 1, none⟩ = some (.int .i64 (kn : Int))) := fun W' hb => ⟨(HX.out.below hb).c4, (HP.out.below hb).c1⟩
    have hknI : (kn : Int) < (s.way.length : Int) := by omega
    have hknN : kn < s.way.length := by omega
    have hkc : (kn : Int) ≤ (cw : Int) := by omega
    have hkc' : kn ≤ cw := by omega
    have hk1 : (kn : Int) + 1 ≤ (s.way.length : Int) := by omega
    have hwr : IntKind.i64.wrap ((kn : Int) + 1) = (kn : Int) + 1 := by rw [IntKind.wrap_i64]; omega
    have htn : ((kn : Int) + 1).toNat = kn + 1 := by omega
    have h01 : (0 : Int) ≤ (kn : Int) + 1 := by omega
    have HAT : Hid (∀ W', Below W1.heap.size W1 W' → PksAt W' W'.heap.size (.slice (some ⟨gw, ow, none⟩) s.way.length cw) s.way) := fun W' hb => HR.out.at.y.below hb
    have hlc : s.way.length ≤ cw := by omega
    refine wpE_begin (fun W' => W'.cell? ⟨w.heap.size, 4, none⟩ = some (.slice (some ⟨gw, ow, none⟩) s.way.length cw) ∧ W'.cell? ⟨w.heap.size + 1, 1, none⟩ = some (.int .i64 (kn : Int))) 15 (by kernel_rfl) ?_
    have hHeld := HSS.out _ (Below.refl _ W1).drew
    have hSS : (fun W' : World => W'.cell? ⟨w.heap.size, 4, none⟩ = some (.slice (some ⟨gw, ow, none⟩) s.way.length cw) ∧ W'.cell? ⟨w.heap.size + 1, 1, none⟩ = some (.int .i64 (kn : Int))) _ := hHeld
    clear hHeld
    refine wpE_take 1 (oi := { dst := some 184, op := Op.fieldAddr 26 (Operand.tmp 2) 4, type := 0, pos := "l15_session.go:108", after := #[], guard := none }) ?vq1 rfl (by kernel_rfl) (by kernel_rfl) (by kernel_rfl) (by kernel_rfl) (fun _ _ _ h => h) (Or.inl ⟨by rfl, ?hy1⟩) (by assumption) ?rest1
    case hy1 =>
      first
        | (intro w hSw; (try dsimp only at hSw); go_simp; done)
        | (intro w hSw; (try dsimp only at hSw); go_simp; with_reducible rfl)
    try simp only [Act.put, List.setIfInBounds_toArray, List.set_cons_zero, List.set_cons_succ]
    refine wpE_take 3 (oi := { dst := some 186, op := Op.fieldAddr 48 (Operand.tmp 3) 1, type := 0, pos := "l15_session.go:108", after := #[], guard := none }) ?vq2 rfl (by kernel_rfl) (by kernel_rfl) (by kernel_rfl) (by kernel_rfl) (fun _ _ _ h => h) (Or.inl ⟨by rfl, ?hy2⟩) (by assumption) ?rest2
    case hy2 =>
      first
        | (intro w hSw; (try dsimp only at hSw); go_simp; done)
        | (intro w hSw; (try dsimp only at hSw); go_simp; with_reducible rfl)
    try simp only [Act.put, List.setIfInBounds_toArray, List.set_cons_zero, List.set_cons_succ]
    refine wpE_take 7 (oi := { dst := some 190, op := Op.fieldAddr 26 (Operand.tmp 2) 4, type := 0, pos := "l15_session.go:108", after := #[], guard := none }) ?vq3 rfl (by kernel_rfl) (by kernel_rfl) (by kernel_rfl) (by kernel_rfl) (fun _ _ _ h => h) (Or.inl ⟨by rfl, ?hy3⟩) (by assumption) ?rest3
    case hy3 =>
      first
        | (intro w hSw; (try dsimp only at hSw); go_simp; done)
        | (intro w hSw; (try dsimp only at hSw); go_simp; with_reducible rfl)
    try simp only [Act.put, List.setIfInBounds_toArray, List.set_cons_zero, List.set_cons_succ]
    refine wpE_take 9 (oi := { dst := some 192, op := Op.fieldAddr 48 (Operand.tmp 3) 1, type := 0, pos := "l15_session.go:108", after := #[], guard := none }) ?vq4 rfl (by kernel_rfl) (by kernel_rfl) (by kernel_rfl) (by kernel_rfl) (fun _ _ _ h => h) (Or.inl ⟨by rfl, ?hy4⟩) (by assumption) ?rest4
    case hy4 =>
      first
        | (intro w hSw; (try dsimp only at hSw); go_simp; done)
        | (intro w hSw; (try dsimp only at hSw); go_simp; with_reducible rfl)
    try simp only [Act.put, List.setIfInBounds_toArray, List.set_cons_zero, List.set_cons_succ]
    refine wpE_take 2 (oi := { dst := some 185, op := Op.load 23 (Operand.tmp 184), type := 23, pos := "l15_session.go:108", after := #[{ on := 1, ground := Ground.data }], guard := none }) ?vq5 rfl (by kernel_rfl) (by kernel_rfl) (by kernel_rfl) (by kernel_rfl) (fun _ _ _ h => h) (Or.inl ⟨by rfl, ?hy5⟩) (by assumption) ?rest5
    case hy5 =>
      first
        | (intro w hSw; (try dsimp only at hSw); go_simp; done)
        | (intro w hSw; (try dsimp only at hSw); go_simp; with_reducible rfl)
    try simp only [Act.put, List.setIfInBounds_toArray, List.set_cons_zero, List.set_cons_succ]
    refine wpE_take 4 (oi := { dst := some 187, op := Op.load 3 (Operand.tmp 186), type := 3, pos := "l15_session.go:108", after := #[{ on := 3, ground := Ground.data }], guard := none }) ?vq6 rfl (by kernel_rfl) (by kernel_rfl) (by kernel_rfl) (by kernel_rfl) (fun _ _ _ h => h) (Or.inl ⟨by rfl, ?hy6⟩) (by assumption) ?rest6
    case hy6 =>
      first
        | (intro w hSw; (try dsimp only at hSw); go_simp; done)
        | (intro w hSw; (try dsimp only at hSw); go_simp; with_reducible rfl)
    try simp only [Act.put, List.setIfInBounds_toArray, List.set_cons_zero, List.set_cons_succ]
    refine wpE_take 8 (oi := { dst := some 191, op := Op.load 23 (Operand.tmp 190), type := 23, pos := "l15_session.go:108", after := #[{ on := 7, ground := Ground.data }], guard := none }) ?vq7 rfl (by kernel_rfl) (by kernel_rfl) (by kernel_rfl) (by kernel_rfl) (fun _ _ _ h => h) (Or.inl ⟨by rfl, ?hy7⟩) (by assumption) ?rest7
    case hy7 =>
      first
        | (intro w hSw; (try dsimp only at hSw); go_simp; done)
        | (intro w hSw; (try dsimp only at hSw); go_simp; with_reducible rfl)
    try simp only [Act.put, List.setIfInBounds_toArray, List.set_cons_zero, List.set_cons_succ]
    refine wpE_take 10 (oi := { dst := some 193, op := Op.load 3 (Operand.tmp 192), type := 3, pos := "l15_session.go:108", after := #[{ on := 9, ground := Ground.data }], guard := none }) ?vq8 rfl (by kernel_rfl) (by kernel_rfl) (by kernel_rfl) (by kernel_rfl) (fun _ _ _ h => h) (Or.inl ⟨by rfl, ?hy8⟩) (by assumption) ?rest8
    case hy8 =>
      first
        | (intro w hSw; (try dsimp only at hSw); go_simp; done)
        | (intro w hSw; (try dsimp only at hSw); go_simp; with_reducible rfl)
    try simp only [Act.put, List.setIfInBounds_toArray, List.set_cons_zero, List.set_cons_succ]
    refine wpE_take 11 (oi := { dst := some 194, op := Op.binOp BinOp.add 3 (Operand.tmp 193) (Operand.const (Value.int IntKind.i64 1)) 3, type := 3, pos := "l15_session.go:108", after := #[{ on := 10, ground := Ground.data }], guard := none }) ?vq9 rfl (by kernel_rfl) (by kernel_rfl) (by kernel_rfl) (by kernel_rfl) (fun _ _ _ h => h) (Or.inl ⟨by rfl, ?hy9⟩) (by assumption) ?rest9
    case hy9 =>
      first
        | (intro w hSw; (try dsimp only at hSw); go_simp; done)
        | (intro w hSw; (try dsimp only at hSw); go_simp; with_reducible rfl)
    try simp only [Act.put, List.setIfInBounds_toArray, List.set_cons_zero, List.set_cons_succ]
    refine wpE_take 5 (oi := { dst := some 188, op := Op.slice 23 (Operand.tmp 185) none (some (Operand.tmp 187)) none, type := 23, pos := "l15_session.go:108", after := #[{ on := 2, ground := Ground.data }, { on := 4, ground := Ground.data }], guard := none }) ?vq10 rfl (by kernel_rfl) (by kernel_rfl) (by kernel_rfl) (by kernel_rfl) (fun _ _ _ h => h) (Or.inl ⟨by rfl, ?hy10⟩) (by assumption) ?rest10
    case hy10 =>
      first
        | (intro w hSw; (try dsimp only at hSw); go_simp; done)
        | (intro w hSw; (try dsimp only at hSw); go_simp; with_reducible rfl)
    try simp only [Act.put, List.setIfInBounds_toArray, List.set_cons_zero, List.set_cons_succ]
    refine wpE_take 12 (oi := { dst := some 195, op := Op.slice 23 (Operand.tmp 191) (some (Operand.tmp 194)) none none, type := 23, pos := "l15_session.go:108", after := #[{ on := 8, ground := Ground.data }, { on := 11, ground := Ground.data }], guard := none }) ?vq11 rfl (by kernel_rfl) (by kernel_rfl) (by kernel_rfl) (by kernel_rfl) (fun _ _ _ h => h) (Or.inl ⟨by rfl, ?hy11⟩) (by assumption) ?rest11
    case hy11 =>
      first
        | (intro w hSw; (try dsimp only at hSw); go_simp; done)
        | (intro w hSw; (try dsimp only at hSw); go_simp; with_reducible rfl)
    try simp only [Act.put, List.setIfInBounds_toArray, List.set_cons_zero, List.set_cons_succ]
    have hbA : Below W1.heap.size W1 (W1.drew.alloc (.cells #[] 84)) := (Below.refl _ W1).drew.alloc (by simp) _
    have hown0 : (W1.drew.alloc (.cells #[] 84)).ownsRow W1.heap.size 84 3 (.slice (some ⟨W1.heap.size, 0, none⟩) 0 0) 0 [] := World.ownsRow_made (base := W1.heap.size) (e := 84) (size := 3) W1.drew #[] 0 (by simp) (by unfold maxLen; omega) rfl
    refine wpE_one 0 (o := { dst := some 183, op := Op.buildSlice 23 0 #[], type := 23, pos := "l15_session.go:108", after := #[], guard := none }) (by kernel_rfl) rfl (fun K hK => ?_)
    go_simp
    refine hK.out _ _ (fun h => HSS.out _ hbA) ?_
    clear hK K
    try simp only [Act.put, List.setIfInBounds_toArray, List.set_cons_zero, List.set_cons_succ]
    refine wpE_one 6 (o := { dst := some 189, op := Op.call { callee := Callee.builtin Builtin.append, args := #[Operand.tmp 183, Operand.tmp 188], argTypes := #[23, 23] }, type := 23, pos := "l15_session.go:108", after := #[{ on := 0, ground := Ground.data }, { on := 5, ground := Ground.data }], guard := none }) (by kernel_rfl) rfl (fun K hK => ?_)
    refine step_append_mayF _ (by rfl) _ _ _ (by rfl) W1.heap.size 84 p0' (.agg #[.int .i64 0, .int .i64 0, .string ⟨#[]⟩]) 3 32 Try.underlying23 hp hpz0 hpz1 hpz2 rfl (by decide) _ 0 [] (by rfl) hown0 _ kn _ ((s.way.take kn).flatMap Pk.cells) (by rfl) (by rw [flatPk_len, List.length_take]; omega) (PksAt.news ((PksAt.take (HAT.out _ hbA) (by omega)))) (onesPk _) (by unfold maxLen; omega) (by omega) (by simp) ?_
    intro ar kq w9 hown9 hgrow9 hnew9
    rw [Nat.zero_add, List.nil_append] at hown9
    rw [Nat.zero_add] at hnew9 ⊢
    have hb9 : Below W1.heap.size W1 w9 := hbA.grown hgrow9 (by simp) (fun k hk => by have := (World.ownsRow.lt hown0 k hk).1; omega)
    refine hK.out _ _ (fun h => HSS.out _ hb9) ?_
    clear hK K
    try simp only [Act.put, List.setIfInBounds_toArray, List.set_cons_zero, List.set_cons_succ]
    refine wpE_one 13 (o := { dst := some 196, op := Op.call { callee := Callee.builtin Builtin.append, args := #[Operand.tmp 189, Operand.tmp 195], argTypes := #[23, 23] }, type := 23, pos := "l15_session.go:108", after := #[{ on := 6, ground := Ground.data }, { on := 12, ground := Ground.data }, { on := 6, ground := Ground.chain }], guard := none }) (by kernel_rfl) rfl (fun K hK => ?_)
    refine step_append_mayF _ (by rfl) _ _ _ (by rfl) W1.heap.size 84 p0' (.agg #[.int .i64 0, .int .i64 0, .string ⟨#[]⟩]) 3 32 Try.underlying23 hp hpz0 hpz1 hpz2 rfl (by decide) _ kn _ (by rfl) hown9 _ (s.way.length - (kn + 1)) _ ((s.way.drop (kn + 1)).flatMap Pk.cells) (by rfl) (by rw [flatPk_len, List.length_drop]) (by
      have hA := PksAt.drop (HAT.out _ hb9) (k := kn + 1) (by omega) (some ⟨gw, ow + (kn + 1) * 3, none⟩) (fun _ g o ha => by simp only [Option.some.injEq, Addr.mk.injEq, and_true] at ha; obtain ⟨rfl, rfl⟩ := ha; rfl)
      exact PksAt.news hA) (onesPk _) (by unfold maxLen; omega) (by omega) hb9.size ?_
    intro br kr w8 hown8 hgrow8 hnew8
    have hb8 : Below W1.heap.size W1 w8 := hb9.grown hgrow8 hb9.size (fun k hk => (World.ownsRow.lt hown9 k hk).1)
    refine hK.out _ _ (fun h => HSS.out _ hb8) ?_
    clear hK K
    try simp only [Act.put, List.setIfInBounds_toArray, List.set_cons_zero, List.set_cons_succ]
    have hS9 : (fun W' : World => W'.cell? ⟨w.heap.size, 4, none⟩ = some (.slice (some ⟨gw, ow, none⟩) s.way.length cw) ∧ W'.cell? ⟨w.heap.size + 1, 1, none⟩ = some (.int .i64 (kn : Int))) w8 := HSS.out _ hb8
    refine wpE_take 14 (oi := { dst := some 197, op := Op.fieldAddr 26 (Operand.tmp 2) 4, type := 0, pos := "l15_session.go:108", after := #[{ on := 0, ground := Ground.phase }, { on := 1, ground := Ground.phase }, { on := 2, ground := Ground.phase }, { on := 3, ground := Ground.phase }, { on := 4, ground := Ground.phase }, { on := 5, ground := Ground.phase }, { on := 6, ground := Ground.phase }, { on := 7, ground := Ground.phase }, { on := 8, ground := Ground.phase }, { on := 9, ground := Ground.phase }, { on := 10, ground := Ground.phase }, { on := 11, ground := Ground.phase }, { on := 12, ground := Ground.phase }, { on := 13, ground := Ground.phase }], guard := none }) ?vq12 rfl (by kernel_rfl) (by kernel_rfl) (by kernel_rfl) (by kernel_rfl) (fun _ _ _ h => h) (Or.inl ⟨by rfl, ?hy12⟩) (by assumption) ?rest12
    case hy12 =>
      first
        | (intro w hSw; (try dsimp only at hSw); go_simp; done)
        | (intro w hSw; (try dsimp only at hSw); go_simp; with_reducible rfl)
    try simp only [Act.put, List.setIfInBounds_toArray, List.set_cons_zero, List.set_cons_succ]
    clear hS9
    have HX8 := HX.out.below hb8
    have y8 := HX8.c4
    have g8 := HX8.f4
    refine wpE_one 15 (o := { dst := none, op := Op.store 23 (Operand.tmp 197) (Operand.tmp 196), type := 0, pos := "l15_session.go:108", after := #[{ on := 14, ground := Ground.data }, { on := 13, ground := Ground.data }, { on := 13, ground := Ground.chain }, { on := 0, ground := Ground.phase }, { on := 1, ground := Ground.phase }, { on := 2, ground := Ground.phase }, { on := 3, ground := Ground.phase }, { on := 4, ground := Ground.phase }, { on := 5, ground := Ground.phase }, { on := 6, ground := Ground.phase }, { on := 7, ground := Ground.phase }, { on := 8, ground := Ground.phase }, { on := 9, ground := Ground.phase }, { on := 10, ground := Ground.phase }, { on := 11, ground := Ground.phase }, { on := 12, ground := Ground.phase }, { on := 13, ground := Ground.phase }], guard := none }) (by kernel_rfl) rfl (fun K hK => ?_)
    go_simp
    refine hK.out _ _ (fun h => absurd rfl h) ?_
    clear hK K
    try simp only [Act.put, List.setIfInBounds_toArray, List.set_cons_zero, List.set_cons_succ]
    refine wpE_done (by kernel_rfl) ?_ _
    go_upto_region 35 with fail
    have hlo : (outP s.way kn).length = kn + (s.way.length - (kn + 1)) := by rw [len_outP _ (by omega)]; omega
    have hro : PkRow w8 B (.slice br (kn + (s.way.length - (kn + 1))) kr) (outP s.way kn) := by (unfold PkRow; rw [hlo]; unfold outP; rw [List.flatMap_append]; exact own_lower hown8 hsB)
    have hQ := SesRow.putY HR.out hro (grow_belowY hb8) (fun g hg => .inr (World.ownsRow.lt hown8 g hg).1)
    have HnX9 := hQ.2.avoid HX.out.low HnX.out
    have HnP9 := hQ.2.avoid HP.out.low HnP.out
    have HnZ9 := hQ.2.avoid HZ.out.low HnZ.out
    have HP9 := HP.out.below hb8
    have HZ9 := HZ.out.below hb8
    have HQ : Hid (type_of% hQ) := hQ
    have HB8 : Hid (type_of% hb8) := hb8
    obtain ⟨V1, hV1⟩ : ∃ X, X = w8.setCell ⟨w.heap.size, 4, none⟩ (.slice br (kn + (s.way.length - (kn + 1))) kr) := ⟨_, rfl⟩
    have HX : Hid (type_of% (HX8.set4 (.slice br (kn + (s.way.length - (kn + 1))) kr))) := HX8.set4 (.slice br (kn + (s.way.length - (kn + 1))) kr)
    have HP : Hid (type_of% (HP9.apart (c := w.heap.size) (k := 4) (u := (.slice br (kn + (s.way.length - (kn + 1))) kr)) (by omega))) := HP9.apart (c := w.heap.size) (k := 4) (u := (.slice br (kn + (s.way.length - (kn + 1))) kr)) (by omega)
    have HZ : Hid (type_of% (HZ9.apart (c := w.heap.size) (k := 4) (u := (.slice br (kn + (s.way.length - (kn + 1))) kr)) (by omega))) := HZ9.apart (c := w.heap.size) (k := 4) (u := (.slice br (kn + (s.way.length - (kn + 1))) kr)) (by omega)
    have HR : Hid (type_of% (HQ.out.1.setC (k := 4) (u := (.slice br (kn + (s.way.length - (kn + 1))) kr)) HnX9)) := HQ.out.1.setC (k := 4) (u := (.slice br (kn + (s.way.length - (kn + 1))) kr)) HnX9
    have HT : Hid (type_of% ((HT.out.trans HQ.out.2).setCell w.heap.size 4 (.slice br (kn + (s.way.length - (kn + 1))) kr) (Nat.le_refl _))) := (HT.out.trans HQ.out.2).setCell w.heap.size 4 (.slice br (kn + (s.way.length - (kn + 1))) kr) (Nat.le_refl _)
    have HnX : Hid (type_of% HnX9) := HnX9
    have HnP : Hid (type_of% HnP9) := HnP9
    have HnZ : Hid (type_of% HnZ9) := HnZ9
    have HCV : Hid (Cv3 V1 W0.heap.size (.int .i64 pe) (.int .i64 pn) (.string pt)) := by show Cv3 _ _ _ _ _; rw [hV1]; exact (HC.out.below HB8.out).apart (by omega)
    rw [← hV1] at HX HP HZ HR HT ⊢
    have hs3 : w.heap.size + 2 < V1.heap.size := HZ.out.low
    clear hV1 HX8 HP9 HZ9 HnX9 HnP9 HnZ9 HQ hQ hro hlo y8 g8 hown8 hgrow8 hnew8 hb8 hown9 hgrow9 hnew9 hb9 hown0 hbA hSS HAT HSS
    clear k0 k1 HC HCV HnC
    have k0 := HP.out.c0
    have y0 := HX.out.c0
    have z0 := HZ.out.c0
    have f0 := HZ.out.f0
    have y1 := HX.out.c1
    have z1 := HZ.out.c1
    have f1 := HZ.out.f1
    have y2 := HX.out.c2
    have z2 := HZ.out.c2
    have f2 := HZ.out.f2
    have y3 := HX.out.c3
    have z3 := HZ.out.c3
    have f3 := HZ.out.f3
    have y4 := HX.out.c4
    have z4 := HZ.out.c4
    have f4 := HZ.out.f4
    have y5 := HX.out.c5
    have z5 := HZ.out.c5
    have f5 := HZ.out.f5
    go_wp2_with fail
    (try simp only [Exit.inBlock, Exit.then])
    rw [HE.out, HK.out]
    refine bodyPost_ret (v := .tuple #[.agg #[.int .i64 s.ep, .slice ai s.items.length ci, .int .i64 s.base, .slice ah s.handed.length ch, .slice br (kn + (s.way.length - (kn + 1))) kr, .slice aa s.acks.length ca], .bool true]) ?_ rfl (StO.ret2 (.slice ai s.items.length ci) (.slice ah s.handed.length ch) (.slice br (kn + (s.way.length - (kn + 1))) kr) (.slice aa s.acks.length ca) ?_ ?_ ?_)
    · rw [rc]
      go_simp
    · rfl
    · exact HR.out.set6 HnZ.out
    · exact HT.out.set6 (by omega)

  case pos =>
    subst hck
    have HSS : Hid (∀ W', Below W1.heap.size W1 W' → W'.cell? ⟨w.heap.size, 4, none⟩ = some (.slice (some ⟨gw, ow, none⟩) s.way.length (kn + 1)) ∧ W'.cell? ⟨w.heap.size + 1, 1, none⟩ = some (.int .i64 (kn : Int))) := fun W' hb => ⟨(HX.out.below hb).c4, (HP.out.below hb).c1⟩
    have hknI : (kn : Int) < (s.way.length : Int) := by omega
    have hknN : kn < s.way.length := by omega
    have hkc : (kn : Int) ≤ ((kn + 1) : Int) := by omega
    have hkc' : kn ≤ (kn + 1) := by omega
    have hk1 : (kn : Int) + 1 ≤ (s.way.length : Int) := by omega
    have hwr : IntKind.i64.wrap ((kn : Int) + 1) = (kn : Int) + 1 := by rw [IntKind.wrap_i64]; omega
    have htn : ((kn : Int) + 1).toNat = kn + 1 := by omega
    have h01 : (0 : Int) ≤ (kn : Int) + 1 := by omega
    have HAT : Hid (∀ W', Below W1.heap.size W1 W' → PksAt W' W'.heap.size (.slice (some ⟨gw, ow, none⟩) s.way.length (kn + 1)) s.way) := fun W' hb => HR.out.at.y.below hb
    have hlc : s.way.length ≤ (kn + 1) := by omega
    refine wpE_begin (fun W' => W'.cell? ⟨w.heap.size, 4, none⟩ = some (.slice (some ⟨gw, ow, none⟩) s.way.length (kn + 1)) ∧ W'.cell? ⟨w.heap.size + 1, 1, none⟩ = some (.int .i64 (kn : Int))) 15 (by kernel_rfl) ?_
    have hHeld := HSS.out _ (Below.refl _ W1).drew
    have hSS : (fun W' : World => W'.cell? ⟨w.heap.size, 4, none⟩ = some (.slice (some ⟨gw, ow, none⟩) s.way.length (kn + 1)) ∧ W'.cell? ⟨w.heap.size + 1, 1, none⟩ = some (.int .i64 (kn : Int))) _ := hHeld
    clear hHeld
    refine wpE_take 1 (oi := { dst := some 184, op := Op.fieldAddr 26 (Operand.tmp 2) 4, type := 0, pos := "l15_session.go:108", after := #[], guard := none }) ?vp1 rfl (by kernel_rfl) (by kernel_rfl) (by kernel_rfl) (by kernel_rfl) (fun _ _ _ h => h) (Or.inl ⟨by rfl, ?hp1⟩) (by assumption) ?reste1
    case hp1 =>
      first
        | (intro w hSw; (try dsimp only at hSw); go_simp; done)
        | (intro w hSw; (try dsimp only at hSw); go_simp; with_reducible rfl)
    try simp only [Act.put, List.setIfInBounds_toArray, List.set_cons_zero, List.set_cons_succ]
    refine wpE_take 3 (oi := { dst := some 186, op := Op.fieldAddr 48 (Operand.tmp 3) 1, type := 0, pos := "l15_session.go:108", after := #[], guard := none }) ?vp2 rfl (by kernel_rfl) (by kernel_rfl) (by kernel_rfl) (by kernel_rfl) (fun _ _ _ h => h) (Or.inl ⟨by rfl, ?hp2⟩) (by assumption) ?reste2
    case hp2 =>
      first
        | (intro w hSw; (try dsimp only at hSw); go_simp; done)
        | (intro w hSw; (try dsimp only at hSw); go_simp; with_reducible rfl)
    try simp only [Act.put, List.setIfInBounds_toArray, List.set_cons_zero, List.set_cons_succ]
    refine wpE_take 7 (oi := { dst := some 190, op := Op.fieldAddr 26 (Operand.tmp 2) 4, type := 0, pos := "l15_session.go:108", after := #[], guard := none }) ?vp3 rfl (by kernel_rfl) (by kernel_rfl) (by kernel_rfl) (by kernel_rfl) (fun _ _ _ h => h) (Or.inl ⟨by rfl, ?hp3⟩) (by assumption) ?reste3
    case hp3 =>
      first
        | (intro w hSw; (try dsimp only at hSw); go_simp; done)
        | (intro w hSw; (try dsimp only at hSw); go_simp; with_reducible rfl)
    try simp only [Act.put, List.setIfInBounds_toArray, List.set_cons_zero, List.set_cons_succ]
    refine wpE_take 9 (oi := { dst := some 192, op := Op.fieldAddr 48 (Operand.tmp 3) 1, type := 0, pos := "l15_session.go:108", after := #[], guard := none }) ?vp4 rfl (by kernel_rfl) (by kernel_rfl) (by kernel_rfl) (by kernel_rfl) (fun _ _ _ h => h) (Or.inl ⟨by rfl, ?hp4⟩) (by assumption) ?reste4
    case hp4 =>
      first
        | (intro w hSw; (try dsimp only at hSw); go_simp; done)
        | (intro w hSw; (try dsimp only at hSw); go_simp; with_reducible rfl)
    try simp only [Act.put, List.setIfInBounds_toArray, List.set_cons_zero, List.set_cons_succ]
    refine wpE_take 2 (oi := { dst := some 185, op := Op.load 23 (Operand.tmp 184), type := 23, pos := "l15_session.go:108", after := #[{ on := 1, ground := Ground.data }], guard := none }) ?vp5 rfl (by kernel_rfl) (by kernel_rfl) (by kernel_rfl) (by kernel_rfl) (fun _ _ _ h => h) (Or.inl ⟨by rfl, ?hp5⟩) (by assumption) ?reste5
    case hp5 =>
      first
        | (intro w hSw; (try dsimp only at hSw); go_simp; done)
        | (intro w hSw; (try dsimp only at hSw); go_simp; with_reducible rfl)
    try simp only [Act.put, List.setIfInBounds_toArray, List.set_cons_zero, List.set_cons_succ]
    refine wpE_take 4 (oi := { dst := some 187, op := Op.load 3 (Operand.tmp 186), type := 3, pos := "l15_session.go:108", after := #[{ on := 3, ground := Ground.data }], guard := none }) ?vp6 rfl (by kernel_rfl) (by kernel_rfl) (by kernel_rfl) (by kernel_rfl) (fun _ _ _ h => h) (Or.inl ⟨by rfl, ?hp6⟩) (by assumption) ?reste6
    case hp6 =>
      first
        | (intro w hSw; (try dsimp only at hSw); go_simp; done)
        | (intro w hSw; (try dsimp only at hSw); go_simp; with_reducible rfl)
    try simp only [Act.put, List.setIfInBounds_toArray, List.set_cons_zero, List.set_cons_succ]
    refine wpE_take 8 (oi := { dst := some 191, op := Op.load 23 (Operand.tmp 190), type := 23, pos := "l15_session.go:108", after := #[{ on := 7, ground := Ground.data }], guard := none }) ?vp7 rfl (by kernel_rfl) (by kernel_rfl) (by kernel_rfl) (by kernel_rfl) (fun _ _ _ h => h) (Or.inl ⟨by rfl, ?hp7⟩) (by assumption) ?reste7
    case hp7 =>
      first
        | (intro w hSw; (try dsimp only at hSw); go_simp; done)
        | (intro w hSw; (try dsimp only at hSw); go_simp; with_reducible rfl)
    try simp only [Act.put, List.setIfInBounds_toArray, List.set_cons_zero, List.set_cons_succ]
    refine wpE_take 10 (oi := { dst := some 193, op := Op.load 3 (Operand.tmp 192), type := 3, pos := "l15_session.go:108", after := #[{ on := 9, ground := Ground.data }], guard := none }) ?vp8 rfl (by kernel_rfl) (by kernel_rfl) (by kernel_rfl) (by kernel_rfl) (fun _ _ _ h => h) (Or.inl ⟨by rfl, ?hp8⟩) (by assumption) ?reste8
    case hp8 =>
      first
        | (intro w hSw; (try dsimp only at hSw); go_simp; done)
        | (intro w hSw; (try dsimp only at hSw); go_simp; with_reducible rfl)
    try simp only [Act.put, List.setIfInBounds_toArray, List.set_cons_zero, List.set_cons_succ]
    refine wpE_take 11 (oi := { dst := some 194, op := Op.binOp BinOp.add 3 (Operand.tmp 193) (Operand.const (Value.int IntKind.i64 1)) 3, type := 3, pos := "l15_session.go:108", after := #[{ on := 10, ground := Ground.data }], guard := none }) ?vp9 rfl (by kernel_rfl) (by kernel_rfl) (by kernel_rfl) (by kernel_rfl) (fun _ _ _ h => h) (Or.inl ⟨by rfl, ?hp9⟩) (by assumption) ?reste9
    case hp9 =>
      first
        | (intro w hSw; (try dsimp only at hSw); go_simp; done)
        | (intro w hSw; (try dsimp only at hSw); go_simp; with_reducible rfl)
    try simp only [Act.put, List.setIfInBounds_toArray, List.set_cons_zero, List.set_cons_succ]
    refine wpE_take 5 (oi := { dst := some 188, op := Op.slice 23 (Operand.tmp 185) none (some (Operand.tmp 187)) none, type := 23, pos := "l15_session.go:108", after := #[{ on := 2, ground := Ground.data }, { on := 4, ground := Ground.data }], guard := none }) ?vp10 rfl (by kernel_rfl) (by kernel_rfl) (by kernel_rfl) (by kernel_rfl) (fun _ _ _ h => h) (Or.inl ⟨by rfl, ?hp10⟩) (by assumption) ?reste10
    case hp10 =>
      first
        | (intro w hSw; (try dsimp only at hSw); go_simp; done)
        | (intro w hSw; (try dsimp only at hSw); go_simp; with_reducible rfl)
    try simp only [Act.put, List.setIfInBounds_toArray, List.set_cons_zero, List.set_cons_succ]
    refine wpE_take 12 (oi := { dst := some 195, op := Op.slice 23 (Operand.tmp 191) (some (Operand.tmp 194)) none none, type := 23, pos := "l15_session.go:108", after := #[{ on := 8, ground := Ground.data }, { on := 11, ground := Ground.data }], guard := none }) ?vp11 rfl (by kernel_rfl) (by kernel_rfl) (by kernel_rfl) (by kernel_rfl) (fun _ _ _ h => h) (Or.inl ⟨by rfl, ?hp11⟩) (by assumption) ?reste11
    case hp11 =>
      first
        | (intro w hSw; (try dsimp only at hSw); go_simp; done)
        | (intro w hSw; (try dsimp only at hSw); go_simp; with_reducible rfl)
    try simp only [Act.put, List.setIfInBounds_toArray, List.set_cons_zero, List.set_cons_succ]
    have hbA : Below W1.heap.size W1 (W1.drew.alloc (.cells #[] 84)) := (Below.refl _ W1).drew.alloc (by simp) _
    have hown0 : (W1.drew.alloc (.cells #[] 84)).ownsRow W1.heap.size 84 3 (.slice (some ⟨W1.heap.size, 0, none⟩) 0 0) 0 [] := World.ownsRow_made (base := W1.heap.size) (e := 84) (size := 3) W1.drew #[] 0 (by simp) (by unfold maxLen; omega) rfl
    refine wpE_one 0 (o := { dst := some 183, op := Op.buildSlice 23 0 #[], type := 23, pos := "l15_session.go:108", after := #[], guard := none }) (by kernel_rfl) rfl (fun K hK => ?_)
    go_simp
    refine hK.out _ _ (fun h => HSS.out _ hbA) ?_
    clear hK K
    try simp only [Act.put, List.setIfInBounds_toArray, List.set_cons_zero, List.set_cons_succ]
    refine wpE_one 6 (o := { dst := some 189, op := Op.call { callee := Callee.builtin Builtin.append, args := #[Operand.tmp 183, Operand.tmp 188], argTypes := #[23, 23] }, type := 23, pos := "l15_session.go:108", after := #[{ on := 0, ground := Ground.data }, { on := 5, ground := Ground.data }], guard := none }) (by kernel_rfl) rfl (fun K hK => ?_)
    refine step_append_mayF _ (by rfl) _ _ _ (by rfl) W1.heap.size 84 p0' (.agg #[.int .i64 0, .int .i64 0, .string ⟨#[]⟩]) 3 32 Try.underlying23 hp hpz0 hpz1 hpz2 rfl (by decide) _ 0 [] (by rfl) hown0 _ kn _ ((s.way.take kn).flatMap Pk.cells) (by rfl) (by rw [flatPk_len, List.length_take]; omega) (PksAt.news ((PksAt.take (HAT.out _ hbA) (by omega)))) (onesPk _) (by unfold maxLen; omega) (by omega) (by simp) ?_
    intro ar kq w9 hown9 hgrow9 hnew9
    rw [Nat.zero_add, List.nil_append] at hown9
    rw [Nat.zero_add] at hnew9 ⊢
    have hb9 : Below W1.heap.size W1 w9 := hbA.grown hgrow9 (by simp) (fun k hk => by have := (World.ownsRow.lt hown0 k hk).1; omega)
    refine hK.out _ _ (fun h => HSS.out _ hb9) ?_
    clear hK K
    try simp only [Act.put, List.setIfInBounds_toArray, List.set_cons_zero, List.set_cons_succ]
    refine wpE_one 13 (o := { dst := some 196, op := Op.call { callee := Callee.builtin Builtin.append, args := #[Operand.tmp 189, Operand.tmp 195], argTypes := #[23, 23] }, type := 23, pos := "l15_session.go:108", after := #[{ on := 6, ground := Ground.data }, { on := 12, ground := Ground.data }, { on := 6, ground := Ground.chain }], guard := none }) (by kernel_rfl) rfl (fun K hK => ?_)
    refine step_append_mayF _ (by rfl) _ _ _ (by rfl) W1.heap.size 84 p0' (.agg #[.int .i64 0, .int .i64 0, .string ⟨#[]⟩]) 3 32 Try.underlying23 hp hpz0 hpz1 hpz2 rfl (by decide) _ kn _ (by rfl) hown9 _ 0 _ ((s.way.drop (kn + 1)).flatMap Pk.cells) (by rfl) (by rw [flatPk_len, List.length_drop]; omega) (fun j u hj => by have := (List.getElem?_eq_some_iff.1 hj).1; rw [flatPk_len, List.length_drop] at this; omega) (onesPk _) (by unfold maxLen; omega) (by omega) hb9.size ?_
    intro br kr w8 hown8 hgrow8 hnew8
    rw [Nat.add_zero] at hown8 hnew8 ⊢
    have hb8 : Below W1.heap.size W1 w8 := hb9.grown hgrow8 hb9.size (fun k hk => (World.ownsRow.lt hown9 k hk).1)
    refine hK.out _ _ (fun h => HSS.out _ hb8) ?_
    clear hK K
    try simp only [Act.put, List.setIfInBounds_toArray, List.set_cons_zero, List.set_cons_succ]
    have hS9 : (fun W' : World => W'.cell? ⟨w.heap.size, 4, none⟩ = some (.slice (some ⟨gw, ow, none⟩) s.way.length (kn + 1)) ∧ W'.cell? ⟨w.heap.size + 1, 1, none⟩ = some (.int .i64 (kn : Int))) w8 := HSS.out _ hb8
    refine wpE_take 14 (oi := { dst := some 197, op := Op.fieldAddr 26 (Operand.tmp 2) 4, type := 0, pos := "l15_session.go:108", after := #[{ on := 0, ground := Ground.phase }, { on := 1, ground := Ground.phase }, { on := 2, ground := Ground.phase }, { on := 3, ground := Ground.phase }, { on := 4, ground := Ground.phase }, { on := 5, ground := Ground.phase }, { on := 6, ground := Ground.phase }, { on := 7, ground := Ground.phase }, { on := 8, ground := Ground.phase }, { on := 9, ground := Ground.phase }, { on := 10, ground := Ground.phase }, { on := 11, ground := Ground.phase }, { on := 12, ground := Ground.phase }, { on := 13, ground := Ground.phase }], guard := none }) ?vp12 rfl (by kernel_rfl) (by kernel_rfl) (by kernel_rfl) (by kernel_rfl) (fun _ _ _ h => h) (Or.inl ⟨by rfl, ?hp12⟩) (by assumption) ?reste12
    case hp12 =>
      first
        | (intro w hSw; (try dsimp only at hSw); go_simp; done)
        | (intro w hSw; (try dsimp only at hSw); go_simp; with_reducible rfl)
    try simp only [Act.put, List.setIfInBounds_toArray, List.set_cons_zero, List.set_cons_succ]
    clear hS9
    have HX8 := HX.out.below hb8
    have y8 := HX8.c4
    have g8 := HX8.f4
    refine wpE_one 15 (o := { dst := none, op := Op.store 23 (Operand.tmp 197) (Operand.tmp 196), type := 0, pos := "l15_session.go:108", after := #[{ on := 14, ground := Ground.data }, { on := 13, ground := Ground.data }, { on := 13, ground := Ground.chain }, { on := 0, ground := Ground.phase }, { on := 1, ground := Ground.phase }, { on := 2, ground := Ground.phase }, { on := 3, ground := Ground.phase }, { on := 4, ground := Ground.phase }, { on := 5, ground := Ground.phase }, { on := 6, ground := Ground.phase }, { on := 7, ground := Ground.phase }, { on := 8, ground := Ground.phase }, { on := 9, ground := Ground.phase }, { on := 10, ground := Ground.phase }, { on := 11, ground := Ground.phase }, { on := 12, ground := Ground.phase }, { on := 13, ground := Ground.phase }], guard := none }) (by kernel_rfl) rfl (fun K hK => ?_)
    go_simp
    refine hK.out _ _ (fun h => absurd rfl h) ?_
    clear hK K
    try simp only [Act.put, List.setIfInBounds_toArray, List.set_cons_zero, List.set_cons_succ]
    refine wpE_done (by kernel_rfl) ?_ _
    go_upto_region 35 with fail
    have hlo : (outP s.way kn).length = kn := by rw [len_outP _ (by omega)]; omega
    have hro : PkRow w8 B (.slice br kn kr) (outP s.way kn) := by (unfold PkRow; rw [hlo]; unfold outP; rw [List.flatMap_append]; exact own_lower hown8 hsB)
    have hQ := SesRow.putY HR.out hro (grow_belowY hb8) (fun g hg => .inr (World.ownsRow.lt hown8 g hg).1)
    have HnX9 := hQ.2.avoid HX.out.low HnX.out
    have HnP9 := hQ.2.avoid HP.out.low HnP.out
    have HnZ9 := hQ.2.avoid HZ.out.low HnZ.out
    have HP9 := HP.out.below hb8
    have HZ9 := HZ.out.below hb8
    have HQ : Hid (type_of% hQ) := hQ
    have HB8 : Hid (type_of% hb8) := hb8
    obtain ⟨V1, hV1⟩ : ∃ X, X = w8.setCell ⟨w.heap.size, 4, none⟩ (.slice br kn kr) := ⟨_, rfl⟩
    have HX : Hid (type_of% (HX8.set4 (.slice br kn kr))) := HX8.set4 (.slice br kn kr)
    have HP : Hid (type_of% (HP9.apart (c := w.heap.size) (k := 4) (u := (.slice br kn kr)) (by omega))) := HP9.apart (c := w.heap.size) (k := 4) (u := (.slice br kn kr)) (by omega)
    have HZ : Hid (type_of% (HZ9.apart (c := w.heap.size) (k := 4) (u := (.slice br kn kr)) (by omega))) := HZ9.apart (c := w.heap.size) (k := 4) (u := (.slice br kn kr)) (by omega)
    have HR : Hid (type_of% (HQ.out.1.setC (k := 4) (u := (.slice br kn kr)) HnX9)) := HQ.out.1.setC (k := 4) (u := (.slice br kn kr)) HnX9
    have HT : Hid (type_of% ((HT.out.trans HQ.out.2).setCell w.heap.size 4 (.slice br kn kr) (Nat.le_refl _))) := (HT.out.trans HQ.out.2).setCell w.heap.size 4 (.slice br kn kr) (Nat.le_refl _)
    have HnX : Hid (type_of% HnX9) := HnX9
    have HnP : Hid (type_of% HnP9) := HnP9
    have HnZ : Hid (type_of% HnZ9) := HnZ9
    have HCV : Hid (Cv3 V1 W0.heap.size (.int .i64 pe) (.int .i64 pn) (.string pt)) := by show Cv3 _ _ _ _ _; rw [hV1]; exact (HC.out.below HB8.out).apart (by omega)
    rw [← hV1] at HX HP HZ HR HT ⊢
    have hs3 : w.heap.size + 2 < V1.heap.size := HZ.out.low
    clear hV1 HX8 HP9 HZ9 HnX9 HnP9 HnZ9 HQ hQ hro hlo y8 g8 hown8 hgrow8 hnew8 hb8 hown9 hgrow9 hnew9 hb9 hown0 hbA hSS HAT HSS
    clear k0 k1 HC HCV HnC
    have k0 := HP.out.c0
    have y0 := HX.out.c0
    have z0 := HZ.out.c0
    have f0 := HZ.out.f0
    have y1 := HX.out.c1
    have z1 := HZ.out.c1
    have f1 := HZ.out.f1
    have y2 := HX.out.c2
    have z2 := HZ.out.c2
    have f2 := HZ.out.f2
    have y3 := HX.out.c3
    have z3 := HZ.out.c3
    have f3 := HZ.out.f3
    have y4 := HX.out.c4
    have z4 := HZ.out.c4
    have f4 := HZ.out.f4
    have y5 := HX.out.c5
    have z5 := HZ.out.c5
    have f5 := HZ.out.f5
    go_wp2_with fail
    (try simp only [Exit.inBlock, Exit.then])
    rw [HE.out, HK.out]
    refine bodyPost_ret (v := .tuple #[.agg #[.int .i64 s.ep, .slice ai s.items.length ci, .int .i64 s.base, .slice ah s.handed.length ch, .slice br kn kr, .slice aa s.acks.length ca], .bool true]) ?_ rfl (StO.ret2 (.slice ai s.items.length ci) (.slice ah s.handed.length ch) (.slice br kn kr) (.slice aa s.acks.length ca) ?_ ?_ ?_)
    · rw [rc]
      go_simp
    · rfl
    · exact HR.out.set6 HnZ.out
    · exact HT.out.set6 (by omega)


end Go.Proofs.Ytnlppeieccbhgaa

namespace Go.Proofs.Ytnlppeieccbhgaa
open Go.RowKit Plain Tpc Ssn

set_option maxRecDepth 100000 in
set_option maxHeartbeats 8000000 in
theorem stTake (s : Ses) (x : Sp) (B : Nat) (ai ah aw aa : Option Addr) (ci ch cw ca : Nat) (w : World) (hR : SesRow w B s (.slice ai s.items.length ci) (.slice ah s.handed.length ch) (.slice aw s.way.length cw) (.slice aa s.acks.length ca)) (hBw : B ≤ w.heap.size) (hg : Gd s) (hk : x.kind = 3) (h1 : 0 ≤ x.kk) (h2 : x.kk < (s.way.length : Int))  :
    Calls Try.prog 71 #[.agg #[.int .i64 s.ep, .slice ai s.items.length ci, .int .i64 s.base, .slice ah s.handed.length ch, .slice aw s.way.length cw, .slice aa s.acks.length ca], .agg #[.int .i64 x.kind, .int .i64 x.kk, .string x.tx]] w fun e w' => StO w w' B (.slice ai s.items.length ci) (.slice ah s.handed.length ch) (.slice aw s.way.length cw) (.slice aa s.acks.length ca) (stS s x) (fun v => e = .returned (.tuple #[v, .bool (stK s x)])) := by
  have rc := fun (tmps : Array Value) (P : Program) (w : World) => results_cell1S (fn := Try.f71) (p := 4) (q := 5) (ty := 26) rfl tmps P w
  obtain ⟨i0, hi, hz0, hz1, hz2⟩ := info_parts infoStr
  obtain ⟨p0', hp, hpz0, hpz1, hpz2⟩ := info_parts Try.infoPk
  obtain ⟨q0, hq, hqz0, hqz1, hqz2⟩ := info_parts Try.infoAk
  have HST := Sta.begin x hR
  obtain ⟨W0, hW0⟩ : ∃ X, X = ((w.alloc (.cells #[.int .i64 s.ep, .slice ai s.items.length ci, .int .i64 s.base, .slice ah s.handed.length ch, .slice aw s.way.length cw, .slice aa s.acks.length ca] 26)).alloc (.cells #[.int .i64 x.kind, .int .i64 x.kk, .string x.tx] 48)).alloc (.cells #[.int .i64 0, .slice none 0 0, .int .i64 0, .slice none 0 0, .slice none 0 0, .slice none 0 0] 26) := ⟨_, rfl⟩
  rw [← hW0] at HST
  have HX : Hid (type_of% HST.X) := HST.X
  have HP : Hid (type_of% HST.S) := HST.S
  have HZ : Hid (type_of% HST.Z) := HST.Z
  have HR : Hid (type_of% HST.R) := HST.R
  have HT : Hid (type_of% HST.T) := HST.T
  have HnX : Hid (type_of% HST.nX) := HST.nX
  have HnP : Hid (type_of% HST.nS) := HST.nS
  have HnZ : Hid (type_of% HST.nZ) := HST.nZ
  have hil := hg.il
  have hyl := hg.yl
  have hal := hg.al
  have hhl := hg.hl
  have hb0 := hg.b0
  have hb1 := hg.b1
  have he1 := hg.e1
  have hs3 : w.heap.size + 2 < W0.heap.size := HST.Z.low
  have hsB : B ≤ W0.heap.size := by omega
  clear HST hR hg
  have HK : Hid (stK s x = true) := by
    show _ = _
    unfold stK
    rw [if_neg (by omega), if_neg (by omega), if_pos hk]
    unfold inW
    exact decide_eq_true ⟨h1, h2⟩
  have HE : Hid (stS s x = takeS s x.kk) := by
    show _ = _
    unfold stS
    rw [HK.out, if_neg (by decide)]
    rw [if_neg (by omega), if_neg (by omega), if_pos hk]
  have h1' : ¬ x.kk < 0 := by omega
  have h2' : ¬ (s.way.length : Int) ≤ x.kk := by omega
  have CI := l1InT x.kind 3 5 W0
  rw [decide_eq_true (by omega)] at CI
  obtain ⟨kn, hkn⟩ : ∃ n : Nat, x.kk = (n : Int) := ⟨x.kk.toNat, by omega⟩
  obtain ⟨_, _, hvv, _, hcw, hrow⟩ := HR.out.at.y
  simp only [Value.slice.injEq] at hvv
  obtain ⟨rfl, _, rfl⟩ := hvv
  unfold maxLen at hcw
  obtain ⟨gw, ow, rfl, hgw, hin⟩ := hrow kn (by omega)
  clear hrow
  have hkt : x.kk.toNat = kn := by omega
  obtain ⟨pp, hpp⟩ : ∃ p, pk s.way kn = p := ⟨_, rfl⟩
  rw [hpp] at hin
  have HE : Hid (stS s x = come { s with way := outP s.way kn } pp) := by show _ = _; rw [HE.out]; unfold takeS loseS; rw [hkt, hpp]
  obtain ⟨pe, pn, pt⟩ := pp
  clear hpp
  obtain ⟨kind, kk, tx⟩ := x
  dsimp only at *
  subst hk hkn
  go_enter Try.func71, Try.ntmps71
  go_upto_region 1 with fail
  rw [← hW0]
  clear hW0
  have k0 := HP.out.c0
  have k1 := HP.out.c1
  have k2 := HP.out.c2
  have w4 := HX.out.c4
  obtain ⟨e0, e1, e2⟩ := hin
  go_wp2_with fail
  go_at_call 59
  refine CI.mono ?_
  rintro e w2 ⟨rfl, hw2⟩
  have hw2 := hw2.symm
  subst hw2
  obtain ⟨W1, hW1⟩ : ∃ X, X = W0.alloc (.cells #[.int .i64 pe, .int .i64 pn, .string pt] 84) := ⟨_, rfl⟩
  have hb1' : Below W0.heap.size W0 W1 := by rw [hW1]; exact (Below.refl _ _).alloc (Nat.le_refl _) _
  have HC : Hid (Cv3 W1 W0.heap.size (.int .i64 pe) (.int .i64 pn) (.string pt)) := by show Cv3 _ _ _ _ _; rw [hW1]; exact Cv3.fresh W0 _ _ _ _
  have HX : Hid (type_of% (HX.out.below hb1')) := HX.out.below hb1'
  have HP : Hid (type_of% (HP.out.below hb1')) := HP.out.below hb1'
  have HZ : Hid (type_of% (HZ.out.below hb1')) := HZ.out.below hb1'
  have HT : Hid (type_of% (HT.out.belowR hb1')) := HT.out.belowR hb1'
  have HnC : Hid (¬ P4 (.slice ai s.items.length ci) (.slice ah s.handed.length ch) (.slice (some ⟨gw, ow, none⟩) s.way.length cw) (.slice aa s.acks.length ca) W0.heap.size) := fun h => by have := (HR.out.lt4 _ h).2; omega
  have HR : Hid (type_of% (HR.out.below hb1')) := HR.out.below hb1'
  go_upto_region 29 with fail
  rw [← hW1]
  have hsz1 : W0.heap.size < W1.heap.size := HC.out.low
  have hs3 : w.heap.size + 2 < W1.heap.size := HZ.out.low
  have hsB : B ≤ W1.heap.size := by omega
  clear hW1 hb1' e0 e1 e2 w4 k0 k1 k2
  have k0 := HP.out.c0
  have k1 := HP.out.c1
  go_upto_region 34 with fail
  have x4 := HX.out.c4
  by_cases hck : cw = kn + 1
  case neg =>
    have HSS : Hid (∀ W', Below W1.heap.size W1 W' → W'.cell? ⟨w.heap.size, 4, none⟩ = some (.slice (some ⟨gw, ow, none⟩) s.way.length cw) ∧ W'.cell? ⟨w.heap.size + 1, 1, none⟩ = some (.int .i64 (kn : Int))) := fun W' hb => ⟨(HX.out.below hb).c4, (HP.out.below hb).c1⟩
    have hknI : (kn : Int) < (s.way.length : Int) := by omega
    have hknN : kn < s.way.length := by omega
    have hkc : (kn : Int) ≤ (cw : Int) := by omega
    have hkc' : kn ≤ cw := by omega
    have hk1 : (kn : Int) + 1 ≤ (s.way.length : Int) := by omega
    have hwr : IntKind.i64.wrap ((kn : Int) + 1) = (kn : Int) + 1 := by rw [IntKind.wrap_i64]; omega
    have htn : ((kn : Int) + 1).toNat = kn + 1 := by omega
    have h01 : (0 : Int) ≤ (kn : Int) + 1 := by omega
    have HAT : Hid (∀ W', Below W1.heap.size W1 W' → PksAt W' W'.heap.size (.slice (some ⟨gw, ow, none⟩) s.way.length cw) s.way) := fun W' hb => HR.out.at.y.below hb
    have hlc : s.way.length ≤ cw := by omega
    refine wpE_begin (fun W' => W'.cell? ⟨w.heap.size, 4, none⟩ = some (.slice (some ⟨gw, ow, none⟩) s.way.length cw) ∧ W'.cell? ⟨w.heap.size + 1, 1, none⟩ = some (.int .i64 (kn : Int))) 15 (by kernel_rfl) ?_
    have hHeld := HSS.out _ (Below.refl _ W1).drew
    have hSS : (fun W' : World => W'.cell? ⟨w.heap.size, 4, none⟩ = some (.slice (some ⟨gw, ow, none⟩) s.way.length cw) ∧ W'.cell? ⟨w.heap.size + 1, 1, none⟩ = some (.int .i64 (kn : Int))) _ := hHeld
    clear hHeld
    refine wpE_take 1 (oi := { dst := some 184, op := Op.fieldAddr 26 (Operand.tmp 2) 4, type := 0, pos := "l15_session.go:108", after := #[], guard := none }) ?vq1 rfl (by kernel_rfl) (by kernel_rfl) (by kernel_rfl) (by kernel_rfl) (fun _ _ _ h => h) (Or.inl ⟨by rfl, ?hy1⟩) (by assumption) ?rest1
    case hy1 =>
      first
        | (intro w hSw; (try dsimp only at hSw); go_simp; done)
        | (intro w hSw; (try dsimp only at hSw); go_simp; with_reducible rfl)
    try simp only [Act.put, List.setIfInBounds_toArray, List.set_cons_zero, List.set_cons_succ]
    refine wpE_take 3 (oi := { dst := some 186, op := Op.fieldAddr 48 (Operand.tmp 3) 1, type := 0, pos := "l15_session.go:108", after := #[], guard := none }) ?vq2 rfl (by kernel_rfl) (by kernel_rfl) (by kernel_rfl) (by kernel_rfl) (fun _ _ _ h => h) (Or.inl ⟨by rfl, ?hy2⟩) (by assumption) ?rest2
    case hy2 =>
      first
        | (intro w hSw; (try dsimp only at hSw); go_simp; done)
        | (intro w hSw; (try dsimp only at hSw); go_simp; with_reducible rfl)
    try simp only [Act.put, List.setIfInBounds_toArray, List.set_cons_zero, List.set_cons_succ]
    refine wpE_take 7 (oi := { dst := some 190, op := Op.fieldAddr 26 (Operand.tmp 2) 4, type := 0, pos := "l15_session.go:108", after := #[], guard := none }) ?vq3 rfl (by kernel_rfl) (by kernel_rfl) (by kernel_rfl) (by kernel_rfl) (fun _ _ _ h => h) (Or.inl ⟨by rfl, ?hy3⟩) (by assumption) ?rest3
    case hy3 =>
      first
        | (intro w hSw; (try dsimp only at hSw); go_simp; done)
        | (intro w hSw; (try dsimp only at hSw); go_simp; with_reducible rfl)
    try simp only [Act.put, List.setIfInBounds_toArray, List.set_cons_zero, List.set_cons_succ]
    refine wpE_take 9 (oi := { dst := some 192, op := Op.fieldAddr 48 (Operand.tmp 3) 1, type := 0, pos := "l15_session.go:108", after := #[], guard := none }) ?vq4 rfl (by kernel_rfl) (by kernel_rfl) (by kernel_rfl) (by kernel_rfl) (fun _ _ _ h => h) (Or.inl ⟨by rfl, ?hy4⟩) (by assumption) ?rest4
    case hy4 =>
      first
        | (intro w hSw; (try dsimp only at hSw); go_simp; done)
        | (intro w hSw; (try dsimp only at hSw); go_simp; with_reducible rfl)
    try simp only [Act.put, List.setIfInBounds_toArray, List.set_cons_zero, List.set_cons_succ]
    refine wpE_take 2 (oi := { dst := some 185, op := Op.load 23 (Operand.tmp 184), type := 23, pos := "l15_session.go:108", after := #[{ on := 1, ground := Ground.data }], guard := none }) ?vq5 rfl (by kernel_rfl) (by kernel_rfl) (by kernel_rfl) (by kernel_rfl) (fun _ _ _ h => h) (Or.inl ⟨by rfl, ?hy5⟩) (by assumption) ?rest5
    case hy5 =>
      first
        | (intro w hSw; (try dsimp only at hSw); go_simp; done)
        | (intro w hSw; (try dsimp only at hSw); go_simp; with_reducible rfl)
    try simp only [Act.put, List.setIfInBounds_toArray, List.set_cons_zero, List.set_cons_succ]
    refine wpE_take 4 (oi := { dst := some 187, op := Op.load 3 (Operand.tmp 186), type := 3, pos := "l15_session.go:108", after := #[{ on := 3, ground := Ground.data }], guard := none }) ?vq6 rfl (by kernel_rfl) (by kernel_rfl) (by kernel_rfl) (by kernel_rfl) (fun _ _ _ h => h) (Or.inl ⟨by rfl, ?hy6⟩) (by assumption) ?rest6
    case hy6 =>
      first
        | (intro w hSw; (try dsimp only at hSw); go_simp; done)
        | (intro w hSw; (try dsimp only at hSw); go_simp; with_reducible rfl)
    try simp only [Act.put, List.setIfInBounds_toArray, List.set_cons_zero, List.set_cons_succ]
    refine wpE_take 8 (oi := { dst := some 191, op := Op.load 23 (Operand.tmp 190), type := 23, pos := "l15_session.go:108", after := #[{ on := 7, ground := Ground.data }], guard := none }) ?vq7 rfl (by kernel_rfl) (by kernel_rfl) (by kernel_rfl) (by kernel_rfl) (fun _ _ _ h => h) (Or.inl ⟨by rfl, ?hy7⟩) (by assumption) ?rest7
    case hy7 =>
      first
        | (intro w hSw; (try dsimp only at hSw); go_simp; done)
        | (intro w hSw; (try dsimp only at hSw); go_simp; with_reducible rfl)
    try simp only [Act.put, List.setIfInBounds_toArray, List.set_cons_zero, List.set_cons_succ]
    refine wpE_take 10 (oi := { dst := some 193, op := Op.load 3 (Operand.tmp 192), type := 3, pos := "l15_session.go:108", after := #[{ on := 9, ground := Ground.data }], guard := none }) ?vq8 rfl (by kernel_rfl) (by kernel_rfl) (by kernel_rfl) (by kernel_rfl) (fun _ _ _ h => h) (Or.inl ⟨by rfl, ?hy8⟩) (by assumption) ?rest8
    case hy8 =>
      first
        | (intro w hSw; (try dsimp only at hSw); go_simp; done)
        | (intro w hSw; (try dsimp only at hSw); go_simp; with_reducible rfl)
    try simp only [Act.put, List.setIfInBounds_toArray, List.set_cons_zero, List.set_cons_succ]
    refine wpE_take 11 (oi := { dst := some 194, op := Op.binOp BinOp.add 3 (Operand.tmp 193) (Operand.const (Value.int IntKind.i64 1)) 3, type := 3, pos := "l15_session.go:108", after := #[{ on := 10, ground := Ground.data }], guard := none }) ?vq9 rfl (by kernel_rfl) (by kernel_rfl) (by kernel_rfl) (by kernel_rfl) (fun _ _ _ h => h) (Or.inl ⟨by rfl, ?hy9⟩) (by assumption) ?rest9
    case hy9 =>
      first
        | (intro w hSw; (try dsimp only at hSw); go_simp; done)
        | (intro w hSw; (try dsimp only at hSw); go_simp; with_reducible rfl)
    try simp only [Act.put, List.setIfInBounds_toArray, List.set_cons_zero, List.set_cons_succ]
    refine wpE_take 5 (oi := { dst := some 188, op := Op.slice 23 (Operand.tmp 185) none (some (Operand.tmp 187)) none, type := 23, pos := "l15_session.go:108", after := #[{ on := 2, ground := Ground.data }, { on := 4, ground := Ground.data }], guard := none }) ?vq10 rfl (by kernel_rfl) (by kernel_rfl) (by kernel_rfl) (by kernel_rfl) (fun _ _ _ h => h) (Or.inl ⟨by rfl, ?hy10⟩) (by assumption) ?rest10
    case hy10 =>
      first
        | (intro w hSw; (try dsimp only at hSw); go_simp; done)
        | (intro w hSw; (try dsimp only at hSw); go_simp; with_reducible rfl)
    try simp only [Act.put, List.setIfInBounds_toArray, List.set_cons_zero, List.set_cons_succ]
    refine wpE_take 12 (oi := { dst := some 195, op := Op.slice 23 (Operand.tmp 191) (some (Operand.tmp 194)) none none, type := 23, pos := "l15_session.go:108", after := #[{ on := 8, ground := Ground.data }, { on := 11, ground := Ground.data }], guard := none }) ?vq11 rfl (by kernel_rfl) (by kernel_rfl) (by kernel_rfl) (by kernel_rfl) (fun _ _ _ h => h) (Or.inl ⟨by rfl, ?hy11⟩) (by assumption) ?rest11
    case hy11 =>
      first
        | (intro w hSw; (try dsimp only at hSw); go_simp; done)
        | (intro w hSw; (try dsimp only at hSw); go_simp; with_reducible rfl)
    try simp only [Act.put, List.setIfInBounds_toArray, List.set_cons_zero, List.set_cons_succ]
    have hbA : Below W1.heap.size W1 (W1.drew.alloc (.cells #[] 84)) := (Below.refl _ W1).drew.alloc (by simp) _
    have hown0 : (W1.drew.alloc (.cells #[] 84)).ownsRow W1.heap.size 84 3 (.slice (some ⟨W1.heap.size, 0, none⟩) 0 0) 0 [] := World.ownsRow_made (base := W1.heap.size) (e := 84) (size := 3) W1.drew #[] 0 (by simp) (by unfold maxLen; omega) rfl
    refine wpE_one 0 (o := { dst := some 183, op := Op.buildSlice 23 0 #[], type := 23, pos := "l15_session.go:108", after := #[], guard := none }) (by kernel_rfl) rfl (fun K hK => ?_)
    go_simp
    refine hK.out _ _ (fun h => HSS.out _ hbA) ?_
    clear hK K
    try simp only [Act.put, List.setIfInBounds_toArray, List.set_cons_zero, List.set_cons_succ]
    refine wpE_one 6 (o := { dst := some 189, op := Op.call { callee := Callee.builtin Builtin.append, args := #[Operand.tmp 183, Operand.tmp 188], argTypes := #[23, 23] }, type := 23, pos := "l15_session.go:108", after := #[{ on := 0, ground := Ground.data }, { on := 5, ground := Ground.data }], guard := none }) (by kernel_rfl) rfl (fun K hK => ?_)
    refine step_append_mayF _ (by rfl) _ _ _ (by rfl) W1.heap.size 84 p0' (.agg #[.int .i64 0, .int .i64 0, .string ⟨#[]⟩]) 3 32 Try.underlying23 hp hpz0 hpz1 hpz2 rfl (by decide) _ 0 [] (by rfl) hown0 _ kn _ ((s.way.take kn).flatMap Pk.cells) (by rfl) (by rw [flatPk_len, List.length_take]; omega) (PksAt.news ((PksAt.take (HAT.out _ hbA) (by omega)))) (onesPk _) (by unfold maxLen; omega) (by omega) (by simp) ?_
    intro ar kq w9 hown9 hgrow9 hnew9
    rw [Nat.zero_add, List.nil_append] at hown9
    rw [Nat.zero_add] at hnew9 ⊢
    have hb9 : Below W1.heap.size W1 w9 := hbA.grown hgrow9 (by simp) (fun k hk => by have := (World.ownsRow.lt hown0 k hk).1; omega)
    refine hK.out _ _ (fun h => HSS.out _ hb9) ?_
    clear hK K
    try simp only [Act.put, List.setIfInBounds_toArray, List.set_cons_zero, List.set_cons_succ]
    refine wpE_one 13 (o := { dst := some 196, op := Op.call { callee := Callee.builtin Builtin.append, args := #[Operand.tmp 189, Operand.tmp 195], argTypes := #[23, 23] }, type := 23, pos := "l15_session.go:108", after := #[{ on := 6, ground := Ground.data }, { on := 12, ground := Ground.data }, { on := 6, ground := Ground.chain }], guard := none }) (by kernel_rfl) rfl (fun K hK => ?_)
    refine step_append_mayF _ (by rfl) _ _ _ (by rfl) W1.heap.size 84 p0' (.agg #[.int .i64 0, .int .i64 0, .string ⟨#[]⟩]) 3 32 Try.underlying23 hp hpz0 hpz1 hpz2 rfl (by decide) _ kn _ (by rfl) hown9 _ (s.way.length - (kn + 1)) _ ((s.way.drop (kn + 1)).flatMap Pk.cells) (by rfl) (by rw [flatPk_len, List.length_drop]) (by
      have hA := PksAt.drop (HAT.out _ hb9) (k := kn + 1) (by omega) (some ⟨gw, ow + (kn + 1) * 3, none⟩) (fun _ g o ha => by simp only [Option.some.injEq, Addr.mk.injEq, and_true] at ha; obtain ⟨rfl, rfl⟩ := ha; rfl)
      exact PksAt.news hA) (onesPk _) (by unfold maxLen; omega) (by omega) hb9.size ?_
    intro br kr w8 hown8 hgrow8 hnew8
    have hb8 : Below W1.heap.size W1 w8 := hb9.grown hgrow8 hb9.size (fun k hk => (World.ownsRow.lt hown9 k hk).1)
    refine hK.out _ _ (fun h => HSS.out _ hb8) ?_
    clear hK K
    try simp only [Act.put, List.setIfInBounds_toArray, List.set_cons_zero, List.set_cons_succ]
    have hS9 : (fun W' : World => W'.cell? ⟨w.heap.size, 4, none⟩ = some (.slice (some ⟨gw, ow, none⟩) s.way.length cw) ∧ W'.cell? ⟨w.heap.size + 1, 1, none⟩ = some (.int .i64 (kn : Int))) w8 := HSS.out _ hb8
    refine wpE_take 14 (oi := { dst := some 197, op := Op.fieldAddr 26 (Operand.tmp 2) 4, type := 0, pos := "l15_session.go:108", after := #[{ on := 0, ground := Ground.phase }, { on := 1, ground := Ground.phase }, { on := 2, ground := Ground.phase }, { on := 3, ground := Ground.phase }, { on := 4, ground := Ground.phase }, { on := 5, ground := Ground.phase }, { on := 6, ground := Ground.phase }, { on := 7, ground := Ground.phase }, { on := 8, ground := Ground.phase }, { on := 9, ground := Ground.phase }, { on := 10, ground := Ground.phase }, { on := 11, ground := Ground.phase }, { on := 12, ground := Ground.phase }, { on := 13, ground := Ground.phase }], guard := none }) ?vq12 rfl (by kernel_rfl) (by kernel_rfl) (by kernel_rfl) (by kernel_rfl) (fun _ _ _ h => h) (Or.inl ⟨by rfl, ?hy12⟩) (by assumption) ?rest12
    case hy12 =>
      first
        | (intro w hSw; (try dsimp only at hSw); go_simp; done)
        | (intro w hSw; (try dsimp only at hSw); go_simp; with_reducible rfl)
    try simp only [Act.put, List.setIfInBounds_toArray, List.set_cons_zero, List.set_cons_succ]
    clear hS9
    have HX8 := HX.out.below hb8
    have y8 := HX8.c4
    have g8 := HX8.f4
    refine wpE_one 15 (o := { dst := none, op := Op.store 23 (Operand.tmp 197) (Operand.tmp 196), type := 0, pos := "l15_session.go:108", after := #[{ on := 14, ground := Ground.data }, { on := 13, ground := Ground.data }, { on := 13, ground := Ground.chain }, { on := 0, ground := Ground.phase }, { on := 1, ground := Ground.phase }, { on := 2, ground := Ground.phase }, { on := 3, ground := Ground.phase }, { on := 4, ground := Ground.phase }, { on := 5, ground := Ground.phase }, { on := 6, ground := Ground.phase }, { on := 7, ground := Ground.phase }, { on := 8, ground := Ground.phase }, { on := 9, ground := Ground.phase }, { on := 10, ground := Ground.phase }, { on := 11, ground := Ground.phase }, { on := 12, ground := Ground.phase }, { on := 13, ground := Ground.phase }], guard := none }) (by kernel_rfl) rfl (fun K hK => ?_)
    go_simp
    refine hK.out _ _ (fun h => absurd rfl h) ?_
    clear hK K
    try simp only [Act.put, List.setIfInBounds_toArray, List.set_cons_zero, List.set_cons_succ]
    refine wpE_done (by kernel_rfl) ?_ _
    go_upto_region 35 with fail
    have hlo : (outP s.way kn).length = kn + (s.way.length - (kn + 1)) := by rw [len_outP _ (by omega)]; omega
    have hro : PkRow w8 B (.slice br (kn + (s.way.length - (kn + 1))) kr) (outP s.way kn) := by (unfold PkRow; rw [hlo]; unfold outP; rw [List.flatMap_append]; exact own_lower hown8 hsB)
    have hQ := SesRow.putY HR.out hro (grow_belowY hb8) (fun g hg => .inr (World.ownsRow.lt hown8 g hg).1)
    have HnX9 := hQ.2.avoid HX.out.low HnX.out
    have HnP9 := hQ.2.avoid HP.out.low HnP.out
    have HnZ9 := hQ.2.avoid HZ.out.low HnZ.out
    have HP9 := HP.out.below hb8
    have HZ9 := HZ.out.below hb8
    have HQ : Hid (type_of% hQ) := hQ
    have HB8 : Hid (type_of% hb8) := hb8
    obtain ⟨V1, hV1⟩ : ∃ X, X = w8.setCell ⟨w.heap.size, 4, none⟩ (.slice br (kn + (s.way.length - (kn + 1))) kr) := ⟨_, rfl⟩
    have HX : Hid (type_of% (HX8.set4 (.slice br (kn + (s.way.length - (kn + 1))) kr))) := HX8.set4 (.slice br (kn + (s.way.length - (kn + 1))) kr)
    have HP : Hid (type_of% (HP9.apart (c := w.heap.size) (k := 4) (u := (.slice br (kn + (s.way.length - (kn + 1))) kr)) (by omega))) := HP9.apart (c := w.heap.size) (k := 4) (u := (.slice br (kn + (s.way.length - (kn + 1))) kr)) (by omega)
    have HZ : Hid (type_of% (HZ9.apart (c := w.heap.size) (k := 4) (u := (.slice br (kn + (s.way.length - (kn + 1))) kr)) (by omega))) := HZ9.apart (c := w.heap.size) (k := 4) (u := (.slice br (kn + (s.way.length - (kn + 1))) kr)) (by omega)
    have HR : Hid (type_of% (HQ.out.1.setC (k := 4) (u := (.slice br (kn + (s.way.length - (kn + 1))) kr)) HnX9)) := HQ.out.1.setC (k := 4) (u := (.slice br (kn + (s.way.length - (kn + 1))) kr)) HnX9
    have HT : Hid (type_of% ((HT.out.trans HQ.out.2).setCell w.heap.size 4 (.slice br (kn + (s.way.length - (kn + 1))) kr) (Nat.le_refl _))) := (HT.out.trans HQ.out.2).setCell w.heap.size 4 (.slice br (kn + (s.way.length - (kn + 1))) kr) (Nat.le_refl _)
    have HnX : Hid (type_of% HnX9) := HnX9
    have HnP : Hid (type_of% HnP9) := HnP9
    have HnZ : Hid (type_of% HnZ9) := HnZ9
    have HCV : Hid (Cv3 V1 W0.heap.size (.int .i64 pe) (.int .i64 pn) (.string pt)) := by show Cv3 _ _ _ _ _; rw [hV1]; exact (HC.out.below HB8.out).apart (by omega)
    rw [← hV1] at HX HP HZ HR HT ⊢
    have hs3 : w.heap.size + 2 < V1.heap.size := HZ.out.low
    clear hV1 HX8 HP9 HZ9 HnX9 HnP9 HnZ9 HQ hQ hro hlo y8 g8 hown8 hgrow8 hnew8 hb8 hown9 hgrow9 hnew9 hb9 hown0 hbA hSS HAT HSS
    clear k0 k1 HC HnC
    have k0 := HP.out.c0
    have x0 := HX.out.c0
    have x1 := HX.out.c1
    have x2 := HX.out.c2
    have x3 := HX.out.c3
    have x4 := HX.out.c4
    have x5 := HX.out.c5
    have q0 := HCV.out.c0
    have q1 := HCV.out.c1
    have q2 := HCV.out.c2
    have hol : (outP s.way kn).length ≤ 1000 := by rw [len_outP _ (by omega)]; omega
    have C0 : Calls Try.prog 94 #[.agg #[.int .i64 s.ep, .slice ai s.items.length ci, .int .i64 s.base, .slice ah s.handed.length ch, .slice br (kn + (s.way.length - (kn + 1))) kr, .slice aa s.acks.length ca], .agg #[.int .i64 pe, .int .i64 pn, .string pt]] V1 fun e w' => StO V1 w' B (.slice ai s.items.length ci) (.slice ah s.handed.length ch) (.slice br (kn + (s.way.length - (kn + 1))) kr) (.slice aa s.acks.length ca) (come { s with way := outP s.way kn } ⟨pe, pn, pt⟩) (fun v => e = .returned v) := l15Come_any { s with way := outP s.way kn } ⟨pe, pn, pt⟩ B _ _ _ _ V1 HR.out (by omega) ⟨by dsimp only; omega, by dsimp only; omega, hol, by dsimp only; omega⟩
    clear hol
    generalize come { s with way := outP s.way kn } ⟨pe, pn, pt⟩ = F at C0 HE
    go_wp2_with fail
    go_at_call 94
    refine C0.mono ?_
    rintro e w5 ⟨ui, uh, uw, ua, rfl, hr5, ht5⟩
    obtain ⟨bi, di, bh, dh, bw, dw, ba, da, rfl, rfl, rfl, rfl⟩ := hr5.at.form
    unfold Ses.val
    have hX5 := HX.out.step ht5 HnX.out
    have hP5 := HP.out.step ht5 HnP.out
    have hZ5 := HZ.out.step ht5 HnZ.out
    have hnX5 := ht5.avoid HX.out.low HnX.out
    have hnZ5 := ht5.avoid HZ.out.low HnZ.out
    clear x0 x1 x2 x3 x4 x5 q0 q1 q2 k0
    have x0 := hX5.c0
    have x1 := hX5.c1
    have x2 := hX5.c2
    have x3 := hX5.c3
    have x4 := hX5.c4
    have x5 := hX5.c5
    have g0 := hX5.f0
    have g1 := hX5.f1
    have g2 := hX5.f2
    have g3 := hX5.f3
    have g4 := hX5.f4
    have g5 := hX5.f5
    have hX6 : Sv ((((((w5.setCell ⟨w.heap.size, 0, none⟩ (.int .i64 F.ep)).setCell ⟨w.heap.size, 1, none⟩ (.slice bi F.items.length di)).setCell ⟨w.heap.size, 2, none⟩ (.int .i64 F.base)).setCell ⟨w.heap.size, 3, none⟩ (.slice bh F.handed.length dh)).setCell ⟨w.heap.size, 4, none⟩ (.slice bw F.way.length dw)).setCell ⟨w.heap.size, 5, none⟩ (.slice ba F.acks.length da)) w.heap.size (.int .i64 F.ep) (.slice bi F.items.length di) (.int .i64 F.base) (.slice bh F.handed.length dh) (.slice bw F.way.length dw) (.slice ba F.acks.length da) := hX5.set6
    have hZ6 : Sv ((((((w5.setCell ⟨w.heap.size, 0, none⟩ (.int .i64 F.ep)).setCell ⟨w.heap.size, 1, none⟩ (.slice bi F.items.length di)).setCell ⟨w.heap.size, 2, none⟩ (.int .i64 F.base)).setCell ⟨w.heap.size, 3, none⟩ (.slice bh F.handed.length dh)).setCell ⟨w.heap.size, 4, none⟩ (.slice bw F.way.length dw)).setCell ⟨w.heap.size, 5, none⟩ (.slice ba F.acks.length da)) (w.heap.size + 2) (.int .i64 0) (.slice none 0 0) (.int .i64 0) (.slice none 0 0) (.slice none 0 0) (.slice none 0 0) := hZ5.apart6 (by omega)
    have hR6 : SesRow ((((((w5.setCell ⟨w.heap.size, 0, none⟩ (.int .i64 F.ep)).setCell ⟨w.heap.size, 1, none⟩ (.slice bi F.items.length di)).setCell ⟨w.heap.size, 2, none⟩ (.int .i64 F.base)).setCell ⟨w.heap.size, 3, none⟩ (.slice bh F.handed.length dh)).setCell ⟨w.heap.size, 4, none⟩ (.slice bw F.way.length dw)).setCell ⟨w.heap.size, 5, none⟩ (.slice ba F.acks.length da)) B F (.slice bi F.items.length di) (.slice bh F.handed.length dh) (.slice bw F.way.length dw) (.slice ba F.acks.length da) := hr5.set6 hnX5
    have hT6 : Tch w ((((((w5.setCell ⟨w.heap.size, 0, none⟩ (.int .i64 F.ep)).setCell ⟨w.heap.size, 1, none⟩ (.slice bi F.items.length di)).setCell ⟨w.heap.size, 2, none⟩ (.int .i64 F.base)).setCell ⟨w.heap.size, 3, none⟩ (.slice bh F.handed.length dh)).setCell ⟨w.heap.size, 4, none⟩ (.slice bw F.way.length dw)).setCell ⟨w.heap.size, 5, none⟩ (.slice ba F.acks.length da)) _ (P4 (.slice bi F.items.length di) (.slice bh F.handed.length dh) (.slice bw F.way.length dw) (.slice ba F.acks.length da)) := (HT.out.trans ht5).set6 (Nat.le_refl _)
    obtain ⟨V6, hV6⟩ : ∃ X, X = ((((((w5.setCell ⟨w.heap.size, 0, none⟩ (.int .i64 F.ep)).setCell ⟨w.heap.size, 1, none⟩ (.slice bi F.items.length di)).setCell ⟨w.heap.size, 2, none⟩ (.int .i64 F.base)).setCell ⟨w.heap.size, 3, none⟩ (.slice bh F.handed.length dh)).setCell ⟨w.heap.size, 4, none⟩ (.slice bw F.way.length dw)).setCell ⟨w.heap.size, 5, none⟩ (.slice ba F.acks.length da)) := ⟨_, rfl⟩
    rw [← hV6] at hX6 hZ6 hR6 hT6
    have HX : Hid (type_of% hX6) := hX6
    have HZ : Hid (type_of% hZ6) := hZ6
    have HR : Hid (type_of% hR6) := hR6
    have HT : Hid (type_of% hT6) := hT6
    have HnZ : Hid (type_of% hnZ5) := hnZ5
    clear hX5 hP5 hZ5 hnX5 hnZ5 hX6 hZ6 hR6 hT6 hr5 ht5 HP HnP HnX HCV
    go_upto_region 37 with fail
    rw [← hV6]
    have hs3 : w.heap.size + 2 < V6.heap.size := HZ.out.low
    clear hV6 x0 g0 x1 g1 x2 g2 x3 g3 x4 g4 x5 g5
    have y0 := HX.out.c0
    have z0 := HZ.out.c0
    have f0 := HZ.out.f0
    have y1 := HX.out.c1
    have z1 := HZ.out.c1
    have f1 := HZ.out.f1
    have y2 := HX.out.c2
    have z2 := HZ.out.c2
    have f2 := HZ.out.f2
    have y3 := HX.out.c3
    have z3 := HZ.out.c3
    have f3 := HZ.out.f3
    have y4 := HX.out.c4
    have z4 := HZ.out.c4
    have f4 := HZ.out.f4
    have y5 := HX.out.c5
    have z5 := HZ.out.c5
    have f5 := HZ.out.f5
    go_wp2_with fail
    (try simp only [Exit.inBlock, Exit.then])
    rw [HE.out, HK.out]
    refine bodyPost_ret (v := .tuple #[.agg #[.int .i64 F.ep, .slice bi F.items.length di, .int .i64 F.base, .slice bh F.handed.length dh, .slice bw F.way.length dw, .slice ba F.acks.length da], .bool true]) ?_ rfl (StO.ret2 (.slice bi F.items.length di) (.slice bh F.handed.length dh) (.slice bw F.way.length dw) (.slice ba F.acks.length da) ?_ ?_ ?_)
    · rw [rc]
      go_simp
    · rfl
    · exact HR.out.set6 HnZ.out
    · exact HT.out.set6 (by omega)

  case pos =>
    subst hck
    have HSS : Hid (∀ W', Below W1.heap.size W1 W' → W'.cell? ⟨w.heap.size, 4, none⟩ = some (.slice (some ⟨gw, ow, none⟩) s.way.length (kn + 1)) ∧ W'.cell? ⟨w.heap.size + 1, 1, none⟩ = some (.int .i64 (kn : Int))) := fun W' hb => ⟨(HX.out.below hb).c4, (HP.out.below hb).c1⟩
    have hknI : (kn : Int) < (s.way.length : Int) := by omega
    have hknN : kn < s.way.length := by omega
    have hkc : (kn : Int) ≤ ((kn + 1) : Int) := by omega
    have hkc' : kn ≤ (kn + 1) := by omega
    have hk1 : (kn : Int) + 1 ≤ (s.way.length : Int) := by omega
    have hwr : IntKind.i64.wrap ((kn : Int) + 1) = (kn : Int) + 1 := by rw [IntKind.wrap_i64]; omega
    have htn : ((kn : Int) + 1).toNat = kn + 1 := by omega
    have h01 : (0 : Int) ≤ (kn : Int) + 1 := by omega
    have HAT : Hid (∀ W', Below W1.heap.size W1 W' → PksAt W' W'.heap.size (.slice (some ⟨gw, ow, none⟩) s.way.length (kn + 1)) s.way) := fun W' hb => HR.out.at.y.below hb
    have hlc : s.way.length ≤ (kn + 1) := by omega
    refine wpE_begin (fun W' => W'.cell? ⟨w.heap.size, 4, none⟩ = some (.slice (some ⟨gw, ow, none⟩) s.way.length (kn + 1)) ∧ W'.cell? ⟨w.heap.size + 1, 1, none⟩ = some (.int .i64 (kn : Int))) 15 (by kernel_rfl) ?_
    have hHeld := HSS.out _ (Below.refl _ W1).drew
    have hSS : (fun W' : World => W'.cell? ⟨w.heap.size, 4, none⟩ = some (.slice (some ⟨gw, ow, none⟩) s.way.length (kn + 1)) ∧ W'.cell? ⟨w.heap.size + 1, 1, none⟩ = some (.int .i64 (kn : Int))) _ := hHeld
    clear hHeld
    refine wpE_take 1 (oi := { dst := some 184, op := Op.fieldAddr 26 (Operand.tmp 2) 4, type := 0, pos := "l15_session.go:108", after := #[], guard := none }) ?vp1 rfl (by kernel_rfl) (by kernel_rfl) (by kernel_rfl) (by kernel_rfl) (fun _ _ _ h => h) (Or.inl ⟨by rfl, ?hp1⟩) (by assumption) ?reste1
    case hp1 =>
      first
        | (intro w hSw; (try dsimp only at hSw); go_simp; done)
        | (intro w hSw; (try dsimp only at hSw); go_simp; with_reducible rfl)
    try simp only [Act.put, List.setIfInBounds_toArray, List.set_cons_zero, List.set_cons_succ]
    refine wpE_take 3 (oi := { dst := some 186, op := Op.fieldAddr 48 (Operand.tmp 3) 1, type := 0, pos := "l15_session.go:108", after := #[], guard := none }) ?vp2 rfl (by kernel_rfl) (by kernel_rfl) (by kernel_rfl) (by kernel_rfl) (fun _ _ _ h => h) (Or.inl ⟨by rfl, ?hp2⟩) (by assumption) ?reste2
    case hp2 =>
      first
        | (intro w hSw; (try dsimp only at hSw); go_simp; done)
        | (intro w hSw; (try dsimp only at hSw); go_simp; with_reducible rfl)
    try simp only [Act.put, List.setIfInBounds_toArray, List.set_cons_zero, List.set_cons_succ]
    refine wpE_take 7 (oi := { dst := some 190, op := Op.fieldAddr 26 (Operand.tmp 2) 4, type := 0, pos := "l15_session.go:108", after := #[], guard := none }) ?vp3 rfl (by kernel_rfl) (by kernel_rfl) (by kernel_rfl) (by kernel_rfl) (fun _ _ _ h => h) (Or.inl ⟨by rfl, ?hp3⟩) (by assumption) ?reste3
    case hp3 =>
      first
        | (intro w hSw; (try dsimp only at hSw); go_simp; done)
        | (intro w hSw; (try dsimp only at hSw); go_simp; with_reducible rfl)
    try simp only [Act.put, List.setIfInBounds_toArray, List.set_cons_zero, List.set_cons_succ]
    refine wpE_take 9 (oi := { dst := some 192, op := Op.fieldAddr 48 (Operand.tmp 3) 1, type := 0, pos := "l15_session.go:108", after := #[], guard := none }) ?vp4 rfl (by kernel_rfl) (by kernel_rfl) (by kernel_rfl) (by kernel_rfl) (fun _ _ _ h => h) (Or.inl ⟨by rfl, ?hp4⟩) (by assumption) ?reste4
    case hp4 =>
      first
        | (intro w hSw; (try dsimp only at hSw); go_simp; done)
        | (intro w hSw; (try dsimp only at hSw); go_simp; with_reducible rfl)
    try simp only [Act.put, List.setIfInBounds_toArray, List.set_cons_zero, List.set_cons_succ]
    refine wpE_take 2 (oi := { dst := some 185, op := Op.load 23 (Operand.tmp 184), type := 23, pos := "l15_session.go:108", after := #[{ on := 1, ground := Ground.data }], guard := none }) ?vp5 rfl (by kernel_rfl) (by kernel_rfl) (by kernel_rfl) (by kernel_rfl) (fun _ _ _ h => h) (Or.inl ⟨by rfl, ?hp5⟩) (by assumption) ?reste5
    case hp5 =>
      first
        | (intro w hSw; (try dsimp only at hSw); go_simp; done)
        | (intro w hSw; (try dsimp only at hSw); go_simp; with_reducible rfl)
    try simp only [Act.put, List.setIfInBounds_toArray, List.set_cons_zero, List.set_cons_succ]
    refine wpE_take 4 (oi := { dst := some 187, op := Op.load 3 (Operand.tmp 186), type := 3, pos := "l15_session.go:108", after := #[{ on := 3, ground := Ground.data }], guard := none }) ?vp6 rfl (by kernel_rfl) (by kernel_rfl) (by kernel_rfl) (by kernel_rfl) (fun _ _ _ h => h) (Or.inl ⟨by rfl, ?hp6⟩) (by assumption) ?reste6
    case hp6 =>
      first
        | (intro w hSw; (try dsimp only at hSw); go_simp; done)
        | (intro w hSw; (try dsimp only at hSw); go_simp; with_reducible rfl)
    try simp only [Act.put, List.setIfInBounds_toArray, List.set_cons_zero, List.set_cons_succ]
    refine wpE_take 8 (oi := { dst := some 191, op := Op.load 23 (Operand.tmp 190), type := 23, pos := "l15_session.go:108", after := #[{ on := 7, ground := Ground.data }], guard := none }) ?vp7 rfl (by kernel_rfl) (by kernel_rfl) (by kernel_rfl) (by kernel_rfl) (fun _ _ _ h => h) (Or.inl ⟨by rfl, ?hp7⟩) (by assumption) ?reste7
    case hp7 =>
      first
        | (intro w hSw; (try dsimp only at hSw); go_simp; done)
        | (intro w hSw; (try dsimp only at hSw); go_simp; with_reducible rfl)
    try simp only [Act.put, List.setIfInBounds_toArray, List.set_cons_zero, List.set_cons_succ]
    refine wpE_take 10 (oi := { dst := some 193, op := Op.load 3 (Operand.tmp 192), type := 3, pos := "l15_session.go:108", after := #[{ on := 9, ground := Ground.data }], guard := none }) ?vp8 rfl (by kernel_rfl) (by kernel_rfl) (by kernel_rfl) (by kernel_rfl) (fun _ _ _ h => h) (Or.inl ⟨by rfl, ?hp8⟩) (by assumption) ?reste8
    case hp8 =>
      first
        | (intro w hSw; (try dsimp only at hSw); go_simp; done)
        | (intro w hSw; (try dsimp only at hSw); go_simp; with_reducible rfl)
    try simp only [Act.put, List.setIfInBounds_toArray, List.set_cons_zero, List.set_cons_succ]
    refine wpE_take 11 (oi := { dst := some 194, op := Op.binOp BinOp.add 3 (Operand.tmp 193) (Operand.const (Value.int IntKind.i64 1)) 3, type := 3, pos := "l15_session.go:108", after := #[{ on := 10, ground := Ground.data }], guard := none }) ?vp9 rfl (by kernel_rfl) (by kernel_rfl) (by kernel_rfl) (by kernel_rfl) (fun _ _ _ h => h) (Or.inl ⟨by rfl, ?hp9⟩) (by assumption) ?reste9
    case hp9 =>
      first
        | (intro w hSw; (try dsimp only at hSw); go_simp; done)
        | (intro w hSw; (try dsimp only at hSw); go_simp; with_reducible rfl)
    try simp only [Act.put, List.setIfInBounds_toArray, List.set_cons_zero, List.set_cons_succ]
    refine wpE_take 5 (oi := { dst := some 188, op := Op.slice 23 (Operand.tmp 185) none (some (Operand.tmp 187)) none, type := 23, pos := "l15_session.go:108", after := #[{ on := 2, ground := Ground.data }, { on := 4, ground := Ground.data }], guard := none }) ?vp10 rfl (by kernel_rfl) (by kernel_rfl) (by kernel_rfl) (by kernel_rfl) (fun _ _ _ h => h) (Or.inl ⟨by rfl, ?hp10⟩) (by assumption) ?reste10
    case hp10 =>
      first
        | (intro w hSw; (try dsimp only at hSw); go_simp; done)
        | (intro w hSw; (try dsimp only at hSw); go_simp; with_reducible rfl)
    try simp only [Act.put, List.setIfInBounds_toArray, List.set_cons_zero, List.set_cons_succ]
    refine wpE_take 12 (oi := { dst := some 195, op := Op.slice 23 (Operand.tmp 191) (some (Operand.tmp 194)) none none, type := 23, pos := "l15_session.go:108", after := #[{ on := 8, ground := Ground.data }, { on := 11, ground := Ground.data }], guard := none }) ?vp11 rfl (by kernel_rfl) (by kernel_rfl) (by kernel_rfl) (by kernel_rfl) (fun _ _ _ h => h) (Or.inl ⟨by rfl, ?hp11⟩) (by assumption) ?reste11
    case hp11 =>
      first
        | (intro w hSw; (try dsimp only at hSw); go_simp; done)
        | (intro w hSw; (try dsimp only at hSw); go_simp; with_reducible rfl)
    try simp only [Act.put, List.setIfInBounds_toArray, List.set_cons_zero, List.set_cons_succ]
    have hbA : Below W1.heap.size W1 (W1.drew.alloc (.cells #[] 84)) := (Below.refl _ W1).drew.alloc (by simp) _
    have hown0 : (W1.drew.alloc (.cells #[] 84)).ownsRow W1.heap.size 84 3 (.slice (some ⟨W1.heap.size, 0, none⟩) 0 0) 0 [] := World.ownsRow_made (base := W1.heap.size) (e := 84) (size := 3) W1.drew #[] 0 (by simp) (by unfold maxLen; omega) rfl
    refine wpE_one 0 (o := { dst := some 183, op := Op.buildSlice 23 0 #[], type := 23, pos := "l15_session.go:108", after := #[], guard := none }) (by kernel_rfl) rfl (fun K hK => ?_)
    go_simp
    refine hK.out _ _ (fun h => HSS.out _ hbA) ?_
    clear hK K
    try simp only [Act.put, List.setIfInBounds_toArray, List.set_cons_zero, List.set_cons_succ]
    refine wpE_one 6 (o := { dst := some 189, op := Op.call { callee := Callee.builtin Builtin.append, args := #[Operand.tmp 183, Operand.tmp 188], argTypes := #[23, 23] }, type := 23, pos := "l15_session.go:108", after := #[{ on := 0, ground := Ground.data }, { on := 5, ground := Ground.data }], guard := none }) (by kernel_rfl) rfl (fun K hK => ?_)
    refine step_append_mayF _ (by rfl) _ _ _ (by rfl) W1.heap.size 84 p0' (.agg #[.int .i64 0, .int .i64 0, .string ⟨#[]⟩]) 3 32 Try.underlying23 hp hpz0 hpz1 hpz2 rfl (by decide) _ 0 [] (by rfl) hown0 _ kn _ ((s.way.take kn).flatMap Pk.cells) (by rfl) (by rw [flatPk_len, List.length_take]; omega) (PksAt.news ((PksAt.take (HAT.out _ hbA) (by omega)))) (onesPk _) (by unfold maxLen; omega) (by omega) (by simp) ?_
    intro ar kq w9 hown9 hgrow9 hnew9
    rw [Nat.zero_add, List.nil_append] at hown9
    rw [Nat.zero_add] at hnew9 ⊢
    have hb9 : Below W1.heap.size W1 w9 := hbA.grown hgrow9 (by simp) (fun k hk => by have := (World.ownsRow.lt hown0 k hk).1; omega)
    refine hK.out _ _ (fun h => HSS.out _ hb9) ?_
    clear hK K
    try simp only [Act.put, List.setIfInBounds_toArray, List.set_cons_zero, List.set_cons_succ]
    refine wpE_one 13 (o := { dst := some 196, op := Op.call { callee := Callee.builtin Builtin.append, args := #[Operand.tmp 189, Operand.tmp 195], argTypes := #[23, 23] }, type := 23, pos := "l15_session.go:108", after := #[{ on := 6, ground := Ground.data }, { on := 12, ground := Ground.data }, { on := 6, ground := Ground.chain }], guard := none }) (by kernel_rfl) rfl (fun K hK => ?_)
    refine step_append_mayF _ (by rfl) _ _ _ (by rfl) W1.heap.size 84 p0' (.agg #[.int .i64 0, .int .i64 0, .string ⟨#[]⟩]) 3 32 Try.underlying23 hp hpz0 hpz1 hpz2 rfl (by decide) _ kn _ (by rfl) hown9 _ 0 _ ((s.way.drop (kn + 1)).flatMap Pk.cells) (by rfl) (by rw [flatPk_len, List.length_drop]; omega) (fun j u hj => by have := (List.getElem?_eq_some_iff.1 hj).1; rw [flatPk_len, List.length_drop] at this; omega) (onesPk _) (by unfold maxLen; omega) (by omega) hb9.size ?_
    intro br kr w8 hown8 hgrow8 hnew8
    rw [Nat.add_zero] at hown8 hnew8 ⊢
    have hb8 : Below W1.heap.size W1 w8 := hb9.grown hgrow8 hb9.size (fun k hk => (World.ownsRow.lt hown9 k hk).1)
    refine hK.out _ _ (fun h => HSS.out _ hb8) ?_
    clear hK K
    try simp only [Act.put, List.setIfInBounds_toArray, List.set_cons_zero, List.set_cons_succ]
    have hS9 : (fun W' : World => W'.cell? ⟨w.heap.size, 4, none⟩ = some (.slice (some ⟨gw, ow, none⟩) s.way.length (kn + 1)) ∧ W'.cell? ⟨w.heap.size + 1, 1, none⟩ = some (.int .i64 (kn : Int))) w8 := HSS.out _ hb8
    refine wpE_take 14 (oi := { dst := some 197, op := Op.fieldAddr 26 (Operand.tmp 2) 4, type := 0, pos := "l15_session.go:108", after := #[{ on := 0, ground := Ground.phase }, { on := 1, ground := Ground.phase }, { on := 2, ground := Ground.phase }, { on := 3, ground := Ground.phase }, { on := 4, ground := Ground.phase }, { on := 5, ground := Ground.phase }, { on := 6, ground := Ground.phase }, { on := 7, ground := Ground.phase }, { on := 8, ground := Ground.phase }, { on := 9, ground := Ground.phase }, { on := 10, ground := Ground.phase }, { on := 11, ground := Ground.phase }, { on := 12, ground := Ground.phase }, { on := 13, ground := Ground.phase }], guard := none }) ?vp12 rfl (by kernel_rfl) (by kernel_rfl) (by kernel_rfl) (by kernel_rfl) (fun _ _ _ h => h) (Or.inl ⟨by rfl, ?hp12⟩) (by assumption) ?reste12
    case hp12 =>
      first
        | (intro w hSw; (try dsimp only at hSw); go_simp; done)
        | (intro w hSw; (try dsimp only at hSw); go_simp; with_reducible rfl)
    try simp only [Act.put, List.setIfInBounds_toArray, List.set_cons_zero, List.set_cons_succ]
    clear hS9
    have HX8 := HX.out.below hb8
    have y8 := HX8.c4
    have g8 := HX8.f4
    refine wpE_one 15 (o := { dst := none, op := Op.store 23 (Operand.tmp 197) (Operand.tmp 196), type := 0, pos := "l15_session.go:108", after := #[{ on := 14, ground := Ground.data }, { on := 13, ground := Ground.data }, { on := 13, ground := Ground.chain }, { on := 0, ground := Ground.phase }, { on := 1, ground := Ground.phase }, { on := 2, ground := Ground.phase }, { on := 3, ground := Ground.phase }, { on := 4, ground := Ground.phase }, { on := 5, ground := Ground.phase }, { on := 6, ground := Ground.phase }, { on := 7, ground := Ground.phase }, { on := 8, ground := Ground.phase }, { on := 9, ground := Ground.phase }, { on := 10, ground := Ground.phase }, { on := 11, ground := Ground.phase }, { on := 12, ground := Ground.phase }, { on := 13, ground := Ground.phase }], guard := none }) (by kernel_rfl) rfl (fun K hK => ?_)
    go_simp
    refine hK.out _ _ (fun h => absurd rfl h) ?_
    clear hK K
    try simp only [Act.put, List.setIfInBounds_toArray, List.set_cons_zero, List.set_cons_succ]
    refine wpE_done (by kernel_rfl) ?_ _
    go_upto_region 35 with fail
    have hlo : (outP s.way kn).length = kn := by rw [len_outP _ (by omega)]; omega
    have hro : PkRow w8 B (.slice br kn kr) (outP s.way kn) := by (unfold PkRow; rw [hlo]; unfold outP; rw [List.flatMap_append]; exact own_lower hown8 hsB)
    have hQ := SesRow.putY HR.out hro (grow_belowY hb8) (fun g hg => .inr (World.ownsRow.lt hown8 g hg).1)
    have HnX9 := hQ.2.avoid HX.out.low HnX.out
    have HnP9 := hQ.2.avoid HP.out.low HnP.out
    have HnZ9 := hQ.2.avoid HZ.out.low HnZ.out
    have HP9 := HP.out.below hb8
    have HZ9 := HZ.out.below hb8
    have HQ : Hid (type_of% hQ) := hQ
    have HB8 : Hid (type_of% hb8) := hb8
    obtain ⟨V1, hV1⟩ : ∃ X, X = w8.setCell ⟨w.heap.size, 4, none⟩ (.slice br kn kr) := ⟨_, rfl⟩
    have HX : Hid (type_of% (HX8.set4 (.slice br kn kr))) := HX8.set4 (.slice br kn kr)
    have HP : Hid (type_of% (HP9.apart (c := w.heap.size) (k := 4) (u := (.slice br kn kr)) (by omega))) := HP9.apart (c := w.heap.size) (k := 4) (u := (.slice br kn kr)) (by omega)
    have HZ : Hid (type_of% (HZ9.apart (c := w.heap.size) (k := 4) (u := (.slice br kn kr)) (by omega))) := HZ9.apart (c := w.heap.size) (k := 4) (u := (.slice br kn kr)) (by omega)
    have HR : Hid (type_of% (HQ.out.1.setC (k := 4) (u := (.slice br kn kr)) HnX9)) := HQ.out.1.setC (k := 4) (u := (.slice br kn kr)) HnX9
    have HT : Hid (type_of% ((HT.out.trans HQ.out.2).setCell w.heap.size 4 (.slice br kn kr) (Nat.le_refl _))) := (HT.out.trans HQ.out.2).setCell w.heap.size 4 (.slice br kn kr) (Nat.le_refl _)
    have HnX : Hid (type_of% HnX9) := HnX9
    have HnP : Hid (type_of% HnP9) := HnP9
    have HnZ : Hid (type_of% HnZ9) := HnZ9
    have HCV : Hid (Cv3 V1 W0.heap.size (.int .i64 pe) (.int .i64 pn) (.string pt)) := by show Cv3 _ _ _ _ _; rw [hV1]; exact (HC.out.below HB8.out).apart (by omega)
    rw [← hV1] at HX HP HZ HR HT ⊢
    have hs3 : w.heap.size + 2 < V1.heap.size := HZ.out.low
    clear hV1 HX8 HP9 HZ9 HnX9 HnP9 HnZ9 HQ hQ hro hlo y8 g8 hown8 hgrow8 hnew8 hb8 hown9 hgrow9 hnew9 hb9 hown0 hbA hSS HAT HSS
    clear k0 k1 HC HnC
    have k0 := HP.out.c0
    have x0 := HX.out.c0
    have x1 := HX.out.c1
    have x2 := HX.out.c2
    have x3 := HX.out.c3
    have x4 := HX.out.c4
    have x5 := HX.out.c5
    have q0 := HCV.out.c0
    have q1 := HCV.out.c1
    have q2 := HCV.out.c2
    have hol : (outP s.way kn).length ≤ 1000 := by rw [len_outP _ (by omega)]; omega
    have C0 : Calls Try.prog 94 #[.agg #[.int .i64 s.ep, .slice ai s.items.length ci, .int .i64 s.base, .slice ah s.handed.length ch, .slice br kn kr, .slice aa s.acks.length ca], .agg #[.int .i64 pe, .int .i64 pn, .string pt]] V1 fun e w' => StO V1 w' B (.slice ai s.items.length ci) (.slice ah s.handed.length ch) (.slice br kn kr) (.slice aa s.acks.length ca) (come { s with way := outP s.way kn } ⟨pe, pn, pt⟩) (fun v => e = .returned v) := l15Come_any { s with way := outP s.way kn } ⟨pe, pn, pt⟩ B _ _ _ _ V1 HR.out (by omega) ⟨by dsimp only; omega, by dsimp only; omega, hol, by dsimp only; omega⟩
    clear hol
    generalize come { s with way := outP s.way kn } ⟨pe, pn, pt⟩ = F at C0 HE
    go_wp2_with fail
    go_at_call 94
    refine C0.mono ?_
    rintro e w5 ⟨ui, uh, uw, ua, rfl, hr5, ht5⟩
    obtain ⟨bi, di, bh, dh, bw, dw, ba, da, rfl, rfl, rfl, rfl⟩ := hr5.at.form
    unfold Ses.val
    have hX5 := HX.out.step ht5 HnX.out
    have hP5 := HP.out.step ht5 HnP.out
    have hZ5 := HZ.out.step ht5 HnZ.out
    have hnX5 := ht5.avoid HX.out.low HnX.out
    have hnZ5 := ht5.avoid HZ.out.low HnZ.out
    clear x0 x1 x2 x3 x4 x5 q0 q1 q2 k0
    have x0 := hX5.c0
    have x1 := hX5.c1
    have x2 := hX5.c2
    have x3 := hX5.c3
    have x4 := hX5.c4
    have x5 := hX5.c5
    have g0 := hX5.f0
    have g1 := hX5.f1
    have g2 := hX5.f2
    have g3 := hX5.f3
    have g4 := hX5.f4
    have g5 := hX5.f5
    have hX6 : Sv ((((((w5.setCell ⟨w.heap.size, 0, none⟩ (.int .i64 F.ep)).setCell ⟨w.heap.size, 1, none⟩ (.slice bi F.items.length di)).setCell ⟨w.heap.size, 2, none⟩ (.int .i64 F.base)).setCell ⟨w.heap.size, 3, none⟩ (.slice bh F.handed.length dh)).setCell ⟨w.heap.size, 4, none⟩ (.slice bw F.way.length dw)).setCell ⟨w.heap.size, 5, none⟩ (.slice ba F.acks.length da)) w.heap.size (.int .i64 F.ep) (.slice bi F.items.length di) (.int .i64 F.base) (.slice bh F.handed.length dh) (.slice bw F.way.length dw) (.slice ba F.acks.length da) := hX5.set6
    have hZ6 : Sv ((((((w5.setCell ⟨w.heap.size, 0, none⟩ (.int .i64 F.ep)).setCell ⟨w.heap.size, 1, none⟩ (.slice bi F.items.length di)).setCell ⟨w.heap.size, 2, none⟩ (.int .i64 F.base)).setCell ⟨w.heap.size, 3, none⟩ (.slice bh F.handed.length dh)).setCell ⟨w.heap.size, 4, none⟩ (.slice bw F.way.length dw)).setCell ⟨w.heap.size, 5, none⟩ (.slice ba F.acks.length da)) (w.heap.size + 2) (.int .i64 0) (.slice none 0 0) (.int .i64 0) (.slice none 0 0) (.slice none 0 0) (.slice none 0 0) := hZ5.apart6 (by omega)
    have hR6 : SesRow ((((((w5.setCell ⟨w.heap.size, 0, none⟩ (.int .i64 F.ep)).setCell ⟨w.heap.size, 1, none⟩ (.slice bi F.items.length di)).setCell ⟨w.heap.size, 2, none⟩ (.int .i64 F.base)).setCell ⟨w.heap.size, 3, none⟩ (.slice bh F.handed.length dh)).setCell ⟨w.heap.size, 4, none⟩ (.slice bw F.way.length dw)).setCell ⟨w.heap.size, 5, none⟩ (.slice ba F.acks.length da)) B F (.slice bi F.items.length di) (.slice bh F.handed.length dh) (.slice bw F.way.length dw) (.slice ba F.acks.length da) := hr5.set6 hnX5
    have hT6 : Tch w ((((((w5.setCell ⟨w.heap.size, 0, none⟩ (.int .i64 F.ep)).setCell ⟨w.heap.size, 1, none⟩ (.slice bi F.items.length di)).setCell ⟨w.heap.size, 2, none⟩ (.int .i64 F.base)).setCell ⟨w.heap.size, 3, none⟩ (.slice bh F.handed.length dh)).setCell ⟨w.heap.size, 4, none⟩ (.slice bw F.way.length dw)).setCell ⟨w.heap.size, 5, none⟩ (.slice ba F.acks.length da)) _ (P4 (.slice bi F.items.length di) (.slice bh F.handed.length dh) (.slice bw F.way.length dw) (.slice ba F.acks.length da)) := (HT.out.trans ht5).set6 (Nat.le_refl _)
    obtain ⟨V6, hV6⟩ : ∃ X, X = ((((((w5.setCell ⟨w.heap.size, 0, none⟩ (.int .i64 F.ep)).setCell ⟨w.heap.size, 1, none⟩ (.slice bi F.items.length di)).setCell ⟨w.heap.size, 2, none⟩ (.int .i64 F.base)).setCell ⟨w.heap.size, 3, none⟩ (.slice bh F.handed.length dh)).setCell ⟨w.heap.size, 4, none⟩ (.slice bw F.way.length dw)).setCell ⟨w.heap.size, 5, none⟩ (.slice ba F.acks.length da)) := ⟨_, rfl⟩
    rw [← hV6] at hX6 hZ6 hR6 hT6
    have HX : Hid (type_of% hX6) := hX6
    have HZ : Hid (type_of% hZ6) := hZ6
    have HR : Hid (type_of% hR6) := hR6
    have HT : Hid (type_of% hT6) := hT6
    have HnZ : Hid (type_of% hnZ5) := hnZ5
    clear hX5 hP5 hZ5 hnX5 hnZ5 hX6 hZ6 hR6 hT6 hr5 ht5 HP HnP HnX HCV
    go_upto_region 37 with fail
    rw [← hV6]
    have hs3 : w.heap.size + 2 < V6.heap.size := HZ.out.low
    clear hV6 x0 g0 x1 g1 x2 g2 x3 g3 x4 g4 x5 g5
    have y0 := HX.out.c0
    have z0 := HZ.out.c0
    have f0 := HZ.out.f0
    have y1 := HX.out.c1
    have z1 := HZ.out.c1
    have f1 := HZ.out.f1
    have y2 := HX.out.c2
    have z2 := HZ.out.c2
    have f2 := HZ.out.f2
    have y3 := HX.out.c3
    have z3 := HZ.out.c3
    have f3 := HZ.out.f3
    have y4 := HX.out.c4
    have z4 := HZ.out.c4
    have f4 := HZ.out.f4
    have y5 := HX.out.c5
    have z5 := HZ.out.c5
    have f5 := HZ.out.f5
    go_wp2_with fail
    (try simp only [Exit.inBlock, Exit.then])
    rw [HE.out, HK.out]
    refine bodyPost_ret (v := .tuple #[.agg #[.int .i64 F.ep, .slice bi F.items.length di, .int .i64 F.base, .slice bh F.handed.length dh, .slice bw F.way.length dw, .slice ba F.acks.length da], .bool true]) ?_ rfl (StO.ret2 (.slice bi F.items.length di) (.slice bh F.handed.length dh) (.slice bw F.way.length dw) (.slice ba F.acks.length da) ?_ ?_ ?_)
    · rw [rc]
      go_simp
    · rfl
    · exact HR.out.set6 HnZ.out
    · exact HT.out.set6 (by omega)


end Go.Proofs.Ytnlppeieccbhgaa

namespace Go.Proofs.Ytnlppeieccbhgaa
open Go.RowKit Plain Tpc Ssn

theorem l15Step_any (s : Ses) (x : Sp) (B : Nat) (vi vh vw va : Value) (w : World) (hR : SesRow w B s vi vh vw va) (hBw : B ≤ w.heap.size) (hg : Gd s) (htx : x.tx.size ≤ 9223372036854775807) :
    Calls Try.prog 71 #[s.val vi vh vw va, .agg #[.int .i64 x.kind, .int .i64 x.kk, .string x.tx]] w fun e w' => StO w w' B vi vh vw va (stS s x) (fun v => e = .returned (.tuple #[v, .bool (stK s x)])) := by
  obtain ⟨ai, ci, ah, ch, aw, cw, aa, ca, rfl, rfl, rfl, rfl⟩ := hR.at.form
  unfold Ses.val
  by_cases k1 : x.kind = 1
  · by_cases h20 : x.tx.size ≤ 20
    · by_cases h30 : s.items.length < 30
      · exact stPush2 s x B ai ah aw aa ci ch cw ca w hR hBw hg k1 htx h20 h30
      · exact stPush1 s x B ai ah aw aa ci ch cw ca w hR hBw hg k1 htx h20 h30
    · exact stPush0 s x B ai ah aw aa ci ch cw ca w hR hBw hg k1 htx h20
  by_cases k2 : x.kind = 2
  · by_cases h1 : x.kk < s.base
    · exact stSend0 s x B ai ah aw aa ci ch cw ca w hR hBw hg k2 h1
    by_cases h2 : s.base + 4 ≤ x.kk
    · exact stSend1 s x B ai ah aw aa ci ch cw ca w hR hBw hg k2 h1 h2
    by_cases h3 : (s.items.length : Int) ≤ x.kk
    · exact stSend2 s x B ai ah aw aa ci ch cw ca w hR hBw hg k2 h1 h2 h3
    by_cases h4 : s.way.length < 12
    · exact stSend4 s x B ai ah aw aa ci ch cw ca w hR hBw hg k2 h1 h2 h3 h4
    · exact stSend3 s x B ai ah aw aa ci ch cw ca w hR hBw hg k2 h1 h2 h3 h4
  by_cases k6 : x.kind = 6
  · by_cases h1 : x.kk < 0
    · exact stAck0 s x B ai ah aw aa ci ch cw ca w hR hBw hg k6 h1
    by_cases h2 : (s.acks.length : Int) ≤ x.kk
    · exact stAck1 s x B ai ah aw aa ci ch cw ca w hR hBw hg k6 h1 h2
    · exact stAck2 s x B ai ah aw aa ci ch cw ca w hR hBw hg k6 (by omega) (by omega)
  by_cases k7 : x.kind = 7
  · by_cases h1 : s.ep < 1000
    · exact stCut1 s x B ai ah aw aa ci ch cw ca w hR hBw hg k7 h1 hg.e0
    · exact stCut0 s x B ai ah aw aa ci ch cw ca w hR hBw hg k7 h1
  by_cases h1 : x.kk < 0
  · exact stOth0 s x B ai ah aw aa ci ch cw ca w hR hBw hg k1 k2 k6 k7 h1
  by_cases h2 : (s.way.length : Int) ≤ x.kk
  · exact stOth1 s x B ai ah aw aa ci ch cw ca w hR hBw hg k1 k2 k6 k7 h1 h2
  by_cases k3 : x.kind = 3
  · exact stTake s x B ai ah aw aa ci ch cw ca w hR hBw hg k3 (by omega) (by omega)
  by_cases k4 : x.kind = 4
  · exact stLose s x B ai ah aw aa ci ch cw ca w hR hBw hg k4 (by omega) (by omega)
  by_cases k5 : x.kind = 5
  · by_cases h3 : s.way.length < 12
    · exact stTwice1 s x B ai ah aw aa ci ch cw ca w hR hBw hg k5 (by omega) (by omega) h3
    · exact stTwice0 s x B ai ah aw aa ci ch cw ca w hR hBw hg k5 (by omega) (by omega) h3
  · exact stOth2 s x B ai ah aw aa ci ch cw ca w hR hBw hg k1 k2 k6 k7 h1 h2 (by omega)

end Go.Proofs.Ytnlppeieccbhgaa
