/- The model's l16Hand and l16Offer. -/
import Derived.Test.YtfkhbbmnjndmcaaQsD
namespace Go.Proofs.Ytfkhbbmnjndmcaa
open Go.RowKit Plain Qus

theorem QuOutB.zero {w w' : World} {B : Nat} {P : Value → Prop} (hp : P (.agg #[.int .i64 0, .int .i64 0, .int .i64 0, .slice none 0 0, .slice none 0 0, .slice none 0 0])) (hb : Below B w w') : QuOutB w w' B qz P :=
  ⟨none, 0, none, 0, none, 0, hp, QuRow.nil _ _ 0 0 0, hb⟩

theorem head_cell {w : World} {B : Nat} {a : Option Addr} {l : List Int} {c i : Nat} (h : ZAt w B (.slice a l.length c) l) (hi : i < l.length) : ∃ g o, a = some ⟨g, o, none⟩ ∧ g < B ∧ w.cell? ⟨g, o + i, none⟩ = some (.int .i64 (l.getD i 0)) := by
  obtain ⟨ao, c', hv, _, _, hr⟩ := h
  cases hv
  exact hr i _ (some_getD hi)
theorem zat_caps {w : World} {B : Nat} {a : Option Addr} {l : List Int} {c : Nat} (h : ZAt w B (.slice a l.length c) l) : l.length ≤ c ∧ c ≤ 9223372036854775807 := by
  obtain ⟨ao, c', hv, h1, h2, _⟩ := h
  cases hv
  unfold maxLen at h2
  exact ⟨h1, h2⟩

set_option maxRecDepth 100000 in
set_option maxHeartbeats 8000000 in
theorem l16Hand_any (q : Qu) (B : Nat) (v1 v2 v3 : Value) (w : World) (h : QuRow w B q v1 v2 v3) (hB : B ≤ w.heap.size) (hl : SmlQ q 1000) (hne : q.wt.length ≠ 0 → q.wt.getD 0 0 ∉ q.hd) :
    Calls Try.prog 54 #[q.val v1 v2 v3] w fun e w' => QuOutB w w' B (hnL q).1 (fun v => e = .returned (.tuple #[v, .int .i64 (hnL q).2.1, .bool (hnL q).2.2])) := by
  have rc := fun (tmps : Array Value) (P : Program) (w : World) => results_cell_tmp2Q (fn := Try.f54) (p := 2) (u := 3) (v := 4) (ty := 24) rfl tmps P w
  have HO0 := Ow.start h hB
  obtain ⟨a1, c1, a2, c2, a3, c3, rfl, rfl, rfl⟩ := h.form
  obtain ⟨k1, k2⟩ := zat_caps h.at.a
  have l1 := hl.a
  have l2 := hl.b
  have l3 := hl.c
  unfold Qu.val
  obtain ⟨W0, hW0⟩ : ∃ W, W = (w.alloc (.cells #[.int .i64 q.cap, .int .i64 q.rule, .int .i64 q.next, .slice a1 q.wt.length c1, .slice a2 q.hd.length c2, .slice a3 q.dr.length c3] 24)).alloc (.cells #[.int .i64 0, .int .i64 0, .int .i64 0, .slice none 0 0, .slice none 0 0, .slice none 0 0] 24) := ⟨_, rfl⟩
  rw [← hW0] at HO0
  have HO : Hid (type_of% HO0) := HO0
  clear HO0
  by_cases h0 : q.wt.length = 0
  · have HQ : Hid (hnL q = (qz, 0, false)) := by show _ = _; unfold hnL; rw [if_pos h0]
    have d0 : ((q.wt.length : Int) == 0) = true := beq_iff_eq.2 (by omega)
    have d0n : (q.wt.length == 0) = true := by simpa using h0
    have x3 := HO.out.x.c3
    have fx3 := HO.out.x.f3
    clear h hl hne h0
    go_enter Try.func54, Try.ntmps54
    go_upto_region 1 with fail
    rw [← hW0]
    clear hW0
    have y0 := HO.out.v.c0
    have z0 := HO.out.v.f0
    have y1 := HO.out.v.c1
    have z1 := HO.out.v.f1
    have y2 := HO.out.v.c2
    have z2 := HO.out.v.f2
    have y3 := HO.out.v.c3
    have z3 := HO.out.v.f3
    have y4 := HO.out.v.c4
    have z4 := HO.out.v.f4
    have y5 := HO.out.v.c5
    have z5 := HO.out.v.f5
    go_wp2_with fail
    (try simp only [Exit.inBlock, Exit.then])
    refine bodyPost_ret (v := .tuple #[.agg #[.int .i64 0, .int .i64 0, .int .i64 0, .slice none 0 0, .slice none 0 0, .slice none 0 0], .int .i64 0, .bool false]) ?_ rfl ?_
    · rw [rc]
      go_simp
    · rw [HQ.out]
      exact QuOutB.zero rfl (Below.set6Q HO.out.b (Nat.le_trans HO.out.hB (Nat.le_succ _)))
  · have hn := hne h0
    obtain ⟨x, hx⟩ : ∃ x, x = q.wt.getD 0 0 := ⟨_, rfl⟩
    have HQ : Hid (hnL q = (⟨q.cap, q.rule, q.next, q.wt.drop 1, putZ x q.hd, q.dr⟩, x, true)) := by show _ = _; unfold hnL; rw [if_neg h0, ← hx]
    have d0 : ((q.wt.length : Int) == 0) = false := by rw [beq_eq_false_iff_ne]; omega
    have d0n : (q.wt.length == 0) = false := by simpa using h0
    have hpos : 0 < q.wt.length := by omega
    have hposI : (0 : Int) < (q.wt.length : Int) := by omega
    obtain ⟨g, o, hao, hg, hc⟩ := head_cell HO.out.q.at.a hpos
    rw [← hx] at hn hc
    clear hx
    obtain ⟨b2, hsl0, hnews⟩ := cutF q.wt a1 c1 1 (by omega)
    have hsl : ∀ W : World, (Instr.slice 22 (.slice a1 q.wt.length c1) (some (.int .i64 1)) none none).run Try.prog W = .ok (.slice b2 (q.wt.drop 1).length (c1 - 1)) W := hsl0
    have HNW : Hid (∀ o, ∀ j u, (zints (q.wt.drop 1))[j]? = some u → ∃ ad, b2 = some ad ∧ (W0.alloc o).cell? (ad.add j) = some u) := fun o => hnews _ _ (HO.out.q.at.a.below ((Below.refl _ W0).alloc (Nat.le_refl _) o))
    have HZ2 : Hid (∀ W, Below W0.heap.size W0 W → ZAt W W.heap.size (.slice a2 q.hd.length c2) q.hd) := fun W hW => HO.out.q.at.b.below hW
    obtain ⟨L1, hL1⟩ : ∃ L, L = q.wt.drop 1 := ⟨_, rfl⟩
    have hL1l : L1.length ≤ 1000 := by rw [hL1, List.length_drop]; omega
    rw [← hL1] at hsl HNW HQ
    subst hao
    have hlow : w.heap.size < W0.heap.size := by have := HO.out.s; omega
    have hc9 : W0.cell? ⟨g, o, none⟩ = some (.int .i64 x) := by simpa using hc
    have x3 := HO.out.x.c3
    have fx3 := HO.out.x.f3
    have x4 := HO.out.x.c4
    have fx4 := HO.out.x.f4
    have S1a : ∀ o', (W0.alloc o').cell? ⟨w.heap.size, 3, none⟩ = some (.slice (some ⟨g, o, none⟩) q.wt.length c1) := fun o' => (((Below.refl W0.heap.size W0).alloc (Nat.le_refl _) o').cell (p := ⟨w.heap.size, 3, none⟩) hlow).trans x3
    have HQH : Hid (type_of% hn) := hn
    clear h hl hne h0 hn hsl0 hnews hL1 hc
    go_enter Try.func54, Try.ntmps54
    go_upto_region 1 with fail
    rw [← hW0]
    clear hW0
    go_upto_region 5 with (at_builtin; refine append_newQ W0 rfl _ _ rfl rfl rfl b2 L1.length (c1 - 1) L1 rfl rfl (HNW.out _) (by omega) ?_; intro ar1 cap1 w1 hr1 hb1 hcm1; have c9 : w1.cell? ⟨w.heap.size, 3, none⟩ = some (.slice (some ⟨g, o, none⟩) q.wt.length c1) := (hb1.cell (p := ⟨w.heap.size, 3, none⟩) hlow).trans x3; have z9 : w1.frozen? ⟨w.heap.size, 3, none⟩ = false := (hb1.frozen (p := ⟨w.heap.size, 3, none⟩) hlow).trans fx3; have HN9 : Hid (type_of% (HO.out.newA hb1 hr1)) := HO.out.newA hb1 hr1; have HB9 : Hid (Below W0.heap.size W0 w1) := hb1; clear hr1 hb1 S1a)
    obtain ⟨V1, hV1⟩ : ∃ W, W = w1.setCell ⟨w.heap.size, 3, none⟩ (.slice ar1 L1.length cap1) := ⟨_, rfl⟩
    rw [← hV1] at HN9
    rw [← hV1]
    have HO : Hid (type_of% HN9.out) := HN9.out
    have hZ2 : ZAt V1 V1.heap.size (.slice a2 q.hd.length c2) q.hd := HO.out.q.at.b
    have CP := l10PutZ x q.hd _ V1 hZ2 (by omega) HQH.out
    clear HN9 HB9 hV1 c9 z9 hc9 hZ2 x3 fx3 x4 fx4
    have x4 := HO.out.x.c4
    have fx4 := HO.out.x.f4
    go_wp2_with fail
    go_at_call 69
    refine CP.mono ?_
    rintro e w2 ⟨⟨r2, rfl, hr2⟩, hb2⟩
    obtain ⟨ar2, cap2, rfl⟩ := ZRow.slice hr2
    have y4 := (HO.out.x.below hb2).c4
    have fy4 := (HO.out.x.below hb2).f4
    obtain ⟨V2, hV2⟩ : ∃ W, W = w2.setCell ⟨w.heap.size, 4, none⟩ (.slice ar2 (putZ x q.hd).length cap2) := ⟨_, rfl⟩
    have HN9 : Hid (type_of% (HO.out.newB hb2 hr2)) := HO.out.newB hb2 hr2
    rw [← hV2] at HN9
    clear hr2 hb2 CP x4 fx4
    go_upto_region 6 with fail
    rw [← hV2]
    clear hV2 y4 fy4
    have HO : Hid (type_of% HN9.out) := HN9.out
    clear HN9
    have x0 := HO.out.x.c0
    have x1 := HO.out.x.c1
    have x2 := HO.out.x.c2
    have x3 := HO.out.x.c3
    have x4 := HO.out.x.c4
    have x5 := HO.out.x.c5
    have y0 := HO.out.v.c0
    have z0 := HO.out.v.f0
    have y1 := HO.out.v.c1
    have z1 := HO.out.v.f1
    have y2 := HO.out.v.c2
    have z2 := HO.out.v.f2
    have y3 := HO.out.v.c3
    have z3 := HO.out.v.f3
    have y4 := HO.out.v.c4
    have z4 := HO.out.v.f4
    have y5 := HO.out.v.c5
    have z5 := HO.out.v.f5
    go_wp2_with fail
    (try simp only [Exit.inBlock, Exit.then])
    refine bodyPost_ret (v := .tuple #[.agg #[.int .i64 q.cap, .int .i64 q.rule, .int .i64 q.next, .slice ar1 L1.length cap1, .slice ar2 (putZ x q.hd).length cap2, .slice a3 q.dr.length c3], .int .i64 x, .bool true]) ?_ rfl ?_
    · rw [rc]
      go_simp
    · rw [HQ.out]
      exact ⟨_, _, _, _, _, _, rfl, HO.out.set6, Below.set6Q HO.out.b (Nat.le_trans HO.out.hB (Nat.le_succ _))⟩

set_option maxRecDepth 100000 in
set_option maxHeartbeats 8000000 in
theorem l16Offer_end (q : Qu) (B : Nat) (v1 v2 v3 : Value) (w : World) (h : QuRow w B q v1 v2 v3) (hB : B ≤ w.heap.size) (hl : SmlQ q 1000) (h1 : q.next = 100) :
    Calls Try.prog 50 #[q.val v1 v2 v3] w fun e w' => QuOutB w w' B (ofL q).1 (fun v => e = .returned (.tuple #[v, .int .i64 (ofL q).2.1, .bool (ofL q).2.2])) := by
  have rc := fun (tmps : Array Value) (P : Program) (w : World) => results_cell_tmp2Q (fn := Try.f50) (p := 2) (u := 3) (v := 4) (ty := 24) rfl tmps P w
  have HO0 := Ow.start h hB
  obtain ⟨a1, c1, a2, c2, a3, c3, rfl, rfl, rfl⟩ := h.form
  obtain ⟨k1, k2⟩ := zat_caps h.at.a
  have l1 := hl.a
  have l2 := hl.b
  have l3 := hl.c
  unfold Qu.val
  obtain ⟨W0, hW0⟩ : ∃ W, W = (w.alloc (.cells #[.int .i64 q.cap, .int .i64 q.rule, .int .i64 q.next, .slice a1 q.wt.length c1, .slice a2 q.hd.length c2, .slice a3 q.dr.length c3] 24)).alloc (.cells #[.int .i64 0, .int .i64 0, .int .i64 0, .slice none 0 0, .slice none 0 0, .slice none 0 0] 24) := ⟨_, rfl⟩
  rw [← hW0] at HO0
  have HO : Hid (type_of% HO0) := HO0
  clear HO0
  have HQ : Hid (ofL q = (qz, 0, false)) := by show _ = _; unfold ofL; rw [if_pos h1]
  have d0 : (q.next == 100) = true := by simpa using h1
  have x2 := HO.out.x.c2
  have fx2 := HO.out.x.f2
  clear h hl h1
  go_enter Try.func50, Try.ntmps50
  go_upto_region 1 with fail
  rw [← hW0]
  clear hW0
  have y0 := HO.out.v.c0
  have z0 := HO.out.v.f0
  have y1 := HO.out.v.c1
  have z1 := HO.out.v.f1
  have y2 := HO.out.v.c2
  have z2 := HO.out.v.f2
  have y3 := HO.out.v.c3
  have z3 := HO.out.v.f3
  have y4 := HO.out.v.c4
  have z4 := HO.out.v.f4
  have y5 := HO.out.v.c5
  have z5 := HO.out.v.f5
  go_wp2_with fail
  (try simp only [Exit.inBlock, Exit.then])
  refine bodyPost_ret (v := .tuple #[.agg #[.int .i64 0, .int .i64 0, .int .i64 0, .slice none 0 0, .slice none 0 0, .slice none 0 0], .int .i64 0, .bool false]) ?_ rfl ?_
  · rw [rc]
    go_simp
  · rw [HQ.out]
    exact QuOutB.zero rfl (Below.set6Q HO.out.b (Nat.le_trans HO.out.hB (Nat.le_succ _)))

set_option maxRecDepth 100000 in
set_option maxHeartbeats 8000000 in
theorem l16Offer_room (q : Qu) (B : Nat) (v1 v2 v3 : Value) (w : World) (h : QuRow w B q v1 v2 v3) (hB : B ≤ w.heap.size) (hl : SmlQ q 1000) (h0 : 0 ≤ q.next ∧ q.next ≤ 1000) (h1 : q.next ≠ 100) (h2 : (q.wt.length : Int) < q.cap) :
    Calls Try.prog 50 #[q.val v1 v2 v3] w fun e w' => QuOutB w w' B (ofL q).1 (fun v => e = .returned (.tuple #[v, .int .i64 (ofL q).2.1, .bool (ofL q).2.2])) := by
  have rc := fun (tmps : Array Value) (P : Program) (w : World) => results_cell_tmp2Q (fn := Try.f50) (p := 2) (u := 3) (v := 4) (ty := 24) rfl tmps P w
  have HO0 := Ow.start h hB
  obtain ⟨a1, c1, a2, c2, a3, c3, rfl, rfl, rfl⟩ := h.form
  obtain ⟨k1, k2⟩ := zat_caps h.at.a
  have l1 := hl.a
  have l2 := hl.b
  have l3 := hl.c
  unfold Qu.val
  obtain ⟨W0, hW0⟩ : ∃ W, W = (w.alloc (.cells #[.int .i64 q.cap, .int .i64 q.rule, .int .i64 q.next, .slice a1 q.wt.length c1, .slice a2 q.hd.length c2, .slice a3 q.dr.length c3] 24)).alloc (.cells #[.int .i64 0, .int .i64 0, .int .i64 0, .slice none 0 0, .slice none 0 0, .slice none 0 0] 24) := ⟨_, rfl⟩
  rw [← hW0] at HO0
  have HO : Hid (type_of% HO0) := HO0
  clear HO0
  obtain ⟨i0, hi, hz0, hz1, hz2⟩ := info_parts infoIntR
  have HQ : Hid (ofL q = (⟨q.cap, q.rule, q.next + 1, q.wt ++ [q.next], q.hd, q.dr⟩, -1, true)) := by show _ = _; unfold ofL; rw [if_neg h1, if_pos h2]
  have hn0 := h0.1
  have hn1 := h0.2
  have d2 : decide ((q.wt.length : Int) < q.cap) = true := by simpa using h2
  have d0 : (q.next == 100) = false := by simpa using h1
  have x2 := HO.out.x.c2
  have fx2 := HO.out.x.f2
  clear h hl h1
  go_enter Try.func50, Try.ntmps50
  go_upto_region 1 with fail
  rw [← hW0]
  clear hW0
  obtain ⟨V0, hV0⟩ : ∃ W, W = W0.setCell ⟨w.heap.size, 2, none⟩ (.int .i64 (q.next + 1)) := ⟨_, rfl⟩
  have HN9 : Hid (type_of% (HO.out.next (q.next + 1))) := HO.out.next (q.next + 1)
  rw [← hV0] at HN9
  go_upto_region 5 with fail
  rw [← hV0]
  clear hV0 x2 fx2
  have HO : Hid (type_of% HN9.out) := HN9.out
  clear HN9
  have hlow : w.heap.size < V0.heap.size := by have := HO.out.s; omega
  have x0 := HO.out.x.c0
  have fx0 := HO.out.x.f0
  have x3 := HO.out.x.c3
  have fx3 := HO.out.x.f3
  have HOW : Hid (V0.ownsRow B 3 1 (.slice a1 q.wt.length c1) q.wt.length (zints q.wt)) := HO.out.q.a
  have hBV : B ≤ V0.heap.size := Nat.le_trans HO.out.hB (by omega)
  have S1a : ∀ o, (V0.alloc o).cell? ⟨w.heap.size, 3, none⟩ = some (.slice a1 q.wt.length c1) := fun o => (((Below.refl V0.heap.size V0).alloc (Nat.le_refl _) o).cell (p := ⟨w.heap.size, 3, none⟩) hlow).trans x3
  have f1a : ∀ o, (V0.alloc o).frozen? ⟨w.heap.size, 3, none⟩ = false := fun o => (((Below.refl V0.heap.size V0).alloc (Nat.le_refl _) o).frozen (p := ⟨w.heap.size, 3, none⟩) hlow).trans fx3
  have hne0 : some w.heap.size ≠ (Value.slice a1 q.wt.length c1).ownBlock := fun e => (HO.out.n _ (.inl e.symm)).1 rfl
  go_upto_region 7 with (at_builtin; refine wpList_append_lies _ rfl _ _ 22 rfl B 3 i0 (.int .i64 0) 1 8 Try.underlying22 hi hz0 hz1 hz2 rfl (by decide) _ q.wt.length _ rfl (World.ownsRow.alloc HOW.out _) ⟨V0.heap.size, 0, none⟩ 1 1 [.int .i64 q.next] rfl rfl (World.news_of_block (heap_alloc_new V0 _)) (one1Q q.next) (by omega) (by unfold maxLen; omega) (by omega) (by simp; omega) (V0.heap.size + 1) (by simp) ?_; intro g9 cap9 w9 hown9 hgrow9 hat9 hlt9; have c9 : w9.cell? ⟨w.heap.size, 3, none⟩ = some (.slice a1 q.wt.length c1) := (hgrow9.cell_far ⟨w.heap.size, 3, none⟩ (by simp; omega) hne0).trans (S1a _); have z9 : w9.frozen? ⟨w.heap.size, 3, none⟩ = false := (World.frozen?_of_block (hgrow9.block w.heap.size (by simp; omega) hne0)).trans (f1a _); have HN9 : Hid (type_of% (HO.out.appA hown9 hgrow9 hat9)) := HO.out.appA hown9 hgrow9 hat9; clear hown9 hgrow9 hat9 hlt9)
  obtain ⟨V1, hV1⟩ : ∃ W, W = w9.setCell ⟨w.heap.size, 3, none⟩ (.slice (some ⟨g9, 0, none⟩) (q.wt.length + 1) cap9) := ⟨_, rfl⟩
  have HO : Hid (type_of% HN9.out) := HN9.out
  rw [← hV1] at HO
  rw [← hV1]
  clear hV1 HN9 c9 z9 S1a f1a x0 fx0 x3 fx3 HOW
  have x0 := HO.out.x.c0
  have x1 := HO.out.x.c1
  have x2 := HO.out.x.c2
  have x3 := HO.out.x.c3
  have x4 := HO.out.x.c4
  have x5 := HO.out.x.c5
  have y0 := HO.out.v.c0
  have z0 := HO.out.v.f0
  have y1 := HO.out.v.c1
  have z1 := HO.out.v.f1
  have y2 := HO.out.v.c2
  have z2 := HO.out.v.f2
  have y3 := HO.out.v.c3
  have z3 := HO.out.v.f3
  have y4 := HO.out.v.c4
  have z4 := HO.out.v.f4
  have y5 := HO.out.v.c5
  have z5 := HO.out.v.f5
  go_wp2_with fail
  (try simp only [Exit.inBlock, Exit.then])
  refine bodyPost_ret (v := .tuple #[.agg #[.int .i64 q.cap, .int .i64 q.rule, .int .i64 (q.next + 1), .slice (some ⟨g9, 0, none⟩) (q.wt.length + 1) cap9, .slice a2 q.hd.length c2, .slice a3 q.dr.length c3], .int .i64 (-1), .bool true]) ?_ rfl ?_
  · rw [rc]
    go_simp
  · rw [HQ.out]
    have hln : (q.wt ++ [q.next]).length = q.wt.length + 1 := by simp
    refine ⟨some ⟨g9, 0, none⟩, cap9, a2, c2, a3, c3, by rw [hln], by rw [hln]; exact HO.out.set6, Below.set6Q HO.out.b (Nat.le_trans HO.out.hB (Nat.le_succ _))⟩

set_option maxRecDepth 100000 in
set_option maxHeartbeats 8000000 in
theorem l16Offer_none (q : Qu) (B : Nat) (v1 v2 v3 : Value) (w : World) (h : QuRow w B q v1 v2 v3) (hB : B ≤ w.heap.size) (hl : SmlQ q 1000) (h0 : 0 ≤ q.next ∧ q.next ≤ 1000) (h1 : q.next ≠ 100) (h2 : ¬ (q.wt.length : Int) < q.cap) (r1 : q.rule ≠ 1) (r2 : q.rule ≠ 2) (hne : q.next ∉ q.dr) :
    Calls Try.prog 50 #[q.val v1 v2 v3] w fun e w' => QuOutB w w' B (ofL q).1 (fun v => e = .returned (.tuple #[v, .int .i64 (ofL q).2.1, .bool (ofL q).2.2])) := by
  have rc := fun (tmps : Array Value) (P : Program) (w : World) => results_cell_tmp2Q (fn := Try.f50) (p := 2) (u := 3) (v := 4) (ty := 24) rfl tmps P w
  have HO0 := Ow.start h hB
  obtain ⟨a1, c1, a2, c2, a3, c3, rfl, rfl, rfl⟩ := h.form
  obtain ⟨k1, k2⟩ := zat_caps h.at.a
  have l1 := hl.a
  have l2 := hl.b
  have l3 := hl.c
  unfold Qu.val
  obtain ⟨W0, hW0⟩ : ∃ W, W = (w.alloc (.cells #[.int .i64 q.cap, .int .i64 q.rule, .int .i64 q.next, .slice a1 q.wt.length c1, .slice a2 q.hd.length c2, .slice a3 q.dr.length c3] 24)).alloc (.cells #[.int .i64 0, .int .i64 0, .int .i64 0, .slice none 0 0, .slice none 0 0, .slice none 0 0] 24) := ⟨_, rfl⟩
  rw [← hW0] at HO0
  have HO : Hid (type_of% HO0) := HO0
  clear HO0
  have HQ : Hid (ofL q = (⟨q.cap, q.rule, q.next + 1, q.wt, q.hd, putZ q.next q.dr⟩, q.next, true)) := by show _ = _; unfold ofL; rw [if_neg h1, if_neg h2, if_neg r1, if_neg r2]
  have hn0 := h0.1
  have hn1 := h0.2
  have d2 : decide ((q.wt.length : Int) < q.cap) = false := by simpa using h2
  have e1 : (q.rule == 1) = false := by simpa using r1
  have e2 : (q.rule == 2) = false := by simpa using r2
  have HQH : Hid (type_of% hne) := hne
  have d0 : (q.next == 100) = false := by simpa using h1
  have x2 := HO.out.x.c2
  have fx2 := HO.out.x.f2
  clear h hl h1
  go_enter Try.func50, Try.ntmps50
  go_upto_region 1 with fail
  rw [← hW0]
  clear hW0
  obtain ⟨V0, hV0⟩ : ∃ W, W = W0.setCell ⟨w.heap.size, 2, none⟩ (.int .i64 (q.next + 1)) := ⟨_, rfl⟩
  have HN9 : Hid (type_of% (HO.out.next (q.next + 1))) := HO.out.next (q.next + 1)
  rw [← hV0] at HN9
  go_upto_region 5 with fail
  rw [← hV0]
  clear hV0 x2 fx2
  have HO : Hid (type_of% HN9.out) := HN9.out
  clear HN9
  have hlow : w.heap.size < V0.heap.size := by have := HO.out.s; omega
  have hZ3 : ZAt V0 V0.heap.size (.slice a3 q.dr.length c3) q.dr := HO.out.q.at.c
  have CP := l10PutZ q.next q.dr _ V0 hZ3 (by omega) HQH.out
  clear hZ3
  have x0 := HO.out.x.c0
  have fx0 := HO.out.x.f0
  have x1 := HO.out.x.c1
  have fx1 := HO.out.x.f1
  have x3 := HO.out.x.c3
  have fx3 := HO.out.x.f3
  have x5 := HO.out.x.c5
  have fx5 := HO.out.x.f5
  go_wp2_with fail
  go_at_call 69
  refine CP.mono ?_
  rintro e w2 ⟨⟨r2, rfl, hr2⟩, hb2⟩
  obtain ⟨ar2, cap2, rfl⟩ := ZRow.slice hr2
  have y5 := (HO.out.x.below hb2).c5
  have fy5 := (HO.out.x.below hb2).f5
  obtain ⟨V2, hV2⟩ : ∃ W, W = w2.setCell ⟨w.heap.size, 5, none⟩ (.slice ar2 (putZ q.next q.dr).length cap2) := ⟨_, rfl⟩
  have HN9 : Hid (type_of% (HO.out.newC hb2 hr2)) := HO.out.newC hb2 hr2
  rw [← hV2] at HN9
  clear hr2 hb2 CP
  go_upto_region 18 with fail
  rw [← hV2]
  clear hV2 y5 fy5
  have HO : Hid (type_of% HN9.out) := HN9.out
  clear HN9 x0 fx0 x1 fx1 x3 fx3 x5 fx5
  have x0 := HO.out.x.c0
  have x1 := HO.out.x.c1
  have x2 := HO.out.x.c2
  have x3 := HO.out.x.c3
  have x4 := HO.out.x.c4
  have x5 := HO.out.x.c5
  have y0 := HO.out.v.c0
  have z0 := HO.out.v.f0
  have y1 := HO.out.v.c1
  have z1 := HO.out.v.f1
  have y2 := HO.out.v.c2
  have z2 := HO.out.v.f2
  have y3 := HO.out.v.c3
  have z3 := HO.out.v.f3
  have y4 := HO.out.v.c4
  have z4 := HO.out.v.f4
  have y5 := HO.out.v.c5
  have z5 := HO.out.v.f5
  go_wp2_with fail
  (try simp only [Exit.inBlock, Exit.then])
  refine bodyPost_ret (v := .tuple #[.agg #[.int .i64 q.cap, .int .i64 q.rule, .int .i64 (q.next + 1), .slice a1 q.wt.length c1, .slice a2 q.hd.length c2, .slice ar2 (putZ q.next q.dr).length cap2], .int .i64 q.next, .bool true]) ?_ rfl ?_
  · rw [rc]
    go_simp
  · rw [HQ.out]
    exact ⟨_, _, _, _, _, _, rfl, HO.out.set6, Below.set6Q HO.out.b (Nat.le_trans HO.out.hB (Nat.le_succ _))⟩

set_option maxRecDepth 100000 in
set_option maxHeartbeats 8000000 in
theorem l16Offer_old (q : Qu) (B : Nat) (v1 v2 v3 : Value) (w : World) (h : QuRow w B q v1 v2 v3) (hB : B ≤ w.heap.size) (hl : SmlQ q 1000) (h0 : 0 ≤ q.next ∧ q.next ≤ 1000) (h1 : q.next ≠ 100) (h2 : ¬ (q.wt.length : Int) < q.cap) (hcap : 1 ≤ q.cap) (r1 : q.rule = 1) (hne : q.wt.getD 0 0 ∉ q.dr) :
    Calls Try.prog 50 #[q.val v1 v2 v3] w fun e w' => QuOutB w w' B (ofL q).1 (fun v => e = .returned (.tuple #[v, .int .i64 (ofL q).2.1, .bool (ofL q).2.2])) := by
  have rc := fun (tmps : Array Value) (P : Program) (w : World) => results_cell_tmp2Q (fn := Try.f50) (p := 2) (u := 3) (v := 4) (ty := 24) rfl tmps P w
  have HO0 := Ow.start h hB
  obtain ⟨a1, c1, a2, c2, a3, c3, rfl, rfl, rfl⟩ := h.form
  obtain ⟨k1, k2⟩ := zat_caps h.at.a
  have l1 := hl.a
  have l2 := hl.b
  have l3 := hl.c
  unfold Qu.val
  obtain ⟨W0, hW0⟩ : ∃ W, W = (w.alloc (.cells #[.int .i64 q.cap, .int .i64 q.rule, .int .i64 q.next, .slice a1 q.wt.length c1, .slice a2 q.hd.length c2, .slice a3 q.dr.length c3] 24)).alloc (.cells #[.int .i64 0, .int .i64 0, .int .i64 0, .slice none 0 0, .slice none 0 0, .slice none 0 0] 24) := ⟨_, rfl⟩
  rw [← hW0] at HO0
  have HO : Hid (type_of% HO0) := HO0
  clear HO0
  obtain ⟨i0, hi, hz0, hz1, hz2⟩ := info_parts infoIntR
  obtain ⟨x, hx⟩ : ∃ x, x = q.wt.getD 0 0 := ⟨_, rfl⟩
  have HQ : Hid (ofL q = (⟨q.cap, q.rule, q.next + 1, q.wt.drop 1 ++ [q.next], q.hd, putZ x q.dr⟩, x, true)) := by show _ = _; unfold ofL; rw [if_neg h1, if_neg h2, if_pos r1, ← hx]
  have hn0 := h0.1
  have hn1 := h0.2
  have d2 : decide ((q.wt.length : Int) < q.cap) = false := by simpa using h2
  have e1 : (q.rule == 1) = true := by simp; omega
  have hposI : (0 : Int) < (q.wt.length : Int) := by omega
  have HCELL : Hid (∃ g o, a1 = some ⟨g, o, none⟩ ∧ ∀ W, ZAt W W.heap.size (.slice a1 q.wt.length c1) q.wt → W.cell? ⟨g, o + 0, none⟩ = some (.int .i64 x)) := by
    obtain ⟨g, o, hao, _, _⟩ := head_cell HO.out.q.at.a (i := 0) (by omega)
    refine ⟨g, o, hao, fun W hz => ?_⟩
    obtain ⟨g', o', hao', _, hc⟩ := head_cell hz (i := 0) (by omega)
    rw [hao] at hao'
    cases hao'
    rw [hx]
    exact hc
  have HQH : Hid (x ∉ q.dr) := by rw [hx]; exact hne
  clear hx hne
  obtain ⟨b2, hsl0, hnews⟩ := cutF q.wt a1 c1 1 (by omega)
  have hsl : ∀ W : World, (Instr.slice 22 (.slice a1 q.wt.length c1) (some (.int .i64 1)) none none).run Try.prog W = .ok (.slice b2 (q.wt.drop 1).length (c1 - 1)) W := hsl0
  have HNEWS : Hid (type_of% hnews) := hnews
  obtain ⟨L1, hL1⟩ : ∃ L, L = q.wt.drop 1 := ⟨_, rfl⟩
  have hL1l : L1.length ≤ 1000 := by rw [hL1]; simp; omega
  rw [← hL1] at hsl HNEWS HQ
  clear hsl0 hnews hL1 r1
  have d0 : (q.next == 100) = false := by simpa using h1
  have x2 := HO.out.x.c2
  have fx2 := HO.out.x.f2
  clear h hl h1 h2
  go_enter Try.func50, Try.ntmps50
  go_upto_region 1 with fail
  rw [← hW0]
  clear hW0
  obtain ⟨V0, hV0⟩ : ∃ W, W = W0.setCell ⟨w.heap.size, 2, none⟩ (.int .i64 (q.next + 1)) := ⟨_, rfl⟩
  have HN9 : Hid (type_of% (HO.out.next (q.next + 1))) := HO.out.next (q.next + 1)
  rw [← hV0] at HN9
  go_upto_region 5 with fail
  rw [← hV0]
  clear hV0 x2 fx2
  have HO : Hid (type_of% HN9.out) := HN9.out
  clear HN9
  have hlow : w.heap.size < V0.heap.size := by have := HO.out.s; omega
  have x0 := HO.out.x.c0
  have fx0 := HO.out.x.f0
  have x1 := HO.out.x.c1
  have fx1 := HO.out.x.f1
  have x3 := HO.out.x.c3
  have fx3 := HO.out.x.f3
  have HZA := HO.out.q.at.a
  have hcell : ∃ g o, a1 = some ⟨g, o, none⟩ ∧ V0.cell? ⟨g, o + 0, none⟩ = some (.int .i64 x) := by
    obtain ⟨g, o, h1, h2⟩ := HCELL.out
    exact ⟨g, o, h1, h2 V0 HZA⟩
  obtain ⟨g, o, hao, hcc⟩ := hcell
  have HNW : Hid (∀ o, ∀ j u, (zints L1)[j]? = some u → ∃ ad, b2 = some ad ∧ (V0.alloc o).cell? (ad.add j) = some u) := fun o => HNEWS.out _ _ (HO.out.q.at.a.below ((Below.refl _ V0).alloc (Nat.le_refl _) o))
  subst hao
  have hcc : V0.cell? ⟨g, o, none⟩ = some (.int .i64 x) := by simpa using hcc
  have HO9 : Hid (type_of% HO.out) := HO.out
  clear HCELL HNEWS HZA
  go_upto_region 13 with fail
  go_wp2_with (at_builtin; refine append_newQ V0 rfl _ _ rfl rfl rfl b2 L1.length (c1 - 1) L1 rfl rfl (HNW.out _) (by omega) ?_)
  intro ar1 cap1 w1 hr1 hb1 hcm1
  have HR1 : Hid (ZRow w1 V0.heap.size (.slice ar1 L1.length cap1) L1) := hr1
  have HB1 : Hid (Below V0.heap.size V0 w1) := hb1
  have hs1 : V0.heap.size ≤ w1.heap.size := hb1.size
  unfold maxLen at hcm1
  clear hr1 hb1
  have HO1 : Hid (w1.ownsRow V0.heap.size 3 1 (.slice ar1 L1.length cap1) L1.length (zints L1)) := HR1.out
  have y3 := (HO9.out.x.below HB1.out).c3
  have fy3 := (HO9.out.x.below HB1.out).f3
  have hlow1 : w.heap.size < w1.heap.size := by omega
  have S1a : ∀ o', (w1.alloc o').cell? ⟨w.heap.size, 3, none⟩ = some (.slice (some ⟨g, o, none⟩) q.wt.length c1) := fun o' => (((Below.refl w1.heap.size w1).alloc (Nat.le_refl _) o').cell (p := ⟨w.heap.size, 3, none⟩) hlow1).trans y3
  have f1a : ∀ o', (w1.alloc o').frozen? ⟨w.heap.size, 3, none⟩ = false := fun o' => (((Below.refl w1.heap.size w1).alloc (Nat.le_refl _) o').frozen (p := ⟨w.heap.size, 3, none⟩) hlow1).trans fy3
  have hne0 : some w.heap.size ≠ (Value.slice ar1 L1.length cap1).ownBlock := fun e => by have := (World.ownsRow.lt HR1.out _ e.symm).1; omega
  go_upto_region 17 with (at_builtin; refine wpList_append_lies _ rfl _ _ 22 rfl V0.heap.size 3 i0 (.int .i64 0) 1 8 Try.underlying22 hi hz0 hz1 hz2 rfl (by decide) _ L1.length _ rfl (World.ownsRow.alloc HO1.out _) ⟨w1.heap.size, 0, none⟩ 1 1 [.int .i64 q.next] rfl rfl (World.news_of_block (heap_alloc_new w1 _)) (one1Q q.next) (by omega) (by unfold maxLen; omega) (by omega) (by simp; omega) (w1.heap.size + 1) (by simp) ?_; intro g9 cap9 w9 hown9 hgrow9 hat9 hlt9; have c9 : w9.cell? ⟨w.heap.size, 3, none⟩ = some (.slice (some ⟨g, o, none⟩) q.wt.length c1) := (hgrow9.cell_far ⟨w.heap.size, 3, none⟩ (by simp; omega) hne0).trans (S1a _); have z9 : w9.frozen? ⟨w.heap.size, 3, none⟩ = false := (World.frozen?_of_block (hgrow9.block w.heap.size (by simp; omega) hne0)).trans (f1a _); have hb9 : Below V0.heap.size V0 w9 := HB1.out.trans (grown_belowQ HO1.out hgrow9 hs1); have HN9 : Hid (type_of% (HO9.out.newA hb9 (ZRow.snocQ hown9))) := HO9.out.newA hb9 (ZRow.snocQ hown9); clear hown9 hgrow9 hat9 hlt9 hb9)
  obtain ⟨V1, hV1⟩ : ∃ W, W = w9.setCell ⟨w.heap.size, 3, none⟩ (.slice (some ⟨g9, 0, none⟩) (L1.length + 1) cap9) := ⟨_, rfl⟩
  have HO : Hid (type_of% HN9.out) := HN9.out
  rw [← hV1] at HO
  rw [← hV1]
  clear hV1 HN9 HO9 c9 z9 S1a f1a x0 fx0 x1 fx1 x3 fx3 y3 fy3 HO1 HR1 HB1 HNW
  have hZ3 : ZAt V1 V1.heap.size (.slice a3 q.dr.length c3) q.dr := HO.out.q.at.c
  have CP := l10PutZ x q.dr _ V1 hZ3 (by omega) HQH.out
  clear hZ3
  have x5 := HO.out.x.c5
  have fx5 := HO.out.x.f5
  go_wp2_with fail
  go_at_call 69
  refine CP.mono ?_
  rintro e w2 ⟨⟨r2, rfl, hr2⟩, hb2⟩
  obtain ⟨ar2, cap2, rfl⟩ := ZRow.slice hr2
  have y5 := (HO.out.x.below hb2).c5
  have fy5 := (HO.out.x.below hb2).f5
  obtain ⟨V2, hV2⟩ : ∃ W, W = w2.setCell ⟨w.heap.size, 5, none⟩ (.slice ar2 (putZ x q.dr).length cap2) := ⟨_, rfl⟩
  have HN9 : Hid (type_of% (HO.out.newC hb2 hr2)) := HO.out.newC hb2 hr2
  rw [← hV2] at HN9
  clear hr2 hb2 CP
  go_upto_region 18 with fail
  rw [← hV2]
  clear hV2 y5 fy5
  have HO : Hid (type_of% HN9.out) := HN9.out
  clear HN9 x5 fx5
  have x0 := HO.out.x.c0
  have x1 := HO.out.x.c1
  have x2 := HO.out.x.c2
  have x3 := HO.out.x.c3
  have x4 := HO.out.x.c4
  have x5 := HO.out.x.c5
  have y0 := HO.out.v.c0
  have z0 := HO.out.v.f0
  have y1 := HO.out.v.c1
  have z1 := HO.out.v.f1
  have y2 := HO.out.v.c2
  have z2 := HO.out.v.f2
  have y3 := HO.out.v.c3
  have z3 := HO.out.v.f3
  have y4 := HO.out.v.c4
  have z4 := HO.out.v.f4
  have y5 := HO.out.v.c5
  have z5 := HO.out.v.f5
  go_wp2_with fail
  (try simp only [Exit.inBlock, Exit.then])
  refine bodyPost_ret (v := .tuple #[.agg #[.int .i64 q.cap, .int .i64 q.rule, .int .i64 (q.next + 1), .slice (some ⟨g9, 0, none⟩) (L1.length + 1) cap9, .slice a2 q.hd.length c2, .slice ar2 (putZ x q.dr).length cap2], .int .i64 x, .bool true]) ?_ rfl ?_
  · rw [rc]
    go_simp
  · rw [HQ.out]
    have hln : (L1 ++ [q.next]).length = L1.length + 1 := by simp
    refine ⟨some ⟨g9, 0, none⟩, cap9, a2, c2, ar2, cap2, by rw [hln], by rw [hln]; exact HO.out.set6, Below.set6Q HO.out.b (Nat.le_trans HO.out.hB (Nat.le_succ _))⟩

set_option maxRecDepth 100000 in
set_option maxHeartbeats 8000000 in
theorem l16Offer_new (q : Qu) (B : Nat) (v1 v2 v3 : Value) (w : World) (h : QuRow w B q v1 v2 v3) (hB : B ≤ w.heap.size) (hl : SmlQ q 1000) (h0 : 0 ≤ q.next ∧ q.next ≤ 1000) (h1 : q.next ≠ 100) (h2 : ¬ (q.wt.length : Int) < q.cap) (hcap : 1 ≤ q.cap) (r1 : q.rule = 2) (hne : q.wt.getD (q.wt.length - 1) 0 ∉ q.dr) :
    Calls Try.prog 50 #[q.val v1 v2 v3] w fun e w' => QuOutB w w' B (ofL q).1 (fun v => e = .returned (.tuple #[v, .int .i64 (ofL q).2.1, .bool (ofL q).2.2])) := by
  have rc := fun (tmps : Array Value) (P : Program) (w : World) => results_cell_tmp2Q (fn := Try.f50) (p := 2) (u := 3) (v := 4) (ty := 24) rfl tmps P w
  have HO0 := Ow.start h hB
  obtain ⟨a1, c1, a2, c2, a3, c3, rfl, rfl, rfl⟩ := h.form
  obtain ⟨k1, k2⟩ := zat_caps h.at.a
  have l1 := hl.a
  have l2 := hl.b
  have l3 := hl.c
  unfold Qu.val
  obtain ⟨W0, hW0⟩ : ∃ W, W = (w.alloc (.cells #[.int .i64 q.cap, .int .i64 q.rule, .int .i64 q.next, .slice a1 q.wt.length c1, .slice a2 q.hd.length c2, .slice a3 q.dr.length c3] 24)).alloc (.cells #[.int .i64 0, .int .i64 0, .int .i64 0, .slice none 0 0, .slice none 0 0, .slice none 0 0] 24) := ⟨_, rfl⟩
  rw [← hW0] at HO0
  have HO : Hid (type_of% HO0) := HO0
  clear HO0
  obtain ⟨i0, hi, hz0, hz1, hz2⟩ := info_parts infoIntR
  obtain ⟨x, hx⟩ : ∃ x, x = q.wt.getD (q.wt.length - 1) 0 := ⟨_, rfl⟩
  have HQ : Hid (ofL q = (⟨q.cap, q.rule, q.next + 1, q.wt.take (q.wt.length - 1) ++ [q.next], q.hd, putZ x q.dr⟩, x, true)) := by show _ = _; unfold ofL; rw [if_neg h1, if_neg h2, if_neg (by omega), if_pos r1, ← hx]
  have hn0 := h0.1
  have hn1 := h0.2
  have d2 : decide ((q.wt.length : Int) < q.cap) = false := by simpa using h2
  have e1 : (q.rule == 1) = false := by simp; omega
  have e2 : (q.rule == 2) = true := by simp; omega
  have hposI : (0 : Int) < (q.wt.length : Int) := by omega
  have HCELL : Hid (∃ g o, a1 = some ⟨g, o, none⟩ ∧ ∀ W, ZAt W W.heap.size (.slice a1 q.wt.length c1) q.wt → W.cell? ⟨g, o + (q.wt.length - 1), none⟩ = some (.int .i64 x)) := by
    obtain ⟨g, o, hao, _, _⟩ := head_cell HO.out.q.at.a (i := (q.wt.length - 1)) (by omega)
    refine ⟨g, o, hao, fun W hz => ?_⟩
    obtain ⟨g', o', hao', _, hc⟩ := head_cell hz (i := (q.wt.length - 1)) (by omega)
    rw [hao] at hao'
    cases hao'
    rw [hx]
    exact hc
  have HQH : Hid (x ∉ q.dr) := by rw [hx]; exact hne
  clear hx hne
  obtain ⟨hsl0, hnews⟩ := cutU q.wt a1 c1 (q.wt.length - 1) (by omega) k1
  have hsl : ∀ W : World, (Instr.slice 22 (.slice a1 q.wt.length c1) none (some (.int .i64 ((q.wt.length : Int) - 1))) none).run Try.prog W = .ok (.slice a1 (q.wt.take (q.wt.length - 1)).length c1) W := fun W => by
    rw [show ((q.wt.length : Int) - 1) = ((q.wt.length - 1 : Nat) : Int) by omega]
    exact hsl0 W
  have HNEWS : Hid (type_of% hnews) := hnews
  obtain ⟨L1, hL1⟩ : ∃ L, L = q.wt.take (q.wt.length - 1) := ⟨_, rfl⟩
  have hL1l : L1.length ≤ 1000 := by rw [hL1]; simp; omega
  rw [← hL1] at hsl HNEWS HQ
  clear hsl0 hnews hL1 r1
  have d0 : (q.next == 100) = false := by simpa using h1
  have x2 := HO.out.x.c2
  have fx2 := HO.out.x.f2
  clear h hl h1 h2
  go_enter Try.func50, Try.ntmps50
  go_upto_region 1 with fail
  rw [← hW0]
  clear hW0
  obtain ⟨V0, hV0⟩ : ∃ W, W = W0.setCell ⟨w.heap.size, 2, none⟩ (.int .i64 (q.next + 1)) := ⟨_, rfl⟩
  have HN9 : Hid (type_of% (HO.out.next (q.next + 1))) := HO.out.next (q.next + 1)
  rw [← hV0] at HN9
  go_upto_region 5 with fail
  rw [← hV0]
  clear hV0 x2 fx2
  have HO : Hid (type_of% HN9.out) := HN9.out
  clear HN9
  have hlow : w.heap.size < V0.heap.size := by have := HO.out.s; omega
  have x0 := HO.out.x.c0
  have fx0 := HO.out.x.f0
  have x1 := HO.out.x.c1
  have fx1 := HO.out.x.f1
  have x3 := HO.out.x.c3
  have fx3 := HO.out.x.f3
  have HZA := HO.out.q.at.a
  have hcell : ∃ g o, a1 = some ⟨g, o, none⟩ ∧ V0.cell? ⟨g, o + (q.wt.length - 1), none⟩ = some (.int .i64 x) := by
    obtain ⟨g, o, h1, h2⟩ := HCELL.out
    exact ⟨g, o, h1, h2 V0 HZA⟩
  obtain ⟨g, o, hao, hcc⟩ := hcell
  have HNW : Hid (∀ o, ∀ j u, (zints L1)[j]? = some u → ∃ ad, a1 = some ad ∧ (V0.alloc o).cell? (ad.add j) = some u) := fun o => HNEWS.out _ _ (HO.out.q.at.a.below ((Below.refl _ V0).alloc (Nat.le_refl _) o))
  subst hao
  have hidx : o + ((q.wt.length : Int) - 1).toNat = o + (q.wt.length - 1) := by omega
  have HO9 : Hid (type_of% HO.out) := HO.out
  clear HCELL HNEWS HZA
  go_upto_region 16 with fail
  go_wp2_with (at_builtin; refine append_newQ V0 rfl _ _ rfl rfl rfl (some ⟨g, o, none⟩) L1.length c1 L1 rfl rfl (HNW.out _) (by omega) ?_)
  intro ar1 cap1 w1 hr1 hb1 hcm1
  have HR1 : Hid (ZRow w1 V0.heap.size (.slice ar1 L1.length cap1) L1) := hr1
  have HB1 : Hid (Below V0.heap.size V0 w1) := hb1
  have hs1 : V0.heap.size ≤ w1.heap.size := hb1.size
  unfold maxLen at hcm1
  clear hr1 hb1
  have HO1 : Hid (w1.ownsRow V0.heap.size 3 1 (.slice ar1 L1.length cap1) L1.length (zints L1)) := HR1.out
  have y3 := (HO9.out.x.below HB1.out).c3
  have fy3 := (HO9.out.x.below HB1.out).f3
  have hlow1 : w.heap.size < w1.heap.size := by omega
  have S1a : ∀ o', (w1.alloc o').cell? ⟨w.heap.size, 3, none⟩ = some (.slice (some ⟨g, o, none⟩) q.wt.length c1) := fun o' => (((Below.refl w1.heap.size w1).alloc (Nat.le_refl _) o').cell (p := ⟨w.heap.size, 3, none⟩) hlow1).trans y3
  have f1a : ∀ o', (w1.alloc o').frozen? ⟨w.heap.size, 3, none⟩ = false := fun o' => (((Below.refl w1.heap.size w1).alloc (Nat.le_refl _) o').frozen (p := ⟨w.heap.size, 3, none⟩) hlow1).trans fy3
  have hne0 : some w.heap.size ≠ (Value.slice ar1 L1.length cap1).ownBlock := fun e => by have := (World.ownsRow.lt HR1.out _ e.symm).1; omega
  go_upto_region 17 with (at_builtin; refine wpList_append_lies _ rfl _ _ 22 rfl V0.heap.size 3 i0 (.int .i64 0) 1 8 Try.underlying22 hi hz0 hz1 hz2 rfl (by decide) _ L1.length _ rfl (World.ownsRow.alloc HO1.out _) ⟨w1.heap.size, 0, none⟩ 1 1 [.int .i64 q.next] rfl rfl (World.news_of_block (heap_alloc_new w1 _)) (one1Q q.next) (by omega) (by unfold maxLen; omega) (by omega) (by simp; omega) (w1.heap.size + 1) (by simp) ?_; intro g9 cap9 w9 hown9 hgrow9 hat9 hlt9; have c9 : w9.cell? ⟨w.heap.size, 3, none⟩ = some (.slice (some ⟨g, o, none⟩) q.wt.length c1) := (hgrow9.cell_far ⟨w.heap.size, 3, none⟩ (by simp; omega) hne0).trans (S1a _); have z9 : w9.frozen? ⟨w.heap.size, 3, none⟩ = false := (World.frozen?_of_block (hgrow9.block w.heap.size (by simp; omega) hne0)).trans (f1a _); have hb9 : Below V0.heap.size V0 w9 := HB1.out.trans (grown_belowQ HO1.out hgrow9 hs1); have HN9 : Hid (type_of% (HO9.out.newA hb9 (ZRow.snocQ hown9))) := HO9.out.newA hb9 (ZRow.snocQ hown9); clear hown9 hgrow9 hat9 hlt9 hb9)
  obtain ⟨V1, hV1⟩ : ∃ W, W = w9.setCell ⟨w.heap.size, 3, none⟩ (.slice (some ⟨g9, 0, none⟩) (L1.length + 1) cap9) := ⟨_, rfl⟩
  have HO : Hid (type_of% HN9.out) := HN9.out
  rw [← hV1] at HO
  rw [← hV1]
  clear hV1 HN9 HO9 c9 z9 S1a f1a x0 fx0 x1 fx1 x3 fx3 y3 fy3 HO1 HR1 HB1 HNW
  have hZ3 : ZAt V1 V1.heap.size (.slice a3 q.dr.length c3) q.dr := HO.out.q.at.c
  have CP := l10PutZ x q.dr _ V1 hZ3 (by omega) HQH.out
  clear hZ3
  have x5 := HO.out.x.c5
  have fx5 := HO.out.x.f5
  go_wp2_with fail
  go_at_call 69
  refine CP.mono ?_
  rintro e w2 ⟨⟨r2, rfl, hr2⟩, hb2⟩
  obtain ⟨ar2, cap2, rfl⟩ := ZRow.slice hr2
  have y5 := (HO.out.x.below hb2).c5
  have fy5 := (HO.out.x.below hb2).f5
  obtain ⟨V2, hV2⟩ : ∃ W, W = w2.setCell ⟨w.heap.size, 5, none⟩ (.slice ar2 (putZ x q.dr).length cap2) := ⟨_, rfl⟩
  have HN9 : Hid (type_of% (HO.out.newC hb2 hr2)) := HO.out.newC hb2 hr2
  rw [← hV2] at HN9
  clear hr2 hb2 CP
  go_upto_region 18 with fail
  rw [← hV2]
  clear hV2 y5 fy5
  have HO : Hid (type_of% HN9.out) := HN9.out
  clear HN9 x5 fx5
  have x0 := HO.out.x.c0
  have x1 := HO.out.x.c1
  have x2 := HO.out.x.c2
  have x3 := HO.out.x.c3
  have x4 := HO.out.x.c4
  have x5 := HO.out.x.c5
  have y0 := HO.out.v.c0
  have z0 := HO.out.v.f0
  have y1 := HO.out.v.c1
  have z1 := HO.out.v.f1
  have y2 := HO.out.v.c2
  have z2 := HO.out.v.f2
  have y3 := HO.out.v.c3
  have z3 := HO.out.v.f3
  have y4 := HO.out.v.c4
  have z4 := HO.out.v.f4
  have y5 := HO.out.v.c5
  have z5 := HO.out.v.f5
  go_wp2_with fail
  (try simp only [Exit.inBlock, Exit.then])
  refine bodyPost_ret (v := .tuple #[.agg #[.int .i64 q.cap, .int .i64 q.rule, .int .i64 (q.next + 1), .slice (some ⟨g9, 0, none⟩) (L1.length + 1) cap9, .slice a2 q.hd.length c2, .slice ar2 (putZ x q.dr).length cap2], .int .i64 x, .bool true]) ?_ rfl ?_
  · rw [rc]
    go_simp
  · rw [HQ.out]
    have hln : (L1 ++ [q.next]).length = L1.length + 1 := by simp
    refine ⟨some ⟨g9, 0, none⟩, cap9, a2, c2, ar2, cap2, by rw [hln], by rw [hln]; exact HO.out.set6, Below.set6Q HO.out.b (Nat.le_trans HO.out.hB (Nat.le_succ _))⟩

end Go.Proofs.Ytfkhbbmnjndmcaa
