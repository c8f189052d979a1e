/- The program's text of a type, kind by kind. -/
import Derived.Test.YtneaikkbpmeebaaDoorSxH
import Derived.Test.YtneaikkbpmeebaaDoorSxE
namespace Go.Proofs.YtneaikkbpmeebaaDoor
open Go.RowKit Plain Sch

theorem blk_far {w : World} {B n p : Nat} {v : Value} {xs : List Value} {c : Array Value} {tt : TypeId} (htt : tt ≠ 5) (h : w.ownsRow B 5 1 v n xs) (hp : w.heap[p]? = some (.cells c tt)) : some p ≠ v.ownBlock := by
  intro e
  rcases h.2 with ⟨rfl, _⟩ | ⟨g, cap, cur, rfl, _, hg, _⟩
  · simp [Value.ownBlock] at e
  · simp [Value.ownBlock] at e
    subst e
    rw [hp] at hg
    simp at hg
    exact htt hg.2

set_option maxRecDepth 100000 in
set_option maxHeartbeats 4000000 in
theorem shape_txt (l : List UInt8) (sv : Value) (B : Nat) (w : World) (hown : BRow w B sv l) (hBw : B ≤ w.heap.size) (hl : l.length ≤ 5000) :
    Calls Tryd.prog 15 #[sv, .iface 63 (.agg #[])] w fun e w' => ∃ v', e = .returned v' ∧ BRow w' B v' (l ++ [116, 101, 120, 116]) ∧ Below B w w' := by
  obtain ⟨i0, hi, hz0, hz1, hz2⟩ := info_parts Tryd.infoU8
  obtain ⟨ao, cap, rfl⟩ := hown.form
  have HO : Hid (BRow w B (.slice ao l.length cap) l) := hown
  have t1 := taTxtNum
  have t2 := taTxtTxt
  clear hown
  go_enter Tryd.func15, Tryd.ntmps15
  go_wp2_with (at_builtin; refine Lib.wpList_append_own_string _ rfl _ _ 42 9 rfl B 5 i0 Tryd.underlying42 Tryd.underlying9 hi hz0 hz1 hz2 _ _ _ rfl (World.ownsRow.alloc HO.out _) ⟨#[116, 101, 120, 116]⟩ rfl ?c1 ?c2 ?c3 ?_)
  case c1 => show l.length + 4 ≤ _; unfold maxLen; omega
  case c2 => show l.length + 4 ≤ _; omega
  case c3 => simp; omega
  intro v' w2 hown' hgrow _
  have hB2 : Below B w w2 := ((Below.refl _ w).alloc hBw _).grown hgrow (by simp; omega) (fun k hk => (World.ownsRow.lt HO.out k hk).1)
  have hrow : Hid (BRow w2 B v' (l ++ [116, 101, 120, 116])) := BRow.str hown'
  clear hown' hgrow
  go_wp2
  go_ret
  exact ⟨_, rfl, hrow.out, hB2⟩

set_option maxRecDepth 100000 in
set_option maxHeartbeats 4000000 in
theorem shape_enu (m : Nat) (hm : m ≤ 20) (l : List UInt8) (sv : Value) (B : Nat) (w : World) (hown : BRow w B sv l) (hBw : B ≤ w.heap.size) (hl : l.length ≤ 5000) :
    Calls Tryd.prog 15 #[sv, .iface 65 (.agg #[.int .i64 (m : Int)])] w fun e w' => ∃ v', e = .returned v' ∧ BRow w' B v' (l ++ ([101, 110, 117, 109, 40] ++ dec m ++ [41])) ∧ Below B w w' := by
  obtain ⟨i0, hi, hz0, hz1, hz2⟩ := info_parts Tryd.infoU8
  obtain ⟨ao, cap, rfl⟩ := hown.form
  have t1 := taEnuNum
  have t2 := taEnuTxt
  have t3 := taEnuEnu
  have hdl := dec_len m
  have HD : Hid (∀ (W : World) (v : Value) (l9 : List UInt8), BRow W B v l9 → B ≤ W.heap.size → l9.length ≤ 1000000 → Calls Tryd.prog 27 #[v, .int .i64 (m : Int), .int .i64 10] W fun e w' => ∃ v', e = .returned v' ∧ BRow w' B v' (l9 ++ dec m) ∧ Below B W w' ∧ W.grownBy w' v.ownBlock) := fun W v l9 h1 h2 h3 => strconvInt_dec m (by omega) B l9 v W h1 h2 h3
  obtain ⟨W1, hW1⟩ : ∃ W, W = w.alloc (.cells #[.int .i64 (m : Int)] 65) := ⟨_, rfl⟩
  have hBW1 : Below B w W1 := by rw [hW1]; exact (Below.refl _ w).alloc hBw _
  have hsW1 : B ≤ W1.heap.size := by have := hBW1.size; omega
  obtain ⟨pb, hpb⟩ : ∃ p, Hid (p = w.heap.size) := ⟨_, rfl⟩
  have hpW1 : Hid (W1.heap[pb]? = some (.cells #[.int .i64 (m : Int)] 65)) := by rw [hpb.out, hW1]; exact heap_alloc_new w _
  have rowW1 : Hid (BRow W1 B (.slice ao l.length cap) l) := by rw [hW1]; exact World.ownsRow.alloc hown _
  generalize dec m = dn at HD hdl ⊢
  clear hown
  go_enter Tryd.func15, Tryd.ntmps15
  go_upto_region 10 with fail
  rw [← hW1, ← hpb.out]
  clear hW1
  go_wp2_with (at_builtin; refine Lib.wpList_append_own_string _ rfl _ _ 42 9 rfl B 5 i0 Tryd.underlying42 Tryd.underlying9 hi hz0 hz1 hz2 _ _ _ rfl rowW1.out ⟨#[101, 110, 117, 109, 40]⟩ rfl ?c1 ?c2 hsW1 ?_)
  case c1 => show l.length + 5 ≤ _; unfold maxLen; omega
  case c2 => show l.length + 5 ≤ _; omega
  intro v2 w2 hown2 hgrow2 _
  have hBw2 : Below B w w2 := hBW1.grown hgrow2 hsW1 (fun k hk => (World.ownsRow.lt rowW1.out k hk).1)
  have hsw2 : B ≤ w2.heap.size := by have := hgrow2.size; omega
  have p0 : w2.cell? ⟨pb, 0, none⟩ = some (.int .i64 (m : Int)) := by
    have h9 := hgrow2.block pb (lt_of_get hpW1.out) (blk_far (by decide) rowW1.out hpW1.out)
    rw [hpW1.out] at h9
    simp [World.cell?, h9]
  obtain ⟨L2, hL2⟩ : ∃ L9 : List UInt8, Hid (L9 = l ++ [101, 110, 117, 109, 40]) := ⟨l ++ [101, 110, 117, 109, 40], by show _ = _; rfl⟩
  have hbL2 : L2.length ≤ 5010 := by rw [hL2.out, List.length_append]; simp; omega
  have rowv2 : Hid (BRow w2 B v2 L2) := by rw [hL2.out]; exact BRow.str hown2
  clear hown2 hgrow2
  go_wp2_with fail
  refine (HD.out _ _ _ rowv2.out hsw2 (by omega)).mono ?_
  rintro e w3 ⟨v3, rfl, hr3, hbb3, hgrow3⟩
  have hBw3 : Below B w w3 := hBw2.trans hbb3
  have hsw3 : B ≤ w3.heap.size := by have := hgrow3.size; omega
  obtain ⟨L3, hL3⟩ : ∃ L9 : List UInt8, Hid (L9 = L2 ++ dn) := ⟨L2 ++ dn, by show _ = _; rfl⟩
  have hbL3 : L3.length ≤ 5020 := by rw [hL3.out, List.length_append]; omega
  have rowv3 : Hid (BRow w3 B v3 L3) := by rw [hL3.out]; exact hr3
  clear hr3 hbb3 hgrow3 p0
  go_wp2_with (at_builtin; refine wpList_append_own _ rfl _ _ 42 rfl B 5 i0 (.int .u8 0) 1 1 Tryd.underlying42 hi hz0 hz1 hz2 rfl (by decide) _ _ _ rfl (World.ownsRow.alloc rowv3.out _) ⟨w3.heap.size, 0, none⟩ 1 1 [Value.int .u8 41] rfl rfl (fun j u hj => by match j, hj with | 0, hj => simp at hj; subst hj; simp [Addr.add] | j + 1, hj => simp at hj) oneU8S (by unfold maxLen; omega) (by omega) (by simp; omega) ?_)
  intro v4 w4 hown4 hgrow4 _
  have hBw4 : Below B w w4 := (hBw3.alloc hsw3 _).grown hgrow4 (by simp; omega) (fun k hk => (World.ownsRow.lt rowv3.out k hk).1)
  have rowv4 : Hid (BRow w4 B v4 (L3 ++ [41])) := BRow.one 41 hown4
  clear hown4 hgrow4
  go_wp2
  go_ret
  refine ⟨_, rfl, ?_, hBw4⟩
  have h9 := rowv4.out
  rw [hL3.out, hL2.out] at h9
  simpa using h9

set_option maxRecDepth 100000 in
set_option maxHeartbeats 8000000 in
theorem shape_lst (d : Nat) (ih0 : ShapeC d) (x : Tr) (u : TypeId × Value) (l : List UInt8) (sv : Value) (B : Nat) (w : World) (S : Nat → Prop) (hsh : ShIn d w S (.iface u.1 u.2) x) (hS : ∀ g, S g → g < B) (hG : GT x) (hN : NmT x) (hown : BRow w B sv l) (hBw : B ≤ w.heap.size) (hl : l.length + 1 + 25 * x.size ≤ 5000) :
    Calls Tryd.prog 15 #[sv, .iface 68 (.agg #[.iface u.1 u.2])] w fun e w' => ∃ v', e = .returned v' ∧ BRow w' B v' (l ++ ([91] ++ sx x ++ [93])) ∧ Below B w w' := by
  obtain ⟨i0, hi, hz0, hz1, hz2⟩ := info_parts Tryd.infoU8
  obtain ⟨ao, cap, rfl⟩ := hown.form
  have t1 := taLstNum
  have t2 := taLstTxt
  have t3 := taLstEnu
  have t4 := taLstLst
  have hxl := sx_len x hN
  have HC : Hid (∀ (W : World) (v : Value) (l9 : List UInt8), Below B w W → BRow W B v l9 → B ≤ W.heap.size → l9.length + 25 * x.size ≤ 5016 → Calls Tryd.prog 15 #[v, .iface u.1 u.2] W fun e w' => ∃ v', e = .returned v' ∧ BRow w' B v' (l9 ++ sx x) ∧ Below B W w') := fun W v l9 h1 h2 h3 h4 =>
    ih0 x u l9 v B W S (hsh.kept (fun g hg => h1.block g (hS g hg)) (fun g hg => hg)) hS hG hN h2 h3 h4
  clear hsh ih0 hS hG hN
  obtain ⟨ut, uv⟩ := u
  dsimp only at HC ⊢
  generalize x.size = xz at HC hl hxl
  generalize sx x = xx at HC hxl ⊢
  obtain ⟨W1, hW1⟩ : ∃ W, W = w.alloc (.cells #[.iface ut uv] 68) := ⟨_, rfl⟩
  have hBW1 : Below B w W1 := by rw [hW1]; exact (Below.refl _ w).alloc hBw _
  have hsW1 : B ≤ W1.heap.size := by have := hBW1.size; omega
  obtain ⟨pb, hpb⟩ : ∃ p, Hid (p = w.heap.size) := ⟨_, rfl⟩
  have hpW1 : Hid (W1.heap[pb]? = some (.cells #[.iface ut uv] 68)) := by rw [hpb.out, hW1]; exact heap_alloc_new w _
  have hown1 : W1.ownsRow B 5 1 (.slice ao l.length cap) l.length (Lib.byteCells l) := by rw [hW1]; exact World.ownsRow.alloc hown _
  have HLT : Hid (∀ k, (Value.slice ao l.length cap).ownBlock = some k → B ≤ k ∧ k < W1.heap.size) := World.ownsRow.lt hown1
  have hfar : Hid (some pb ≠ (Value.slice ao l.length cap).ownBlock) := blk_far (by decide) hown1 hpW1.out
  have hplt : pb < W1.heap.size := lt_of_get hpW1.out
  have p0 : W1.cell? ⟨pb, 0, none⟩ = some (.iface ut uv) := by simp [World.cell?, hpW1.out]
  clear hown
  go_enter Tryd.func15, Tryd.ntmps15
  go_upto_region 15 with fail
  rw [← hW1, ← hpb.out]
  clear hW1
  go_wp2_with fail
  go_region_law
    (first
      | (go_simp; go_at_call 15; refine (HC.out _ _ _ hB9 hrow9 hs9 hl9).mono ?_; rintro e w10 ⟨v10, rfl, hr10, hb10⟩; have rowv10 : Hid (BRow w10 B v10 (l ++ [91] ++ xx)) := hr10; have hBw10 : Below B w w10 := hB9.trans hb10; have hsw10 : B ≤ w10.heap.size := (by have := hb10.size; omega))
      | (refine step_append_lies _ rfl _ _ _ rfl B 5 i0 (.int .u8 0) 1 1 Tryd.underlying42 hi hz0 hz1 hz2 rfl (by decide) (.slice ao l.length cap) l.length _ rfl (World.ownsRow.alloc (show W1.drew.ownsRow B 5 1 (.slice ao l.length cap) l.length (Lib.byteCells l) from hown1) _) ⟨W1.heap.size, 0, none⟩ 1 1 [Value.int .u8 91] rfl rfl (World.news_of_block (heap_alloc_new W1.drew _)) oneU8S (by omega) (by unfold maxLen; omega) (by omega) (by simp; omega) (W1.heap.size + 1) (by simp) ?_; intro g9 cap9 w9 hown9 hgrow9 hat9 hlt9; have m9 := (hgrow9.cell_far ⟨pb, 0, none⟩ (by simp; omega) hfar.out).trans ((Below.cell ((Below.refl _ W1.drew).alloc (Nat.le_refl _) _) (p := ⟨pb, 0, none⟩) hplt).trans p0); have hB9 : Below B w w9 := ((hBW1.drew.alloc hsW1 _).grown hgrow9 (by simp; omega) (fun k hk => (HLT.out k hk).1)); have hs9 : B ≤ w9.heap.size := (by have := hgrow9.size; simp at this; omega); have hrow9 : BRow w9 B (.slice (some ⟨g9, 0, none⟩) (l.length + 1) cap9) (l ++ [91]) := BRow.one 91 hown9; have hl9 : (l ++ [91]).length + 25 * xz ≤ 5016 := (by rw [List.length_append, List.length_singleton]; omega)))
  all_goals
    obtain ⟨L3, hL3⟩ : ∃ L9 : List UInt8, Hid (L9 = l ++ [91] ++ xx) := ⟨l ++ [91] ++ xx, by show _ = _; rfl⟩
    have hbL3 : L3.length ≤ 6000 := by rw [hL3.out, List.length_append, List.length_append, List.length_singleton]; omega
    rw [← hL3.out] at rowv10
    go_wp2_with (at_builtin; refine wpList_append_own _ rfl _ _ 42 rfl B 5 i0 (.int .u8 0) 1 1 Tryd.underlying42 hi hz0 hz1 hz2 rfl (by decide) _ _ _ rfl (World.ownsRow.alloc rowv10.out _) ⟨w10.heap.size, 0, none⟩ 1 1 [Value.int .u8 93] rfl rfl (fun j u hj => by match j, hj with | 0, hj => simp at hj; subst hj; simp [Addr.add] | j + 1, hj => simp at hj) oneU8S (by unfold maxLen; omega) (by omega) (by simp; omega) ?_)
    intro v4 w4 hown4 hgrow4 _
    have hBw4 : Below B w w4 := (hBw10.alloc hsw10 _).grown hgrow4 (by simp; omega) (fun k hk => (World.ownsRow.lt rowv10.out k hk).1)
    have rowv4 : Hid (BRow w4 B v4 (L3 ++ [93])) := BRow.one 93 hown4
    clear hown4 hgrow4
    go_wp2
    go_ret
    refine ⟨_, rfl, ?_, hBw4⟩
    have h9 := rowv4.out
    rw [hL3.out] at h9
    simpa using h9

set_option maxRecDepth 100000 in
set_option maxHeartbeats 4000000 in
theorem shape_msg (d : Nat) (ih0 : PartsC d) (ks : List Tr) (c : Value) (l : List UInt8) (sv : Value) (B : Nat) (w : World) (S : Nat → Prop) (hP : PartsIn d w S c ks) (hS : ∀ g, S g → g < B) (hk : ∀ x ∈ ks, GT x ∧ NmT x ∧ 1 ≤ x.no ∧ x.no ≤ 30) (hown : BRow w B sv l) (hBw : B ≤ w.heap.size) (hl : l.length + 25 * sizeL ks + 2 ≤ 5000) :
    Calls Tryd.prog 15 #[sv, .iface 71 (.agg #[c])] w fun e w' => ∃ v', e = .returned v' ∧ BRow w' B v' (l ++ ([123] ++ sxL ks ++ [125])) ∧ Below B w w' := by
  obtain ⟨ao, cap, rfl⟩ := hown.form
  have HP : Hid (PartsIn d w S c ks) := hP
  obtain ⟨ac, capc, rfl, _⟩ := hP
  have t1 := taMsgNum
  have t2 := taMsgTxt
  have t3 := taMsgEnu
  have t4 := taMsgLst
  have t5 := taMsgMsg
  obtain ⟨W1, hW1⟩ : ∃ W, W = w.alloc (.cells #[.slice ac ks.length capc] 71) := ⟨_, rfl⟩
  have hBW1 : Below B w W1 := by rw [hW1]; exact (Below.refl _ w).alloc hBw _
  have hsW1 : B ≤ W1.heap.size := by have := hBW1.size; omega
  have p0 : W1.cell? ⟨w.heap.size, 0, none⟩ = some (.slice ac ks.length capc) := by rw [hW1]; go_simp
  have HC : Hid (Calls Tryd.prog 28 #[.slice ao l.length cap, .slice ac ks.length capc] W1 fun e w' => ∃ v', e = .returned v' ∧ BRow w' B v' (l ++ ([123] ++ sxL ks ++ [125])) ∧ Below B W1 w') :=
    ih0 ks _ l _ B W1 S (HP.out.kept (fun g hg => hBW1.block g (hS g hg)) (fun g hg => hg)) hS hk (by rw [hW1]; exact World.ownsRow.alloc hown _) hsW1 hl
  clear hown HP ih0 hS hk hl
  generalize l ++ ([123] ++ sxL ks ++ [125]) = R at HC ⊢
  go_enter Tryd.func15, Tryd.ntmps15
  go_upto_region 19 with fail
  rw [← hW1]
  clear hW1
  go_wp2_with fail
  refine HC.out.mono ?_
  rintro e w2 ⟨v2, rfl, hr2, hb2⟩
  have HR2 : Hid (BRow w2 B v2 R) := hr2
  have hB2 : Below B w w2 := hBW1.trans hb2
  clear hr2 hb2 p0
  go_wp2
  go_ret
  exact ⟨_, rfl, HR2.out, hB2⟩

theorem shape_leaf (t : Tr) (u : TypeId × Value) (l : List UInt8) (sv : Value) (B : Nat) (w : World) (h : Leaf (.iface u.1 u.2) t) (hG : GT t) (hown : BRow w B sv l) (hBw : B ≤ w.heap.size) (hl : l.length ≤ 5000) :
    Calls Tryd.prog 15 #[sv, .iface u.1 u.2] w fun e w' => ∃ v', e = .returned v' ∧ BRow w' B v' (l ++ sx t) ∧ Below B w w' := by
  obtain ⟨_, h | h | h⟩ := h
  · rw [h.2, sx_num t h.1]; exact shape_num l sv B w hown hBw hl
  · rw [h.2, sx_txt t h.1]; exact shape_txt l sv B w hown hBw hl
  · rw [h.2, sx_enu t h.1]
    obtain ⟨m, hm⟩ : ∃ m : Nat, t.most = (m : Int) ∧ m ≤ 20 := by
      have := gt_kind hG
      exact ⟨t.most.toNat, by omega, by omega⟩
    rw [hm.1, Int.toNat_natCast]
    exact shape_enu m hm.2 l sv B w hown hBw hl

theorem shapeC_all : ∀ d, ShapeC d := by
  intro d
  induction d with
  | zero =>
    intro t u l sv B w S h hS hG hN hown hBw hl
    have := Tr.size_pos t
    exact shape_leaf t u l sv B w h hG hown hBw (by omega)
  | succ d ih =>
    intro t u l sv B w S h hS hG hN hown hBw hl
    have hsp := Tr.size_pos t
    have hN2 := ((NmT_iff t).1 hN).2
    rcases h with h | ⟨h4, x, l', u', hk, hv, hx⟩ | ⟨h5, ao, cap, hv, h1, h2, h3⟩
    · exact shape_leaf t u l sv B w h hG hown hBw (by omega)
    · obtain ⟨x', hx', hgx⟩ := gt_list hG h4
      rw [hx'] at hk
      cases hk
      rw [hv, sx_lst t x h4 hx']
      have hsz : t.size = 1 + x.size := by cases t; simp only [Tr.kids] at hx'; subst hx'; simp [Tr.size, sizeL]; omega
      exact shape_lst d ih x u' l sv B w S hx hS hgx (hN2 x (by rw [hx']; simp)) hown hBw (by omega)
    · rw [hv, sx_msg t h5]
      have hsz : t.size = 1 + sizeL t.kids := by rw [Tr.size_eq]; omega
      exact shape_msg d (partsC_of d ih) t.kids _ l sv B w S ⟨ao, cap, rfl, h1, h2, h3⟩ hS (fun x hx => ⟨(gt_part hG h5 hx).1, hN2 x hx, (gt_part hG h5 hx).2⟩) hown hBw (by omega)

end Go.Proofs.YtneaikkbpmeebaaDoor
