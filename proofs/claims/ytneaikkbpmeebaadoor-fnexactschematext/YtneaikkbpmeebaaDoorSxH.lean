/- The program's text of a message's parts. -/
import Derived.Test.YtneaikkbpmeebaaDoorSxF
namespace Go.Proofs.YtneaikkbpmeebaaDoor
open Go.RowKit Plain Sch

theorem lt_of_get {w : World} {p : Nat} {o : Obj} (h : w.heap[p]? = some o) : p < w.heap.size := (Array.getElem?_eq_some_iff.1 h).1

/-- a part's block is not the row's -/
theorem part_far {w : World} {B n p : Nat} {v : Value} {xs : List Value} {c : Array Value} (h : w.ownsRow B 5 1 v n xs) (hp : w.heap[p]? = some (.cells c 80)) : some p ≠ v.ownBlock := by
  intro e
  rcases h.2 with ⟨rfl, _⟩ | ⟨g, cap, cur, rfl, _, hg, _⟩
  · simp [Value.ownBlock] at e
  · simp [Value.ownBlock] at e
    subst e
    rw [hp] at hg
    simp at hg

/-- the cells of a part's block -/
theorem part_cell {w : World} {p : Nat} {nm : ByteArray} {no : Int} {mu : Bool} {a : TypeId} {x : Value} (hp : w.heap[p]? = some (.cells #[.string nm, .int .i64 no, .bool mu, .iface a x] 80)) :
    w.cell? ⟨p, 0, none⟩ = some (.string nm) ∧ w.cell? ⟨p, 1, none⟩ = some (.int .i64 no) ∧ w.cell? ⟨p, 2, none⟩ = some (.bool mu) ∧ w.cell? ⟨p, 3, none⟩ = some (.iface a x) := by
  refine ⟨?_, ?_, ?_, ?_⟩ <;> simp [World.cell?, hp]

theorem sizeL_snoc : ∀ (l : List Tr) (x : Tr), sizeL (l ++ [x]) = sizeL l + x.size
  | [], x => by simp [sizeL]
  | y :: l, x => by rw [List.cons_append, sizeL, sizeL, sizeL_snoc l x]; omega

def PartsC (d : Nat) : Prop := ∀ (ks : List Tr) (c : Value) (l : List UInt8) (sv : Value) (B : Nat) (w : World) (S : Nat → Prop), PartsIn d w S c ks → (∀ g, S g → g < B) → (∀ x ∈ ks, GT x ∧ NmT x ∧ 1 ≤ x.no ∧ x.no ≤ 30) → BRow w B sv l → B ≤ w.heap.size → l.length + 25 * sizeL ks + 2 ≤ 5000 →
  Calls Tryd.prog 28 #[sv, c] w fun e w' => ∃ v', e = .returned v' ∧ BRow w' B v' (l ++ ([123] ++ sxL ks ++ [125])) ∧ Below B w w'

theorem sizeL_takeF : ∀ (l : List Tr) (i : Nat), sizeL (l.take i) ≤ sizeL l
  | [], i => by simp [sizeL]
  | x :: l, 0 => by simp [sizeL]
  | x :: l, i + 1 => by rw [List.take_succ_cons, sizeL, sizeL]; have := sizeL_takeF l i; omega

set_option maxRecDepth 100000 in
set_option maxHeartbeats 8000000 in
theorem partsC_of (d : Nat) (ih0 : ShapeC d) : PartsC d := by
  intro ks c l sv B w S hP hS hk hown hBw hl
  have ih : Hid (ShapeC d) := ih0
  clear ih0
  obtain ⟨i0, hi, hz0, hz1, hz2⟩ := info_parts Tryd.infoU8
  obtain ⟨ao, capp, rfl, hlc, hcm, hrows⟩ := hP
  have HROWS : Hid (∀ i x, ks[i]? = some x → ∃ (g o : Nat) (u : TypeId × Value), ao = some ⟨g, o, none⟩ ∧ S g ∧ PtIn w g (o + i * 4) x (.iface u.1 u.2) ∧ ShIn d w S (.iface u.1 u.2) x) := hrows
  have HS : Hid (∀ g, S g → g < B) := hS
  have HKP : Hid (∀ x ∈ ks, GT x ∧ NmT x ∧ 1 ≤ x.no ∧ x.no ≤ 30) := hk
  have hcm' : capp ≤ 9223372036854775807 := by unfold maxLen at hcm; omega
  have HLEN : Hid (∀ i, (sxL (ks.take i)).length ≤ 25 * sizeL (ks.take i)) := fun i => sxL_len _ ((NmL_iff _).2 (fun x hx => (hk x (List.mem_of_mem_take hx)).2.1))
  obtain ⟨aor, capr, rfl⟩ := hown.form
  have rowsv : Hid (BRow w B (.slice aor l.length capr) l) := hown
  have hBw0 : Below B w w := Below.refl _ _
  have hsw : B ≤ w.heap.size := hBw
  obtain ⟨R, hR⟩ : ∃ R : List UInt8, Hid (R = l ++ ([123] ++ sxL ks ++ [125])) := ⟨l ++ ([123] ++ sxL ks ++ [125]), by show _ = _; rfl⟩
  rw [← hR.out]
  have hlb : l.length ≤ 5000 := by omega
  clear hrows hS hk hown
  go_enter Tryd.func28, Tryd.ntmps28
  go_wp2_with (at_builtin; refine wpList_append_own _ rfl _ _ 42 rfl B 5 i0 (.int .u8 0) 1 1 Tryd.underlying42 hi hz0 hz1 hz2 rfl (by decide) _ _ _ rfl (World.ownsRow.alloc rowsv.out _) ⟨w.heap.size, 0, none⟩ 1 1 [Value.int .u8 123] rfl rfl ?c1x1 ?c2x1 ?c3x1 ?c4x1 ?c5x1 ?_)
  case' c1x1 => (try (intro j u hj; match j, hj with | 0, hj => simp at hj; subst hj; simp [Addr.add] | j + 1, hj => simp at hj))
  case c2x1 => first | rfl | exact oneU8S
  case c3x1 => unfold maxLen; omega
  case c4x1 => omega
  case c5x1 => first | omega | (simp; omega)
  intro vb0 wb0 hown0 hgrow0 _
  have hBwb0 : Below B w wb0 := (hBw0.alloc hsw _).grown hgrow0 (by simp; omega) (fun k hk => (World.ownsRow.lt rowsv.out k hk).1)
  have hswb0 : B ≤ wb0.heap.size := by have := hgrow0.size; simp at this; omega
  obtain ⟨Lb0, hLb0⟩ : ∃ L9 : List UInt8, Hid (L9 = l ++ [123]) := ⟨l ++ [123], by show _ = _; rfl⟩
  have hbLb0 : Lb0.length ≤ 5001 := by rw [hLb0.out, List.length_append, List.length_singleton]; omega
  have rowvb0 : Hid (BRow wb0 B vb0 Lb0) := by rw [hLb0.out]; exact BRow.one 123 hown0
  clear hown0 hgrow0
  obtain ⟨aob, capb, hvb0⟩ := rowvb0.out.form
  subst hvb0
  go_wp2
  go_loopw [0, 12] (fun vb vi wr => ∃ (i : Nat) (L : List UInt8), i ≤ ks.length ∧ vi = .int .i64 (i : Int) ∧ Hid (L = Lb0 ++ sxL (ks.take i)) ∧ Hid (BRow wr B vb L) ∧ Below B w wr ∧ B ≤ wr.heap.size)
    (fun _ vi _ => ks.length - (intOf vi).toNat)
  case atStart => exact ⟨0, Lb0, by omega, rfl, by show _ = _; simp [sxL], rowvb0, hBwb0, hswb0⟩
  case round =>
    obtain ⟨i, L, hil, rfl, hL, rowvr, hBwr, hswr⟩ := hrel
    obtain ⟨aov, capv, hvv⟩ := rowvr.out.form
    subst hvv
    by_cases hlt : i < ks.length
    · have hlt' : (i : Int) < (ks.length : Int) := by omega
      obtain ⟨x, hx⟩ : ∃ x, ks[i]? = some x := ⟨_, List.getElem?_eq_getElem hlt⟩
      obtain ⟨g, o, u, hao, hSg, hpt, hsh⟩ := HROWS.out i x hx
      subst hao
      obtain ⟨hxG, hxN, hn1, hn30⟩ := HKP.out x (List.mem_of_getElem? hx)
      have hgB := HS.out g hSg
      obtain ⟨c0, c1, c2, c3⟩ := hpt.kept (hBwr.block g hgB)
      have hg : g < wr.heap.size := by omega
      obtain ⟨nn, hnn⟩ := Int.eq_ofNat_of_zero_le (show 0 ≤ x.no by omega)
      have hdl := dec_len nn
      have hnx := ((NmT_iff x).1 hxN).1
      have hst := sxL_take ks i x hx
      have hnl := HLEN.out (i + 1)
      have hsz1 := sizeL_takeF ks (i + 1)
      have hLl : L.length = Lb0.length + (sxL (ks.take i)).length := by rw [hL.out, List.length_append]
      have hL0l : Lb0.length = l.length + 1 := by rw [hLb0.out, List.length_append]; rfl
      have hxl9 : (sxL (ks.take i)).length + 25 * x.size ≤ 25 * sizeL ks := by
        have h1 := HLEN.out i
        have h2 : sizeL (ks.take (i + 1)) = sizeL (ks.take i) + x.size := by rw [List.take_add_one, hx, Option.toList_some, sizeL_snoc]
        omega
      have hxp := Tr.size_pos x
      have hLb : L.length + 25 * x.size + 1 ≤ 5000 := by omega
      have HD : Hid (∀ (W : World) (v : Value) (l9 : List UInt8), BRow W B v l9 → B ≤ W.heap.size → l9.length ≤ 1000000 → Calls Tryd.prog 27 #[v, .int .i64 (nn : Int), .int .i64 10] W fun e w' => ∃ v', e = .returned v' ∧ BRow w' B v' (l9 ++ dec nn) ∧ Below B W w' ∧ W.grownBy w' v.ownBlock) := fun W v l9 h1 h2 h3 => strconvInt_dec nn (by omega) B l9 v W h1 h2 h3
      have HC : Hid (∀ (W : World) (v : Value) (l9 : List UInt8), Below B w W → BRow W B v l9 → B ≤ W.heap.size → l9.length + 25 * x.size ≤ 5016 → Calls Tryd.prog 15 #[v, .iface u.1 u.2] W fun e w' => ∃ v', e = .returned v' ∧ BRow w' B v' (l9 ++ sx x) ∧ Below B W w') := fun W v l9 h1 h2 h3 h4 =>
        ih.out x u l9 v B W S (hsh.kept (fun g hg => h1.block g (HS.out g hg)) (fun g hg => hg)) HS.out hxG hxN h2 h3 h4
      have hstep : Hid (Lb0 ++ sxL (ks.take (i + 1)) = L ++ ((if i = 0 then [] else [44]) ++ ((x.name.data.toList ++ ([58] ++ (dec nn ++ ((if x.must then [33] else []) ++ [32])))) ++ sx x))) := by
        show _ = _
        rw [hst, ← List.append_assoc, ← hL.out]
        unfold hdx
        rw [hnn]
        rfl
      rw [hnn] at c1
      generalize sx x = xx at HC hstep
      generalize hdq : dec nn = dn at HD hstep hdl
      clear hdq
      obtain ⟨xn, hxn⟩ : ∃ k, Hid (x.name = k) := ⟨_, rfl⟩
      obtain ⟨xm, hxm⟩ : ∃ k, Hid (x.must = k) := ⟨_, rfl⟩
      obtain ⟨ut, uv⟩ := u
      rw [hxn.out] at c0 hnx
      rw [hxm.out] at c2
      rw [hxn.out, hxm.out] at hstep
      dsimp only at c3 HC
      generalize x.size = xz at HC hLb hxp hxl9
      clear hpt hsh hx hst hL hxG hxN hnl hsz1 hLl hL0l hxl9
      obtain ⟨W2, hW2⟩ : ∃ W, W = wr.alloc (.cells #[.string xn, .int .i64 (nn : Int), .bool xm, .iface ut uv] 80) := ⟨_, rfl⟩
      have hb2 : Below wr.heap.size wr W2 := by rw [hW2]; exact (Below.refl _ wr).alloc (Nat.le_refl _) _
      have hBW2 : Below B w W2 := hBwr.trans (hb2.mono hswr)
      have hsW2 : B ≤ W2.heap.size := by have := hb2.size; omega
      obtain ⟨pb, hpb⟩ : ∃ p, Hid (p = wr.heap.size) := ⟨_, rfl⟩
      have hpW2 : Hid (W2.heap[pb]? = some (.cells #[.string xn, .int .i64 (nn : Int), .bool xm, .iface ut uv] 80)) := by rw [hpb.out, hW2]; exact heap_alloc_new wr _
      have rowW2 : Hid (BRow W2 B (.slice aov L.length capv) L) := by rw [hW2]; exact World.ownsRow.alloc rowvr.out _
      go_upto_region 5 with fail
      rw [← hW2, ← hpb.out]
      clear hW2 c0 c1 c2 c3
      have hLb' : L.length ≤ 5000 := by omega
      by_cases hi0 : i = 0
      · subst hi0
        have hi9 : Hid ((if (0 : Nat) = 0 then ([] : List UInt8) else [44]) = []) := rfl
        go_upto_region 7 with fail
        obtain ⟨p0, p1, p2, p3⟩ := part_cell hpW2.out
        go_wp2_with (at_builtin; refine Lib.wpList_append_own_string _ rfl _ _ 42 9 rfl B 5 i0 Tryd.underlying42 Tryd.underlying9 hi hz0 hz1 hz2 _ _ _ rfl rowW2.out xn rfl ?c1x2 ?c2x2 hsW2 ?_)
        case c1x2 => unfold maxLen; omega
        case c2x2 => omega
        intro vb2 wb2 hown2 hgrow2 _
        clear p0 p1 p2 p3
        have hBwb2 : Below B w wb2 := hBW2.grown hgrow2 hsW2 (fun k hk => (World.ownsRow.lt rowW2.out k hk).1)
        have hswb2 : B ≤ wb2.heap.size := by have := hgrow2.size; omega
        have hpwb2 : Hid (wb2.heap[pb]? = some (.cells #[.string xn, .int .i64 (nn : Int), .bool xm, .iface ut uv] 80)) := by
          show _ = _
          rw [hgrow2.block pb (lt_of_get hpW2.out) (part_far rowW2.out hpW2.out)]
          exact hpW2.out
        obtain ⟨Lb2, hLb2⟩ : ∃ L9 : List UInt8, Hid (L9 = L ++ xn.data.toList) := ⟨L ++ xn.data.toList, by show _ = _; rfl⟩
        have hbLb2 : Lb2.length ≤ L.length + 10 := by rw [hLb2.out, List.length_append]; have : xn.data.toList.length = xn.size := Array.length_toList; omega
        have rowvb2 : Hid (BRow wb2 B vb2 Lb2) := by rw [hLb2.out]; exact BRow.str hown2
        clear hown2 hgrow2
        go_wp2_with (at_builtin; refine wpList_append_own _ rfl _ _ 42 rfl B 5 i0 (.int .u8 0) 1 1 Tryd.underlying42 hi hz0 hz1 hz2 rfl (by decide) _ _ _ rfl (World.ownsRow.alloc rowvb2.out _) ⟨wb2.heap.size, 0, none⟩ 1 1 [Value.int .u8 58] rfl rfl ?c1x3 ?c2x3 ?c3x3 ?c4x3 ?c5x3 ?_)
        case' c1x3 => (try (intro j u hj; match j, hj with | 0, hj => simp at hj; subst hj; simp [Addr.add] | j + 1, hj => simp at hj))
        case c2x3 => first | rfl | exact oneU8S
        case c3x3 => unfold maxLen; omega
        case c4x3 => omega
        case c5x3 => first | omega | (simp; omega)
        intro vb3 wb3 hown3 hgrow3 _
        have hBwb3 : Below B w wb3 := (hBwb2.alloc hswb2 _).grown hgrow3 (by simp; omega) (fun k hk => (World.ownsRow.lt rowvb2.out k hk).1)
        have hswb3 : B ≤ wb3.heap.size := by have := hgrow3.size; simp at this; omega
        have hpwb3 : Hid (wb3.heap[pb]? = some (.cells #[.string xn, .int .i64 (nn : Int), .bool xm, .iface ut uv] 80)) := by
          show _ = _
          rw [hgrow3.block pb (by simp; have := lt_of_get hpwb2.out; omega) (part_far rowvb2.out hpwb2.out), Below.heap_alloc _ _ _ (lt_of_get hpwb2.out)]
          exact hpwb2.out
        obtain ⟨Lb3, hLb3⟩ : ∃ L9 : List UInt8, Hid (L9 = Lb2 ++ [58]) := ⟨Lb2 ++ [58], by show _ = _; rfl⟩
        have hbLb3 : Lb3.length ≤ L.length + 11 := by rw [hLb3.out, List.length_append, List.length_singleton]; omega
        have rowvb3 : Hid (BRow wb3 B vb3 Lb3) := by rw [hLb3.out]; exact BRow.one 58 hown3
        clear hown3 hgrow3
        obtain ⟨p0, p1, p2, p3⟩ := part_cell hpwb3.out
        go_wp2_with fail
        refine (HD.out _ _ _ rowvb3.out hswb3 (by omega)).mono ?_
        rintro e wb4 ⟨vb4, rfl, hr4, hbb4, hgrow4⟩
        clear p0 p1 p2 p3
        have hBwb4 : Below B w wb4 := hBwb3.trans hbb4
        have hswb4 : B ≤ wb4.heap.size := by have := hgrow4.size; omega
        have hpwb4 : Hid (wb4.heap[pb]? = some (.cells #[.string xn, .int .i64 (nn : Int), .bool xm, .iface ut uv] 80)) := by
          show _ = _
          rw [hgrow4.block pb (lt_of_get hpwb3.out) (part_far rowvb3.out hpwb3.out)]
          exact hpwb3.out
        obtain ⟨Lb4, hLb4⟩ : ∃ L9 : List UInt8, Hid (L9 = Lb3 ++ dn) := ⟨Lb3 ++ dn, by show _ = _; rfl⟩
        have hbLb4 : Lb4.length ≤ L.length + 13 := by rw [hLb4.out, List.length_append]; omega
        have rowvb4 : Hid (BRow wb4 B vb4 Lb4) := by rw [hLb4.out]; exact hr4
        clear hr4 hbb4 hgrow4
        obtain ⟨p0, p1, p2, p3⟩ := part_cell hpwb4.out
        cases xm with
        | true =>
          go_upto_region 11 with fail
          clear p0 p1 p2 p3
          go_wp2_with (at_builtin; refine wpList_append_own _ rfl _ _ 42 rfl B 5 i0 (.int .u8 0) 1 1 Tryd.underlying42 hi hz0 hz1 hz2 rfl (by decide) _ _ _ rfl (World.ownsRow.alloc rowvb4.out _) ⟨wb4.heap.size, 0, none⟩ 1 1 [Value.int .u8 33] rfl rfl ?c1x4 ?c2x4 ?c3x4 ?c4x4 ?c5x4 ?_)
          case' c1x4 => (try (intro j u hj; match j, hj with | 0, hj => simp at hj; subst hj; simp [Addr.add] | j + 1, hj => simp at hj))
          case c2x4 => first | rfl | exact oneU8S
          case c3x4 => unfold maxLen; omega
          case c4x4 => omega
          case c5x4 => first | omega | (simp; omega)
          intro vb5 wb5 hown5 hgrow5 _
          have hBwb5 : Below B w wb5 := (hBwb4.alloc hswb4 _).grown hgrow5 (by simp; omega) (fun k hk => (World.ownsRow.lt rowvb4.out k hk).1)
          have hswb5 : B ≤ wb5.heap.size := by have := hgrow5.size; simp at this; omega
          have hpwb5 : Hid (wb5.heap[pb]? = some (.cells #[.string xn, .int .i64 (nn : Int), .bool true, .iface ut uv] 80)) := by
            show _ = _
            rw [hgrow5.block pb (by simp; have := lt_of_get hpwb4.out; omega) (part_far rowvb4.out hpwb4.out), Below.heap_alloc _ _ _ (lt_of_get hpwb4.out)]
            exact hpwb4.out
          obtain ⟨Lb5, hLb5⟩ : ∃ L9 : List UInt8, Hid (L9 = Lb4 ++ [33]) := ⟨Lb4 ++ [33], by show _ = _; rfl⟩
          have hbLb5 : Lb5.length ≤ L.length + 14 := by rw [hLb5.out, List.length_append, List.length_singleton]; omega
          have rowvb5 : Hid (BRow wb5 B vb5 Lb5) := by rw [hLb5.out]; exact BRow.one 33 hown5
          clear hown5 hgrow5
          obtain ⟨p0, p1, p2, p3⟩ := part_cell hpwb5.out
          have HLT : Hid (∀ k, vb5.ownBlock = some k → B ≤ k ∧ k < wb5.heap.size) := World.ownsRow.lt rowvb5.out
          have hfar : Hid (some pb ≠ vb5.ownBlock) := part_far rowvb5.out hpwb5.out
          have hplt : pb < wb5.heap.size := lt_of_get hpwb5.out
          have hown9r : wb5.ownsRow B 5 1 vb5 Lb5.length (Lib.byteCells Lb5) := rowvb5.out
          have HFIN : Hid (Lb5 ++ [32] ++ xx = Lb0 ++ sxL (ks.take (0 + 1))) := by
            have h9 := hstep.out
            show _ = _
            rw [h9, hLb5.out, hLb4.out, hLb3.out, hLb2.out, hi9.out]
            simp
          go_wp2_with fail
          go_region_law
            (first
              | (go_simp; go_at_call 15; refine (HC.out _ _ _ hB9 hrow9 hs9 hl9).mono ?_; rintro e w10 ⟨v10, rfl, hr10, hb10⟩; have HR10 : Hid (BRow w10 B v10 (Lb5 ++ [32] ++ xx)) := hr10; have hB10 : Below B w w10 := hB9.trans hb10; have hs10 : B ≤ w10.heap.size := (by have := hb10.size; omega))
              | (refine step_append_lies _ rfl _ _ _ rfl B 5 i0 (.int .u8 0) 1 1 Tryd.underlying42 hi hz0 hz1 hz2 rfl (by decide) vb5 Lb5.length _ rfl (World.ownsRow.alloc (show wb5.drew.ownsRow B 5 1 vb5 Lb5.length (Lib.byteCells Lb5) from hown9r) _) ⟨wb5.heap.size, 0, none⟩ 1 1 [Value.int .u8 32] rfl rfl (World.news_of_block (heap_alloc_new wb5.drew _)) oneU8S (by omega) (by unfold maxLen; omega) (by omega) (by simp; omega) (wb5.heap.size + 1) (by simp) ?_; intro g9 cap9 w9 hown9 hgrow9 hat9 hlt9; have m9 := (hgrow9.cell_far ⟨pb, 3, none⟩ (by simp; omega) hfar.out).trans ((Below.cell ((Below.refl _ wb5.drew).alloc (Nat.le_refl _) _) (p := ⟨pb, 3, none⟩) hplt).trans p3); have hB9 : Below B w w9 := ((hBwb5.drew.alloc hswb5 _).grown hgrow9 (by simp; omega) (fun k hk => (HLT.out k hk).1)); have hs9 : B ≤ w9.heap.size := (by have := hgrow9.size; simp at this; omega); have hrow9 : BRow w9 B (.slice (some ⟨g9, 0, none⟩) (Lb5.length + 1) cap9) (Lb5 ++ [32]) := BRow.one 32 hown9; have hl9 : (Lb5 ++ [32]).length + 25 * xz ≤ 5016 := (by rw [List.length_append, List.length_singleton]; omega)))
          all_goals
            go_wp2
            go_roundw
            case rel => exact ⟨0 + 1, Lb5 ++ [32] ++ xx, by omega, by go_num, HFIN.out, HR10, hB10, hs10⟩
            case measure => simp [intOf]; omega
        | false =>
          clear p0 p1 p2 p3
          obtain ⟨p0, p1, p2, p3⟩ := part_cell hpwb4.out
          have HLT : Hid (∀ k, vb4.ownBlock = some k → B ≤ k ∧ k < wb4.heap.size) := World.ownsRow.lt rowvb4.out
          have hfar : Hid (some pb ≠ vb4.ownBlock) := part_far rowvb4.out hpwb4.out
          have hplt : pb < wb4.heap.size := lt_of_get hpwb4.out
          have hown9r : wb4.ownsRow B 5 1 vb4 Lb4.length (Lib.byteCells Lb4) := rowvb4.out
          have HFIN : Hid (Lb4 ++ [32] ++ xx = Lb0 ++ sxL (ks.take (0 + 1))) := by
            have h9 := hstep.out
            show _ = _
            rw [h9, hLb4.out, hLb3.out, hLb2.out, hi9.out]
            simp
          go_wp2_with fail
          go_region_law
            (first
              | (go_simp; go_at_call 15; refine (HC.out _ _ _ hB9 hrow9 hs9 hl9).mono ?_; rintro e w10 ⟨v10, rfl, hr10, hb10⟩; have HR10 : Hid (BRow w10 B v10 (Lb4 ++ [32] ++ xx)) := hr10; have hB10 : Below B w w10 := hB9.trans hb10; have hs10 : B ≤ w10.heap.size := (by have := hb10.size; omega))
              | (refine step_append_lies _ rfl _ _ _ rfl B 5 i0 (.int .u8 0) 1 1 Tryd.underlying42 hi hz0 hz1 hz2 rfl (by decide) vb4 Lb4.length _ rfl (World.ownsRow.alloc (show wb4.drew.ownsRow B 5 1 vb4 Lb4.length (Lib.byteCells Lb4) from hown9r) _) ⟨wb4.heap.size, 0, none⟩ 1 1 [Value.int .u8 32] rfl rfl (World.news_of_block (heap_alloc_new wb4.drew _)) oneU8S (by omega) (by unfold maxLen; omega) (by omega) (by simp; omega) (wb4.heap.size + 1) (by simp) ?_; intro g9 cap9 w9 hown9 hgrow9 hat9 hlt9; have m9 := (hgrow9.cell_far ⟨pb, 3, none⟩ (by simp; omega) hfar.out).trans ((Below.cell ((Below.refl _ wb4.drew).alloc (Nat.le_refl _) _) (p := ⟨pb, 3, none⟩) hplt).trans p3); have hB9 : Below B w w9 := ((hBwb4.drew.alloc hswb4 _).grown hgrow9 (by simp; omega) (fun k hk => (HLT.out k hk).1)); have hs9 : B ≤ w9.heap.size := (by have := hgrow9.size; simp at this; omega); have hrow9 : BRow w9 B (.slice (some ⟨g9, 0, none⟩) (Lb4.length + 1) cap9) (Lb4 ++ [32]) := BRow.one 32 hown9; have hl9 : (Lb4 ++ [32]).length + 25 * xz ≤ 5016 := (by rw [List.length_append, List.length_singleton]; omega)))
          all_goals
            go_wp2
            go_roundw
            case rel => exact ⟨0 + 1, Lb4 ++ [32] ++ xx, by omega, by go_num, HFIN.out, HR10, hB10, hs10⟩
            case measure => simp [intOf]; omega
      · have hi0' : (0 : Int) < (i : Int) := by omega
        have hi0n : 0 < i := by omega
        have hi9 : Hid ((if i = 0 then ([] : List UInt8) else [44]) = [44]) := by show _ = _; rw [if_neg hi0]
        go_upto_region 6 with fail
        go_wp2_with (at_builtin; refine wpList_append_own _ rfl _ _ 42 rfl B 5 i0 (.int .u8 0) 1 1 Tryd.underlying42 hi hz0 hz1 hz2 rfl (by decide) _ _ _ rfl (World.ownsRow.alloc rowW2.out _) ⟨W2.heap.size, 0, none⟩ 1 1 [Value.int .u8 44] rfl rfl ?c1x5 ?c2x5 ?c3x5 ?c4x5 ?c5x5 ?_)
        case' c1x5 => (try (intro j u hj; match j, hj with | 0, hj => simp at hj; subst hj; simp [Addr.add] | j + 1, hj => simp at hj))
        case c2x5 => first | rfl | exact oneU8S
        case c3x5 => unfold maxLen; omega
        case c4x5 => omega
        case c5x5 => first | omega | (simp; omega)
        intro vb1 wb1 hown1 hgrow1 _
        have hBwb1 : Below B w wb1 := (hBW2.alloc hsW2 _).grown hgrow1 (by simp; omega) (fun k hk => (World.ownsRow.lt rowW2.out k hk).1)
        have hswb1 : B ≤ wb1.heap.size := by have := hgrow1.size; simp at this; omega
        have hpwb1 : Hid (wb1.heap[pb]? = some (.cells #[.string xn, .int .i64 (nn : Int), .bool xm, .iface ut uv] 80)) := by
          show _ = _
          rw [hgrow1.block pb (by simp; have := lt_of_get hpW2.out; omega) (part_far rowW2.out hpW2.out), Below.heap_alloc _ _ _ (lt_of_get hpW2.out)]
          exact hpW2.out
        obtain ⟨Lb1, hLb1⟩ : ∃ L9 : List UInt8, Hid (L9 = L ++ [44]) := ⟨L ++ [44], by show _ = _; rfl⟩
        have hbLb1 : Lb1.length ≤ L.length + 1 := by rw [hLb1.out, List.length_append, List.length_singleton]; omega
        have rowvb1 : Hid (BRow wb1 B vb1 Lb1) := by rw [hLb1.out]; exact BRow.one 44 hown1
        clear hown1 hgrow1
        obtain ⟨p0, p1, p2, p3⟩ := part_cell hpwb1.out
        go_wp2_with (at_builtin; refine Lib.wpList_append_own_string _ rfl _ _ 42 9 rfl B 5 i0 Tryd.underlying42 Tryd.underlying9 hi hz0 hz1 hz2 _ _ _ rfl rowvb1.out xn rfl ?c1x6 ?c2x6 hswb1 ?_)
        case c1x6 => unfold maxLen; omega
        case c2x6 => omega
        intro vb2 wb2 hown2 hgrow2 _
        clear p0 p1 p2 p3
        have hBwb2 : Below B w wb2 := hBwb1.grown hgrow2 hswb1 (fun k hk => (World.ownsRow.lt rowvb1.out k hk).1)
        have hswb2 : B ≤ wb2.heap.size := by have := hgrow2.size; omega
        have hpwb2 : Hid (wb2.heap[pb]? = some (.cells #[.string xn, .int .i64 (nn : Int), .bool xm, .iface ut uv] 80)) := by
          show _ = _
          rw [hgrow2.block pb (lt_of_get hpwb1.out) (part_far rowvb1.out hpwb1.out)]
          exact hpwb1.out
        obtain ⟨Lb2, hLb2⟩ : ∃ L9 : List UInt8, Hid (L9 = Lb1 ++ xn.data.toList) := ⟨Lb1 ++ xn.data.toList, by show _ = _; rfl⟩
        have hbLb2 : Lb2.length ≤ L.length + 11 := by rw [hLb2.out, List.length_append]; have : xn.data.toList.length = xn.size := Array.length_toList; omega
        have rowvb2 : Hid (BRow wb2 B vb2 Lb2) := by rw [hLb2.out]; exact BRow.str hown2
        clear hown2 hgrow2
        go_wp2_with (at_builtin; refine wpList_append_own _ rfl _ _ 42 rfl B 5 i0 (.int .u8 0) 1 1 Tryd.underlying42 hi hz0 hz1 hz2 rfl (by decide) _ _ _ rfl (World.ownsRow.alloc rowvb2.out _) ⟨wb2.heap.size, 0, none⟩ 1 1 [Value.int .u8 58] rfl rfl ?c1x7 ?c2x7 ?c3x7 ?c4x7 ?c5x7 ?_)
        case' c1x7 => (try (intro j u hj; match j, hj with | 0, hj => simp at hj; subst hj; simp [Addr.add] | j + 1, hj => simp at hj))
        case c2x7 => first | rfl | exact oneU8S
        case c3x7 => unfold maxLen; omega
        case c4x7 => omega
        case c5x7 => first | omega | (simp; omega)
        intro vb3 wb3 hown3 hgrow3 _
        have hBwb3 : Below B w wb3 := (hBwb2.alloc hswb2 _).grown hgrow3 (by simp; omega) (fun k hk => (World.ownsRow.lt rowvb2.out k hk).1)
        have hswb3 : B ≤ wb3.heap.size := by have := hgrow3.size; simp at this; omega
        have hpwb3 : Hid (wb3.heap[pb]? = some (.cells #[.string xn, .int .i64 (nn : Int), .bool xm, .iface ut uv] 80)) := by
          show _ = _
          rw [hgrow3.block pb (by simp; have := lt_of_get hpwb2.out; omega) (part_far rowvb2.out hpwb2.out), Below.heap_alloc _ _ _ (lt_of_get hpwb2.out)]
          exact hpwb2.out
        obtain ⟨Lb3, hLb3⟩ : ∃ L9 : List UInt8, Hid (L9 = Lb2 ++ [58]) := ⟨Lb2 ++ [58], by show _ = _; rfl⟩
        have hbLb3 : Lb3.length ≤ L.length + 12 := by rw [hLb3.out, List.length_append, List.length_singleton]; omega
        have rowvb3 : Hid (BRow wb3 B vb3 Lb3) := by rw [hLb3.out]; exact BRow.one 58 hown3
        clear hown3 hgrow3
        obtain ⟨p0, p1, p2, p3⟩ := part_cell hpwb3.out
        go_wp2_with fail
        refine (HD.out _ _ _ rowvb3.out hswb3 (by omega)).mono ?_
        rintro e wb4 ⟨vb4, rfl, hr4, hbb4, hgrow4⟩
        clear p0 p1 p2 p3
        have hBwb4 : Below B w wb4 := hBwb3.trans hbb4
        have hswb4 : B ≤ wb4.heap.size := by have := hgrow4.size; omega
        have hpwb4 : Hid (wb4.heap[pb]? = some (.cells #[.string xn, .int .i64 (nn : Int), .bool xm, .iface ut uv] 80)) := by
          show _ = _
          rw [hgrow4.block pb (lt_of_get hpwb3.out) (part_far rowvb3.out hpwb3.out)]
          exact hpwb3.out
        obtain ⟨Lb4, hLb4⟩ : ∃ L9 : List UInt8, Hid (L9 = Lb3 ++ dn) := ⟨Lb3 ++ dn, by show _ = _; rfl⟩
        have hbLb4 : Lb4.length ≤ L.length + 14 := by rw [hLb4.out, List.length_append]; omega
        have rowvb4 : Hid (BRow wb4 B vb4 Lb4) := by rw [hLb4.out]; exact hr4
        clear hr4 hbb4 hgrow4
        obtain ⟨p0, p1, p2, p3⟩ := part_cell hpwb4.out
        cases xm with
        | true =>
          go_upto_region 11 with fail
          clear p0 p1 p2 p3
          go_wp2_with (at_builtin; refine wpList_append_own _ rfl _ _ 42 rfl B 5 i0 (.int .u8 0) 1 1 Tryd.underlying42 hi hz0 hz1 hz2 rfl (by decide) _ _ _ rfl (World.ownsRow.alloc rowvb4.out _) ⟨wb4.heap.size, 0, none⟩ 1 1 [Value.int .u8 33] rfl rfl ?c1x8 ?c2x8 ?c3x8 ?c4x8 ?c5x8 ?_)
          case' c1x8 => (try (intro j u hj; match j, hj with | 0, hj => simp at hj; subst hj; simp [Addr.add] | j + 1, hj => simp at hj))
          case c2x8 => first | rfl | exact oneU8S
          case c3x8 => unfold maxLen; omega
          case c4x8 => omega
          case c5x8 => first | omega | (simp; omega)
          intro vb5 wb5 hown5 hgrow5 _
          have hBwb5 : Below B w wb5 := (hBwb4.alloc hswb4 _).grown hgrow5 (by simp; omega) (fun k hk => (World.ownsRow.lt rowvb4.out k hk).1)
          have hswb5 : B ≤ wb5.heap.size := by have := hgrow5.size; simp at this; omega
          have hpwb5 : Hid (wb5.heap[pb]? = some (.cells #[.string xn, .int .i64 (nn : Int), .bool true, .iface ut uv] 80)) := by
            show _ = _
            rw [hgrow5.block pb (by simp; have := lt_of_get hpwb4.out; omega) (part_far rowvb4.out hpwb4.out), Below.heap_alloc _ _ _ (lt_of_get hpwb4.out)]
            exact hpwb4.out
          obtain ⟨Lb5, hLb5⟩ : ∃ L9 : List UInt8, Hid (L9 = Lb4 ++ [33]) := ⟨Lb4 ++ [33], by show _ = _; rfl⟩
          have hbLb5 : Lb5.length ≤ L.length + 15 := by rw [hLb5.out, List.length_append, List.length_singleton]; omega
          have rowvb5 : Hid (BRow wb5 B vb5 Lb5) := by rw [hLb5.out]; exact BRow.one 33 hown5
          clear hown5 hgrow5
          obtain ⟨p0, p1, p2, p3⟩ := part_cell hpwb5.out
          have HLT : Hid (∀ k, vb5.ownBlock = some k → B ≤ k ∧ k < wb5.heap.size) := World.ownsRow.lt rowvb5.out
          have hfar : Hid (some pb ≠ vb5.ownBlock) := part_far rowvb5.out hpwb5.out
          have hplt : pb < wb5.heap.size := lt_of_get hpwb5.out
          have hown9r : wb5.ownsRow B 5 1 vb5 Lb5.length (Lib.byteCells Lb5) := rowvb5.out
          have HFIN : Hid (Lb5 ++ [32] ++ xx = Lb0 ++ sxL (ks.take (i + 1))) := by
            have h9 := hstep.out
            show _ = _
            rw [h9, hLb5.out, hLb4.out, hLb3.out, hLb2.out, hLb1.out, hi9.out]
            simp
          go_wp2_with fail
          go_region_law
            (first
              | (go_simp; go_at_call 15; refine (HC.out _ _ _ hB9 hrow9 hs9 hl9).mono ?_; rintro e w10 ⟨v10, rfl, hr10, hb10⟩; have HR10 : Hid (BRow w10 B v10 (Lb5 ++ [32] ++ xx)) := hr10; have hB10 : Below B w w10 := hB9.trans hb10; have hs10 : B ≤ w10.heap.size := (by have := hb10.size; omega))
              | (refine step_append_lies _ rfl _ _ _ rfl B 5 i0 (.int .u8 0) 1 1 Tryd.underlying42 hi hz0 hz1 hz2 rfl (by decide) vb5 Lb5.length _ rfl (World.ownsRow.alloc (show wb5.drew.ownsRow B 5 1 vb5 Lb5.length (Lib.byteCells Lb5) from hown9r) _) ⟨wb5.heap.size, 0, none⟩ 1 1 [Value.int .u8 32] rfl rfl (World.news_of_block (heap_alloc_new wb5.drew _)) oneU8S (by omega) (by unfold maxLen; omega) (by omega) (by simp; omega) (wb5.heap.size + 1) (by simp) ?_; intro g9 cap9 w9 hown9 hgrow9 hat9 hlt9; have m9 := (hgrow9.cell_far ⟨pb, 3, none⟩ (by simp; omega) hfar.out).trans ((Below.cell ((Below.refl _ wb5.drew).alloc (Nat.le_refl _) _) (p := ⟨pb, 3, none⟩) hplt).trans p3); have hB9 : Below B w w9 := ((hBwb5.drew.alloc hswb5 _).grown hgrow9 (by simp; omega) (fun k hk => (HLT.out k hk).1)); have hs9 : B ≤ w9.heap.size := (by have := hgrow9.size; simp at this; omega); have hrow9 : BRow w9 B (.slice (some ⟨g9, 0, none⟩) (Lb5.length + 1) cap9) (Lb5 ++ [32]) := BRow.one 32 hown9; have hl9 : (Lb5 ++ [32]).length + 25 * xz ≤ 5016 := (by rw [List.length_append, List.length_singleton]; omega)))
          all_goals
            go_wp2
            go_roundw
            case rel => exact ⟨i + 1, Lb5 ++ [32] ++ xx, by omega, by go_num, HFIN.out, HR10, hB10, hs10⟩
            case measure => simp [intOf]; omega
        | false =>
          clear p0 p1 p2 p3
          obtain ⟨p0, p1, p2, p3⟩ := part_cell hpwb4.out
          have HLT : Hid (∀ k, vb4.ownBlock = some k → B ≤ k ∧ k < wb4.heap.size) := World.ownsRow.lt rowvb4.out
          have hfar : Hid (some pb ≠ vb4.ownBlock) := part_far rowvb4.out hpwb4.out
          have hplt : pb < wb4.heap.size := lt_of_get hpwb4.out
          have hown9r : wb4.ownsRow B 5 1 vb4 Lb4.length (Lib.byteCells Lb4) := rowvb4.out
          have HFIN : Hid (Lb4 ++ [32] ++ xx = Lb0 ++ sxL (ks.take (i + 1))) := by
            have h9 := hstep.out
            show _ = _
            rw [h9, hLb4.out, hLb3.out, hLb2.out, hLb1.out, hi9.out]
            simp
          go_wp2_with fail
          go_region_law
            (first
              | (go_simp; go_at_call 15; refine (HC.out _ _ _ hB9 hrow9 hs9 hl9).mono ?_; rintro e w10 ⟨v10, rfl, hr10, hb10⟩; have HR10 : Hid (BRow w10 B v10 (Lb4 ++ [32] ++ xx)) := hr10; have hB10 : Below B w w10 := hB9.trans hb10; have hs10 : B ≤ w10.heap.size := (by have := hb10.size; omega))
              | (refine step_append_lies _ rfl _ _ _ rfl B 5 i0 (.int .u8 0) 1 1 Tryd.underlying42 hi hz0 hz1 hz2 rfl (by decide) vb4 Lb4.length _ rfl (World.ownsRow.alloc (show wb4.drew.ownsRow B 5 1 vb4 Lb4.length (Lib.byteCells Lb4) from hown9r) _) ⟨wb4.heap.size, 0, none⟩ 1 1 [Value.int .u8 32] rfl rfl (World.news_of_block (heap_alloc_new wb4.drew _)) oneU8S (by omega) (by unfold maxLen; omega) (by omega) (by simp; omega) (wb4.heap.size + 1) (by simp) ?_; intro g9 cap9 w9 hown9 hgrow9 hat9 hlt9; have m9 := (hgrow9.cell_far ⟨pb, 3, none⟩ (by simp; omega) hfar.out).trans ((Below.cell ((Below.refl _ wb4.drew).alloc (Nat.le_refl _) _) (p := ⟨pb, 3, none⟩) hplt).trans p3); have hB9 : Below B w w9 := ((hBwb4.drew.alloc hswb4 _).grown hgrow9 (by simp; omega) (fun k hk => (HLT.out k hk).1)); have hs9 : B ≤ w9.heap.size := (by have := hgrow9.size; simp at this; omega); have hrow9 : BRow w9 B (.slice (some ⟨g9, 0, none⟩) (Lb4.length + 1) cap9) (Lb4 ++ [32]) := BRow.one 32 hown9; have hl9 : (Lb4 ++ [32]).length + 25 * xz ≤ 5016 := (by rw [List.length_append, List.length_singleton]; omega)))
          all_goals
            go_wp2
            go_roundw
            case rel => exact ⟨i + 1, Lb4 ++ [32] ++ xx, by omega, by go_num, HFIN.out, HR10, hB10, hs10⟩
            case measure => simp [intOf]; omega
    · have hke : i = ks.length := by omega
      have hge : ¬ ((i : Int) < (ks.length : Int)) := by omega
      have hgen : decide (i < ks.length) = false := by simpa using hlt
      have hLl : L.length ≤ 5000 := by
        have h1 := HLEN.out i
        have h2 := sizeL_takeF ks i
        rw [hL.out, List.length_append, hLb0.out, List.length_append]
        simp only [List.length_singleton]
        omega
      have hfin : Hid (R = L ++ [125]) := by show _ = _; rw [hR.out, hL.out, hLb0.out, hke, List.take_length]; simp
      clear hke hL hlt
      go_wp2_with (at_builtin; refine wpList_append_own _ rfl _ _ 42 rfl B 5 i0 (.int .u8 0) 1 1 Tryd.underlying42 hi hz0 hz1 hz2 rfl (by decide) _ _ _ rfl (World.ownsRow.alloc rowvr.out _) ⟨wr.heap.size, 0, none⟩ 1 1 [Value.int .u8 125] rfl rfl ?c1x9 ?c2x9 ?c3x9 ?c4x9 ?c5x9 ?_)
      case c2x9 => first | rfl | exact oneU8S
      case c3x9 => unfold maxLen; omega
      case c4x9 => omega
      case c5x9 => first | omega | (simp; omega)
      intro vb99 wb99 hown99 hgrow99 _
      have hBwb99 : Below B w wb99 := (hBwr.alloc hswr _).grown hgrow99 (by simp; omega) (fun k hk => (World.ownsRow.lt rowvr.out k hk).1)
      have hswb99 : B ≤ wb99.heap.size := by have := hgrow99.size; simp at this; omega
      obtain ⟨Lb99, hLb99⟩ : ∃ L9 : List UInt8, Hid (L9 = L ++ [125]) := ⟨L ++ [125], by show _ = _; rfl⟩
      have hbLb99 : Lb99.length ≤ 5001 := by rw [hLb99.out, List.length_append, List.length_singleton]; omega
      have rowvb99 : Hid (BRow wb99 B vb99 Lb99) := by rw [hLb99.out]; exact BRow.one 125 hown99
      clear hown99 hgrow99
      go_wp2
      go_ret
      exact ⟨_, rfl, by rw [hfin.out, ← hLb99.out]; exact rowvb99.out, hBwb99⟩

end Go.Proofs.YtneaikkbpmeebaaDoor
