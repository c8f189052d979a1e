/- What is pending; a session that begins: what they tell. -/
import Derived.Test.YtnlppeieccbhgaaSnC
namespace Go.Proofs.Ytnlppeieccbhgaa
open Go.RowKit Plain Tpc Ssn

theorem add_row (g o k : Nat) : (⟨g, o, none⟩ : Addr).add k = ⟨g, o + k, none⟩ := by
  unfold Addr.add
  by_cases h : k = 0
  · rw [if_pos h, h]; rfl
  · rw [if_neg h]

theorem gs_parts {s : Ses} (h : gs s = true) : gE s = true ∧ gI s = true ∧ gH s = true ∧ gW s = true ∧ gA s = true := by
  unfold gs at h
  simp only [Bool.and_eq_true] at h
  exact ⟨h.1, h.2.1, h.2.2.1, h.2.2.2.1, h.2.2.2.2⟩

/-- what PendingIn tells -/
def pnL (s : Ses) : List ByteArray := if gs s = true then s.items.drop s.handed.length else []
def PnO (w w' : World) (e : Ending) (s : Ses) : Prop := ∃ v, e = .returned (.tuple #[v, .bool (gs s)]) ∧ StRow w' w.heap.size v (pnL s) ∧ Below w.heap.size w w'

theorem PnO.no {w w' : World} {s : Ses} (h : gs s = false) (hb : Below w.heap.size w w') : PnO w w' (.returned (.tuple #[.slice none 0 0, .bool false])) s := by
  unfold PnO pnL
  rw [h]
  exact ⟨_, rfl, ⟨rfl, .inl ⟨rfl, rfl⟩⟩, hb⟩
theorem PnO.yes {w w' : World} {s : Ses} {v : Value} (h : gs s = true) (hr : StRow w' w.heap.size v (s.items.drop s.handed.length)) (hb : Below w.heap.size w w') : PnO w w' (.returned (.tuple #[v, .bool true])) s := by
  unfold PnO pnL
  rw [h]
  exact ⟨_, rfl, hr, hb⟩

set_option maxRecDepth 100000 in
set_option maxHeartbeats 4000000 in
theorem implPend (s : Ses) (vi vh vw va : Value) (w : World) (h : SesAt w w.heap.size s vi vh vw va) (hS : Shr s 9223372036854775807) :
    Calls Try.prog 21 #[s.val vi vh vw va] w fun e w' => PnO w w' e s := by
  obtain ⟨W0, hW0⟩ : ∃ W, W = w.alloc (.cells #[.int .i64 s.ep, vi, .int .i64 s.base, vh, vw, va] 26) := ⟨_, rfl⟩
  have hB0 : Below w.heap.size w W0 := by rw [hW0]; exact (Below.refl _ w).alloc (Nat.le_refl _) _
  have V1 : Sv W0 w.heap.size (.int .i64 s.ep) vi (.int .i64 s.base) vh vw va := by rw [hW0]; exact Sv.fresh w _ _ _ _ _ _ _
  have CG := implGoodS s vi vh vw va W0 (h.below hB0) hS
  have HNO : Hid (gs s = false → ∀ w', Below w.heap.size w w' → PnO w w' (.returned (.tuple #[.slice none 0 0, .bool false])) s) := fun h w' hb => PnO.no h hb
  have HYES : Hid (gs s = true → ∀ w' v, StRow w' w.heap.size v (s.items.drop s.handed.length) → Below w.heap.size w w' → PnO w w' (.returned (.tuple #[v, .bool true])) s) := fun h w' v hr hb => PnO.yes h hr hb
  have HP : Hid (gs s = true → s.handed.length ≤ s.items.length ∧ s.items.length ≤ 30 ∧ ∀ j, j < s.items.length → (lq s.items j).size ≤ 20) := fun h => by
    obtain ⟨_, h2, h3, _, _⟩ := gs_parts h
    exact ⟨(gH_parts h3).2.2.1, (gI_parts h2).1, (gI_parts h2).2⟩
  have HV : Hid (type_of% V1) := V1
  have HB : Hid (type_of% hB0) := hB0
  have HI : Hid (type_of% h.i) := h.i
  obtain ⟨ai, ci, ah, ch, aw, cw, aa, ca, rfl, rfl, rfl, rfl⟩ := h.form
  have x0 := V1.c0
  have x1 := V1.c1
  have x2 := V1.c2
  have x3 := V1.c3
  have x4 := V1.c4
  have x5 := V1.c5
  unfold Ses.val at CG ⊢
  clear h hS V1 hB0
  generalize gs s = G at *
  go_enter Try.func21, Try.ntmps21
  go_upto_region 1 with fail
  rw [← hW0]
  clear hW0
  go_wp2_with fail
  go_at_call 19
  refine CG.mono ?_
  rintro e w1 ⟨rfl, hb⟩
  have HV : Hid (type_of% (HV.out.below hb)) := HV.out.below hb
  have HB1 : Hid (Below w.heap.size w w1) := HB.out.trans (hb.mono HB.out.size)
  clear x0 x1 x2 x3 x4 x5 hb HB CG
  cases G with
  | false =>
    have hF := HNO.out rfl w1 HB1.out
    have HF : Hid (type_of% hF) := hF
    clear hF HNO HYES HP
    go_wp2_with fail
    go_ret2
    exact HF.out
  | true =>
    obtain ⟨hni, h30, h20⟩ := HP.out rfl
    have x1 := HV.out.c1
    have x3 := HV.out.c3
    obtain ⟨_, _, hvv, hlc, hcm, _⟩ := HI.out
    simp only [Value.slice.injEq] at hvv
    obtain ⟨rfl, _, rfl⟩ := hvv
    unfold maxLen at hcm
    have hD0 : ∀ aq, (s.handed.length < s.items.length → ∀ g o, ai = some ⟨g, o, none⟩ → aq = some ⟨g, o + s.handed.length, none⟩) → StAt w1 w1.heap.size (.slice aq (s.items.length - s.handed.length) (ci - s.handed.length)) (s.items.drop s.handed.length) := fun aq h => StAt.drop (HI.out.below HB1.out) hni aq h
    have CC0 : ∀ aq, StAt w1 w1.heap.size aq (s.items.drop s.handed.length) → Calls Try.prog 69 #[aq] w1 fun e w' => ∃ v', e = .returned v' ∧ StRow w' w1.heap.size v' (s.items.drop s.handed.length) ∧ Below w1.heap.size w1 w' := fun aq h => copyTexts_any (s.items.drop s.handed.length) _ w1 h (fun i hi => by
      rw [List.length_drop] at hi
      have := h20 (s.handed.length + i) (by omega)
      have e : lq (s.items.drop s.handed.length) i = lq s.items (s.handed.length + i) := by
        unfold lq
        rw [List.getD_eq_getElem?_getD, List.getD_eq_getElem?_getD, List.getElem?_drop]
      rw [e]; omega) (by rw [List.length_drop]; omega)
    have HY := HYES.out rfl
    have HYH : Hid (type_of% HY) := HY
    have hniI : (s.handed.length : Int) ≤ (s.items.length : Int) := by omega
    have HCC : Hid (type_of% CC0) := CC0
    have HDD : Hid (type_of% hD0) := hD0
    clear HY HNO HYES HP h20 hD0 CC0
    by_cases hck : ci = s.handed.length
    · subst hck
      have hD1 := HDD.out ai (fun hlt => by omega)
      rw [Nat.sub_self, show s.items.length - s.handed.length = 0 by omega] at hD1
      have CC := HCC.out _ hD1
      clear hD1 HDD HCC
      generalize s.items.drop s.handed.length = L at CC HYH
      go_wp2_with fail
      go_at_call 69
      refine CC.mono ?_
      rintro e w2 ⟨v, rfl, hr, hb⟩
      have HR : Hid (StRow w2 w.heap.size v L) := own_lower hr HB1.out.size
      have HB2 : Hid (Below w.heap.size w w2) := HB1.out.trans (hb.mono HB1.out.size)
      clear hr hb CC
      go_wp2_with fail
      go_ret2
      exact HYH.out _ _ HR.out HB2.out
    · have CC := HCC.out _ (HDD.out (Option.map (fun x => x.add s.handed.length) ai) (fun hlt g o ha => by subst ha; exact congrArg some (add_row g o _)))
      clear HDD HCC
      generalize s.items.drop s.handed.length = L at CC HYH
      go_wp2_with fail
      go_at_call 69
      refine CC.mono ?_
      rintro e w2 ⟨v, rfl, hr, hb⟩
      have HR : Hid (StRow w2 w.heap.size v L) := own_lower hr HB1.out.size
      have HB2 : Hid (Below w.heap.size w w2) := HB1.out.trans (hb.mono HB1.out.size)
      clear hr hb CC
      go_wp2_with fail
      go_ret2
      exact HYH.out _ _ HR.out HB2.out

set_option maxRecDepth 100000 in
set_option maxHeartbeats 4000000 in
theorem specPend (s : Ses) (vi vh vw va : Value) (w : World) (h : SesAt w w.heap.size s vi vh vw va) (hS : Shr s 9223372036854775807) :
    Calls Try.prog 20 #[s.val vi vh vw va] w fun e w' => PnO w w' e s := by
  obtain ⟨i0, hi, hz0, hz1, hz2⟩ := info_parts infoStr
  obtain ⟨W0, hW0⟩ : ∃ W, W = w.alloc (.cells #[.int .i64 s.ep, vi, .int .i64 s.base, vh, vw, va] 26) := ⟨_, rfl⟩
  have hB0 : Below w.heap.size w W0 := by rw [hW0]; exact (Below.refl _ w).alloc (Nat.le_refl _) _
  have V1 : Sv W0 w.heap.size (.int .i64 s.ep) vi (.int .i64 s.base) vh vw va := by rw [hW0]; exact Sv.fresh w _ _ _ _ _ _ _
  have CG := specGoodS s vi vh vw va W0 (h.below hB0) hS
  have HNO : Hid (gs s = false → ∀ w', Below w.heap.size w w' → PnO w w' (.returned (.tuple #[.slice none 0 0, .bool false])) s) := fun h w' hb => PnO.no h hb
  have HYES : Hid (gs s = true → ∀ w' v, StRow w' w.heap.size v (s.items.drop s.handed.length) → Below w.heap.size w w' → PnO w w' (.returned (.tuple #[v, .bool true])) s) := fun h w' v hr hb => PnO.yes h hr hb
  have HP : Hid (gs s = true → s.handed.length ≤ s.items.length ∧ s.items.length ≤ 30) := fun h => by
    obtain ⟨_, h2, h3, _, _⟩ := gs_parts h
    exact ⟨(gH_parts h3).2.2.1, (gI_parts h2).1⟩
  have HV : Hid (type_of% V1) := V1
  have HB : Hid (type_of% hB0) := hB0
  have HI : Hid (type_of% h.i) := h.i
  obtain ⟨ai, ci, ah, ch, aw, cw, aa, ca, rfl, rfl, rfl, rfl⟩ := h.form
  have x0 := V1.c0
  have x1 := V1.c1
  have x2 := V1.c2
  have x3 := V1.c3
  have x4 := V1.c4
  have x5 := V1.c5
  unfold Ses.val at CG ⊢
  clear h hS V1 hB0
  generalize gs s = G at *
  go_enter Try.func20, Try.ntmps20
  go_upto_region 1 with fail
  rw [← hW0]
  clear hW0
  go_wp2_with fail
  go_at_call 17
  refine CG.mono ?_
  rintro e w1 ⟨rfl, hb⟩
  have HV : Hid (type_of% (HV.out.below hb)) := HV.out.below hb
  have HB1 : Hid (Below w.heap.size w w1) := HB.out.trans (hb.mono HB.out.size)
  clear x0 x1 x2 x3 x4 x5 hb HB CG
  cases G with
  | false =>
    have hF := HNO.out rfl w1 HB1.out
    have HF : Hid (type_of% hF) := hF
    clear hF HNO HYES HP
    go_wp2_with fail
    go_ret2
    exact HF.out
  | true =>
    obtain ⟨hni, h30⟩ := HP.out rfl
    obtain ⟨W1, hW1⟩ : ∃ W, W = w1.alloc (.cells #[] 9) := ⟨_, rfl⟩
    have hbA : Below w1.heap.size w1 W1 := by rw [hW1]; exact (Below.refl _ w1).alloc (Nat.le_refl _) _
    have hown := World.ownsRow_made (base := w.heap.size) (e := 9) (size := 1) w1 #[] 0 (by have := HB1.out.size; simp; omega) (by unfold maxLen; omega) rfl
    have x1 := HV.out.c1
    have x3 := HV.out.c3
    have hlow := HV.out.low
    obtain ⟨_, _, hvv, hlc, hcm, _⟩ := HI.out
    simp only [Value.slice.injEq] at hvv
    obtain ⟨rfl, _, rfl⟩ := hvv
    unfold maxLen at hcm
    have HB2 : Hid (Below w.heap.size w W1) := HB1.out.trans (hbA.mono HB1.out.size)
    have hD0 : ∀ aq, (s.handed.length < s.items.length → ∀ g o, ai = some ⟨g, o, none⟩ → aq = some ⟨g, o + s.handed.length, none⟩) → StAt W1 W1.heap.size (.slice aq (s.items.length - s.handed.length) (ci - s.handed.length)) (s.items.drop s.handed.length) := fun aq h => StAt.drop (HI.out.below HB2.out) hni aq h
    have hs1 : w1.heap.size < W1.heap.size := by rw [hW1]; simp
    rw [← hW1] at hown
    have HOWN : Hid (type_of% hown) := hown
    have HDD : Hid (type_of% hD0) := hD0
    have HY := HYES.out rfl
    have HYH : Hid (type_of% HY) := HY
    have hniI : (s.handed.length : Int) ≤ (s.items.length : Int) := by omega
    have HDL : Hid ((s.items.drop s.handed.length).length = s.items.length - s.handed.length) := List.length_drop
    have hsB := HB1.out.size
    clear HY HNO HYES HP hD0 hown hbA
    by_cases hck : ci = s.handed.length
    · have hD1 := HDD.out ai (fun hlt => by omega)
      subst hck
      rw [Nat.sub_self, show s.items.length - s.handed.length = 0 by omega] at hD1
      have HDL : Hid ((s.items.drop s.handed.length).length = 0) := by show _ = _; rw [HDL.out]; omega
      have HD : Hid (type_of% hD1) := hD1
      clear hD1 HDD
      generalize s.items.drop s.handed.length = L at HD HYH HDL
      go_wp2_with (at_builtin; (try rw [← hW1]); refine wpList_append_mayF _ rfl _ _ 22 rfl w.heap.size 9 i0 (.string ByteArray.empty) 1 16 Try.underlying22 hi hz0 hz1 hz2 rfl (by decide) _ 0 [] rfl HOWN.out _ (0) _ (strs L) rfl (by unfold strs; rw [List.length_map, HDL.out, Nat.mul_one]) (StAt.newsS HD.out) (one_strsS _) (by unfold maxLen; omega) (by omega) (by omega) ?_; intro ar c9 w9 hown9 hgrow9 hnew9; have hR9 : Hid (StRow w9 w.heap.size (.slice ar (0 + 0) c9) L) := (by show StRow _ _ _ _; unfold StRow; rw [HDL.out]; simpa using hown9); have hB9 : Hid (Below w.heap.size w w9) := HB2.out.grown hgrow9 (by omega) (fun k hk => (World.ownsRow.lt HOWN.out k hk).1); clear hown9 hgrow9 hnew9)
      go_ret2
      exact HYH.out _ _ (by simpa using hR9.out) hB9.out
    · have hD1 := HDD.out (Option.map (fun x => x.add s.handed.length) ai) (fun hlt g o ha => by subst ha; exact congrArg some (add_row g o _))
      have HD : Hid (type_of% hD1) := hD1
      clear hD1 HDD
      generalize s.items.drop s.handed.length = L at HD HYH HDL
      go_wp2_with (at_builtin; (try rw [← hW1]); refine wpList_append_mayF _ rfl _ _ 22 rfl w.heap.size 9 i0 (.string ByteArray.empty) 1 16 Try.underlying22 hi hz0 hz1 hz2 rfl (by decide) _ 0 [] rfl HOWN.out _ (s.items.length - s.handed.length) _ (strs L) rfl (by unfold strs; rw [List.length_map, HDL.out, Nat.mul_one]) (StAt.newsS HD.out) (one_strsS _) (by unfold maxLen; omega) (by omega) (by omega) ?_; intro ar c9 w9 hown9 hgrow9 hnew9; have hR9 : Hid (StRow w9 w.heap.size (.slice ar (0 + (s.items.length - s.handed.length)) c9) L) := (by show StRow _ _ _ _; unfold StRow; rw [HDL.out]; simpa using hown9); have hB9 : Hid (Below w.heap.size w w9) := HB2.out.grown hgrow9 (by omega) (fun k hk => (World.ownsRow.lt HOWN.out k hk).1); clear hown9 hgrow9 hnew9)
      go_ret2
      exact HYH.out _ _ (by simpa using hR9.out) hB9.out

/-- a session that begins -/
def nwK (t : ByteArray) : Bool := decide (t.size ≤ 20)
def nwS (t : ByteArray) : Ses := if nwK t = true then ⟨1, [t], 0, [], [], []⟩ else szero
def NwO (w w' : World) (e : Ending) (t : ByteArray) : Prop := ∃ vi vh vw va, e = .returned (.tuple #[(nwS t).val vi vh vw va, .bool (nwK t)]) ∧ SesRow w' w.heap.size (nwS t) vi vh vw va ∧ Below w.heap.size w w'

theorem SesRow.none (w : World) (B : Nat) (e b : Int) : SesRow w B ⟨e, [], b, [], [], []⟩ (.slice none 0 0) (.slice none 0 0) (.slice none 0 0) (.slice none 0 0) :=
  ⟨⟨rfl, .inl ⟨rfl, rfl⟩⟩, ⟨rfl, .inl ⟨rfl, rfl⟩⟩, ⟨rfl, .inl ⟨rfl, rfl⟩⟩, ⟨rfl, .inl ⟨rfl, rfl⟩⟩, fun g hg => by simp [Value.ownBlock] at hg, fun g hg => by simp [Value.ownBlock] at hg, fun g hg => by simp [Value.ownBlock] at hg, fun g hg => by simp [Value.ownBlock] at hg, fun g hg => by simp [Value.ownBlock] at hg, fun g hg => by simp [Value.ownBlock] at hg⟩

theorem NwO.no {w w' : World} {t : ByteArray} (h : nwK t = false) (hb : Below w.heap.size w w') : NwO w w' (.returned (.tuple #[.agg #[.int .i64 0, .slice none 0 0, .int .i64 0, .slice none 0 0, .slice none 0 0, .slice none 0 0], .bool false])) t := by
  unfold NwO nwS
  rw [h]
  exact ⟨_, _, _, _, rfl, SesRow.none _ _ 0 0, hb⟩
theorem NwO.yes {w w' : World} {t : ByteArray} {v : Value} (h : nwK t = true) (hr : StRow w' w.heap.size v [t]) (hb : Below w.heap.size w w') : NwO w w' (.returned (.tuple #[.agg #[.int .i64 1, v, .int .i64 0, .slice none 0 0, .slice none 0 0, .slice none 0 0], .bool true])) t := by
  unfold NwO nwS
  rw [h]
  exact ⟨_, _, _, _, rfl, ⟨hr, ⟨rfl, .inl ⟨rfl, rfl⟩⟩, ⟨rfl, .inl ⟨rfl, rfl⟩⟩, ⟨rfl, .inl ⟨rfl, rfl⟩⟩, fun g hg => by simp [Value.ownBlock], fun g hg => by simp [Value.ownBlock], fun g hg => by simp [Value.ownBlock], fun g hg => by simp [Value.ownBlock], fun g hg => by simp [Value.ownBlock], fun g hg => by simp [Value.ownBlock]⟩, hb⟩

theorem results_cell1S {fn : Func} {p q : Nat} {ty : TypeId} (h : fn.results = #[.cell p ty, .tmp q]) (tmps : Array Value) (P : Program) (w : World) : (results fn tmps).run P w = ((asAddr (tmps.getD p undef)).run P w).andThen fun a w₁ => ((loadVar ty a).run P w₁).andThen fun v w₂ => .ok (.tuple #[v, tmps.getD q undef]) w₂ := by
  simp only [results, h]
  simp [Sem.run_bind, Result.andThen]
  (try rfl)

end Go.Proofs.Ytnlppeieccbhgaa
