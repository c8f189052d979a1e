/- The program's text of a term, whole. -/
import Derived.Test.YtlmhjkcollohnaaDoorTxD
namespace Go.Proofs.YtlmhjkcollohnaaDoor
open Go.RowKit Plain Sch Trm

set_option maxRecDepth 100000 in
set_option maxHeartbeats 8000000 in
theorem appC_step (T : List Ce) (g o cap : Nat) (hlc : T.length ≤ cap) (hcm : cap ≤ 9223372036854775807) (h30 : T.length ≤ 30) (hok : ∀ c ∈ T, okCe c = true) (k : Nat) (ih0 : AppC T g o cap k) : AppC T g o cap (k + 1) := by
  intro x r a l sv B w hk hx hrow hg hown hBw hl
  have ih : Hid (AppC T g o cap k) := ih0
  have HOK : Hid (∀ c ∈ T, okCe c = true) := hok
  clear ih0
  obtain ⟨v, name, ks⟩ := x
  have hpos := fl_pos (.mk v name ks)
  have hlen : a + (fl (.mk v name ks)).length + r.length = T.length := by
    have h1 := congrArg List.length hx
    rw [List.length_drop, List.length_append] at h1
    omega
  have ha : a < T.length := by omega
  have hd := drop_ce T a ha
  rw [hx, fl, List.cons_append, List.cons.injEq] at hd
  obtain ⟨hd1, hd2⟩ := hd
  have hmem : ce T a ∈ T := by
    have h9 : ce T a = T[a] := by simp [ce, List.getD, ha]
    rw [h9]
    exact List.getElem_mem ha
  have hc : okCe ⟨v, name, (ks.length : Int)⟩ = true := by rw [hd1]; exact HOK.out _ hmem
  have hokx : ∀ c ∈ flL ks, okCe c = true := fun c hc => HOK.out c (by
    have h9 : c ∈ T.drop a := by rw [hx, fl]; exact List.mem_append_left _ (List.mem_cons_of_mem _ hc)
    exact List.mem_of_mem_drop h9)
  clear hmem
  by_cases hv : 0 < v
  · obtain ⟨h1, h6, hn, hm⟩ := okCe_pos hc hv
    dsimp only at h1 h6 hn hm
    have hk0 : ks = [] := List.length_eq_zero_iff.1 (by omega)
    subst hk0 hn
    obtain ⟨m, rfl⟩ := Int.eq_ofNat_of_zero_le (show 0 ≤ v by omega)
    have h := appText_var T g o cap hlc hcm m (by omega) (by omega) a ha (by rw [← hd1]; rfl) l sv B w hrow hg hown hBw (by omega) h30
    have e1 : txt (.mk (m : Int) ⟨#[]⟩ []) = [36, (48 + m).toUInt8] := txt_var _ _ _ hv
    have e2 : (fl (.mk (m : Int) ⟨#[]⟩ [])).length = 1 := by simp [fl, flL]
    rw [e1, e2]
    exact h
  · have h0 := okCe_neg hc hv
    dsimp only at h0
    subst h0
    have hnm : name.size ≤ 4 := okCe_name hc
    have hm5 := okCe_many hc
    dsimp only at hm5
    have HTX : Hid (txt (.mk 0 name ks) = name.data.toList ++ txL 40 ks ++ (if ks.isEmpty then [] else [41])) := txt_fn _ _ _ hv
    obtain ⟨X, hX⟩ : ∃ X, Hid (X = txt (.mk 0 name ks)) := ⟨_, rfl⟩
    rw [← hX.out] at HTX ⊢
    obtain ⟨N, hN⟩ : ∃ N, Hid (N = (fl (.mk 0 name ks)).length) := ⟨_, rfl⟩
    rw [← hN.out] at hlen hpos hk ⊢
    have HFL : Hid (N = (flL ks).length + 1) := by show _ = _; rw [hN.out, fl, List.length_cons]
    have HOX : Hid (∀ c ∈ flL ks, okCe c = true) := hokx
    have hci := hrow a ha
    rw [← hd1] at hci
    obtain ⟨c0, c1, c2⟩ := hci
    dsimp only at c0 c1 c2
    obtain ⟨i0, hi, hz0, hz1, hz2⟩ := info_parts Tryd.infoU8
    obtain ⟨ao, capb, rfl⟩ := hown.form
    have HO : Hid (BRow w B (.slice ao l.length capb) l) := hown
    have ha' : (a : Int) < (T.length : Int) := by omega
    have HROW : Hid (∀ i, i < T.length → CeIn w g (o + i * 3) (ce T i)) := hrow
    have HDR : Hid (T.drop (a + 1) = flL ks ++ r) := hd2.symm
    have HLT : Hid (∀ k, (Value.slice ao l.length capb).ownBlock = some k → B ≤ k ∧ k < w.heap.size) := World.ownsRow.lt hown
    obtain ⟨W1, hW1⟩ : ∃ W, W = w.alloc (.cells #[.int .i64 0, .string name, .int .i64 (ks.length : Int)] 97) := ⟨_, rfl⟩
    have hB1 : Below B w W1 := by rw [hW1]; exact (Below.refl _ w).alloc hBw _
    have HS1 : Hid (W1.heap.size = w.heap.size + 1) := by show _ = _; rw [hW1]; simp
    have x0 : W1.cell? ⟨w.heap.size, 0, none⟩ = some (.int .i64 0) := by rw [hW1]; go_simp
    have x1 : W1.cell? ⟨w.heap.size, 1, none⟩ = some (.string name) := by rw [hW1]; go_simp
    have x2 : W1.cell? ⟨w.heap.size, 2, none⟩ = some (.int .i64 (ks.length : Int)) := by rw [hW1]; go_simp
    have hown1 : W1.ownsRow B 5 1 (.slice ao l.length capb) l.length (Lib.byteCells l) := by rw [hW1]; exact World.ownsRow.alloc HO.out _
    have hs1 : w.heap.size < W1.heap.size := by have := HS1.out; omega
    have hBs1 : B ≤ W1.heap.size := by omega
    have hk5 : ks.length ≤ 5 := by omega
    clear hown hrow hd1 hd2 hx hok hokx hc hv hX hN hm5
    go_enter Tryd.func55, Tryd.ntmps55
    go_upto_region 5 with fail
    rw [← hW1]
    clear hW1 c0 c1 c2
    go_wp2_with (at_builtin; refine Lib.wpList_append_own_string _ rfl _ _ 47 9 rfl B 5 i0 Tryd.underlying47 Tryd.underlying9 hi hz0 hz1 hz2 _ _ _ rfl hown1 name rfl ?c1 ?c2 hBs1 ?_)
    case c1 => unfold maxLen; omega
    case c2 => omega
    intro v2 w2 hown2 hgrow2 _
    have hne2 : some w.heap.size ≠ (Value.slice ao l.length capb).ownBlock := fun e => by have := (HLT.out _ e.symm).2; omega
    have y2 := (hgrow2.cell_far ⟨w.heap.size, 2, none⟩ hs1 hne2).trans x2
    have hB2 : Below B w w2 := hB1.grown hgrow2 hBs1 (fun k hk => (HLT.out k hk).1)
    have hBs2 : B ≤ w2.heap.size := by have := hgrow2.size; omega
    obtain ⟨L0, hL0⟩ : ∃ L, Hid (L = l ++ name.data.toList) := ⟨_, rfl⟩
    have hL0l : L0.length = l.length + name.size := by rw [hL0.out, List.length_append]; rfl
    have HL0l : Hid (L0.length = l.length + name.size) := hL0l
    have hrow2 : BRow w2 B v2 L0 := by
      unfold BRow
      have h1 : Lib.byteCells L0 = Lib.byteCells l ++ Lib.strCells name := by rw [hL0.out, strCells_bytes]; simp [Lib.byteCells]
      rw [h1, HL0l.out]
      exact hown2
    clear hown2 hown1 hgrow2 x0 x1 x2 hL0l
    obtain ⟨ao2, cap2, hv2⟩ := hrow2.form
    subst hv2
    have HR2 : Hid (BRow w2 B (.slice ao2 L0.length cap2) L0) := hrow2
    clear hrow2
    by_cases hk0 : ks.length = 0
    · have hks : ks = [] := List.length_eq_zero_iff.1 hk0
      have hfin : Hid (l ++ X = L0) := by show _ = _; rw [HTX.out, hL0.out, hks]; simp [txL]
      have hN1 : N = 1 := by rw [HFL.out, hks]; simp [flL]
      rw [hk0] at y2
      subst hN1
      clear hks
      go_wp2
      go_ret2
      exact ⟨_, rfl, by rw [hfin.out]; exact HR2.out, hB2⟩
    · have hk0' : ((ks.length : Int) == 0) = false := by rw [beq_eq_false_iff_ne]; omega
      have hk0n : (ks.length == 0) = false := by rw [beq_eq_false_iff_ne]; exact hk0
      go_wp2
      go_loopw [0, 9, 10, 38] (fun vb ve vm vi wr => ∃ (i b : Nat) (L : List UInt8), i ≤ ks.length ∧ b ≤ T.length ∧ a < b ∧ vi = .int .i64 (i : Int) ∧ ve = .int .i64 (b : Int) ∧ vm = .int .u8 (if i = 0 then 40 else 44) ∧ L.length + 7 * (T.length - b) + 2 ≤ 5000 ∧ Hid (L = L0 ++ txL 40 (ks.take i)) ∧ Hid (T.drop b = flL (ks.drop i) ++ r) ∧ Hid (BRow wr B vb L) ∧ Below B w wr ∧ B ≤ wr.heap.size)
        (fun _ _ _ vi _ => ks.length - (intOf vi).toNat)
      case atStart => exact ⟨0, a + 1, L0, by omega, by omega, by omega, rfl, by go_num, rfl, by rw [HL0l.out]; omega, by show _ = _; simp [txL], HDR, HR2, hB2, hBs2⟩
      case round =>
        obtain ⟨i, b, L, hik, hbT, hab, rfl, rfl, rfl, hLb, hL, hdr, hrow, hbw, hBs⟩ := hrel
        clear HR2
        obtain ⟨aor, capr, hvr⟩ := hrow.out.form
        subst hvr
        have hltr := World.ownsRow.lt hrow.out
        have HLTR : Hid (∀ k, (Value.slice aor L.length capr).ownBlock = some k → B ≤ k ∧ k < wr.heap.size) := hltr
        clear hltr
        by_cases hlt : i < ks.length
        · have hlt' : (i : Int) < (ks.length : Int) := by omega
          obtain ⟨t, ht⟩ : ∃ t, ks[i]? = some t := ⟨_, List.getElem?_eq_getElem hlt⟩
          have hkd : ks.drop i = t :: ks.drop (i + 1) := by
            rw [List.drop_eq_getElem_cons hlt]
            rw [List.getElem?_eq_getElem hlt] at ht
            cases ht
            rfl
          have hdt : T.drop b = fl t ++ (flL (ks.drop (i + 1)) ++ r) := by rw [hdr.out, hkd, flL, List.append_assoc]
          have hftl : b + (fl t).length + ((flL (ks.drop (i + 1))).length + r.length) = T.length := by
            have h1 := congrArg List.length hdt
            rw [List.length_drop, List.length_append, List.length_append] at h1
            have := fl_pos t
            omega
          have hftk : (fl t).length ≤ k := by omega
          have hokt : ∀ c ∈ fl t, okCe c = true := fun c hc => HOK.out c (by
            have h9 : c ∈ T.drop b := by rw [hdt]; exact List.mem_append_left _ hc
            exact List.mem_of_mem_drop h9)
          have htl := txt_len t hokt
          have hfp := fl_pos t
          obtain ⟨mk, hmk⟩ : ∃ mk : UInt8, Hid (mk = if i = 0 then 40 else 44) := ⟨_, rfl⟩
          have hmk9 : Hid ((if i = 0 then (40 : Int) else 44) = (mk.toNat : Int)) := by
            show _ = _
            rw [hmk.out]
            by_cases h9 : i = 0 <;> simp [h9]
          rw [hmk9.out]
          have HC : Hid (∀ (W : World) (vv : Value), Below B w W → BRow W B vv (L ++ [mk]) → B ≤ W.heap.size → Calls Tryd.prog 55 #[vv, .slice (some ⟨g, o, none⟩) T.length cap, .int .i64 (b : Int)] W fun e w' => ∃ v', e = .returned (.tuple #[v', .int .i64 ((b + (fl t).length : Nat) : Int)]) ∧ BRow w' B v' (L ++ [mk] ++ txt t) ∧ Below B W w') := fun W vv h1 h2 h3 =>
            ih.out t _ b (L ++ [mk]) vv B W hftk hdt (fun j hj => (HROW.out j hj).below h1 hg) hg h2 h3 (by simp; omega)
          have hstep : Hid (L ++ [mk] ++ txt t = L0 ++ txL 40 (ks.take (i + 1))) := by
            show _ = _
            rw [List.take_add_one, ht, Option.toList_some, txL_snoc, hL.out, hmk.out]
            have hb9 : (List.take i ks).isEmpty = decide (i = 0) := by
              cases i with
              | zero => rfl
              | succ i =>
                cases ks with
                | nil => simp at hlt
                | cons _ _ => rfl
            rw [hb9]
            by_cases h9 : i = 0 <;> simp [h9]
          have hdn : Hid (T.drop (b + (fl t).length) = flL (ks.drop (i + 1)) ++ r) := by
            show _ = _
            rw [← List.drop_drop, hdt]
            simp
          have hmk10 : Hid ((if i + 1 = 0 then (40 : Int) else 44) = 44) := by show _ = _; simp
          generalize hft : (fl t).length = ft at HC hftl htl hfp hdn
          generalize htx : txt t = tx at HC htl hstep
          clear hft htx hftk hdt hkd ht hokt hmk hmk9 hdr hL
          have hownr : wr.ownsRow B 5 1 (.slice aor L.length capr) L.length (Lib.byteCells L) := hrow.out
          have HX : Hid (i + 1 ≤ ks.length ∧ b + ft ≤ T.length ∧ a < b + ft ∧ L.length + 1 + tx.length + 7 * (T.length - (b + ft)) + 2 ≤ 5000) := by show _ ∧ _; omega
          go_wp2_with (at_builtin; refine wpList_append_own _ rfl _ _ 47 rfl B 5 i0 (.int .u8 0) 1 1 Tryd.underlying47 hi hz0 hz1 hz2 rfl (by decide) _ _ _ rfl (hownr.alloc _) ⟨wr.heap.size, 0, none⟩ 1 1 [Value.int .u8 (mk.toNat : Int)] rfl rfl ?c1 ?c2 ?c3 ?c4 ?c5 ?_)
          case c1 =>
            intro j u hj
            match j, hj with
            | 0, hj => simp at hj; subst hj; simp [Addr.add]
            | j + 1, hj => simp at hj
          case c2 => exact oneU8
          case c3 => unfold maxLen; omega
          case c4 => omega
          case c5 => simp; omega
          intro v3 w3 hown3 hgrow3 _
          have hB3 : Below B w w3 := (hbw.alloc hBs _).grown hgrow3 (by simp; omega) (fun k hk => (HLTR.out k hk).1)
          have hBs3 : B ≤ w3.heap.size := by have := hgrow3.size; simp at this; omega
          have hrow3 : Hid (BRow w3 B v3 (L ++ [mk])) := by
            show BRow _ _ _ _
            unfold BRow
            rw [byteCells_push, List.length_append]
            exact hown3
          clear hown3 hgrow3 hownr hrow
          obtain ⟨ao3, cap3, hv3⟩ : ∃ ao cap, v3 = Value.slice ao (L.length + 1) cap := by
            obtain ⟨a1, k1, h1⟩ := hrow3.out.form
            exact ⟨a1, k1, by rw [h1, List.length_append]; rfl⟩
          subst hv3
          go_wp2_with fail
          refine (HC.out _ _ hB3 hrow3.out hBs3).mono ?_
          rintro e w4 ⟨v4, rfl, hrow4, hb4⟩
          have HR4 : Hid (BRow w4 B v4 (L ++ [mk] ++ tx)) := hrow4
          have hB4 : Below B w w4 := hB3.trans hb4
          have hBs4 : B ≤ w4.heap.size := by have := hb4.size; omega
          clear hrow4 hb4
          go_wp2
          go_roundw
          case rel =>
            refine ⟨i + 1, b + ft, L ++ [mk] ++ tx, HX.out.1, HX.out.2.1, HX.out.2.2.1, by go_num, by go_num, by rw [hmk10.out], ?_, hstep.out, hdn, HR4, hB4, hBs4⟩
            rw [List.length_append, List.length_append, List.length_singleton]
            exact HX.out.2.2.2
          case measure => have := HX.out.1; simp [intOf]; omega
        · have hke : i = ks.length := by omega
          have hge : ¬ ((i : Int) < (ks.length : Int)) := by omega
          have hgen : decide (i < ks.length) = false := by simpa using hlt
          have hbN : b = a + N := by
            have h1 := congrArg List.length hdr.out
            rw [hke, List.drop_length, List.length_drop] at h1
            simp [flL] at h1
            omega
          have hfin : Hid (l ++ X = L ++ [41]) := by
            show _ = _
            rw [HTX.out, hL.out, hL0.out, hke, List.take_length]
            have : ks.isEmpty = false := by
              cases ks with
              | nil => simp at hk0
              | cons _ _ => rfl
            rw [this]
            simp
          subst hbN
          clear hke hL hdr
          have hownr : wr.ownsRow B 5 1 (.slice aor L.length capr) L.length (Lib.byteCells L) := hrow.out
          go_wp2_with (at_builtin; refine wpList_append_own _ rfl _ _ 47 rfl B 5 i0 (.int .u8 0) 1 1 Tryd.underlying47 hi hz0 hz1 hz2 rfl (by decide) _ _ _ rfl (hownr.alloc _) ⟨wr.heap.size, 0, none⟩ 1 1 [Value.int .u8 41] rfl rfl ?c1 ?c2 ?c3 ?c4 ?c5 ?_)
          case c2 => rfl
          case c3 => unfold maxLen; omega
          case c4 => omega
          case c5 => omega
          intro v3 w3 hown3 hgrow3 _
          have hB3 : Below B w w3 := (hbw.alloc hBs _).grown hgrow3 (by simp; omega) (fun k hk => (HLTR.out k hk).1)
          have hrow3 : Hid (BRow w3 B v3 (L ++ [41])) := by
            show BRow _ _ _ _
            unfold BRow
            rw [byteCells_push, List.length_append]
            exact hown3
          clear hown3 hgrow3 hownr hrow
          go_wp2
          go_ret2
          exact ⟨_, rfl, by rw [hfin.out]; exact hrow3.out, hB3⟩

theorem appC_all (T : List Ce) (g o cap : Nat) (hlc : T.length ≤ cap) (hcm : cap ≤ 9223372036854775807) (h30 : T.length ≤ 30) (hok : ∀ c ∈ T, okCe c = true) : ∀ k, AppC T g o cap k := by
  intro k
  induction k with
  | zero =>
    intro x r a l sv B w hk
    have := fl_pos x
    omega
  | succ k ih => exact appC_step T g o cap hlc hcm h30 hok k ih

set_option maxRecDepth 100000 in
set_option maxHeartbeats 4000000 in
theorem implText (T : List Ce) (v : Value) (w : World) (hT : CesAt w w.heap.size v T) :
    Calls Tryd.prog 20 #[.agg #[v]] w fun e w' => e = .returned (.tuple #[.string ⟨(xof T).1.toArray⟩, .bool (xof T).2]) ∧ Below w.heap.size w w' := by
  have HT : Hid (CesAt w w.heap.size v T) := hT
  obtain ⟨R, hR⟩ : ∃ R, Hid (R = xof T) := ⟨_, rfl⟩
  rw [← hR.out]
  by_cases hg : gt T = true
  · obtain ⟨h30, x, hx⟩ := gt_tre hg
    have hfl := tre_fl hx
    have hpos : 0 < T.length := by rw [hfl]; exact fl_pos x
    obtain ⟨g, o, cap, rfl, hlc, hcm, hgB, hrow, _⟩ := hT.open hpos
    have hcm' : cap ≤ 9223372036854775807 := by unfold maxLen at hcm; omega
    have hB1 : Below w.heap.size w (w.alloc (.cells #[.slice (some ⟨g, o, none⟩) T.length cap] 30)) := (Below.refl _ w).alloc (Nat.le_refl _) _
    have hRR : Hid (R = (txt x, true)) := hR.out.trans (xof_yes hg hx)
    have htpos : Hid (0 < (txt x).length) := by
      show 0 < _
      obtain ⟨xv, xn, xks⟩ := x
      have hokc := gt_ok hg ⟨xv, xn, (xks.length : Int)⟩ (by rw [hfl, fl]; exact List.mem_cons_self)
      by_cases hv : 0 < xv
      · rw [txt_var _ _ _ hv]; simp
      · rw [txt_fn _ _ _ hv]
        have h0 := okCe_neg hokc hv
        unfold okCe at hokc
        rw [if_pos h0] at hokc
        simp [okFn, okName, isName] at hokc
        have h3 : xn.data.toList.length = xn.size := Array.length_toList
        rw [List.length_append, List.length_append, h3]
        omega
    have HC : Hid (∀ W : World, Below w.heap.size w W → Calls Tryd.prog 55 #[.slice none 0 0, .slice (some ⟨g, o, none⟩) T.length cap, .int .i64 0] W fun e w' => ∃ v', e = .returned (.tuple #[v', .int .i64 ((0 + (fl x).length : Nat) : Int)]) ∧ BRow w' W.heap.size v' (txt x) ∧ Below W.heap.size W w') := fun W hW => by
      have hs := hW.size
      have h9 := appC_all T g o cap hlc hcm' h30 (gt_ok hg) (fl x).length x [] 0 [] (.slice none 0 0) W.heap.size W (Nat.le_refl _) (by rw [List.drop_zero, hfl]; simp) (fun i hi => (hrow i hi).below hW hgB) (by omega) (World.ownsRow_nil _ _ _ _) (Nat.le_refl _) (by simp; omega)
      exact h9
    have HG : Hid (∀ W : World, Below w.heap.size w W → Calls Tryd.prog 31 #[.agg #[.slice (some ⟨g, o, none⟩) T.length cap]] W fun e w' => e = .returned (.bool true) ∧ Below W.heap.size W w') := fun W hW => by
      have h9 := implGoodT T _ W (HT.out.below hW)
      rw [hg] at h9
      exact h9
    generalize (0 + (fl x).length : Nat) = en at HC
    generalize txt x = tx at HC hRR htpos
    clear hrow hfl hx hT
    go_enter Tryd.func20, Tryd.ntmps20
    go_wp2_with fail
    refine (HG.out _ hB1).mono ?_
    rintro e w2 ⟨rfl, hb2⟩
    have hB2 : Below w.heap.size w w2 := hB1.trans (hb2.mono (by simp))
    have x2 : w2.cell? ⟨w.heap.size, 0, none⟩ = some (.slice (some ⟨g, o, none⟩) T.length cap) := (hb2.cell (p := ⟨w.heap.size, 0, none⟩) (by simp)).trans (by simp)
    clear hb2
    go_wp2_with fail
    refine (HC.out _ hB2).mono ?_
    rintro e w3 ⟨v3, rfl, hrow3, hb3⟩
    have hB3 : Below w.heap.size w w3 := hB2.trans (hb3.mono hB2.size)
    obtain ⟨g3, cap3, hv3⟩ := Joins.ownsRow_form hrow3 htpos.out
    subst hv3
    have hc := convert_own w3 w2.heap.size g3 cap3 tx hrow3
    clear hrow3 hb3
    go_wp2
    go_ret2
    rw [hRR.out]
    exact ⟨rfl, hB3⟩
  · have hg' : gt T = false := by simpa using hg
    have hRR : Hid (R = ([], false)) := hR.out.trans (xof_no hg')
    obtain ⟨ao, cap, rfl, _⟩ := hT
    have hB1 : Below w.heap.size w (w.alloc (.cells #[.slice ao T.length cap] 30)) := (Below.refl _ w).alloc (Nat.le_refl _) _
    clear hg
    go_enter Tryd.func20, Tryd.ntmps20
    go_wp2_with fail
    refine (implGoodT T _ _ (HT.out.below hB1)).mono ?_
    rintro e w2 ⟨rfl, hb2⟩
    rw [hg']
    have hB2 : Below w.heap.size w w2 := hB1.trans (hb2.mono (by simp))
    go_wp2
    go_ret2
    rw [hRR.out]
    exact ⟨rfl, hB2⟩

end Go.Proofs.YtlmhjkcollohnaaDoor
