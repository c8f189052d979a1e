/- The program's reading of a stream: a whole frame told, one byte more taken. -/
import Derived.Test.YtcpjbacjmmbabaaFxF
namespace Go.Proofs.Ytcpjbacjmmbabaa
attribute [local go_sem ↓] Go.wp_at_zero Go.wp_at_succ
open Go.RowKit Plain Tpc Frm

theorem below_drewNF {B n : Nat} {a w : World} (h : Below B a w) : Below B a (w.drewN n) := ⟨h.os, h.tape, h.output, h.size, h.block⟩

/-- what telling does -/
def tl (T : List ByteArray) (l : List UInt8) : List ByteArray × Bool := if l = frame (mid l) then (T ++ [tx (mid l)], false) else (T, true)

set_option maxRecDepth 100000 in
set_option maxHeartbeats 4000000 in
theorem tell_any (w : World) (b B : Nat) (vt vr : Value) (T : List ByteArray) (l : List UInt8) (h : Um w b B vt vr T l false) (hBw : B ≤ w.heap.size) (hl3 : 3 ≤ l.length) (hl63 : l.length ≤ 63) (hT : T.length ≤ 1000000) :
    Calls Try.prog 70 #[.pointer (some ⟨b, 0, none⟩)] w fun e w' => e = .returned (.tuple #[]) ∧ ∃ vt' vr', Um w' b B vt' vr' (tl T l).1 [] (tl T l).2 ∧ Pu w w' b vt vr vt' vr' := by
  obtain ⟨i0, hi, hz0, hz1, hz2⟩ := info_parts infoStr
  have HU : Hid (Um w b B vt vr T l false) := h
  have CG := fun W (h : Um W b B vt vr T l false) => giveUp_any W b B vt vr T l false h
  have HCG : Hid (type_of% CG) := CG
  clear CG
  obtain ⟨h1, h2, h3, h4, h5, h6, h7, h8, h9, h10, h11, h12⟩ := h
  have hR := h9
  obtain ⟨ao, cap, rfl, hlc, hcm⟩ := h9.form
  obtain ⟨g, rfl, hgw, _⟩ := hR.cellB (i := 0) (by omega)
  unfold maxLen at hcm
  obtain ⟨at_, ct, rfl⟩ := h8.slice
  have hms : (tx (mid l)).size ≤ 60 := by rw [tx_size]; unfold mid; rw [List.length_take]; omega
  have CF : Hid (∀ W, Calls Try.prog 48 #[.string (tx (mid l))] W fun e w' => e = .returned (.string (frm (tx (mid l)))) ∧ Below W.heap.size W w') := fun W => frameOf_any _ W hms
  obtain ⟨cc, hcc⟩ : ∃ cc, cc = decide (l = frame (mid l)) := ⟨_, rfl⟩
  have HD : Hid (tl T l = (if cc = true then (T ++ [tx (mid l)], false) else (T, true))) := by
    show _ = _
    unfold tl
    rw [hcc]
    simp
  have HX : Hid (((tx l).toList == (frm (tx (mid l))).toList) = cc) := by
    show _ = _
    rw [str_eqB, hcc, decide_eq_decide]
    constructor
    · intro e
      have := congrArg ul e
      exact this
    · intro e
      exact ul_inj e
  have KM : Hid (∀ W, Below w.heap.size w W → W.cell? ⟨b, 1, none⟩ = some (Value.slice (some ⟨g, 0, none⟩) l.length cap) ∧ (convert 51 9 (.slice (some ⟨g, 2, none⟩) (l.length - 1 - 2) (cap - 2))).run Try.prog W = .ok (.string (tx (mid l))) W) := fun W hW => ⟨(hW.cell (p := ⟨b, 1, none⟩) h1).trans h3, by
    rw [show l.length - 1 - 2 = l.length - 3 by omega]
    exact hR.convMid hl3 (fun i => hW.cell (p := ⟨g, i, none⟩) hgw) _⟩
  have KW : Hid (∀ W, Below w.heap.size w W → W.cell? ⟨b, 1, none⟩ = some (Value.slice (some ⟨g, 0, none⟩) l.length cap) ∧ (convert 51 9 (.slice (some ⟨g, 0, none⟩) l.length cap)).run Try.prog W = .ok (.string (tx l)) W) := fun W hW => ⟨(hW.cell (p := ⟨b, 1, none⟩) h1).trans h3, (hR.below hW).conv⟩
  have hc2 : ¬ cap = 2 := by omega
  have hwr : IntKind.i64.wrap ((l.length : Int) - 1) = (l.length : Int) - 1 := by rw [IntKind.wrap_i64]; omega
  have hb1 : (2 : Int) ≤ (l.length : Int) - 1 := by omega
  have hb2 : (l.length : Int) - 1 ≤ (cap : Int) := by omega
  have hlI : (3 : Int) ≤ (l.length : Int) := by omega
  have hlc' : (l.length : Int) ≤ (cap : Int) := by omega
  have hl63' : (l.length : Int) ≤ 63 := by omega
  clear hcc h8 h9 h10 h11 h12
  go_enter Try.func70, Try.ntmps70
  go_wp2_with fail
  go_region_held3 (fun W => W.cell? ⟨b, 1, none⟩ = some (Value.slice (some ⟨g, 0, none⟩) l.length cap) ∧ (convert 51 9 (.slice (some ⟨g, 2, none⟩) (l.length - 1 - 2) (cap - 2))).run Try.prog W = .ok (.string (tx (mid l))) W) (exact KM.out _ (Below.refl _ w).drew) (fail)
  clear KM
  generalize tx (mid l) = t at CF HD HX hms
  go_wp2_with fail
  go_region_held3 (fun W => W.cell? ⟨b, 1, none⟩ = some (Value.slice (some ⟨g, 0, none⟩) l.length cap) ∧ (convert 51 9 (.slice (some ⟨g, 0, none⟩) l.length cap)).run Try.prog W = .ok (.string (tx l)) W) (first | exact KW.out _ (Below.refl _ w).drew.drew | exact KW.out _ hB2) ((go_at_call 48; refine (CF.out _).mono ?_; rintro e w2 ⟨rfl, hb2⟩; have hB2 : Below w.heap.size w w2 := (Below.refl _ w).drew.drew.trans (hb2.mono (by simp))))
  rw [HX.out]
  have hPB : Pu w w2 b (.slice at_ T.length ct) (.slice (some ⟨g, 0, none⟩) l.length cap) (.slice at_ T.length ct) (.slice (some ⟨g, 0, none⟩) l.length cap) := Pu.of_below hB2
  have HPB : Hid (type_of% hPB) := hPB
  have U2 := HU.out.belowU hB2
  have HU2 : Hid (type_of% U2) := U2
  clear KW CF HX hPB hb2
  cases cc with
  | false =>
    have CGU := HCG.out _ U2
    clear U2
    go_wp2_with fail
    go_at_call 68
    refine CGU.mono ?_
    rintro e w3 ⟨rfl, vr3, hU3, hP3⟩
    go_wp2_with fail
    (try simp only [Exit.inBlock, Exit.then])
    refine bodyPost_ret (results_none rfl _ _ _) rfl ?_
    exact ⟨rfl, _, _, by rw [HD.out]; exact hU3, HPB.out.trans hP3⟩
  | true =>
    clear HCG
    have hs2 := hB2.size
    have hown1 : Hid (w2.ownsRow B 9 1 (.slice at_ T.length ct) T.length (strs T)) := U2.ownT
    have j0 := U2.c0
    have y0 := U2.f0
    have hbl := U2.low
    have hne0 : some b ≠ (Value.slice at_ T.length ct).ownBlock := fun e => U2.aptT b e.symm rfl
    have S1a : ∀ o, (w2.alloc o).cell? ⟨b, 0, none⟩ = some (.slice at_ T.length ct) := fun o => (((Below.refl w2.heap.size w2).alloc (Nat.le_refl _) o).cell (p := ⟨b, 0, none⟩) hbl).trans j0
    have f1a : ∀ o, (w2.alloc o).frozen? ⟨b, 0, none⟩ = false := fun o => (((Below.refl w2.heap.size w2).alloc (Nat.le_refl _) o).frozen (p := ⟨b, 0, none⟩) hbl).trans y0
    clear U2
    go_wp2_with (at_builtin; refine wpList_append_lies _ rfl _ _ 27 rfl B 9 i0 (.string ByteArray.empty) 1 16 Try.underlying27 hi hz0 hz1 hz2 rfl (by decide) _ T.length _ rfl (World.ownsRow.alloc hown1.out _) ⟨w2.heap.size, 0, none⟩ 1 1 [Value.string t] rfl rfl (World.news_of_block (heap_alloc_new w2 _)) (by intro u hu; simp at hu; subst hu; rfl) (by omega) (by unfold maxLen; omega) (by omega) (by simp; omega) (w2.heap.size + 1) (by simp) ?_; intro g9 cap9 w9 hown9 hgrow9 hat9 hlt9; have s9 := (hgrow9.cell_far ⟨b, 0, none⟩ (by simp; omega) hne0).trans (S1a _); have f9 : w9.frozen? ⟨b, 0, none⟩ = false := (World.frozen?_of_block (hgrow9.block b (by simp; omega) hne0)).trans (f1a _); have hend := pushT_end HU2.out hown9 hgrow9 hat9; have HEND : Hid (type_of% hend) := hend; have j1 := hend.1.c1; have y1 := hend.1.f1; clear hend hown9 hgrow9 hat9)
    go_end0
    have hcl := HEND.out.1.cleared
    exact ⟨rfl, _, _, by rw [HD.out]; exact hcl.1, (HPB.out.trans HEND.out.2).trans hcl.2⟩

/-- one byte more: texts as such -/
def tkT (T : List ByteArray) (r : List UInt8) (bad : Bool) (x : UInt8) : List ByteArray × List UInt8 × Bool :=
  if bad = true then (T, r, true)
  else if hdOk (r ++ [x]) = false then (T, [], true)
  else if allOk (r ++ [x]) = true then ((tl T (r ++ [x])).1, [], (tl T (r ++ [x])).2)
  else (T, r ++ [x], false)

theorem allOk_len {l : List UInt8} (h : allOk l = true) (h2 : hdOk l = true) : 3 ≤ l.length ∧ l.length ≤ 63 := by
  unfold allOk at h
  unfold hdOk at h2
  simp only [Bool.and_eq_true, Bool.or_eq_true, decide_eq_true_eq] at h h2
  omega

set_option maxRecDepth 100000 in
set_option maxHeartbeats 4000000 in
theorem take_any (w : World) (b B : Nat) (vt vr : Value) (T : List ByteArray) (r : List UInt8) (bad : Bool) (x : UInt8) (h : Um w b B vt vr T r bad) (hBw : B ≤ w.heap.size) (hr : r.length ≤ 1000) (hT : T.length ≤ 1000000) :
    Calls Try.prog 62 #[.pointer (some ⟨b, 0, none⟩), .int .u8 ((x.toNat : Nat) : Int)] w fun e w' => e = .returned (.tuple #[]) ∧ ∃ vt' vr', Um w' b B vt' vr' (tkT T r bad x).1 (tkT T r bad x).2.1 (tkT T r bad x).2.2 ∧ Pu w w' b vt vr vt' vr' := by
  obtain ⟨i0, hi, hz0, hz1, hz2⟩ := info_parts infoB8
  have HU : Hid (Um w b B vt vr T r bad) := h
  cases bad with
  | true =>
    have j2 := h.c2
    have HE : Hid (tkT T r true x = (T, r, true)) := rfl
    clear h
    go_enter Try.func62, Try.ntmps62
    go_wp2_with fail
    (try simp only [Exit.inBlock, Exit.then])
    refine bodyPost_ret (results_none rfl _ _ _) rfl ?_
    exact ⟨rfl, _, _, by rw [HE.out]; exact HU.out, Pu.refl _ _ _ _⟩
  | false =>
    obtain ⟨R, hR⟩ : ∃ R, R = tkT T r false x := ⟨_, rfl⟩
    have HR : Hid (R = if hdOk (r ++ [x]) = false then (T, [], true) else if allOk (r ++ [x]) = true then ((tl T (r ++ [x])).1, [], (tl T (r ++ [x])).2) else (T, r ++ [x], false)) := by
      show _ = _
      rw [hR]
      unfold tkT
      rw [if_neg (by simp)]
    rw [← hR]
    clear hR
    obtain ⟨ar, cr, rfl, _, _⟩ := h.ownR.form
    have j1 := h.c1
    have j2 := h.c2
    have y1 := h.f1
    have hbl := h.low
    have hown1 : Hid (GRow w B (.slice ar r.length cr) r) := h.ownR
    have hne0 : some b ≠ (Value.slice ar r.length cr).ownBlock := fun e => h.aptR b e.symm rfl
    have S1a : ∀ o, (w.alloc o).cell? ⟨b, 1, none⟩ = some (.slice ar r.length cr) := fun o => (((Below.refl w.heap.size w).alloc (Nat.le_refl _) o).cell (p := ⟨b, 1, none⟩) hbl).trans j1
    have f1a : ∀ o, (w.alloc o).frozen? ⟨b, 1, none⟩ = false := fun o => (((Below.refl w.heap.size w).alloc (Nat.le_refl _) o).frozen (p := ⟨b, 1, none⟩) hbl).trans y1
    clear h
    go_enter Try.func62, Try.ntmps62
    go_wp2_with (at_builtin; refine wpList_gAppend _ rfl _ _ rfl B i0 hi hz0 hz1 hz2 _ r rfl (hown1.out.alloc _) x ⟨w.heap.size, 0, none⟩ 1 rfl (by simp) (by omega) (by simp; omega) (w.heap.size + 1) (by simp) ?_; intro g9 cap9 w9 hown9 hgrow9 hat9; have s9 := (hgrow9.cell_far ⟨b, 1, none⟩ (by simp; omega) hne0).trans (S1a _); have f9 : w9.frozen? ⟨b, 1, none⟩ = false := (World.frozen?_of_block (hgrow9.block b (by simp; omega) hne0)).trans (f1a _); have hend := pushR_end HU.out hown9 hgrow9 hat9; have HEND : Hid (type_of% hend) := hend; clear hend hown9 hgrow9 hat9 S1a f1a)
    obtain ⟨W, hW⟩ : ∃ W, W = w9.setCell ⟨b, 1, none⟩ (.slice (some ⟨g9, 0, none⟩) (r.length + 1) cap9) := ⟨_, rfl⟩
    rw [← hW]
    rw [← hW] at HEND
    clear hW s9 f9
    have hLl : (r ++ [x]).length ≤ 1001 ∧ 0 < (r ++ [x]).length := by rw [List.length_append, List.length_singleton]; omega
    obtain ⟨vr, hvr⟩ : ∃ v, v = Value.slice (some ⟨g9, 0, none⟩) (r.length + 1) cap9 := ⟨_, rfl⟩
    rw [← hvr]
    rw [← hvr] at HEND
    clear hvr
    generalize r ++ [x] = L at HEND HR hLl
    have hU := HEND.out.1
    have k1 := hU.c1
    have CH := isHead_any W B vr L hU.ownR hLl.2
    have CA : Hid (Calls Try.prog 69 #[vr] W fun e w' => e = .returned (.bool (allOk L)) ∧ w' = W) := hasAll_any W B vr L hU.ownR
    have CGU := giveUp_any W b B _ vr T L false hU
    have CTE := fun h1 h2 => tell_any W b B _ vr T L hU (Nat.le_trans hBw HEND.out.2.size) h1 h2 hT
    have HGU : Hid (type_of% CGU) := CGU
    have HTE : Hid (type_of% CTE) := CTE
    clear CGU CTE hU
    by_cases hh : hdOk L = true
    · rw [hh] at CH
      refine CH.mono ?_
      rintro e w3 ⟨rfl, h0⟩
      have h0 := h0.symm
      subst h0
      by_cases ha : allOk L = true
      · have HF : Hid (R = ((tl T L).1, [], (tl T L).2)) := by show _ = _; rw [HR.out, hh, ha]; rfl
        obtain ⟨hl3, hl63⟩ := allOk_len ha hh
        have C3 := HTE.out hl3 hl63
        rw [ha] at CA
        clear HR hh ha HTE HGU
        go_wp2_with fail
        go_at_call 69
        refine CA.out.mono ?_
        rintro e w4 ⟨rfl, h0⟩
        have h0 := h0.symm
        subst h0
        go_wp2_with fail
        go_at_call 70
        refine C3.mono ?_
        rintro e w5 ⟨rfl, vt5, vr5, hU5, hP5⟩
        go_wp2_with fail
        go_end0
        exact ⟨rfl, _, _, by rw [HF.out]; exact hU5, HEND.out.2.trans hP5⟩
      · have ha' : allOk L = false := by simpa using ha
        have HF : Hid (R = (T, L, false)) := by show _ = _; rw [HR.out, hh, ha']; rfl
        rw [ha'] at CA
        clear HR hh ha ha' HTE HGU
        go_wp2_with fail
        go_at_call 69
        refine CA.out.mono ?_
        rintro e w4 ⟨rfl, h0⟩
        have h0 := h0.symm
        subst h0
        go_wp2_with fail
        go_end0
        exact ⟨rfl, _, _, by rw [HF.out]; exact HEND.out.1, HEND.out.2⟩
    · have hh' : hdOk L = false := by simpa using hh
      have HF : Hid (R = (T, [], true)) := by show _ = _; rw [HR.out, hh']; rfl
      rw [hh'] at CH
      refine CH.mono ?_
      rintro e w3 ⟨rfl, h0⟩
      have h0 := h0.symm
      subst h0
      have C3 := HGU.out
      clear HR hh hh' HTE HGU CA
      go_wp2_with fail
      go_at_call 68
      refine C3.mono ?_
      rintro e w5 ⟨rfl, vr5, hU5, hP5⟩
      go_wp2_with fail
      go_end0
      exact ⟨rfl, _, _, by rw [HF.out]; exact hU5, HEND.out.2.trans hP5⟩

end Go.Proofs.Ytcpjbacjmmbabaa
