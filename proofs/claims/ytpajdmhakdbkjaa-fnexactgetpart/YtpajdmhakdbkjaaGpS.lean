/- The model's GetPart at every argument. -/
import Derived.Test.YtpajdmhakdbkjaaGpI
import Derived.Test.YtpajdmhakdbkjaaPfH
namespace Go.Proofs.Ytpajdmhakdbkjaa
open Go.RowKit Plain Sch

theorem fieldV4 (a : Int) (n : ByteArray) (c : Int) (m : Bool) (ac : Option Addr) (lc cc : Nat) (w : World) : (Instr.field 78 (.agg #[.int .i64 a, .string n, .int .i64 c, .bool m, .slice ac lc cc]) 4).run Try.prog w = .ok (.slice ac lc cc) w := by kernel_rfl

set_option maxRecDepth 100000 in
set_option maxHeartbeats 4000000 in
theorem specGet (V T : List Ty) (vv' v : Value) (no : Int) (w : World) (hV : NdsAt w w.heap.size vv' V) (hT : TysAt w w.heap.size v T) (hl : V.length ≤ 2097152) :
    Calls Try.prog 16 #[.agg #[vv'], .agg #[v], .int .i64 no] w fun e w' => OValue w w' e (gpo V T no) := by
  have HV : Hid (NdsAt w w.heap.size vv' V) := hV
  have HT : Hid (TysAt w w.heap.size v T) := hT
  obtain ⟨R, hR⟩ : ∃ R, R = gpo V T no := ⟨_, rfl⟩
  rw [← hR]
  have HR : Hid (R = gpo V T no) := hR
  clear hR
  obtain ⟨av, capv, rfl, hlv, hcv, _⟩ := hV
  obtain ⟨aa, capa, rfl, hla, hca, _⟩ := hT
  have hcv' : capv ≤ 9223372036854775807 := by unfold maxLen at hcv; omega
  have hca' : capa ≤ 9223372036854775807 := by unfold maxLen at hca; omega
  obtain ⟨W2, hW2⟩ : ∃ W, W = ((w.alloc (.cells #[.slice av V.length capv] 29)).alloc (.cells #[.slice aa T.length capa] 25)).alloc (.cells #[.slice none 0 0] 29) := ⟨_, rfl⟩
  have hB2 : Below w.heap.size w W2 := by rw [hW2]; exact (((Below.refl _ w).alloc (Nat.le_refl _) _).alloc (by simp) _).alloc (by simp; omega) _
  have HS2 : Hid (W2.heap.size = w.heap.size + 3) := by show _ = _; rw [hW2]; simp
  have k0 : W2.cell? ⟨w.heap.size, 0, none⟩ = some (.slice av V.length capv) := by rw [hW2]; go_simp
  have k1 : W2.cell? ⟨w.heap.size + 1, 0, none⟩ = some (.slice aa T.length capa) := by rw [hW2]; go_simp
  have k2 : W2.cell? ⟨w.heap.size + 2, 0, none⟩ = some (.slice none 0 0) := by rw [hW2]; go_simp
  have k3 : W2.frozen? ⟨w.heap.size + 2, 0, none⟩ = false := by rw [hW2]; go_simp
  have HC2 : Hid (∀ W : World, Below W2.heap.size W2 W → (W.cell? ⟨w.heap.size, 0, none⟩ = some (.slice av V.length capv) ∧ W.cell? ⟨w.heap.size + 1, 0, none⟩ = some (.slice aa T.length capa) ∧ W.cell? ⟨w.heap.size + 2, 0, none⟩ = some (.slice none 0 0) ∧ W.frozen? ⟨w.heap.size + 2, 0, none⟩ = false ∧ w.heap.size + 2 < W.heap.size) ∧ Below w.heap.size w W) := fun W hW => by
    have hs := HS2.out
    have h2 := hW.size
    exact ⟨⟨(hW.cell (p := ⟨w.heap.size, 0, none⟩) (by show w.heap.size < _; omega)).trans k0, (hW.cell (p := ⟨w.heap.size + 1, 0, none⟩) (by show w.heap.size + 1 < _; omega)).trans k1, (hW.cell (p := ⟨w.heap.size + 2, 0, none⟩) (by show w.heap.size + 2 < _; omega)).trans k2, (hW.frozen (p := ⟨w.heap.size + 2, 0, none⟩) (by show w.heap.size + 2 < _; omega)).trans k3, by omega⟩, hB2.trans (hW.mono hB2.size)⟩
  have hle : w.heap.size ≤ w.heap.size + 2 := by omega
  unfold OValue
  go_enter Try.func16, Try.ntmps16
  go_upto_region 1 with fail
  rw [← hW2]
  obtain ⟨q0, q1, q2, q3, hz2⟩ := (HC2.out _ (Below.refl _ _)).1
  clear hW2 k0 k1 k2 k3
  go_wp2_with fail
  refine (specFits V T _ _ _ (HV.out.below hB2) (HT.out.below hB2) hl).mono ?_
  rintro e w3 ⟨rfl, hb3⟩
  clear q0 q1 q2 q3 hz2
  obtain ⟨⟨q0, q1, q2, q3, hz3⟩, hB3⟩ := HC2.out _ hb3
  rcases hf : fof4 V T with _ | _
  · have hn : Hid (R = ([], false)) := HR.out.trans (gpo_fit hf)
    clear hf HR
    go_wp2
    (try simp only [Exit.inBlock, Exit.then])
    refine bodyPost_ret (v := .tuple #[.agg #[.slice none 0 0], .bool false]) ?_ rfl ⟨.slice none 0 0, by rw [hn.out], ?_, ?_⟩
    · rw [results_cell_tmp rfl]
      go_simp
    · rw [hn.out]
      exact World.ownsRow_nil _ _ _ _
    · exact hB3.setCell (p := ⟨w.heap.size + 2, 0, none⟩) hle _
  have HF : Hid (fof4 V T = true) := hf
  clear hf
  have hV1 := (fit_flat HF.out).1
  have hV40 := (fit_flat HF.out).2.1
  have hT1 : 0 < T.length ∧ T.length ≤ 30 := by have := gs_types T (fit_flat HF.out).2.2.1; omega
  obtain ⟨TT, hTT⟩ : ∃ t, Hid (t = tree T 41 0) := ⟨_, rfl⟩
  have OP : Hid (Calls Try.prog 45 #[.agg #[.slice aa T.length capa], .int .i64 0] w3 fun e w' => ∃ ac lc cc, e = .returned (.agg #[.int .i64 TT.kind, .string TT.name, .int .i64 TT.no, .bool TT.must, .int .i64 TT.most, .slice ac lc cc]) ∧ KidsIn 41 w' (fun g => w3.heap.size ≤ g ∧ g < w'.heap.size) (.slice ac lc cc) TT.kids ∧ Below w3.heap.size w3 w') := lt_root T _ w3 (HT.out.below hB3) (by omega) (by omega) TT hTT.out
  go_wp2_with fail
  refine OP.out.mono ?_
  rintro e w4 ⟨ac, lc, cc, rfl, hpk, hb4⟩
  have hb24 : Below W2.heap.size W2 w4 := hb3.trans (hb4.mono hb3.size)
  clear OP q0 q1 q2 q3 hz3
  obtain ⟨⟨q0, q1, q2, q3, hz4⟩, hB4⟩ := HC2.out _ hb24
  obtain ⟨ac', cc', hcc, _⟩ := hpk.form
  simp only [Value.slice.injEq] at hcc
  obtain ⟨rfl, rfl, rfl⟩ := hcc
  have PB : Hid (Calls Try.prog 54 #[.agg #[.int .i64 TT.kind, .string TT.name, .int .i64 TT.no, .bool TT.must, .int .i64 TT.most, .slice ac TT.kids.length cc], .int .i64 no] w4 fun e w' => ByR 40 w' (fun g => w3.heap.size ≤ g ∧ g < w4.heap.size) TT.kids no e ∧ Below w4.heap.size w4 w') := l2By_any 40 _ _ _ _ _ TT.kids ac cc no _ w4 hpk (fun g hg => hg.2)
  clear hpk hb4
  go_wp2_with fail
  refine PB.out.mono ?_
  rintro e w5 ⟨hpt, hb5⟩
  have hb25 : Below W2.heap.size W2 w5 := hb24.trans (hb5.mono hb24.size)
  clear PB q0 q1 q2 q3 hz4 hb5 hb3 hb24 hB3 hB4
  obtain ⟨⟨q0, q1, q2, q3, hz5⟩, hB5⟩ := HC2.out _ hb25
  rcases hpt with ⟨y, ya, yl, yc, hby, rfl, _⟩ | ⟨hby, rfl⟩
  · obtain ⟨W6, hW6⟩ : ∃ W, W = w5.alloc (.cells #[.int .i64 y.kind, .string y.name, .int .i64 y.no, .bool y.must, .int .i64 y.most, .slice ya yl yc] 82) := ⟨_, rfl⟩
    have hb26 : Below W2.heap.size W2 W6 := by rw [hW6]; exact hb25.alloc hb25.size _
    have p3 : W6.cell? ⟨w5.heap.size, 0, none⟩ = some (.int .i64 y.kind) := by rw [hW6]; go_simp
    have HBY : Hid (byNo (tree T 41 0).kids no = some y) := by show _ = _; rw [← hTT.out]; exact hby
    clear hby
    go_upto_region 4 with fail
    rw [← hW6]
    clear hW6 q0 q1 q2 q3 hz5 hB5 hb25
    obtain ⟨⟨q0, q1, q2, q3, hz7⟩, hB7⟩ := HC2.out _ hb26
    by_cases hk : y.kind = 5
    · have HK : Hid (y.kind = 5) := hk
      rw [hk] at p3
      clear hk
      obtain ⟨X, hX⟩ : ∃ t, Hid (t = tree V 41 0) := ⟨_, rfl⟩
      have HXS : Hid (X.size ≤ 40) := by show _ ≤ _; rw [hX.out]; exact (fit_flat HF.out).2.2.2.2
      have OW : Hid (Calls Try.prog 55 #[.agg #[.slice av V.length capv], .int .i64 0] W6 fun e w' => ∃ ac lc cc, e = .returned (.agg #[.int .i64 X.most, .string X.name, .int .i64 X.no, .bool X.must, .slice ac lc cc]) ∧ VKids 41 w' (fun g => W6.heap.size ≤ g ∧ g < w'.heap.size) (.slice ac lc cc) X.kids ∧ Below W6.heap.size W6 w') := vt_root V _ W6 (HV.out.below hB7) hV1 hV40 X hX.out
      have fd := fieldV4
      go_wp2_with fail
      refine OW.out.mono ?_
      rintro e w8 ⟨xa, xl, xc, rfl, hvk, hb8⟩
      have hb28 : Below W2.heap.size W2 w8 := hb26.trans (hb8.mono hb26.size)
      have hvk' : VKids (40 + 1) w8 (fun g => W6.heap.size ≤ g ∧ g < w8.heap.size) (.slice xa xl xc) X.kids := hvk
      rw [VKids] at hvk'
      obtain ⟨ar, capr, hcc, hnr, hcr, hcells⟩ := hvk'
      simp only [Value.slice.injEq] at hcc
      obtain ⟨rfl, rfl, rfl⟩ := hcc
      have HCELLS : Hid (∀ (i : Nat) (t : Tr), X.kids[i]? = some t → ∃ g o c', xa = some ⟨g, o, none⟩ ∧ (W6.heap.size ≤ g ∧ g < w8.heap.size) ∧ VdIn w8 g (o + i * 5) t c' ∧ VKids 40 w8 (fun g => W6.heap.size ≤ g ∧ g < w8.heap.size) c' t.kids) := hcells
      have hcr' : xc ≤ 9223372036854775807 := by unfold maxLen at hcr; omega
      clear hcells hvk hb8 OW q0 q1 q2 q3 hz7 hB7 hb26 HT HV p3
      go_wp2
      go_loopw [36] (fun vi wr => ∃ i : Nat, i ≤ X.kids.length ∧ vi = .int .i64 (i : Int) ∧ Hid (∀ j x, j < i → X.kids[j]? = some x → x.no ≠ no) ∧ Below w8.heap.size w8 wr)
        (fun vi _ => X.kids.length - (intOf vi).toNat)
      case atStart => exact ⟨0, Nat.zero_le _, rfl, fun j x hj => absurd hj (by omega), Below.refl _ _⟩
      case round =>
        obtain ⟨i, hi, rfl, hpre, hbw⟩ := hrel
        have hb2r : Below W2.heap.size W2 wr := hb28.trans (hbw.mono hb28.size)
        by_cases hlt : i < X.kids.length
        · have hltI : (i : Int) < (X.kids.length : Int) := by omega
          have hi00 : (0 : Int) ≤ (i : Int) := by omega
          obtain ⟨x, hx⟩ : ∃ x, X.kids[i]? = some x := ⟨_, List.getElem?_eq_getElem hlt⟩
          obtain ⟨gr, og, c', rfl, ⟨_, hgr⟩, hvd, hkx⟩ := HCELLS.out i x hx
          obtain ⟨xac, xcc, rfl, hxm⟩ := hkx.form
          have HKX : Hid (VKids 40 w8 (fun g => W6.heap.size ≤ g ∧ g < w8.heap.size) (.slice xac x.kids.length xcc) x.kids) := hkx
          have HX : Hid (X.kids[i]? = some x) := hx
          obtain ⟨c0, c1, c2, c3, c4⟩ := hvd
          have c0' := (hbw.cell (p := ⟨gr, og + i * 5, none⟩) hgr).trans c0
          have c1' := (hbw.cell (p := ⟨gr, og + i * 5 + 1, none⟩) hgr).trans c1
          have c2' := (hbw.cell (p := ⟨gr, og + i * 5 + 2, none⟩) hgr).trans c2
          have c3' := (hbw.cell (p := ⟨gr, og + i * 5 + 3, none⟩) hgr).trans c3
          have c4' := (hbw.cell (p := ⟨gr, og + i * 5 + 4, none⟩) hgr).trans c4
          have HSX : Hid ((noZ x).size ≤ 1000000) := by
            have h1 := sizeL_step X.kids i x hx
            have h2 := HXS.out
            rw [Tr.size_eq] at h2
            show _ ≤ _
            rw [noZ_size]
            omega
          clear hx hkx c0 c1 c2 c3 c4
          by_cases hno : x.no = no
          · have hno' : (x.no == no) = true := by simpa using hno
            have hn : Hid (R = (flat (noZ x) (-1) 0, true)) := HR.out.trans (gpo_yes HF.out HBY.out HK.out (by rw [← hX.out]; exact byNo_at _ no i x hpre.out HX.out hno))
            obtain ⟨W9, hW9⟩ : ∃ W, W = wr.alloc (.cells #[.int .i64 x.most, .string x.name, .int .i64 0, .bool x.must, .slice xac x.kids.length xcc] 78) := ⟨_, rfl⟩
            have hb9 : Below wr.heap.size wr W9 := by rw [hW9]; exact (Below.refl _ wr).alloc (Nat.le_refl _) _
            have hb29 : Below W2.heap.size W2 W9 := hb2r.trans (hb9.mono hb2r.size)
            have hb89 : Below w8.heap.size w8 W9 := hbw.trans (hb9.mono hbw.size)
            have HOF : Hid (Calls Try.prog 43 #[.agg #[.int .i64 x.most, .string x.name, .int .i64 0, .bool x.must, .slice xac x.kids.length xcc]] W9 fun e w' => ∃ rv, e = .returned (.agg #[rv]) ∧ NdRow w' W9.heap.size rv (flat (noZ x) (-1) 0) ∧ Below W9.heap.size W9 w') :=
              l4Of_any 40 (noZ x) xac x.kids.length xcc (fun g => W6.heap.size ≤ g ∧ g < w8.heap.size) W9 (HKX.out.kept (fun g hg => hb89.block g hg.2) (fun _ h => h)) (fun g hg => by have := hb89.size; have := hg.2; omega) HSX.out
            clear HR hpre HKX hb89
            subst hno
            go_wp2_with fail
            rw [← hW9]
            clear hW9
            refine HOF.out.mono ?_
            rintro e w11 ⟨rv, rfl, hrow, hb11⟩
            have hb211 : Below W2.heap.size W2 w11 := hb29.trans (hb11.mono hb29.size)
            obtain ⟨⟨_, _, _, _, hz9⟩, hB9⟩ := HC2.out _ hb29
            obtain ⟨⟨q0, q1, q2, q3, hz11⟩, hB11⟩ := HC2.out _ hb211
            generalize flat (noZ x) (-1) 0 = F at *
            obtain ⟨ar2, capr2, rfl, _⟩ := ownSlice hrow
            have HROW : Hid (NdRow (w11.setCell ⟨w.heap.size + 2, 0, none⟩ (.slice ar2 F.length capr2)) w.heap.size (.slice ar2 F.length capr2) F) := (NdRow.setCell hrow (a := ⟨w.heap.size + 2, 0, none⟩) hz9 _).lower hB9.size
            clear hrow hb11 hb211 hb29 HOF
            go_wp2
            (try simp only [Exit.inBlock, Exit.then])
            refine bodyPost_ret (v := .tuple #[.agg #[.slice ar2 F.length capr2], .bool true]) ?_ rfl ⟨.slice ar2 F.length capr2, by rw [hn.out], ?_, ?_⟩
            · rw [results_cell_tmp rfl]
              go_simp
            · rw [hn.out]
              exact HROW.out
            · exact hB11.setCell (p := ⟨w.heap.size + 2, 0, none⟩) hle _
          · have hno' : (x.no == no) = false := by simpa using hno
            have HP2 : Hid (∀ j x, j < i + 1 → X.kids[j]? = some x → x.no ≠ no) := fun j x' hj hx' => by
              by_cases hji : j = i
              · subst hji
                have e : x' = x := by have h1 := HX.out; rw [hx'] at h1; simpa using h1
                rw [e]
                exact hno
              · exact hpre.out j x' (by omega) hx'
            clear hno hpre
            go_wp2
            go_roundw
            case rel => exact ⟨i + 1, by omega, by go_num, HP2, hbw.alloc hbw.size _⟩
            case measure => simp [intOf]; omega
        · have hie : i = X.kids.length := by omega
          have hge : ¬ ((i : Int) < (X.kids.length : Int)) := by omega
          have hn : Hid (R = ([], false)) := HR.out.trans (gpo_miss (by rw [← hX.out]; exact byNo_none _ no (fun j x hj hx => hpre.out j x (by rw [hie]; exact hj) hx)))
          clear hie HR hpre
          obtain ⟨⟨q0, q1, q2, q3, hz7⟩, hB7⟩ := HC2.out _ hb2r
          go_wp2
          (try simp only [Exit.inBlock, Exit.then])
          refine bodyPost_ret (v := .tuple #[.agg #[.slice none 0 0], .bool false]) ?_ rfl ⟨.slice none 0 0, by rw [hn.out], ?_, ?_⟩
          · rw [results_cell_tmp rfl]
            go_simp
          · rw [hn.out]
            exact World.ownsRow_nil _ _ _ _
          · exact hB7.setCell (p := ⟨w.heap.size + 2, 0, none⟩) hle _
    · have hn : Hid (R = ([], false)) := HR.out.trans (gpo_kind HBY.out hk)
      have hk' : (y.kind != 5) = true := by simpa using hk
      have hk'' : (y.kind == 5) = false := by simpa using hk
      clear HBY HR hk
      go_wp2
      (try simp only [Exit.inBlock, Exit.then])
      refine bodyPost_ret (v := .tuple #[.agg #[.slice none 0 0], .bool false]) ?_ rfl ⟨.slice none 0 0, by rw [hn.out], ?_, ?_⟩
      · rw [results_cell_tmp rfl]
        go_simp
      · rw [hn.out]
        exact World.ownsRow_nil _ _ _ _
      · exact hB7.setCell (p := ⟨w.heap.size + 2, 0, none⟩) hle _
  · have hn : Hid (R = ([], false)) := HR.out.trans (gpo_none (by rw [← hTT.out]; exact hby))
    clear hby HR
    obtain ⟨W6, hW6⟩ : ∃ W, W = w5.alloc (.cells #[.int .i64 0, .string ⟨#[]⟩, .int .i64 0, .bool false, .int .i64 0, .slice none 0 0] 82) := ⟨_, rfl⟩
    have hb26 : Below W2.heap.size W2 W6 := by rw [hW6]; exact hb25.alloc hb25.size _
    go_upto_region 4 with fail
    rw [← hW6]
    clear hW6 q0 q1 q2 q3 hz5 hB5 hb25
    obtain ⟨⟨q0, q1, q2, q3, hz7⟩, hB7⟩ := HC2.out _ hb26
    go_wp2
    (try simp only [Exit.inBlock, Exit.then])
    refine bodyPost_ret (v := .tuple #[.agg #[.slice none 0 0], .bool false]) ?_ rfl ⟨.slice none 0 0, by rw [hn.out], ?_, ?_⟩
    · rw [results_cell_tmp rfl]
      go_simp
    · rw [hn.out]
      exact World.ownsRow_nil _ _ _ _
    · exact hB7.setCell (p := ⟨w.heap.size + 2, 0, none⟩) hle _

end Go.Proofs.Ytpajdmhakdbkjaa
