/- The program's GetPart at every argument. -/
import Derived.Test.YtpajdmhakdbkjaaGw
import Derived.Test.YtpajdmhakdbkjaaDfE
namespace Go.Proofs.Ytpajdmhakdbkjaa
open Go.RowKit Plain Sch

set_option maxRecDepth 100000 in
set_option maxHeartbeats 4000000 in
theorem implGet (V T : List Ty) (vv' v : Value) (no : Int) (w : World) (hV : NdsAt w w.heap.size vv' V) (hT : TysAt w w.heap.size v T) :
    Calls Try.prog 15 #[.agg #[vv'], .agg #[v], .int .i64 no] w fun e w' => OValue w w' e (gpo V T no) := by
  have HV : Hid (NdsAt w w.heap.size vv' V) := hV
  have HT : Hid (TysAt w w.heap.size v T) := hT
  obtain ⟨R, hR⟩ : ∃ R, R = gpo V T no := ⟨_, rfl⟩
  rw [← hR]
  have HR : Hid (R = gpo V T no) := hR
  clear hR
  obtain ⟨av, capv, rfl, hlv, hcv, _⟩ := hV
  obtain ⟨aa, capa, rfl, hla, hca, _⟩ := hT
  have hcv' : capv ≤ 9223372036854775807 := by unfold maxLen at hcv; omega
  have hca' : capa ≤ 9223372036854775807 := by unfold maxLen at hca; omega
  obtain ⟨W2, hW2⟩ : ∃ W, W = ((w.alloc (.cells #[.slice av V.length capv] 29)).alloc (.cells #[.slice aa T.length capa] 25)).alloc (.cells #[.slice none 0 0] 29) := ⟨_, rfl⟩
  have hB2 : Below w.heap.size w W2 := by rw [hW2]; exact (((Below.refl _ w).alloc (Nat.le_refl _) _).alloc (by simp) _).alloc (by simp; omega) _
  have HS2 : Hid (W2.heap.size = w.heap.size + 3) := by show _ = _; rw [hW2]; simp
  have k0 : W2.cell? ⟨w.heap.size, 0, none⟩ = some (.slice av V.length capv) := by rw [hW2]; go_simp
  have k1 : W2.cell? ⟨w.heap.size + 1, 0, none⟩ = some (.slice aa T.length capa) := by rw [hW2]; go_simp
  have k2 : W2.cell? ⟨w.heap.size + 2, 0, none⟩ = some (.slice none 0 0) := by rw [hW2]; go_simp
  have k3 : W2.frozen? ⟨w.heap.size + 2, 0, none⟩ = false := by rw [hW2]; go_simp
  have HC2 : Hid (∀ W : World, Below W2.heap.size W2 W → (W.cell? ⟨w.heap.size, 0, none⟩ = some (.slice av V.length capv) ∧ W.cell? ⟨w.heap.size + 1, 0, none⟩ = some (.slice aa T.length capa) ∧ W.cell? ⟨w.heap.size + 2, 0, none⟩ = some (.slice none 0 0) ∧ W.frozen? ⟨w.heap.size + 2, 0, none⟩ = false ∧ w.heap.size + 2 < W.heap.size) ∧ Below w.heap.size w W) := fun W hW => by
    have hs := HS2.out
    have h2 := hW.size
    exact ⟨⟨(hW.cell (p := ⟨w.heap.size, 0, none⟩) (by show w.heap.size < _; omega)).trans k0, (hW.cell (p := ⟨w.heap.size + 1, 0, none⟩) (by show w.heap.size + 1 < _; omega)).trans k1, (hW.cell (p := ⟨w.heap.size + 2, 0, none⟩) (by show w.heap.size + 2 < _; omega)).trans k2, (hW.frozen (p := ⟨w.heap.size + 2, 0, none⟩) (by show w.heap.size + 2 < _; omega)).trans k3, by omega⟩, hB2.trans (hW.mono hB2.size)⟩
  have hle : w.heap.size ≤ w.heap.size + 2 := by omega
  unfold OValue
  go_enter Try.func15, Try.ntmps15
  go_upto_region 1 with fail
  rw [← hW2]
  obtain ⟨q0, q1, q2, q3, hz2⟩ := (HC2.out _ (Below.refl _ _)).1
  clear hW2 k0 k1 k2 k3
  go_wp2_with fail
  refine (implFits V T _ _ _ (HV.out.below hB2) (HT.out.below hB2)).mono ?_
  rintro e w3 ⟨rfl, hb3⟩
  clear q0 q1 q2 q3 hz2
  obtain ⟨⟨q0, q1, q2, q3, hz3⟩, hB3⟩ := HC2.out _ hb3
  rcases hf : fof4 V T with _ | _
  · have hn : Hid (R = ([], false)) := HR.out.trans (gpo_fit hf)
    clear hf HR
    go_wp2
    (try simp only [Exit.inBlock, Exit.then])
    refine bodyPost_ret (v := .tuple #[.agg #[.slice none 0 0], .bool false]) ?_ rfl ⟨.slice none 0 0, by rw [hn.out], ?_, ?_⟩
    · rw [results_cell_tmp rfl]
      go_simp
    · rw [hn.out]
      exact World.ownsRow_nil _ _ _ _
    · exact hB3.setCell (p := ⟨w.heap.size + 2, 0, none⟩) hle _
  have HF : Hid (fof4 V T = true) := hf
  clear hf
  have hV1 := (fit_flat HF.out).1
  have hV40 := (fit_flat HF.out).2.1
  have hT1 : 0 < T.length ∧ T.length ≤ 30 := by have := gs_types T (fit_flat HF.out).2.2.1; omega
  have OP : Hid (Calls Try.prog 50 #[.slice aa T.length capa, .int .i64 0] w3 (OwnPartsR T 40 0 w3)) := ownParts_any T _ (fit_flat HF.out).2.2.1 40 0 w3 (HT.out.below hB3) (by omega) (by omega)
  unfold OwnPartsR at OP
  go_wp2_with fail
  refine OP.out.mono ?_
  rintro e w4 ⟨c, rfl, hpk, hb4⟩
  have hb24 : Below W2.heap.size W2 w4 := hb3.trans (hb4.mono hb3.size)
  clear OP q0 q1 q2 q3 hz3
  obtain ⟨⟨q0, q1, q2, q3, hz4⟩, hB4⟩ := HC2.out _ hb24
  have PB : Hid (Calls Try.prog 49 #[c, .int .i64 no] w4 fun e w' => PtR 40 w' (fun g => w3.heap.size ≤ g ∧ g < w4.heap.size) (tree T 41 0).kids no e ∧ Below w4.heap.size w4 w') := partByNo_any 40 _ c no _ w4 hpk (fun g hg => hg.2)
  clear hpk hb4
  go_wp2_with fail
  refine PB.out.mono ?_
  rintro e w5 ⟨hpt, hb5⟩
  have hb25 : Below W2.heap.size W2 w5 := hb24.trans (hb5.mono hb24.size)
  clear PB q0 q1 q2 q3 hz4 hb5 hb3 hb24 hB3 hB4
  obtain ⟨⟨q0, q1, q2, q3, hz5⟩, hB5⟩ := HC2.out _ hb25
  rcases hpt with ⟨y, ya, yv, hby, rfl, hsh⟩ | ⟨hby, rfl⟩
  · obtain ⟨W6, hW6⟩ : ∃ W, W = w5.alloc (.cells #[.string y.name, .int .i64 y.no, .bool y.must, .iface ya yv] 73) := ⟨_, rfl⟩
    have hb26 : Below W2.heap.size W2 W6 := by rw [hW6]; exact hb25.alloc hb25.size _
    have p3 : W6.cell? ⟨w5.heap.size, 3, none⟩ = some (.iface ya yv) := by rw [hW6]; go_simp
    go_upto_region 4 with fail
    rw [← hW6]
    clear hW6 q0 q1 q2 q3 hz5 hB5 hb25
    have HBY : Hid (byNo (tree T 41 0).kids no = some y) := hby
    clear hby
    have hsh' : ShIn (39 + 1) w5 (fun g => w3.heap.size ≤ g ∧ g < w4.heap.size) (.iface ya yv) y := hsh
    rw [ShIn] at hsh'
    clear hsh
    rcases hsh' with ⟨_, ⟨hk, hv⟩ | ⟨hk, hv⟩ | ⟨hk, hv⟩⟩ | ⟨hk, x, l, u, _, hv, _⟩ | ⟨hk, ap, cp, hv, _⟩
    · simp only [Value.iface.injEq] at hv
      obtain ⟨rfl, rfl⟩ := hv
      have hn : Hid (R = ([], false)) := HR.out.trans (gpo_kind HBY.out (by omega))
      clear HBY HR hk
      go_wp2_with fail
      refine (kindNum _).mono ?_
      rintro e w7 ⟨rfl, hb7⟩
      obtain ⟨⟨q0, q1, q2, q3, hz7⟩, hB7⟩ := HC2.out _ (hb26.trans (hb7.mono hb26.size))
      go_wp2
      (try simp only [Exit.inBlock, Exit.then])
      refine bodyPost_ret (v := .tuple #[.agg #[.slice none 0 0], .bool false]) ?_ rfl ⟨.slice none 0 0, by rw [hn.out], ?_, ?_⟩
      · rw [results_cell_tmp rfl]
        go_simp
      · rw [hn.out]
        exact World.ownsRow_nil _ _ _ _
      · exact hB7.setCell (p := ⟨w.heap.size + 2, 0, none⟩) hle _
    · simp only [Value.iface.injEq] at hv
      obtain ⟨rfl, rfl⟩ := hv
      have hn : Hid (R = ([], false)) := HR.out.trans (gpo_kind HBY.out (by omega))
      clear HBY HR hk
      go_wp2_with fail
      refine (kindTxt _).mono ?_
      rintro e w7 ⟨rfl, hb7⟩
      obtain ⟨⟨q0, q1, q2, q3, hz7⟩, hB7⟩ := HC2.out _ (hb26.trans (hb7.mono hb26.size))
      go_wp2
      (try simp only [Exit.inBlock, Exit.then])
      refine bodyPost_ret (v := .tuple #[.agg #[.slice none 0 0], .bool false]) ?_ rfl ⟨.slice none 0 0, by rw [hn.out], ?_, ?_⟩
      · rw [results_cell_tmp rfl]
        go_simp
      · rw [hn.out]
        exact World.ownsRow_nil _ _ _ _
      · exact hB7.setCell (p := ⟨w.heap.size + 2, 0, none⟩) hle _
    · simp only [Value.iface.injEq] at hv
      obtain ⟨rfl, rfl⟩ := hv
      have hn : Hid (R = ([], false)) := HR.out.trans (gpo_kind HBY.out (by omega))
      clear HBY HR hk
      go_wp2_with fail
      refine (kindEnu _ _).mono ?_
      rintro e w7 ⟨rfl, hb7⟩
      obtain ⟨⟨q0, q1, q2, q3, hz7⟩, hB7⟩ := HC2.out _ (hb26.trans (hb7.mono hb26.size))
      go_wp2
      (try simp only [Exit.inBlock, Exit.then])
      refine bodyPost_ret (v := .tuple #[.agg #[.slice none 0 0], .bool false]) ?_ rfl ⟨.slice none 0 0, by rw [hn.out], ?_, ?_⟩
      · rw [results_cell_tmp rfl]
        go_simp
      · rw [hn.out]
        exact World.ownsRow_nil _ _ _ _
      · exact hB7.setCell (p := ⟨w.heap.size + 2, 0, none⟩) hle _
    · simp only [Value.iface.injEq] at hv
      obtain ⟨rfl, rfl⟩ := hv
      have hn : Hid (R = ([], false)) := HR.out.trans (gpo_kind HBY.out (by omega))
      clear HBY HR hk
      go_wp2_with fail
      refine (kindLst _ _ _).mono ?_
      rintro e w7 ⟨rfl, hb7⟩
      obtain ⟨⟨q0, q1, q2, q3, hz7⟩, hB7⟩ := HC2.out _ (hb26.trans (hb7.mono hb26.size))
      go_wp2
      (try simp only [Exit.inBlock, Exit.then])
      refine bodyPost_ret (v := .tuple #[.agg #[.slice none 0 0], .bool false]) ?_ rfl ⟨.slice none 0 0, by rw [hn.out], ?_, ?_⟩
      · rw [results_cell_tmp rfl]
        go_simp
      · rw [hn.out]
        exact World.ownsRow_nil _ _ _ _
      · exact hB7.setCell (p := ⟨w.heap.size + 2, 0, none⟩) hle _
    · simp only [Value.iface.injEq] at hv
      obtain ⟨rfl, rfl⟩ := hv
      go_wp2_with fail
      refine (kindMsg _ _ _ _).mono ?_
      rintro e w7 ⟨rfl, hb7⟩
      have hb27 : Below W2.heap.size W2 w7 := hb26.trans (hb7.mono hb26.size)
      obtain ⟨⟨q0, q1, q2, q3, hz7⟩, hB7⟩ := HC2.out _ hb27
      clear hb26 hb7 p3
      obtain ⟨gv, ov, cv, hvv, _, _, hgv, hrow, hnm⟩ := HV.out.open (by omega)
      simp only [Value.slice.injEq, true_and] at hvv
      obtain ⟨rfl, rfl⟩ := hvv
      have HIN : Hid (PcIn w gv ov (0, V)) := fun i hi => by rw [Nat.zero_add]; exact hrow i hi
      have HFP : Hid (FitP w gv ov V (own 0 1 (V.drop 1))) := fit_pieces HF.out HIN.out hnm
      have OW : Hid (Calls Try.prog 51 #[.agg #[.int .i64 0, .slice (some ⟨gv, ov, none⟩) V.length capv]] w7 fun e w' => ∃ r, e = .returned r ∧ w'.ownsRow w7.heap.size 88 2 r (own 0 1 (V.drop 1)).length ((own 0 1 (V.drop 1)).flatMap (pcs gv ov)) ∧ Below w7.heap.size w7 w') := by
        have := own_any V 0 gv ov capv w7 (HIN.out.below hB7 hgv) (by have := hB7.size; omega) (by omega) (by omega) hlv hcv
        rw [Nat.zero_mul, Nat.add_zero] at this
        exact this
      clear hrow hnm HIN
      generalize own 0 1 (V.drop 1) = P at *
      go_wp2_with fail
      refine OW.out.mono ?_
      rintro e w8 ⟨r, rfl, hor, hb8⟩
      have hb28 : Below W2.heap.size W2 w8 := hb27.trans (hb8.mono hb27.size)
      obtain ⟨ar, capr, rfl, hnr, hcr, hcells⟩ := pcs_cells hor
      have HCELLS : Hid (∀ (i : Nat) (q : Nat × List Ty), P[i]? = some q → ∃ gr : Nat, ar = some ⟨gr, 0, none⟩ ∧ w7.heap.size ≤ gr ∧ gr < w8.heap.size ∧ w8.cell? ⟨gr, i * 2, none⟩ = some (.int .i64 (q.1 : Int)) ∧ w8.cell? ⟨gr, i * 2 + 1, none⟩ = some (.slice (some ⟨gv, ov + q.1 * 5, none⟩) q.2.length q.2.length)) := hcells
      have hcr' : capr ≤ 9223372036854775807 := by unfold maxLen at hcr; omega
      have HK : Hid (y.kind = 5) := hk
      clear hcells hor hb8 OW q0 q1 q2 q3 hz7 hB7 hb27 hk HT HV
      go_wp2
      go_loopw [39] (fun vi wr => ∃ i : Nat, i ≤ P.length ∧ vi = .int .i64 (i : Int) ∧ Hid (∀ j x, j < i → (tree V 41 0).kids[j]? = some x → x.no ≠ no) ∧ Below w8.heap.size w8 wr)
        (fun vi _ => P.length - (intOf vi).toNat)
      case atStart => exact ⟨0, Nat.zero_le _, rfl, fun j x hj => absurd hj (by omega), Below.refl _ _⟩
      case round =>
        obtain ⟨i, hi, rfl, hpre, hbw⟩ := hrel
        have hb2r : Below W2.heap.size W2 wr := hb28.trans (hbw.mono hb28.size)
        by_cases hlt : i < P.length
        · have hltI : (i : Int) < (P.length : Int) := by omega
          have hi00 : (0 : Int) ≤ (i : Int) := by omega
          obtain ⟨⟨s, L⟩, hq⟩ : ∃ q, P[i]? = some q := ⟨_, List.getElem?_eq_getElem hlt⟩
          obtain ⟨gr, rfl, _, hgr, c0, c1⟩ := HCELLS.out i _ hq
          have c0' := (hbw.cell (p := ⟨gr, i * 2, none⟩) hgr).trans c0
          have c1' := (hbw.cell (p := ⟨gr, i * 2 + 1, none⟩) hgr).trans c1
          dsimp only at c0' c1'
          obtain ⟨x, hx, hqf⟩ := HFP.out.at' i _ hq
          dsimp only at hqf
          have HX : Hid ((tree V 41 0).kids[i]? = some x) := hx
          have HQF : Hid (L = flat x ((0 : Nat) : Int) s) := hqf
          have hqm := List.mem_of_getElem? hq
          have HPC : Hid (PcIn w gv ov (s, L)) := HFP.out.cut.inn _ hqm
          have hpos : 0 < L.length := HFP.out.cut.pos _ hqm
          have hlim : s + L.length ≤ 40 := HFP.out.cut.lim _ hqm
          have HNAM : Hid (∀ i, i < L.length → (ty L i).name.size ≤ 281474976710656) := HFP.out.nam _ hqm
          have HUPS : Hid (∀ i, i < L.length → -1000000 ≤ (ty L i).up ∧ (ty L i).up ≤ 1000000) := HFP.out.ups _ hqm
          obtain ⟨h, hh⟩ : ∃ h, Hid (h = ty L 0) := ⟨_, rfl⟩
          have HXN : Hid (h.no = x.no) := by show _ = _; rw [hh.out, HQF.out, flat_eq]; rfl
          obtain ⟨W9, hW9⟩ : ∃ W, W = wr.alloc (.cells #[.int .i64 (s : Int), .slice (some ⟨gv, ov + s * 5, none⟩) L.length L.length] 88) := ⟨_, rfl⟩
          have hb9 : Below wr.heap.size wr W9 := by rw [hW9]; exact (Below.refl _ wr).alloc (Nat.le_refl _) _
          have HS9 : Hid (W9.heap.size = wr.heap.size + 1) := by show _ = _; rw [hW9]; simp
          have p0 : W9.cell? ⟨wr.heap.size, 0, none⟩ = some (.int .i64 (s : Int)) := by rw [hW9]; go_simp
          have p1 : W9.cell? ⟨wr.heap.size, 1, none⟩ = some (.slice (some ⟨gv, ov + s * 5, none⟩) L.length L.length) := by rw [hW9]; go_simp
          have hb29 : Below W2.heap.size W2 W9 := hb2r.trans (hb9.mono hb2r.size)
          have hB9 := (HC2.out _ hb29).2
          have hLm : L.length ≤ maxLen := by unfold maxLen; omega
          have HHD : Hid (Calls Try.prog 52 #[.agg #[.int .i64 (s : Int), .slice (some ⟨gv, ov + s * 5, none⟩) L.length L.length]] W9 fun e w' => e = .returned (.agg #[.int .i64 h.most, .string h.name, .int .i64 h.no, .int .i64 h.up, .bool h.must]) ∧ Below W9.heap.size W9 w') := by
            have hn0 := (HPC.out.below hB9 hgv) 0 hpos
            dsimp only at hn0
            rw [Nat.add_zero, ← hh.out] at hn0
            exact head_any s gv (ov + s * 5) L.length L.length h W9 hn0 (by have := hB9.size; omega) hpos hLm
          clear hq hx hqf hqm c0 c1
          go_upto_region 9 with fail
          rw [← hW9]
          clear hW9 c0' c1'
          go_wp2_with fail
          refine HHD.out.mono ?_
          rintro e w10 ⟨rfl, hb10⟩
          have hw9 : wr.heap.size < W9.heap.size := by have := HS9.out; omega
          have p0' := (hb10.cell (p := ⟨wr.heap.size, 0, none⟩) hw9).trans p0
          have p1' := (hb10.cell (p := ⟨wr.heap.size, 1, none⟩) hw9).trans p1
          have hb210 : Below W2.heap.size W2 w10 := hb29.trans (hb10.mono hb29.size)
          have hb810 : Below w8.heap.size w8 w10 := hbw.trans ((hb9.trans (hb10.mono hb9.size)).mono hbw.size)
          have hw10 : wr.heap.size < w10.heap.size := by have := hb10.size; omega
          clear p0 p1 hb29 hb10 hB9 HHD HS9 hb9 hw9
          obtain ⟨⟨q0, q1, q2, q3, hz10⟩, hB10⟩ := HC2.out _ hb210
          have fd := fieldNd2
          by_cases hno : h.no = no
          · have hno' : (h.no == no) = true := by simpa using hno
            have hn : Hid (R = (awl s L, true)) := by
              show _ = _
              rw [HQF.out, awl_flat]
              exact HR.out.trans (gpo_yes HF.out HBY.out HK.out (byNo_at _ no i x hpre.out HX.out (by rw [← HXN.out]; exact hno)))
            have HAW := fun hgw => asWhole_any L s gv ov L.length w10 (HPC.out.below hB10 hgv) hgw hpos (by omega) (by omega) (Nat.le_refl _) hLm HNAM.out HUPS.out
            have HAW' : Hid (Calls Try.prog 53 #[.agg #[.int .i64 (s : Int), .slice (some ⟨gv, ov + s * 5, none⟩) L.length L.length]] w10 fun e w' => ∃ rv, e = .returned (.agg #[rv]) ∧ NdRow w' w10.heap.size rv (awl s L) ∧ Below w10.heap.size w10 w') := HAW (by have := hB10.size; omega)
            clear HAW HR
            subst hno
            go_wp2_with fail
            refine HAW'.out.mono ?_
            rintro e w11 ⟨rv, rfl, hrow, hb11⟩
            have hb211 : Below W2.heap.size W2 w11 := hb210.trans (hb11.mono hb210.size)
            clear q0 q1 q2 q3 HAW'
            obtain ⟨⟨q0, q1, q2, q3, hz11⟩, hB11⟩ := HC2.out _ hb211
            generalize awl s L = F at *
            obtain ⟨ar2, capr2, rfl, _⟩ := ownSlice hrow
            have HROW : Hid (NdRow (w11.setCell ⟨w.heap.size + 2, 0, none⟩ (.slice ar2 F.length capr2)) w.heap.size (.slice ar2 F.length capr2) F) := (NdRow.setCell hrow (a := ⟨w.heap.size + 2, 0, none⟩) hz10 _).lower hB10.size
            clear hrow hb11 hb211 hb210
            go_wp2
            (try simp only [Exit.inBlock, Exit.then])
            refine bodyPost_ret (v := .tuple #[.agg #[.slice ar2 F.length capr2], .bool true]) ?_ rfl ⟨.slice ar2 F.length capr2, by rw [hn.out], ?_, ?_⟩
            · rw [results_cell_tmp rfl]
              go_simp
            · rw [hn.out]
              exact HROW.out
            · exact hB11.setCell (p := ⟨w.heap.size + 2, 0, none⟩) hle _
          · have hno' : (h.no == no) = false := by simpa using hno
            have HP2 : Hid (∀ j x, j < i + 1 → (tree V 41 0).kids[j]? = some x → x.no ≠ no) := fun j x' hj hx' => by
              by_cases hji : j = i
              · subst hji
                have e : x' = x := by have h1 := HX.out; rw [hx'] at h1; simpa using h1
                rw [e, ← HXN.out]
                exact hno
              · exact hpre.out j x' (by omega) hx'
            clear hno hpre q0 q1 q2 q3 p0' p1'
            go_wp2
            go_roundw
            case rel => exact ⟨i + 1, by omega, by go_num, HP2, hb810⟩
            case measure => simp [intOf]; omega
        · have hie : i = P.length := by omega
          have hge : ¬ ((i : Int) < (P.length : Int)) := by omega
          have hn : Hid (R = ([], false)) := HR.out.trans (gpo_miss (byNo_none _ no (fun j x hj hx => hpre.out j x (by rw [hie, HFP.out.len]; exact hj) hx)))
          clear hie HR hpre
          obtain ⟨⟨q0, q1, q2, q3, hz7⟩, hB7⟩ := HC2.out _ hb2r
          go_wp2
          (try simp only [Exit.inBlock, Exit.then])
          refine bodyPost_ret (v := .tuple #[.agg #[.slice none 0 0], .bool false]) ?_ rfl ⟨.slice none 0 0, by rw [hn.out], ?_, ?_⟩
          · rw [results_cell_tmp rfl]
            go_simp
          · rw [hn.out]
            exact World.ownsRow_nil _ _ _ _
          · exact hB7.setCell (p := ⟨w.heap.size + 2, 0, none⟩) hle _
  · have hn : Hid (R = ([], false)) := HR.out.trans (gpo_none hby)
    clear hby HR
    obtain ⟨W6, hW6⟩ : ∃ W, W = w5.alloc (.cells #[.string ⟨#[]⟩, .int .i64 0, .bool false, .nilIface] 73) := ⟨_, rfl⟩
    have hb26 : Below W2.heap.size W2 W6 := by rw [hW6]; exact hb25.alloc hb25.size _
    go_upto_region 4 with fail
    rw [← hW6]
    clear hW6 q0 q1 q2 q3 hz5 hB5 hb25
    obtain ⟨⟨q0, q1, q2, q3, hz7⟩, hB7⟩ := HC2.out _ hb26
    go_wp2
    (try simp only [Exit.inBlock, Exit.then])
    refine bodyPost_ret (v := .tuple #[.agg #[.slice none 0 0], .bool false]) ?_ rfl ⟨.slice none 0 0, by rw [hn.out], ?_, ?_⟩
    · rw [results_cell_tmp rfl]
      go_simp
    · rw [hn.out]
      exact World.ownsRow_nil _ _ _ _
    · exact hB7.setCell (p := ⟨w.heap.size + 2, 0, none⟩) hle _

end Go.Proofs.Ytpajdmhakdbkjaa
