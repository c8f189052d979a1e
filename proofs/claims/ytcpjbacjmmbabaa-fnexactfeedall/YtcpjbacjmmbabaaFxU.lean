/- Pieces fed one by one: the model's FeedAll. -/
import Derived.Test.YtcpjbacjmmbabaaFxS
namespace Go.Proofs.Ytcpjbacjmmbabaa
open Go.RowKit Plain Tpc Frm

/-- fed piece by piece -/
def faL (r : Rdr) : List ByteArray → Rdr × Bool
  | [] => (r, true)
  | s :: l => if fdK r s = true then faL (fdG r s) l else (rzero, false)
def faO (T : List ByteArray) : Rdr × Bool := if T.length ≤ 60 then faL rnew T else (rzero, false)

/-- a reader that is small -/
def sm (r : Rdr) : Prop := r.got.length ≤ 41 ∧ (∀ i, i < r.got.length → (lq r.got i).size ≤ 60) ∧ r.rest.size ≤ 62
theorem sm_new : sm rnew := ⟨by decide, fun i hi => by
  have : i = 0 := by simp [rnew] at hi; omega
  subst this
  decide, by decide⟩
theorem sm_feed {r : Rdr} {s : ByteArray} (h : sm r) : sm (fdG r s) := by
  unfold fdG
  split
  · exact h
  · refine ⟨by rw [List.length_take]; omega, fun i hi => ?_, by rw [tx_size]; exact unR_short _⟩
    have hm := lq_mem hi
    have hm2 := List.mem_of_mem_take hm
    rcases List.mem_append.1 hm2 with h1 | h1
    · obtain ⟨j, hj, he⟩ := List.mem_iff_getElem.1 h1
      have := h.2.1 j hj
      unfold lq at this
      rw [List.getD_eq_getElem?_getD, List.getElem?_eq_getElem hj] at this
      rw [← he]
      exact this
    · exact unT_short _ _ h1

/-- a round's reader -/
structure FaI (w w1 wr : World) (r : Rdr) (u : Value) : Prop where
  var : Rv wr w1.heap.size (.string r.rest) u (.bool r.bad)
  row : StRow wr (w.heap.size + 1) u r.got
  own : ∀ g, u.ownBlock = some g → g ≠ w1.heap.size
  blw : Below w1.heap.size w1 wr
  sm : sm r

set_option maxRecDepth 100000 in
set_option maxHeartbeats 16000000 in
theorem specFeedAll (T : List ByteArray) (v : Value) (w : World) (hT : StAt w w.heap.size v T) (hN : ∀ i, i < T.length → (lq T i).size ≤ 1048576) (hl : T.length ≤ 1048576) :
    Calls Try.prog 36 #[v] w fun e w' => ∃ u, e = .returned (.tuple #[(faO T).1.val u, .bool (faO T).2]) ∧ RdO w w' u (faO T).1 := by
  have rc := fun (tmps : Array Value) (P : Program) (w : World) => results_cell_tmp (fn := Try.f36) (p := 2) (u := 3) (ty := 33) rfl tmps P w
  obtain ⟨W0, hW0⟩ : ∃ W, W = w.alloc (.cells #[.string ⟨#[]⟩, .slice none 0 0, .bool false] 33) := ⟨_, rfl⟩
  have hB0 : Below w.heap.size w W0 := by rw [hW0]; exact (Below.refl _ w).alloc (Nat.le_refl _) _
  have V2 : Rv W0 w.heap.size (.string ⟨#[]⟩) (.slice none 0 0) (.bool false) := by rw [hW0]; exact Rv.fresh w _ _ _ _
  have hl0 : w.heap.size < W0.heap.size := V2.low
  have hs0 : w.heap.size + 1 ≤ W0.heap.size := hl0
  obtain ⟨ao, cap, rfl, hlc, hcm, hrow⟩ := hT
  unfold maxLen at hcm
  have HROW : Hid (∀ i, i < T.length → ∃ g o, ao = some ⟨g, o, none⟩ ∧ g < w.heap.size ∧ w.cell? ⟨g, o + i, none⟩ = some (.string (lq T i))) := hrow
  have HNM : Hid (∀ i, i < T.length → (lq T i).size ≤ 1048576) := hN
  clear hrow hN
  by_cases h60 : T.length ≤ 60
  case neg =>
    have hR : faO T = (rzero, false) := by unfold faO; rw [if_neg h60]
    rw [hR]
    have h60' : (60 : Int) < (T.length : Int) := by omega
    have x0 := V2.c0
    have x1 := V2.c1
    have x2 := V2.c2
    have u0 := V2.f0
    have u1 := V2.f1
    have u2 := V2.f2
    clear V2 HROW HNM hR
    go_enter Try.func36, Try.ntmps36
    go_upto_region 1 with fail
    rw [← hW0]
    clear hW0
    go_wp2_with fail
    (try simp only [Exit.inBlock, Exit.then])
    refine bodyPost_ret (v := .tuple #[.agg #[.string ⟨#[]⟩, .slice none 0 0, .bool false], .bool false]) ?_ rfl ⟨.slice none 0 0, rfl, ⟨rfl, .inl ⟨rfl, rfl⟩⟩, ?_⟩
    · rw [rc]
      go_simp
    · exact ((hB0.setCell (p := ⟨w.heap.size, 0, none⟩) (Nat.le_refl _) _).setCell (p := ⟨w.heap.size, 1, none⟩) (Nat.le_refl _) _).setCell (p := ⟨w.heap.size, 2, none⟩) (Nat.le_refl _) _
  case pos =>
    have h60' : ¬ (60 : Int) < (T.length : Int) := by omega
    obtain ⟨R, hR⟩ : ∃ R, R = faO T := ⟨_, rfl⟩
    have HR : Hid (faL rnew T = R) := by show _ = _; rw [hR]; unfold faO; rw [if_pos h60]
    rw [← hR]
    clear hR
    have CN := specNew W0
    have HV2 : Hid (Rv W0 w.heap.size (.string ⟨#[]⟩) (.slice none 0 0) (.bool false)) := V2
    have HB0 : Hid (Below w.heap.size w W0) := hB0
    have HNEW : Hid (∀ u, rnew.val u = .agg #[.string ⟨#[]⟩, u, .bool false]) := fun u => rfl
    clear V2 hB0
    go_enter Try.func36, Try.ntmps36
    go_upto_region 1 with fail
    rw [← hW0]
    clear hW0
    go_wp2_with fail
    go_at_call 22
    refine CN.mono ?_
    rintro e w1 ⟨u1, rfl, hr1, hb1⟩
    rw [HNEW.out]
    have hs1 := hb1.size
    have HR1 : Hid (StRow w1 (w.heap.size + 1) u1 rnew.got) := lower_rowS hr1 hs0
    have HL1 : Hid (∀ g, u1.ownBlock = some g → g < w1.heap.size) := fun g hg => (World.ownsRow.lt hr1 g hg).2
    have HV21 : Hid (Rv w1 w.heap.size (.string ⟨#[]⟩) (.slice none 0 0) (.bool false)) := HV2.out.below hb1
    have HB1 : Hid (Below w.heap.size w w1) := HB0.out.trans (hb1.mono HB0.out.size)
    have hl1 : w.heap.size < w1.heap.size := HV21.out.low
    obtain ⟨a1, c1, rfl⟩ := hr1.slice
    obtain ⟨U, hU⟩ : ∃ X, X = w1.alloc (.cells #[.string ⟨#[]⟩, .slice a1 rnew.got.length c1, .bool false] 33) := ⟨_, rfl⟩
    have hbU : Below w1.heap.size w1 U := by rw [hU]; exact (Below.refl _ _).alloc (Nat.le_refl _) _
    have HI0 : Hid (FaI w w1 U rnew (.slice a1 rnew.got.length c1)) := by
      refine ⟨?_, HR1.out.below hbU, fun g hg => by have := HL1.out g hg; omega, hbU, sm_new⟩
      rw [hU]
      exact Rv.fresh w1 _ _ _ _
    clear hr1 hb1 HR1 HL1 CN HNEW hbU HV2 HB0
    go_upto_region 4 with fail
    rw [← hU]
    clear hU
    go_wp2_with fail
    go_loopw [16] (fun vi wr => ∃ (i : Nat) (r : Rdr) (u : Value), i ≤ T.length ∧ vi = .int .i64 (i : Int) ∧ Hid (FaI w w1 wr r u) ∧ Hid (faL r (T.drop i) = R))
      (fun vi _ => T.length - (intOf vi).toNat)
    case atStart => exact ⟨0, rnew, _, by omega, rfl, HI0.out, by rw [List.drop_zero]; exact HR.out⟩
    case round =>
      obtain ⟨i, r, u, hiT, rfl, hI, hf⟩ := hrel
      clear HI0 HR
      have hbw := hI.out.blw
      have hsr := hbw.size
      have HX : Hid (Rv wr w.heap.size (.string ⟨#[]⟩) (.slice none 0 0) (.bool false)) := HV21.out.below hbw
      have hlo := hI.out.var.low
      obtain ⟨au, cu, rfl⟩ := hI.out.row.slice
      by_cases hlt : i < T.length
      · have hltI : (i : Int) < (T.length : Int) := by omega
        obtain ⟨g, o, rfl, hg, c⟩ := HROW.out i hlt
        have hgw : g < w1.heap.size := by omega
        have c' := (hbw.cell (p := ⟨g, o + i, none⟩) hgw).trans ((HB1.out.cell (p := ⟨g, o + i, none⟩) hg).trans c)
        have hn := HNM.out i hlt
        have hstep : T.drop i = lq T i :: T.drop (i + 1) := by
          rw [List.drop_eq_getElem_cons hlt]
          unfold lq
          rw [List.getD_eq_getElem?_getD, List.getElem?_eq_getElem hlt]
          rfl
        have CF := specFeed r (.slice au r.got.length cu) (lq T i) wr (StAt.own hI.out.row) (fun j hj => by have := hI.out.sm.2.1 j hj; omega) (by have := hI.out.sm.2.2; omega) (by unfold maxLen; omega)
        have hf2 : Hid (if fdK r (lq T i) = true then faL (fdG r (lq T i)) (T.drop (i + 1)) = R else (rzero, false) = R) := by
          have h := hf.out
          rw [hstep] at h
          show if _ then _ else _
          by_cases hk : fdK r (lq T i) = true
          · rw [if_pos hk]
            rw [faL, if_pos hk] at h
            exact h
          · rw [if_neg hk]
            rw [faL, if_neg hk] at h
            exact h
        have HSM : Hid (fdK r (lq T i) = true → sm (fdG r (lq T i))) := fun _ => sm_feed hI.out.sm
        have HFR : Hid (fdR r (lq T i) = if fdK r (lq T i) = true then fdG r (lq T i) else rzero) := rfl
        generalize lq T i = x at c' hn CF hf2 HSM HFR
        unfold FeO at CF
        generalize fdG r x = G at hf2 HSM HFR
        generalize fdR r x = F at CF HFR
        generalize fdK r x = K at CF hf2 HSM HFR
        have z0 := hI.out.var.c0
        have z1 := hI.out.var.c1
        have z2 := hI.out.var.c2
        have HI : Hid (FaI w w1 wr r (.slice au r.got.length cu)) := hI
        unfold Rdr.val at CF
        clear hf hstep c hI
        obtain ⟨rq, rL, rb⟩ := r
        dsimp only at *
        go_wp2_with fail
        go_at_call 31
        refine CF.mono ?_
        rintro e w2 ⟨u2, rfl, hr2, hb2⟩
        have hs2 := hb2.size
        have V4 := HI.out.var.below hb2
        have HV4 : Hid (type_of% V4) := V4
        have V2 := HX.out.below hb2
        have HVr : Hid (type_of% V2) := V2
        have HBw : Hid (Below w1.heap.size w1 w2) := hbw.trans (hb2.mono hsr)
        obtain ⟨a2, c2, rfl⟩ := hr2.slice
        have HR2 : Hid (StRow w2 wr.heap.size (.slice a2 F.got.length c2) F.got) := hr2
        have HLr : Hid (∀ g, (Value.slice a2 F.got.length c2).ownBlock = some g → wr.heap.size ≤ g ∧ g < w2.heap.size) := fun g hg => World.ownsRow.lt hr2 g hg
        obtain ⟨Y, hY⟩ : ∃ X, X = w2.alloc (.cells #[.string F.rest, .slice a2 F.got.length c2, .bool F.bad] 33) := ⟨_, rfl⟩
        have hbY : Below w2.heap.size w2 Y := by rw [hY]; exact (Below.refl _ _).alloc (Nat.le_refl _) _
        have V7 : Rv Y w2.heap.size (.string F.rest) (.slice a2 F.got.length c2) (.bool F.bad) := by rw [hY]; exact Rv.fresh w2 _ _ _ _
        have HBY : Hid (Below w1.heap.size w1 Y) := HBw.out.trans (hbY.mono (by omega))
        have V4Y := HV4.out.below hbY
        have V2Y := HVr.out.below hbY
        have HRY : Hid (StRow Y wr.heap.size (.slice a2 F.got.length c2) F.got) := HR2.out.below hbY
        clear hr2 hb2 V4 V2 HX HV4 HVr HBw HR2 hbY z0 z1 z2 c' CF HI hbw
        go_upto_region 8 with fail
        rw [← hY]
        clear hY
        cases K with
        | false =>
          have hRz : R = (rzero, false) := by have h := hf2.out; simpa using h.symm
          have HRz : Hid (R = (rzero, false)) := hRz
          have x0 := V2Y.c0
          have x1 := V2Y.c1
          have x2 := V2Y.c2
          have u0 := V2Y.f0
          have u1 := V2Y.f1
          have u2 := V2Y.f2
          have HBE : Hid (Below w.heap.size w Y) := HB1.out.trans (HBY.out.mono HB1.out.size)
          clear hf2 HSM HFR hRz V2Y V4Y V7 HRY HBY
          go_wp2_with fail
          (try simp only [Exit.inBlock, Exit.then])
          refine bodyPost_ret (v := .tuple #[.agg #[.string ⟨#[]⟩, .slice none 0 0, .bool false], .bool false]) ?_ rfl (by rw [HRz.out]; exact ⟨.slice none 0 0, rfl, ⟨rfl, .inl ⟨rfl, rfl⟩⟩, ((HBE.out.setCell (p := ⟨w.heap.size, 0, none⟩) (Nat.le_refl _) _).setCell (p := ⟨w.heap.size, 1, none⟩) (Nat.le_refl _) _).setCell (p := ⟨w.heap.size, 2, none⟩) (Nat.le_refl _) _⟩)
          · rw [rc]
            go_simp
        | true =>
          have hF : F = G := HFR.out
          subst hF
          have hf3 : Hid (faL F (T.drop (i + 1)) = R) := by show _ = _; have h := hf2.out; simpa using h
          have hsm := HSM.out rfl
          have HI2 : Hid (FaI w w1 (((Y.setCell ⟨w1.heap.size, 0, none⟩ (.string F.rest)).setCell ⟨w1.heap.size, 1, none⟩ (.slice a2 F.got.length c2)).setCell ⟨w1.heap.size, 2, none⟩ (.bool F.bad)) F (.slice a2 F.got.length c2)) := by
            have ho : ∀ g, (Value.slice a2 F.got.length c2).ownBlock = some g → g ≠ w1.heap.size := fun g hg => by have := (HLr.out g hg).1; omega
            exact ⟨V4Y.set _ _ _, own_setCell (own_setCell (own_setCell (lower_rowS HRY.out (by omega)) _ 0 _ ho) _ 1 _ ho) _ 2 _ ho, ho, ((HBY.out.setCell (p := ⟨w1.heap.size, 0, none⟩) (Nat.le_refl _) _).setCell (p := ⟨w1.heap.size, 1, none⟩) (Nat.le_refl _) _).setCell (p := ⟨w1.heap.size, 2, none⟩) (Nat.le_refl _) _, hsm⟩
          have z0 := V4Y.c0
          have z1 := V4Y.c1
          have z2 := V4Y.c2
          have zf0 := V4Y.f0
          have zf1 := V4Y.f1
          have zf2 := V4Y.f2
          have s0 := V7.c0
          have s1 := V7.c1
          have s2 := V7.c2
          clear hf2 HSM HFR hsm V2Y V4Y V7 HRY HBY
          go_wp2_with fail
          go_roundw
          case rel => exact ⟨i + 1, F, _, by omega, by go_num, HI2, hf3⟩
          case measure => simp [intOf]; omega
      · have hke : i = T.length := by omega
        have hge : ¬ ((i : Int) < (T.length : Int)) := by omega
        have hRr : R = (r, true) := by
          have h := hf.out
          rw [hke, List.drop_length, faL] at h
          exact h.symm
        have HRr : Hid (R = (r, true)) := hRr
        have z0 := hI.out.var.c0
        have z1 := hI.out.var.c1
        have z2 := hI.out.var.c2
        have x0 := HX.out.c0
        have x1 := HX.out.c1
        have x2 := HX.out.c2
        have u0 := HX.out.f0
        have u1 := HX.out.f1
        have u2 := HX.out.f2
        have HRw : Hid (StRow wr w.heap.size (.slice au r.got.length cu) r.got) := lower_rowS hI.out.row (by omega)
        have HN2 : Hid (∀ g, (Value.slice au r.got.length cu).ownBlock = some g → g ≠ w.heap.size) := fun g hg => by have := (World.ownsRow.lt hI.out.row g hg).1; omega
        have HBE : Hid (Below w.heap.size w wr) := HB1.out.trans (hbw.mono HB1.out.size)
        clear hf hRr hke hI hbw HX HROW HNM
        go_wp2_with fail
        (try simp only [Exit.inBlock, Exit.then])
        refine bodyPost_ret (v := .tuple #[.agg #[.string r.rest, .slice au r.got.length cu, .bool r.bad], .bool true]) ?_ rfl (by rw [HRr.out]; exact ⟨_, rfl, own_setCell (own_setCell (own_setCell HRw.out _ 0 _ HN2.out) _ 1 _ HN2.out) _ 2 _ HN2.out, ((HBE.out.setCell (p := ⟨w.heap.size, 0, none⟩) (Nat.le_refl _) _).setCell (p := ⟨w.heap.size, 1, none⟩) (Nat.le_refl _) _).setCell (p := ⟨w.heap.size, 2, none⟩) (Nat.le_refl _) _⟩)
        · rw [rc]
          go_simp

end Go.Proofs.Ytcpjbacjmmbabaa
