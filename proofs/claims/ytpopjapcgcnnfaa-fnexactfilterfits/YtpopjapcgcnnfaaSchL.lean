/- The model's tree of a type: the walk. -/
import Derived.Test.YtpopjapcgcnnfaaGd
namespace Go.Proofs.Ytpopjapcgcnnfaa
open Go.RowKit Plain Sch

set_option maxRecDepth 100000 in
set_option maxHeartbeats 4000000 in
theorem l2Tree_any (T : List Ty) (v : Value) (hl : T.length ≤ 2097152) : ∀ (f k : Nat) (w : World), TysAt w w.heap.size v T → k < T.length → T.length ≤ f + k →
    Calls Try.prog 72 #[.agg #[v], .int .i64 k] w fun e w' => ∃ c, e = .returned (trVal (tree T f k) c) ∧ KidsIn f w' (fun g => w.heap.size ≤ g ∧ g < w'.heap.size) c (tree T f k).kids ∧ Below w.heap.size w w' := by
  intro f
  induction f with
  | zero => intro k w hT hk hf; omega
  | succ f ih0 =>
    intro k w hT hk hf
    have ih : Hid (∀ (k : Nat) (w : World), TysAt w w.heap.size v T → k < T.length → T.length ≤ f + k →
      Calls Try.prog 72 #[.agg #[v], .int .i64 k] w fun e w' => ∃ c, e = .returned (trVal (tree T f k) c) ∧ KidsIn f w' (fun g => w.heap.size ≤ g ∧ g < w'.heap.size) c (tree T f k).kids ∧ Below w.heap.size w w') := ih0
    clear ih0
    obtain ⟨i0, hi, hz0, hz1, hz2⟩ := info_parts Try.infoTr
    have HT : Hid (TysAt w w.heap.size v T) := hT
    obtain ⟨g, o, cap, rfl, hlc, hcm, hg, hrow, hnm⟩ := hT.open (by omega)
    clear hT
    have hci := hrow k hk
    have HT1 : Hid (tree T (f + 1) k = .mk (ty T k).kind (ty T k).name (ty T k).no (ty T k).must (ty T k).most ((kids T k).map (tree T f))) := rfl
    obtain ⟨TT, hTT⟩ : ∃ t, t = tree T (f + 1) k := ⟨_, rfl⟩
    rw [← hTT]
    rw [← hTT] at HT1
    clear hTT
    obtain ⟨ti, hti⟩ : ∃ t, ty T k = t := ⟨_, rfl⟩
    rw [hti] at hci HT1
    clear hti hrow hnm
    obtain ⟨kind, name, no, must, up, most⟩ := ti
    obtain ⟨c0, c1, c2, c3, c4, c5⟩ := hci
    dsimp only at c0 c1 c2 c3 c4 c5 HT1
    have hk' : (k : Int) < (T.length : Int) := by omega
    have hk0' : (0 : Int) ≤ (k : Int) := by omega
    have hcm' : cap ≤ 9223372036854775807 := by unfold maxLen at hcm; omega
    have hkn : ∀ c ∈ kids T k, k < c ∧ c < T.length := fun c hc => by have := (mem_kids T k c).1 hc; omega
    have HKN : Hid (∀ c ∈ kids T k, k < c ∧ c < T.length) := hkn
    clear hkn
    obtain ⟨W4, hW4⟩ : ∃ W, W = ((((w.alloc (.cells #[.slice (some ⟨g, o, none⟩) T.length cap] 59)).alloc (.cells #[.int .i64 0, .string ⟨#[]⟩, .int .i64 0, .bool false, .int .i64 0, .slice none 0 0] 105)).alloc (.cells #[.int .i64 kind, .string name, .int .i64 no, .bool must, .int .i64 up, .int .i64 most] 157)).alloc (.cells #[.int .i64 kind, .string name, .int .i64 no, .bool must, .int .i64 most, .slice none 0 0] 105)) := ⟨_, rfl⟩
    have hB4 : Below w.heap.size w W4 := by rw [hW4]; exact ((((Below.refl _ w).alloc (Nat.le_refl _) _).alloc (by simp) _).alloc (by simp; omega) _).alloc (by simp; omega) _
    have hs4 : W4.heap.size = w.heap.size + 4 := by rw [hW4]; simp
    have x0 : W4.cell? ⟨w.heap.size, 0, none⟩ = some (.slice (some ⟨g, o, none⟩) T.length cap) := by rw [hW4]; go_simp
    have y0 : W4.cell? ⟨w.heap.size + 1, 0, none⟩ = some (.int .i64 0) := by rw [hW4]; go_simp
    have y1 : W4.cell? ⟨w.heap.size + 1, 1, none⟩ = some (.string ⟨#[]⟩) := by rw [hW4]; go_simp
    have y2 : W4.cell? ⟨w.heap.size + 1, 2, none⟩ = some (.int .i64 0) := by rw [hW4]; go_simp
    have y3 : W4.cell? ⟨w.heap.size + 1, 3, none⟩ = some (.bool false) := by rw [hW4]; go_simp
    have y4 : W4.cell? ⟨w.heap.size + 1, 4, none⟩ = some (.int .i64 0) := by rw [hW4]; go_simp
    have y5 : W4.cell? ⟨w.heap.size + 1, 5, none⟩ = some (.slice none 0 0) := by rw [hW4]; go_simp
    have yz : ∀ j, W4.frozen? ⟨w.heap.size + 1, j, none⟩ = false := by intro j; rw [hW4]; go_simp
    have hN : NdIn W4 (w.heap.size + 1 + 1 + 1) 0 (.mk kind name no must most []) (.slice none 0 0) := by rw [hW4]; exact ⟨by go_simp; rfl, by go_simp; rfl, by go_simp; rfl, by go_simp; rfl, by go_simp; rfl, by go_simp⟩
    have hz5 : W4.frozen? ⟨w.heap.size + 1 + 1 + 1, 5, none⟩ = false := by rw [hW4]; go_simp
    go_enter Try.func72, Try.ntmps72
    go_wp2_with fail
    rw [← hW4]
    clear hW4 c0 c1 c2 c3 c4 c5
    refine (l2Kids_any T _ k W4 (HT.out.below hB4) hk hl).mono ?_
    rintro e w1 ⟨r, rfl, hr, hb1⟩
    have hB1 : Below w.heap.size w w1 := hB4.trans (hb1.mono hB4.size)
    have hs1 := hb1.size
    have x0 := (hb1.cell (p := ⟨w.heap.size, 0, none⟩) (by show w.heap.size < _; omega)).trans x0
    have y0 := (hb1.cell (p := ⟨w.heap.size + 1, 0, none⟩) (by show w.heap.size + 1 < _; omega)).trans y0
    have y1 := (hb1.cell (p := ⟨w.heap.size + 1, 1, none⟩) (by show w.heap.size + 1 < _; omega)).trans y1
    have y2 := (hb1.cell (p := ⟨w.heap.size + 1, 2, none⟩) (by show w.heap.size + 1 < _; omega)).trans y2
    have y3 := (hb1.cell (p := ⟨w.heap.size + 1, 3, none⟩) (by show w.heap.size + 1 < _; omega)).trans y3
    have y4 := (hb1.cell (p := ⟨w.heap.size + 1, 4, none⟩) (by show w.heap.size + 1 < _; omega)).trans y4
    have y5 := (hb1.cell (p := ⟨w.heap.size + 1, 5, none⟩) (by show w.heap.size + 1 < _; omega)).trans y5
    have yz : ∀ j, w1.frozen? ⟨w.heap.size + 1, j, none⟩ = false := fun j => (hb1.frozen (p := ⟨w.heap.size + 1, j, none⟩) (by show w.heap.size + 1 < _; omega)).trans (yz j)
    have hN := hN.kept (hb1.block _ (by omega))
    have hz5 := (hb1.frozen (p := ⟨w.heap.size + 1 + 1 + 1, 5, none⟩) (by show w.heap.size + 1 + 1 + 1 < _; omega)).trans hz5
    clear hb1
    rw [hs4] at hr hs1
    have hkl : (kids T k).length ≤ T.length := kidsTo_len T k T.length
    generalize kids T k = ks at hr hkl HKN HT1
    obtain ⟨ar, capr, hrv⟩ : ∃ ao cap, r = Value.slice ao ks.length cap := by
      rcases hr.2 with ⟨rfl, h0⟩ | ⟨g, cap, _, rfl, _⟩
      · exact ⟨none, 0, by rw [h0]⟩
      · exact ⟨_, _, rfl⟩
    subst hrv
    go_wp2
    go_loopw [29] (fun vi wr => ∃ (n : Nat), n ≤ ks.length ∧ vi = .int .i64 (n : Int) ∧ TInv T f w.heap.size w1 ks ar capr kind name no must most n wr)
      (fun vi _ => ks.length - (intOf vi).toNat)
    case atStart =>
      refine ⟨0, by omega, rfl, .slice none 0 0, [], fun g => w.heap.size + 4 ≤ g ∧ g < w1.heap.size, rfl, rfl, hN, hz5, World.ownsRow_nil _ _ _ _, fun x hx => by simp at hx, fun g hg => hg, fun g hg => by simp [Value.ownBlock] at hg, fun g hg => ?_, hr, Below.refl _ _⟩
      subst hg
      exact hr.lt g rfl
    case round =>
      obtain ⟨n, hn, rfl, kv, rows, S, hrows, hrl, hNr, hzr, hown, hkids, hS, hkS, hrS, hrr, hbw⟩ := hrel
      have HNR : Hid (NdIn wr (w.heap.size + 1 + 1 + 1) 0 (.mk kind name no must most []) kv) := hNr
      have hBr : Below w.heap.size w wr := hB1.trans (hbw.mono (by omega))
      have hsr : w.heap.size + 4 ≤ wr.heap.size := by have := hbw.size; omega
      have x0 := (hbw.cell (p := ⟨w.heap.size, 0, none⟩) (by show w.heap.size < _; omega)).trans x0
      obtain ⟨n0, n1, n2, n3, n4, n5⟩ := hNr
      simp only [Nat.zero_add, Tr.kind, Tr.name, Tr.no, Tr.must, Tr.most] at n0 n1 n2 n3 n4 n5
      by_cases hlt : n < ks.length
      · have hlt' : (n : Int) < (ks.length : Int) := by omega
        obtain ⟨c, hc⟩ : ∃ c, ks[n]? = some c := ⟨_, List.getElem?_eq_getElem hlt⟩
        obtain ⟨gr, capr', hra⟩ := Joins.ownsRow_form hrr (by omega)
        simp only [Value.slice.injEq, true_and] at hra
        obtain ⟨rfl, rfl⟩ := hra
        have hcell := ints_at hrr n c hc hlt
        have hcb := HKN.out c (List.mem_of_getElem? hc)
        have hTr : Hid (TysAt wr wr.heap.size (.slice (some ⟨g, o, none⟩) T.length cap) T) := HT.out.below hBr
        obtain ⟨tc, htc⟩ : ∃ tc, tc = tree T f c := ⟨_, rfl⟩
        have IC : Hid (∀ w : World, TysAt w w.heap.size (.slice (some ⟨g, o, none⟩) T.length cap) T → Calls Try.prog 72 #[.agg #[.slice (some ⟨g, o, none⟩) T.length cap], .int .i64 c] w fun e w' => ∃ ac lc cc, e = .returned (.agg #[.int .i64 tc.kind, .string tc.name, .int .i64 tc.no, .bool tc.must, .int .i64 tc.most, .slice ac lc cc]) ∧ KidsIn f w' (fun g => w.heap.size ≤ g ∧ g < w'.heap.size) (.slice ac lc cc) tc.kids ∧ Below w.heap.size w w') := fun w hT => by
          refine (ih.out c w hT hcb.2 (by omega)).mono ?_
          rintro e w' ⟨cc, rfl, hk, hb⟩
          obtain ⟨ac, cp, rfl, _⟩ := hk.form
          rw [htc]
          exact ⟨ac, _, cp, rfl, hk, hb⟩
        have HTC : Hid (tc = tree T f c) := htc
        clear htc
        have hTd : Hid (TysAt wr.drew wr.drew.heap.size (.slice (some ⟨g, o, none⟩) T.length cap) T) := HT.out.below hBr.drew
        go_wp2_with fail
        go_region_law
          (first
            | (go_simp; go_at_call 72; refine (IC.out _ hTd.out).mono ?_; rintro e w2 ⟨ac, lc, cc, rfl, hkid, hb2⟩; have hown2 := own_below (w := wr.drew) hown hb2; have m5 := (hb2.cell (p := ⟨w.heap.size + 1 + 1 + 1, 5, none⟩) (by show w.heap.size + 1 + 1 + 1 < wr.heap.size; omega)).trans n5; have mz := (hb2.frozen (p := ⟨w.heap.size + 1 + 1 + 1, 5, none⟩) (by show w.heap.size + 1 + 1 + 1 < wr.heap.size; omega)).trans hzr; have hs2 : w.heap.size + 1 + 1 + 1 < w2.heap.size := (by have := hb2.size; simp at this; omega))
            | (refine step_append_lies _ rfl _ _ _ rfl (w.heap.size + 4) 105 i0 (.agg #[.int .i64 0, .string ⟨#[]⟩, .int .i64 0, .bool false, .int .i64 0, .slice none 0 0]) 6 72 Try.underlying103 hi hz0 hz1 hz2 rfl (by decide) kv n _ rfl (hown2.alloc _) ⟨w2.heap.size, 0, none⟩ 1 1 [Value.int .i64 tc.kind, .string tc.name, .int .i64 tc.no, .bool tc.must, .int .i64 tc.most, .slice ac lc cc] rfl rfl (World.news_of_block (heap_alloc_new w2 _)) one6 (by omega) (by unfold maxLen; omega) (by omega) (by have := hb2.size; simp at this ⊢; omega) (w2.heap.size + 1) (by simp) ?_; intro g9 cap9 w9 hown9 hgrow9 hat9 hlt9; have hne9 : some (w.heap.size + 1 + 1 + 1) ≠ kv.ownBlock := (fun e => by have := (hown.lt _ e.symm).1; omega); have m9 := (hgrow9.cell_far ⟨w.heap.size + 1 + 1 + 1, 5, none⟩ (by simp; omega) hne9).trans ((Below.cell ((Below.refl _ w2).alloc (Nat.le_refl _) _) (p := ⟨w.heap.size + 1 + 1 + 1, 5, none⟩) hs2).trans m5); have mz9 := (hgrow9.frozen_far ⟨w.heap.size + 1 + 1 + 1, 5, none⟩ (by simp; omega) hne9).trans ((Below.frozen ((Below.refl _ w2).alloc (Nat.le_refl _) _) (p := ⟨w.heap.size + 1 + 1 + 1, 5, none⟩) hs2).trans mz)))
        all_goals
          have hstep := tinv_step hsr hrows.out hrl HNR.out hzr hown hkids.out hS.out hkS.out hrS.out hrr hbw hc HTC.out hkid hb2 hown9 hgrow9 hat9
          clear hown hown2 hkid hb2 hgrow9 hat9 hown9 HNR hkids hS hkS hrr hcell n0 n1 n2 n3 n4 n5 m5 m9 mz mz9
          go_wp2
          go_roundw
          case rel => exact ⟨n + 1, by omega, by go_num, hstep⟩
          case measure => simp [intOf]; omega
      · have hke : n = ks.length := by omega
        subst hke
        have hge : ¬ ((ks.length : Int) < (ks.length : Int)) := by omega
        have hb1 : w.heap.size + 1 < w.heap.size + 3 := by omega
        have y0 := (hbw.cell (p := ⟨w.heap.size + 1, 0, none⟩) hb1).trans y0
        have y1 := (hbw.cell (p := ⟨w.heap.size + 1, 1, none⟩) hb1).trans y1
        have y2 := (hbw.cell (p := ⟨w.heap.size + 1, 2, none⟩) hb1).trans y2
        have y3 := (hbw.cell (p := ⟨w.heap.size + 1, 3, none⟩) hb1).trans y3
        have y4 := (hbw.cell (p := ⟨w.heap.size + 1, 4, none⟩) hb1).trans y4
        have y5 := (hbw.cell (p := ⟨w.heap.size + 1, 5, none⟩) hb1).trans y5
        have z0 := (hbw.frozen (p := ⟨w.heap.size + 1, 0, none⟩) hb1).trans (yz 0)
        have z1 := (hbw.frozen (p := ⟨w.heap.size + 1, 1, none⟩) hb1).trans (yz 1)
        have z2 := (hbw.frozen (p := ⟨w.heap.size + 1, 2, none⟩) hb1).trans (yz 2)
        have z3 := (hbw.frozen (p := ⟨w.heap.size + 1, 3, none⟩) hb1).trans (yz 3)
        have z4 := (hbw.frozen (p := ⟨w.heap.size + 1, 4, none⟩) hb1).trans (yz 4)
        have z5 := (hbw.frozen (p := ⟨w.heap.size + 1, 5, none⟩) hb1).trans (yz 5)
        have HK : Hid (∀ w' : World, (∀ g, w.heap.size + 4 ≤ g → w'.heap[g]? = wr.heap[g]?) → w'.heap.size = wr.heap.size → KidsIn (f + 1) w' (fun g => w.heap.size ≤ g ∧ g < w'.heap.size) kv (ks.map (tree T f))) := by
          intro w' hw' hsz'
          have h1 := kids_of_rows (S' := fun g => w.heap.size + 4 ≤ g ∧ g < wr.heap.size) hown hrl hkids.out hS.out (fun g hg => hown.lt g hg)
          rw [hrows.out, List.take_length] at h1
          refine h1.kept (fun g hg => hw' g hg.1) (fun g hg => ?_)
          rw [hsz']
          omega
        obtain ⟨ak, capk, hkv⟩ : ∃ ao cap, kv = Value.slice ao ks.length cap := by
          rcases hown.2 with ⟨rfl, h0⟩ | ⟨g, cap, _, rfl, _⟩
          · exact ⟨none, 0, by rw [h0]⟩
          · exact ⟨_, _, rfl⟩
        subst hkv
        clear hown hkids hS hkS hrS hrr hrows yz HNR
        go_wp2
        (try simp only [Exit.inBlock, Exit.then])
        refine bodyPost_ret (v := .agg #[.int .i64 kind, .string name, .int .i64 no, .bool must, .int .i64 most, .slice ak ks.length capk]) ?_ rfl ⟨.slice ak ks.length capk, ?_, ?_, ?_⟩
        · rw [results_cell1 rfl]
          go_simp
        · rw [HT1.out]; rfl
        · rw [HT1.out]
          refine HK.out _ (fun g hg => ?_) (by simp)
          repeat rw [Below.heap_setCell _ _ _ _ (by show g ≠ w.heap.size + 1; omega)]
        · repeat' (first | exact hBr | refine Below.setCell ?_ (by simp) _)

end Go.Proofs.Ytpopjapcgcnnfaa
