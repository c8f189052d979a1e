/- The program's divide. -/
import Derived.Test.YtecgjhnihagleaaMcDc
import Derived.Test.YtecgjhnihagleaaMcCc
namespace Go.Proofs.Ytecgjhnihagleaa
open Go.RowKit Plain Mch Tpc

theorem Try.infoLk : (Try.prog.info? 96).map (fun i => (i.zero, i.size, i.bytes)) = some (some (.agg #[.bool false, .int .i64 0, .int .i64 0, .int .i64 0]), 4, 32) := by kernel_rfl

theorem one4L (a : Bool) (b c d : Int) : ∀ u ∈ [Value.bool a, .int .i64 b, .int .i64 c, .int .i64 d], u.oneCell' = true := by
  intro u hu
  simp at hu
  rcases hu with rfl | rfl | rfl | rfl <;> rfl

set_option maxRecDepth 100000 in
set_option maxHeartbeats 8000000 in
theorem divide_any (M : List (List Int)) (E : List Bool) (c : List Nat) (vM eM v : Value) (w : World) (hM : MAt w w.heap.size vM M) (hE : EAt w w.heap.size eM E) (hv : ZAt w w.heap.size v (zn c)) (hg : gm M E = true) (hl : c.length = M.length) :
    Calls Try.prog 74 #[.agg #[vM, eM], v] w fun e w' => ∃ r, e = .returned r ∧ ZRow w' w.heap.size r (zn (dv M E c)) ∧ Below w.heap.size w w' := by
  obtain ⟨i0, hi, hz0, hz1, hz2⟩ := info_parts Try.infoInt
  obtain ⟨j0, hj, jz0, jz1, jz2⟩ := info_parts Try.infoLk
  have HM : Hid (MAt w w.heap.size vM M) := hM
  have HE : Hid (EAt w w.heap.size eM E) := hE
  have HV : Hid (ZAt w w.heap.size v (zn c)) := hv
  have HG : Hid (gm M E = true) := hg
  have HL : Hid (c.length = M.length) := hl
  obtain ⟨aM, cM, rfl, hm1, hm2, _⟩ := hM
  obtain ⟨aE, cE, rfl, he1, he2, _⟩ := hE
  obtain ⟨av, cv, rfl, hc1, hc2, _⟩ := hv
  rw [zn_len] at hc1 HV
  rw [zn_len]
  unfold maxLen at hm2 hc2 he2
  have h12 : M.length ≤ 12 := (gm_iff.1 hg).1.2.1
  rw [hl] at HV hc1
  rw [hl]
  obtain ⟨f, hf⟩ : ∃ f, f = lo4 M E c := ⟨_, rfl⟩
  have HF : Hid (f = lo4 M E c) := hf
  have HD : Hid (dv M E c = cl f M.length) := by show _ = _; rw [hf, ← hl]; rfl
  obtain ⟨D, hD⟩ : ∃ D, D = dv M E c := ⟨_, rfl⟩
  rw [← hD] at HD ⊢
  clear hf hD hg hl
  obtain ⟨W1, hW1⟩ : ∃ W, W = w.alloc (.cells #[.slice aM M.length cM, .slice aE E.length cE] 30) := ⟨_, rfl⟩
  have hB1 : Below w.heap.size w W1 := by rw [hW1]; exact (Below.refl _ w).alloc (Nat.le_refl _) _
  have Q0 : Hid (W1.cell? ⟨w.heap.size, 0, none⟩ = some (.slice aM M.length cM) ∧ W1.cell? ⟨w.heap.size, 1, none⟩ = some (.slice aE E.length cE)) := by refine ⟨?_, ?_⟩ <;> rw [hW1] <;> go_simp
  have HS1 : Hid (W1.heap.size = w.heap.size + 1) := by show _ = _; rw [hW1]; simp
  have HZ0 : Hid (ZRow W1 (w.heap.size + 1) (.slice none 0 0) (zn (cl f 0))) := ⟨rfl, .inl ⟨rfl, rfl⟩⟩
  have HL0 : Hid (LRow W1 (w.heap.size + 1) (.slice none 0 0) ((List.range 0).map f)) := ⟨rfl, .inl ⟨rfl, rfl⟩⟩
  go_enter Try.func74, Try.ntmps74
  go_upto_region 1 with fail
  rw [← hW1]
  clear hW1
  go_wp2
  go_loopw [5, 6, 11] (fun vl vd vi wr => ∃ i : Nat, i ≤ M.length ∧ vi = .int .i64 (i : Int) ∧ Hid (LRow wr (w.heap.size + 1) vl ((List.range i).map f)) ∧ Hid (ZRow wr (w.heap.size + 1) vd (zn (cl f i))) ∧ Hid (∀ g, vl.ownBlock = some g → vd.ownBlock ≠ some g) ∧ Hid (Below (w.heap.size + 1) W1 wr))
    (fun _ _ vi _ => M.length - (intOf vi).toNat)
  case atStart => exact ⟨0, by omega, rfl, HL0, HZ0, fun g hg => by simp [Value.ownBlock] at hg, Below.refl _ _⟩
  case round =>
    obtain ⟨i, hin, rfl, hLr, hO, hne, hbw⟩ := hrel
    clear HZ0 HL0
    have hszr : w.heap.size + 1 ≤ wr.heap.size := by have := hbw.out.size; have := HS1.out; omega
    obtain ⟨al, ca, hvl, hcl, _⟩ := hLr.out.slice
    subst hvl
    obtain ⟨ao, co, hvo⟩ := ZRow.slice hO.out
    subst hvo
    rw [zn_len, cl_len, List.length_map, List.length_range]
    rw [zn_len, cl_len] at hO hne
    rw [List.length_map, List.length_range] at hLr hne
    unfold maxLen at hcl
    have hBr : Below w.heap.size w wr := hB1.trans (hbw.out.mono (by omega))
    by_cases hlt : i < M.length
    · have hlt' : (i : Int) < (M.length : Int) := by omega
      have q0 := (hbw.out.cell (p := ⟨w.heap.size, 0, none⟩) (by show w.heap.size < _; omega)).trans Q0.out.1
      have q1 := (hbw.out.cell (p := ⟨w.heap.size, 1, none⟩) (by show w.heap.size < _; omega)).trans Q0.out.2
      have hzw : w.heap.size < wr.heap.size := by omega
      go_wp2_with fail
      refine (outlookOf_any M E c _ _ _ i _ (HM.out.below hBr) (HE.out.below hBr) (HV.out.below hBr) HG.out HL.out hlt).mono ?_
      rintro e w5 ⟨rfl, hb5⟩
      rw [← HF.out]
      obtain ⟨⟨qa, qb, qc, qd⟩, hq⟩ : ∃ q, q = f i := ⟨_, rfl⟩
      have HQ : Hid ((qa, qb, qc, qd) = f i) := hq
      rw [← hq]
      clear hq q0 q1
      have hs5 : wr.heap.size ≤ w5.heap.size := hb5.size
      have HB5 : Hid (Below (w.heap.size + 1) W1 w5) := hbw.out.trans (hb5.mono hszr)
      have HL5 : Hid (LRow w5 (w.heap.size + 1) (.slice al i ca) ((List.range i).map f)) := hLr.out.below hb5
      have HO5 : Hid (ZRow w5 (w.heap.size + 1) (.slice ao i co) (zn (cl f i))) := ZRow.below hO.out hb5
      unfold lkv
      dsimp only
      obtain ⟨W6, hW6⟩ : ∃ W, W = w5.alloc (.cells #[.bool qa, .int .i64 (qb : Int), .int .i64 (qc : Int), .int .i64 (qd : Int)] 96) := ⟨_, rfl⟩
      have HC6 : Hid (LC W6 w5.heap.size qa qb qc qd) := by show LC _ _ _ _ _ _; rw [hW6]; exact LC.made w5 qa qb qc qd
      have hb6 : Below w5.heap.size w5 W6 := by rw [hW6]; exact (Below.refl _ w5).alloc (Nat.le_refl _) _
      have HB6 : Hid (Below (w.heap.size + 1) W1 W6) := HB5.out.trans (hb6.mono (by omega))
      have HL6 : Hid (LRow W6 (w.heap.size + 1) (.slice al i ca) ((List.range i).map f)) := HL5.out.below hb6
      have HO6 : Hid (ZRow W6 (w.heap.size + 1) (.slice ao i co) (zn (cl f i))) := ZRow.below HO5.out hb6
      have HS6 : Hid (W6.heap.size = w5.heap.size + 1) := by show _ = _; rw [hW6]; simp
      have hlw : w5.heap.size < W6.heap.size := by rw [HS6.out]; omega
      have HLT : Hid (∀ g, (Value.slice al i ca).ownBlock = some g → w.heap.size + 1 ≤ g ∧ g < w5.heap.size) := World.ownsRow.lt HL5.out
      have HOT : Hid (∀ g, (Value.slice ao i co).ownBlock = some g → w.heap.size + 1 ≤ g ∧ g < w5.heap.size) := World.ownsRow.lt HO5.out
      obtain ⟨_, k0, k1, k2, k3, _, _, _, _⟩ := HC6.out
      clear hLr hO hb5 hbw HL5 HO5 HB5
      go_upto_region 7 with fail
      rw [← hW6]
      clear hW6
      have hi12 : i ≤ 12 := by omega
      go_wp2_with (at_builtin; refine wpList_append_lies _ rfl _ _ 106 rfl (w.heap.size + 1) 96 j0 (.agg #[.bool false, .int .i64 0, .int .i64 0, .int .i64 0]) 4 32 Try.underlying106 hj jz0 jz1 jz2 rfl (by decide) _ i _ rfl (World.ownsRow.alloc (by have h := HL6.out; unfold LRow at h; rw [List.length_map, List.length_range] at h; exact h) _) ⟨W6.heap.size, 0, none⟩ 1 1 [.bool qa, .int .i64 (qb : Int), .int .i64 (qc : Int), .int .i64 (qd : Int)] rfl rfl (World.news_of_block (heap_alloc_new W6 _)) (one4L _ _ _ _) (by omega) (by unfold maxLen; omega) (by omega) (by simp; omega) (W6.heap.size + 1) (by simp) ?_)
      intro g9 cap9 w9 hown9 hgrow9 hat9 hlt9
      have hs9 : W6.heap.size + 1 ≤ w9.heap.size := by have := hgrow9.size; simpa using this
      have HL9 : Hid (LRow w9 (w.heap.size + 1) (.slice (some ⟨g9, 0, none⟩) (i + 1) cap9) ((List.range (i + 1)).map f)) := by
        show LRow _ _ _ _
        rw [List.range_succ, List.map_append]
        unfold LRow
        have e : (([i].map f).flatMap lkc) = [.bool qa, .int .i64 (qb : Int), .int .i64 (qc : Int), .int .i64 (qd : Int)] := by
          show (lkc (f i) ++ []) = _
          rw [← HQ.out]
          rfl
        rw [List.length_append, List.length_map, List.length_range, List.flatMap_append, e]
        exact hown9
      have hblk : w9.heap[w5.heap.size]? = W6.heap[w5.heap.size]? := by
        rw [hgrow9.block _ (by simp; omega) (fun e => by have := (HLT.out _ e.symm).2; omega), Below.heap_alloc _ _ _ (by omega)]
      have HC9 : Hid (LC w9 w5.heap.size qa qb qc qd) := by
        obtain ⟨_, c0, c1, c2, c3, f0, f1, f2, f3⟩ := HC6.out
        exact ⟨by omega, (World.cell?_of_block (w := W6) hblk).trans c0, (World.cell?_of_block (w := W6) hblk).trans c1, (World.cell?_of_block (w := W6) hblk).trans c2, (World.cell?_of_block (w := W6) hblk).trans c3, (World.frozen?_of_block (w := W6) hblk).trans f0, (World.frozen?_of_block (w := W6) hblk).trans f1, (World.frozen?_of_block (w := W6) hblk).trans f2, (World.frozen?_of_block (w := W6) hblk).trans f3⟩
      have HO9 : Hid (ZRow w9 (w.heap.size + 1) (.slice ao i co) (zn (cl f i))) := own_besideM (World.ownsRow.alloc HO6.out _) hgrow9 (fun g' e1 e2 => hne.out g' e2.symm e1)
      have HNE9 : Hid ((Value.slice ao i co).ownBlock ≠ some g9) := fun e => by
        rcases hat9 with h | h
        · exact hne.out g9 h e
        · have := (HOT.out g9 e).2; omega
      have HB9 : Hid (Below (w.heap.size + 1) W1 w9) := below_grown HB6.out (by omega) hgrow9 (fun g hg => (HLT.out g hg).1)
      have hlw9 : w5.heap.size < w9.heap.size := by omega
      have hg9 : g9 < w9.heap.size := (World.ownsRow.lt HL9.out g9 rfl).2
      clear hown9 hgrow9 hat9 hlt9 k0 k1 k2 k3 HL6 HO6 HB6 HC6 hblk hlw hne
      obtain ⟨_, k0, k1, k2, k3, _, _, _, _⟩ := HC9.out
      have hI := lkIndex_any f i (w.heap.size + 1) (.slice (some ⟨g9, 0, none⟩) (i + 1) cap9) w9 HL9.out (by omega)
      rw [← HQ.out] at hI
      unfold lkv at hI
      dsimp only at hI
      have HI : Hid (type_of% hI) := hI
      clear hI
      go_wp2_with fail
      refine HI.out.mono ?_
      rintro e w10 ⟨rfl, hb10⟩
      have HL10 : Hid (LRow w10 (w.heap.size + 1) (.slice (some ⟨g9, 0, none⟩) (i + 1) cap9) ((List.range (i + 1)).map f)) := HL9.out.below hb10
      have HO10 : Hid (ZRow w10 (w.heap.size + 1) (.slice ao i co) (zn (cl f i))) := ZRow.below HO9.out hb10
      have HB10 : Hid (Below (w.heap.size + 1) W1 w10) := HB9.out.trans (hb10.mono (by omega))
      have hs10 : w9.heap.size ≤ w10.heap.size := hb10.size
      have HNX : Hid (zn (cl f (i + 1)) = zn (cl f i) ++ [((fi f i : Nat) : Int)]) := zn_cl f i
      have HKL : Hid ((zn (cl f i)).length = i) := by show _ = _; rw [zn_len, cl_len]
      clear HL9 HO9 HB9 HC9 k0 k1 k2 k3 hb10 HI
      generalize fi f i = x at HNX ⊢
      generalize zn (cl f i) = K at HO10 HNX HKL
      go_wp2_with (at_builtin; refine wpList_append_lies _ rfl _ _ 27 rfl (w.heap.size + 1) 3 i0 (.int .i64 0) 1 8 Try.underlying27 hi hz0 hz1 hz2 rfl (by decide) _ i _ rfl (World.ownsRow.alloc (by have h := HO10.out; unfold ZRow at h; rw [HKL.out] at h; exact h) _) ⟨w10.heap.size, 0, none⟩ 1 1 [.int .i64 (x : Int)] rfl rfl (World.news_of_block (heap_alloc_new w10 _)) (onezJ _) (by omega) (by unfold maxLen; omega) (by omega) (by simp; omega) (w10.heap.size + 1) (by simp) ?_)
      intro g8 cap8 w8 hown8 hgrow8 hat8 hlt8
      have HO8 : Hid (ZRow w8 (w.heap.size + 1) (.slice (some ⟨g8, 0, none⟩) (i + 1) cap8) (zn (cl f (i + 1)))) := by
        rw [HNX.out]
        have h := hown8
        rw [← HKL.out] at h
        have h2 := ZRow.snocM h
        rw [HKL.out] at h2
        exact h2
      have HL8 : Hid (LRow w8 (w.heap.size + 1) (.slice (some ⟨g9, 0, none⟩) (i + 1) cap9) ((List.range (i + 1)).map f)) := own_besideM (World.ownsRow.alloc HL10.out _) hgrow8 (fun g' e1 e2 => by
        simp [Value.ownBlock] at e1
        subst e1
        exact HNE9.out e2.symm)
      have HB8 : Hid (Below (w.heap.size + 1) W1 w8) := below_grown HB10.out (by omega) hgrow8 (fun g hg => (World.ownsRow.lt HO10.out g hg).1)
      have HN8 : Hid (∀ g, (Value.slice (some ⟨g9, 0, none⟩) (i + 1) cap9).ownBlock = some g → (Value.slice (some ⟨g8, 0, none⟩) (i + 1) cap8).ownBlock ≠ some g) := fun g e1 e2 => by
        simp [Value.ownBlock] at e1 e2
        subst e1 e2
        rcases hat8 with h | h
        · exact HNE9.out h
        · omega
      clear hown8 hgrow8 hat8 hlt8 HL10 HO10 HB10
      go_wp2
      go_roundw
      case rel => exact ⟨i + 1, by omega, by go_num, HL8, HO8, HN8, HB8⟩
      case measure => simp [intOf]; omega
    · have hke : i = M.length := by omega
      have hge : ¬ ((i : Int) < (M.length : Int)) := by omega
      have HEND : Hid (ZRow wr w.heap.size (.slice ao i co) (zn D)) := by
        have h := hO.out
        rw [hke] at h
        show World.ownsRow _ _ _ _ _ _ _
        rw [HD.out, hke]
        exact own_lowerM h (by omega)
      clear hke hO
      go_wp2
      go_ret
      exact ⟨_, rfl, HEND.out, hBr⟩

end Go.Proofs.Ytecgjhnihagleaa
