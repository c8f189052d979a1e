/- The program's comeTo. -/
import Derived.Test.YtecgjhnihagleaaMcW
namespace Go.Proofs.Ytecgjhnihagleaa
open Go.RowKit Plain Mch Tpc

theorem Try.infoPr : (Try.prog.info? 86).map (fun i => (i.zero, i.size, i.bytes)) = some (some (.agg #[.int .i64 0, .int .i64 0]), 2, 16) := by kernel_rfl

theorem one2M (a b : Int) : ∀ u ∈ [Value.int .i64 a, .int .i64 b], u.oneCell' = true := by
  intro u hu
  simp at hu
  rcases hu with rfl | rfl <;> rfl
theorem onesM (s : ByteArray) : ∀ u ∈ [Value.string s], u.oneCell' = true := by
  intro u hu
  simp at hu
  subst hu
  rfl

attribute [local go_sem ↓] eqlP

set_option maxRecDepth 100000 in
set_option maxHeartbeats 8000000 in
theorem comeTo_any (B b : Nat) (vp vn vt : Value) (l : List Pq) (R : List (List Int)) (us : List Value) (q : Pq) (w : World) (h : PWa w B b vp vn vt l (l.map Pq.s) R us) (hl : l.length ≤ 1000) :
    Calls Try.prog 76 #[.pointer (some ⟨b, 0, none⟩), .agg #[.int .i64 (q.a : Int), .int .i64 (q.b : Int)], .string q.s] w fun e w' => e = .returned (.int .i64 ((ix l q.a q.b : Nat) : Int)) ∧ ∃ vp' vt', PWa w' B b vp' vn vt' (pu l q) ((pu l q).map Pq.s) R us ∧ PG w w' b [vp, vn, vt] [vp', vn, vt'] := by
  obtain ⟨i0, hi, hz0, hz1, hz2⟩ := info_parts Try.infoPr
  obtain ⟨j0, hj, jz0, jz1, jz2⟩ := info_parts infoStr
  obtain ⟨T, hT⟩ : ∃ T, T = l.map Pq.s := ⟨_, rfl⟩
  have HTT : Hid (T = l.map Pq.s) := hT
  rw [← hT] at h
  clear hT
  have HP : Hid (PWa w B b vp vn vt l T R us) := h
  obtain ⟨ap, cp, hvp, hcp⟩ := h.rp.slice
  subst hvp
  unfold maxLen at hcp
  obtain ⟨x, y, s⟩ := q
  dsimp only
  obtain ⟨W1, hW1⟩ : ∃ W, W = w.alloc (.cells #[.int .i64 (x : Int), .int .i64 (y : Int)] 86) := ⟨_, rfl⟩
  have hB1 : Below w.heap.size w W1 := by rw [hW1]; exact (Below.refl _ w).alloc (Nat.le_refl _) _
  have q0 : W1.cell? ⟨w.heap.size, 0, none⟩ = some (.int .i64 (x : Int)) := by rw [hW1]; go_simp
  have q1 : W1.cell? ⟨w.heap.size, 1, none⟩ = some (.int .i64 (y : Int)) := by rw [hW1]; go_simp
  have hl1 : w.heap.size < W1.heap.size := by rw [hW1]; simp
  have p0 := (HP.out.below hB1).c0
  have hbl := h.lb
  clear h
  go_enter Try.func76, Try.ntmps76
  go_upto_region 1 with fail
  rw [← hW1]
  clear hW1
  go_wp2
  go_loopw [14] (fun vi wr => ∃ i : Nat, i ≤ l.length ∧ vi = .int .i64 (i : Int) ∧ Hid (i ≤ ix l x y) ∧ Hid (Below W1.heap.size W1 wr))
    (fun vi _ => l.length - (intOf vi).toNat)
  case atStart => exact ⟨0, by omega, rfl, Nat.zero_le _, Below.refl _ _⟩
  case round =>
    obtain ⟨i, hil, rfl, hix, hbw⟩ := hrel
    have hBr : Below w.heap.size w wr := hB1.trans (hbw.out.mono hB1.size)
    have HPr : Hid (PWa wr B b (.slice ap l.length cp) vn vt l T R us) := HP.out.below hBr
    have q0r := (hbw.out.cell (p := ⟨w.heap.size, 0, none⟩) hl1).trans q0
    have q1r := (hbw.out.cell (p := ⟨w.heap.size, 1, none⟩) hl1).trans q1
    have hlr : w.heap.size < wr.heap.size := by have := hbw.out.size; omega
    clear q0 q1 p0
    by_cases hlt : i < l.length
    · have hlt' : (i : Int) < (l.length : Int) := by omega
      obtain ⟨g, hap, hgl, _, k0, k1⟩ := HPr.out.rp.cells hlt
      subst hap
      have HEQ : Hid ((pq l i).a = x ∧ (pq l i).b = y → ix l x y = i) := fun e => by
        have h1 := hix.out
        by_cases h2 : i < ix l x y
        · exact absurd e (ix_first h2)
        · omega
      have HNE : Hid (¬ ((pq l i).a = x ∧ (pq l i).b = y) → i + 1 ≤ ix l x y) := fun e => by
        have h1 := hix.out
        by_cases h2 : i = ix l x y
        · exfalso
          have h3 := ix_some (l := l) (a := x) (b := y) (by omega)
          rw [← h2] at h3
          exact e h3
        · omega
      generalize (pq l i).a = pa at k0 HEQ HNE
      generalize (pq l i).b = pb at k1 HEQ HNE
      by_cases he : pa = x ∧ pb = y
      · obtain ⟨rfl, rfl⟩ := he
        have hR : Hid (ix l pa pb = i) := HEQ.out ⟨rfl, rfl⟩
        have HF : Hid (PWa wr B b (.slice (some ⟨g, 0, none⟩) l.length cp) vn vt (pu l ⟨pa, pb, s⟩) ((pu l ⟨pa, pb, s⟩).map Pq.s) R us) := by
          have e : pu l ⟨pa, pb, s⟩ = l := by unfold pu; rw [if_pos (by show ix l pa pb < _; rw [hR.out]; exact hlt)]
          rw [e, ← HTT.out]
          exact HPr.out
        have hBe := hBr.alloc (by omega) (.cells #[.int .i64 (pa : Int), .int .i64 (pb : Int)] 86)
        have HFe : Hid (PWa (wr.alloc (.cells #[.int .i64 (pa : Int), .int .i64 (pb : Int)] 86)) B b (.slice (some ⟨g, 0, none⟩) l.length cp) vn vt (pu l ⟨pa, pb, s⟩) ((pu l ⟨pa, pb, s⟩).map Pq.s) R us) := HF.out.below ((Below.refl _ wr).alloc (Nat.le_refl _) _)
        have d1 : decide ((pa : Int) = (pa : Int)) = true := by simp
        have d2 : decide ((pb : Int) = (pb : Int)) = true := by simp
        clear HEQ HNE hix HF
        go_wp2
        go_ret
        exact ⟨by rw [hR.out]; rfl, _, _, HFe.out, PG.of_below hBe⟩
      · have d1 : (decide ((pa : Int) = (x : Int)) && decide ((pb : Int) = (y : Int))) = false := by
          rw [Bool.eq_false_iff]
          intro hh
          simp at hh
          exact he ⟨by omega, by omega⟩
        have hN : Hid (i + 1 ≤ ix l x y) := HNE.out he
        have hbw2 : Hid (Below W1.heap.size W1 (wr.alloc (.cells #[.int .i64 (pa : Int), .int .i64 (pb : Int)] 86))) := hbw.out.alloc hbw.out.size _
        clear HEQ HNE hix he
        go_wp2
        go_roundw
        case rel => exact ⟨i + 1, by omega, by go_num, hN, hbw2⟩
        case measure => simp [intOf]; omega
    · have hke : i = l.length := by omega
      have hge : ¬ ((i : Int) < (l.length : Int)) := by omega
      have hR : Hid (ix l x y = l.length) := by
        have h1 := hix.out
        have h2 := ix_le l x y
        show _ = _
        omega
      have HPU : Hid (pu l ⟨x, y, s⟩ = l ++ [⟨x, y, s⟩]) := by
        show _ = _
        unfold pu
        rw [if_neg (by show ¬ ix l x y < _; rw [hR.out]; omega)]
      have HPd := HPr.out.below ((Below.refl _ wr).drew)
      have HPD : Hid (PWa wr.drew B b (.slice ap l.length cp) vn vt l T R us) := HPd
      have p0 := HPr.out.c0
      have p0a : ∀ o, (wr.alloc o).cell? ⟨b, 0, none⟩ = some (.slice ap l.length cp) := fun o => (HPr.out.below ((Below.refl _ wr).alloc (Nat.le_refl _) o)).c0
      have hbr := HPr.out.lb
      have hBb := HPr.out.hb
      have HLM : Hid (T.length = l.length) := by show _ = _; rw [HTT.out]; simp
      clear hke hix HPd
      go_upto_region 7 with fail
      go_region_law
        (refine step_append_lies _ (by rfl) _ _ _ (by rfl) B 86 i0 (.agg #[.int .i64 0, .int .i64 0]) 2 16 Try.underlying76 hi hz0 hz1 hz2 rfl (by decide) _ l.length _ (by rfl) (World.ownsRow.alloc HPD.out.rp _) ⟨wr.heap.size, 0, none⟩ 1 1 [.int .i64 (x : Int), .int .i64 (y : Int)] (by rfl) rfl (World.news_of_block (heap_alloc_new wr.drew _)) (one2M _ _) (by omega) (by unfold maxLen; omega) (by omega) (by simp; omega) (wr.heap.size + 1) (by simp) ?_; intro g9 cap9 w9 hown9 hgrow9 hat9 hlt9; obtain ⟨⟨q9, f9, k9⟩, hT9, hG9⟩ := HPD.out.pair (q := ⟨x, y, s⟩) hown9 hgrow9 hat9)
      all_goals
        obtain ⟨W6, hW6⟩ : ∃ W, W = w9.setCell ⟨b, 0, none⟩ (.slice (some ⟨g9, 0, none⟩) (l.length + 1) cap9) := ⟨_, rfl⟩
        rw [← hW6] at hT9 hG9
        have HT6 : Hid (PWa W6 B b (.slice (some ⟨g9, 0, none⟩) (l.length + 1) cap9) vn vt (l ++ [⟨x, y, s⟩]) T R us) := hT9
        have HG6 : Hid (PG w W6 b [.slice ap l.length cp, vn, vt] [.slice (some ⟨g9, 0, none⟩) (l.length + 1) cap9, vn, vt]) := (PG.of_below hBr.drew).trans hG9
        obtain ⟨at', ct, hvt⟩ := StRow.slice hT9.rt
        subst hvt
        have t2 := hT9.c2
        have hb6 := hT9.lb
        clear hT9 hG9 hown9 hgrow9 hat9 hlt9 q9 f9 k9 p0 p0a HPr HPD
        go_upto_region 8 with fail
        rw [← hW6]
        clear hW6
        go_wp2_with (at_builtin; refine wpList_append_lies _ rfl _ _ 77 rfl B 9 j0 (.string ByteArray.empty) 1 16 Try.underlying77 hj jz0 jz1 jz2 rfl (by decide) _ T.length _ rfl (World.ownsRow.alloc HT6.out.rt _) ⟨W6.heap.size, 0, none⟩ 1 1 [.string s] rfl rfl (World.news_of_block (heap_alloc_new W6 _)) (onesM _) (by omega) (by unfold maxLen; have := HLM.out; omega) (by have := HLM.out; omega) (by simp; omega) (W6.heap.size + 1) (by simp) ?_)
        intro g8 cap8 w8 hown8 hgrow8 hat8 hlt8
        obtain ⟨⟨q8, f8, k8⟩, hT8, hG8⟩ := HT6.out.text hown8 hgrow8 hat8
        obtain ⟨W7, hW7⟩ : ∃ W, W = w8.setCell ⟨b, 2, none⟩ (.slice (some ⟨g8, 0, none⟩) (T.length + 1) cap8) := ⟨_, rfl⟩
        rw [← hW7] at hT8 hG8
        have HF : Hid (PWa W7 B b (.slice (some ⟨g9, 0, none⟩) (l.length + 1) cap9) vn (.slice (some ⟨g8, 0, none⟩) (T.length + 1) cap8) (pu l ⟨x, y, s⟩) ((pu l ⟨x, y, s⟩).map Pq.s) R us) := by
          rw [HPU.out, List.map_append, ← HTT.out]
          exact hT8
        have HG7 : Hid (PG w W7 b [.slice ap l.length cp, vn, .slice at' T.length ct] [.slice (some ⟨g9, 0, none⟩) (l.length + 1) cap9, vn, .slice (some ⟨g8, 0, none⟩) (T.length + 1) cap8]) := HG6.out.trans hG8
        have p7 := HF.out.c0
        clear hT8 hG8 hown8 hgrow8 hat8 HT6 HG6 t2
        go_upto_region 9 with fail
        rw [← hW7]
        clear hW7
        go_wp2
        go_ret
        exact ⟨by rw [hR.out]; rfl, _, _, HF.out, HG7.out⟩

end Go.Proofs.Ytecgjhnihagleaa
