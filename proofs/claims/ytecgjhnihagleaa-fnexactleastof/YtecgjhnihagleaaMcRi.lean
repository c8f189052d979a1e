/- The program's ReachedOf. -/
import Derived.Test.YtecgjhnihagleaaMcY
import Derived.Test.YtecgjhnihagleaaMcRe
import Derived.Test.YtecgjhnihagleaaShf
import Derived.Sort.OwnSortedInts
namespace Go.Proofs.Ytecgjhnihagleaa
open Go.RowKit Plain Mch Tpc

theorem ZRow.snoc {w9 : World} {B g cap : Nat} {l : List Int} {x : Int} (hown : w9.ownsRow B 3 1 (.slice (some ⟨g, 0, none⟩) (l.length + 1) cap) (l.length + 1) (zints l ++ [.int .i64 x])) : ZRow w9 B (.slice (some ⟨g, 0, none⟩) (l.length + 1) cap) (l ++ [x]) := by
  unfold ZRow
  rw [List.length_append, List.length_singleton, show zints (l ++ [x]) = zints l ++ [.int .i64 x] by simp [zints]]
  exact hown
theorem ZRow.none (w : World) (B : Nat) : ZRow w B (.slice .none 0 0) [] := ⟨rfl, .inl ⟨rfl, rfl⟩⟩

theorem onezI (x : Int) : ∀ u ∈ [Value.int .i64 x], u.oneCell' = true := by
  intro u hu
  simp at hu
  subst hu
  rfl

theorem take_snoc2 {α : Type} {l : List α} {i : Nat} {x : α} (h : l[i]? = some x) : l.take (i + 1) = l.take i ++ [x] := by
  rw [List.take_add_one, h]
  rfl

theorem zn_snoc (l : List Nat) (x : Nat) : zn (l ++ [x]) = zn l ++ [(x : Int)] := by simp [zn]

set_option maxRecDepth 100000 in
set_option maxHeartbeats 8000000 in
theorem implReach (M : List (List Int)) (E : List Bool) (v e : Value) (w : World) (hM : MAt w w.heap.size v M) (hE : EAt w w.heap.size e E) :
    Calls Try.prog 30 #[.agg #[v, e]] w fun x w' => (∃ r, x = .returned (.tuple #[r, .bool (gm M E)]) ∧ ZRow w' w.heap.size r (rch M E)) ∧ Below w.heap.size w w' := by
  obtain ⟨i0, hi, hz0, hz1, hz2⟩ := info_parts Try.infoInt
  have HM : Hid (MAt w w.heap.size v M) := hM
  have HE : Hid (EAt w w.heap.size e E) := hE
  obtain ⟨ao, cap, rfl, hlc, hcm, _⟩ := hM
  obtain ⟨ae, cape, rfl, hlc2, hcm2, _⟩ := hE
  unfold maxLen at hcm hcm2
  obtain ⟨W1, hW1⟩ : ∃ W, W = w.alloc (.cells #[.slice ao M.length cap, .slice ae E.length cape] 30) := ⟨_, rfl⟩
  have hB1 : Below w.heap.size w W1 := by rw [hW1]; exact (Below.refl _ w).alloc (Nat.le_refl _) _
  have q0 : W1.cell? ⟨w.heap.size, 0, none⟩ = some (.slice ao M.length cap) := by rw [hW1]; go_simp
  have q1 : W1.cell? ⟨w.heap.size, 1, none⟩ = some (.slice ae E.length cape) := by rw [hW1]; go_simp
  have hl1 : w.heap.size < W1.heap.size := by rw [hW1]; simp
  obtain ⟨G, hG⟩ : ∃ G, G = gm M E := ⟨_, rfl⟩
  obtain ⟨R, hR⟩ : ∃ R, R = rch M E := ⟨_, rfl⟩
  have HG : Hid (G = gm M E) := hG
  have HR : Hid (R = rch M E) := hR
  rw [← hG, ← hR]
  clear hG hR
  go_enter Try.func30, Try.ntmps30
  go_wp2_with fail
  rw [← hW1]
  clear hW1
  refine (implGoodM M E _ _ _ (HM.out.below hB1) (HE.out.below hB1)).mono ?_
  rintro x w2 ⟨rfl, hb2⟩
  replace q0 := (hb2.cell (p := ⟨w.heap.size, 0, none⟩) hl1).trans q0
  replace q1 := (hb2.cell (p := ⟨w.heap.size, 1, none⟩) hl1).trans q1
  have hB2 : Below w.heap.size w w2 := hB1.trans (hb2.mono hB1.size)
  have hl2 : w.heap.size < w2.heap.size := by have := hb2.size; omega
  clear hb2 hB1 hl1
  cases hg : gm M E with
  | false =>
    have hF : Hid (G = false ∧ R = []) := ⟨HG.out.trans hg, by rw [HR.out]; unfold rch rcn; rw [hg]; rfl⟩
    clear hg
    go_wp2
    go_ret2
    exact ⟨⟨_, by rw [hF.out.1]; rfl, by rw [hF.out.2]; exact ZRow.none _ _⟩, hB2⟩
  | true =>
  have HGT : Hid (gm M E = true) := hg
  clear hg
  go_wp2_with fail
  refine (walkPairs_any M M E E _ _ _ _ _ (HM.out.below hB2) (HM.out.below hB2) (HE.out.below hB2) (HE.out.below hB2) HGT.out HGT.out).mono ?_
  rintro x w4 ⟨b, vp, vn, vt, us, rfl, hP4, hb4⟩
  have hB4 : Below w.heap.size w w4 := hB2.trans (hb4.mono hB2.size)
  have HP4 : Hid (PWa w4 w2.heap.size b vp vn vt (prs M M) ((prs M M).map Pq.s) (NR M M (prs M M).length) us) := hP4
  obtain ⟨ap, cp, hvp, hcp⟩ := hP4.rp.slice
  subst hvp
  have p0 := hP4.c0
  have hbl := hP4.lb
  obtain ⟨n, hn⟩ : ∃ n, n = (prs M M).length := ⟨_, rfl⟩
  have HN : Hid (n = (prs M M).length) := hn
  rw [← hn] at p0
  have hn144 : n ≤ 144 := by rw [hn]; exact (prs_met HGT.out HGT.out).le HGT.out HGT.out
  obtain ⟨Z, hZ⟩ : ∃ Z, Z = sts (prs M M) := ⟨_, rfl⟩
  have HZ : Hid (Z = sts (prs M M)) := hZ
  have HZL : Hid (Z.length = n) := by show _ = _; rw [hZ, sts_len, hn]
  have h4s : w.heap.size ≤ w4.heap.size := hB4.size
  clear hn hZ hP4 hb4 hB2
  go_wp2
  go_loopw [4, 17] (fun vo vi wr => ∃ i : Nat, i ≤ n ∧ vi = .int .i64 (i : Int) ∧ Hid (ZRow wr w4.heap.size vo (zn (Z.take i))) ∧ Hid (Below w4.heap.size w4 wr))
    (fun _ vi _ => n - (intOf vi).toNat)
  case atStart => exact ⟨0, by omega, rfl, ZRow.none _ _, Below.refl _ _⟩
  case round =>
    obtain ⟨i, hin, rfl, hO, hbw⟩ := hrel
    obtain ⟨av, cv, hvo⟩ := ZRow.slice hO.out
    subst hvo
    have HTK : Hid ((zn (Z.take i)).length = i) := by show _ = _; rw [zn_len, List.length_take, HZL.out]; omega
    obtain ⟨L, hL⟩ : ∃ L, L = zn (Z.take i) := ⟨_, rfl⟩
    have HL : Hid (L = zn (Z.take i)) := hL
    rw [← hL] at hO HTK
    rw [← hL]
    clear hL
    have hBr : Below w.heap.size w wr := hB4.trans (hbw.out.mono h4s)
    have hszr := hbw.out.size
    by_cases hlt : i < n
    · have hlt' : (i : Int) < (n : Int) := by omega
      have hltp : i < (prs M M).length := by rw [← HN.out]; exact hlt
      have HPr : Hid (PWa wr w2.heap.size b (.slice ap (prs M M).length cp) vn vt (prs M M) ((prs M M).map Pq.s) (NR M M (prs M M).length) us) := HP4.out.below hbw.out
      obtain ⟨g, hap, hgl, _, k0, k1⟩ := HPr.out.rp.cells hltp
      subst hap
      have HNX : Hid (zn (Z.take (i + 1)) = L ++ [((pq (prs M M) i).a : Int)]) := by
        show _ = _
        rw [HL.out, take_snoc2 (by rw [HZ.out]; exact sts_at hltp), zn_snoc]
      generalize (pq (prs M M) i).a = pa at k0 HNX
      generalize (pq (prs M M) i).b = pb at k1
      obtain ⟨W5, hW5⟩ : ∃ W, W = wr.alloc (.cells #[.int .i64 (pa : Int), .int .i64 (pb : Int)] 86) := ⟨_, rfl⟩
      have hb5 : Below wr.heap.size wr W5 := by rw [hW5]; exact (Below.refl _ wr).alloc (Nat.le_refl _) _
      have x0 : W5.cell? ⟨wr.heap.size, 0, none⟩ = some (.int .i64 (pa : Int)) := by rw [hW5]; go_simp
      have HO5 : Hid (ZRow W5 w4.heap.size (.slice av L.length cv) L) := ZRow.below hO.out hb5
      have hl5 : wr.heap.size < W5.heap.size := by rw [hW5]; simp
      have HB5 : Hid (Below w4.heap.size w4 W5) := hbw.out.trans (hb5.mono hszr)
      clear hO hb5
      go_upto_region 7 with fail
      rw [← hW5]
      clear hW5
      go_wp2_with (at_builtin; refine wpList_append_lies _ rfl _ _ 27 rfl w4.heap.size 3 i0 (.int .i64 0) 1 8 Try.underlying27 hi hz0 hz1 hz2 rfl (by decide) _ L.length _ rfl (World.ownsRow.alloc HO5.out _) ⟨W5.heap.size, 0, none⟩ 1 1 [.int .i64 (pa : Int)] rfl rfl (World.news_of_block (heap_alloc_new W5 _)) (onezI _) (by omega) (by unfold maxLen; have := HTK.out; omega) (by have := HTK.out; omega) (by simp; omega) (W5.heap.size + 1) (by simp) ?_)
      intro g9 cap9 w9 hown9 hgrow9 hat9 hlt9
      have HO9 : Hid (ZRow w9 w4.heap.size (.slice (some ⟨g9, 0, none⟩) (L.length + 1) cap9) (zn (Z.take (i + 1)))) := by
        rw [HNX.out]
        exact ZRow.snoc hown9
      have hlo := World.ownsRow.lt HO5.out
      have HB9 : Hid (Below w4.heap.size w4 w9) := ⟨hgrow9.os.trans HB5.out.os, hgrow9.tape.trans HB5.out.tape, hgrow9.output.trans HB5.out.output, by have := hgrow9.size; simp at this; have := HB5.out.size; omega, fun j hj => by
        have hj5 : j < W5.heap.size := by omega
        rw [hgrow9.block j (by simp; omega) (fun e => by have := (hlo j e.symm).1; omega), Below.heap_alloc _ _ _ hj5, HB5.out.block j hj]⟩
      clear hown9 hgrow9 hat9 HO5 HB5
      go_wp2
      go_roundw
      case rel => exact ⟨i + 1, by omega, by go_num, HO9, HB9⟩
      case measure => simp [intOf]; omega
    · have hke : i = n := by omega
      have hge : ¬ ((i : Int) < (n : Int)) := by omega
      have HLN : Hid (L = zn Z) := by show _ = _; rw [HL.out, hke, ← HZL.out, List.take_length]
      have HSO : Hid ((L.mergeSort fun x y => decide (x ≤ y)) = R ∧ G = true) := by
        refine ⟨?_, HG.out.trans HGT.out⟩
        rw [HLN.out, HZ.out, sort_once (met_nodup (prs_met HGT.out HGT.out) (dia_prs M)), HR.out]
        unfold rch rcn
        rw [HGT.out]
        rfl
      have hL1 : 1 ≤ L.length := by
        have h0 : 1 ≤ (prs M M).length := by
          obtain ⟨m, e⟩ := (At.start HGT.out HGT.out).ahead
          rw [e]
          simp
        have := HTK.out
        have := HN.out
        omega
      have hLn : L.length ≤ 144 := by have := HTK.out; omega
      clear hke
      rcases hO.out.2 with ⟨hh, h00⟩ | ⟨g, cap3, cur, hh, hbase, hb, h1, h2, h3, h4⟩
      · omega
      simp only [Value.slice.injEq, true_and] at hh
      obtain ⟨rfl, rfl⟩ := hh
      have hc := Try.slices_Sort_int g 0 cv L wr (holds_of_blockI hb (by simpa [zints] using h4)) (Array.getElem?_eq_some_iff.1 hb).1 (by omega)
      have HC : Hid (Calls Try.prog 63 #[.slice (some ⟨g, 0, none⟩) L.length cv] wr fun e w' => e = .returned (.tuple #[]) ∧ ∃ n os, w' = Go.Sort.grow (Go.Sort.putRow (Value.int .i64) (Go.Sort.ahead wr n) g 0 (L.mergeSort fun x y => decide (x ≤ y)).toArray) os) := hc
      have HHB : Hid (wr.heap[g]? = some (.cells cur 3 (0, 0))) := hb
      clear hc
      go_wp2_with fail
      refine HC.out.mono ?_
      rintro x w6 ⟨rfl, n6, os6, rfl⟩
      have hl6 : (L.mergeSort fun x y => decide (x ≤ y)).length = L.length := by simp
      have hO6 := ownsRow_sortedI (n := n6) (os := os6) (base := w4.heap.size) (e := 3) hl6 hbase hb h1 h2 h3
      have hG6 := grownBy_sortedI (w := wr) (g := g) (n := n6) (os := os6) (L.mergeSort fun x y => decide (x ≤ y)).toArray
      generalize Go.Sort.grow (Go.Sort.putRow (Value.int .i64) (Go.Sort.ahead wr n6) g 0 (L.mergeSort fun x y => decide (x ≤ y)).toArray) os6 = W6 at hO6 hG6 ⊢
      have HRL : Hid (R.length = L.length) := by show _ = _; rw [← HSO.out.1]; exact hl6
      have HF : Hid (ZRow W6 w.heap.size (.slice (some ⟨g, 0, none⟩) L.length cv) R) := by
        show World.ownsRow _ _ _ _ _ _ _
        rw [HRL.out]
        refine own_lowerM ?_ h4s
        rw [HSO.out.1] at hO6
        simpa [zints] using hO6
      have HB6 : Hid (Below w.heap.size w W6) := ⟨hG6.os.trans hBr.os, hG6.tape.trans hBr.tape, hG6.output.trans hBr.output, Nat.le_trans hBr.size hG6.size, fun j hj => by
        rw [hG6.block j (by omega) (by simp; omega), hBr.block j hj]⟩
      clear HC hO6 hG6 hl6 h4 hb HHB hO
      go_wp2
      go_ret2
      exact ⟨⟨_, by rw [HSO.out.2]; rfl, HF.out⟩, HB6.out⟩

end Go.Proofs.Ytecgjhnihagleaa
