/- What is reached, in plain words: a machine beside itself; its states sorted. The program's ReachedOf. The model's l12Order and ReachedOf. -/
import Derived.Test.YtecgjhnihagleaaXg
import Derived.Test.YtecgjhnihagleaaXb
import Derived.Test.YtecgjhnihagleaaShf
import Derived.Sort.OwnSortedInts
import Derived.Test.YtecgjhnihagleaaXc
import Derived.Test.YtecgjhnihagleaaCnA
namespace Go.Proofs.Ytecgjhnihagleaa
open Plain Mch Tpc

/-- pairs of one state twice -/
def Mch.Dia (l : List Pq) : Prop := ∀ i, i < l.length → (pq l i).b = (pq l i).a

theorem dia_pu {l : List Pq} {q : Pq} (h : Dia l) (hq : q.b = q.a) : Dia (pu l q) := by
  unfold pu
  split
  · exact h
  · intro i hi
    rw [List.length_append, List.length_singleton] at hi
    by_cases e : i = l.length
    · rw [e, show pq (l ++ [q]) l.length = q by unfold pq; rw [List.getD, List.getElem?_append_right (Nat.le_refl _)]; simp]
      exact hq
    · rw [pq_left (by omega)]
      exact h i (by omega)
theorem dia_stk {M : List (List Int)} {l : List Pq} {p : Pq} (h : Dia l) (hp : p.b = p.a) : ∀ k, Dia (stk M M l p k)
  | 0 => h
  | k + 1 => dia_pu (dia_stk h hp k) (by show nt M p.b k = nt M p.a k; rw [hp])
theorem dia_bfs (M : List (List Int)) : ∀ f i l, Dia l → Dia (bfs M M f i l)
  | 0, _, _, h => h
  | f + 1, i, l, h => by
    rw [bfs]
    split
    · rename_i hi
      exact dia_bfs M f (i + 1) _ (dia_stk h (h i hi) 3)
    · exact h
theorem dia_one : Dia [⟨0, 0, ByteArray.empty⟩] := fun i hi => by
  simp at hi
  subst hi
  rfl
theorem dia_prs (M : List (List Int)) : Dia (prs M M) := dia_bfs M _ _ _ dia_one

/-- the states, as they come -/
def Mch.sts (l : List Pq) : List Nat := l.map Pq.a
theorem sts_len (l : List Pq) : (sts l).length = l.length := by simp [sts]
theorem sts_at {l : List Pq} {i : Nat} (h : i < l.length) : (sts l)[i]? = some (pq l i).a := by
  unfold sts
  rw [List.getElem?_map, pq_at h]
  rfl
theorem sts_mem {l : List Pq} (h : Dia l) (x : Nat) : x ∈ sts l ↔ ix l x x < l.length := by
  constructor
  · intro hx
    obtain ⟨i, hi, e⟩ := List.getElem_of_mem hx
    rw [sts_len] at hi
    have e2 := sts_at hi
    rw [List.getElem?_eq_getElem (by rw [sts_len]; exact hi), e] at e2
    simp at e2
    by_cases hlt : ix l x x < l.length
    · exact hlt
    · exfalso
      have := ix_le l x x
      exact ix_first (l := l) (a := x) (b := x) (i := i) (by omega) ⟨e2.symm, by rw [h i hi]; exact e2.symm⟩
  · intro hx
    have h1 := (ix_some hx).1
    have h2 := sts_at hx
    rw [h1] at h2
    exact List.mem_of_getElem? h2
theorem sts_pu {l : List Pq} {q : Pq} (h : Dia l) (hq : q.b = q.a) : sts (pu l q) = if q.a ∈ sts l then sts l else sts l ++ [q.a] := by
  unfold pu
  by_cases hx : ix l q.a q.b < l.length
  · rw [if_pos hx, if_pos ((sts_mem h q.a).2 (by rw [hq] at hx; exact hx))]
  · rw [if_neg hx, if_neg (fun e => hx (by rw [hq]; exact (sts_mem h q.a).1 e))]
    simp [sts]

theorem met_nodup {n m : Nat} {l : List Pq} (h : Mch.Met n m l) (hd : Dia l) : (sts l).Nodup := by
  unfold List.Nodup
  rw [List.pairwise_iff_getElem]
  intro i j hi hj hij e
  rw [sts_len] at hi hj
  have e1 := sts_at hi
  have e2 := sts_at hj
  rw [List.getElem?_eq_getElem (by rw [sts_len]; exact hi)] at e1
  rw [List.getElem?_eq_getElem (by rw [sts_len]; exact hj)] at e2
  simp only [Option.some.injEq] at e1 e2
  rw [e1, e2] at e
  have k1 := h.own i hi
  have k2 := h.own j hj
  rw [hd i hi] at k1
  rw [hd j hj, ← e] at k2
  omega

/-- what ReachedOf tells -/
def Mch.rcn (M : List (List Int)) (E : List Bool) : List Nat := if gm M E then puts [] (sts (prs M M)) else []
def Mch.rch (M : List (List Int)) (E : List Bool) : List Int := zn (rcn M E)

theorem zn_len (l : List Nat) : (zn l).length = l.length := by unfold zn; rw [List.length_map]

theorem sts_low {M : List (List Int)} {E : List Bool} (h : gm M E = true) : ∀ x ∈ sts (prs M M), x < M.length := fun x hx => by
  obtain ⟨i, hi, e⟩ := List.getElem_of_mem hx
  rw [sts_len] at hi
  have e2 := sts_at hi
  rw [List.getElem?_eq_getElem (by rw [sts_len]; exact hi), e] at e2
  simp at e2
  rw [e2]
  exact ((prs_met h h).lo i hi).1

theorem reach_len (M : List (List Int)) (E : List Bool) : (rch M E).length ≤ 12 := by
  unfold rch
  rw [zn_len]
  unfold rcn
  cases h : gm M E with
  | false => simp
  | true =>
    rw [if_pos rfl]
    have h12 := (gm_iff.1 h).1.2.1
    refine Nat.le_trans (few (n := M.length) ?_ ?_) h12
    · exact (puts_sorted _ [] List.Pairwise.nil).imp (fun h => by omega)
    · intro x hx
      rcases (puts_mem x _ []).1 hx with h' | h'
      · simp at h'
      · exact sts_low h x h'

/-- what is sorted and has nothing twice -/
theorem sort_once {l : List Nat} (hn : l.Nodup) : ((zn l).mergeSort fun x y => decide (x ≤ y)) = zn (puts [] l) := by
  have hnz : (zn l).Nodup := by
    unfold zn List.Nodup
    rw [List.pairwise_map]
    exact hn.imp (fun h e => h (by omega))
  have hs : ((zn l).mergeSort fun x y => decide (x ≤ y)).Pairwise (fun a b => a ≤ b) := by
    refine (List.pairwise_mergeSort (le := fun x y => decide (x ≤ y)) (by intro a b c h1 h2; simp at h1 h2 ⊢; omega) (by intro a b; simp; omega) (zn l)).imp ?_
    intro a b h
    simpa using h
  have hp : ((zn l).mergeSort fun x y => decide (x ≤ y)).Nodup := (List.mergeSort_perm (zn l) _).nodup_iff.2 hnz
  refine Wan.sorted_ext _ _ ?_ ?_ (fun x => ?_)
  · have h3 := hs.and hp
    exact h3.imp (fun h => by obtain ⟨h1, h2⟩ := h; omega)
  · unfold zn
    rw [List.pairwise_map]
    exact (puts_sorted l [] List.Pairwise.nil).imp (fun h => by omega)
  · rw [List.mem_mergeSort]
    unfold zn
    rw [List.mem_map, List.mem_map]
    constructor
    · rintro ⟨n, hn, rfl⟩
      exact ⟨n, (puts_mem n l []).2 (.inr hn), rfl⟩
    · rintro ⟨n, hn, rfl⟩
      rcases (puts_mem n l []).1 hn with h | h
      · simp at h
      · exact ⟨n, h, rfl⟩

end Go.Proofs.Ytecgjhnihagleaa

namespace Go.Proofs.Ytecgjhnihagleaa
open Go.RowKit Plain Mch Tpc

theorem ZRow.snoc {w9 : World} {B g cap : Nat} {l : List Int} {x : Int} (hown : w9.ownsRow B 3 1 (.slice (some ⟨g, 0, none⟩) (l.length + 1) cap) (l.length + 1) (zints l ++ [.int .i64 x])) : ZRow w9 B (.slice (some ⟨g, 0, none⟩) (l.length + 1) cap) (l ++ [x]) := by
  unfold ZRow
  rw [List.length_append, List.length_singleton, show zints (l ++ [x]) = zints l ++ [.int .i64 x] by simp [zints]]
  exact hown
theorem ZRow.none (w : World) (B : Nat) : ZRow w B (.slice .none 0 0) [] := ⟨rfl, .inl ⟨rfl, rfl⟩⟩

theorem onezI (x : Int) : ∀ u ∈ [Value.int .i64 x], u.oneCell' = true := by
  intro u hu
  simp at hu
  subst hu
  rfl

theorem take_snoc2 {α : Type} {l : List α} {i : Nat} {x : α} (h : l[i]? = some x) : l.take (i + 1) = l.take i ++ [x] := by
  rw [List.take_add_one, h]
  rfl

theorem zn_snoc (l : List Nat) (x : Nat) : zn (l ++ [x]) = zn l ++ [(x : Int)] := by simp [zn]

set_option maxRecDepth 100000 in
set_option maxHeartbeats 8000000 in
theorem implReach (M : List (List Int)) (E : List Bool) (v e : Value) (w : World) (hM : MAt w w.heap.size v M) (hE : EAt w w.heap.size e E) :
    Calls Try.prog 30 #[.agg #[v, e]] w fun x w' => (∃ r, x = .returned (.tuple #[r, .bool (gm M E)]) ∧ ZRow w' w.heap.size r (rch M E)) ∧ Below w.heap.size w w' := by
  obtain ⟨i0, hi, hz0, hz1, hz2⟩ := info_parts Try.infoInt
  have HM : Hid (MAt w w.heap.size v M) := hM
  have HE : Hid (EAt w w.heap.size e E) := hE
  obtain ⟨ao, cap, rfl, hlc, hcm, _⟩ := hM
  obtain ⟨ae, cape, rfl, hlc2, hcm2, _⟩ := hE
  unfold maxLen at hcm hcm2
  obtain ⟨W1, hW1⟩ : ∃ W, W = w.alloc (.cells #[.slice ao M.length cap, .slice ae E.length cape] 30) := ⟨_, rfl⟩
  have hB1 : Below w.heap.size w W1 := by rw [hW1]; exact (Below.refl _ w).alloc (Nat.le_refl _) _
  have q0 : W1.cell? ⟨w.heap.size, 0, none⟩ = some (.slice ao M.length cap) := by rw [hW1]; go_simp
  have q1 : W1.cell? ⟨w.heap.size, 1, none⟩ = some (.slice ae E.length cape) := by rw [hW1]; go_simp
  have hl1 : w.heap.size < W1.heap.size := by rw [hW1]; simp
  obtain ⟨G, hG⟩ : ∃ G, G = gm M E := ⟨_, rfl⟩
  obtain ⟨R, hR⟩ : ∃ R, R = rch M E := ⟨_, rfl⟩
  have HG : Hid (G = gm M E) := hG
  have HR : Hid (R = rch M E) := hR
  rw [← hG, ← hR]
  clear hG hR
  go_enter Try.func30, Try.ntmps30
  go_wp2_with fail
  rw [← hW1]
  clear hW1
  refine (implGoodM M E _ _ _ (HM.out.below hB1) (HE.out.below hB1)).mono ?_
  rintro x w2 ⟨rfl, hb2⟩
  replace q0 := (hb2.cell (p := ⟨w.heap.size, 0, none⟩) hl1).trans q0
  replace q1 := (hb2.cell (p := ⟨w.heap.size, 1, none⟩) hl1).trans q1
  have hB2 : Below w.heap.size w w2 := hB1.trans (hb2.mono hB1.size)
  have hl2 : w.heap.size < w2.heap.size := by have := hb2.size; omega
  clear hb2 hB1 hl1
  cases hg : gm M E with
  | false =>
    have hF : Hid (G = false ∧ R = []) := ⟨HG.out.trans hg, by rw [HR.out]; unfold rch rcn; rw [hg]; rfl⟩
    clear hg
    go_wp2
    go_ret2
    exact ⟨⟨_, by rw [hF.out.1]; rfl, by rw [hF.out.2]; exact ZRow.none _ _⟩, hB2⟩
  | true =>
  have HGT : Hid (gm M E = true) := hg
  clear hg
  go_wp2_with fail
  refine (walkPairs_any M M E E _ _ _ _ _ (HM.out.below hB2) (HM.out.below hB2) (HE.out.below hB2) (HE.out.below hB2) HGT.out HGT.out).mono ?_
  rintro x w4 ⟨b, vp, vn, vt, us, rfl, hP4, hb4⟩
  have hB4 : Below w.heap.size w w4 := hB2.trans (hb4.mono hB2.size)
  have HP4 : Hid (PWa w4 w2.heap.size b vp vn vt (prs M M) ((prs M M).map Pq.s) (NR M M (prs M M).length) us) := hP4
  obtain ⟨ap, cp, hvp, hcp⟩ := hP4.rp.slice
  subst hvp
  have p0 := hP4.c0
  have hbl := hP4.lb
  obtain ⟨n, hn⟩ : ∃ n, n = (prs M M).length := ⟨_, rfl⟩
  have HN : Hid (n = (prs M M).length) := hn
  rw [← hn] at p0
  have hn144 : n ≤ 144 := by rw [hn]; exact (prs_met HGT.out HGT.out).le HGT.out HGT.out
  obtain ⟨Z, hZ⟩ : ∃ Z, Z = sts (prs M M) := ⟨_, rfl⟩
  have HZ : Hid (Z = sts (prs M M)) := hZ
  have HZL : Hid (Z.length = n) := by show _ = _; rw [hZ, sts_len, hn]
  have h4s : w.heap.size ≤ w4.heap.size := hB4.size
  clear hn hZ hP4 hb4 hB2
  go_wp2
  go_loopw [4, 17] (fun vo vi wr => ∃ i : Nat, i ≤ n ∧ vi = .int .i64 (i : Int) ∧ Hid (ZRow wr w4.heap.size vo (zn (Z.take i))) ∧ Hid (Below w4.heap.size w4 wr))
    (fun _ vi _ => n - (intOf vi).toNat)
  case atStart => exact ⟨0, by omega, rfl, ZRow.none _ _, Below.refl _ _⟩
  case round =>
    obtain ⟨i, hin, rfl, hO, hbw⟩ := hrel
    obtain ⟨av, cv, hvo⟩ := ZRow.slice hO.out
    subst hvo
    have HTK : Hid ((zn (Z.take i)).length = i) := by show _ = _; rw [zn_len, List.length_take, HZL.out]; omega
    obtain ⟨L, hL⟩ : ∃ L, L = zn (Z.take i) := ⟨_, rfl⟩
    have HL : Hid (L = zn (Z.take i)) := hL
    rw [← hL] at hO HTK
    rw [← hL]
    clear hL
    have hBr : Below w.heap.size w wr := hB4.trans (hbw.out.mono h4s)
    have hszr := hbw.out.size
    by_cases hlt : i < n
    · have hlt' : (i : Int) < (n : Int) := by omega
      have hltp : i < (prs M M).length := by rw [← HN.out]; exact hlt
      have HPr : Hid (PWa wr w2.heap.size b (.slice ap (prs M M).length cp) vn vt (prs M M) ((prs M M).map Pq.s) (NR M M (prs M M).length) us) := HP4.out.below hbw.out
      obtain ⟨g, hap, hgl, _, k0, k1⟩ := HPr.out.rp.cells hltp
      subst hap
      have HNX : Hid (zn (Z.take (i + 1)) = L ++ [((pq (prs M M) i).a : Int)]) := by
        show _ = _
        rw [HL.out, take_snoc2 (by rw [HZ.out]; exact sts_at hltp), zn_snoc]
      generalize (pq (prs M M) i).a = pa at k0 HNX
      generalize (pq (prs M M) i).b = pb at k1
      obtain ⟨W5, hW5⟩ : ∃ W, W = wr.alloc (.cells #[.int .i64 (pa : Int), .int .i64 (pb : Int)] 86) := ⟨_, rfl⟩
      have hb5 : Below wr.heap.size wr W5 := by rw [hW5]; exact (Below.refl _ wr).alloc (Nat.le_refl _) _
      have x0 : W5.cell? ⟨wr.heap.size, 0, none⟩ = some (.int .i64 (pa : Int)) := by rw [hW5]; go_simp
      have HO5 : Hid (ZRow W5 w4.heap.size (.slice av L.length cv) L) := ZRow.below hO.out hb5
      have hl5 : wr.heap.size < W5.heap.size := by rw [hW5]; simp
      have HB5 : Hid (Below w4.heap.size w4 W5) := hbw.out.trans (hb5.mono hszr)
      clear hO hb5
      go_upto_region 7 with fail
      rw [← hW5]
      clear hW5
      go_wp2_with (at_builtin; refine wpList_append_lies _ rfl _ _ 27 rfl w4.heap.size 3 i0 (.int .i64 0) 1 8 Try.underlying27 hi hz0 hz1 hz2 rfl (by decide) _ L.length _ rfl (World.ownsRow.alloc HO5.out _) ⟨W5.heap.size, 0, none⟩ 1 1 [.int .i64 (pa : Int)] rfl rfl (World.news_of_block (heap_alloc_new W5 _)) (onezI _) (by omega) (by unfold maxLen; have := HTK.out; omega) (by have := HTK.out; omega) (by simp; omega) (W5.heap.size + 1) (by simp) ?_)
      intro g9 cap9 w9 hown9 hgrow9 hat9 hlt9
      have HO9 : Hid (ZRow w9 w4.heap.size (.slice (some ⟨g9, 0, none⟩) (L.length + 1) cap9) (zn (Z.take (i + 1)))) := by
        rw [HNX.out]
        exact ZRow.snoc hown9
      have hlo := World.ownsRow.lt HO5.out
      have HB9 : Hid (Below w4.heap.size w4 w9) := ⟨hgrow9.os.trans HB5.out.os, hgrow9.tape.trans HB5.out.tape, hgrow9.output.trans HB5.out.output, by have := hgrow9.size; simp at this; have := HB5.out.size; omega, fun j hj => by
        have hj5 : j < W5.heap.size := by omega
        rw [hgrow9.block j (by simp; omega) (fun e => by have := (hlo j e.symm).1; omega), Below.heap_alloc _ _ _ hj5, HB5.out.block j hj]⟩
      clear hown9 hgrow9 hat9 HO5 HB5
      go_wp2
      go_roundw
      case rel => exact ⟨i + 1, by omega, by go_num, HO9, HB9⟩
      case measure => simp [intOf]; omega
    · have hke : i = n := by omega
      have hge : ¬ ((i : Int) < (n : Int)) := by omega
      have HLN : Hid (L = zn Z) := by show _ = _; rw [HL.out, hke, ← HZL.out, List.take_length]
      have HSO : Hid ((L.mergeSort fun x y => decide (x ≤ y)) = R ∧ G = true) := by
        refine ⟨?_, HG.out.trans HGT.out⟩
        rw [HLN.out, HZ.out, sort_once (met_nodup (prs_met HGT.out HGT.out) (dia_prs M)), HR.out]
        unfold rch rcn
        rw [HGT.out]
        rfl
      have hL1 : 1 ≤ L.length := by
        have h0 : 1 ≤ (prs M M).length := by
          obtain ⟨m, e⟩ := (At.start HGT.out HGT.out).ahead
          rw [e]
          simp
        have := HTK.out
        have := HN.out
        omega
      have hLn : L.length ≤ 144 := by have := HTK.out; omega
      clear hke
      rcases hO.out.2 with ⟨hh, h00⟩ | ⟨g, cap3, cur, hh, hbase, hb, h1, h2, h3, h4⟩
      · omega
      simp only [Value.slice.injEq, true_and] at hh
      obtain ⟨rfl, rfl⟩ := hh
      have hc := Try.slices_Sort_int g 0 cv L wr (holds_of_blockI hb (by simpa [zints] using h4)) (Array.getElem?_eq_some_iff.1 hb).1 (by omega)
      have HC : Hid (Calls Try.prog 63 #[.slice (some ⟨g, 0, none⟩) L.length cv] wr fun e w' => e = .returned (.tuple #[]) ∧ ∃ n os, w' = Go.Sort.grow (Go.Sort.putRow (Value.int .i64) (Go.Sort.ahead wr n) g 0 (L.mergeSort fun x y => decide (x ≤ y)).toArray) os) := hc
      have HHB : Hid (wr.heap[g]? = some (.cells cur 3 (0, 0))) := hb
      clear hc
      go_wp2_with fail
      refine HC.out.mono ?_
      rintro x w6 ⟨rfl, n6, os6, rfl⟩
      have hl6 : (L.mergeSort fun x y => decide (x ≤ y)).length = L.length := by simp
      have hO6 := ownsRow_sortedI (n := n6) (os := os6) (base := w4.heap.size) (e := 3) hl6 hbase hb h1 h2 h3
      have hG6 := grownBy_sortedI (w := wr) (g := g) (n := n6) (os := os6) (L.mergeSort fun x y => decide (x ≤ y)).toArray
      generalize Go.Sort.grow (Go.Sort.putRow (Value.int .i64) (Go.Sort.ahead wr n6) g 0 (L.mergeSort fun x y => decide (x ≤ y)).toArray) os6 = W6 at hO6 hG6 ⊢
      have HRL : Hid (R.length = L.length) := by show _ = _; rw [← HSO.out.1]; exact hl6
      have HF : Hid (ZRow W6 w.heap.size (.slice (some ⟨g, 0, none⟩) L.length cv) R) := by
        show World.ownsRow _ _ _ _ _ _ _
        rw [HRL.out]
        refine own_lowerM ?_ h4s
        rw [HSO.out.1] at hO6
        simpa [zints] using hO6
      have HB6 : Hid (Below w.heap.size w W6) := ⟨hG6.os.trans hBr.os, hG6.tape.trans hBr.tape, hG6.output.trans hBr.output, Nat.le_trans hBr.size hG6.size, fun j hj => by
        rw [hG6.block j (by omega) (by simp; omega), hBr.block j hj]⟩
      clear HC hO6 hG6 hl6 h4 hb HHB hO
      go_wp2
      go_ret2
      exact ⟨⟨_, by rw [HSO.out.2]; rfl, HF.out⟩, HB6.out⟩

end Go.Proofs.Ytecgjhnihagleaa

namespace Go.Proofs.Ytecgjhnihagleaa
open Go.RowKit Plain Mch Tpc

/-- where a good machine's row lies, and all its states -/
theorem MAt.row {w : World} {B : Nat} {M : List (List Int)} {E : List Bool} {ao : Option Addr} {cap n : Nat} (h : MAt w B (.slice ao n cap) M) (hg : gm M E = true) {i : Nat} (hi : i < M.length) :
    ∃ g o gu ou cu, ao = some ⟨g, o, none⟩ ∧ g < B ∧ w.cell? ⟨g, o + i, none⟩ = some (.slice (some ⟨gu, ou, none⟩) 3 cu) ∧ gu < B ∧ ∀ k, k < 3 → w.cell? ⟨gu, ou + k, none⟩ = some (.int .i64 ((nt M i k : Nat) : Int)) := by
  obtain ⟨a, c, hv, _, _, hr⟩ := h
  simp only [Value.slice.injEq] at hv
  obtain ⟨rfl, rfl, rfl⟩ := hv
  obtain ⟨g, o, u, ha, hg1, hc, hz⟩ := hr i hi
  obtain ⟨k1, _, k3⟩ := gm_next hg hi (k := 0) (by omega)
  obtain ⟨su, cu, rfl, _, _, hz⟩ := hz
  obtain ⟨gu, ou, hs, hgu, hcu⟩ := hz 0 _ k1
  subst hs
  rw [k3] at hc
  refine ⟨g, o, gu, ou, cu, ha, hg1, hc, hgu, fun k hk => ?_⟩
  obtain ⟨k1', _, _⟩ := gm_next hg hi hk
  obtain ⟨gu', ou', hs', _, hcu'⟩ := hz k _ k1'
  simp at hs'
  obtain ⟨rfl, rfl⟩ := hs'
  exact hcu'

theorem zn_mem (l : List Nat) (x : Nat) : (x : Int) ∈ zn l ↔ x ∈ l := by
  unfold zn
  rw [List.mem_map]
  constructor
  · rintro ⟨y, hy, e⟩
    have : y = x := by omega
    subst this
    exact hy
  · intro h
    exact ⟨x, h, rfl⟩

set_option maxRecDepth 100000 in
set_option maxHeartbeats 8000000 in
theorem l12Order_any (M : List (List Int)) (E : List Bool) (v e : Value) (w : World) (hM : MAt w w.heap.size v M) (hE : EAt w w.heap.size e E) (hg : gm M E = true) :
    Calls Try.prog 64 #[.agg #[v, e]] w fun x w' => (∃ r, x = .returned r ∧ ZRow w' w.heap.size r (zn (sts (prs M M)))) ∧ Below w.heap.size w w' := by
  obtain ⟨i0, hi, hz0, hz1, hz2⟩ := info_parts Try.infoInt
  have HM : Hid (MAt w w.heap.size v M) := hM
  have HG : Hid (gm M E = true) := hg
  clear hg
  obtain ⟨ao, cap, rfl, hlc, hcm, _⟩ := hM
  obtain ⟨ae, cape, rfl, hlc2, hcm2, _⟩ := hE
  unfold maxLen at hcm hcm2
  obtain ⟨W1, hW1⟩ : ∃ W, W = (w.alloc (.cells #[.slice ao M.length cap, .slice ae E.length cape] 30)).alloc (.cells #[.int .i64 0] 3) := ⟨_, rfl⟩
  have hB1 : Below w.heap.size w W1 := by rw [hW1]; exact ((Below.refl _ w).alloc (Nat.le_refl _) _).alloc (by simp) _
  have Q0 : Hid (W1.cell? ⟨w.heap.size, 0, none⟩ = some (.slice ao M.length cap)) := by show _ = _; rw [hW1]; go_simp
  have HS1 : Hid (W1.heap.size = w.heap.size + 2) := by show _ = _; rw [hW1]; simp
  have HZ1 : Hid (ZRow W1 (w.heap.size + 1) (.slice (some ⟨w.heap.size + 1, 0, none⟩) 1 1) (zn (sts [⟨0, 0, ByteArray.empty⟩]))) := by
    refine ⟨rfl, .inr ⟨w.heap.size + 1, 1, #[.int .i64 0], rfl, Nat.le_refl _, ?_, Nat.le_refl _, by unfold maxLen; omega, rfl, rfl⟩⟩
    rw [hW1]
    have h := heap_alloc_new (w.alloc (.cells #[.slice ao M.length cap, .slice ae E.length cape] 30)) (.cells #[.int .i64 0] 3)
    rw [World.size_alloc] at h
    exact h
  go_enter Try.func64, Try.ntmps64
  go_upto_region 2 with fail
  rw [← hW1]
  clear hW1
  go_wp2
  go_loopw [3, 4] (fun vo vi wr => ∃ (i : Nat) (l : List Pq), vi = .int .i64 (i : Int) ∧ Hid (At M M i l) ∧ Hid (Dia l) ∧ Hid (ZRow wr (w.heap.size + 1) vo (zn (sts l))) ∧ Hid (Below (w.heap.size + 1) W1 wr))
    (fun _ vi _ => 145 - (intOf vi).toNat)
  case atStart => exact ⟨0, _, rfl, At.start HG.out HG.out, dia_one, HZ1, Below.refl _ _⟩
  case round =>
    obtain ⟨i, l, rfl, hAt, hDi, hO, hbw⟩ := hrel
    clear HZ1
    have hl144 : l.length ≤ 144 := hAt.out.met.le HG.out HG.out
    have hil : i ≤ l.length := hAt.out.le
    obtain ⟨av, cv, hvo⟩ := ZRow.slice hO.out
    subst hvo
    obtain ⟨Z, hZ⟩ : ∃ Z, Z = zn (sts l) := ⟨_, rfl⟩
    have HZ : Hid (Z = zn (sts l)) := hZ
    have HZL : Hid (Z.length = l.length) := by show _ = _; rw [hZ, zn_len, sts_len]
    rw [← hZ] at hO
    rw [← hZ]
    clear hZ
    have hBr : Below w.heap.size w wr := hB1.trans (hbw.out.mono (by omega))
    have q0 := (hbw.out.cell (p := ⟨w.heap.size, 0, none⟩) (by show w.heap.size < _; omega)).trans Q0.out
    have hszr : w.heap.size + 2 ≤ wr.heap.size := by have := hbw.out.size; have := HS1.out; omega
    by_cases hlt : i < l.length
    · have hlt' : (i : Int) < (Z.length : Int) := by have := HZL.out; omega
      obtain ⟨p, hp⟩ : ∃ p, pq l i = p := ⟨_, rfl⟩
      have HPP : Hid (pq l i = p) := hp
      have hpa : p.a < M.length := by rw [← hp]; exact (hAt.out.met.lo i hlt).1
      have hpb : p.b = p.a := by rw [← hp]; exact hDi.out i hlt
      have hZi : Z[i]? = some (p.a : Int) := by
        rw [HZ.out, ← hp]
        unfold zn
        rw [List.getElem?_map, sts_at hlt]
        rfl
      clear hp
      obtain ⟨a2, c2, hv2, _, _, hzr⟩ := ZAt.own hO.out
      simp only [Value.slice.injEq, true_and] at hv2
      obtain ⟨rfl, rfl⟩ := hv2
      obtain ⟨gz, oz, haz, hgz, hcz⟩ := hzr i _ hZi
      subst haz
      obtain ⟨gA, oA, gu, ou, cu, hA1, hA2, hA3, hA4, hA5⟩ := (HM.out.below hBr).row HG.out hpa
      subst hA1
      obtain ⟨_, _, gu2, ou2, cu2, hA1', hgw, hcw, hguw, hcuw⟩ := HM.out.row HG.out hpa
      simp at hA1'
      obtain ⟨rfl, rfl⟩ := hA1'
      have heq := (hBr.cell (p := ⟨gA, oA + p.a, none⟩) hgw).trans hcw
      rw [hA3] at heq
      simp at heq
      obtain ⟨⟨rfl, rfl⟩, rfl⟩ := heq
      have HROW : Hid (∀ W, Below w.heap.size w W → ∀ k, k < 3 → W.cell? ⟨gu, ou + k, none⟩ = some (.int .i64 ((nt M p.a k : Nat) : Int))) := fun W hW k hk => (hW.cell (p := ⟨gu, ou + k, none⟩) hguw).trans (hcuw k hk)
      have hpaM : (p.a : Int) < (M.length : Int) := by omega
      have HOd : Hid (ZRow wr.drew (w.heap.size + 1) (.slice (some ⟨gz, oz, none⟩) Z.length cv) Z) := ZRow.below hO.out ((Below.refl _ wr).drew)
      clear hzr hZi hA5 hcuw hcw hgw
      go_upto_region 5 with fail
      go_quiet (fail)
      go_wp2
      have HO1 : Hid (ZRow (wr.drewN nq) (w.heap.size + 1) (.slice (some ⟨gz, oz, none⟩) Z.length cv) (zn (sts (stk M M l p 0)))) := by
        show World.ownsRow _ _ _ _ _ _ _
        rw [show stk M M l p 0 = l from rfl, ← HZ.out]
        exact ZRow.below hO.out (below_drewT (Below.refl _ wr))
      have HB1 : Hid (Below (w.heap.size + 1) W1 (wr.drewN nq)) := below_drewT hbw.out
      clear hO hbw HOd hA3 hcz q0
      go_loopw [3, 23] (fun vo vk wr => ∃ k : Nat, k ≤ 3 ∧ vk = .int .i64 (k : Int) ∧ Hid (ZRow wr (w.heap.size + 1) vo (zn (sts (stk M M l p k)))) ∧ Hid (Below (w.heap.size + 1) W1 wr))
        (fun _ vk _ => 3 - (intOf vk).toNat)
      case atStart => exact ⟨0, by omega, rfl, HO1, HB1⟩
      case round =>
        obtain ⟨k, hk3, rfl, hOk, hbk⟩ := hrel
        clear HO1 HB1
        obtain ⟨av2, cv2, hvo2⟩ := ZRow.slice hOk.out
        subst hvo2
        obtain ⟨Y, hY⟩ : ∃ Y, Y = sts (stk M M l p k) := ⟨_, rfl⟩
        have HY : Hid (Y = sts (stk M M l p k)) := hY
        have HYL : Hid ((zn Y).length = (stk M M l p k).length) := by show _ = _; rw [hY, zn_len, sts_len]
        obtain ⟨V, hV⟩ : ∃ V, V = zn Y := ⟨_, rfl⟩
        have HV : Hid (V = zn Y) := hV
        rw [← hY, ← hV] at hOk
        rw [← hY, ← hV]
        rw [← hV] at HYL
        clear hY hV
        have hY145 : V.length ≤ 145 := by rw [HYL.out, ← HPP.out]; have := (stk_met HG.out HG.out hAt.out.met hlt k hk3).le HG.out HG.out; omega
        have hBk : Below w.heap.size w wr := hB1.trans (hbk.out.mono (by omega))
        by_cases hlk : k < 3
        · have hlk' : (k : Int) < 3 := by omega
          have ck := HROW.out _ hBk k hlk
          have HPU : Hid (sts (stk M M l p (k + 1)) = if nt M p.a k ∈ Y then Y else Y ++ [nt M p.a k]) := by
            show _ = _
            rw [stk, sts_pu (dia_stk hDi.out hpb k) (by show nt M p.b k = nt M p.a k; rw [hpb]), ← HY.out]
            rfl
          have hsk : w.heap.size + 2 ≤ wr.heap.size := by have := hbk.out.size; have := HS1.out; omega
          generalize nt M p.a k = x at ck HPU
          go_wp2_with fail
          refine (l1Has_any V (x : Int) _ _ (ZAt.own hOk.out) (by omega)).mono ?_
          rintro y w5 ⟨rfl, rfl⟩
          by_cases hin : x ∈ Y
          · have hd : decide ((x : Int) ∈ V) = true := by rw [HV.out]; simpa using (zn_mem Y x).2 hin
            have HO2 : Hid (ZRow w5 (w.heap.size + 1) (.slice av2 V.length cv2) (zn (sts (stk M M l p (k + 1))))) := by
              rw [HPU.out, if_pos hin, ← HV.out]
              exact hOk
            rw [hd]
            clear hd hin hOk
            go_wp2
            go_roundw
            case rel => exact ⟨k + 1, by omega, by go_num, HO2, hbk⟩
            case measure => simp [intOf]; omega
          · have hd : decide ((x : Int) ∈ V) = false := by rw [HV.out]; simpa using fun h => hin ((zn_mem Y x).1 h)
            have HNX : Hid (zn (sts (stk M M l p (k + 1))) = V ++ [(x : Int)]) := by show _ = _; rw [HPU.out, if_neg hin, zn_snoc, ← HV.out]
            rw [hd]
            clear hd hin
            go_wp2_with (at_builtin; refine wpList_append_lies _ rfl _ _ 27 rfl (w.heap.size + 1) 3 i0 (.int .i64 0) 1 8 Try.underlying27 hi hz0 hz1 hz2 rfl (by decide) _ V.length _ rfl (World.ownsRow.alloc hOk.out _) ⟨w5.heap.size, 0, none⟩ 1 1 [.int .i64 (x : Int)] rfl rfl (World.news_of_block (heap_alloc_new w5 _)) (onezI _) (by omega) (by unfold maxLen; omega) (by omega) (by simp; omega) (w5.heap.size + 1) (by simp) ?_)
            intro g9 cap9 w9 hown9 hgrow9 hat9 hlt9
            have HO9 : Hid (ZRow w9 (w.heap.size + 1) (.slice (some ⟨g9, 0, none⟩) (V.length + 1) cap9) (zn (sts (stk M M l p (k + 1))))) := by
              rw [HNX.out]
              exact ZRow.snoc hown9
            have hlo := World.ownsRow.lt hOk.out
            have HB9 : Hid (Below (w.heap.size + 1) W1 w9) := ⟨hgrow9.os.trans hbk.out.os, hgrow9.tape.trans hbk.out.tape, hgrow9.output.trans hbk.out.output, by have := hgrow9.size; simp at this; have := hbk.out.size; omega, fun j hj => by
              have hj5 : j < w5.heap.size := by omega
              rw [hgrow9.block j (by simp; omega) (fun e => by have := (hlo j e.symm).1; omega), Below.heap_alloc _ _ _ hj5, hbk.out.block j hj]⟩
            clear hown9 hgrow9 hat9 hOk hbk
            go_wp2
            go_roundw
            case rel => exact ⟨k + 1, by omega, by go_num, HO9, HB9⟩
            case measure => simp [intOf]; omega
        · have hk3' : k = 3 := by omega
          subst hk3'
          have hge : ¬ ((3 : Int) < 3) := by omega
          have HN : Hid (At M M (i + 1) (stk M M l p 3)) := by
            show At _ _ _ _
            rw [stk_3, ← HPP.out]
            exact hAt.out.next HG.out HG.out hlt
          have HDN : Hid (Dia (stk M M l p 3)) := dia_stk hDi.out hpb 3
          have HOk : Hid (ZRow wr (w.heap.size + 1) (.slice av2 V.length cv2) (zn (sts (stk M M l p 3)))) := by rw [← HY.out, ← HV.out]; exact hOk
          clear hOk
          go_wp2
          go_roundw
          case rel => exact ⟨i + 1, _, by go_num, HN, HDN, HOk, hbk⟩
          case measure => simp [intOf]; omega
    · have hke : i = l.length := by omega
      have hge : ¬ ((i : Int) < (Z.length : Int)) := by have := HZL.out; omega
      have HD : Hid (l = prs M M) := hAt.out.done HG.out HG.out hke
      have HF : Hid (ZRow wr w.heap.size (.slice av Z.length cv) (zn (sts (prs M M)))) := by
        show World.ownsRow _ _ _ _ _ _ _
        rw [← HD.out, ← HZ.out]
        exact own_lowerM hO.out (by omega)
      clear hke hO hAt q0
      go_wp2
      go_ret
      exact ⟨⟨_, rfl, HF.out⟩, hBr⟩

end Go.Proofs.Ytecgjhnihagleaa
