/- The program's IsInstance: one term made of another. -/
import Derived.Test.YtlmhjkcollohnaaInB
import Derived.Deep.Cut
namespace Go.Proofs.Ytlmhjkcollohnaa
open Go.RowKit Plain Sch Trm

theorem eqlNil (a : Option Addr) (n c : Nat) (W : World) : (binOp .eql 27 (.slice a n c) (.slice none 0 0)).run Try.prog W = .ok (.bool a.isNone) W := Lib.run_eql_slice_nil W _ 53 a n c 0 0 Try.underlying27

theorem eqlNilSome (a : Addr) (n c : Nat) (W : World) : (binOp .eql 27 (.slice (some a) n c) (.slice none 0 0)).run Try.prog W = .ok (.bool false) W := eqlNil (some a) n c W
theorem eqlNilNone (W : World) : (binOp .eql 27 (.slice none 0 0) (.slice none 0 0)).run Try.prog W = .ok (.bool true) W := eqlNil none 0 0 W

attribute [local go_sem ↓] eqlC neqC eqlNilSome eqlNilNone

/-- what was found for each variable lies in the block N: pieces of the one term's cells -/
def FdAt (w : World) (N g o cap : Nat) (T : List Ce) (s : Nat → Option TT) : Prop :=
  ∀ j, j < 6 → w.frozen? ⟨N, j, none⟩ = false ∧ ((s j = none ∧ w.cell? ⟨N, j, none⟩ = some (.slice none 0 0)) ∨
    ∃ t a, s j = some t ∧ a + (fl t).length ≤ T.length ∧ (T.drop a).take (fl t).length = fl t ∧ w.cell? ⟨N, j, none⟩ = some (.slice (some ⟨g, o + a * 3, none⟩) (fl t).length (cap - a)))

theorem cell_blockEqI {w w' : World} {g o : Nat} (h : w'.heap[g]? = w.heap[g]?) : w'.cell? ⟨g, o, none⟩ = w.cell? ⟨g, o, none⟩ := World.cell?_of_block (w := w) h

theorem FdAt.kept {w w' : World} {N g o cap : Nat} {T : List Ce} {s : Nat → Option TT} (h : FdAt w N g o cap T s) (hb : w'.heap[N]? = w.heap[N]?) : FdAt w' N g o cap T s := by
  intro j hj
  obtain ⟨h1, h2⟩ := h j hj
  have hc : w'.cell? ⟨N, j, none⟩ = w.cell? ⟨N, j, none⟩ := cell_blockEqI hb
  have hf : w'.frozen? ⟨N, j, none⟩ = w.frozen? ⟨N, j, none⟩ := World.frozen?_of_block (w := w) hb
  rw [hc, hf]
  exact ⟨h1, h2⟩

theorem FdAt.set {w : World} {N g o cap : Nat} {T : List Ce} {s : Nat → Option TT} (h : FdAt w N g o cap T s) (m : Nat) (hm : m < 6) (t : TT) (a : Nat) (h1 : a + (fl t).length ≤ T.length) (h2 : (T.drop a).take (fl t).length = fl t) :
    FdAt (w.setCell ⟨N, m, none⟩ (.slice (some ⟨g, o + a * 3, none⟩) (fl t).length (cap - a))) N g o cap T (upd s m t) := by
  intro j hj
  obtain ⟨f1, f2⟩ := h j hj
  rw [World.frozen?_setCell]
  refine ⟨f1, ?_⟩
  by_cases hjm : j = m
  · subst hjm
    right
    refine ⟨t, a, by simp [upd], h1, h2, ?_⟩
    rcases f2 with ⟨_, f3⟩ | ⟨_, _, _, _, _, f3⟩
    · exact World.cell?_setCell_same _ _ _ f3
    · exact World.cell?_setCell_same _ _ _ f3
  · have hu : upd s m t j = s j := by simp [upd, hjm]
    rw [hu, World.cell?_setCell_other _ _ _ _ (fun e => hjm (congrArg Addr.off e).symm)]
    exact f2

set_option maxRecDepth 100000 in
set_option maxHeartbeats 8000000 in
theorem isMadeOf_any (A B : List Ce) (x y : TT) (va vb : Value) (w : World) (hA : CesAt w w.heap.size va A) (hB : CesAt w w.heap.size vb B) (hx : A = fl x) (hy : B = fl y) (hok : ∀ c ∈ B, okCe c = true) (hlA : A.length ≤ 30) (hlB : B.length ≤ 30) :
    Calls Try.prog 33 #[va, vb] w fun e w' => e = .returned (.bool (mt2 x y fun _ => none).isSome) ∧ Below w.heap.size w w' := by
  have hA0 : 0 < A.length := by rw [hx]; exact fl_pos x
  have hB0 : 0 < B.length := by rw [hy]; exact fl_pos y
  have HA : Hid (CesAt w w.heap.size va A) := hA
  obtain ⟨g, o, cap, rfl, hlc, hcm, hg, hrow, hnm⟩ := hA.open hA0
  obtain ⟨g2, o2, cap2, rfl, hlc2, hcm2, hg2, hrow2, hnm2⟩ := hB.open hB0
  have hcm' : cap ≤ 9223372036854775807 := by unfold maxLen at hcm; omega
  have hcm2' : cap2 ≤ 9223372036854775807 := by unfold maxLen at hcm2; omega
  have HROW : Hid (∀ i, i < A.length → CeIn w g (o + i * 3) (ce A i)) := hrow
  have HNM : Hid (∀ i, i < A.length → (ce A i).name.size ≤ maxLen) := hnm
  have HROW2 : Hid (∀ i, i < B.length → CeIn w g2 (o2 + i * 3) (ce B i)) := hrow2
  have HOK : Hid (∀ c ∈ B, okCe c = true) := hok
  obtain ⟨R, hR⟩ : ∃ R, R = (mt2 x y fun _ => none).isSome := ⟨_, rfl⟩
  rw [← hR]
  have HR : Hid (R = (mtL [x] [y] fun _ => none).isSome) := by
    show _ = _
    rw [hR, mtL_cons]
    cases mt2 x y fun _ => none <;> rfl
  have HDA : Hid (A.drop 0 = flL [x]) := by show _ = _; rw [List.drop_zero, hx]; simp [flL]
  have HDB : Hid (B.drop 0 = flL [y]) := by show _ = _; rw [List.drop_zero, hy]; simp [flL]
  clear hrow hnm hrow2 hnm2 hA hB hok hR hx hy
  obtain ⟨W1, hW1⟩ : ∃ W, W = w.alloc (.cells #[.slice none 0 0, .slice none 0 0, .slice none 0 0, .slice none 0 0, .slice none 0 0, .slice none 0 0] 80) := ⟨_, rfl⟩
  have hBW : Below w.heap.size w W1 := by rw [hW1]; exact (Below.refl _ w).alloc (Nat.le_refl _) _
  have HSW : Hid (W1.heap.size = w.heap.size + 1) := by show _ = _; rw [hW1]; simp
  have HFD : Hid (FdAt W1 w.heap.size g o cap A fun _ => none) := by
    intro j hj
    rw [hW1]
    refine ⟨by go_simp, .inl ⟨rfl, ?_⟩⟩
    match j, hj with
    | 0, _ => go_simp
    | 1, _ => go_simp
    | 2, _ => go_simp
    | 3, _ => go_simp
    | 4, _ => go_simp
    | 5, _ => go_simp
  go_enter Try.func33, Try.ntmps33
  go_wp2
  rw [← hW1]
  clear hW1
  go_loopw [6, 12] (fun va vi wr => ∃ (a i : Nat) (us bs : List TT) (s : Nat → Option TT), a ≤ A.length ∧ i ≤ B.length ∧ va = .int .i64 (a : Int) ∧ vi = .int .i64 (i : Int) ∧ Hid (A.drop a = flL us) ∧ Hid (B.drop i = flL bs) ∧ Hid (us.length = bs.length) ∧ Hid (R = (mtL us bs s).isSome) ∧ Hid (FdAt wr w.heap.size g o cap A s) ∧ Below w.heap.size w wr ∧ w.heap.size < wr.heap.size)
    (fun _ vi _ => B.length - (intOf vi).toNat)
  case atStart => exact ⟨0, 0, [x], [y], fun _ => none, by omega, by omega, rfl, rfl, HDA, HDB, rfl, HR, HFD, hBW, by have := HSW.out; omega⟩
  case round =>
    obtain ⟨a, i, us, bs, s, ha, hi, rfl, rfl, hda, hdb, hlen, hr, hfd, hbw, hsz⟩ := hrel
    clear HFD HR HDA HDB
    by_cases hlt : i < B.length
    · have hlt' : (i : Int) < (B.length : Int) := by omega
      obtain ⟨y', bs', hbs⟩ : ∃ y' bs', bs = y' :: bs' := by
        cases bs with
        | nil => have h1 := congrArg List.length hdb.out; rw [List.length_drop] at h1; simp [flL] at h1; omega
        | cons y' bs' => exact ⟨y', bs', rfl⟩
      subst hbs
      obtain ⟨x', us', hus⟩ : ∃ x' us', us = x' :: us' := by
        have h1 := hlen.out
        cases us with
        | nil => simp at h1
        | cons x' us' => exact ⟨x', us', rfl⟩
      subst hus
      obtain ⟨yv, yn, yks⟩ := y'
      have hdb1 := drop_ce B i hlt
      rw [hdb.out, flL, fl, List.cons_append, List.cons.injEq] at hdb1
      have hdbn : Hid (B.drop (i + 1) = flL (yks ++ bs')) := by show _ = _; rw [← hdb1.2, flL_append]
      have hci2 := (HROW2.out i hlt).below hbw hg2
      rw [← hdb1.1] at hci2
      obtain ⟨d0, d1, d2⟩ := hci2
      dsimp only at d0 d1 d2
      have hmemB : ce B i ∈ B := by
        have h9 : ce B i = B[i] := by simp [ce, List.getD, hlt]
        rw [h9]
        exact List.getElem_mem hlt
      have hokc : okCe ⟨yv, yn, (yks.length : Int)⟩ = true := HOK.out _ (by rw [hdb1.1]; exact hmemB)
      clear hmemB
      have hax : a < A.length := by
        have h1 := congrArg List.length hda.out
        rw [List.length_drop, flL, List.length_append] at h1
        have := fl_pos x'
        omega
      have hax' : (a : Int) < (A.length : Int) := by omega
      have hlen' : us'.length = bs'.length := by have := hlen.out; simpa using this
      have HLEN : Hid (us'.length = bs'.length) := hlen'
      clear hlen' hlen
      have hg' : g < wr.heap.size := by omega
      have hg2' : g2 < wr.heap.size := by omega
      obtain ⟨W2, hW2⟩ : ∃ W, W = wr.alloc (.cells #[.int .i64 yv, .string yn, .int .i64 (yks.length : Int)] 53) := ⟨_, rfl⟩
      have hb2 : Below wr.heap.size wr W2 := by rw [hW2]; exact (Below.refl _ wr).alloc (Nat.le_refl _) _
      have hbW2 : Below w.heap.size w W2 := hbw.trans (hb2.mono hbw.size)
      have e0 : W2.cell? ⟨wr.heap.size, 0, none⟩ = some (.int .i64 yv) := by rw [hW2]; go_simp
      have e1 : W2.cell? ⟨wr.heap.size, 1, none⟩ = some (.string yn) := by rw [hW2]; go_simp
      have e2 : W2.cell? ⟨wr.heap.size, 2, none⟩ = some (.int .i64 (yks.length : Int)) := by rw [hW2]; go_simp
      have HS2 : Hid (W2.heap.size = wr.heap.size + 1) := by show _ = _; rw [hW2]; simp
      have hfd2 : Hid (FdAt W2 w.heap.size g o cap A s) := hfd.out.kept (hb2.block _ hsz)
      have hsz2 : w.heap.size < W2.heap.size := by rw [HS2.out]; omega
      by_cases hv : yv = 0
      · subst hv
        obtain ⟨xv, xn, xks⟩ := x'
        have hda1 := drop_ce A a hax
        rw [hda.out, flL, fl, List.cons_append, List.cons.injEq] at hda1
        have hdan : Hid (A.drop (a + 1) = flL (xks ++ us')) := by show _ = _; rw [← hda1.2, flL_append]
        have hci := (HROW.out a hax).below hbW2 hg
        rw [← hda1.1] at hci
        obtain ⟨c0, c1, c2⟩ := hci
        dsimp only at c0 c1 c2
        have hq := ceq_eq ⟨xv, xn, (xks.length : Int)⟩ ⟨0, yn, (yks.length : Int)⟩
        by_cases hcd : (⟨xv, xn, (xks.length : Int)⟩ : Ce) = ⟨0, yn, (yks.length : Int)⟩
        · have hq' : ceq xv xn (xks.length : Int) 0 yn (yks.length : Int) = true := by rw [hq]; simpa using hcd
          simp only [Ce.mk.injEq] at hcd
          have hll : xks.length = yks.length := by omega
          have hr2 : Hid (R = (mtL (xks ++ us') (yks ++ bs') s).isSome) := by
            show _ = _
            rw [hr.out, mtL_cons, mt2_fn _ 0 yn yks s (by omega), if_pos (by exact ⟨hcd.1, hcd.2.1, hll⟩), mtL_append _ _ _ _ _ hll]
            rfl
          have hlen2 : Hid ((xks ++ us').length = (yks ++ bs').length) := by show _ = _; rw [List.length_append, List.length_append, hll, HLEN.out]
          clear hq hcd hll hr hda1 hdb1 hda hdb
          go_upto_region 7 with fail
          rw [← hW2]
          clear hW2
          go_wp2_with fail
          go_quiet (fail)
          go_wp2
          go_roundw
          case rel => exact ⟨a + 1, i + 1, xks ++ us', yks ++ bs', s, by omega, by omega, by go_num, by go_num, hdan, hdbn, hlen2, hr2, hfd2, below_drewN hbW2, hsz2⟩
          case measure => simp [intOf]; omega
        · have hq' : ceq xv xn (xks.length : Int) 0 yn (yks.length : Int) = false := by rw [hq]; simpa using hcd
          have hn : Hid (R = false) := by
            show _ = _
            rw [hr.out, mtL_cons, mt2_fn _ 0 yn yks s (by omega), if_neg]
            · rfl
            · rintro ⟨h1, h2, h3⟩
              apply hcd
              dsimp only [TT.v, TT.name, TT.kids] at h1 h2 h3
              rw [h1, h2, h3]
          clear hq hcd hr hda1 hdb1 hda hdb
          go_upto_region 7 with fail
          rw [← hW2]
          clear hW2
          go_wp2_with fail
          go_quiet (fail)
          go_wp2
          go_ret
          exact ⟨by rw [hn.out]; rfl, below_drewN hbW2⟩
      · have hv' : (yv == 0) = false := by simpa using hv
        have hvp : 0 < yv := by
          by_cases h : 0 < yv
          · exact h
          · exact absurd (okCe_neg hokc h) hv
        obtain ⟨k1, k6, kn, km⟩ := okCe_pos hokc hvp
        dsimp only at k1 k6 kn km
        subst kn
        have hks : yks = [] := List.length_eq_zero_iff.1 (by omega)
        subst hks
        obtain ⟨m, rfl⟩ : ∃ m : Nat, yv = (m : Int) + 1 := ⟨(yv - 1).toNat, by omega⟩
        replace hW2 : W2 = wr.alloc (.cells #[.int .i64 ((m : Int) + 1), .string ⟨#[]⟩, .int .i64 0] 53) := hW2
        replace e2 : W2.cell? ⟨wr.heap.size, 2, none⟩ = some (.int .i64 0) := e2
        have hm6 : m < 6 := by omega
        have hmI : (m : Int) < 6 := by omega
        have hmt : ((m : Int) + 1).toNat - 1 = m := by omega
        have HMT : Hid (((m : Int) + 1).toNat - 1 = m) := hmt
        clear hmt
        have hdax : A.drop a = fl x' ++ flL us' := by rw [hda.out, flL]
        have CT := termAt_any A g o cap a x' (flL us') W2 hlc hcm (by omega) (fun i hi => (HROW.out i hi).below hbW2 hg) (by omega) hdax
        obtain ⟨nx, hnx⟩ : ∃ n, Hid (n = (fl x').length) := ⟨_, rfl⟩
        have hnx0 : 0 < nx := by rw [hnx.out]; exact fl_pos x'
        have hanx : a + nx ≤ A.length := by
          have h1 := congrArg List.length hdax
          rw [List.length_drop, List.length_append, ← hnx.out] at h1
          omega
        have hits : Hid ((A.drop a).take nx = fl x') := by show _ = _; rw [hdax, hnx.out]; simp
        have hdan : Hid (A.drop (a + nx) = flL us') := by
          show _ = _
          rw [← List.drop_drop, hdax, hnx.out]
          simp
        rw [← hnx.out] at CT
        have HCT : Hid (Calls Try.prog 47 #[.slice (some ⟨g, o, none⟩) A.length cap, .int .i64 (a : Int)] W2 fun e w' => e = .returned (.slice (some ⟨g, o + a * 3, none⟩) nx (cap - a)) ∧ w' = W2) := CT
        have CE : Hid (∀ (W : World) (X Y : List Ce) (a1 n1 a2 n2 : Nat), Below w.heap.size w W → 0 < n1 → 0 < n2 → a1 + n1 ≤ A.length → a2 + n2 ≤ A.length → (A.drop a1).take n1 = X → (A.drop a2).take n2 = Y → Calls Try.prog 48 #[.slice (some ⟨g, o + a1 * 3, none⟩) n1 (cap - a1), .slice (some ⟨g, o + a2 * 3, none⟩) n2 (cap - a2)] W fun e w' => e = .returned (.bool (decide (X = Y))) ∧ Below W.heap.size W w') := fun W X Y a1 n1 a2 n2 hW h1 h2 h3 h4 h5 h6 => by
          have hs := hW.size
          have p1 := CesAt.piece (B := W.heap.size) a1 n1 hlc hcm (by omega) (fun i hi => (HROW.out i hi).below hW hg) HNM.out h1 h3
          have p2 := CesAt.piece (B := W.heap.size) a2 n2 hlc hcm (by omega) (fun i hi => (HROW.out i hi).below hW hg) HNM.out h2 h4
          rw [h5] at p1
          rw [h6] at p2
          exact equalC_any X Y _ _ W p1 p2
        have hdbn2 : Hid (B.drop (i + 1) = flL bs') := by show _ = _; have := hdbn.out; simpa using this
        obtain ⟨fz, fcase⟩ := hfd2.out m hm6
        have FZ : Hid (W2.frozen? ⟨w.heap.size, m, none⟩ = false) := fz
        clear CT hdax hda hdb hdb1 hdbn hfd km hokc fz
        rcases fcase with ⟨hs0, fc⟩ | ⟨t, a1, hs1, ht1, ht2, fc⟩
        · have hr2 : Hid (R = (mtL us' bs' (upd s m x')).isSome) := by
            show _ = _
            rw [hr.out, mtL_cons, mt2_new _ _ _ _ _ hvp (by rw [HMT.out]; exact hs0), HMT.out]
            rfl
          have hfd3 : Hid (FdAt (W2.setCell ⟨w.heap.size, m, none⟩ (.slice (some ⟨g, o + a * 3, none⟩) nx (cap - a))) w.heap.size g o cap A (upd s m x')) := by
            have h9 := hfd2.out.set m hm6 x' a (by rw [← hnx.out]; exact hanx) (by rw [← hnx.out]; exact hits.out)
            rw [← hnx.out] at h9
            exact h9
          have hbW3 : Below w.heap.size w (W2.setCell ⟨w.heap.size, m, none⟩ (.slice (some ⟨g, o + a * 3, none⟩) nx (cap - a))) := hbW2.setCell (Nat.le_refl _) _
          have fz := FZ.out
          go_upto_region 10 with fail
          rw [← hW2]
          clear hW2 hs0 hr
          go_wp2_with fail
          refine HCT.out.mono ?_
          rintro e w3 ⟨rfl, rfl⟩
          obtain ⟨W3, hW3⟩ : ∃ W, W = w3.setCell ⟨w.heap.size, m, none⟩ (.slice (some ⟨g, o + a * 3, none⟩) nx (cap - a)) := ⟨_, rfl⟩
          have e3 : W3.cell? ⟨wr.heap.size, 0, none⟩ = some (.int .i64 ((m : Int) + 1)) := by
            rw [hW3, World.cell?_setCell_other _ _ _ _ (fun e => by have := congrArg Addr.block e; simp at this; omega)]
            exact e0
          have f3 : W3.cell? ⟨w.heap.size, m, none⟩ = some (.slice (some ⟨g, o + a * 3, none⟩) nx (cap - a)) := by rw [hW3]; exact World.cell?_setCell_same _ _ _ fc
          have HS3 : Hid (W3.heap.size = wr.heap.size + 1) := by show _ = _; rw [hW3]; simp; exact HS2.out
          rw [← hW3] at hfd3 hbW3
          have hce3 := CE.out W3 (fl x') (fl x') a nx a nx hbW3 hnx0 hnx0 hanx hanx hits.out hits.out
          rw [decide_eq_true (show fl x' = fl x' from rfl)] at hce3
          have HCE3 : Hid (Calls Try.prog 48 #[.slice (some ⟨g, o + a * 3, none⟩) nx (cap - a), .slice (some ⟨g, o + a * 3, none⟩) nx (cap - a)] W3 fun e w' => e = .returned (.bool true) ∧ Below W3.heap.size W3 w') := hce3
          clear hce3 CE
          go_upto_region 13 with fail
          rw [← hW3]
          clear hW3
          go_wp2_with fail
          refine HCE3.out.mono ?_
          rintro e w4 ⟨rfl, hb4⟩
          have hbw4 : Below w.heap.size w w4 := hbW3.trans (hb4.mono hbW3.size)
          have hsz4 : w.heap.size < w4.heap.size := by have := hb4.size; have := HS3.out; omega
          have hfd4 : Hid (FdAt w4 w.heap.size g o cap A (upd s m x')) := hfd3.out.kept (hb4.block _ (by have := HS3.out; omega))
          clear hfd3 hb4 HCE3
          go_wp2
          go_roundw
          case rel => exact ⟨a + nx, i + 1, us', bs', upd s m x', by omega, by omega, by go_num, by go_num, hdan, hdbn2, HLEN, hr2, hfd4, hbw4, hsz4⟩
          case measure => simp [intOf]; omega
        · obtain ⟨nt, hnt⟩ : ∃ n, Hid (n = (fl t).length) := ⟨_, rfl⟩
          rw [← hnt.out] at ht1 ht2 fc
          have hnt0 : 0 < nt := by rw [hnt.out]; exact fl_pos t
          have hce2 := CE.out W2 (fl t) (fl x') a1 nt a nx hbW2 hnt0 hnx0 ht1 hanx ht2 hits.out
          by_cases hq : fl t = fl x'
          · rw [decide_eq_true hq] at hce2
            have HCE2 : Hid (Calls Try.prog 48 #[.slice (some ⟨g, o + a1 * 3, none⟩) nt (cap - a1), .slice (some ⟨g, o + a * 3, none⟩) nx (cap - a)] W2 fun e w' => e = .returned (.bool true) ∧ Below W2.heap.size W2 w') := hce2
            have hr2 : Hid (R = (mtL us' bs' s).isSome) := by
              show _ = _
              rw [hr.out, mtL_cons, mt2_old _ _ _ _ _ hvp t (by rw [HMT.out]; exact hs1), if_pos hq]
              rfl
            clear hce2 CE hr hq ht2 hs1
            go_upto_region 10 with fail
            rw [← hW2]
            clear hW2
            go_wp2_with fail
            refine HCT.out.mono ?_
            rintro e w3 ⟨rfl, rfl⟩
            go_wp2_with fail
            refine HCE2.out.mono ?_
            rintro e w4 ⟨rfl, hb4⟩
            have hbw4 : Below w.heap.size w w4 := hbW2.trans (hb4.mono hbW2.size)
            have hsz4 : w.heap.size < w4.heap.size := by have := hb4.size; omega
            have hfd4 : Hid (FdAt w4 w.heap.size g o cap A s) := hfd2.out.kept (hb4.block _ hsz2)
            clear hfd2 hb4 HCE2
            go_wp2
            go_roundw
            case rel => exact ⟨a + nx, i + 1, us', bs', s, by omega, by omega, by go_num, by go_num, hdan, hdbn2, HLEN, hr2, hfd4, hbw4, hsz4⟩
            case measure => simp [intOf]; omega
          · rw [decide_eq_false hq] at hce2
            have HCE2 : Hid (Calls Try.prog 48 #[.slice (some ⟨g, o + a1 * 3, none⟩) nt (cap - a1), .slice (some ⟨g, o + a * 3, none⟩) nx (cap - a)] W2 fun e w' => e = .returned (.bool false) ∧ Below W2.heap.size W2 w') := hce2
            have hn : Hid (R = false) := by
              show _ = _
              rw [hr.out, mtL_cons, mt2_old _ _ _ _ _ hvp t (by rw [HMT.out]; exact hs1), if_neg hq]
              rfl
            clear hce2 CE hr hq ht2 hs1
            go_upto_region 10 with fail
            rw [← hW2]
            clear hW2
            go_wp2_with fail
            refine HCT.out.mono ?_
            rintro e w3 ⟨rfl, rfl⟩
            go_wp2_with fail
            refine HCE2.out.mono ?_
            rintro e w4 ⟨rfl, hb4⟩
            have hbw4 : Below w.heap.size w w4 := hbW2.trans (hb4.mono hbW2.size)
            go_wp2
            go_ret
            exact ⟨by rw [hn.out]; rfl, hbw4⟩
    · have hke : i = B.length := by omega
      have hge : ¬ ((i : Int) < (B.length : Int)) := by omega
      have hn : Hid (R = true) := by
        have h1 := congrArg List.length hdb.out
        rw [hke, List.drop_length] at h1
        have hb0 : bs = [] := by
          have := flL_len bs
          exact List.length_eq_zero_iff.1 (by simp at h1; omega)
        have hu0 : us = [] := List.length_eq_zero_iff.1 (by rw [hlen.out, hb0]; rfl)
        show _ = _
        rw [hr.out, hb0, hu0, mtL]
        rfl
      clear hke hr
      go_wp2
      go_ret
      exact ⟨by rw [hn.out]; rfl, hbw⟩

set_option maxRecDepth 100000 in
set_option maxHeartbeats 4000000 in
theorem implInst (A B : List Ce) (va vb : Value) (w : World) (hA : CesAt w w.heap.size va A) (hB : CesAt w w.heap.size vb B) :
    Calls Try.prog 19 #[.agg #[va], .agg #[vb]] w fun e w' => e = .returned (.tuple #[.bool (iof A B).1, .bool (iof A B).2]) ∧ Below w.heap.size w w' := by
  have HA : Hid (CesAt w w.heap.size va A) := hA
  have HB : Hid (CesAt w w.heap.size vb B) := hB
  obtain ⟨ao, cap, rfl, _⟩ := hA
  obtain ⟨ao2, cap2, rfl, _⟩ := hB
  obtain ⟨R, hR⟩ : ∃ R, Hid (R = iof A B) := ⟨_, rfl⟩
  rw [← hR.out]
  obtain ⟨W2, hW2⟩ : ∃ W, W = (w.alloc (.cells #[.slice ao A.length cap] 29)).alloc (.cells #[.slice ao2 B.length cap2] 29) := ⟨_, rfl⟩
  have hB2 : Below w.heap.size w W2 := by rw [hW2]; exact ((Below.refl _ w).alloc (Nat.le_refl _) _).alloc (by simp) _
  have HS2 : Hid (W2.heap.size = w.heap.size + 2) := by show _ = _; rw [hW2]; simp
  have x0 : W2.cell? ⟨w.heap.size, 0, none⟩ = some (.slice ao A.length cap) := by rw [hW2]; go_simp
  have y0 : W2.cell? ⟨w.heap.size + 1, 0, none⟩ = some (.slice ao2 B.length cap2) := by rw [hW2]; go_simp
  have hsx : w.heap.size < W2.heap.size := by rw [HS2.out]; omega
  have hsy : w.heap.size + 1 < W2.heap.size := by rw [HS2.out]; omega
  go_enter Try.func19, Try.ntmps19
  go_upto_region 1 with fail
  rw [← hW2]
  clear hW2
  go_wp2_with fail
  refine (implGoodT A _ _ (HA.out.below hB2)).mono ?_
  rintro e w3 ⟨rfl, hb3⟩
  have hB3 : Below w.heap.size w w3 := hB2.trans (hb3.mono hB2.size)
  have hs3 := hb3.size
  have x3 := (hb3.cell (p := ⟨w.heap.size, 0, none⟩) hsx).trans x0
  have y3 := (hb3.cell (p := ⟨w.heap.size + 1, 0, none⟩) hsy).trans y0
  clear hb3
  by_cases hgA : gt A = true
  · rw [hgA]
    go_wp2_with fail
    refine (implGoodT B _ _ (HB.out.below hB3)).mono ?_
    rintro e w4 ⟨rfl, hb4⟩
    have hB4 : Below w.heap.size w w4 := hB3.trans (hb4.mono hB3.size)
    have x4 := (hb4.cell (p := ⟨w.heap.size, 0, none⟩) (by show w.heap.size < _; omega)).trans x3
    have y4 := (hb4.cell (p := ⟨w.heap.size + 1, 0, none⟩) (by show w.heap.size + 1 < _; omega)).trans y3
    clear hb4
    by_cases hgB : gt B = true
    · rw [hgB]
      obtain ⟨lA, x, hx⟩ := gt_tre hgA
      obtain ⟨lB, y, hy⟩ := gt_tre hgB
      have HC : Hid (Calls Try.prog 33 #[.slice ao A.length cap, .slice ao2 B.length cap2] w4 fun e w' => e = .returned (.bool (mt2 x y fun _ => none).isSome) ∧ Below w4.heap.size w4 w') := isMadeOf_any A B x y _ _ w4 (HA.out.below hB4) (HB.out.below hB4) (tre_fl hx) (tre_fl hy) (gt_ok hgB) lA lB
      have hRR : Hid (R = ((mt2 x y fun _ => none).isSome, true)) := hR.out.trans (iof_yes hgA hgB hx hy)
      clear hgA hgB hx hy lA lB
      generalize (mt2 x y fun _ => none).isSome = q at HC hRR
      go_wp2_with fail
      refine HC.out.mono ?_
      rintro e w5 ⟨rfl, hb5⟩
      have hB5 : Below w.heap.size w w5 := hB4.trans (hb5.mono hB4.size)
      clear hb5
      go_wp2
      go_ret2
      rw [hRR.out]
      exact ⟨rfl, hB5⟩
    · have hgB' : gt B = false := by simpa using hgB
      have hRR : Hid (R = (false, false)) := hR.out.trans (iof_no (by rw [hgB']; simp))
      rw [hgB']
      clear hgB hgA
      go_wp2
      go_ret2
      rw [hRR.out]
      exact ⟨rfl, hB4⟩
  · have hgA' : gt A = false := by simpa using hgA
    have hRR : Hid (R = (false, false)) := hR.out.trans (iof_no (by rw [hgA']; simp))
    rw [hgA']
    clear hgA
    go_wp2
    go_ret2
    rw [hRR.out]
    exact ⟨rfl, hB3⟩

end Go.Proofs.Ytlmhjkcollohnaa
