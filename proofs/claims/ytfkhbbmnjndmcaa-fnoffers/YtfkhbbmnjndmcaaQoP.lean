/- What FnOffers asks, in plain words. -/
import Derived.Test.YtfkhbbmnjndmcaaQtP
import Derived.Test.YtfkhbbmnjndmcaaQsH
namespace Go.Proofs.Ytfkhbbmnjndmcaa

namespace Qus
structure OffQ (q x : Qu) (n : Int) : Prop where
  lo : -1 ≤ n
  full : decide (0 ≤ n) = ((q.wt.length : Int) == q.cap)
  next : x.next = q.next + 1
  good : gq x = true
  some' : 0 ≤ n → 0 < q.wt.length
  old : 0 ≤ n → q.rule = 1 → q.wt[0]? = some n
  new : 0 ≤ n → q.rule = 2 → q.wt[q.wt.length - 1]? = some n
  that : 0 ≤ n → q.rule ≠ 1 → q.rule ≠ 2 → n = q.next
  drop : 0 ≤ n → x.dr.length = q.dr.length + 1

theorem ofQ_bad {q : Qu} (h : ¬ gq q = true) : ofQ q = (qz, 0, false) := by
  unfold ofQ
  rw [if_neg h]
theorem hnQ_bad {q : Qu} (h : ¬ gq q = true) : hnQ q = (qz, 0, false) := by
  unfold hnQ
  rw [if_neg h]

theorem gq_ok {q : Qu} (h : gq q = true) : okR q.cap q.rule = true := by
  obtain ⟨_, h1, h2, h3, h4⟩ := gq_gd h
  unfold okR
  rw [decide_eq_true (show 1 ≤ q.cap ∧ q.cap ≤ 10 from ⟨h1, h2⟩), decide_eq_true (show 1 ≤ q.rule ∧ q.rule ≤ 3 from ⟨h3, h4⟩)]
  rfl

theorem offer_law {q : Qu} (h : (ofQ q).2.2 = true) : OffQ q (ofQ q).1 (ofQ q).2.1 := by
  by_cases hg : gq q = true
  · have hp := gq_parts hg
    have hgd := gq_gd hg
    have hok := gq_ok hg
    have hw : q.wt = al (mq q) 1 := congrArg Qu.wt hp.2.2.1
    have hd : q.dr = al (mq q) 3 := congrArg Qu.dr hp.2.2.1
    have hn : q.next = ((mq q).length : Int) := hp.2.2.2.2.symm
    have hM := hgd.1
    have hc := hgd.2.1
    obtain ⟨_, _, s3, s4⟩ := ofM_step (c := q.cap) (r := q.rule) (M := mq q) hc
    have hG := gq_tq (c := q.cap) (r := q.rule) (hM.ofM (r := q.rule) hc) hok
    have hroom := hM.room
    rw [ofQ_marks hg] at h ⊢
    have h2 : (ofM q.cap q.rule (mq q)).2.2 = true := by
      cases e : (ofM q.cap q.rule (mq q)).2.2 with
      | true => rfl
      | false => rw [e] at h; simp at h
    rw [if_pos h2]
    dsimp only
    have hdr : (tq q.cap q.rule (ofM q.cap q.rule (mq q)).1).dr = al (ofM q.cap q.rule (mq q)).1 3 := rfl
    have hnx : (tq q.cap q.rule (ofM q.cap q.rule (mq q)).1).next = ((ofM q.cap q.rule (mq q)).1.length : Int) := rfl
    by_cases h1 : (mq q).length = 100
    · unfold ofM at h2
      rw [if_pos h1] at h2
      simp at h2
    by_cases h3 : ((al (mq q) 1).length : Int) < q.cap
    · have e : ofM q.cap q.rule (mq q) = (mq q ++ [1], -1, true) := by unfold ofM; rw [if_neg h1, if_pos h3]
      have en : (ofM q.cap q.rule (mq q)).2.1 = -1 := by rw [e]
      refine ⟨by omega, ?_, ?_, hG, fun h => by omega, fun h => by omega, fun h => by omega, fun h => by omega, fun h => by omega⟩
      · rw [en, decide_eq_false (by decide), hw]
        symm
        rw [beq_eq_false_iff_ne]
        omega
      · rw [hnx, e, hn]
        simp
    · have e : ofM q.cap q.rule (mq q) = ((mq q ++ [1]).set (dropN q.rule (mq q)).toNat 3, dropN q.rule (mq q), true) := by unfold ofM; rw [if_neg h1, if_neg h3]
      obtain ⟨k, hk, _, _⟩ := dropN_is (r := q.rule) hc h3
      have en : (ofM q.cap q.rule (mq q)).2.1 = dropN q.rule (mq q) := by rw [e]
      have h0 : 0 ≤ (ofM q.cap q.rule (mq q)).2.1 := by rw [en, hk]; omega
      refine ⟨by omega, ?_, ?_, hG, fun _ => by rw [hw]; omega, fun _ hr => ?_, fun _ hr => ?_, fun _ hr1 hr2 => ?_, fun _ => ?_⟩
      · rw [decide_eq_true h0, hw]
        symm
        rw [beq_iff_eq]
        omega
      · rw [hnx, e, hn]
        simp
      · rw [en, hr]
        unfold dropN
        rw [if_pos rfl, hw]
        rcases fstM_nat (mq q) 1 with ⟨_, h6⟩ | ⟨i, _, h6, _, l, h7⟩
        · rw [h6] at h3; simp at h3; omega
        · rw [h6, h7]; rfl
      · rw [en, hr]
        unfold dropN
        rw [if_neg (by decide), if_pos rfl, hw]
        rcases lstM_nat (mq q) 1 with ⟨_, h6⟩ | ⟨i, _, h6, _, h7⟩
        · rw [h6] at h3; simp at h3; omega
        · rw [h6, ← h7, List.getLast?_eq_getElem?]
      · rw [en]
        unfold dropN
        rw [if_neg hr1, if_neg hr2, hn]
      · rw [hdr, hd]
        exact (s3 h2 h0).2.2
  · rw [ofQ_bad hg] at h
    simp at h

structure HandQ (q u : Qu) (k : Int) : Prop where
  first : q.wt[0]? = some k
  good : gq u = true

theorem hand_law {q : Qu} (h : (hnQ q).2.2 = true) : HandQ q (hnQ q).1 (hnQ q).2.1 := by
  by_cases hg : gq q = true
  · have hp := gq_parts hg
    have hgd := gq_gd hg
    have hok := gq_ok hg
    have hw : q.wt = al (mq q) 1 := congrArg Qu.wt hp.2.2.1
    have hM := hgd.1
    have hG := gq_tq (c := q.cap) (r := q.rule) hM.hnM hok
    rw [hnQ_marks hg] at h ⊢
    have h2 : (hnM (mq q)).2.2 = true := by
      cases e : (hnM (mq q)).2.2 with
      | true => rfl
      | false => rw [e] at h; simp at h
    rw [if_pos h2]
    refine ⟨?_, hG⟩
    dsimp only
    rw [hw]
    rcases fstM_nat (mq q) 1 with ⟨h6, _⟩ | ⟨i, _, h6, _, l, h7⟩
    · unfold hnM at h2
      rw [h6, if_pos (show (-1 : Int) < 0 by decide)] at h2
      simp at h2
    · unfold hnM
      rw [h6, if_neg (show ¬ (i : Int) < 0 by omega), h7]
      rfl
  · rw [hnQ_bad hg] at h
    simp at h

theorem tq_smallO {c r : Int} {M : List Int} (h : GdM c M) : SmlQ (tq c r M) 2097152 := by
  have := tq_lens (r := r) h
  exact ⟨by omega, by omega, by omega⟩
theorem ofQ_smallO (q : Qu) : SmlQ (ofQ q).1 2097152 := by
  by_cases hg : gq q = true
  · rw [ofQ_marks hg]
    split
    · exact tq_smallO ((gq_gd hg).1.ofM (gq_gd hg).2.1)
    · exact ⟨by decide, by decide, by decide⟩
  · rw [ofQ_bad hg]
    exact ⟨by decide, by decide, by decide⟩
theorem hnQ_smallO (q : Qu) : SmlQ (hnQ q).1 2097152 := by
  by_cases hg : gq q = true
  · rw [hnQ_marks hg]
    split
    · exact tq_smallO (gq_gd hg).1.hnM
    · exact ⟨by decide, by decide, by decide⟩
  · rw [hnQ_bad hg]
    exact ⟨by decide, by decide, by decide⟩
end Qus

end Go.Proofs.Ytfkhbbmnjndmcaa
