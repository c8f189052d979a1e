/- What FnQueue asks of a play, in plain words. -/
import Derived.Test.YtfkhbbmnjndmcaaQtA
import Derived.Test.YtfkhbbmnjndmcaaQsF
namespace Go.Proofs.Ytfkhbbmnjndmcaa

namespace Qus
theorem mkl_make (a : Int) : ∀ (l : List Int) (least : Nat) (M : List Int), l.Pairwise (· < ·) → (∀ n ∈ l, (least : Int) ≤ n ∧ n < M.length ∧ M.getD n.toNat 0 = 0) → ∃ M', mkl a least l M = some M'
  | [], least, M, _, _ => ⟨M, rfl⟩
  | n :: l, least, M, hs, hall => by
    obtain ⟨h1, h2, h3⟩ := hall n (by simp)
    have hs' := List.pairwise_cons.1 hs
    have hc : ¬ (n < (least : Int) ∨ (M.length : Int) ≤ n ∨ M.getD n.toNat 0 ≠ 0) := by
      rintro (h | h | h)
      · omega
      · omega
      · exact h h3
    rw [mkl, if_neg hc]
    refine mkl_make a l (n.toNat + 1) (M.set n.toNat a) hs'.2 fun m hm => ?_
    obtain ⟨m1, m2, m3⟩ := hall m (List.mem_cons_of_mem _ hm)
    have := hs'.1 m hm
    refine ⟨by omega, by rw [List.length_set]; exact m2, ?_⟩
    rw [getD_set M _ _ a (by omega), if_neg (by omega)]
    exact m3

theorem mem_al_iff {M : List Int} {i : Nat} (hi : i < M.length) (a : Int) : (i : Int) ∈ al M a ↔ M.getD i 0 = a := by
  rw [mem_al]
  constructor
  · rintro ⟨j, _, e1, e2⟩
    have : i = j := by omega
    rw [this]; exact e2
  · intro e
    exact ⟨i, hi, rfl, e⟩

theorem al_bound {M : List Int} {a n : Int} (h : n ∈ al M a) : 0 ≤ n ∧ n < M.length ∧ M.getD n.toNat 0 = a := al_lt h

theorem mk3_tq (c r : Int) (M : List Int) : ∃ M', mk3 (tq c r M) = some M' := by
  have h0 : ∀ i : Nat, (List.replicate M.length (0 : Int)).getD i 0 = 0 := fun i => by
    rw [List.getD_eq_getElem?_getD, List.getElem?_replicate]
    split <;> rfl
  have e0 : mk0 (tq c r M) = List.replicate M.length 0 := by unfold mk0 tq; simp
  obtain ⟨M1, h1⟩ := mkl_make 1 (al M 1) 0 (List.replicate M.length 0) (al_sorted M 1) fun n hn => by
    obtain ⟨p1, p2, _⟩ := al_lt hn
    exact ⟨by omega, by rw [List.length_replicate]; exact p2, h0 _⟩
  obtain ⟨l1, _, _, g1⟩ := mkl_some 1 _ _ _ _ h1
  rw [List.length_replicate] at l1
  obtain ⟨M2, h2⟩ := mkl_make 2 (al M 2) 0 M1 (al_sorted M 2) fun n hn => by
    obtain ⟨p1, p2, p3⟩ := al_lt hn
    refine ⟨by omega, by omega, ?_⟩
    have e : ((n.toNat : Nat) : Int) = n := by omega
    rw [g1, e, if_neg (fun hm => by rw [(al_lt hm).2.2] at p3; exact absurd p3 (by decide))]
    exact h0 _
  obtain ⟨l2, _, _, g2⟩ := mkl_some 2 _ _ _ _ h2
  obtain ⟨M3, h3⟩ := mkl_make 3 (al M 3) 0 M2 (al_sorted M 3) fun n hn => by
    obtain ⟨p1, p2, p3⟩ := al_lt hn
    refine ⟨by omega, by omega, ?_⟩
    have e : ((n.toNat : Nat) : Int) = n := by omega
    rw [g2, e, if_neg (fun hm => by rw [(al_lt hm).2.2] at p3; exact absurd p3 (by decide)), g1, e, if_neg (fun hm => by rw [(al_lt hm).2.2] at p3; exact absurd p3 (by decide))]
    exact h0 _
  refine ⟨M3, ?_⟩
  unfold mk3
  rw [e0]
  show (match mkl 1 0 (al M 1) (List.replicate M.length 0) with | none => none | some M1 => match mkl 2 0 (al M 2) M1 with | none => none | some M2 => mkl 3 0 (al M 3) M2) = _
  rw [h1]
  show (match mkl 2 0 (al M 2) M1 with | none => none | some M2 => mkl 3 0 (al M 3) M2) = _
  rw [h2]
  exact h3

theorem tq_sum {c : Int} (r : Int) {M : List Int} (h : GdM c M) : (tq c r M).wt.length + (tq c r M).hd.length + (tq c r M).dr.length = M.length := by
  show (al M 1).length + (al M 2).length + (al M 3).length = _
  rw [al_len, al_len, al_len]
  refine count_three M fun x hx => ?_
  obtain ⟨j, hj, ej⟩ := List.getElem_of_mem hx
  have := h.each j hj
  rw [List.getD_eq_getElem?_getD, List.getElem?_eq_getElem hj] at this
  simp at this
  rw [← ej]
  exact this

theorem gq_tq {c r : Int} {M : List Int} (h : GdM c M) (hr : okR c r = true) : gq (tq c r M) = true := by
  obtain ⟨M', hm⟩ := mk3_tq c r M
  have hs := tq_sum r h
  have hl := h.len
  have hn : (tq c r M).next = (M.length : Int) := rfl
  have ho := h.room
  refine gq_yes ?_ hm (by rw [hs, hn]) (by rw [hn]; omega)
  unfold g1
  rw [show okR (tq c r M).cap (tq c r M).rule = true from hr, hn, decide_eq_true (show 0 ≤ (M.length : Int) ∧ (M.length : Int) ≤ 100 by omega), decide_eq_true (show ((tq c r M).wt.length : Int) ≤ (tq c r M).cap from ho)]
  rfl

/-- where each number is -/
theorem wh_tq {c r : Int} {M : List Int} (h : GdM c M) (hr : okR c r = true) {i : Nat} (hi : i < M.length) : ∃ t : Int, whQ (tq c r M) (i : Int) = (t, true) ∧ 1 ≤ t ∧ t ≤ 3 ∧ (t == 1) = decide ((i : Int) ∈ (tq c r M).wt) ∧ (t == 2) = decide ((i : Int) ∈ (tq c r M).hd) ∧ (t == 3) = decide ((i : Int) ∈ (tq c r M).dr) := by
  have hg := gq_tq h hr
  have a1 : (i : Int) ∈ (tq c r M).wt ↔ M.getD i 0 = 1 := mem_al_iff hi 1
  have a2 : (i : Int) ∈ (tq c r M).hd ↔ M.getD i 0 = 2 := mem_al_iff hi 2
  have a3 : (i : Int) ∈ (tq c r M).dr ↔ M.getD i 0 = 3 := mem_al_iff hi 3
  have hn : (tq c r M).next = (M.length : Int) := rfl
  unfold whQ
  rw [if_pos ⟨hg, by omega, by rw [hn]; omega⟩]
  rcases h.each i hi with e | e | e <;> rw [e] at a1 a2 a3
  · rw [if_pos (a1.2 rfl)]
    exact ⟨1, rfl, by decide, by decide, by rw [decide_eq_true (a1.2 rfl)]; rfl, by rw [decide_eq_false (fun x => absurd (a2.1 x) (by decide))]; rfl, by rw [decide_eq_false (fun x => absurd (a3.1 x) (by decide))]; rfl⟩
  · rw [if_neg (fun x => absurd (a1.1 x) (by decide)), if_pos (a2.2 rfl)]
    exact ⟨2, rfl, by decide, by decide, by rw [decide_eq_false (fun x => absurd (a1.1 x) (by decide))]; rfl, by rw [decide_eq_true (a2.2 rfl)]; rfl, by rw [decide_eq_false (fun x => absurd (a3.1 x) (by decide))]; rfl⟩
  · rw [if_neg (fun x => absurd (a1.1 x) (by decide)), if_neg (fun x => absurd (a2.1 x) (by decide))]
    exact ⟨3, rfl, by decide, by decide, by rw [decide_eq_false (fun x => absurd (a1.1 x) (by decide))]; rfl, by rw [decide_eq_false (fun x => absurd (a2.1 x) (by decide))]; rfl, by rw [decide_eq_true (a3.2 rfl)]; rfl⟩

/-- all that FnQueue asks of a play that is told -/
structure PlayQ (c r : Int) (l : List Bool) (q : Qu) (T : List Int) : Prop where
  good : gq q = true
  sum : q.wt.length + q.hd.length + q.dr.length = q.next.toNat
  next : 0 ≤ q.next ∧ q.next ≤ 100
  len : T.length = l.length
  step : ∀ (k : Nat) (b : Bool), l[k]? = some b → ∀ h : Int, HIn h (plP c r (l.take k)).1 → ∃ t : Int, T[k]? = some t ∧ -2 ≤ t ∧ t ≤ 100 ∧
      (b = true → ((0 ≤ t → decide (t ∈ q.dr) = true ∧ (al (plP c r (l.take (k + 1))).1 3).length = (al (plP c r (l.take k)).1 3).length + 1) ∧ (¬ 0 ≤ t → (al (plP c r (l.take (k + 1))).1 3).length = (al (plP c r (l.take k)).1 3).length) ∧ HIn h (plP c r (l.take (k + 1))).1)) ∧
      (b = false → ((al (plP c r (l.take (k + 1))).1 3).length = (al (plP c r (l.take k)).1 3).length ∧ (0 ≤ t → ¬ t ≤ h ∧ decide (t ∈ q.hd) = true ∧ HIn t (plP c r (l.take (k + 1))).1) ∧ (¬ 0 ≤ t → HIn h (plP c r (l.take (k + 1))).1)))
  few : ∀ k, (al (plP c r (l.take k)).1 3).length ≤ 100 ∧ (plP c r (l.take k)).1.length ≤ 100
  all : (al (plP c r (l.take l.length)).1 3).length = q.dr.length
  where' : ∀ i : Nat, (i : Int) < q.next → ∃ t : Int, whQ q (i : Int) = (t, true) ∧ 1 ≤ t ∧ t ≤ 3 ∧ (t == 1) = decide ((i : Int) ∈ q.wt) ∧ (t == 2) = decide ((i : Int) ∈ q.hd) ∧ (t == 3) = decide ((i : Int) ∈ q.dr)
  small : q.wt.length ≤ 100 ∧ q.hd.length ≤ 100 ∧ q.dr.length ≤ 100

theorem play_law {c r : Int} {l : List Bool} (hok : okP c r l = true) : PlayQ c r l (plQ c r l) (plT c r l) := by
  have hq : plQ c r l = tq c r (plP c r l).1 := by unfold plQ; rw [hok]; rfl
  have hT : plT c r l = (plP c r l).2 := by unfold plT; rw [hok]; rfl
  have hr : okR c r = true := by
    unfold okP at hok
    rw [Bool.and_eq_true] at hok
    exact hok.1
  have hc : 1 ≤ c := by
    have h2 := hr
    unfold okR at h2
    simp at h2
    omega
  have hgd : ∀ k, GdM c (plP c r (l.take k)).1 := fun k => GdM.play hc _
  have hg : GdM c (plP c r l).1 := GdM.play hc _
  have hn : (tq c r (plP c r l).1).next = ((plP c r l).1.length : Int) := rfl
  have hl := hg.len
  rw [hq, hT]
  refine ⟨gq_tq hg hr, ?_, ⟨by rw [hn]; omega, by rw [hn]; omega⟩, plP_len c r l, fun k b hk h hh => ?_, fun k => ?_, by rw [List.take_length]; rfl, fun i hi => wh_tq hg hr (by rw [hn] at hi; omega), tq_lens hg⟩
  · rw [tq_sum r hg, hn, Int.toNat_natCast]
  · obtain ⟨t, h1, h2, h3, h4, h5⟩ := play_at (r := r) hc hk hh
    refine ⟨t, h1, h2, by omega, fun hb => ?_, fun hb => ?_⟩
    · obtain ⟨x1, x2, x3⟩ := h4 hb
      exact ⟨fun h0 => ⟨decide_eq_true (x1 h0).1, (x1 h0).2⟩, fun h0 => x2 (by omega), x3⟩
    · obtain ⟨x1, x2, x3⟩ := h5 hb
      exact ⟨x1, fun h0 => ⟨by have := (x2 h0).1; omega, decide_eq_true (x2 h0).2.1, (x2 h0).2.2⟩, fun h0 => x3 (by omega)⟩
  · have h1 := (hgd k).len
    have h2 := List.countP_le_length (p := (· == (3 : Int))) (l := (plP c r (l.take k)).1)
    rw [al_len]
    omega
end Qus

end Go.Proofs.Ytfkhbbmnjndmcaa
