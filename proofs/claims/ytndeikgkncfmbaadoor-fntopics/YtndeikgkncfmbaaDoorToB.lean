/- What holds between topics and patterns: what takes in takes in what fits; what two fit meets. -/
import Derived.Test.YtndeikgkncfmbaaDoorToA
namespace Go.Proofs.YtndeikgkncfmbaaDoor
open Plain

namespace Tpc

theorem eqT_refl (x : ByteArray) : eqT x x = true := (eqT_iff x x).2 rfl
theorem eqT_comm (x y : ByteArray) : eqT x y = eqT y x := by
  rw [Bool.eq_iff_iff, eqT_iff, eqT_iff]
  exact ⟨Eq.symm, Eq.symm⟩

theorem cvs_refl : ∀ P : List ByteArray, cvs P P = true
  | [] => rfl
  | p :: ps => by
    unfold cvs
    cases h : isH p with
    | true => rfl
    | false =>
      simp only [cvs_refl ps, eqT_refl, h]
      simp

theorem mts_comm : ∀ P T : List ByteArray, mts P T = mts T P
  | [], [] => rfl
  | [], _ :: _ => rfl
  | _ :: _, [] => rfl
  | p :: ps, x :: xs => by
    rw [mts, mts, mts_comm ps xs, eqT_comm p x, Bool.or_comm (isH p), Bool.or_comm (isP p)]

theorem cvs_mts : ∀ P T : List ByteArray, cvs P T = true → mts P T = true
  | [], [], _ => rfl
  | [], _ :: _, h => by simp [cvs] at h
  | p :: ps, [], h => by
    unfold cvs at h
    unfold mts
    cases hp : isH p with
    | true => rfl
    | false => rw [hp] at h; simp at h
  | p :: ps, x :: xs, h => by
    unfold mts
    by_cases hh : (isH p || isH x) = true
    · rw [if_pos hh]
    · rw [if_neg hh]
      rw [Bool.not_eq_true, Bool.or_eq_false_iff] at hh
      unfold cvs at h
      rw [hh.1] at h
      simp only [hh.2, Bool.not_false, Bool.true_and, Bool.and_eq_true, Bool.false_eq_true, if_false] at h
      rw [cvs_mts ps xs h.2]
      rcases Bool.or_eq_true_iff.1 h.1 with a | a <;> rw [a] <;> simp

theorem cvs_fts : ∀ P Q T : List ByteArray, cvs P Q = true → fts Q T = true → fts P T = true
  | [], [], _, _, h => h
  | [], _ :: _, _, h, _ => by simp [cvs] at h
  | p :: ps, Q, T, h, k => by
    cases hp : isH p with
    | true => unfold fts; rw [hp]; rfl
    | false =>
      cases Q with
      | nil => unfold cvs at h; rw [hp] at h; simp at h
      | cons q qs =>
        unfold cvs at h
        simp only [hp, Bool.and_eq_true, Bool.false_eq_true, if_false] at h
        obtain ⟨⟨hq, hpq⟩, hrest⟩ := h
        rw [Bool.not_eq_true'] at hq
        cases T with
        | nil => unfold fts at k; rw [hq] at k; simp at k
        | cons x xs =>
          unfold fts at k
          simp only [hq, Bool.and_eq_true, Bool.false_eq_true, if_false] at k
          unfold fts
          simp only [hp, Bool.and_eq_true, Bool.false_eq_true, if_false]
          refine ⟨?_, cvs_fts ps qs xs hrest k.2⟩
          rcases Bool.or_eq_true_iff.1 hpq with a | a
          · rw [a]; rfl
          · rw [eqT_iff] at a
            rw [a]
            exact k.1

theorem fts_mts : ∀ P Q T : List ByteArray, fts P T = true → fts Q T = true → mts P Q = true
  | [], [], _, _, _ => rfl
  | [], q :: qs, T, h, k => by
    cases T with
    | nil =>
      unfold fts at k
      unfold mts
      cases hq : isH q with
      | true => rfl
      | false => rw [hq] at k; simp at k
    | cons x xs => simp [fts] at h
  | p :: ps, [], T, h, k => by
    cases T with
    | nil =>
      unfold fts at h
      unfold mts
      cases hq : isH p with
      | true => rfl
      | false => rw [hq] at h; simp at h
    | cons x xs => simp [fts] at k
  | p :: ps, q :: qs, T, h, k => by
    unfold mts
    by_cases hh : (isH p || isH q) = true
    · rw [if_pos hh]
    · rw [if_neg hh]
      rw [Bool.not_eq_true, Bool.or_eq_false_iff] at hh
      cases T with
      | nil => unfold fts at h; rw [hh.1] at h; simp at h
      | cons x xs =>
        unfold fts at h k
        simp only [hh.1, hh.2, Bool.and_eq_true, Bool.false_eq_true, if_false] at h k
        rw [fts_mts ps qs xs h.2 k.2]
        rcases Bool.or_eq_true_iff.1 h.1 with a | a
        · rw [a]; rfl
        · rcases Bool.or_eq_true_iff.1 k.1 with b | b
          · rw [b]; simp
          · rw [eqT_iff] at a b
            rw [a, b, eqT_refl]
            simp

end Tpc
end Go.Proofs.YtndeikgkncfmbaaDoor
