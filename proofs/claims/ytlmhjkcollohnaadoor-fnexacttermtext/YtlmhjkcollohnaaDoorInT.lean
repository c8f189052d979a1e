/- The terms of a term's own, in memory. -/
import Derived.Test.YtlmhjkcollohnaaDoorTmT
namespace Go.Proofs.YtlmhjkcollohnaaDoor
open Go.RowKit Plain Sch Trm

theorem TKids.len {d : Nat} {w : World} {S : Nat → Prop} {a : Option Addr} {n c : Nat} {l : List TT} (h : TKids d w S (.slice a n c) l) : n = l.length ∧ c ≤ maxLen := by
  obtain ⟨ao, cap, hf, hc⟩ := h.form
  simp only [Value.slice.injEq] at hf
  exact ⟨hf.2.1, by rw [hf.2.2]; exact hc⟩

/-- a term of a term's own, in memory -/
theorem TKids.kid {d : Nat} {w : World} {S : Nat → Prop} {a : Option Addr} {n c : Nat} {l : List TT} (h : TKids d w S (.slice a n c) l) (i : Nat) (t : TT) (hi : l[i]? = some t) : ∃ d' g o at_ lt ct, d = d' + 1 ∧ a = some ⟨g, o, Option.none⟩ ∧ S g ∧ n ≤ c ∧ TdIn w g (o + i * 3) t.v t.name (.slice at_ lt ct) ∧ TKids d' w S (.slice at_ lt ct) t.kids := by
  cases d with
  | zero =>
    obtain ⟨_, _, _, _, h⟩ := h
    rw [h] at hi
    simp at hi
  | succ d =>
    obtain ⟨ao, cap, hf, hlc, hcm, hrows⟩ := h
    simp only [Value.slice.injEq] at hf
    obtain ⟨rfl, rfl, rfl⟩ := hf
    obtain ⟨g, o, c', ha, hg, hn, hk⟩ := hrows i t hi
    obtain ⟨at_, ct, rfl, _⟩ := hk.form
    exact ⟨d, g, o, at_, t.kids.length, ct, rfl, ha, hg, hlc, hn, hk⟩

end Go.Proofs.YtlmhjkcollohnaaDoor
