/- A schema that came in, opened: its types lie in memory. -/
import Derived.Test.YtfkhbbmnjndmcaaGb
import Derived.OpenShut
import Derived.Carry
namespace Go.Proofs.Ytfkhbbmnjndmcaa
open Go.RowKit Plain Sch

theorem spot_none {w : World} {a : Addr} {u : Value} (h : w.cell? a = some u) : a = ⟨a.block, a.off, none⟩ := by
  unfold World.cell? at h
  split at h
  · split at h
    · cases h
    · rename_i hs
      cases a with
      | mk b o s =>
        cases s with
        | none => rfl
        | some x => simp at hs
  · cases h

theorem pick_list {α : Type} [Inhabited α] {n : Nat} {P : Nat → α → Prop} (h : ∀ i, i < n → ∃ t, P i t) : ∃ l : List α, l.length = n ∧ ∀ i, i < n → P i (l.getD i default) := by
  induction n with
  | zero => exact ⟨[], rfl, fun i hi => by omega⟩
  | succ n ih =>
    obtain ⟨l, hl, hp⟩ := ih (fun i hi => h i (by omega))
    obtain ⟨t, ht⟩ := h n (by omega)
    refine ⟨l ++ [t], by simp [hl], fun i hi => ?_⟩
    by_cases hin : i = n
    · subst hin
      simpa [List.getD, hl] using ht
    · have := hp i (by omega)
      simpa [List.getD, List.getElem?_append_left (show i < l.length by omega)] using this

end Go.Proofs.Ytfkhbbmnjndmcaa
