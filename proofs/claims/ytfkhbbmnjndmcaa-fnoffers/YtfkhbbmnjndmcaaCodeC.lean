/- From a slice of bytes that came in to what the draws ask of it. -/
import Derived.Test.YtfkhbbmnjndmcaaGn
import Derived.OpenShut
namespace Go.Proofs.Ytfkhbbmnjndmcaa
open Go.RowKit

theorem code_of_cells {w : World} {x : Addr} {len : Nat} {zs : List Int} (hl : len ≤ zs.length) (hc : ∀ i, i < zs.length → w.cell? (x.add i) = some (.int .u8 (zs.getD i 0))) (hw : ∀ n ∈ zs, (Lit.int .u8 n).wf = true) (h : len ≤ 1048576) : CodeAt w (some x) len := by
  refine ⟨h, fun hz => ?_⟩
  obtain ⟨ab, o, sp⟩ := x
  have h0 := hc 0 (by omega)
  have hsp : sp = none := by simpa [Addr.add] using World.cell?_spot h0
  subst hsp
  refine ⟨ab, o, rfl, World.block_lt_of_cell? w _ h0, fun i hi => ?_⟩
  have hi' : i < zs.length := by omega
  have hci := hc i hi'
  have hmem : zs.getD i 0 ∈ zs := by rw [List.getD_eq_getElem?_getD, List.getElem?_eq_getElem hi']; exact List.getElem_mem hi'
  have hwf := hw _ hmem
  generalize zs.getD i 0 = n at hci hwf
  have hb : 0 ≤ n ∧ n ≤ 255 := bounds_u8 hwf
  obtain ⟨y, rfl⟩ := Int.eq_ofNat_of_zero_le hb.1
  refine ⟨y, by omega, ?_⟩
  by_cases h0 : i = 0
  · subst h0; simpa [Addr.add] using hci
  · simpa [Addr.add, h0] using hci

def IsRow (k : IntKind) (w : World) (a : Option Addr) (len cap : Nat) (zs : List Int) : Prop :=
  (a = none ∧ len = 0 ∧ cap = 0 ∧ zs = []) ∨
  ∃ x, a = some x ∧ len ≤ cap ∧ cap ≤ maxLen ∧ zs.length = cap ∧ (∀ i, i < zs.length → w.cell? (x.add i) = some (.int k (zs.getD i 0))) ∧ ∀ n ∈ zs, (Lit.int k n).wf = true

theorem code_of_row {w : World} {a : Option Addr} {len cap : Nat} {zs : List Int} (h : IsRow .u8 w a len cap zs) (hl : len ≤ 1048576) : CodeAt w a len := by
  rcases h with ⟨rfl, rfl, rfl, rfl⟩ | ⟨x, rfl, h1, h2, h3, h4, h5⟩
  · exact ⟨hl, fun hz => by omega⟩
  · exact code_of_cells (by omega) h4 h5 hl

end Go.Proofs.Ytfkhbbmnjndmcaa
