/- Lists of texts in memory; the model's l1In. -/
import Derived.Test.YtnlppeieccbhgaaRows
import Derived.Test.YtnlppeieccbhgaaToA
import Derived.Lib.Slices
import Derived.Lib.SmallJoins
import Derived.OwnWalk
import Derived.WalkKit
import Derived.ProofKit
import Derived.Deep.QuietTactic
import Derived.BigQuiet
import Derived.WalkSpells
import Derived.Deep.AppendLies
import Derived.Deep.RegionWith
import Derived.Lib.Hide
namespace Go.Proofs.Ytnlppeieccbhgaa
open Go.RowKit Plain Tpc

def strs (L : List ByteArray) : List Value := L.map Value.string

/-- a slice of texts, in blocks below B -/
def StAt (w : World) (B : Nat) (v : Value) (L : List ByteArray) : Prop :=
  ∃ ao cap, v = .slice ao L.length cap ∧ L.length ≤ cap ∧ cap ≤ maxLen ∧ ∀ i, i < L.length → ∃ g o, ao = some ⟨g, o, none⟩ ∧ g < B ∧ w.cell? ⟨g, o + i, none⟩ = some (.string (lq L i))

theorem StAt.below {w w' : World} {v : Value} {L : List ByteArray} {B : Nat} (h : StAt w B v L) (hb : Below B w w') (hB : B ≤ w.heap.size := by exact Nat.le_refl _) : StAt w' w'.heap.size v L := by
  obtain ⟨ao, cap, hv, hm, hc, hr⟩ := h
  refine ⟨ao, cap, hv, hm, hc, fun i hi => ?_⟩
  obtain ⟨g, o, ha, hg, c⟩ := hr i hi
  have := hb.size
  exact ⟨g, o, ha, by omega, (hb.cell (p := ⟨g, o + i, none⟩) hg).trans c⟩

def StRow (w : World) (B : Nat) (v : Value) (L : List ByteArray) : Prop := w.ownsRow B 9 1 v L.length (strs L)

theorem StAt.own {w : World} {B : Nat} {v : Value} {L : List ByteArray} (h : StRow w B v L) : StAt w w.heap.size v L := by
  have h0 := h
  obtain ⟨_, ⟨rfl, hn⟩ | ⟨g, cap, cur, rfl, hB, hb, hnc, hcm, _⟩⟩ := h
  · have : L = [] := List.length_eq_zero_iff.1 hn
    subst this
    exact ⟨none, 0, rfl, by simp, by unfold maxLen; omega, fun i hi => by simp at hi⟩
  · refine ⟨some ⟨g, 0, none⟩, cap, rfl, hnc, hcm, fun i hi => ⟨g, 0, rfl, (World.ownsRow.lt h0 g rfl).2, ?_⟩⟩
    have := World.ownsRow.cellAt h0 i (by omega)
    rw [Nat.zero_add, this]
    simp [strs, lq_at hi]

theorem StRow.slice {w : World} {B : Nat} {v : Value} {L : List ByteArray} (h : StRow w B v L) : ∃ ao cap, v = Value.slice ao L.length cap := by
  rcases h.2 with ⟨rfl, h0⟩ | ⟨g, cap, _, rfl, _⟩
  · exact ⟨none, 0, by rw [h0]⟩
  · exact ⟨_, _, rfl⟩

theorem StRow.below {w w' : World} {B : Nat} {v : Value} {L : List ByteArray} (h : StRow w B v L) (hb : Below w.heap.size w w') : StRow w' B v L := by
  refine ⟨h.1, ?_⟩
  rcases h.2 with hn | ⟨g, cap, cur, hv, hg, hgg, rest⟩
  · exact .inl hn
  · exact .inr ⟨g, cap, cur, hv, hg, (hb.block g (Array.getElem?_eq_some_iff.1 hgg).1).trans hgg, rest⟩

/-- the first so many taken away -/
theorem StAt.drop {w : World} {B : Nat} {L : List ByteArray} {ao : Option Addr} {n cap k : Nat} (h : StAt w B (.slice ao n cap) L) (hk : k ≤ L.length) (ao' : Option Addr) (h' : k < L.length → ∀ g o, ao = some ⟨g, o, none⟩ → ao' = some ⟨g, o + k, none⟩) : StAt w B (.slice ao' (n - k) (cap - k)) (L.drop k) := by
  obtain ⟨a, c, hv, hm, hc, hr⟩ := h
  simp only [Value.slice.injEq] at hv
  obtain ⟨rfl, rfl, rfl⟩ := hv
  refine ⟨ao', cap - k, by rw [List.length_drop], by rw [List.length_drop]; omega, by omega, fun i hi => ?_⟩
  rw [List.length_drop] at hi
  obtain ⟨g, o, ha, hg, cc⟩ := hr (k + i) (by omega)
  refine ⟨g, o + k, h' (by omega) g o ha, hg, ?_⟩
  rw [show o + k + i = o + (k + i) by omega, cc]
  unfold lq
  rw [List.getD_eq_getElem?_getD, List.getD_eq_getElem?_getD, List.getElem?_drop]

theorem below_drewT {B n : Nat} {a w : World} (h : Below B a w) : Below B a (w.drewN n) := ⟨h.os, h.tape, h.output, h.size, h.block⟩

theorem infoStr : (Try.prog.info? 9).map (fun i => (i.zero, i.size, i.bytes)) = some (some (.string ByteArray.empty), 1, 16) := by kernel_rfl

set_option maxRecDepth 100000 in
set_option maxHeartbeats 1000000 in
theorem l1InT (n lo hi : Int) (w : World) :
    Calls Try.prog 59 #[.int .i64 n, .int .i64 lo, .int .i64 hi] w fun e w' => e = .returned (.bool (decide (lo ≤ n ∧ n ≤ hi))) ∧ w' = w := by
  by_cases h1 : lo ≤ n
  · by_cases h2 : n ≤ hi
    · have hd : decide (lo ≤ n ∧ n ≤ hi) = true := by simp [h1, h2]
      rw [hd]
      clear hd
      go_enter Try.func59, Try.ntmps59
      go_wp2
      go_ret
      exact ⟨rfl, rfl⟩
    · have hd : decide (lo ≤ n ∧ n ≤ hi) = false := by simp [h2]
      rw [hd]
      have h2' : decide (n ≤ hi) = false := by simpa using h2
      clear hd h2
      go_enter Try.func59, Try.ntmps59
      go_wp2
      go_ret
      exact ⟨rfl, rfl⟩
  · have hd : decide (lo ≤ n ∧ n ≤ hi) = false := by simp [h1]
    rw [hd]
    have h1' : decide (lo ≤ n) = false := by simpa using h1
    clear hd h1
    go_enter Try.func59, Try.ntmps59
    go_wp2
    go_ret
    exact ⟨rfl, rfl⟩

end Go.Proofs.Ytnlppeieccbhgaa
