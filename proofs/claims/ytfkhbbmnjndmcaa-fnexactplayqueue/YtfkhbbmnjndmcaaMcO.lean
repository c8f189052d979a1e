/- A machine that came in, opened: its rows lie in memory. -/
import Derived.Test.YtfkhbbmnjndmcaaMcM
namespace Go.Proofs.Ytfkhbbmnjndmcaa
open Go.RowKit Plain Mch

set_option maxRecDepth 100000 in
theorem open_bools {H : Type} {enc : TypeId × Value → H} {W : World} {m : Nat} {v0 : Value} {x : DataW H × List MemPlace}
    (hf : DataW.trod enc Try.prog W 0 (fun _ => true) true m 37 [v0] = some x) : ∃ l, EAt W W.heap.size v0 l := by
  have c3 : Try.prog.cellsOf 4 = 1 := by kernel_rfl
  rcases DataW.trod_slice Try.underlying37 hf with ⟨hcs, _⟩ | ⟨a, len, cap, elems, rest, m2, _, hcs, _, _, hlc, hcm, hel, hcell, _⟩
  · simp at hcs
    subst hcs
    exact ⟨[], none, 0, rfl, by simp, by unfold maxLen; omega, fun i hi => by simp at hi⟩
  · simp at hcs
    subst hcs
    rw [c3] at hcell
    have each : ∀ i, i < len → ∃ t : Bool, (a = ⟨a.block, a.off, none⟩ ∧ a.block < W.heap.size) ∧ W.cell? ⟨a.block, a.off + i, none⟩ = some (.bool t) := by
      intro i hi
      have h1 := hcell i hi
      rw [List.getElem?_eq_getElem (by omega), Option.bind_eq_some_iff] at h1
      obtain ⟨ci, hci, htr⟩ := h1
      obtain ⟨t, rfl, _⟩ := DataW.trod_bool Try.underlying4 htr
      obtain ⟨_, _, hcc⟩ := World.cells?_some hci
      have h00 := hcell 0 (by omega)
      rw [List.getElem?_eq_getElem (by omega), Option.bind_eq_some_iff] at h00
      obtain ⟨c0, hc0, htr0⟩ := h00
      obtain ⟨t0, rfl, _⟩ := DataW.trod_bool Try.underlying4 htr0
      obtain ⟨_, _, hcc0⟩ := World.cells?_some hc0
      have hz := hcc0 0 (by omega)
      have hz' : W.cell? a = some (.bool t0) := by simpa [Addr.add] using hz
      have hsp := spot_none hz'
      refine ⟨t, ⟨hsp, World.block_lt_of_cell? W a hz'⟩, ?_⟩
      have h2 := hcc 0 (by omega)
      rw [show (some (Value.bool t)) = [Value.bool t][0]? from rfl, ← h2]
      congr 1
      rw [hsp]
      unfold Addr.add
      by_cases h0 : i * 1 = 0
      · rw [if_pos h0]; simp; omega
      · rw [if_neg h0]; simp
    obtain ⟨l, hl, hP⟩ := pick_list each
    refine ⟨l, some a, cap, by rw [hl], by omega, hcm, fun i hi => ?_⟩
    have h1 := hP i (by omega)
    exact ⟨a.block, a.off, by rw [← h1.1.1], h1.1.2, h1.2⟩

set_option maxRecDepth 100000 in
theorem open_intsIn {H : Type} {enc : TypeId × Value → H} {W : World} {m : Nat} {cs : List Value} {x : DataW H × List MemPlace}
    (hf : DataW.trod enc Try.prog W 0 (fun _ => true) true m 22 cs = some x) : ∃ v l, cs = [v] ∧ ZAt W W.heap.size v l := by
  have c3 : Try.prog.cellsOf 3 = 1 := by kernel_rfl
  rcases DataW.trod_slice Try.underlying22 hf with ⟨hcs, _⟩ | ⟨a, len, cap, elems, rest, m2, _, hcs, _, _, hlc, hcm, hel, hcell, _⟩
  · subst hcs
    exact ⟨_, [], rfl, none, 0, rfl, by simp, by unfold maxLen; omega, fun i x hi => by simp at hi⟩
  · subst hcs
    rw [c3] at hcell
    have each : ∀ i, i < len → ∃ t : Int, (a = ⟨a.block, a.off, none⟩ ∧ a.block < W.heap.size) ∧ W.cell? ⟨a.block, a.off + i, none⟩ = some (.int .i64 t) := by
      intro i hi
      have h1 := hcell i hi
      rw [List.getElem?_eq_getElem (by omega), Option.bind_eq_some_iff] at h1
      obtain ⟨ci, hci, htr⟩ := h1
      obtain ⟨t, rfl, _⟩ := DataW.trod_int Try.underlying3 htr
      obtain ⟨_, _, hcc⟩ := World.cells?_some hci
      have h00 := hcell 0 (by omega)
      rw [List.getElem?_eq_getElem (by omega), Option.bind_eq_some_iff] at h00
      obtain ⟨c0, hc0, htr0⟩ := h00
      obtain ⟨t0, rfl, _⟩ := DataW.trod_int Try.underlying3 htr0
      obtain ⟨_, _, hcc0⟩ := World.cells?_some hc0
      have hz := hcc0 0 (by omega)
      have hz' : W.cell? a = some (.int .i64 t0) := by simpa [Addr.add] using hz
      have hsp := spot_none hz'
      refine ⟨t, ⟨hsp, World.block_lt_of_cell? W a hz'⟩, ?_⟩
      have h2 := hcc 0 (by omega)
      rw [show (some (Value.int .i64 t)) = [Value.int .i64 t][0]? from rfl, ← h2]
      congr 1
      rw [hsp]
      unfold Addr.add
      by_cases h0 : i * 1 = 0
      · rw [if_pos h0]; simp; omega
      · rw [if_neg h0]; simp
    obtain ⟨l, hl, hP⟩ := pick_list each
    refine ⟨_, l, rfl, some a, cap, by rw [hl], by omega, hcm, fun i x hi => ?_⟩
    have hil : i < l.length := (List.getElem?_eq_some_iff.1 hi).1
    have h1 := hP i (by omega)
    refine ⟨a.block, a.off, by rw [← h1.1.1], h1.1.2, ?_⟩
    rw [h1.2, List.getD_eq_getElem?_getD, hi]
    rfl

set_option maxRecDepth 100000 in
theorem open_intss {H : Type} {enc : TypeId × Value → H} {W : World} {m : Nat} {v0 : Value} {x : DataW H × List MemPlace}
    (hf : DataW.trod enc Try.prog W 0 (fun _ => true) true m 64 [v0] = some x) : ∃ M, MAt W W.heap.size v0 M := by
  have c24 : Try.prog.cellsOf 22 = 1 := by kernel_rfl
  rcases DataW.trod_slice Try.underlying64 hf with ⟨hcs, _⟩ | ⟨a, len0, cap0, elems, rest, m2, _, hcs, _, _, hlc, hcm, hel, hcell, _⟩
  · simp at hcs
    subst hcs
    exact ⟨[], none, 0, rfl, by simp, by unfold maxLen; omega, fun i hi => by simp at hi⟩
  · simp at hcs
    subst hcs
    rw [c24] at hcell
    have each : ∀ i, i < len0 → ∃ t : List Int, (a = ⟨a.block, a.off, none⟩ ∧ a.block < W.heap.size) ∧ ∃ u, W.cell? ⟨a.block, a.off + i, none⟩ = some u ∧ ZAt W W.heap.size u t := by
      intro i hi
      have h1 := hcell i hi
      rw [List.getElem?_eq_getElem (by omega), Option.bind_eq_some_iff] at h1
      obtain ⟨ci, hci, htr⟩ := h1
      obtain ⟨u, t, rfl, hs⟩ := open_intsIn htr
      obtain ⟨_, _, hcc⟩ := World.cells?_some hci
      have h00 := hcell 0 (by omega)
      rw [List.getElem?_eq_getElem (by omega), Option.bind_eq_some_iff] at h00
      obtain ⟨c0, hc0, htr0⟩ := h00
      obtain ⟨u0, t0, rfl, _⟩ := open_intsIn htr0
      obtain ⟨_, _, hcc0⟩ := World.cells?_some hc0
      have hz := hcc0 0 (by omega)
      have hz' : W.cell? a = some u0 := by simpa [Addr.add] using hz
      have hsp := spot_none hz'
      refine ⟨t, ⟨hsp, World.block_lt_of_cell? W a hz'⟩, u, ?_, hs⟩
      have h2 := hcc 0 (by omega)
      have h3 : W.cell? ⟨a.block, a.off + i, none⟩ = W.cell? ((a.add (i * 1)).add 0) := by
        congr 1
        conv => rhs; rw [hsp]
        unfold Addr.add
        by_cases h0 : i = 0
        · simp [h0]
        · simp [h0]
      rw [h3]
      simpa using h2
    obtain ⟨M, hM, hP⟩ := pick_list each
    refine ⟨M, some a, cap0, by rw [hM], by omega, hcm, fun i hi => ?_⟩
    have h1 := hP i (by omega)
    obtain ⟨u, hu, hs⟩ := h1.2
    exact ⟨a.block, a.off, u, by rw [← h1.1.1], h1.1.2, hu, hs⟩

end Go.Proofs.Ytfkhbbmnjndmcaa
