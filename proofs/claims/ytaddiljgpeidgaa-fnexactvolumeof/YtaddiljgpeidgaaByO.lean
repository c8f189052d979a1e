/- A list of boxes that came in, opened: they lie in memory. -/
import Derived.Test.YtaddiljgpeidgaaBxO
import Derived.Test.YtaddiljgpeidgaaByM
namespace Go.Proofs.Ytaddiljgpeidgaa
open Go.RowKit Plain Sch Bxs

set_option maxRecDepth 100000 in
theorem open_boxIn {H : Type} {enc : TypeId × Value → H} {W : World} {m : Nat} {cs : List Value} {x : DataW H × List MemPlace}
    (hf : DataW.trod enc Try.prog W 0 (fun _ => true) true m 24 cs = some x) : ∃ v T, cs = [v] ∧ SdsAt W W.heap.size v T := by
  have c24 : Try.prog.cellsOf 24 = 1 := by kernel_rfl
  have c22 : Try.prog.cellsOf 22 = 1 := by kernel_rfl
  have c75 : Try.prog.cellsOf 106 = 2 := by kernel_rfl
  obtain ⟨xs0, m0, _, _, hsz, _, _⟩ := DataW.trod_struct Try.underlying24 hf
  rw [c24] at hsz
  match cs, hsz with
  | [v], _ =>
    refine ⟨v, ?_⟩
    obtain ⟨xs, m1, rfl, _, _, hn, hff⟩ := DataW.trod_struct Try.underlying24 hf
    have f0 : DataW.trod enc Try.prog W 0 (fun _ => true) true m1 22 ((([v] : List Value).drop 0).take (Try.prog.cellsOf 22)) = xs[0]? := hff 0 _ rfl
    rw [c22] at f0
    match xs, hn with
    | [x0], _ =>
      rcases DataW.trod_slice Try.underlying22 (show DataW.trod _ _ _ _ _ _ _ _ _ = some x0 from f0) with ⟨hcs, _⟩ | ⟨a, len, cap, elems, rest, m2, _, hcs, _, _, hlc, hcm, hel, hcell, _⟩
      · simp at hcs
        subst hcs
        exact ⟨[], rfl, none, 0, rfl, by simp, by unfold maxLen; omega, fun i hi => by simp at hi⟩
      · simp at hcs
        subst hcs
        rw [c75] at hcell
        have each : ∀ i, i < len → ∃ t : Sd, (a = ⟨a.block, a.off, none⟩ ∧ a.block < W.heap.size) ∧ SdIn W a.block (a.off + i * 2) t := by
          intro i hi
          have h1 := hcell i hi
          rw [List.getElem?_eq_getElem (by omega), Option.bind_eq_some_iff] at h1
          obtain ⟨ci, hci, htr⟩ := h1
          obtain ⟨t, rfl⟩ := open_side htr
          obtain ⟨_, _, hc⟩ := World.cells?_some hci
          have h00 := hcell 0 (by omega)
          rw [List.getElem?_eq_getElem (by omega), Option.bind_eq_some_iff] at h00
          obtain ⟨c0, hc0, htr0⟩ := h00
          obtain ⟨t0, rfl⟩ := open_side htr0
          obtain ⟨_, _, hcc0⟩ := World.cells?_some hc0
          have hz := hcc0 0 (by omega)
          have hz' : W.cell? a = some (.int .i64 t0.lo) := by simpa [Addr.add, Sd.cells] using hz
          have hsp := spot_none hz'
          refine ⟨t, ⟨hsp, World.block_lt_of_cell? W a hz'⟩, ?_⟩
          have key : ∀ j, j < 2 → W.cell? ⟨a.block, a.off + i * 2 + j, none⟩ = t.cells[j]? := by
            intro j hj
            have h2 := hc j hj
            rw [← h2]
            congr 1
            rw [hsp]
            unfold Addr.add
            by_cases h0 : i * 2 = 0
            · rw [if_pos h0]
              by_cases hj0 : j = 0
              · rw [if_pos hj0]; simp; omega
              · rw [if_neg hj0]; simp
            · rw [if_neg h0]
              by_cases hj0 : j = 0
              · rw [if_pos hj0]; simp
              · rw [if_neg hj0]
          exact ⟨key 0 (by omega), key 1 (by omega)⟩
        obtain ⟨T, hT, hP⟩ := pick_list each
        refine ⟨T, rfl, some a, cap, by rw [hT], by omega, hcm, fun i hi => ?_⟩
        have h1 := hP i (by omega)
        exact ⟨a.block, a.off, by rw [← h1.1.1], h1.1.2, h1.2⟩


set_option maxRecDepth 100000 in
theorem open_boxes {H : Type} {enc : TypeId × Value → H} {W : World} {base : Nat} {v0 : Value} {d0 : DataW H} {p0 : List MemPlace} (hok : Value.okWide Try.prog W .any base 44 v0)
    (h0 : DataW.Trod enc Try.prog W 0 (fun _ => true) true 44 v0 d0 p0) : ∃ M, BxsAt W W.heap.size v0 M := by
  obtain ⟨a0, len0, cap0, rfl⟩ := Go.WideShapes.okWide_slice Try.underlying44 hok
  have c24 : Try.prog.cellsOf 24 = 1 := by kernel_rfl
  obtain ⟨fuel, hf⟩ := h0
  have hc : (Value.slice a0 len0 cap0).cells = #[Value.slice a0 len0 cap0] := rfl
  rw [hc] at hf
  rcases DataW.trod_slice Try.underlying44 hf with ⟨hcs, _⟩ | ⟨a, len, cap, elems, rest, m2, _, hcs, _, _, hlc, hcm, hel, hcell, _⟩
  · simp at hcs
    obtain ⟨rfl, rfl, rfl⟩ := hcs
    exact ⟨[], none, 0, rfl, by simp, by unfold maxLen; omega, fun i hi => by simp at hi⟩
  · simp at hcs
    obtain ⟨rfl, rfl, rfl⟩ := hcs
    rw [c24] at hcell
    have each : ∀ i, i < len0 → ∃ t : List Sd, (a = ⟨a.block, a.off, none⟩ ∧ a.block < W.heap.size) ∧ ∃ u, W.cell? ⟨a.block, a.off + i, none⟩ = some u ∧ SdsAt W W.heap.size u t := by
      intro i hi
      have h1 := hcell i hi
      rw [List.getElem?_eq_getElem (by omega), Option.bind_eq_some_iff] at h1
      obtain ⟨ci, hci, htr⟩ := h1
      obtain ⟨u, t, rfl, hs⟩ := open_boxIn htr
      obtain ⟨_, _, hcc⟩ := World.cells?_some hci
      have h00 := hcell 0 (by omega)
      rw [List.getElem?_eq_getElem (by omega), Option.bind_eq_some_iff] at h00
      obtain ⟨c0, hc0, htr0⟩ := h00
      obtain ⟨u0, t0, rfl, _⟩ := open_boxIn htr0
      obtain ⟨_, _, hcc0⟩ := World.cells?_some hc0
      have hz := hcc0 0 (by omega)
      have hz' : W.cell? a = some u0 := by simpa [Addr.add] using hz
      have hsp := spot_none hz'
      refine ⟨t, ⟨hsp, World.block_lt_of_cell? W a hz'⟩, u, ?_, hs⟩
      have h2 := hcc 0 (by omega)
      have h3 : W.cell? ⟨a.block, a.off + i, none⟩ = W.cell? ((a.add (i * 1)).add 0) := by
        congr 1
        conv => rhs; rw [hsp]
        unfold Addr.add
        by_cases h0 : i = 0
        · simp [h0]
        · simp [h0]
      rw [h3]
      simpa using h2
    obtain ⟨M, hM, hP⟩ := pick_list each
    refine ⟨M, some a, cap0, by rw [hM], by omega, hcm, fun i hi => ?_⟩
    have h1 := hP i (by omega)
    obtain ⟨u, hu, hs⟩ := h1.2
    exact ⟨a.block, a.off, u, by rw [← h1.1.1], h1.1.2, hu, hs⟩

end Go.Proofs.Ytaddiljgpeidgaa
