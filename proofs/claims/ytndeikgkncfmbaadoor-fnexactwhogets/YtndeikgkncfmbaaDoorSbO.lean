/- Subs that came in, opened: its cells lie in memory. -/
import Derived.Test.YtndeikgkncfmbaaDoorLwO
import Derived.Test.YtndeikgkncfmbaaDoorSbM
namespace Go.Proofs.YtndeikgkncfmbaaDoor
open Go.RowKit Plain Tpc

set_option maxRecDepth 100000 in
theorem open_sub {H : Type} {enc : TypeId × Value → H} {W : World} {base : Nat} {sp : Nat → Bool} {hd : Bool} {m : Nat} {cs : List Value} {x : DataW H × List MemPlace}
    (h : DataW.trod enc Tryd.prog W base sp hd m 63 cs = some x) : ∃ t : Sb, cs = t.cells ∧ t.pat.size ≤ maxLen := by
  obtain ⟨xs, m1, rfl, rfl, hlen, hn, hf⟩ := DataW.trod_struct Tryd.underlying63 h
  have c3 : Tryd.prog.cellsOf 3 = 1 := by kernel_rfl
  have c9 : Tryd.prog.cellsOf 9 = 1 := by kernel_rfl
  have c75 : Tryd.prog.cellsOf 63 = 2 := by kernel_rfl
  rw [c75] at hlen
  have f0 : DataW.trod enc Tryd.prog W base sp hd m1 9 ((cs.drop 0).take (Tryd.prog.cellsOf 9)) = xs[0]? := hf 0 _ rfl
  have f1 : DataW.trod enc Tryd.prog W base sp hd m1 3 ((cs.drop 1).take (Tryd.prog.cellsOf 3)) = xs[1]? := hf 1 _ rfl
  rw [c9] at f0
  rw [c3] at f1
  match xs, hn with
  | [x0, x1], _ =>
    match cs, hlen with
    | [k0, k1], _ =>
      obtain ⟨n0, e0, _, hs⟩ := DataW.trod_string Tryd.underlying9 (show DataW.trod _ _ _ _ _ _ _ _ _ = some x0 from f0)
      obtain ⟨n1, e1, _⟩ := DataW.trod_int Tryd.underlying3 (show DataW.trod _ _ _ _ _ _ _ _ _ = some x1 from f1)
      simp at e0 e1
      exact ⟨⟨n0, n1⟩, by rw [e0, e1]; rfl, hs⟩

set_option maxRecDepth 100000 in
theorem open_subs {H : Type} {enc : TypeId × Value → H} {W : World} {v0 : Value} {d0 : DataW H} {p0 : List MemPlace}
    (h0 : DataW.Trod enc Tryd.prog W 0 (fun _ => true) true 30 v0 d0 p0) (hc : v0.cells = #[v0]) : ∃ T, SbsAt W W.heap.size v0 T := by
  have c75 : Tryd.prog.cellsOf 63 = 2 := by kernel_rfl
  obtain ⟨fuel, hf⟩ := h0
  rw [hc] at hf
  rcases DataW.trod_slice Tryd.underlying30 hf with ⟨hcs, _⟩ | ⟨a, len, cap, elems, rest, m2, _, hcs, _, _, hlc, hcm, hel, hcell, _⟩
  · simp at hcs
    subst hcs
    exact ⟨[], none, 0, rfl, by simp, by unfold maxLen; omega, fun i hi => by simp at hi, fun i hi => by simp at hi⟩
  · simp at hcs
    subst hcs
    rw [c75] at hcell
    have each : ∀ i, i < len → ∃ t : Sb, (a = ⟨a.block, a.off, none⟩ ∧ a.block < W.heap.size) ∧ SbIn W a.block (a.off + i * 2) t ∧ t.pat.size ≤ maxLen := by
      intro i hi
      have h1 := hcell i hi
      rw [List.getElem?_eq_getElem (by omega), Option.bind_eq_some_iff] at h1
      obtain ⟨ci, hci, htr⟩ := h1
      obtain ⟨t, rfl, hnm⟩ := open_sub htr
      obtain ⟨_, _, hc⟩ := World.cells?_some hci
      have h00 := hcell 0 (by omega)
      rw [List.getElem?_eq_getElem (by omega), Option.bind_eq_some_iff] at h00
      obtain ⟨c0, hc0, htr0⟩ := h00
      obtain ⟨t0, rfl, _⟩ := open_sub htr0
      obtain ⟨_, _, hcc0⟩ := World.cells?_some hc0
      have hz := hcc0 0 (by omega)
      have hz' : W.cell? a = some (.string t0.pat) := by simpa [Addr.add, Sb.cells] using hz
      have hsp := spot_none hz'
      refine ⟨t, ⟨hsp, World.block_lt_of_cell? W a hz'⟩, ?_, hnm⟩
      have key : ∀ j, j < 2 → W.cell? ⟨a.block, a.off + i * 2 + j, none⟩ = t.cells[j]? := by
        intro j hj
        have h2 := hc j hj
        rw [← h2]
        congr 1
        rw [hsp]
        unfold Addr.add
        by_cases h0 : i * 2 = 0
        · rw [if_pos h0]
          by_cases hj0 : j = 0
          · rw [if_pos hj0]; simp; omega
          · rw [if_neg hj0]; simp
        · rw [if_neg h0]
          by_cases hj0 : j = 0
          · rw [if_pos hj0]; simp
          · rw [if_neg hj0]
      exact ⟨key 0 (by omega), key 1 (by omega)⟩
    obtain ⟨T, hT, hP⟩ := pick_list each
    refine ⟨T, some a, cap, by rw [hT], by omega, hcm, fun i hi => ?_, fun i hi => (hP i (by omega)).2.2⟩
    have h1 := hP i (by omega)
    exact ⟨a.block, a.off, by rw [← h1.1.1], h1.1.2, h1.2.1⟩

end Go.Proofs.YtndeikgkncfmbaaDoor
