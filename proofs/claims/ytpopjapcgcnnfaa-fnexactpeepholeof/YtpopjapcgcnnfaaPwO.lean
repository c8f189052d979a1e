/- A Program that came in, opened: its cells lie in memory. -/
import Derived.Test.YtpopjapcgcnnfaaLwO
import Derived.Test.YtpopjapcgcnnfaaPwM
namespace Go.Proofs.Ytpopjapcgcnnfaa
open Go.RowKit Plain Sch Prg

set_option maxRecDepth 100000 in
theorem open_instr {H : Type} {enc : TypeId × Value → H} {W : World} {base : Nat} {sp : Nat → Bool} {hd : Bool} {m : Nat} {cs : List Value} {x : DataW H × List MemPlace}
    (h : DataW.trod enc Try.prog W base sp hd m 132 cs = some x) : ∃ t : Ins, cs = t.cells ∧ t.text.size ≤ maxLen := by
  obtain ⟨xs, m1, rfl, rfl, hlen, hn, hf⟩ := DataW.trod_struct Try.underlying132 h
  have c3 : Try.prog.cellsOf 3 = 1 := by kernel_rfl
  have c9 : Try.prog.cellsOf 9 = 1 := by kernel_rfl
  have c75 : Try.prog.cellsOf 132 = 6 := by kernel_rfl
  rw [c75] at hlen
  have f0 : DataW.trod enc Try.prog W base sp hd m1 3 ((cs.drop 0).take (Try.prog.cellsOf 3)) = xs[0]? := hf 0 _ rfl
  have f1 : DataW.trod enc Try.prog W base sp hd m1 3 ((cs.drop 1).take (Try.prog.cellsOf 3)) = xs[1]? := hf 1 _ rfl
  have f2 : DataW.trod enc Try.prog W base sp hd m1 3 ((cs.drop 2).take (Try.prog.cellsOf 3)) = xs[2]? := hf 2 _ rfl
  have f3 : DataW.trod enc Try.prog W base sp hd m1 3 ((cs.drop 3).take (Try.prog.cellsOf 3)) = xs[3]? := hf 3 _ rfl
  have f4 : DataW.trod enc Try.prog W base sp hd m1 9 ((cs.drop 4).take (Try.prog.cellsOf 9)) = xs[4]? := hf 4 _ rfl
  have f5 : DataW.trod enc Try.prog W base sp hd m1 3 ((cs.drop 5).take (Try.prog.cellsOf 3)) = xs[5]? := hf 5 _ rfl
  rw [c3] at f0 f1 f2 f3 f5
  rw [c9] at f4
  match xs, hn with
  | [x0, x1, x2, x3, x4, x5], _ =>
    match cs, hlen with
    | [k0, k1, k2, k3, k4, k5], _ =>
      obtain ⟨n0, e0, _⟩ := DataW.trod_int Try.underlying3 (show DataW.trod _ _ _ _ _ _ _ _ _ = some x0 from f0)
      obtain ⟨n1, e1, _⟩ := DataW.trod_int Try.underlying3 (show DataW.trod _ _ _ _ _ _ _ _ _ = some x1 from f1)
      obtain ⟨n2, e2, _⟩ := DataW.trod_int Try.underlying3 (show DataW.trod _ _ _ _ _ _ _ _ _ = some x2 from f2)
      obtain ⟨n3, e3, _⟩ := DataW.trod_int Try.underlying3 (show DataW.trod _ _ _ _ _ _ _ _ _ = some x3 from f3)
      obtain ⟨n4, e4, _, hs⟩ := DataW.trod_string Try.underlying9 (show DataW.trod _ _ _ _ _ _ _ _ _ = some x4 from f4)
      obtain ⟨n5, e5, _⟩ := DataW.trod_int Try.underlying3 (show DataW.trod _ _ _ _ _ _ _ _ _ = some x5 from f5)
      simp at e0 e1 e2 e3 e4 e5
      exact ⟨⟨n0, n1, n2, n3, n4, n5⟩, by rw [e0, e1, e2, e3, e4, e5]; rfl, hs⟩

set_option maxRecDepth 100000 in
theorem open_program {H : Type} {enc : TypeId × Value → H} {W : World} {base : Nat} {v0 : Value} {d0 : DataW H} {p0 : List MemPlace} (hok : Value.okWide Try.prog W .any base 24 v0)
    (h0 : DataW.Trod enc Try.prog W 0 (fun _ => true) true 24 v0 d0 p0) : ∃ v T, v0 = .agg #[v] ∧ InsAt W W.heap.size v T := by
  unfold Value.okWide at hok
  rw [Try.underlying24] at hok
  obtain ⟨cs, rfl, hsz, _⟩ := hok
  have c24 : Try.prog.cellsOf 24 = 1 := by kernel_rfl
  have c22 : Try.prog.cellsOf 22 = 1 := by kernel_rfl
  have c75 : Try.prog.cellsOf 132 = 6 := by kernel_rfl
  rw [c24] at hsz
  obtain ⟨fuel, hf⟩ := h0
  obtain ⟨l⟩ := cs
  match l, hsz with
  | [v], _ =>
    refine ⟨v, ?_⟩
    obtain ⟨xs, m1, rfl, _, _, hn, hff⟩ := DataW.trod_struct Try.underlying24 hf
    have f0 : DataW.trod enc Try.prog W 0 (fun _ => true) true m1 22 ((([v] : List Value).drop 0).take (Try.prog.cellsOf 22)) = xs[0]? := hff 0 _ rfl
    rw [c22] at f0
    match xs, hn with
    | [x0], _ =>
      rcases DataW.trod_slice Try.underlying22 (show DataW.trod _ _ _ _ _ _ _ _ _ = some x0 from f0) with ⟨hcs, _⟩ | ⟨a, len, cap, elems, rest, m2, _, hcs, _, _, hlc, hcm, hel, hcell, _⟩
      · simp at hcs
        subst hcs
        exact ⟨[], rfl, none, 0, rfl, by simp, by unfold maxLen; omega, fun i hi => by simp at hi, fun i hi => by simp at hi⟩
      · simp at hcs
        subst hcs
        rw [c75] at hcell
        have each : ∀ i, i < len → ∃ t : Ins, (a = ⟨a.block, a.off, none⟩ ∧ a.block < W.heap.size) ∧ InsIn W a.block (a.off + i * 6) t ∧ t.text.size ≤ maxLen := by
          intro i hi
          have h1 := hcell i hi
          rw [List.getElem?_eq_getElem (by omega), Option.bind_eq_some_iff] at h1
          obtain ⟨ci, hci, htr⟩ := h1
          obtain ⟨t, rfl, hnm⟩ := open_instr htr
          obtain ⟨_, _, hc⟩ := World.cells?_some hci
          have h00 := hcell 0 (by omega)
          rw [List.getElem?_eq_getElem (by omega), Option.bind_eq_some_iff] at h00
          obtain ⟨c0, hc0, htr0⟩ := h00
          obtain ⟨t0, rfl, _⟩ := open_instr htr0
          obtain ⟨_, _, hcc0⟩ := World.cells?_some hc0
          have hz := hcc0 0 (by omega)
          have hz' : W.cell? a = some (.int .i64 t0.code) := by simpa [Addr.add, Ins.cells] using hz
          have hsp := spot_none hz'
          refine ⟨t, ⟨hsp, World.block_lt_of_cell? W a hz'⟩, ?_, hnm⟩
          have key : ∀ j, j < 6 → W.cell? ⟨a.block, a.off + i * 6 + j, none⟩ = t.cells[j]? := by
            intro j hj
            have h2 := hc j hj
            rw [← h2]
            congr 1
            rw [hsp]
            unfold Addr.add
            by_cases h0 : i * 6 = 0
            · rw [if_pos h0]
              by_cases hj0 : j = 0
              · rw [if_pos hj0]; simp; omega
              · rw [if_neg hj0]; simp
            · rw [if_neg h0]
              by_cases hj0 : j = 0
              · rw [if_pos hj0]; simp
              · rw [if_neg hj0]
          exact ⟨key 0 (by omega), key 1 (by omega), key 2 (by omega), key 3 (by omega), key 4 (by omega), key 5 (by omega)⟩
        obtain ⟨T, hT, hP⟩ := pick_list each
        refine ⟨T, rfl, some a, cap, by rw [hT], by omega, hcm, fun i hi => ?_, fun i hi => (hP i (by omega)).2.2⟩
        have h1 := hP i (by omega)
        exact ⟨a.block, a.off, by rw [← h1.1.1], h1.1.2, h1.2.1⟩

end Go.Proofs.Ytpopjapcgcnnfaa
