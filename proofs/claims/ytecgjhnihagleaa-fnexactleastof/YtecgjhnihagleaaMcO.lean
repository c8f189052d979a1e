/- A machine that came in, opened: its rows lie in memory. -/
import Derived.Test.YtecgjhnihagleaaMcM
namespace Go.Proofs.Ytecgjhnihagleaa
open Go.RowKit Plain Mch

set_option maxRecDepth 100000 in
theorem open_bools {H : Type} {enc : TypeId × Value → H} {W : World} {m : Nat} {v0 : Value} {x : DataW H × List MemPlace}
    (hf : DataW.trod enc Try.prog W 0 (fun _ => true) true m 23 [v0] = some x) : ∃ l, EAt W W.heap.size v0 l := by
  have c3 : Try.prog.cellsOf 4 = 1 := by kernel_rfl
  rcases DataW.trod_slice Try.underlying23 hf with ⟨hcs, _⟩ | ⟨a, len, cap, elems, rest, m2, _, hcs, _, _, hlc, hcm, hel, hcell, _⟩
  · simp at hcs
    subst hcs
    exact ⟨[], none, 0, rfl, by simp, by unfold maxLen; omega, fun i hi => by simp at hi⟩
  · simp at hcs
    subst hcs
    rw [c3] at hcell
    have each : ∀ i, i < len → ∃ t : Bool, (a = ⟨a.block, a.off, none⟩ ∧ a.block < W.heap.size) ∧ W.cell? ⟨a.block, a.off + i, none⟩ = some (.bool t) := by
      intro i hi
      have h1 := hcell i hi
      rw [List.getElem?_eq_getElem (by omega), Option.bind_eq_some_iff] at h1
      obtain ⟨ci, hci, htr⟩ := h1
      obtain ⟨t, rfl, _⟩ := DataW.trod_bool Try.underlying4 htr
      obtain ⟨_, _, hcc⟩ := World.cells?_some hci
      have h00 := hcell 0 (by omega)
      rw [List.getElem?_eq_getElem (by omega), Option.bind_eq_some_iff] at h00
      obtain ⟨c0, hc0, htr0⟩ := h00
      obtain ⟨t0, rfl, _⟩ := DataW.trod_bool Try.underlying4 htr0
      obtain ⟨_, _, hcc0⟩ := World.cells?_some hc0
      have hz := hcc0 0 (by omega)
      have hz' : W.cell? a = some (.bool t0) := by simpa [Addr.add] using hz
      have hsp := spot_none hz'
      refine ⟨t, ⟨hsp, World.block_lt_of_cell? W a hz'⟩, ?_⟩
      have h2 := hcc 0 (by omega)
      rw [show (some (Value.bool t)) = [Value.bool t][0]? from rfl, ← h2]
      congr 1
      rw [hsp]
      unfold Addr.add
      by_cases h0 : i * 1 = 0
      · rw [if_pos h0]; simp; omega
      · rw [if_neg h0]; simp
    obtain ⟨l, hl, hP⟩ := pick_list each
    refine ⟨l, some a, cap, by rw [hl], by omega, hcm, fun i hi => ?_⟩
    have h1 := hP i (by omega)
    exact ⟨a.block, a.off, by rw [← h1.1.1], h1.1.2, h1.2⟩

set_option maxRecDepth 100000 in
theorem open_intsIn {H : Type} {enc : TypeId × Value → H} {W : World} {m : Nat} {cs : List Value} {x : DataW H × List MemPlace}
    (hf : DataW.trod enc Try.prog W 0 (fun _ => true) true m 27 cs = some x) : ∃ v l, cs = [v] ∧ ZAt W W.heap.size v l := by
  have c3 : Try.prog.cellsOf 3 = 1 := by kernel_rfl
  rcases DataW.trod_slice Try.underlying27 hf with ⟨hcs, _⟩ | ⟨a, len, cap, elems, rest, m2, _, hcs, _, _, hlc, hcm, hel, hcell, _⟩
  · subst hcs
    exact ⟨_, [], rfl, none, 0, rfl, by simp, by unfold maxLen; omega, fun i x hi => by simp at hi⟩
  · subst hcs
    rw [c3] at hcell
    have each : ∀ i, i < len → ∃ t : Int, (a = ⟨a.block, a.off, none⟩ ∧ a.block < W.heap.size) ∧ W.cell? ⟨a.block, a.off + i, none⟩ = some (.int .i64 t) := by
      intro i hi
      have h1 := hcell i hi
      rw [List.getElem?_eq_getElem (by omega), Option.bind_eq_some_iff] at h1
      obtain ⟨ci, hci, htr⟩ := h1
      obtain ⟨t, rfl, _⟩ := DataW.trod_int Try.underlying3 htr
      obtain ⟨_, _, hcc⟩ := World.cells?_some hci
      have h00 := hcell 0 (by omega)
      rw [List.getElem?_eq_getElem (by omega), Option.bind_eq_some_iff] at h00
      obtain ⟨c0, hc0, htr0⟩ := h00
      obtain ⟨t0, rfl, _⟩ := DataW.trod_int Try.underlying3 htr0
      obtain ⟨_, _, hcc0⟩ := World.cells?_some hc0
      have hz := hcc0 0 (by omega)
      have hz' : W.cell? a = some (.int .i64 t0) := by simpa [Addr.add] using hz
      have hsp := spot_none hz'
      refine ⟨t, ⟨hsp, World.block_lt_of_cell? W a hz'⟩, ?_⟩
      have h2 := hcc 0 (by omega)
      rw [show (some (Value.int .i64 t)) = [Value.int .i64 t][0]? from rfl, ← h2]
      congr 1
      rw [hsp]
      unfold Addr.add
      by_cases h0 : i * 1 = 0
      · rw [if_pos h0]; simp; omega
      · rw [if_neg h0]; simp
    obtain ⟨l, hl, hP⟩ := pick_list each
    refine ⟨_, l, rfl, some a, cap, by rw [hl], by omega, hcm, fun i x hi => ?_⟩
    have hil : i < l.length := (List.getElem?_eq_some_iff.1 hi).1
    have h1 := hP i (by omega)
    refine ⟨a.block, a.off, by rw [← h1.1.1], h1.1.2, ?_⟩
    rw [h1.2, List.getD_eq_getElem?_getD, hi]
    rfl

set_option maxRecDepth 100000 in
theorem open_intss {H : Type} {enc : TypeId × Value → H} {W : World} {m : Nat} {v0 : Value} {x : DataW H × List MemPlace}
    (hf : DataW.trod enc Try.prog W 0 (fun _ => true) true m 22 [v0] = some x) : ∃ M, MAt W W.heap.size v0 M := by
  have c24 : Try.prog.cellsOf 27 = 1 := by kernel_rfl
  rcases DataW.trod_slice Try.underlying22 hf with ⟨hcs, _⟩ | ⟨a, len0, cap0, elems, rest, m2, _, hcs, _, _, hlc, hcm, hel, hcell, _⟩
  · simp at hcs
    subst hcs
    exact ⟨[], none, 0, rfl, by simp, by unfold maxLen; omega, fun i hi => by simp at hi⟩
  · simp at hcs
    subst hcs
    rw [c24] at hcell
    have each : ∀ i, i < len0 → ∃ t : List Int, (a = ⟨a.block, a.off, none⟩ ∧ a.block < W.heap.size) ∧ ∃ u, W.cell? ⟨a.block, a.off + i, none⟩ = some u ∧ ZAt W W.heap.size u t := by
      intro i hi
      have h1 := hcell i hi
      rw [List.getElem?_eq_getElem (by omega), Option.bind_eq_some_iff] at h1
      obtain ⟨ci, hci, htr⟩ := h1
      obtain ⟨u, t, rfl, hs⟩ := open_intsIn htr
      obtain ⟨_, _, hcc⟩ := World.cells?_some hci
      have h00 := hcell 0 (by omega)
      rw [List.getElem?_eq_getElem (by omega), Option.bind_eq_some_iff] at h00
      obtain ⟨c0, hc0, htr0⟩ := h00
      obtain ⟨u0, t0, rfl, _⟩ := open_intsIn htr0
      obtain ⟨_, _, hcc0⟩ := World.cells?_some hc0
      have hz := hcc0 0 (by omega)
      have hz' : W.cell? a = some u0 := by simpa [Addr.add] using hz
      have hsp := spot_none hz'
      refine ⟨t, ⟨hsp, World.block_lt_of_cell? W a hz'⟩, u, ?_, hs⟩
      have h2 := hcc 0 (by omega)
      have h3 : W.cell? ⟨a.block, a.off + i, none⟩ = W.cell? ((a.add (i * 1)).add 0) := by
        congr 1
        conv => rhs; rw [hsp]
        unfold Addr.add
        by_cases h0 : i = 0
        · simp [h0]
        · simp [h0]
      rw [h3]
      simpa using h2
    obtain ⟨M, hM, hP⟩ := pick_list each
    refine ⟨M, some a, cap0, by rw [hM], by omega, hcm, fun i hi => ?_⟩
    have h1 := hP i (by omega)
    obtain ⟨u, hu, hs⟩ := h1.2
    exact ⟨a.block, a.off, u, by rw [← h1.1.1], h1.1.2, hu, hs⟩

set_option maxRecDepth 100000 in
theorem open_mach {H : Type} {enc : TypeId × Value → H} {W : World} {base : Nat} {v0 : Value} {d0 : DataW H} {p0 : List MemPlace} (hok : Value.okWide Try.prog W .any base 25 v0)
    (h0 : DataW.Trod enc Try.prog W 0 (fun _ => true) true 25 v0 d0 p0) : ∃ v e M E, v0 = .agg #[v, e] ∧ MAt W W.heap.size v M ∧ EAt W W.heap.size e E := by
  unfold Value.okWide at hok
  rw [Try.underlying25] at hok
  obtain ⟨cs, rfl, hsz, _⟩ := hok
  have c24 : Try.prog.cellsOf 25 = 2 := by kernel_rfl
  have c22 : Try.prog.cellsOf 22 = 1 := by kernel_rfl
  have c23 : Try.prog.cellsOf 23 = 1 := by kernel_rfl
  rw [c24] at hsz
  obtain ⟨fuel, hf⟩ := h0
  obtain ⟨l⟩ := cs
  match l, hsz with
  | [v, e], _ =>
    refine ⟨v, e, ?_⟩
    obtain ⟨xs, m1, rfl, _, _, hn, hff⟩ := DataW.trod_struct Try.underlying25 hf
    have f0 : DataW.trod enc Try.prog W 0 (fun _ => true) true m1 22 ((([v, e] : List Value).drop 0).take (Try.prog.cellsOf 22)) = xs[0]? := hff 0 _ rfl
    have f1 : DataW.trod enc Try.prog W 0 (fun _ => true) true m1 23 ((([v, e] : List Value).drop 1).take (Try.prog.cellsOf 23)) = xs[1]? := hff 1 _ rfl
    rw [c22] at f0
    rw [c23] at f1
    match xs, hn with
    | [x0, x1], _ =>
      obtain ⟨M, hM⟩ := open_intss (show DataW.trod enc Try.prog W 0 (fun _ => true) true m1 22 [v] = some x0 from f0)
      obtain ⟨E, hE⟩ := open_bools (show DataW.trod enc Try.prog W 0 (fun _ => true) true m1 23 [e] = some x1 from f1)
      exact ⟨M, E, rfl, hM, hE⟩

end Go.Proofs.Ytecgjhnihagleaa
