/- The law's own copies of a Filter. -/
import Derived.Test.YtpopjapcgcnnfabDoorFwM
import Derived.Laws.MakeOwn
import Derived.Laws.ResultCell
namespace Go.Proofs.YtpopjapcgcnnfabDoor
open Go.RowKit Plain Sch Wan

theorem Tryd.infoWa : (Tryd.prog.info? 72).map (fun i => (i.zero, i.size, i.bytes)) = some (some (.agg #[.int .i64 0, .int .i64 0, .int .i64 0, .string ⟨#[]⟩, .int .i64 0, .int .i64 0]), 6, 56) := by kernel_rfl

theorem flat6Wa (l : List Wa) (i j : Nat) (h : i < l.length) (hj : j < 6) : (l.flatMap Wa.cells)[i * 6 + j]? = (wa l i).cells[j]? := by
  induction l generalizing i with
  | nil => simp at h
  | cons a l ih =>
    rw [List.flatMap_cons]
    have ha : a.cells.length = 6 := rfl
    cases i with
    | zero =>
      rw [Nat.zero_mul, Nat.zero_add, List.getElem?_append_left (by omega)]
      rfl
    | succ i =>
      rw [List.getElem?_append_right (by omega)]
      have := ih i (by simpa using h)
      have e : wa (a :: l) (i + 1) = wa l i := by simp [wa]
      rw [e, ← this]
      congr 1
      omega

theorem flat6Wa_len (l : List Wa) : (l.flatMap Wa.cells).length = l.length * 6 := by
  induction l with
  | nil => rfl
  | cons a l ih => rw [List.flatMap_cons, List.length_append, ih, List.length_cons]; have : a.cells.length = 6 := rfl; omega

theorem ys_eqWa (l : List Wa) (ys : List Value) (hl : ys.length = l.length * 6) (h : ∀ i, i < l.length → ∀ j, j < 6 → ys[i * 6 + j]? = (wa l i).cells[j]?) : ys = l.flatMap Wa.cells := by
  apply List.ext_getElem?
  intro k
  by_cases hk : k < l.length * 6
  · have e : k = k / 6 * 6 + k % 6 := by omega
    rw [e, h (k / 6) (by omega) (k % 6) (by omega), flat6Wa l (k / 6) (k % 6) (by omega) (by omega)]
  · rw [List.getElem?_eq_none (by omega), List.getElem?_eq_none (by rw [flat6Wa_len]; omega)]

theorem WasAt.own {w : World} {B : Nat} {v : Value} {T : List Wa} (h : w.ownsRow B 72 6 v T.length (T.flatMap Wa.cells)) (hn : ∀ i, i < T.length → (wa T i).text.size ≤ maxLen) : WasAt w w.heap.size v T := by
  have h0 := h
  obtain ⟨_, ⟨rfl, hn0⟩ | ⟨g, cap, cur, rfl, hB, hb, hnc, hcm, _⟩⟩ := h
  · exact ⟨none, 0, by rw [hn0], by omega, by unfold maxLen; omega, fun i hi => by omega, hn⟩
  · refine ⟨some ⟨g, 0, none⟩, cap, rfl, hnc, hcm, fun i hi => ⟨g, 0, rfl, (h0.lt g rfl).2, ?_⟩, hn⟩
    have c : ∀ j, j < 6 → w.cell? ⟨g, 0 + i * 6 + j, none⟩ = (wa T i).cells[j]? := fun j hj => by
      rw [Nat.zero_add, h0.cellAt (i * 6 + j) (by omega)]
      exact flat6Wa T i j hi hj
    exact ⟨c 0 (by omega), c 1 (by omega), c 2 (by omega), c 3 (by omega), c 4 (by omega), c 5 (by omega)⟩

theorem own_belowFw {w w' : World} {B e size n : Nat} {v : Value} {xs : List Value} (h : w.ownsRow B e size v n xs) (hb : Below w.heap.size w w') : w'.ownsRow B e size v n xs := by
  refine ⟨h.1, ?_⟩
  rcases h.2 with hn | ⟨g, cap, cur, hv, hg, hgg, rest⟩
  · exact .inl hn
  · exact .inr ⟨g, cap, cur, hv, hg, (hb.block g (Array.getElem?_eq_some_iff.1 hgg).1).trans hgg, rest⟩

theorem set6_eqWa (ys : List Value) (T : List Wa) (i : Nat) (t : Wa) (hl : ys.length = T.length * 6) (hi : i < T.length) (ht : wa T i = t) (hm : ∀ m, m < i → ∀ j, j < 6 → ys[m * 6 + j]? = (wa T m).cells[j]?) : ∀ m, m < i + 1 → ∀ j, j < 6 →
    ((((((ys.set (i * 6) (.int .i64 t.kind)).set (i * 6 + 1) (.int .i64 t.no)).set (i * 6 + 2) (.int .i64 t.num)).set (i * 6 + 3) (.string t.text)).set (i * 6 + 4) (.int .i64 t.a)).set (i * 6 + 5) (.int .i64 t.b))[m * 6 + j]? = (wa T m).cells[j]? := by
  intro m hmi j hj
  simp only [List.getElem?_set, List.length_set]
  by_cases hme : m = i
  · subst hme
    rw [ht]
    match j, hj with
    | 0, _ => simp [Wa.cells]; omega
    | 1, _ => simp [Wa.cells]; omega
    | 2, _ => simp [Wa.cells]; omega
    | 3, _ => simp [Wa.cells]; omega
    | 4, _ => simp [Wa.cells]; omega
    | 5, _ => simp [Wa.cells]; omega
  · rw [if_neg (by omega), if_neg (by omega), if_neg (by omega), if_neg (by omega), if_neg (by omega), if_neg (by omega)]
    exact hm m (by omega) j hj

end Go.Proofs.YtpopjapcgcnnfabDoor
