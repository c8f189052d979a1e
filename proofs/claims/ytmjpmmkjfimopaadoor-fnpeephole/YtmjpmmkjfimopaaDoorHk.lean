/- The law's own copies of a Filter. The program's appendWants. The program's NotFilter. -/
import Derived.Test.YtmjpmmkjfimopaaDoorFwM
import Derived.Laws.MakeOwn
import Derived.Laws.ResultCell
import Derived.Test.YtmjpmmkjfimopaaDoorWfB
import Derived.Test.YtmjpmmkjfimopaaDoorClnA
import Derived.Deep.AppendLies
import Derived.Deep.DeepCutAuto
import Derived.Test.YtmjpmmkjfimopaaDoorWfF
namespace Go.Proofs.YtmjpmmkjfimopaaDoor
open Go.RowKit Plain Sch Wan

theorem Tryd.infoWa : (Tryd.prog.info? 66).map (fun i => (i.zero, i.size, i.bytes)) = some (some (.agg #[.int .i64 0, .int .i64 0, .int .i64 0, .string ⟨#[]⟩, .int .i64 0, .int .i64 0]), 6, 56) := by kernel_rfl

theorem flat6Wa (l : List Wa) (i j : Nat) (h : i < l.length) (hj : j < 6) : (l.flatMap Wa.cells)[i * 6 + j]? = (wa l i).cells[j]? := by
  induction l generalizing i with
  | nil => simp at h
  | cons a l ih =>
    rw [List.flatMap_cons]
    have ha : a.cells.length = 6 := rfl
    cases i with
    | zero =>
      rw [Nat.zero_mul, Nat.zero_add, List.getElem?_append_left (by omega)]
      rfl
    | succ i =>
      rw [List.getElem?_append_right (by omega)]
      have := ih i (by simpa using h)
      have e : wa (a :: l) (i + 1) = wa l i := by simp [wa]
      rw [e, ← this]
      congr 1
      omega

theorem flat6Wa_len (l : List Wa) : (l.flatMap Wa.cells).length = l.length * 6 := by
  induction l with
  | nil => rfl
  | cons a l ih => rw [List.flatMap_cons, List.length_append, ih, List.length_cons]; have : a.cells.length = 6 := rfl; omega

theorem ys_eqWa (l : List Wa) (ys : List Value) (hl : ys.length = l.length * 6) (h : ∀ i, i < l.length → ∀ j, j < 6 → ys[i * 6 + j]? = (wa l i).cells[j]?) : ys = l.flatMap Wa.cells := by
  apply List.ext_getElem?
  intro k
  by_cases hk : k < l.length * 6
  · have e : k = k / 6 * 6 + k % 6 := by omega
    rw [e, h (k / 6) (by omega) (k % 6) (by omega), flat6Wa l (k / 6) (k % 6) (by omega) (by omega)]
  · rw [List.getElem?_eq_none (by omega), List.getElem?_eq_none (by rw [flat6Wa_len]; omega)]

theorem WasAt.own {w : World} {B : Nat} {v : Value} {T : List Wa} (h : w.ownsRow B 66 6 v T.length (T.flatMap Wa.cells)) (hn : ∀ i, i < T.length → (wa T i).text.size ≤ maxLen) : WasAt w w.heap.size v T := by
  have h0 := h
  obtain ⟨_, ⟨rfl, hn0⟩ | ⟨g, cap, cur, rfl, hB, hb, hnc, hcm, _⟩⟩ := h
  · exact ⟨none, 0, by rw [hn0], by omega, by unfold maxLen; omega, fun i hi => by omega, hn⟩
  · refine ⟨some ⟨g, 0, none⟩, cap, rfl, hnc, hcm, fun i hi => ⟨g, 0, rfl, (h0.lt g rfl).2, ?_⟩, hn⟩
    have c : ∀ j, j < 6 → w.cell? ⟨g, 0 + i * 6 + j, none⟩ = (wa T i).cells[j]? := fun j hj => by
      rw [Nat.zero_add, h0.cellAt (i * 6 + j) (by omega)]
      exact flat6Wa T i j hi hj
    exact ⟨c 0 (by omega), c 1 (by omega), c 2 (by omega), c 3 (by omega), c 4 (by omega), c 5 (by omega)⟩

theorem own_belowFw {w w' : World} {B e size n : Nat} {v : Value} {xs : List Value} (h : w.ownsRow B e size v n xs) (hb : Below w.heap.size w w') : w'.ownsRow B e size v n xs := by
  refine ⟨h.1, ?_⟩
  rcases h.2 with hn | ⟨g, cap, cur, hv, hg, hgg, rest⟩
  · exact .inl hn
  · exact .inr ⟨g, cap, cur, hv, hg, (hb.block g (Array.getElem?_eq_some_iff.1 hgg).1).trans hgg, rest⟩

theorem set6_eqWa (ys : List Value) (T : List Wa) (i : Nat) (t : Wa) (hl : ys.length = T.length * 6) (hi : i < T.length) (ht : wa T i = t) (hm : ∀ m, m < i → ∀ j, j < 6 → ys[m * 6 + j]? = (wa T m).cells[j]?) : ∀ m, m < i + 1 → ∀ j, j < 6 →
    ((((((ys.set (i * 6) (.int .i64 t.kind)).set (i * 6 + 1) (.int .i64 t.no)).set (i * 6 + 2) (.int .i64 t.num)).set (i * 6 + 3) (.string t.text)).set (i * 6 + 4) (.int .i64 t.a)).set (i * 6 + 5) (.int .i64 t.b))[m * 6 + j]? = (wa T m).cells[j]? := by
  intro m hmi j hj
  simp only [List.getElem?_set, List.length_set]
  by_cases hme : m = i
  · subst hme
    rw [ht]
    match j, hj with
    | 0, _ => simp [Wa.cells]; omega
    | 1, _ => simp [Wa.cells]; omega
    | 2, _ => simp [Wa.cells]; omega
    | 3, _ => simp [Wa.cells]; omega
    | 4, _ => simp [Wa.cells]; omega
    | 5, _ => simp [Wa.cells]; omega
  · rw [if_neg (by omega), if_neg (by omega), if_neg (by omega), if_neg (by omega), if_neg (by omega), if_neg (by omega)]
    exact hm m (by omega) j hj

end Go.Proofs.YtmjpmmkjfimopaaDoor

namespace Go.Proofs.YtmjpmmkjfimopaaDoor
open Go.RowKit Plain Sch Wan

attribute [local go_sem] storeJ storeF

/-- a row of wants of the call's own -/
def WRow (w : World) (B : Nat) (v : Value) (L : List Wa) : Prop := w.ownsRow B 66 6 v L.length (L.flatMap Wa.cells)

theorem WRow.slice {w : World} {B : Nat} {v : Value} {L : List Wa} (h : WRow w B v L) : ∃ ao cap, v = Value.slice ao L.length cap := by
  rcases h.2 with ⟨rfl, h0⟩ | ⟨g, cap, _, rfl, _⟩
  · exact ⟨none, 0, by rw [h0]⟩
  · exact ⟨_, _, rfl⟩

theorem WRow.below {w w' : World} {B : Nat} {v : Value} {L : List Wa} (h : WRow w B v L) (hb : Below w.heap.size w w') : WRow w' B v L := own_belowFw h hb

theorem one6W (k n m : Int) (t : ByteArray) (a b : Int) : ∀ u ∈ [Value.int .i64 k, .int .i64 n, .int .i64 m, .string t, .int .i64 a, .int .i64 b], u.oneCell' = true := by
  intro u hu
  simp at hu
  rcases hu with rfl | rfl | rfl | rfl | rfl | rfl <;> rfl

theorem okW_text {x : Wa} {i : Nat} (h : okW x i = true) : x.text.size ≤ 30 := by
  unfold okW at h
  by_cases h1 : isAsk x.kind = true
  · rw [if_pos h1] at h
    simp only [okAsk, Bool.and_eq_true, decide_eq_true_eq] at h
    exact h.2
  · rw [if_neg h1] at h
    by_cases h2 : isBin x.kind = true
    · rw [if_pos h2] at h
      simp only [okBin, Bool.and_eq_true, decide_eq_true_eq] at h
      have := congrArg (fun x : Wa => x.text.size) h.1.1.1
      dsimp only at this
      rw [this]; decide
    · rw [if_neg h2] at h
      by_cases h3 : isNot x.kind = true
      · rw [if_pos h3] at h
        simp only [okNot, Bool.and_eq_true, decide_eq_true_eq] at h
        have := congrArg (fun x : Wa => x.text.size) h.1.1
        dsimp only at this
        rw [this]; decide
      · rw [if_neg h3] at h; cases h

theorem okW_binG {x : Wa} {i : Nat} (h : okW x i = true) (hb : isBin x.kind = true) : 0 ≤ x.a ∧ x.a < x.b ∧ x.b < i := by
  unfold okW at h
  rw [if_neg (by intro e; have := ask_bounds e; have := bin_bounds hb; omega), if_pos hb] at h
  simp only [okBin, Bool.and_eq_true, decide_eq_true_eq] at h
  omega

theorem okW_notG {x : Wa} {i : Nat} (h : okW x i = true) (hb : isNot x.kind = true) : 0 ≤ x.a ∧ x.a < i := by
  unfold okW at h
  rw [if_neg (by intro e; have := ask_bounds e; have := not_bounds hb; omega), if_neg (by intro e; have := bin_bounds e; have := not_bounds hb; omega), if_pos hb] at h
  simp only [okNot, Bool.and_eq_true, decide_eq_true_eq] at h
  omega

theorem infoWaG : (Tryd.prog.info? 66).map (fun i => (i.zero, i.size, i.bytes)) = some (some (.agg #[.int .i64 0, .int .i64 0, .int .i64 0, .string ⟨#[]⟩, .int .i64 0, .int .i64 0]), 6, 56) := by kernel_rfl

end Go.Proofs.YtmjpmmkjfimopaaDoor

namespace Go.Proofs.YtmjpmmkjfimopaaDoor
open Go.RowKit Plain Sch Wan

/-- a filter and a bool told, in memory of the call's own -/
def OFil (w w' : World) (e : Ending) (R : List Wa × Bool) : Prop := ∃ rv, e = .returned (.tuple #[.agg #[rv], .bool R.2]) ∧ WRow w' w.heap.size rv R.1 ∧ Below w.heap.size w w'

theorem WRow.lower {w : World} {B B' : Nat} {v : Value} {l : List Wa} (h : WRow w B v l) (hB : B' ≤ B) : WRow w B' v l := by
  refine ⟨h.1, ?_⟩
  rcases h.2 with hn | ⟨g, cap, cur, hv, hg, rest⟩
  · exact .inl hn
  · exact .inr ⟨g, cap, cur, hv, by omega, rest⟩

theorem WasAt.lower {w : World} {B B' : Nat} {v : Value} {T : List Wa} (h : WasAt w B v T) (hB : B ≤ B') : WasAt w B' v T := by
  obtain ⟨ao, cap, hv, hc, hm, hr, hn⟩ := h
  refine ⟨ao, cap, hv, hc, hm, fun i hi => ?_, hn⟩
  obtain ⟨g, o, ha, hg, c⟩ := hr i hi
  exact ⟨g, o, ha, by omega, c⟩

end Go.Proofs.YtmjpmmkjfimopaaDoor
