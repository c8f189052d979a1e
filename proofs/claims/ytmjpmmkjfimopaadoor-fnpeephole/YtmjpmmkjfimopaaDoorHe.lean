/- How a Program's list lies in memory: a slice's cells, six a Instr. The law's own copies of a Program. -/
import Derived.Test.YtmjpmmkjfimopaaDoorGb
import Derived.Test.YtmjpmmkjfimopaaDoorHb
import Derived.Laws.MakeOwn
import Derived.Laws.ResultCell
namespace Go.Proofs.YtmjpmmkjfimopaaDoor
open Go.RowKit Plain Sch Prg

def Prg.Ins.cells (t : Ins) : List Value := [.int .i64 t.code, .int .i64 t.kind, .int .i64 t.no, .int .i64 t.num, .string t.text, .int .i64 t.dst]
def Prg.Ins.val (t : Ins) : Value := .agg #[.int .i64 t.code, .int .i64 t.kind, .int .i64 t.no, .int .i64 t.num, .string t.text, .int .i64 t.dst]

def InsIn (w : World) (g o : Nat) (t : Ins) : Prop :=
  w.cell? ⟨g, o, none⟩ = some (.int .i64 t.code) ∧ w.cell? ⟨g, o + 1, none⟩ = some (.int .i64 t.kind) ∧ w.cell? ⟨g, o + 2, none⟩ = some (.int .i64 t.no) ∧ w.cell? ⟨g, o + 3, none⟩ = some (.int .i64 t.num) ∧ w.cell? ⟨g, o + 4, none⟩ = some (.string t.text) ∧ w.cell? ⟨g, o + 5, none⟩ = some (.int .i64 t.dst)

theorem InsIn.below {w w' : World} {g o B : Nat} {t : Ins} (h : InsIn w g o t) (hb : Below B w w') (hg : g < B) : InsIn w' g o t := by
  obtain ⟨c0, c1, c2, c3, c4, c5⟩ := h
  exact ⟨(hb.cell (p := ⟨g, o, none⟩) hg).trans c0, (hb.cell (p := ⟨g, o + 1, none⟩) hg).trans c1, (hb.cell (p := ⟨g, o + 2, none⟩) hg).trans c2, (hb.cell (p := ⟨g, o + 3, none⟩) hg).trans c3, (hb.cell (p := ⟨g, o + 4, none⟩) hg).trans c4, (hb.cell (p := ⟨g, o + 5, none⟩) hg).trans c5⟩

/-- a slice of them, in blocks below B -/
def InsAt (w : World) (B : Nat) (v : Value) (T : List Ins) : Prop :=
  ∃ ao cap, v = .slice ao T.length cap ∧ T.length ≤ cap ∧ cap ≤ maxLen ∧ (∀ i, i < T.length → ∃ g o, ao = some ⟨g, o, none⟩ ∧ g < B ∧ InsIn w g (o + i * 6) (ins T i)) ∧ ∀ i, i < T.length → (ins T i).text.size ≤ maxLen

theorem InsAt.below {w w' : World} {v : Value} {T : List Ins} {B : Nat} (h : InsAt w B v T) (hb : Below B w w') (hB : B ≤ w.heap.size := by exact Nat.le_refl _) : InsAt w' w'.heap.size v T := by
  obtain ⟨ao, cap, hv, hc, hm, hr, hn⟩ := h
  refine ⟨ao, cap, hv, hc, hm, fun i hi => ?_, hn⟩
  obtain ⟨g, o, ha, hg, c⟩ := hr i hi
  have := hb.size
  exact ⟨g, o, ha, by omega, c.below hb hg⟩

/-- a slice with one in it, opened -/
theorem InsAt.open {w : World} {v : Value} {T : List Ins} {B : Nat} (h : InsAt w B v T) (h0 : 0 < T.length) : ∃ g o cap, v = .slice (some ⟨g, o, none⟩) T.length cap ∧ T.length ≤ cap ∧ cap ≤ maxLen ∧ g < B ∧ (∀ i, i < T.length → InsIn w g (o + i * 6) (ins T i)) ∧ ∀ i, i < T.length → (ins T i).text.size ≤ maxLen := by
  obtain ⟨ao, cap, hv, hc, hm, hr, hn⟩ := h
  obtain ⟨g, o, ha, hg, _⟩ := hr 0 h0
  subst ha
  refine ⟨g, o, cap, hv, hc, hm, hg, fun i hi => ?_, hn⟩
  obtain ⟨g', o', ha, _, c⟩ := hr i hi
  simp only [Option.some.injEq, Addr.mk.injEq, and_true] at ha
  obtain ⟨rfl, rfl⟩ := ha
  exact c

end Go.Proofs.YtmjpmmkjfimopaaDoor

namespace Go.Proofs.YtmjpmmkjfimopaaDoor
open Go.RowKit Plain Sch Prg

theorem Tryd.infoIns : (Tryd.prog.info? 59).map (fun i => (i.zero, i.size, i.bytes)) = some (some (.agg #[.int .i64 0, .int .i64 0, .int .i64 0, .int .i64 0, .string ⟨#[]⟩, .int .i64 0]), 6, 56) := by kernel_rfl

theorem flat6Ins (l : List Ins) (i j : Nat) (h : i < l.length) (hj : j < 6) : (l.flatMap Ins.cells)[i * 6 + j]? = (ins l i).cells[j]? := by
  induction l generalizing i with
  | nil => simp at h
  | cons a l ih =>
    rw [List.flatMap_cons]
    have ha : a.cells.length = 6 := rfl
    cases i with
    | zero =>
      rw [Nat.zero_mul, Nat.zero_add, List.getElem?_append_left (by omega)]
      rfl
    | succ i =>
      rw [List.getElem?_append_right (by omega)]
      have := ih i (by simpa using h)
      have e : ins (a :: l) (i + 1) = ins l i := by simp [ins]
      rw [e, ← this]
      congr 1
      omega

theorem flat6Ins_len (l : List Ins) : (l.flatMap Ins.cells).length = l.length * 6 := by
  induction l with
  | nil => rfl
  | cons a l ih => rw [List.flatMap_cons, List.length_append, ih, List.length_cons]; have : a.cells.length = 6 := rfl; omega

theorem ys_eqIns (l : List Ins) (ys : List Value) (hl : ys.length = l.length * 6) (h : ∀ i, i < l.length → ∀ j, j < 6 → ys[i * 6 + j]? = (ins l i).cells[j]?) : ys = l.flatMap Ins.cells := by
  apply List.ext_getElem?
  intro k
  by_cases hk : k < l.length * 6
  · have e : k = k / 6 * 6 + k % 6 := by omega
    rw [e, h (k / 6) (by omega) (k % 6) (by omega), flat6Ins l (k / 6) (k % 6) (by omega) (by omega)]
  · rw [List.getElem?_eq_none (by omega), List.getElem?_eq_none (by rw [flat6Ins_len]; omega)]

theorem InsAt.own {w : World} {B : Nat} {v : Value} {T : List Ins} (h : w.ownsRow B 59 6 v T.length (T.flatMap Ins.cells)) (hn : ∀ i, i < T.length → (ins T i).text.size ≤ maxLen) : InsAt w w.heap.size v T := by
  have h0 := h
  obtain ⟨_, ⟨rfl, hn0⟩ | ⟨g, cap, cur, rfl, hB, hb, hnc, hcm, _⟩⟩ := h
  · exact ⟨none, 0, by rw [hn0], by omega, by unfold maxLen; omega, fun i hi => by omega, hn⟩
  · refine ⟨some ⟨g, 0, none⟩, cap, rfl, hnc, hcm, fun i hi => ⟨g, 0, rfl, (h0.lt g rfl).2, ?_⟩, hn⟩
    have c : ∀ j, j < 6 → w.cell? ⟨g, 0 + i * 6 + j, none⟩ = (ins T i).cells[j]? := fun j hj => by
      rw [Nat.zero_add, h0.cellAt (i * 6 + j) (by omega)]
      exact flat6Ins T i j hi hj
    exact ⟨c 0 (by omega), c 1 (by omega), c 2 (by omega), c 3 (by omega), c 4 (by omega), c 5 (by omega)⟩

theorem own_belowPw {w w' : World} {B e size n : Nat} {v : Value} {xs : List Value} (h : w.ownsRow B e size v n xs) (hb : Below w.heap.size w w') : w'.ownsRow B e size v n xs := by
  refine ⟨h.1, ?_⟩
  rcases h.2 with hn | ⟨g, cap, cur, hv, hg, hgg, rest⟩
  · exact .inl hn
  · exact .inr ⟨g, cap, cur, hv, hg, (hb.block g (Array.getElem?_eq_some_iff.1 hgg).1).trans hgg, rest⟩

theorem set6_eqIns (ys : List Value) (T : List Ins) (i : Nat) (t : Ins) (hl : ys.length = T.length * 6) (hi : i < T.length) (ht : ins T i = t) (hm : ∀ m, m < i → ∀ j, j < 6 → ys[m * 6 + j]? = (ins T m).cells[j]?) : ∀ m, m < i + 1 → ∀ j, j < 6 →
    ((((((ys.set (i * 6) (.int .i64 t.code)).set (i * 6 + 1) (.int .i64 t.kind)).set (i * 6 + 2) (.int .i64 t.no)).set (i * 6 + 3) (.int .i64 t.num)).set (i * 6 + 4) (.string t.text)).set (i * 6 + 5) (.int .i64 t.dst))[m * 6 + j]? = (ins T m).cells[j]? := by
  intro m hmi j hj
  simp only [List.getElem?_set, List.length_set]
  by_cases hme : m = i
  · subst hme
    rw [ht]
    match j, hj with
    | 0, _ => simp [Ins.cells]; omega
    | 1, _ => simp [Ins.cells]; omega
    | 2, _ => simp [Ins.cells]; omega
    | 3, _ => simp [Ins.cells]; omega
    | 4, _ => simp [Ins.cells]; omega
    | 5, _ => simp [Ins.cells]; omega
  · rw [if_neg (by omega), if_neg (by omega), if_neg (by omega), if_neg (by omega), if_neg (by omega), if_neg (by omega)]
    exact hm m (by omega) j hj

end Go.Proofs.YtmjpmmkjfimopaaDoor
