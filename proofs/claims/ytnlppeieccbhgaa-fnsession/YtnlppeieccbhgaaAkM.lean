/- Lists of Ack in memory, 2 cells each; rows of one's own. -/
import Derived.Test.YtnlppeieccbhgaaSnA
import Derived.Laws.MakeOwn
import Derived.Laws.ResultCell
namespace Go.Proofs.Ytnlppeieccbhgaa
open Go.RowKit Plain Tpc Ssn

def Ssn.Ak.cells (t : Ak) : List Value := [.int .i64 t.ep, .int .i64 t.up]
def Ssn.Ak.val (t : Ak) : Value := .agg #[.int .i64 t.ep, .int .i64 t.up]

def AkIn (w : World) (g o : Nat) (t : Ak) : Prop :=
  w.cell? ⟨g, o, none⟩ = some (.int .i64 t.ep) ∧ w.cell? ⟨g, o + 1, none⟩ = some (.int .i64 t.up)

theorem AkIn.below {w w' : World} {g o B : Nat} {t : Ak} (h : AkIn w g o t) (hb : Below B w w') (hg : g < B) : AkIn w' g o t := by
  obtain ⟨c0, c1⟩ := h
  exact ⟨(hb.cell (p := ⟨g, o, none⟩) hg).trans c0, (hb.cell (p := ⟨g, o + 1, none⟩) hg).trans c1⟩

/-- a slice of them, in blocks below B -/
def AksAt (w : World) (B : Nat) (v : Value) (T : List Ak) : Prop :=
  ∃ ao cap, v = .slice ao T.length cap ∧ T.length ≤ cap ∧ cap ≤ maxLen ∧ ∀ i, i < T.length → ∃ g o, ao = some ⟨g, o, none⟩ ∧ g < B ∧ AkIn w g (o + i * 2) (ak T i)

theorem AksAt.below {w w' : World} {v : Value} {T : List Ak} {B : Nat} (h : AksAt w B v T) (hb : Below B w w') (hB : B ≤ w.heap.size := by exact Nat.le_refl _) : AksAt w' w'.heap.size v T := by
  obtain ⟨ao, cap, hv, hc, hm, hr⟩ := h
  refine ⟨ao, cap, hv, hc, hm, fun i hi => ?_⟩
  obtain ⟨g, o, ha, hg, c⟩ := hr i hi
  have := hb.size
  exact ⟨g, o, ha, by omega, c.below hb hg⟩

theorem AksAt.keep {w w' : World} {v : Value} {T : List Ak} {B : Nat} (h : AksAt w B v T) (hb : Below B w w') : AksAt w' B v T := by
  obtain ⟨ao, cap, hv, hc, hm, hr⟩ := h
  refine ⟨ao, cap, hv, hc, hm, fun i hi => ?_⟩
  obtain ⟨g, o, ha, hg, c⟩ := hr i hi
  exact ⟨g, o, ha, hg, c.below hb hg⟩

theorem ak_mem {T : List Ak} {i : Nat} (h : i < T.length) : ak T i ∈ T := by
  unfold ak
  rw [List.getD_eq_getElem?_getD, List.getElem?_eq_getElem h]
  exact List.getElem_mem h
theorem ak_app {L R : List Ak} {i : Nat} (h : i < L.length) : ak (L ++ R) i = ak L i := by
  unfold ak
  rw [List.getD_eq_getElem?_getD, List.getD_eq_getElem?_getD, List.getElem?_append_left h]
theorem ak_take {L : List Ak} {i k : Nat} (h : i < k) : ak (L.take k) i = ak L i := by
  unfold ak
  rw [List.getD_eq_getElem?_getD, List.getD_eq_getElem?_getD, List.getElem?_take, if_pos h]
theorem ak_drop (L : List Ak) (i k : Nat) : ak (L.drop k) i = ak L (k + i) := by
  unfold ak
  rw [List.getD_eq_getElem?_getD, List.getD_eq_getElem?_getD, List.getElem?_drop]

theorem flatAk (l : List Ak) (i j : Nat) (h : i < l.length) (hj : j < 2) : (l.flatMap Ak.cells)[i * 2 + j]? = (ak l i).cells[j]? := by
  induction l generalizing i with
  | nil => simp at h
  | cons a l ih =>
    rw [List.flatMap_cons]
    have ha : a.cells.length = 2 := rfl
    cases i with
    | zero =>
      rw [Nat.zero_mul, Nat.zero_add, List.getElem?_append_left (by omega)]
      rfl
    | succ i =>
      rw [List.getElem?_append_right (by omega)]
      have := ih i (by simpa using h)
      have e : ak (a :: l) (i + 1) = ak l i := by simp [ak]
      rw [e, ← this]
      congr 1
      omega

theorem flatAk_len (l : List Ak) : (l.flatMap Ak.cells).length = l.length * 2 := by
  induction l with
  | nil => rfl
  | cons a l ih => rw [List.flatMap_cons, List.length_append, ih, List.length_cons]; have : a.cells.length = 2 := rfl; omega

theorem ys_eqAk (l : List Ak) (ys : List Value) (hl : ys.length = l.length * 2) (h : ∀ i, i < l.length → ∀ j, j < 2 → ys[i * 2 + j]? = (ak l i).cells[j]?) : ys = l.flatMap Ak.cells := by
  apply List.ext_getElem?
  intro k
  by_cases hk : k < l.length * 2
  · have e : k = k / 2 * 2 + k % 2 := by omega
    rw [e, h (k / 2) (by omega) (k % 2) (by omega), flatAk l (k / 2) (k % 2) (by omega) (by omega)]
  · rw [List.getElem?_eq_none (by omega), List.getElem?_eq_none (by rw [flatAk_len]; omega)]

theorem onesAk (T : List Ak) : ∀ u ∈ T.flatMap Ak.cells, u.oneCell' = true := by
  intro u hu
  rw [List.mem_flatMap] at hu
  obtain ⟨x, _, hx⟩ := hu
  simp [Ak.cells] at hx
  rcases hx with rfl | rfl <;> rfl

theorem Ak.cells_one (t : Ak) : ∀ u ∈ t.cells, u.oneCell' = true := by
  intro u hu
  simp [Ak.cells] at hu
  rcases hu with rfl | rfl <;> rfl

/-- a row of one's own -/
def AkRow (w : World) (B : Nat) (v : Value) (T : List Ak) : Prop := w.ownsRow B 86 2 v T.length (T.flatMap Ak.cells)

theorem AksAt.own {w : World} {B : Nat} {v : Value} {T : List Ak} (h : AkRow w B v T) : AksAt w w.heap.size v T := by
  have h0 := h
  obtain ⟨_, ⟨rfl, hn0⟩ | ⟨g, cap, cur, rfl, hB, hb, hnc, hcm, _⟩⟩ := h
  · exact ⟨none, 0, by rw [hn0], by omega, by unfold maxLen; omega, fun i hi => by omega⟩
  · refine ⟨some ⟨g, 0, none⟩, cap, rfl, hnc, hcm, fun i hi => ⟨g, 0, rfl, (World.ownsRow.lt h0 g rfl).2, ?_⟩⟩
    have c : ∀ j, j < 2 → w.cell? ⟨g, 0 + i * 2 + j, none⟩ = (ak T i).cells[j]? := fun j hj => by
      rw [Nat.zero_add, World.ownsRow.cellAt h0 (i * 2 + j) (by omega)]
      exact flatAk T i j hi hj
    exact ⟨c 0 (by omega), c 1 (by omega)⟩

theorem AkRow.slice {w : World} {B : Nat} {v : Value} {T : List Ak} (h : AkRow w B v T) : ∃ ao cap, v = Value.slice ao T.length cap ∧ T.length ≤ cap ∧ cap ≤ maxLen := by
  rcases h.2 with ⟨rfl, h0⟩ | ⟨g, cap, _, rfl, _, _, h1, h2, _⟩
  · exact ⟨none, 0, by rw [h0], by omega, by unfold maxLen; omega⟩
  · exact ⟨_, _, rfl, h1, h2⟩

theorem AkRow.snoc {w : World} {B : Nat} {v : Value} {n : Nat} {T : List Ak} {t : Ak} (h : w.ownsRow B 86 2 v n (T.flatMap Ak.cells ++ t.cells)) (hn : T.length + 1 = n) : AkRow w B v (T ++ [t]) := by
  unfold AkRow
  rw [List.length_append, List.length_singleton, hn, List.flatMap_append, List.flatMap_singleton]
  exact h

theorem AksAt.news {W : World} {B : Nat} {ao : Option Addr} {n cap : Nat} {T : List Ak} (h : AksAt W B (.slice ao n cap) T) : ∀ j u, (T.flatMap Ak.cells)[j]? = some u → ∃ ad, ao = some ad ∧ W.cell? (ad.add j) = some u := by
  intro j u hu
  obtain ⟨a, c, hv, _, _, hr⟩ := h
  simp only [Value.slice.injEq] at hv
  obtain ⟨rfl, _, _⟩ := hv
  have hj : j < T.length * 2 := by
    have := (List.getElem?_eq_some_iff.1 hu).1
    rwa [flatAk_len] at this
  obtain ⟨g, o, ha, _, c⟩ := hr (j / 2) (by omega)
  refine ⟨_, ha, ?_⟩
  have hadd : (⟨g, o, none⟩ : Addr).add j = ⟨g, o + j, none⟩ := by unfold Addr.add; split <;> simp_all
  rw [hadd]
  have e : j = j / 2 * 2 + j % 2 := by omega
  have h3 : j % 2 < 2 := Nat.mod_lt _ (by omega)
  have hu2 := hu
  rw [e, flatAk T (j / 2) (j % 2) (by omega) h3] at hu2
  rw [← hu2, show o + j = o + j / 2 * 2 + j % 2 by omega]
  obtain ⟨c0, c1⟩ := c
  generalize j % 2 = r at h3
  match r, h3 with
  | 0, _ => exact c0
  | 1, _ => exact c1

theorem AksAt.take {w : World} {B : Nat} {T : List Ak} {ao : Option Addr} {n cap k : Nat} (h : AksAt w B (.slice ao n cap) T) (hk : k ≤ T.length) : AksAt w B (.slice ao k cap) (T.take k) := by
  obtain ⟨a, c, hv, hm, hc, hr⟩ := h
  simp only [Value.slice.injEq] at hv
  obtain ⟨rfl, rfl, rfl⟩ := hv
  have hl : (T.take k).length = k := by rw [List.length_take]; omega
  refine ⟨ao, cap, by rw [hl], by rw [hl]; omega, hc, fun i hi => ?_⟩
  rw [hl] at hi
  rw [ak_take hi]
  exact hr i (by omega)

theorem AksAt.drop {w : World} {B : Nat} {T : List Ak} {ao : Option Addr} {n cap k : Nat} (h : AksAt w B (.slice ao n cap) T) (hk : k ≤ T.length) (ao' : Option Addr) (h' : k < T.length → ∀ g o, ao = some ⟨g, o, none⟩ → ao' = some ⟨g, o + k * 2, none⟩) : AksAt w B (.slice ao' (n - k) (cap - k)) (T.drop k) := by
  obtain ⟨a, c, hv, hm, hc, hr⟩ := h
  simp only [Value.slice.injEq] at hv
  obtain ⟨rfl, rfl, rfl⟩ := hv
  refine ⟨ao', cap - k, by rw [List.length_drop], by rw [List.length_drop]; omega, by omega, fun i hi => ?_⟩
  rw [List.length_drop] at hi
  obtain ⟨g, o, ha, hg, cc⟩ := hr (k + i) (by omega)
  refine ⟨g, o + k * 2, h' (by omega) g o ha, hg, ?_⟩
  rw [ak_drop, show o + k * 2 + i * 2 = o + (k + i) * 2 by rw [Nat.add_mul]; omega]
  exact cc

theorem Try.infoAk : (Try.prog.info? 86).map (fun i => (i.zero, i.size, i.bytes)) = some (some (.agg #[.int .i64 0, .int .i64 0]), 2, 16) := by kernel_rfl

end Go.Proofs.Ytnlppeieccbhgaa
