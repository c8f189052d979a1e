/- Lists of Packet in memory, 3 cells each; rows of one's own. -/
import Derived.Test.YtnlppeieccbhgaaSnA
import Derived.Laws.MakeOwn
import Derived.Laws.ResultCell
namespace Go.Proofs.Ytnlppeieccbhgaa
open Go.RowKit Plain Tpc Ssn

def Ssn.Pk.cells (t : Pk) : List Value := [.int .i64 t.ep, .int .i64 t.no, .string t.tx]
def Ssn.Pk.val (t : Pk) : Value := .agg #[.int .i64 t.ep, .int .i64 t.no, .string t.tx]

def PkIn (w : World) (g o : Nat) (t : Pk) : Prop :=
  w.cell? ⟨g, o, none⟩ = some (.int .i64 t.ep) ∧ w.cell? ⟨g, o + 1, none⟩ = some (.int .i64 t.no) ∧ w.cell? ⟨g, o + 2, none⟩ = some (.string t.tx)

theorem PkIn.below {w w' : World} {g o B : Nat} {t : Pk} (h : PkIn w g o t) (hb : Below B w w') (hg : g < B) : PkIn w' g o t := by
  obtain ⟨c0, c1, c2⟩ := h
  exact ⟨(hb.cell (p := ⟨g, o, none⟩) hg).trans c0, (hb.cell (p := ⟨g, o + 1, none⟩) hg).trans c1, (hb.cell (p := ⟨g, o + 2, none⟩) hg).trans c2⟩

/-- a slice of them, in blocks below B -/
def PksAt (w : World) (B : Nat) (v : Value) (T : List Pk) : Prop :=
  ∃ ao cap, v = .slice ao T.length cap ∧ T.length ≤ cap ∧ cap ≤ maxLen ∧ ∀ i, i < T.length → ∃ g o, ao = some ⟨g, o, none⟩ ∧ g < B ∧ PkIn w g (o + i * 3) (pk T i)

theorem PksAt.below {w w' : World} {v : Value} {T : List Pk} {B : Nat} (h : PksAt w B v T) (hb : Below B w w') (hB : B ≤ w.heap.size := by exact Nat.le_refl _) : PksAt w' w'.heap.size v T := by
  obtain ⟨ao, cap, hv, hc, hm, hr⟩ := h
  refine ⟨ao, cap, hv, hc, hm, fun i hi => ?_⟩
  obtain ⟨g, o, ha, hg, c⟩ := hr i hi
  have := hb.size
  exact ⟨g, o, ha, by omega, c.below hb hg⟩

theorem PksAt.keep {w w' : World} {v : Value} {T : List Pk} {B : Nat} (h : PksAt w B v T) (hb : Below B w w') : PksAt w' B v T := by
  obtain ⟨ao, cap, hv, hc, hm, hr⟩ := h
  refine ⟨ao, cap, hv, hc, hm, fun i hi => ?_⟩
  obtain ⟨g, o, ha, hg, c⟩ := hr i hi
  exact ⟨g, o, ha, hg, c.below hb hg⟩

theorem pk_mem {T : List Pk} {i : Nat} (h : i < T.length) : pk T i ∈ T := by
  unfold pk
  rw [List.getD_eq_getElem?_getD, List.getElem?_eq_getElem h]
  exact List.getElem_mem h
theorem pk_app {L R : List Pk} {i : Nat} (h : i < L.length) : pk (L ++ R) i = pk L i := by
  unfold pk
  rw [List.getD_eq_getElem?_getD, List.getD_eq_getElem?_getD, List.getElem?_append_left h]
theorem pk_take {L : List Pk} {i k : Nat} (h : i < k) : pk (L.take k) i = pk L i := by
  unfold pk
  rw [List.getD_eq_getElem?_getD, List.getD_eq_getElem?_getD, List.getElem?_take, if_pos h]
theorem pk_drop (L : List Pk) (i k : Nat) : pk (L.drop k) i = pk L (k + i) := by
  unfold pk
  rw [List.getD_eq_getElem?_getD, List.getD_eq_getElem?_getD, List.getElem?_drop]

theorem flatPk (l : List Pk) (i j : Nat) (h : i < l.length) (hj : j < 3) : (l.flatMap Pk.cells)[i * 3 + j]? = (pk l i).cells[j]? := by
  induction l generalizing i with
  | nil => simp at h
  | cons a l ih =>
    rw [List.flatMap_cons]
    have ha : a.cells.length = 3 := rfl
    cases i with
    | zero =>
      rw [Nat.zero_mul, Nat.zero_add, List.getElem?_append_left (by omega)]
      rfl
    | succ i =>
      rw [List.getElem?_append_right (by omega)]
      have := ih i (by simpa using h)
      have e : pk (a :: l) (i + 1) = pk l i := by simp [pk]
      rw [e, ← this]
      congr 1
      omega

theorem flatPk_len (l : List Pk) : (l.flatMap Pk.cells).length = l.length * 3 := by
  induction l with
  | nil => rfl
  | cons a l ih => rw [List.flatMap_cons, List.length_append, ih, List.length_cons]; have : a.cells.length = 3 := rfl; omega

theorem ys_eqPk (l : List Pk) (ys : List Value) (hl : ys.length = l.length * 3) (h : ∀ i, i < l.length → ∀ j, j < 3 → ys[i * 3 + j]? = (pk l i).cells[j]?) : ys = l.flatMap Pk.cells := by
  apply List.ext_getElem?
  intro k
  by_cases hk : k < l.length * 3
  · have e : k = k / 3 * 3 + k % 3 := by omega
    rw [e, h (k / 3) (by omega) (k % 3) (by omega), flatPk l (k / 3) (k % 3) (by omega) (by omega)]
  · rw [List.getElem?_eq_none (by omega), List.getElem?_eq_none (by rw [flatPk_len]; omega)]

theorem onesPk (T : List Pk) : ∀ u ∈ T.flatMap Pk.cells, u.oneCell' = true := by
  intro u hu
  rw [List.mem_flatMap] at hu
  obtain ⟨x, _, hx⟩ := hu
  simp [Pk.cells] at hx
  rcases hx with rfl | rfl | rfl <;> rfl

theorem Pk.cells_one (t : Pk) : ∀ u ∈ t.cells, u.oneCell' = true := by
  intro u hu
  simp [Pk.cells] at hu
  rcases hu with rfl | rfl | rfl <;> rfl

/-- a row of one's own -/
def PkRow (w : World) (B : Nat) (v : Value) (T : List Pk) : Prop := w.ownsRow B 84 3 v T.length (T.flatMap Pk.cells)

theorem PksAt.own {w : World} {B : Nat} {v : Value} {T : List Pk} (h : PkRow w B v T) : PksAt w w.heap.size v T := by
  have h0 := h
  obtain ⟨_, ⟨rfl, hn0⟩ | ⟨g, cap, cur, rfl, hB, hb, hnc, hcm, _⟩⟩ := h
  · exact ⟨none, 0, by rw [hn0], by omega, by unfold maxLen; omega, fun i hi => by omega⟩
  · refine ⟨some ⟨g, 0, none⟩, cap, rfl, hnc, hcm, fun i hi => ⟨g, 0, rfl, (World.ownsRow.lt h0 g rfl).2, ?_⟩⟩
    have c : ∀ j, j < 3 → w.cell? ⟨g, 0 + i * 3 + j, none⟩ = (pk T i).cells[j]? := fun j hj => by
      rw [Nat.zero_add, World.ownsRow.cellAt h0 (i * 3 + j) (by omega)]
      exact flatPk T i j hi hj
    exact ⟨c 0 (by omega), c 1 (by omega), c 2 (by omega)⟩

theorem PkRow.slice {w : World} {B : Nat} {v : Value} {T : List Pk} (h : PkRow w B v T) : ∃ ao cap, v = Value.slice ao T.length cap ∧ T.length ≤ cap ∧ cap ≤ maxLen := by
  rcases h.2 with ⟨rfl, h0⟩ | ⟨g, cap, _, rfl, _, _, h1, h2, _⟩
  · exact ⟨none, 0, by rw [h0], by omega, by unfold maxLen; omega⟩
  · exact ⟨_, _, rfl, h1, h2⟩

theorem PkRow.snoc {w : World} {B : Nat} {v : Value} {n : Nat} {T : List Pk} {t : Pk} (h : w.ownsRow B 84 3 v n (T.flatMap Pk.cells ++ t.cells)) (hn : T.length + 1 = n) : PkRow w B v (T ++ [t]) := by
  unfold PkRow
  rw [List.length_append, List.length_singleton, hn, List.flatMap_append, List.flatMap_singleton]
  exact h

theorem PksAt.news {W : World} {B : Nat} {ao : Option Addr} {n cap : Nat} {T : List Pk} (h : PksAt W B (.slice ao n cap) T) : ∀ j u, (T.flatMap Pk.cells)[j]? = some u → ∃ ad, ao = some ad ∧ W.cell? (ad.add j) = some u := by
  intro j u hu
  obtain ⟨a, c, hv, _, _, hr⟩ := h
  simp only [Value.slice.injEq] at hv
  obtain ⟨rfl, _, _⟩ := hv
  have hj : j < T.length * 3 := by
    have := (List.getElem?_eq_some_iff.1 hu).1
    rwa [flatPk_len] at this
  obtain ⟨g, o, ha, _, c⟩ := hr (j / 3) (by omega)
  refine ⟨_, ha, ?_⟩
  have hadd : (⟨g, o, none⟩ : Addr).add j = ⟨g, o + j, none⟩ := by unfold Addr.add; split <;> simp_all
  rw [hadd]
  have e : j = j / 3 * 3 + j % 3 := by omega
  have h3 : j % 3 < 3 := Nat.mod_lt _ (by omega)
  have hu2 := hu
  rw [e, flatPk T (j / 3) (j % 3) (by omega) h3] at hu2
  rw [← hu2, show o + j = o + j / 3 * 3 + j % 3 by omega]
  obtain ⟨c0, c1, c2⟩ := c
  generalize j % 3 = r at h3
  match r, h3 with
  | 0, _ => exact c0
  | 1, _ => exact c1
  | 2, _ => exact c2

theorem PksAt.take {w : World} {B : Nat} {T : List Pk} {ao : Option Addr} {n cap k : Nat} (h : PksAt w B (.slice ao n cap) T) (hk : k ≤ T.length) : PksAt w B (.slice ao k cap) (T.take k) := by
  obtain ⟨a, c, hv, hm, hc, hr⟩ := h
  simp only [Value.slice.injEq] at hv
  obtain ⟨rfl, rfl, rfl⟩ := hv
  have hl : (T.take k).length = k := by rw [List.length_take]; omega
  refine ⟨ao, cap, by rw [hl], by rw [hl]; omega, hc, fun i hi => ?_⟩
  rw [hl] at hi
  rw [pk_take hi]
  exact hr i (by omega)

theorem PksAt.drop {w : World} {B : Nat} {T : List Pk} {ao : Option Addr} {n cap k : Nat} (h : PksAt w B (.slice ao n cap) T) (hk : k ≤ T.length) (ao' : Option Addr) (h' : k < T.length → ∀ g o, ao = some ⟨g, o, none⟩ → ao' = some ⟨g, o + k * 3, none⟩) : PksAt w B (.slice ao' (n - k) (cap - k)) (T.drop k) := by
  obtain ⟨a, c, hv, hm, hc, hr⟩ := h
  simp only [Value.slice.injEq] at hv
  obtain ⟨rfl, rfl, rfl⟩ := hv
  refine ⟨ao', cap - k, by rw [List.length_drop], by rw [List.length_drop]; omega, by omega, fun i hi => ?_⟩
  rw [List.length_drop] at hi
  obtain ⟨g, o, ha, hg, cc⟩ := hr (k + i) (by omega)
  refine ⟨g, o + k * 3, h' (by omega) g o ha, hg, ?_⟩
  rw [pk_drop, show o + k * 3 + i * 3 = o + (k + i) * 3 by rw [Nat.add_mul]; omega]
  exact cc

theorem Try.infoPk : (Try.prog.info? 84).map (fun i => (i.zero, i.size, i.bytes)) = some (some (.agg #[.int .i64 0, .int .i64 0, .string ⟨#[]⟩]), 3, 32) := by kernel_rfl

end Go.Proofs.Ytnlppeieccbhgaa
