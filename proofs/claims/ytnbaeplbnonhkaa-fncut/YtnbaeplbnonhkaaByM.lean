/- Lists of boxes in memory; the law's own looks at them and copies of them. -/
import Derived.Test.YtnbaeplbnonhkaaBxK
namespace Go.Proofs.Ytnbaeplbnonhkaa
open Go.RowKit Plain Sch Bxs

def mx (M : List (List Sd)) (i : Nat) : List Sd := M.getD i []

/-- a slice of boxes, in blocks below B -/
def BxsAt (w : World) (B : Nat) (v : Value) (M : List (List Sd)) : Prop :=
  ∃ ao cap, v = .slice ao M.length cap ∧ M.length ≤ cap ∧ cap ≤ maxLen ∧ ∀ i, i < M.length → ∃ g o u, ao = some ⟨g, o, none⟩ ∧ g < B ∧ w.cell? ⟨g, o + i, none⟩ = some u ∧ SdsAt w B u (mx M i)

theorem BxsAt.below {w w' : World} {v : Value} {M : List (List Sd)} {B : Nat} (h : BxsAt w B v M) (hb : Below B w w') (hB : B ≤ w.heap.size := by exact Nat.le_refl _) : BxsAt w' w'.heap.size v M := by
  obtain ⟨ao, cap, hv, hc, hm, hr⟩ := h
  refine ⟨ao, cap, hv, hc, hm, fun i hi => ?_⟩
  obtain ⟨g, o, u, ha, hg, c, hs⟩ := hr i hi
  have := hb.size
  exact ⟨g, o, u, ha, by omega, (hb.cell (p := ⟨g, o + i, none⟩) hg).trans c, hs.below hb hB⟩

/-- own rows of boxes: a row of slices, each with its own row -/
def BOwn (w : World) (B : Nat) (v : Value) (M : List (List Sd)) (us : List Value) : Prop :=
  w.ownsRow B 25 1 v M.length us ∧ (∀ i, i < M.length → ∃ u, us[i]? = some u ∧ QRow w B u (mx M i) ∧ ∀ g, u.ownBlock = some g → v.ownBlock ≠ some g) ∧ ∀ (i j : Nat) (ui uj : Value), i < j → us[i]? = some ui → us[j]? = some uj → ∀ g, ui.ownBlock = some g → uj.ownBlock ≠ some g

theorem BOwn.at {w : World} {B : Nat} {v : Value} {M : List (List Sd)} {us : List Value} (h : BOwn w B v M us) : BxsAt w w.heap.size v M := by
  obtain ⟨h1, h2, _⟩ := h
  have h0 := h1
  obtain ⟨_, ⟨rfl, hn0⟩ | ⟨g, cap, cur, rfl, hB, hb, hnc, hcm, _⟩⟩ := h1
  · exact ⟨none, 0, by rw [hn0], by omega, by unfold maxLen; omega, fun i hi => by omega⟩
  · refine ⟨some ⟨g, 0, none⟩, cap, rfl, hnc, hcm, fun i hi => ?_⟩
    obtain ⟨u, hu, hq, _⟩ := h2 i hi
    refine ⟨g, 0, u, rfl, (h0.lt g rfl).2, ?_, hq.at⟩
    rw [Nat.zero_add, h0.cellAt i (by omega)]
    exact hu

theorem BOwn.slice {w : World} {B : Nat} {v : Value} {M : List (List Sd)} {us : List Value} (h : BOwn w B v M us) : ∃ ao cap, v = Value.slice ao M.length cap := by
  rcases h.1.2 with ⟨rfl, h0⟩ | ⟨g, cap, _, rfl, _⟩
  · exact ⟨none, 0, by rw [h0]⟩
  · exact ⟨_, _, rfl⟩

theorem BOwn.below {w w' : World} {B : Nat} {v : Value} {M : List (List Sd)} {us : List Value} (h : BOwn w B v M us) (hb : Below w.heap.size w w') : BOwn w' B v M us :=
  ⟨own_below2 h.1 hb, fun i hi => by
    obtain ⟨u, hu, hq, hn⟩ := h.2.1 i hi
    exact ⟨u, hu, hq.below hb, hn⟩, h.2.2⟩

theorem Try.infoBx : (Try.prog.info? 25).map (fun i => (i.zero, i.size, i.bytes)) = some (some (.agg #[.slice none 0 0]), 1, 24) := by kernel_rfl

/-- boxes that are being copied: the first i are there -/
def Fill (w : World) (gs : Nat) (M : List (List Sd)) (ys : List Value) (i : Nat) : Prop :=
  (∀ m, m < i → ∃ u, ys[m]? = some u ∧ QRow w (gs + 1) u (mx M m)) ∧ ∀ (m k : Nat) (um uk : Value), m < k → k < i → ys[m]? = some um → ys[k]? = some uk → ∀ g, um.ownBlock = some g → uk.ownBlock ≠ some g

theorem Fill.step {w w2 : World} {gs i : Nat} {M : List (List Sd)} {ys : List Value} {u : Value} (h : Fill w gs M ys i) (hb : Below w.heap.size w w2) (hq : QRow w2 w.heap.size u (mx M i)) (hg : gs < w.heap.size) (hi : i < ys.length) : Fill (w2.setCell ⟨gs, i, none⟩ u) gs M (ys.set i u) (i + 1) := by
  have old : ∀ m, m < i → ∃ u', (ys.set i u)[m]? = some u' ∧ QRow w (gs + 1) u' (mx M m) := fun m hm => by
    obtain ⟨u', h1, h2⟩ := h.1 m hm
    exact ⟨u', by rw [List.getElem?_set_ne (by omega)]; exact h1, h2⟩
  refine ⟨fun m hm => ?_, fun m k um uk hmk hk e1 e2 g hg1 hg2 => ?_⟩
  · by_cases e : m = i
    · subst e
      refine ⟨u, by rw [List.getElem?_set_self hi], ?_⟩
      obtain ⟨ty, hq⟩ := hq
      exact ⟨ty, own_lower (ownsRow_setCell_below hq (a := ⟨gs, m, none⟩) hg _) hg⟩
    · obtain ⟨u', h1, h2⟩ := old m (by omega)
      refine ⟨u', h1, ?_⟩
      exact (h2.below hb).setCell (a := ⟨gs, i, none⟩) (by show gs < gs + 1; omega) _
  · by_cases e : k = i
    · subst e
      rw [List.getElem?_set_self hi] at e2
      simp at e2
      subst e2
      obtain ⟨u', h1, h2⟩ := old m hmk
      rw [h1] at e1
      simp at e1
      subst e1
      have a1 := (h2.lt g hg1).2
      have a2 := (hq.lt g hg2).1
      omega
    · rw [List.getElem?_set_ne (by omega)] at e1 e2
      exact h.2 m k um uk hmk (by omega) e1 e2 g hg1 hg2

end Go.Proofs.Ytnbaeplbnonhkaa
