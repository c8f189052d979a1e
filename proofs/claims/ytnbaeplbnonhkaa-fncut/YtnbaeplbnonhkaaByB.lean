/- Rows of boxes that grow by one. -/
import Derived.Test.YtnbaeplbnonhkaaByM
import Derived.Test.YtnbaeplbnonhkaaByA
namespace Go.Proofs.Ytnbaeplbnonhkaa
open Go.RowKit Plain Sch Bxs

theorem own_beside9 {w w' : World} {B e size n : Nat} {v : Value} {xs : List Value} {row : Option Nat} (h : w.ownsRow B e size v n xs) (hg : w.grownBy w' row) (hne : ∀ g, v.ownBlock = some g → some g ≠ row) : w'.ownsRow B e size v n xs := by
  have hlt := h.lt
  refine ⟨h.1, ?_⟩
  rcases h.2 with hn | ⟨g, cap, cur, hv, hgB, hgg, rest⟩
  · exact .inl hn
  · refine .inr ⟨g, cap, cur, hv, hgB, (hg.block g (hlt g (by rw [hv]; rfl)).2 (hne g (by rw [hv]; rfl))).trans hgg, rest⟩

theorem mx_old {M : List (List Sd)} {L : List Sd} {i : Nat} (h : i < M.length) : mx (M ++ [L]) i = mx M i := by
  unfold mx
  rw [List.getD, List.getD, List.getElem?_append_left h]
theorem mx_new (M : List (List Sd)) (L : List Sd) : mx (M ++ [L]) M.length = L := by
  unfold mx
  simp [List.getD]

theorem BOwn.nil (w : World) (B : Nat) : BOwn w B (.slice none 0 0) [] [] := ⟨⟨rfl, .inl ⟨rfl, rfl⟩⟩, fun i hi => by simp at hi, fun i j ui uj _ h => by simp at h⟩

theorem QRow.lower {w : World} {B B' : Nat} {v : Value} {L : List Sd} (h : QRow w B v L) (hB : B' ≤ B) : QRow w B' v L := by
  obtain ⟨ty, h⟩ := h
  exact ⟨ty, own_lower h hB⟩

theorem BOwn.snoc {w w2 w9 : World} {B g cap : Nat} {v u : Value} {M : List (List Sd)} {us : List Value} {L : List Sd} {o : Obj} (h : BOwn w B v M us) (hb : Below w.heap.size w w2) (hq : QRow w2 w.heap.size u L)
    (hown : w9.ownsRow B 25 1 (.slice (some ⟨g, 0, none⟩) (M.length + 1) cap) (M.length + 1) (us ++ [u])) (hgrow : (w2.alloc o).grownBy w9 v.ownBlock) (hat : v.ownBlock = some g ∨ g = w2.heap.size + 1) (hBw : B ≤ w.heap.size) :
    BOwn w9 B (.slice (some ⟨g, 0, none⟩) (M.length + 1) cap) (M ++ [L]) (us ++ [u]) := by
  have hul : us.length = M.length := by have := h.1.1; omega
  have hvl := World.ownsRow.lt h.1
  have hs := hb.size
  have hne : ∀ g', u.ownBlock = some g' → v.ownBlock ≠ some g' := fun g' e e2 => by
    have h1 := (hq.lt g' e).1
    have h2 := (hvl g' e2).2
    omega
  have qn : QRow w9 B u L := by
    obtain ⟨ty, hq⟩ := hq
    refine ⟨ty, own_lower (own_beside9 (World.ownsRow.alloc hq o) hgrow (fun g' e e2 => hne g' e e2.symm)) hBw⟩
  have qo : ∀ i, i < M.length → ∃ u', us[i]? = some u' ∧ QRow w9 B u' (mx M i) ∧ u'.ownBlock ≠ some g ∧ ∀ g', u'.ownBlock = some g' → g' < w.heap.size := fun i hi => by
    obtain ⟨u', h1, h2, h3⟩ := h.2.1 i hi
    have hlt := h2.lt
    refine ⟨u', h1, ?_, fun e => ?_, fun g' e => (hlt g' e).2⟩
    · obtain ⟨ty, h2⟩ := h2
      exact ⟨ty, own_beside9 (World.ownsRow.alloc (own_below2 h2 hb) o) hgrow (fun g' e e2 => h3 g' e e2.symm)⟩
    · rcases hat with e2 | e2
      · exact h3 g e e2
      · have := (hlt g e).2; omega
  have hug : u.ownBlock ≠ some g := fun e => by
    rcases hat with e2 | e2
    · exact hne g e e2
    · have := (hq.lt g e).2; omega
  refine ⟨by rw [List.length_append]; exact hown, fun i hi => ?_, fun i j ui uj hij e1 e2 g' f1 f2 => ?_⟩
  · by_cases hl : i < M.length
    · obtain ⟨u', h1, h2, h3, _⟩ := qo i hl
      refine ⟨u', by rw [List.getElem?_append_left (by omega)]; exact h1, by rw [mx_old hl]; exact h2, fun g' e e2 => ?_⟩
      simp [Value.ownBlock] at e2
      rw [← e2] at e
      exact h3 e
    · have e : i = M.length := by simp at hi; omega
      subst e
      refine ⟨u, by rw [List.getElem?_append_right (by omega), hul]; simp, by rw [mx_new]; exact qn, fun g' e e2 => ?_⟩
      simp [Value.ownBlock] at e2
      rw [← e2] at e
      exact hug e
  · by_cases hl : j < M.length
    · rw [List.getElem?_append_left (by omega)] at e1 e2
      exact h.2.2 i j ui uj hij e1 e2 g' f1 f2
    · have hj : j = us.length := by
        have := (List.getElem?_eq_some_iff.1 e2).1
        simp at this
        omega
      subst hj
      rw [List.getElem?_append_left (by omega)] at e1
      rw [List.getElem?_append_right (by omega)] at e2
      simp at e2
      subst e2
      obtain ⟨u', h1, _, _, h4⟩ := qo i (by omega)
      rw [h1] at e1
      simp at e1
      subst e1
      have a1 := h4 g' f1
      have a2 := (hq.lt g' f2).1
      omega

theorem one1B (a : Option Addr) (n c : Nat) : ∀ u ∈ [Value.slice a n c], u.oneCell' = true := by
  intro u hu
  simp at hu
  subst hu
  rfl

end Go.Proofs.Ytnbaeplbnonhkaa
