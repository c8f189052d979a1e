/- A row of numbers appended to a walk. -/
import Derived.Test.YtecgjhnihagleaaMcYa
namespace Go.Proofs.Ytecgjhnihagleaa
open Go.RowKit Plain Mch Tpc

theorem MOwn.snoc2 {w w9 : World} {B g cap : Nat} {v u : Value} {M : List (List Int)} {us : List Value} {L : List Int} {o : Obj} (h : MOwn w B v M us) (hq : ZRow w B u L) (hu : ∀ g', u.ownBlock = some g' → v.ownBlock ≠ some g' ∧ ∀ u' ∈ us, u'.ownBlock ≠ some g')
    (hown : w9.ownsRow B 27 1 (.slice (some ⟨g, 0, none⟩) (M.length + 1) cap) (M.length + 1) (us ++ [u])) (hgrow : (w.alloc o).grownBy w9 v.ownBlock) (hat : v.ownBlock = some g ∨ g = w.heap.size + 1) :
    MOwn w9 B (.slice (some ⟨g, 0, none⟩) (M.length + 1) cap) (M ++ [L]) (us ++ [u]) := by
  have hul : us.length = M.length := by have := h.1.1; omega
  have hql := World.ownsRow.lt hq
  have qn : ZRow w9 B u L := own_besideM (World.ownsRow.alloc hq o) hgrow (fun g' e e2 => (hu g' e).1 e2.symm)
  have qo : ∀ i, i < M.length → ∃ u', us[i]? = some u' ∧ ZRow w9 B u' (rx M i) ∧ u'.ownBlock ≠ some g := fun i hi => by
    obtain ⟨u', h1, h2, h3⟩ := h.2.1 i hi
    have hlt := World.ownsRow.lt h2
    refine ⟨u', h1, ?_, fun e => ?_⟩
    · exact own_besideM (World.ownsRow.alloc h2 o) hgrow (fun g' e e2 => h3 g' e e2.symm)
    · rcases hat with e2 | e2
      · exact h3 g e e2
      · have := (hlt g e).2; omega
  have hug : u.ownBlock ≠ some g := fun e => by
    rcases hat with e2 | e2
    · exact (hu g e).1 e2
    · have := (hql g e).2; omega
  refine ⟨by rw [List.length_append]; exact hown, fun i hi => ?_, fun i j ui uj hij e1 e2 g' f1 f2 => ?_⟩
  · by_cases hl : i < M.length
    · obtain ⟨u', h1, h2, h3⟩ := qo i hl
      refine ⟨u', by rw [List.getElem?_append_left (by omega)]; exact h1, by rw [rx_old hl]; exact h2, fun g' e e2 => ?_⟩
      simp [Value.ownBlock] at e2
      rw [← e2] at e
      exact h3 e
    · have e : i = M.length := by simp at hi; omega
      subst e
      refine ⟨u, by rw [List.getElem?_append_right (by omega), hul]; simp, by rw [rx_new]; exact qn, fun g' e e2 => ?_⟩
      simp [Value.ownBlock] at e2
      rw [← e2] at e
      exact hug e
  · by_cases hl : j < M.length
    · rw [List.getElem?_append_left (by omega)] at e1 e2
      exact h.2.2 i j ui uj hij e1 e2 g' f1 f2
    · have hj : j = us.length := by
        have := (List.getElem?_eq_some_iff.1 e2).1
        simp at this
        omega
      subst hj
      rw [List.getElem?_append_left (by omega)] at e1
      rw [List.getElem?_append_right (by omega)] at e2
      simp at e2
      subst e2
      exact (hu g' f2).2 ui (List.mem_of_getElem? e1) f1

/-- a row appended, and stored -/
theorem PWa.next {w w9 : World} {B b g cap : Nat} {vp vn vt u : Value} {l : List Pq} {T : List ByteArray} {R : List (List Int)} {us : List Value} {r : List Int} {o : Obj} (h : PWa w B b vp vn vt l T R us) (hq : ZRow w B u r)
    (hu : ∀ g', u.ownBlock = some g' → g' ≠ b ∧ (∀ v ∈ [vp, vn, vt], v.ownBlock ≠ some g') ∧ ∀ u' ∈ us, u'.ownBlock ≠ some g')
    (hown : w9.ownsRow B 27 1 (.slice (some ⟨g, 0, none⟩) (R.length + 1) cap) (R.length + 1) (us ++ [u])) (hgrow : (w.alloc o).grownBy w9 vn.ownBlock) (hat : vn.ownBlock = some g ∨ g = w.heap.size + 1) :
    TNx w w9 b 1 vn ∧ PWa (w9.setCell ⟨b, 1, none⟩ (.slice (some ⟨g, 0, none⟩) (R.length + 1) cap)) B b vp (.slice (some ⟨g, 0, none⟩) (R.length + 1) cap) vt l T (R ++ [r]) (us ++ [u]) ∧ Below B w (w9.setCell ⟨b, 1, none⟩ (.slice (some ⟨g, 0, none⟩) (R.length + 1) cap)) := by
  have hsg : w.heap.size + 1 ≤ w9.heap.size := by have := hgrow.size; simpa using this
  have hlb := h.lb
  have hBb := h.hb
  have far : some b ≠ vn.ownBlock := fun e => h.an b e.symm rfl
  have hblk : w9.heap[b]? = w.heap[b]? := by
    rw [hgrow.block b (by simp; omega) far, Below.heap_alloc _ _ _ (by omega)]
  have c0 : w9.cell? ⟨b, 0, none⟩ = some vp := (World.cell?_of_block (w := w) hblk).trans h.c0
  have c1 : w9.cell? ⟨b, 1, none⟩ = some vn := (World.cell?_of_block (w := w) hblk).trans h.c1
  have c2 : w9.cell? ⟨b, 2, none⟩ = some vt := (World.cell?_of_block (w := w) hblk).trans h.c2
  have f0 : w9.frozen? ⟨b, 0, none⟩ = false := (World.frozen?_of_block (w := w) hblk).trans h.f0
  have f1 : w9.frozen? ⟨b, 1, none⟩ = false := (World.frozen?_of_block (w := w) hblk).trans h.f1
  have f2 : w9.frozen? ⟨b, 2, none⟩ = false := (World.frozen?_of_block (w := w) hblk).trans h.f2
  have hgb : g ≠ b := by rcases hat with e | e; exact h.an g e; omega
  have sto : ∀ {e size n : Nat} {v : Value} {xs : List Value}, w9.ownsRow B e size v n xs → v.ownBlock ≠ some b → (w9.setCell ⟨b, 1, none⟩ (.slice (some ⟨g, 0, none⟩) (R.length + 1) cap)).ownsRow B e size v n xs := fun hr hne => by
    refine ⟨hr.1, ?_⟩
    rcases hr.2 with hn | ⟨g', cap', cur, hv, hg, hgg, rest⟩
    · exact .inl hn
    · exact .inr ⟨g', cap', cur, hv, hg, (Below.heap_setCell _ _ _ _ (show g' ≠ b from fun e => hne (by rw [hv, ← e]; rfl))).trans hgg, rest⟩
  have ol : ∀ {v : Value} {e size n : Nat} {xs : List Value}, w.ownsRow B e size v n xs → (∀ g', v.ownBlock = some g' → some g' ≠ vn.ownBlock) → v.ownBlock ≠ some b → (w9.setCell ⟨b, 1, none⟩ (.slice (some ⟨g, 0, none⟩) (R.length + 1) cap)).ownsRow B e size v n xs := fun hr hne hb => sto (own_besideM (World.ownsRow.alloc hr o) hgrow hne) hb
  have hM := h.rn.snoc2 hq (fun g' e => ⟨(hu g' e).2.1 vn (by simp), (hu g' e).2.2⟩) hown hgrow hat
  have hau : ∀ u' ∈ us ++ [u], u'.ownBlock ≠ some b := fun u' hu' e => by
    rw [List.mem_append] at hu'
    rcases hu' with hu' | hu'
    · exact h.au u' hu' e
    · simp at hu'; subst hu'; exact (hu b e).1 rfl
  have hfresh : ∀ {v : Value} {e size n : Nat} {xs : List Value}, w.ownsRow B e size v n xs → (vn.ownBlock = some g → v.ownBlock ≠ some g) → v.ownBlock ≠ some g := fun hr hh e => by
    rcases hat with e2 | e2
    · exact hh e2 e
    · have := (World.ownsRow.lt hr g e).2; omega
  refine ⟨⟨c1, f1, by omega⟩, ⟨by simp; omega, h.hb, ?_, World.cell?_setCell_same _ _ _ c1, ?_, by rw [World.frozen?_setCell]; exact f0, by rw [World.frozen?_setCell]; exact f1, by rw [World.frozen?_setCell]; exact f2, ol h.rp (fun g' e e2 => (h.ap g' e).2.2.1 e2.symm) (fun e => (h.ap b e).1 rfl), ?_, ol h.rt (fun g' e e2 => (h.at' g' e).2.1 e2.symm) (fun e => (h.at' b e).1 rfl), ?_, ?_, ?_, hau⟩, ?_⟩
  · rw [World.cell?_setCell_other _ _ _ _ (by simp)]; exact c0
  · rw [World.cell?_setCell_other _ _ _ _ (by simp)]; exact c2
  · refine ⟨sto hM.1 (by simp [Value.ownBlock]; exact hgb), fun i hi => ?_, hM.2.2⟩
    obtain ⟨u', k1, k2, k3⟩ := hM.2.1 i hi
    exact ⟨u', k1, sto k2 (hau u' (List.mem_of_getElem? k1)), k3⟩
  · intro g' hg'
    obtain ⟨a1, a2, a3, a4⟩ := h.ap g' hg'
    refine ⟨a1, a2, fun e => ?_, fun u' hu' e => ?_⟩
    · simp [Value.ownBlock] at e
      subst e
      exact hfresh h.rp (fun e => fun e2 => (h.ap g e2).2.2.1 e) hg'
    · rw [List.mem_append] at hu'
      rcases hu' with hu' | hu'
      · exact a4 u' hu' e
      · simp at hu'; subst hu'; exact (hu g' e).2.1 vp (by simp) hg'
  · intro g' hg'
    obtain ⟨a1, a2, a3⟩ := h.at' g' hg'
    refine ⟨a1, fun e => ?_, fun u' hu' e => ?_⟩
    · simp [Value.ownBlock] at e
      subst e
      exact hfresh h.rt (fun e => fun e2 => (h.at' g e2).2.1 e) hg'
    · rw [List.mem_append] at hu'
      rcases hu' with hu' | hu'
      · exact a3 u' hu' e
      · simp at hu'; subst hu'; exact (hu g' e).2.1 vt (by simp) hg'
  · intro g' hg'
    simp [Value.ownBlock] at hg'
    subst hg'
    exact hgb
  · refine ⟨hgrow.os, hgrow.tape, hgrow.output, by simp; omega, fun j hj => ?_⟩
    rw [Below.heap_setCell _ _ _ _ (show j ≠ b by omega), hgrow.block j (by simp; omega) (fun e => by have := (World.ownsRow.lt h.rn.1 j e.symm).1; omega), Below.heap_alloc _ _ _ (by omega)]

end Go.Proofs.Ytecgjhnihagleaa
