/- What MeetMachines tells, in plain words; a machine's variable whose ends are appended. A machine whose Next and Ends were made one after the other. The pairs that are reached lead to pairs that are reached. -/
import Derived.Test.YtecgjhnihagleaaXg
import Derived.Test.YtecgjhnihagleaaMcT
namespace Go.Proofs.Ytecgjhnihagleaa
open Go.RowKit Plain Mch Tpc

/-- whether a pair's states both end -/
def Mch.ben (E F : List Bool) (p : Pq) : Bool := en E p.a && en F p.b
def Mch.mok (A : List (List Int)) (E : List Bool) (B : List (List Int)) (F : List Bool) : Bool := (gm A E && gm B F) && decide ((prs A B).length ≤ 12)
def Mch.meM (A : List (List Int)) (E : List Bool) (B : List (List Int)) (F : List Bool) : List (List Int) := if mok A E B F then NR A B (prs A B).length else []
def Mch.meE (A : List (List Int)) (E : List Bool) (B : List (List Int)) (F : List Bool) : List Bool := if mok A E B F then (prs A B).map (ben E F) else []

theorem rx_NR (A B : List (List Int)) {n i : Nat} (h : i < n) : rx (NR A B n) i = nri A B i := by
  unfold rx NR
  rw [List.getD, List.getElem?_map, List.getElem?_range h]
  rfl

theorem me_len (A : List (List Int)) (E : List Bool) (B : List (List Int)) (F : List Bool) : (meM A E B F).length ≤ 12 ∧ (meE A E B F).length ≤ 12 ∧ ∀ i, i < (meM A E B F).length → (rx (meM A E B F) i).length ≤ 3 := by
  unfold meM meE
  cases h : mok A E B F with
  | false => exact ⟨by simp, by simp, fun i hi => by simp at hi⟩
  | true =>
    have h12 : (prs A B).length ≤ 12 := by
      unfold mok at h
      simp at h
      exact h.2
    simp only [if_true]
    refine ⟨by rw [NR_len]; exact h12, by rw [List.length_map]; exact h12, fun i hi => ?_⟩
    rw [NR_len] at hi
    rw [rx_NR A B hi, nri_len]
    exact Nat.le_refl _

theorem ben_at {l : List Pq} {E F : List Bool} {i : Nat} (h : i < l.length) : (l.map (ben E F)).take (i + 1) = (l.map (ben E F)).take i ++ [ben E F (pq l i)] := by
  rw [List.take_add_one, List.getElem?_map, pq_at h]
  rfl

/-- a machine's variable: its Next is laid, its Ends grow -/
structure VSt (w : World) (b : Nat) (vn e : Value) (G : List Bool) : Prop where
  lb : b < w.heap.size
  c0 : w.cell? ⟨b, 0, none⟩ = some vn
  c1 : w.cell? ⟨b, 1, none⟩ = some e
  f1 : w.frozen? ⟨b, 1, none⟩ = false
  own : ERow w (b + 1) e G

theorem VSt.below {w w' : World} {b : Nat} {vn e : Value} {G : List Bool} (h : VSt w b vn e G) (hb : Below w.heap.size w w') : VSt w' b vn e G :=
  ⟨Nat.lt_of_lt_of_le h.lb hb.size, (hb.cell (p := ⟨b, 0, none⟩) h.lb).trans h.c0, (hb.cell (p := ⟨b, 1, none⟩) h.lb).trans h.c1, (hb.frozen (p := ⟨b, 1, none⟩) h.lb).trans h.f1, own_belowM h.own hb⟩

theorem VSt.ends {w w9 : World} {b g cap : Nat} {vn e : Value} {G : List Bool} {x : Bool} {o : Obj} (h : VSt w b vn e G)
    (hown : w9.ownsRow (b + 1) 4 1 (.slice (some ⟨g, 0, none⟩) (G.length + 1) cap) (G.length + 1) (bols G ++ [.bool x])) (hgrow : (w.alloc o).grownBy w9 e.ownBlock) :
    TNx w w9 b 1 e ∧ VSt (w9.setCell ⟨b, 1, none⟩ (.slice (some ⟨g, 0, none⟩) (G.length + 1) cap)) b vn (.slice (some ⟨g, 0, none⟩) (G.length + 1) cap) (G ++ [x]) ∧ Below b w (w9.setCell ⟨b, 1, none⟩ (.slice (some ⟨g, 0, none⟩) (G.length + 1) cap)) := by
  have hel := World.ownsRow.lt h.own
  have hsg : w.heap.size + 1 ≤ w9.heap.size := by have := hgrow.size; simpa using this
  have hlb := h.lb
  have far : some b ≠ e.ownBlock := fun e => by have := (hel b e.symm).1; omega
  have hblk : w9.heap[b]? = w.heap[b]? := by
    rw [hgrow.block b (by simp; omega) far, Below.heap_alloc _ _ _ (by omega)]
  have c0 : w9.cell? ⟨b, 0, none⟩ = some vn := (World.cell?_of_block (w := w) hblk).trans h.c0
  have c1 : w9.cell? ⟨b, 1, none⟩ = some e := (World.cell?_of_block (w := w) hblk).trans h.c1
  have f1 : w9.frozen? ⟨b, 1, none⟩ = false := (World.frozen?_of_block (w := w) hblk).trans h.f1
  refine ⟨⟨c1, f1, by omega⟩, ⟨by simp; omega, ?_, World.cell?_setCell_same _ _ _ c1, by rw [World.frozen?_setCell]; exact f1, ownsRow_setCell_below (ERow.snoc hown) (a := ⟨b, 1, none⟩) (by show b < b + 1; omega) _⟩, ?_⟩
  · rw [World.cell?_setCell_other _ _ _ _ (by simp)]; exact c0
  · refine ⟨hgrow.os, hgrow.tape, hgrow.output, by simp; omega, fun j hj => ?_⟩
    rw [Below.heap_setCell _ _ _ _ (show j ≠ b by omega), hgrow.block j (by simp; omega) (fun e => by have := (hel j e.symm).1; omega), Below.heap_alloc _ _ _ (by omega)]

end Go.Proofs.Ytecgjhnihagleaa

namespace Go.Proofs.Ytecgjhnihagleaa
open Go.RowKit Plain Mch

theorem MaOwn.join {w w' : World} {B : Nat} {v e : Value} {M : List (List Int)} {us : List Value} {E : List Bool} (h : MOwn w B v M us) (he : ERow w' w.heap.size e E) (hb : Below w.heap.size w w') (hB : B ≤ w.heap.size) : MaOwn w' B v e M E us := by
  refine ⟨h.below hb, own_lowerM he hB, fun g hg => ⟨fun e2 => ?_, fun u hu e2 => ?_⟩⟩
  · have h1 := World.ownsRow.lt he g hg
    have h2 := World.ownsRow.lt h.1 g e2
    omega
  · obtain ⟨i, hi, hu2⟩ := List.getElem_of_mem hu
    have hl : us.length = M.length := by have := h.1.1; omega
    obtain ⟨u', hu', hz, _⟩ := h.2.1 i (by omega)
    rw [List.getElem?_eq_getElem hi, hu2] at hu'
    injection hu' with hu'
    subst hu'
    have h1 := World.ownsRow.lt he g hg
    have h2 := World.ownsRow.lt hz g e2
    omega

end Go.Proofs.Ytecgjhnihagleaa

namespace Go.Proofs.Ytecgjhnihagleaa
open Go.RowKit Plain Mch Tpc

theorem prs_reach {A B : List (List Int)} {E F : List Bool} (hA : gm A E = true) (hB : gm B F = true) : ∀ i, i ≤ (prs A B).length → ∃ l, At A B i l
  | 0, _ => ⟨_, At.start hA hB⟩
  | i + 1, h => by
    obtain ⟨l, hl⟩ := prs_reach hA hB i (by omega)
    by_cases hi : i < l.length
    · exact ⟨_, hl.next hA hB hi⟩
    · have h1 := hl.le
      have h2 := hl.done hA hB (by omega)
      rw [← h2] at h
      omega

theorem prs_closed {A B : List (List Int)} {E F : List Bool} (hA : gm A E = true) (hB : gm B F = true) {i k : Nat} (hi : i < (prs A B).length) (hk : k < 3) : ix (prs A B) (nt A (pq (prs A B) i).a k) (nt B (pq (prs A B) i).b k) < (prs A B).length := by
  obtain ⟨l, hl⟩ := prs_reach hA hB i (by omega)
  have hil : i < l.length := by
    by_cases h : i < l.length
    · exact h
    · have h1 := hl.le
      have h2 := hl.done hA hB (by omega)
      rw [← h2] at hi
      omega
  rw [← stk_ix hA hB hl hil hk]
  obtain ⟨m, e1⟩ := (hl.next hA hB hil).ahead
  obtain ⟨m2, e2⟩ := stk_more A B l (pq l i) (k + 1) (2 - k)
  rw [show k + 1 + (2 - k) = 3 by omega, stk_3] at e2
  have h2 := (ix_pu (stk A B l (pq l i) k) (qn A B (pq l i) k)).2
  have h3 : (stk A B l (pq l i) (k + 1)).length ≤ (prs A B).length := by rw [e1, e2, List.length_append, List.length_append]; omega
  exact Nat.lt_of_lt_of_le h2 h3

theorem below_grown {W w6 w9 : World} {B : Nat} {o : Obj} {row : Option Nat} (h : Below B W w6) (hB : B ≤ w6.heap.size) (hg : (w6.alloc o).grownBy w9 row) (hr : ∀ g, row = some g → B ≤ g) : Below B W w9 := by
  have h7 : Below B W (w6.alloc o) := h.alloc hB o
  refine ⟨hg.os.trans h7.os, hg.tape.trans h7.tape, hg.output.trans h7.output, Nat.le_trans h7.size hg.size, fun j hj => ?_⟩
  rw [hg.block j (by simp; omega) (fun e => by have := hr j e.symm; omega)]
  exact h7.block j hj

theorem ZRow.snocM {w9 : World} {B g cap : Nat} {l : List Int} {x : Int} (hown : w9.ownsRow B 3 1 (.slice (some ⟨g, 0, none⟩) (l.length + 1) cap) (l.length + 1) (zints l ++ [.int .i64 x])) : ZRow w9 B (.slice (some ⟨g, 0, none⟩) (l.length + 1) cap) (l ++ [x]) := by
  unfold ZRow
  rw [List.length_append, List.length_singleton, show zints (l ++ [x]) = zints l ++ [.int .i64 x] by simp [zints]]
  exact hown

theorem onezJ (x : Int) : ∀ u ∈ [Value.int .i64 x], u.oneCell' = true := by
  intro u hu
  simp at hu
  subst hu
  rfl

end Go.Proofs.Ytecgjhnihagleaa
