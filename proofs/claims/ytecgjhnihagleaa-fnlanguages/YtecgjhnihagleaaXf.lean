/- Machines in the making: a variable whose rows are appended; slices.Clone of a row. A walk over pairs of states in memory: its pairs, the numbers that they go to, their texts. The program's comeTo. -/
import Derived.Test.YtecgjhnihagleaaXe
import Derived.Test.YtecgjhnihagleaaMcR
import Derived.Deep.AppendLies
import Derived.Deep.RegionLaw
import Derived.Lib.SliceRun
import Derived.Test.YtecgjhnihagleaaXa
import Derived.Laws.StructEq
namespace Go.Proofs.Ytecgjhnihagleaa
open Go.RowKit Plain Mch

theorem one1M (a : Option Addr) (n c : Nat) : ∀ u ∈ [Value.slice a n c], u.oneCell' = true := by
  intro u hu
  simp at hu
  subst hu
  rfl
theorem onebM (b : Bool) : ∀ u ∈ [Value.bool b], u.oneCell' = true := by
  intro u hu
  simp at hu
  subst hu
  rfl
theorem onezM (l : List Int) : ∀ u ∈ zints l, u.oneCell' = true := by
  intro u hu
  unfold zints at hu
  rw [List.mem_map] at hu
  obtain ⟨x, _, rfl⟩ := hu
  rfl

theorem rx_old {M : List (List Int)} {L : List Int} {i : Nat} (h : i < M.length) : rx (M ++ [L]) i = rx M i := by
  unfold rx
  rw [List.getD, List.getD, List.getElem?_append_left h]
theorem rx_new (M : List (List Int)) (L : List Int) : rx (M ++ [L]) M.length = L := by
  unfold rx
  simp [List.getD]

theorem MOwn.nil (w : World) (B : Nat) : MOwn w B (.slice none 0 0) [] [] := ⟨⟨rfl, .inl ⟨rfl, rfl⟩⟩, fun i hi => by simp at hi, fun i j ui uj _ h => by simp at h⟩
theorem ERow.nil (w : World) (B : Nat) : ERow w B (.slice none 0 0) [] := ⟨rfl, .inl ⟨rfl, rfl⟩⟩
theorem MaOwn.nil (w : World) (B : Nat) : MaOwn w B (.slice none 0 0) (.slice none 0 0) [] [] [] := ⟨MOwn.nil w B, ERow.nil w B, fun g hg => by simp [Value.ownBlock] at hg⟩

theorem MOwn.snoc {w w2 w9 : World} {B g cap : Nat} {v u : Value} {M : List (List Int)} {us : List Value} {L : List Int} {o : Obj} (h : MOwn w B v M us) (hb : Below w.heap.size w w2) (hq : ZRow w2 w.heap.size u L)
    (hown : w9.ownsRow B 27 1 (.slice (some ⟨g, 0, none⟩) (M.length + 1) cap) (M.length + 1) (us ++ [u])) (hgrow : (w2.alloc o).grownBy w9 v.ownBlock) (hat : v.ownBlock = some g ∨ g = w2.heap.size + 1) (hBw : B ≤ w.heap.size) :
    MOwn w9 B (.slice (some ⟨g, 0, none⟩) (M.length + 1) cap) (M ++ [L]) (us ++ [u]) := by
  have hul : us.length = M.length := by have := h.1.1; omega
  have hvl := World.ownsRow.lt h.1
  have hs := hb.size
  have hql := World.ownsRow.lt hq
  have hne : ∀ g', u.ownBlock = some g' → v.ownBlock ≠ some g' := fun g' e e2 => by
    have h1 := (hql g' e).1
    have h2 := (hvl g' e2).2
    omega
  have qn : ZRow w9 B u L := own_lowerM (own_besideM (World.ownsRow.alloc hq o) hgrow (fun g' e e2 => hne g' e e2.symm)) hBw
  have qo : ∀ i, i < M.length → ∃ u', us[i]? = some u' ∧ ZRow w9 B u' (rx M i) ∧ u'.ownBlock ≠ some g ∧ ∀ g', u'.ownBlock = some g' → g' < w.heap.size := fun i hi => by
    obtain ⟨u', h1, h2, h3⟩ := h.2.1 i hi
    have hlt := World.ownsRow.lt h2
    refine ⟨u', h1, ?_, fun e => ?_, fun g' e => (hlt g' e).2⟩
    · exact own_besideM (World.ownsRow.alloc (own_belowM h2 hb) o) hgrow (fun g' e e2 => h3 g' e e2.symm)
    · rcases hat with e2 | e2
      · exact h3 g e e2
      · have := (hlt g e).2; omega
  have hug : u.ownBlock ≠ some g := fun e => by
    rcases hat with e2 | e2
    · exact hne g e e2
    · have := (hql g e).2; omega
  refine ⟨by rw [List.length_append]; exact hown, fun i hi => ?_, fun i j ui uj hij e1 e2 g' f1 f2 => ?_⟩
  · by_cases hl : i < M.length
    · obtain ⟨u', h1, h2, h3, _⟩ := qo i hl
      refine ⟨u', by rw [List.getElem?_append_left (by omega)]; exact h1, by rw [rx_old hl]; exact h2, fun g' e e2 => ?_⟩
      simp [Value.ownBlock] at e2
      rw [← e2] at e
      exact h3 e
    · have e : i = M.length := by simp at hi; omega
      subst e
      refine ⟨u, by rw [List.getElem?_append_right (by omega), hul]; simp, by rw [rx_new]; exact qn, fun g' e e2 => ?_⟩
      simp [Value.ownBlock] at e2
      rw [← e2] at e
      exact hug e
  · by_cases hl : j < M.length
    · rw [List.getElem?_append_left (by omega)] at e1 e2
      exact h.2.2 i j ui uj hij e1 e2 g' f1 f2
    · have hj : j = us.length := by
        have := (List.getElem?_eq_some_iff.1 e2).1
        simp at this
        omega
      subst hj
      rw [List.getElem?_append_left (by omega)] at e1
      rw [List.getElem?_append_right (by omega)] at e2
      simp at e2
      subst e2
      obtain ⟨u', h1, _, _, h4⟩ := qo i (by omega)
      rw [h1] at e1
      simp at e1
      subst e1
      have a1 := h4 g' f1
      have a2 := (hql g' f2).1
      omega

/-- a machine's variable, whose rows are appended: all of them lie behind it -/
structure TSt (w : World) (b : Nat) (v e : Value) (L : List (List Int)) (F : List Bool) (us : List Value) : Prop where
  lb : b < w.heap.size
  c0 : w.cell? ⟨b, 0, none⟩ = some v
  c1 : w.cell? ⟨b, 1, none⟩ = some e
  f0 : w.frozen? ⟨b, 0, none⟩ = false
  f1 : w.frozen? ⟨b, 1, none⟩ = false
  own : MaOwn w (b + 1) v e L F us

theorem TSt.below {w w' : World} {b : Nat} {v e : Value} {L : List (List Int)} {F : List Bool} {us : List Value} (h : TSt w b v e L F us) (hb : Below w.heap.size w w') : TSt w' b v e L F us :=
  ⟨Nat.lt_of_lt_of_le h.lb hb.size, (hb.cell (p := ⟨b, 0, none⟩) h.lb).trans h.c0, (hb.cell (p := ⟨b, 1, none⟩) h.lb).trans h.c1, (hb.frozen (p := ⟨b, 0, none⟩) h.lb).trans h.f0, (hb.frozen (p := ⟨b, 1, none⟩) h.lb).trans h.f1, h.own.below hb⟩

theorem TSt.drew {w : World} {b : Nat} {v e : Value} {L : List (List Int)} {F : List Bool} {us : List Value} (h : TSt w b v e L F us) : TSt w.drew b v e L F us := h.below ((Below.refl _ w).drew)

/-- what a step leaves: the variable's new state, and the cell that is stored into as it was -/
structure TNx (w w9 : World) (b k : Nat) (x : Value) : Prop where
  c : w9.cell? ⟨b, k, none⟩ = some x
  f : w9.frozen? ⟨b, k, none⟩ = false
  lb : b < w9.heap.size

theorem TSt.next {w w2 w9 : World} {b g cap : Nat} {v e u : Value} {L : List (List Int)} {F : List Bool} {us : List Value} {r : List Int} {o : Obj} (h : TSt w b v e L F us) (hb : Below w.heap.size w w2) (hq : ZRow w2 w.heap.size u r)
    (hown : w9.ownsRow (b + 1) 27 1 (.slice (some ⟨g, 0, none⟩) (L.length + 1) cap) (L.length + 1) (us ++ [u])) (hgrow : (w2.alloc o).grownBy w9 v.ownBlock) (hat : v.ownBlock = some g ∨ g = w2.heap.size + 1) :
    TNx w w9 b 0 v ∧ TSt (w9.setCell ⟨b, 0, none⟩ (.slice (some ⟨g, 0, none⟩) (L.length + 1) cap)) b (.slice (some ⟨g, 0, none⟩) (L.length + 1) cap) e (L ++ [r]) F (us ++ [u]) ∧ Below b w (w9.setCell ⟨b, 0, none⟩ (.slice (some ⟨g, 0, none⟩) (L.length + 1) cap)) := by
  have hvl := World.ownsRow.lt h.own.1.1
  have hel := World.ownsRow.lt h.own.2.1
  have hs2 := hb.size
  have hsg : w2.heap.size + 1 ≤ w9.heap.size := by have := hgrow.size; simpa using this
  have hlb := h.lb
  have far : some b ≠ v.ownBlock := fun e => by have := (hvl b e.symm).1; omega
  have hblk : w9.heap[b]? = w.heap[b]? := by
    rw [hgrow.block b (by simp; omega) far, Below.heap_alloc _ _ _ (by omega), hb.block b hlb]
  have c0 : w9.cell? ⟨b, 0, none⟩ = some v := (World.cell?_of_block (w := w) hblk).trans h.c0
  have c1 : w9.cell? ⟨b, 1, none⟩ = some e := (World.cell?_of_block (w := w) hblk).trans h.c1
  have f0 : w9.frozen? ⟨b, 0, none⟩ = false := (World.frozen?_of_block (w := w) hblk).trans h.f0
  have f1 : w9.frozen? ⟨b, 1, none⟩ = false := (World.frozen?_of_block (w := w) hblk).trans h.f1
  have hE : ERow w9 (b + 1) e F := own_besideM (World.ownsRow.alloc (own_belowM h.own.2.1 hb) o) hgrow (fun g' e1 e2 => (h.own.2.2 g' e1).1 e2.symm)
  have hM := h.own.1.snoc hb hq hown hgrow hat (by omega)
  refine ⟨⟨c0, f0, by omega⟩, ⟨by simp; omega, World.cell?_setCell_same _ _ _ c0, ?_, by rw [World.frozen?_setCell]; exact f0, by rw [World.frozen?_setCell]; exact f1, ?_⟩, ?_⟩
  · rw [World.cell?_setCell_other _ _ _ _ (by simp)]; exact c1
  · refine ⟨hM.setCell (a := ⟨b, 0, none⟩) (by show b < b + 1; omega) _, ownsRow_setCell_below hE (a := ⟨b, 0, none⟩) (by show b < b + 1; omega) _, fun g' hg' => ⟨fun e2 => ?_, fun u' hu' e2 => ?_⟩⟩
    · simp [Value.ownBlock] at e2
      subst e2
      rcases hat with e3 | e3
      · exact (h.own.2.2 g hg').1 e3
      · have := (hel g hg').2; omega
    · rw [List.mem_append] at hu'
      rcases hu' with hu' | hu'
      · exact (h.own.2.2 g' hg').2 u' hu' e2
      · simp at hu'
        subst hu'
        have k1 := (World.ownsRow.lt hq g' e2).1
        have k2 := (hel g' hg').2
        omega
  · refine ⟨hgrow.os.trans hb.os, hgrow.tape.trans hb.tape, hgrow.output.trans hb.output, by simp; omega, fun j hj => ?_⟩
    rw [Below.heap_setCell _ _ _ _ (show j ≠ b by omega), hgrow.block j (by simp; omega) (fun e => by have := (hvl j e.symm).1; omega), Below.heap_alloc _ _ _ (by omega), hb.block j (by omega)]

theorem ERow.snoc {w9 : World} {B g cap : Nat} {F : List Bool} {x : Bool} (hown : w9.ownsRow B 4 1 (.slice (some ⟨g, 0, none⟩) (F.length + 1) cap) (F.length + 1) (bols F ++ [.bool x])) : ERow w9 B (.slice (some ⟨g, 0, none⟩) (F.length + 1) cap) (F ++ [x]) := by
  unfold ERow
  rw [List.length_append, List.length_singleton, show bols (F ++ [x]) = bols F ++ [.bool x] by simp [bols]]
  exact hown

theorem TSt.ends {w w9 : World} {b g cap : Nat} {v e : Value} {L : List (List Int)} {F : List Bool} {us : List Value} {x : Bool} {o : Obj} (h : TSt w b v e L F us)
    (hown : w9.ownsRow (b + 1) 4 1 (.slice (some ⟨g, 0, none⟩) (F.length + 1) cap) (F.length + 1) (bols F ++ [.bool x])) (hgrow : (w.alloc o).grownBy w9 e.ownBlock) (hat : e.ownBlock = some g ∨ g = w.heap.size + 1) :
    TNx w w9 b 1 e ∧ TSt (w9.setCell ⟨b, 1, none⟩ (.slice (some ⟨g, 0, none⟩) (F.length + 1) cap)) b v (.slice (some ⟨g, 0, none⟩) (F.length + 1) cap) L (F ++ [x]) us ∧ Below b w (w9.setCell ⟨b, 1, none⟩ (.slice (some ⟨g, 0, none⟩) (F.length + 1) cap)) := by
  have hel := World.ownsRow.lt h.own.2.1
  have hvl := World.ownsRow.lt h.own.1.1
  have hsg : w.heap.size + 1 ≤ w9.heap.size := by have := hgrow.size; simpa using this
  have hlb := h.lb
  have far : some b ≠ e.ownBlock := fun e => by have := (hel b e.symm).1; omega
  have hblk : w9.heap[b]? = w.heap[b]? := by
    rw [hgrow.block b (by simp; omega) far, Below.heap_alloc _ _ _ (by omega)]
  have c0 : w9.cell? ⟨b, 0, none⟩ = some v := (World.cell?_of_block (w := w) hblk).trans h.c0
  have c1 : w9.cell? ⟨b, 1, none⟩ = some e := (World.cell?_of_block (w := w) hblk).trans h.c1
  have f0 : w9.frozen? ⟨b, 0, none⟩ = false := (World.frozen?_of_block (w := w) hblk).trans h.f0
  have f1 : w9.frozen? ⟨b, 1, none⟩ = false := (World.frozen?_of_block (w := w) hblk).trans h.f1
  have hM : MOwn w9 (b + 1) v L us := by
    refine ⟨own_besideM (World.ownsRow.alloc h.own.1.1 o) hgrow (fun g' e1 e2 => (h.own.2.2 g' e2.symm).1 e1), fun i hi => ?_, h.own.1.2.2⟩
    obtain ⟨u, k1, k2, k3⟩ := h.own.1.2.1 i hi
    exact ⟨u, k1, own_besideM (World.ownsRow.alloc k2 o) hgrow (fun g' e1 e2 => (h.own.2.2 g' e2.symm).2 u (List.mem_of_getElem? k1) e1), k3⟩
  refine ⟨⟨c1, f1, by omega⟩, ⟨by simp; omega, ?_, World.cell?_setCell_same _ _ _ c1, by rw [World.frozen?_setCell]; exact f0, by rw [World.frozen?_setCell]; exact f1, ?_⟩, ?_⟩
  · rw [World.cell?_setCell_other _ _ _ _ (by simp)]; exact c0
  · refine ⟨hM.setCell (a := ⟨b, 1, none⟩) (by show b < b + 1; omega) _, ownsRow_setCell_below (ERow.snoc hown) (a := ⟨b, 1, none⟩) (by show b < b + 1; omega) _, fun g' hg' => ?_⟩
    simp [Value.ownBlock] at hg'
    subst hg'
    rcases hat with e3 | e3
    · exact h.own.2.2 g e3
    · refine ⟨fun e2 => ?_, fun u' hu' e2 => ?_⟩
      · have := (hvl g e2).2; omega
      · have := (h.own.1.rows u' hu' g e2).2; omega
  · refine ⟨hgrow.os, hgrow.tape, hgrow.output, by simp; omega, fun j hj => ?_⟩
    rw [Below.heap_setCell _ _ _ _ (show j ≠ b by omega), hgrow.block j (by simp; omega) (fun e => by have := (hel j e.symm).1; omega), Below.heap_alloc _ _ _ (by omega)]

theorem zat_news {w : World} {g o n c : Nat} {l : List Int} (h : ZAt w w.heap.size (.slice (some ⟨g, o, none⟩) n c) l) : ∀ j u, (zints l)[j]? = some u → w.cell? ((⟨g, o, none⟩ : Addr).add j) = some u := fun j u hj => by
  obtain ⟨ao, cap, hv, _, _, hr⟩ := h
  simp only [Value.slice.injEq] at hv
  obtain ⟨rfl, rfl, rfl⟩ := hv
  unfold zints at hj
  rw [List.getElem?_map, Option.map_eq_some_iff] at hj
  obtain ⟨x, hx, rfl⟩ := hj
  obtain ⟨g', o', e, _, c⟩ := hr j x hx
  simp at e
  obtain ⟨rfl, rfl⟩ := e
  unfold Addr.add
  by_cases h0 : j = 0
  · subst h0; rw [if_pos rfl]; exact c
  · rw [if_neg h0]; exact c

theorem eqlNilM (a : Addr) (n c : Nat) (W : World) : (binOp .eql 27 (.slice (some a) n c) (.slice none 0 0)).run Try.prog W = .ok (.bool false) W := Lib.run_eql_slice_nil W _ 3 (some a) n c 0 0 Try.underlying27

attribute [local go_sem ↓] eqlNilM

set_option maxRecDepth 100000 in
set_option maxHeartbeats 4000000 in
theorem cloneZ_any (l : List Int) (v : Value) (w : World) (hT : ZAt w w.heap.size v l) (h0 : 0 < l.length) (hl : l.length ≤ 1048576) :
    Calls Try.prog 58 #[v] w fun e w' => ∃ r, e = .returned r ∧ ZRow w' w.heap.size r l ∧ Below w.heap.size w w' := by
  obtain ⟨i0, hi, hz0, hz1, hz2⟩ := info_parts Try.infoInt
  have HT : Hid (ZAt w w.heap.size v l) := hT
  obtain ⟨ao, cap, rfl, hlc, hcm, hrow⟩ := hT
  obtain ⟨x0, hx0⟩ : ∃ x, l[0]? = some x := ⟨_, List.getElem?_eq_getElem h0⟩
  obtain ⟨g, o, rfl, hg, c0⟩ := hrow 0 x0 hx0
  have HNW : Hid (∀ b : Obj, ∀ j u, (zints l)[j]? = some u → (w.alloc b).cell? ((⟨g, o, none⟩ : Addr).add j) = some u) := fun b => zat_news (HT.out.below ((Below.refl _ w).alloc (Nat.le_refl _) b))
  clear hrow hx0 c0
  go_enter Try.func58, Try.ntmps58
  go_wp2_with (at_builtin; refine wpList_append_lies _ rfl _ _ 27 rfl w.heap.size 3 i0 (.int .i64 0) 1 8 Try.underlying27 hi hz0 hz1 hz2 rfl (by decide) _ 0 [] rfl (World.ownsRow_made w #[] 0 (Nat.le_refl _) (by unfold maxLen; omega) rfl) ⟨g, o, none⟩ l.length cap (zints l) rfl (by simp [zints]) (HNW.out _) (onezM l) h0 (by unfold maxLen; omega) (by omega) (by simp) (w.heap.size + 1) (by simp) ?_)
  intro g9 cap9 w9 hown9 hgrow9 hat9 hlt9
  have hB : Below w.heap.size w w9 := ⟨hgrow9.os, hgrow9.tape, hgrow9.output, by have := hgrow9.size; simp at this; omega, fun j hj => (hgrow9.block j (by simp; omega) (by simp [Value.ownBlock]; omega)).trans (Below.heap_alloc _ _ _ hj)⟩
  have HR : Hid (ZRow w9 w.heap.size (.slice (some ⟨g9, 0, none⟩) l.length cap9) l) := by
    show World.ownsRow _ _ _ _ _ _ _
    simpa using hown9
  clear hown9 hgrow9 hat9
  go_wp2
  go_ret
  exact ⟨_, rfl, HR.out, hB⟩

end Go.Proofs.Ytecgjhnihagleaa

namespace Go.Proofs.Ytecgjhnihagleaa
open Go.RowKit Plain Mch Tpc

def Mch.Pq.cells (p : Pq) : List Value := [.int .i64 (p.a : Int), .int .i64 (p.b : Int)]

theorem flatP (l : List Pq) (i j : Nat) (h : i < l.length) (hj : j < 2) : (l.flatMap Pq.cells)[i * 2 + j]? = (pq l i).cells[j]? := by
  induction l generalizing i with
  | nil => simp at h
  | cons a l ih =>
    rw [List.flatMap_cons]
    have ha : a.cells.length = 2 := rfl
    cases i with
    | zero =>
      rw [Nat.zero_mul, Nat.zero_add, List.getElem?_append_left (by omega)]
      rfl
    | succ i =>
      rw [List.getElem?_append_right (by omega)]
      have := ih i (by simpa using h)
      have e : pq (a :: l) (i + 1) = pq l i := by simp [pq]
      rw [e, ← this]
      congr 1
      omega
theorem flatP_len (l : List Pq) : (l.flatMap Pq.cells).length = l.length * 2 := by
  induction l with
  | nil => rfl
  | cons a l ih => rw [List.flatMap_cons, List.length_append, ih, List.length_cons]; have : a.cells.length = 2 := rfl; omega

/-- an own row of pairs -/
def PRow (w : World) (B : Nat) (v : Value) (l : List Pq) : Prop := w.ownsRow B 86 2 v l.length (l.flatMap Pq.cells)

theorem PRow.slice {w : World} {B : Nat} {v : Value} {l : List Pq} (h : PRow w B v l) : ∃ ao cap, v = Value.slice ao l.length cap ∧ cap ≤ maxLen := by
  rcases h.2 with ⟨rfl, h0⟩ | ⟨g, cap, cur, rfl, _, _, h1, h2, _⟩
  · exact ⟨none, 0, by rw [h0], by unfold maxLen; omega⟩
  · exact ⟨_, _, rfl, h2⟩

theorem PRow.cells {w : World} {B n cap : Nat} {ao : Option Addr} {l : List Pq} (h : PRow w B (.slice ao n cap) l) {i : Nat} (hi : i < l.length) : ∃ g, ao = some ⟨g, 0, none⟩ ∧ g < w.heap.size ∧ B ≤ g ∧ w.cell? ⟨g, i * 2, none⟩ = some (.int .i64 ((pq l i).a : Int)) ∧ w.cell? ⟨g, i * 2 + 1, none⟩ = some (.int .i64 ((pq l i).b : Int)) := by
  obtain ⟨g, c, hv⟩ := Joins.ownsRow_form h (by omega)
  simp only [Value.slice.injEq] at hv
  obtain ⟨rfl, rfl, rfl⟩ := hv
  have hlt := World.ownsRow.lt h g rfl
  refine ⟨g, rfl, hlt.2, hlt.1, ?_, ?_⟩
  · have := World.ownsRow.cellAt h (i * 2) (by omega)
    rw [this]
    exact flatP l i 0 hi (by omega)
  · have := World.ownsRow.cellAt h (i * 2 + 1) (by omega)
    rw [this]
    exact flatP l i 1 hi (by omega)

theorem PRow.snoc {w9 : World} {B g cap : Nat} {l : List Pq} {q : Pq} (hown : w9.ownsRow B 86 2 (.slice (some ⟨g, 0, none⟩) (l.length + 1) cap) (l.length + 1) (l.flatMap Pq.cells ++ [.int .i64 (q.a : Int), .int .i64 (q.b : Int)])) : PRow w9 B (.slice (some ⟨g, 0, none⟩) (l.length + 1) cap) (l ++ [q]) := by
  unfold PRow
  rw [List.length_append, List.length_singleton, List.flatMap_append]
  simpa [Pq.cells] using hown

theorem StRow.snoc {w9 : World} {B g cap : Nat} {T : List ByteArray} {s : ByteArray} (hown : w9.ownsRow B 9 1 (.slice (some ⟨g, 0, none⟩) (T.length + 1) cap) (T.length + 1) (strs T ++ [.string s])) : StRow w9 B (.slice (some ⟨g, 0, none⟩) (T.length + 1) cap) (T ++ [s]) := by
  unfold StRow
  rw [List.length_append, List.length_singleton, show strs (T ++ [s]) = strs T ++ [.string s] by simp [strs]]
  exact hown

/-- how a walk lies in memory: its block, its three rows, none of which share a block -/
structure PWa (w : World) (B b : Nat) (vp vn vt : Value) (l : List Pq) (T : List ByteArray) (R : List (List Int)) (us : List Value) : Prop where
  lb : b < w.heap.size
  hb : B ≤ b
  c0 : w.cell? ⟨b, 0, none⟩ = some vp
  c1 : w.cell? ⟨b, 1, none⟩ = some vn
  c2 : w.cell? ⟨b, 2, none⟩ = some vt
  f0 : w.frozen? ⟨b, 0, none⟩ = false
  f1 : w.frozen? ⟨b, 1, none⟩ = false
  f2 : w.frozen? ⟨b, 2, none⟩ = false
  rp : PRow w B vp l
  rn : MOwn w B vn R us
  rt : StRow w B vt T
  ap : ∀ g, vp.ownBlock = some g → g ≠ b ∧ vt.ownBlock ≠ some g ∧ vn.ownBlock ≠ some g ∧ ∀ u ∈ us, u.ownBlock ≠ some g
  at' : ∀ g, vt.ownBlock = some g → g ≠ b ∧ vn.ownBlock ≠ some g ∧ ∀ u ∈ us, u.ownBlock ≠ some g
  an : ∀ g, vn.ownBlock = some g → g ≠ b
  au : ∀ u ∈ us, u.ownBlock ≠ some b

theorem PWa.below {w w' : World} {B b : Nat} {vp vn vt : Value} {l : List Pq} {T : List ByteArray} {R : List (List Int)} {us : List Value} (h : PWa w B b vp vn vt l T R us) (hb : Below w.heap.size w w') : PWa w' B b vp vn vt l T R us :=
  ⟨Nat.lt_of_lt_of_le h.lb hb.size, h.hb, (hb.cell (p := ⟨b, 0, none⟩) h.lb).trans h.c0, (hb.cell (p := ⟨b, 1, none⟩) h.lb).trans h.c1, (hb.cell (p := ⟨b, 2, none⟩) h.lb).trans h.c2, (hb.frozen (p := ⟨b, 0, none⟩) h.lb).trans h.f0, (hb.frozen (p := ⟨b, 1, none⟩) h.lb).trans h.f1, (hb.frozen (p := ⟨b, 2, none⟩) h.lb).trans h.f2, own_belowM h.rp hb, h.rn.below hb, h.rt.below hb, h.ap, h.at', h.an, h.au⟩

/-- what a call may do to a walk: nothing but to its block and its rows' own -/
structure PG (w w' : World) (b : Nat) (vs vs' : List Value) : Prop where
  os : w'.os = w.os
  tape : w'.tape = w.tape
  output : w'.output = w.output
  size : w.heap.size ≤ w'.heap.size
  block : ∀ j, j < w.heap.size → j ≠ b → (∀ v ∈ vs, v.ownBlock ≠ some j) → w'.heap[j]? = w.heap[j]?
  new : ∀ v' ∈ vs', ∀ g, v'.ownBlock = some g → (∃ v ∈ vs, v.ownBlock = some g) ∨ w.heap.size ≤ g

theorem PG.trans {w w1 w2 : World} {b : Nat} {vs vs1 vs2 : List Value} (h : PG w w1 b vs vs1) (h2 : PG w1 w2 b vs1 vs2) : PG w w2 b vs vs2 := by
  refine ⟨h2.os.trans h.os, h2.tape.trans h.tape, h2.output.trans h.output, Nat.le_trans h.size h2.size, fun j hj hc hv => ?_, fun v2 hv2 g hg => ?_⟩
  · refine (h2.block j (Nat.lt_of_lt_of_le hj h.size) hc fun v1 hv1 e => ?_).trans (h.block j hj hc hv)
    rcases h.new v1 hv1 j e with ⟨v, hv', e'⟩ | h3
    · exact hv v hv' e'
    · omega
  · rcases h2.new v2 hv2 g hg with ⟨v1, hv1, e1⟩ | h3
    · exact h.new v1 hv1 g e1
    · exact .inr (Nat.le_trans h.size h3)

theorem PG.of_below {w w' : World} {b : Nat} {vs : List Value} (h : Below w.heap.size w w') : PG w w' b vs vs :=
  ⟨h.os, h.tape, h.output, h.size, fun j hj _ _ => h.block j hj, fun v hv _ hg => .inl ⟨v, hv, hg⟩⟩

theorem PG.below {w w' : World} {b : Nat} {vs vs' : List Value} {B : Nat} (h : PG w w' b vs vs') (h0 : B ≤ w.heap.size) (h1 : B ≤ b) (h2 : ∀ v ∈ vs, ∀ g, v.ownBlock = some g → B ≤ g) : Below B w w' :=
  ⟨h.os, h.tape, h.output, h.size, fun j hj => h.block j (by omega) (by omega) (fun v hv e => by have := h2 v hv j e; omega)⟩

theorem PWa.low {w : World} {B b : Nat} {vp vn vt : Value} {l : List Pq} {T : List ByteArray} {R : List (List Int)} {us : List Value} (h : PWa w B b vp vn vt l T R us) : ∀ v ∈ [vp, vn, vt], ∀ g, v.ownBlock = some g → B ≤ g := fun v hv g hg => by
  simp at hv
  rcases hv with rfl | rfl | rfl
  · exact (World.ownsRow.lt h.rp g hg).1
  · exact (World.ownsRow.lt h.rn.1 g hg).1
  · exact (World.ownsRow.lt h.rt g hg).1

theorem PWa.keeps {w w' : World} {B b : Nat} {vp vn vt : Value} {l : List Pq} {T : List ByteArray} {R : List (List Int)} {us vs' : List Value} (h : PWa w B b vp vn vt l T R us) (hp : PG w w' b [vp, vn, vt] vs') : Below B w w' :=
  hp.below (by have := h.lb; have := h.hb; omega) h.hb h.low

/-- a pair appended, and stored -/
theorem PWa.pair {w w9 : World} {B b g cap : Nat} {vp vn vt : Value} {l : List Pq} {T : List ByteArray} {R : List (List Int)} {us : List Value} {q : Pq} {o : Obj} (h : PWa w B b vp vn vt l T R us)
    (hown : w9.ownsRow B 86 2 (.slice (some ⟨g, 0, none⟩) (l.length + 1) cap) (l.length + 1) (l.flatMap Pq.cells ++ [.int .i64 (q.a : Int), .int .i64 (q.b : Int)])) (hgrow : (w.alloc o).grownBy w9 vp.ownBlock) (hat : vp.ownBlock = some g ∨ g = w.heap.size + 1) :
    TNx w w9 b 0 vp ∧ PWa (w9.setCell ⟨b, 0, none⟩ (.slice (some ⟨g, 0, none⟩) (l.length + 1) cap)) B b (.slice (some ⟨g, 0, none⟩) (l.length + 1) cap) vn vt (l ++ [q]) T R us ∧ PG w (w9.setCell ⟨b, 0, none⟩ (.slice (some ⟨g, 0, none⟩) (l.length + 1) cap)) b [vp, vn, vt] [.slice (some ⟨g, 0, none⟩) (l.length + 1) cap, vn, vt] := by
  have hsg : w.heap.size + 1 ≤ w9.heap.size := by have := hgrow.size; simpa using this
  have hlb := h.lb
  have far : some b ≠ vp.ownBlock := fun e => (h.ap b e.symm).1 rfl
  have hblk : w9.heap[b]? = w.heap[b]? := by
    rw [hgrow.block b (by simp; omega) far, Below.heap_alloc _ _ _ (by omega)]
  have c0 : w9.cell? ⟨b, 0, none⟩ = some vp := (World.cell?_of_block (w := w) hblk).trans h.c0
  have c1 : w9.cell? ⟨b, 1, none⟩ = some vn := (World.cell?_of_block (w := w) hblk).trans h.c1
  have c2 : w9.cell? ⟨b, 2, none⟩ = some vt := (World.cell?_of_block (w := w) hblk).trans h.c2
  have f0 : w9.frozen? ⟨b, 0, none⟩ = false := (World.frozen?_of_block (w := w) hblk).trans h.f0
  have f1 : w9.frozen? ⟨b, 1, none⟩ = false := (World.frozen?_of_block (w := w) hblk).trans h.f1
  have f2 : w9.frozen? ⟨b, 2, none⟩ = false := (World.frozen?_of_block (w := w) hblk).trans h.f2
  have hgb : g ≠ b := by rcases hat with e | e; exact (h.ap g e).1; omega
  have sto : ∀ {e size n : Nat} {v : Value} {xs : List Value}, w9.ownsRow B e size v n xs → v.ownBlock ≠ some b → (w9.setCell ⟨b, 0, none⟩ (.slice (some ⟨g, 0, none⟩) (l.length + 1) cap)).ownsRow B e size v n xs := fun hr hne => by
    refine ⟨hr.1, ?_⟩
    rcases hr.2 with hn | ⟨g', cap', cur, hv, hg, hgg, rest⟩
    · exact .inl hn
    · exact .inr ⟨g', cap', cur, hv, hg, (Below.heap_setCell _ _ _ _ (show g' ≠ b from fun e => hne (by rw [hv, ← e]; rfl))).trans hgg, rest⟩
  have ol : ∀ {v : Value} {e size n : Nat} {xs : List Value}, w.ownsRow B e size v n xs → (∀ g', v.ownBlock = some g' → some g' ≠ vp.ownBlock) → v.ownBlock ≠ some b → (w9.setCell ⟨b, 0, none⟩ (.slice (some ⟨g, 0, none⟩) (l.length + 1) cap)).ownsRow B e size v n xs := fun hr hne hb => sto (own_besideM (World.ownsRow.alloc hr o) hgrow hne) hb
  have hfresh : ∀ {v : Value} {e size n : Nat} {xs : List Value}, w.ownsRow B e size v n xs → (vp.ownBlock = some g → v.ownBlock ≠ some g) → v.ownBlock ≠ some g := fun hr hh e => by
    rcases hat with e2 | e2
    · exact hh e2 e
    · have := (World.ownsRow.lt hr g e).2; omega
  have hnp : ∀ g', vn.ownBlock = some g' → some g' ≠ vp.ownBlock := fun g' e e2 => (h.ap g' e2.symm).2.2.1 e
  have htp : ∀ g', vt.ownBlock = some g' → some g' ≠ vp.ownBlock := fun g' e e2 => (h.ap g' e2.symm).2.1 e
  refine ⟨⟨c0, f0, by omega⟩, ⟨by simp; omega, h.hb, World.cell?_setCell_same _ _ _ c0, ?_, ?_, by rw [World.frozen?_setCell]; exact f0, by rw [World.frozen?_setCell]; exact f1, by rw [World.frozen?_setCell]; exact f2, sto (PRow.snoc hown) (by simp [Value.ownBlock]; exact hgb), ?_, ol h.rt htp (fun e => (h.at' b e).1 rfl), ?_, h.at', h.an, h.au⟩, ?_⟩
  · rw [World.cell?_setCell_other _ _ _ _ (by simp)]; exact c1
  · rw [World.cell?_setCell_other _ _ _ _ (by simp)]; exact c2
  · refine ⟨ol h.rn.1 hnp (fun e => h.an b e rfl), fun i hi => ?_, h.rn.2.2⟩
    obtain ⟨u, k1, k2, k3⟩ := h.rn.2.1 i hi
    have hu := List.mem_of_getElem? k1
    exact ⟨u, k1, ol k2 (fun g' e e2 => (h.ap g' e2.symm).2.2.2 u hu e) (h.au u hu), k3⟩
  · intro g' hg'
    simp [Value.ownBlock] at hg'
    subst hg'
    refine ⟨hgb, hfresh h.rt (fun e => (h.ap g e).2.1), hfresh h.rn.1 (fun e => (h.ap g e).2.2.1), fun u hu e => ?_⟩
    rcases hat with e2 | e2
    · exact (h.ap g e2).2.2.2 u hu e
    · have := (h.rn.rows u hu g e).2; omega
  · refine ⟨hgrow.os, hgrow.tape, hgrow.output, by simp; omega, fun j hj hc hv => ?_, fun v' hv' g' hg' => ?_⟩
    · rw [Below.heap_setCell _ _ _ _ hc, hgrow.block j (by simp; omega) (fun e => hv vp (by simp) e.symm), Below.heap_alloc _ _ _ hj]
    · simp at hv'
      rcases hv' with rfl | rfl | rfl
      · simp [Value.ownBlock] at hg'
        subst hg'
        rcases hat with e | e
        · exact .inl ⟨vp, by simp, e⟩
        · exact .inr (by omega)
      · exact .inl ⟨_, by simp, hg'⟩
      · exact .inl ⟨_, by simp, hg'⟩

/-- a text appended, and stored -/
theorem PWa.text {w w9 : World} {B b g cap : Nat} {vp vn vt : Value} {l : List Pq} {T : List ByteArray} {R : List (List Int)} {us : List Value} {s : ByteArray} {o : Obj} (h : PWa w B b vp vn vt l T R us)
    (hown : w9.ownsRow B 9 1 (.slice (some ⟨g, 0, none⟩) (T.length + 1) cap) (T.length + 1) (strs T ++ [.string s])) (hgrow : (w.alloc o).grownBy w9 vt.ownBlock) (hat : vt.ownBlock = some g ∨ g = w.heap.size + 1) :
    TNx w w9 b 2 vt ∧ PWa (w9.setCell ⟨b, 2, none⟩ (.slice (some ⟨g, 0, none⟩) (T.length + 1) cap)) B b vp vn (.slice (some ⟨g, 0, none⟩) (T.length + 1) cap) l (T ++ [s]) R us ∧ PG w (w9.setCell ⟨b, 2, none⟩ (.slice (some ⟨g, 0, none⟩) (T.length + 1) cap)) b [vp, vn, vt] [vp, vn, .slice (some ⟨g, 0, none⟩) (T.length + 1) cap] := by
  have hsg : w.heap.size + 1 ≤ w9.heap.size := by have := hgrow.size; simpa using this
  have hlb := h.lb
  have far : some b ≠ vt.ownBlock := fun e => (h.at' b e.symm).1 rfl
  have hblk : w9.heap[b]? = w.heap[b]? := by
    rw [hgrow.block b (by simp; omega) far, Below.heap_alloc _ _ _ (by omega)]
  have c0 : w9.cell? ⟨b, 0, none⟩ = some vp := (World.cell?_of_block (w := w) hblk).trans h.c0
  have c1 : w9.cell? ⟨b, 1, none⟩ = some vn := (World.cell?_of_block (w := w) hblk).trans h.c1
  have c2 : w9.cell? ⟨b, 2, none⟩ = some vt := (World.cell?_of_block (w := w) hblk).trans h.c2
  have f0 : w9.frozen? ⟨b, 0, none⟩ = false := (World.frozen?_of_block (w := w) hblk).trans h.f0
  have f1 : w9.frozen? ⟨b, 1, none⟩ = false := (World.frozen?_of_block (w := w) hblk).trans h.f1
  have f2 : w9.frozen? ⟨b, 2, none⟩ = false := (World.frozen?_of_block (w := w) hblk).trans h.f2
  have hgb : g ≠ b := by rcases hat with e | e; exact (h.at' g e).1; omega
  have sto : ∀ {e size n : Nat} {v : Value} {xs : List Value}, w9.ownsRow B e size v n xs → v.ownBlock ≠ some b → (w9.setCell ⟨b, 2, none⟩ (.slice (some ⟨g, 0, none⟩) (T.length + 1) cap)).ownsRow B e size v n xs := fun hr hne => by
    refine ⟨hr.1, ?_⟩
    rcases hr.2 with hn | ⟨g', cap', cur, hv, hg, hgg, rest⟩
    · exact .inl hn
    · exact .inr ⟨g', cap', cur, hv, hg, (Below.heap_setCell _ _ _ _ (show g' ≠ b from fun e => hne (by rw [hv, ← e]; rfl))).trans hgg, rest⟩
  have ol : ∀ {v : Value} {e size n : Nat} {xs : List Value}, w.ownsRow B e size v n xs → (∀ g', v.ownBlock = some g' → some g' ≠ vt.ownBlock) → v.ownBlock ≠ some b → (w9.setCell ⟨b, 2, none⟩ (.slice (some ⟨g, 0, none⟩) (T.length + 1) cap)).ownsRow B e size v n xs := fun hr hne hb => sto (own_besideM (World.ownsRow.alloc hr o) hgrow hne) hb
  have hpt : ∀ g', vp.ownBlock = some g' → some g' ≠ vt.ownBlock := fun g' e e2 => (h.ap g' e).2.1 e2.symm
  have hnt : ∀ g', vn.ownBlock = some g' → some g' ≠ vt.ownBlock := fun g' e e2 => (h.at' g' e2.symm).2.1 e
  refine ⟨⟨c2, f2, by omega⟩, ⟨by simp; omega, h.hb, ?_, ?_, World.cell?_setCell_same _ _ _ c2, by rw [World.frozen?_setCell]; exact f0, by rw [World.frozen?_setCell]; exact f1, by rw [World.frozen?_setCell]; exact f2, ol h.rp hpt (fun e => (h.ap b e).1 rfl), ?_, sto (StRow.snoc hown) (by simp [Value.ownBlock]; exact hgb), ?_, ?_, h.an, h.au⟩, ?_⟩
  · rw [World.cell?_setCell_other _ _ _ _ (by simp)]; exact c0
  · rw [World.cell?_setCell_other _ _ _ _ (by simp)]; exact c1
  · refine ⟨ol h.rn.1 hnt (fun e => h.an b e rfl), fun i hi => ?_, h.rn.2.2⟩
    obtain ⟨u, k1, k2, k3⟩ := h.rn.2.1 i hi
    have hu := List.mem_of_getElem? k1
    exact ⟨u, k1, ol k2 (fun g' e e2 => (h.at' g' e2.symm).2.2 u hu e) (h.au u hu), k3⟩
  · intro g' hg'
    refine ⟨(h.ap g' hg').1, fun e => ?_, (h.ap g' hg').2.2⟩
    simp [Value.ownBlock] at e
    subst e
    rcases hat with e2 | e2
    · exact (h.ap g hg').2.1 e2
    · have := (World.ownsRow.lt h.rp g hg').2; omega
  · intro g' hg'
    simp [Value.ownBlock] at hg'
    subst hg'
    refine ⟨hgb, fun e => ?_, fun u hu e => ?_⟩
    · rcases hat with e2 | e2
      · exact (h.at' g e2).2.1 e
      · have := (World.ownsRow.lt h.rn.1 g e).2; omega
    · rcases hat with e2 | e2
      · exact (h.at' g e2).2.2 u hu e
      · have := (h.rn.rows u hu g e).2; omega
  · refine ⟨hgrow.os, hgrow.tape, hgrow.output, by simp; omega, fun j hj hc hv => ?_, fun v' hv' g' hg' => ?_⟩
    · rw [Below.heap_setCell _ _ _ _ hc, hgrow.block j (by simp; omega) (fun e => hv vt (by simp) e.symm), Below.heap_alloc _ _ _ hj]
    · simp at hv'
      rcases hv' with rfl | rfl | rfl
      · exact .inl ⟨_, by simp, hg'⟩
      · exact .inl ⟨_, by simp, hg'⟩
      · simp [Value.ownBlock] at hg'
        subst hg'
        rcases hat with e | e
        · exact .inl ⟨vt, by simp, e⟩
        · exact .inr (by omega)

theorem Try.pairFields : Try.prog.underlying 86 = some (.struct (Try.prog.fieldsOf 86)) := by kernel_rfl
theorem Try.pairField2 : (Try.prog.fieldsOf 86).toList.map (fun f => (f.name, f.type, f.offset)) = [("one", 3, 0), ("other", 3, 1)] := by kernel_rfl

/-- two pairs compared -/
theorem eqlP (a b c d : Int) (W : World) : (binOp .eql 86 (.agg #[.int .i64 a, .int .i64 b]) (.agg #[.int .i64 c, .int .i64 d])).run Try.prog W = .ok (.bool (decide (a = c) && decide (b = d))) W := by
  rw [run_eql_struct, run_equalIn_agg W 9999 _ _ _ Try.pairFields (by kernel_rfl)]
  have hf := Try.pairField2
  obtain ⟨F, hF⟩ : ∃ F, F = (Try.prog.fieldsOf 86).toList := ⟨_, rfl⟩
  rw [← hF] at hf ⊢
  clear hF
  have hl : F.length = 2 := by simpa using congrArg List.length hf
  match F, hl with
  | [f0, f1], _ =>
    simp at hf
    obtain ⟨⟨n0, t0, o0⟩, ⟨n1, t1, o1⟩⟩ := hf
    have d0 : (a == c) = decide (a = c) := rfl
    have d2 : (b == d) = decide (b = d) := rfl
    cases h0 : decide (a = c) <;> cases h1 : decide (b = d) <;>
      simp [Op.eqFields, n0, n1, t0, t1, o0, o1, go_sem, part, d0, d2, h0, h1]

end Go.Proofs.Ytecgjhnihagleaa

namespace Go.Proofs.Ytecgjhnihagleaa
open Go.RowKit Plain Mch Tpc

theorem Try.infoPr : (Try.prog.info? 86).map (fun i => (i.zero, i.size, i.bytes)) = some (some (.agg #[.int .i64 0, .int .i64 0]), 2, 16) := by kernel_rfl

theorem one2M (a b : Int) : ∀ u ∈ [Value.int .i64 a, .int .i64 b], u.oneCell' = true := by
  intro u hu
  simp at hu
  rcases hu with rfl | rfl <;> rfl
theorem onesM (s : ByteArray) : ∀ u ∈ [Value.string s], u.oneCell' = true := by
  intro u hu
  simp at hu
  subst hu
  rfl

attribute [local go_sem ↓] eqlP

set_option maxRecDepth 100000 in
set_option maxHeartbeats 8000000 in
theorem comeTo_any (B b : Nat) (vp vn vt : Value) (l : List Pq) (R : List (List Int)) (us : List Value) (q : Pq) (w : World) (h : PWa w B b vp vn vt l (l.map Pq.s) R us) (hl : l.length ≤ 1000) :
    Calls Try.prog 76 #[.pointer (some ⟨b, 0, none⟩), .agg #[.int .i64 (q.a : Int), .int .i64 (q.b : Int)], .string q.s] w fun e w' => e = .returned (.int .i64 ((ix l q.a q.b : Nat) : Int)) ∧ ∃ vp' vt', PWa w' B b vp' vn vt' (pu l q) ((pu l q).map Pq.s) R us ∧ PG w w' b [vp, vn, vt] [vp', vn, vt'] := by
  obtain ⟨i0, hi, hz0, hz1, hz2⟩ := info_parts Try.infoPr
  obtain ⟨j0, hj, jz0, jz1, jz2⟩ := info_parts infoStr
  obtain ⟨T, hT⟩ : ∃ T, T = l.map Pq.s := ⟨_, rfl⟩
  have HTT : Hid (T = l.map Pq.s) := hT
  rw [← hT] at h
  clear hT
  have HP : Hid (PWa w B b vp vn vt l T R us) := h
  obtain ⟨ap, cp, hvp, hcp⟩ := h.rp.slice
  subst hvp
  unfold maxLen at hcp
  obtain ⟨x, y, s⟩ := q
  dsimp only
  obtain ⟨W1, hW1⟩ : ∃ W, W = w.alloc (.cells #[.int .i64 (x : Int), .int .i64 (y : Int)] 86) := ⟨_, rfl⟩
  have hB1 : Below w.heap.size w W1 := by rw [hW1]; exact (Below.refl _ w).alloc (Nat.le_refl _) _
  have q0 : W1.cell? ⟨w.heap.size, 0, none⟩ = some (.int .i64 (x : Int)) := by rw [hW1]; go_simp
  have q1 : W1.cell? ⟨w.heap.size, 1, none⟩ = some (.int .i64 (y : Int)) := by rw [hW1]; go_simp
  have hl1 : w.heap.size < W1.heap.size := by rw [hW1]; simp
  have p0 := (HP.out.below hB1).c0
  have hbl := h.lb
  clear h
  go_enter Try.func76, Try.ntmps76
  go_upto_region 1 with fail
  rw [← hW1]
  clear hW1
  go_wp2
  go_loopw [14] (fun vi wr => ∃ i : Nat, i ≤ l.length ∧ vi = .int .i64 (i : Int) ∧ Hid (i ≤ ix l x y) ∧ Hid (Below W1.heap.size W1 wr))
    (fun vi _ => l.length - (intOf vi).toNat)
  case atStart => exact ⟨0, by omega, rfl, Nat.zero_le _, Below.refl _ _⟩
  case round =>
    obtain ⟨i, hil, rfl, hix, hbw⟩ := hrel
    have hBr : Below w.heap.size w wr := hB1.trans (hbw.out.mono hB1.size)
    have HPr : Hid (PWa wr B b (.slice ap l.length cp) vn vt l T R us) := HP.out.below hBr
    have q0r := (hbw.out.cell (p := ⟨w.heap.size, 0, none⟩) hl1).trans q0
    have q1r := (hbw.out.cell (p := ⟨w.heap.size, 1, none⟩) hl1).trans q1
    have hlr : w.heap.size < wr.heap.size := by have := hbw.out.size; omega
    clear q0 q1 p0
    by_cases hlt : i < l.length
    · have hlt' : (i : Int) < (l.length : Int) := by omega
      obtain ⟨g, hap, hgl, _, k0, k1⟩ := HPr.out.rp.cells hlt
      subst hap
      have HEQ : Hid ((pq l i).a = x ∧ (pq l i).b = y → ix l x y = i) := fun e => by
        have h1 := hix.out
        by_cases h2 : i < ix l x y
        · exact absurd e (ix_first h2)
        · omega
      have HNE : Hid (¬ ((pq l i).a = x ∧ (pq l i).b = y) → i + 1 ≤ ix l x y) := fun e => by
        have h1 := hix.out
        by_cases h2 : i = ix l x y
        · exfalso
          have h3 := ix_some (l := l) (a := x) (b := y) (by omega)
          rw [← h2] at h3
          exact e h3
        · omega
      generalize (pq l i).a = pa at k0 HEQ HNE
      generalize (pq l i).b = pb at k1 HEQ HNE
      by_cases he : pa = x ∧ pb = y
      · obtain ⟨rfl, rfl⟩ := he
        have hR : Hid (ix l pa pb = i) := HEQ.out ⟨rfl, rfl⟩
        have HF : Hid (PWa wr B b (.slice (some ⟨g, 0, none⟩) l.length cp) vn vt (pu l ⟨pa, pb, s⟩) ((pu l ⟨pa, pb, s⟩).map Pq.s) R us) := by
          have e : pu l ⟨pa, pb, s⟩ = l := by unfold pu; rw [if_pos (by show ix l pa pb < _; rw [hR.out]; exact hlt)]
          rw [e, ← HTT.out]
          exact HPr.out
        have hBe := hBr.alloc (by omega) (.cells #[.int .i64 (pa : Int), .int .i64 (pb : Int)] 86)
        have HFe : Hid (PWa (wr.alloc (.cells #[.int .i64 (pa : Int), .int .i64 (pb : Int)] 86)) B b (.slice (some ⟨g, 0, none⟩) l.length cp) vn vt (pu l ⟨pa, pb, s⟩) ((pu l ⟨pa, pb, s⟩).map Pq.s) R us) := HF.out.below ((Below.refl _ wr).alloc (Nat.le_refl _) _)
        have d1 : decide ((pa : Int) = (pa : Int)) = true := by simp
        have d2 : decide ((pb : Int) = (pb : Int)) = true := by simp
        clear HEQ HNE hix HF
        go_wp2
        go_ret
        exact ⟨by rw [hR.out]; rfl, _, _, HFe.out, PG.of_below hBe⟩
      · have d1 : (decide ((pa : Int) = (x : Int)) && decide ((pb : Int) = (y : Int))) = false := by
          rw [Bool.eq_false_iff]
          intro hh
          simp at hh
          exact he ⟨by omega, by omega⟩
        have hN : Hid (i + 1 ≤ ix l x y) := HNE.out he
        have hbw2 : Hid (Below W1.heap.size W1 (wr.alloc (.cells #[.int .i64 (pa : Int), .int .i64 (pb : Int)] 86))) := hbw.out.alloc hbw.out.size _
        clear HEQ HNE hix he
        go_wp2
        go_roundw
        case rel => exact ⟨i + 1, by omega, by go_num, hN, hbw2⟩
        case measure => simp [intOf]; omega
    · have hke : i = l.length := by omega
      have hge : ¬ ((i : Int) < (l.length : Int)) := by omega
      have hR : Hid (ix l x y = l.length) := by
        have h1 := hix.out
        have h2 := ix_le l x y
        show _ = _
        omega
      have HPU : Hid (pu l ⟨x, y, s⟩ = l ++ [⟨x, y, s⟩]) := by
        show _ = _
        unfold pu
        rw [if_neg (by show ¬ ix l x y < _; rw [hR.out]; omega)]
      have HPd := HPr.out.below ((Below.refl _ wr).drew)
      have HPD : Hid (PWa wr.drew B b (.slice ap l.length cp) vn vt l T R us) := HPd
      have p0 := HPr.out.c0
      have p0a : ∀ o, (wr.alloc o).cell? ⟨b, 0, none⟩ = some (.slice ap l.length cp) := fun o => (HPr.out.below ((Below.refl _ wr).alloc (Nat.le_refl _) o)).c0
      have hbr := HPr.out.lb
      have hBb := HPr.out.hb
      have HLM : Hid (T.length = l.length) := by show _ = _; rw [HTT.out]; simp
      clear hke hix HPd
      go_upto_region 7 with fail
      go_region_law
        (refine step_append_lies _ (by rfl) _ _ _ (by rfl) B 86 i0 (.agg #[.int .i64 0, .int .i64 0]) 2 16 Try.underlying76 hi hz0 hz1 hz2 rfl (by decide) _ l.length _ (by rfl) (World.ownsRow.alloc HPD.out.rp _) ⟨wr.heap.size, 0, none⟩ 1 1 [.int .i64 (x : Int), .int .i64 (y : Int)] (by rfl) rfl (World.news_of_block (heap_alloc_new wr.drew _)) (one2M _ _) (by omega) (by unfold maxLen; omega) (by omega) (by simp; omega) (wr.heap.size + 1) (by simp) ?_; intro g9 cap9 w9 hown9 hgrow9 hat9 hlt9; obtain ⟨⟨q9, f9, k9⟩, hT9, hG9⟩ := HPD.out.pair (q := ⟨x, y, s⟩) hown9 hgrow9 hat9)
      all_goals
        obtain ⟨W6, hW6⟩ : ∃ W, W = w9.setCell ⟨b, 0, none⟩ (.slice (some ⟨g9, 0, none⟩) (l.length + 1) cap9) := ⟨_, rfl⟩
        rw [← hW6] at hT9 hG9
        have HT6 : Hid (PWa W6 B b (.slice (some ⟨g9, 0, none⟩) (l.length + 1) cap9) vn vt (l ++ [⟨x, y, s⟩]) T R us) := hT9
        have HG6 : Hid (PG w W6 b [.slice ap l.length cp, vn, vt] [.slice (some ⟨g9, 0, none⟩) (l.length + 1) cap9, vn, vt]) := (PG.of_below hBr.drew).trans hG9
        obtain ⟨at', ct, hvt⟩ := StRow.slice hT9.rt
        subst hvt
        have t2 := hT9.c2
        have hb6 := hT9.lb
        clear hT9 hG9 hown9 hgrow9 hat9 hlt9 q9 f9 k9 p0 p0a HPr HPD
        go_upto_region 8 with fail
        rw [← hW6]
        clear hW6
        go_wp2_with (at_builtin; refine wpList_append_lies _ rfl _ _ 77 rfl B 9 j0 (.string ByteArray.empty) 1 16 Try.underlying77 hj jz0 jz1 jz2 rfl (by decide) _ T.length _ rfl (World.ownsRow.alloc HT6.out.rt _) ⟨W6.heap.size, 0, none⟩ 1 1 [.string s] rfl rfl (World.news_of_block (heap_alloc_new W6 _)) (onesM _) (by omega) (by unfold maxLen; have := HLM.out; omega) (by have := HLM.out; omega) (by simp; omega) (W6.heap.size + 1) (by simp) ?_)
        intro g8 cap8 w8 hown8 hgrow8 hat8 hlt8
        obtain ⟨⟨q8, f8, k8⟩, hT8, hG8⟩ := HT6.out.text hown8 hgrow8 hat8
        obtain ⟨W7, hW7⟩ : ∃ W, W = w8.setCell ⟨b, 2, none⟩ (.slice (some ⟨g8, 0, none⟩) (T.length + 1) cap8) := ⟨_, rfl⟩
        rw [← hW7] at hT8 hG8
        have HF : Hid (PWa W7 B b (.slice (some ⟨g9, 0, none⟩) (l.length + 1) cap9) vn (.slice (some ⟨g8, 0, none⟩) (T.length + 1) cap8) (pu l ⟨x, y, s⟩) ((pu l ⟨x, y, s⟩).map Pq.s) R us) := by
          rw [HPU.out, List.map_append, ← HTT.out]
          exact hT8
        have HG7 : Hid (PG w W7 b [.slice ap l.length cp, vn, .slice at' T.length ct] [.slice (some ⟨g9, 0, none⟩) (l.length + 1) cap9, vn, .slice (some ⟨g8, 0, none⟩) (T.length + 1) cap8]) := HG6.out.trans hG8
        have p7 := HF.out.c0
        clear hT8 hG8 hown8 hgrow8 hat8 HT6 HG6 t2
        go_upto_region 9 with fail
        rw [← hW7]
        clear hW7
        go_wp2
        go_ret
        exact ⟨by rw [hR.out]; rfl, _, _, HF.out, HG7.out⟩

end Go.Proofs.Ytecgjhnihagleaa
