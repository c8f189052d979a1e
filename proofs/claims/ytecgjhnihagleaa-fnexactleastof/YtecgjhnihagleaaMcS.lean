/- Machines in the making: a variable whose rows are appended; slices.Clone of a row. -/
import Derived.Test.YtecgjhnihagleaaMcL
import Derived.Test.YtecgjhnihagleaaMcR
import Derived.Deep.AppendLies
import Derived.Deep.RegionLaw
import Derived.Lib.SliceRun
namespace Go.Proofs.Ytecgjhnihagleaa
open Go.RowKit Plain Mch

theorem one1M (a : Option Addr) (n c : Nat) : ∀ u ∈ [Value.slice a n c], u.oneCell' = true := by
  intro u hu
  simp at hu
  subst hu
  rfl
theorem onebM (b : Bool) : ∀ u ∈ [Value.bool b], u.oneCell' = true := by
  intro u hu
  simp at hu
  subst hu
  rfl
theorem onezM (l : List Int) : ∀ u ∈ zints l, u.oneCell' = true := by
  intro u hu
  unfold zints at hu
  rw [List.mem_map] at hu
  obtain ⟨x, _, rfl⟩ := hu
  rfl

theorem rx_old {M : List (List Int)} {L : List Int} {i : Nat} (h : i < M.length) : rx (M ++ [L]) i = rx M i := by
  unfold rx
  rw [List.getD, List.getD, List.getElem?_append_left h]
theorem rx_new (M : List (List Int)) (L : List Int) : rx (M ++ [L]) M.length = L := by
  unfold rx
  simp [List.getD]

theorem MOwn.nil (w : World) (B : Nat) : MOwn w B (.slice none 0 0) [] [] := ⟨⟨rfl, .inl ⟨rfl, rfl⟩⟩, fun i hi => by simp at hi, fun i j ui uj _ h => by simp at h⟩
theorem ERow.nil (w : World) (B : Nat) : ERow w B (.slice none 0 0) [] := ⟨rfl, .inl ⟨rfl, rfl⟩⟩
theorem MaOwn.nil (w : World) (B : Nat) : MaOwn w B (.slice none 0 0) (.slice none 0 0) [] [] [] := ⟨MOwn.nil w B, ERow.nil w B, fun g hg => by simp [Value.ownBlock] at hg⟩

theorem MOwn.snoc {w w2 w9 : World} {B g cap : Nat} {v u : Value} {M : List (List Int)} {us : List Value} {L : List Int} {o : Obj} (h : MOwn w B v M us) (hb : Below w.heap.size w w2) (hq : ZRow w2 w.heap.size u L)
    (hown : w9.ownsRow B 27 1 (.slice (some ⟨g, 0, none⟩) (M.length + 1) cap) (M.length + 1) (us ++ [u])) (hgrow : (w2.alloc o).grownBy w9 v.ownBlock) (hat : v.ownBlock = some g ∨ g = w2.heap.size + 1) (hBw : B ≤ w.heap.size) :
    MOwn w9 B (.slice (some ⟨g, 0, none⟩) (M.length + 1) cap) (M ++ [L]) (us ++ [u]) := by
  have hul : us.length = M.length := by have := h.1.1; omega
  have hvl := World.ownsRow.lt h.1
  have hs := hb.size
  have hql := World.ownsRow.lt hq
  have hne : ∀ g', u.ownBlock = some g' → v.ownBlock ≠ some g' := fun g' e e2 => by
    have h1 := (hql g' e).1
    have h2 := (hvl g' e2).2
    omega
  have qn : ZRow w9 B u L := own_lowerM (own_besideM (World.ownsRow.alloc hq o) hgrow (fun g' e e2 => hne g' e e2.symm)) hBw
  have qo : ∀ i, i < M.length → ∃ u', us[i]? = some u' ∧ ZRow w9 B u' (rx M i) ∧ u'.ownBlock ≠ some g ∧ ∀ g', u'.ownBlock = some g' → g' < w.heap.size := fun i hi => by
    obtain ⟨u', h1, h2, h3⟩ := h.2.1 i hi
    have hlt := World.ownsRow.lt h2
    refine ⟨u', h1, ?_, fun e => ?_, fun g' e => (hlt g' e).2⟩
    · exact own_besideM (World.ownsRow.alloc (own_belowM h2 hb) o) hgrow (fun g' e e2 => h3 g' e e2.symm)
    · rcases hat with e2 | e2
      · exact h3 g e e2
      · have := (hlt g e).2; omega
  have hug : u.ownBlock ≠ some g := fun e => by
    rcases hat with e2 | e2
    · exact hne g e e2
    · have := (hql g e).2; omega
  refine ⟨by rw [List.length_append]; exact hown, fun i hi => ?_, fun i j ui uj hij e1 e2 g' f1 f2 => ?_⟩
  · by_cases hl : i < M.length
    · obtain ⟨u', h1, h2, h3, _⟩ := qo i hl
      refine ⟨u', by rw [List.getElem?_append_left (by omega)]; exact h1, by rw [rx_old hl]; exact h2, fun g' e e2 => ?_⟩
      simp [Value.ownBlock] at e2
      rw [← e2] at e
      exact h3 e
    · have e : i = M.length := by simp at hi; omega
      subst e
      refine ⟨u, by rw [List.getElem?_append_right (by omega), hul]; simp, by rw [rx_new]; exact qn, fun g' e e2 => ?_⟩
      simp [Value.ownBlock] at e2
      rw [← e2] at e
      exact hug e
  · by_cases hl : j < M.length
    · rw [List.getElem?_append_left (by omega)] at e1 e2
      exact h.2.2 i j ui uj hij e1 e2 g' f1 f2
    · have hj : j = us.length := by
        have := (List.getElem?_eq_some_iff.1 e2).1
        simp at this
        omega
      subst hj
      rw [List.getElem?_append_left (by omega)] at e1
      rw [List.getElem?_append_right (by omega)] at e2
      simp at e2
      subst e2
      obtain ⟨u', h1, _, _, h4⟩ := qo i (by omega)
      rw [h1] at e1
      simp at e1
      subst e1
      have a1 := h4 g' f1
      have a2 := (hql g' f2).1
      omega

/-- a machine's variable, whose rows are appended: all of them lie behind it -/
structure TSt (w : World) (b : Nat) (v e : Value) (L : List (List Int)) (F : List Bool) (us : List Value) : Prop where
  lb : b < w.heap.size
  c0 : w.cell? ⟨b, 0, none⟩ = some v
  c1 : w.cell? ⟨b, 1, none⟩ = some e
  f0 : w.frozen? ⟨b, 0, none⟩ = false
  f1 : w.frozen? ⟨b, 1, none⟩ = false
  own : MaOwn w (b + 1) v e L F us

theorem TSt.below {w w' : World} {b : Nat} {v e : Value} {L : List (List Int)} {F : List Bool} {us : List Value} (h : TSt w b v e L F us) (hb : Below w.heap.size w w') : TSt w' b v e L F us :=
  ⟨Nat.lt_of_lt_of_le h.lb hb.size, (hb.cell (p := ⟨b, 0, none⟩) h.lb).trans h.c0, (hb.cell (p := ⟨b, 1, none⟩) h.lb).trans h.c1, (hb.frozen (p := ⟨b, 0, none⟩) h.lb).trans h.f0, (hb.frozen (p := ⟨b, 1, none⟩) h.lb).trans h.f1, h.own.below hb⟩

theorem TSt.drew {w : World} {b : Nat} {v e : Value} {L : List (List Int)} {F : List Bool} {us : List Value} (h : TSt w b v e L F us) : TSt w.drew b v e L F us := h.below ((Below.refl _ w).drew)

/-- what a step leaves: the variable's new state, and the cell that is stored into as it was -/
structure TNx (w w9 : World) (b k : Nat) (x : Value) : Prop where
  c : w9.cell? ⟨b, k, none⟩ = some x
  f : w9.frozen? ⟨b, k, none⟩ = false
  lb : b < w9.heap.size

theorem TSt.next {w w2 w9 : World} {b g cap : Nat} {v e u : Value} {L : List (List Int)} {F : List Bool} {us : List Value} {r : List Int} {o : Obj} (h : TSt w b v e L F us) (hb : Below w.heap.size w w2) (hq : ZRow w2 w.heap.size u r)
    (hown : w9.ownsRow (b + 1) 27 1 (.slice (some ⟨g, 0, none⟩) (L.length + 1) cap) (L.length + 1) (us ++ [u])) (hgrow : (w2.alloc o).grownBy w9 v.ownBlock) (hat : v.ownBlock = some g ∨ g = w2.heap.size + 1) :
    TNx w w9 b 0 v ∧ TSt (w9.setCell ⟨b, 0, none⟩ (.slice (some ⟨g, 0, none⟩) (L.length + 1) cap)) b (.slice (some ⟨g, 0, none⟩) (L.length + 1) cap) e (L ++ [r]) F (us ++ [u]) ∧ Below b w (w9.setCell ⟨b, 0, none⟩ (.slice (some ⟨g, 0, none⟩) (L.length + 1) cap)) := by
  have hvl := World.ownsRow.lt h.own.1.1
  have hel := World.ownsRow.lt h.own.2.1
  have hs2 := hb.size
  have hsg : w2.heap.size + 1 ≤ w9.heap.size := by have := hgrow.size; simpa using this
  have hlb := h.lb
  have far : some b ≠ v.ownBlock := fun e => by have := (hvl b e.symm).1; omega
  have hblk : w9.heap[b]? = w.heap[b]? := by
    rw [hgrow.block b (by simp; omega) far, Below.heap_alloc _ _ _ (by omega), hb.block b hlb]
  have c0 : w9.cell? ⟨b, 0, none⟩ = some v := (World.cell?_of_block (w := w) hblk).trans h.c0
  have c1 : w9.cell? ⟨b, 1, none⟩ = some e := (World.cell?_of_block (w := w) hblk).trans h.c1
  have f0 : w9.frozen? ⟨b, 0, none⟩ = false := (World.frozen?_of_block (w := w) hblk).trans h.f0
  have f1 : w9.frozen? ⟨b, 1, none⟩ = false := (World.frozen?_of_block (w := w) hblk).trans h.f1
  have hE : ERow w9 (b + 1) e F := own_besideM (World.ownsRow.alloc (own_belowM h.own.2.1 hb) o) hgrow (fun g' e1 e2 => (h.own.2.2 g' e1).1 e2.symm)
  have hM := h.own.1.snoc hb hq hown hgrow hat (by omega)
  refine ⟨⟨c0, f0, by omega⟩, ⟨by simp; omega, World.cell?_setCell_same _ _ _ c0, ?_, by rw [World.frozen?_setCell]; exact f0, by rw [World.frozen?_setCell]; exact f1, ?_⟩, ?_⟩
  · rw [World.cell?_setCell_other _ _ _ _ (by simp)]; exact c1
  · refine ⟨hM.setCell (a := ⟨b, 0, none⟩) (by show b < b + 1; omega) _, ownsRow_setCell_below hE (a := ⟨b, 0, none⟩) (by show b < b + 1; omega) _, fun g' hg' => ⟨fun e2 => ?_, fun u' hu' e2 => ?_⟩⟩
    · simp [Value.ownBlock] at e2
      subst e2
      rcases hat with e3 | e3
      · exact (h.own.2.2 g hg').1 e3
      · have := (hel g hg').2; omega
    · rw [List.mem_append] at hu'
      rcases hu' with hu' | hu'
      · exact (h.own.2.2 g' hg').2 u' hu' e2
      · simp at hu'
        subst hu'
        have k1 := (World.ownsRow.lt hq g' e2).1
        have k2 := (hel g' hg').2
        omega
  · refine ⟨hgrow.os.trans hb.os, hgrow.tape.trans hb.tape, hgrow.output.trans hb.output, by simp; omega, fun j hj => ?_⟩
    rw [Below.heap_setCell _ _ _ _ (show j ≠ b by omega), hgrow.block j (by simp; omega) (fun e => by have := (hvl j e.symm).1; omega), Below.heap_alloc _ _ _ (by omega), hb.block j (by omega)]

theorem ERow.snoc {w9 : World} {B g cap : Nat} {F : List Bool} {x : Bool} (hown : w9.ownsRow B 4 1 (.slice (some ⟨g, 0, none⟩) (F.length + 1) cap) (F.length + 1) (bols F ++ [.bool x])) : ERow w9 B (.slice (some ⟨g, 0, none⟩) (F.length + 1) cap) (F ++ [x]) := by
  unfold ERow
  rw [List.length_append, List.length_singleton, show bols (F ++ [x]) = bols F ++ [.bool x] by simp [bols]]
  exact hown

theorem TSt.ends {w w9 : World} {b g cap : Nat} {v e : Value} {L : List (List Int)} {F : List Bool} {us : List Value} {x : Bool} {o : Obj} (h : TSt w b v e L F us)
    (hown : w9.ownsRow (b + 1) 4 1 (.slice (some ⟨g, 0, none⟩) (F.length + 1) cap) (F.length + 1) (bols F ++ [.bool x])) (hgrow : (w.alloc o).grownBy w9 e.ownBlock) (hat : e.ownBlock = some g ∨ g = w.heap.size + 1) :
    TNx w w9 b 1 e ∧ TSt (w9.setCell ⟨b, 1, none⟩ (.slice (some ⟨g, 0, none⟩) (F.length + 1) cap)) b v (.slice (some ⟨g, 0, none⟩) (F.length + 1) cap) L (F ++ [x]) us ∧ Below b w (w9.setCell ⟨b, 1, none⟩ (.slice (some ⟨g, 0, none⟩) (F.length + 1) cap)) := by
  have hel := World.ownsRow.lt h.own.2.1
  have hvl := World.ownsRow.lt h.own.1.1
  have hsg : w.heap.size + 1 ≤ w9.heap.size := by have := hgrow.size; simpa using this
  have hlb := h.lb
  have far : some b ≠ e.ownBlock := fun e => by have := (hel b e.symm).1; omega
  have hblk : w9.heap[b]? = w.heap[b]? := by
    rw [hgrow.block b (by simp; omega) far, Below.heap_alloc _ _ _ (by omega)]
  have c0 : w9.cell? ⟨b, 0, none⟩ = some v := (World.cell?_of_block (w := w) hblk).trans h.c0
  have c1 : w9.cell? ⟨b, 1, none⟩ = some e := (World.cell?_of_block (w := w) hblk).trans h.c1
  have f0 : w9.frozen? ⟨b, 0, none⟩ = false := (World.frozen?_of_block (w := w) hblk).trans h.f0
  have f1 : w9.frozen? ⟨b, 1, none⟩ = false := (World.frozen?_of_block (w := w) hblk).trans h.f1
  have hM : MOwn w9 (b + 1) v L us := by
    refine ⟨own_besideM (World.ownsRow.alloc h.own.1.1 o) hgrow (fun g' e1 e2 => (h.own.2.2 g' e2.symm).1 e1), fun i hi => ?_, h.own.1.2.2⟩
    obtain ⟨u, k1, k2, k3⟩ := h.own.1.2.1 i hi
    exact ⟨u, k1, own_besideM (World.ownsRow.alloc k2 o) hgrow (fun g' e1 e2 => (h.own.2.2 g' e2.symm).2 u (List.mem_of_getElem? k1) e1), k3⟩
  refine ⟨⟨c1, f1, by omega⟩, ⟨by simp; omega, ?_, World.cell?_setCell_same _ _ _ c1, by rw [World.frozen?_setCell]; exact f0, by rw [World.frozen?_setCell]; exact f1, ?_⟩, ?_⟩
  · rw [World.cell?_setCell_other _ _ _ _ (by simp)]; exact c0
  · refine ⟨hM.setCell (a := ⟨b, 1, none⟩) (by show b < b + 1; omega) _, ownsRow_setCell_below (ERow.snoc hown) (a := ⟨b, 1, none⟩) (by show b < b + 1; omega) _, fun g' hg' => ?_⟩
    simp [Value.ownBlock] at hg'
    subst hg'
    rcases hat with e3 | e3
    · exact h.own.2.2 g e3
    · refine ⟨fun e2 => ?_, fun u' hu' e2 => ?_⟩
      · have := (hvl g e2).2; omega
      · have := (h.own.1.rows u' hu' g e2).2; omega
  · refine ⟨hgrow.os, hgrow.tape, hgrow.output, by simp; omega, fun j hj => ?_⟩
    rw [Below.heap_setCell _ _ _ _ (show j ≠ b by omega), hgrow.block j (by simp; omega) (fun e => by have := (hel j e.symm).1; omega), Below.heap_alloc _ _ _ (by omega)]

theorem zat_news {w : World} {g o n c : Nat} {l : List Int} (h : ZAt w w.heap.size (.slice (some ⟨g, o, none⟩) n c) l) : ∀ j u, (zints l)[j]? = some u → w.cell? ((⟨g, o, none⟩ : Addr).add j) = some u := fun j u hj => by
  obtain ⟨ao, cap, hv, _, _, hr⟩ := h
  simp only [Value.slice.injEq] at hv
  obtain ⟨rfl, rfl, rfl⟩ := hv
  unfold zints at hj
  rw [List.getElem?_map, Option.map_eq_some_iff] at hj
  obtain ⟨x, hx, rfl⟩ := hj
  obtain ⟨g', o', e, _, c⟩ := hr j x hx
  simp at e
  obtain ⟨rfl, rfl⟩ := e
  unfold Addr.add
  by_cases h0 : j = 0
  · subst h0; rw [if_pos rfl]; exact c
  · rw [if_neg h0]; exact c

theorem eqlNilM (a : Addr) (n c : Nat) (W : World) : (binOp .eql 27 (.slice (some a) n c) (.slice none 0 0)).run Try.prog W = .ok (.bool false) W := Lib.run_eql_slice_nil W _ 3 (some a) n c 0 0 Try.underlying27

attribute [local go_sem ↓] eqlNilM

set_option maxRecDepth 100000 in
set_option maxHeartbeats 4000000 in
theorem cloneZ_any (l : List Int) (v : Value) (w : World) (hT : ZAt w w.heap.size v l) (h0 : 0 < l.length) (hl : l.length ≤ 1048576) :
    Calls Try.prog 58 #[v] w fun e w' => ∃ r, e = .returned r ∧ ZRow w' w.heap.size r l ∧ Below w.heap.size w w' := by
  obtain ⟨i0, hi, hz0, hz1, hz2⟩ := info_parts Try.infoInt
  have HT : Hid (ZAt w w.heap.size v l) := hT
  obtain ⟨ao, cap, rfl, hlc, hcm, hrow⟩ := hT
  obtain ⟨x0, hx0⟩ : ∃ x, l[0]? = some x := ⟨_, List.getElem?_eq_getElem h0⟩
  obtain ⟨g, o, rfl, hg, c0⟩ := hrow 0 x0 hx0
  have HNW : Hid (∀ b : Obj, ∀ j u, (zints l)[j]? = some u → (w.alloc b).cell? ((⟨g, o, none⟩ : Addr).add j) = some u) := fun b => zat_news (HT.out.below ((Below.refl _ w).alloc (Nat.le_refl _) b))
  clear hrow hx0 c0
  go_enter Try.func58, Try.ntmps58
  go_wp2_with (at_builtin; refine wpList_append_lies _ rfl _ _ 27 rfl w.heap.size 3 i0 (.int .i64 0) 1 8 Try.underlying27 hi hz0 hz1 hz2 rfl (by decide) _ 0 [] rfl (World.ownsRow_made w #[] 0 (Nat.le_refl _) (by unfold maxLen; omega) rfl) ⟨g, o, none⟩ l.length cap (zints l) rfl (by simp [zints]) (HNW.out _) (onezM l) h0 (by unfold maxLen; omega) (by omega) (by simp) (w.heap.size + 1) (by simp) ?_)
  intro g9 cap9 w9 hown9 hgrow9 hat9 hlt9
  have hB : Below w.heap.size w w9 := ⟨hgrow9.os, hgrow9.tape, hgrow9.output, by have := hgrow9.size; simp at this; omega, fun j hj => (hgrow9.block j (by simp; omega) (by simp [Value.ownBlock]; omega)).trans (Below.heap_alloc _ _ _ hj)⟩
  have HR : Hid (ZRow w9 w.heap.size (.slice (some ⟨g9, 0, none⟩) l.length cap9) l) := by
    show World.ownsRow _ _ _ _ _ _ _
    simpa using hown9
  clear hown9 hgrow9 hat9
  go_wp2
  go_ret
  exact ⟨_, rfl, HR.out, hB⟩

end Go.Proofs.Ytecgjhnihagleaa
