/- A walk over pairs of states in memory: its pairs, the numbers that they go to, their texts. -/
import Derived.Test.YtecgjhnihagleaaMcS
import Derived.Test.YtecgjhnihagleaaToM
import Derived.Laws.StructEq
namespace Go.Proofs.Ytecgjhnihagleaa
open Go.RowKit Plain Mch Tpc

def Mch.Pq.cells (p : Pq) : List Value := [.int .i64 (p.a : Int), .int .i64 (p.b : Int)]

theorem flatP (l : List Pq) (i j : Nat) (h : i < l.length) (hj : j < 2) : (l.flatMap Pq.cells)[i * 2 + j]? = (pq l i).cells[j]? := by
  induction l generalizing i with
  | nil => simp at h
  | cons a l ih =>
    rw [List.flatMap_cons]
    have ha : a.cells.length = 2 := rfl
    cases i with
    | zero =>
      rw [Nat.zero_mul, Nat.zero_add, List.getElem?_append_left (by omega)]
      rfl
    | succ i =>
      rw [List.getElem?_append_right (by omega)]
      have := ih i (by simpa using h)
      have e : pq (a :: l) (i + 1) = pq l i := by simp [pq]
      rw [e, ← this]
      congr 1
      omega
theorem flatP_len (l : List Pq) : (l.flatMap Pq.cells).length = l.length * 2 := by
  induction l with
  | nil => rfl
  | cons a l ih => rw [List.flatMap_cons, List.length_append, ih, List.length_cons]; have : a.cells.length = 2 := rfl; omega

/-- an own row of pairs -/
def PRow (w : World) (B : Nat) (v : Value) (l : List Pq) : Prop := w.ownsRow B 86 2 v l.length (l.flatMap Pq.cells)

theorem PRow.slice {w : World} {B : Nat} {v : Value} {l : List Pq} (h : PRow w B v l) : ∃ ao cap, v = Value.slice ao l.length cap ∧ cap ≤ maxLen := by
  rcases h.2 with ⟨rfl, h0⟩ | ⟨g, cap, cur, rfl, _, _, h1, h2, _⟩
  · exact ⟨none, 0, by rw [h0], by unfold maxLen; omega⟩
  · exact ⟨_, _, rfl, h2⟩

theorem PRow.cells {w : World} {B n cap : Nat} {ao : Option Addr} {l : List Pq} (h : PRow w B (.slice ao n cap) l) {i : Nat} (hi : i < l.length) : ∃ g, ao = some ⟨g, 0, none⟩ ∧ g < w.heap.size ∧ B ≤ g ∧ w.cell? ⟨g, i * 2, none⟩ = some (.int .i64 ((pq l i).a : Int)) ∧ w.cell? ⟨g, i * 2 + 1, none⟩ = some (.int .i64 ((pq l i).b : Int)) := by
  obtain ⟨g, c, hv⟩ := Joins.ownsRow_form h (by omega)
  simp only [Value.slice.injEq] at hv
  obtain ⟨rfl, rfl, rfl⟩ := hv
  have hlt := World.ownsRow.lt h g rfl
  refine ⟨g, rfl, hlt.2, hlt.1, ?_, ?_⟩
  · have := World.ownsRow.cellAt h (i * 2) (by omega)
    rw [this]
    exact flatP l i 0 hi (by omega)
  · have := World.ownsRow.cellAt h (i * 2 + 1) (by omega)
    rw [this]
    exact flatP l i 1 hi (by omega)

theorem PRow.snoc {w9 : World} {B g cap : Nat} {l : List Pq} {q : Pq} (hown : w9.ownsRow B 86 2 (.slice (some ⟨g, 0, none⟩) (l.length + 1) cap) (l.length + 1) (l.flatMap Pq.cells ++ [.int .i64 (q.a : Int), .int .i64 (q.b : Int)])) : PRow w9 B (.slice (some ⟨g, 0, none⟩) (l.length + 1) cap) (l ++ [q]) := by
  unfold PRow
  rw [List.length_append, List.length_singleton, List.flatMap_append]
  simpa [Pq.cells] using hown

theorem StRow.snoc {w9 : World} {B g cap : Nat} {T : List ByteArray} {s : ByteArray} (hown : w9.ownsRow B 9 1 (.slice (some ⟨g, 0, none⟩) (T.length + 1) cap) (T.length + 1) (strs T ++ [.string s])) : StRow w9 B (.slice (some ⟨g, 0, none⟩) (T.length + 1) cap) (T ++ [s]) := by
  unfold StRow
  rw [List.length_append, List.length_singleton, show strs (T ++ [s]) = strs T ++ [.string s] by simp [strs]]
  exact hown

/-- how a walk lies in memory: its block, its three rows, none of which share a block -/
structure PWa (w : World) (B b : Nat) (vp vn vt : Value) (l : List Pq) (T : List ByteArray) (R : List (List Int)) (us : List Value) : Prop where
  lb : b < w.heap.size
  hb : B ≤ b
  c0 : w.cell? ⟨b, 0, none⟩ = some vp
  c1 : w.cell? ⟨b, 1, none⟩ = some vn
  c2 : w.cell? ⟨b, 2, none⟩ = some vt
  f0 : w.frozen? ⟨b, 0, none⟩ = false
  f1 : w.frozen? ⟨b, 1, none⟩ = false
  f2 : w.frozen? ⟨b, 2, none⟩ = false
  rp : PRow w B vp l
  rn : MOwn w B vn R us
  rt : StRow w B vt T
  ap : ∀ g, vp.ownBlock = some g → g ≠ b ∧ vt.ownBlock ≠ some g ∧ vn.ownBlock ≠ some g ∧ ∀ u ∈ us, u.ownBlock ≠ some g
  at' : ∀ g, vt.ownBlock = some g → g ≠ b ∧ vn.ownBlock ≠ some g ∧ ∀ u ∈ us, u.ownBlock ≠ some g
  an : ∀ g, vn.ownBlock = some g → g ≠ b
  au : ∀ u ∈ us, u.ownBlock ≠ some b

theorem PWa.below {w w' : World} {B b : Nat} {vp vn vt : Value} {l : List Pq} {T : List ByteArray} {R : List (List Int)} {us : List Value} (h : PWa w B b vp vn vt l T R us) (hb : Below w.heap.size w w') : PWa w' B b vp vn vt l T R us :=
  ⟨Nat.lt_of_lt_of_le h.lb hb.size, h.hb, (hb.cell (p := ⟨b, 0, none⟩) h.lb).trans h.c0, (hb.cell (p := ⟨b, 1, none⟩) h.lb).trans h.c1, (hb.cell (p := ⟨b, 2, none⟩) h.lb).trans h.c2, (hb.frozen (p := ⟨b, 0, none⟩) h.lb).trans h.f0, (hb.frozen (p := ⟨b, 1, none⟩) h.lb).trans h.f1, (hb.frozen (p := ⟨b, 2, none⟩) h.lb).trans h.f2, own_belowM h.rp hb, h.rn.below hb, h.rt.below hb, h.ap, h.at', h.an, h.au⟩

/-- what a call may do to a walk: nothing but to its block and its rows' own -/
structure PG (w w' : World) (b : Nat) (vs vs' : List Value) : Prop where
  os : w'.os = w.os
  tape : w'.tape = w.tape
  output : w'.output = w.output
  size : w.heap.size ≤ w'.heap.size
  block : ∀ j, j < w.heap.size → j ≠ b → (∀ v ∈ vs, v.ownBlock ≠ some j) → w'.heap[j]? = w.heap[j]?
  new : ∀ v' ∈ vs', ∀ g, v'.ownBlock = some g → (∃ v ∈ vs, v.ownBlock = some g) ∨ w.heap.size ≤ g

theorem PG.trans {w w1 w2 : World} {b : Nat} {vs vs1 vs2 : List Value} (h : PG w w1 b vs vs1) (h2 : PG w1 w2 b vs1 vs2) : PG w w2 b vs vs2 := by
  refine ⟨h2.os.trans h.os, h2.tape.trans h.tape, h2.output.trans h.output, Nat.le_trans h.size h2.size, fun j hj hc hv => ?_, fun v2 hv2 g hg => ?_⟩
  · refine (h2.block j (Nat.lt_of_lt_of_le hj h.size) hc fun v1 hv1 e => ?_).trans (h.block j hj hc hv)
    rcases h.new v1 hv1 j e with ⟨v, hv', e'⟩ | h3
    · exact hv v hv' e'
    · omega
  · rcases h2.new v2 hv2 g hg with ⟨v1, hv1, e1⟩ | h3
    · exact h.new v1 hv1 g e1
    · exact .inr (Nat.le_trans h.size h3)

theorem PG.of_below {w w' : World} {b : Nat} {vs : List Value} (h : Below w.heap.size w w') : PG w w' b vs vs :=
  ⟨h.os, h.tape, h.output, h.size, fun j hj _ _ => h.block j hj, fun v hv _ hg => .inl ⟨v, hv, hg⟩⟩

theorem PG.below {w w' : World} {b : Nat} {vs vs' : List Value} {B : Nat} (h : PG w w' b vs vs') (h0 : B ≤ w.heap.size) (h1 : B ≤ b) (h2 : ∀ v ∈ vs, ∀ g, v.ownBlock = some g → B ≤ g) : Below B w w' :=
  ⟨h.os, h.tape, h.output, h.size, fun j hj => h.block j (by omega) (by omega) (fun v hv e => by have := h2 v hv j e; omega)⟩

theorem PWa.low {w : World} {B b : Nat} {vp vn vt : Value} {l : List Pq} {T : List ByteArray} {R : List (List Int)} {us : List Value} (h : PWa w B b vp vn vt l T R us) : ∀ v ∈ [vp, vn, vt], ∀ g, v.ownBlock = some g → B ≤ g := fun v hv g hg => by
  simp at hv
  rcases hv with rfl | rfl | rfl
  · exact (World.ownsRow.lt h.rp g hg).1
  · exact (World.ownsRow.lt h.rn.1 g hg).1
  · exact (World.ownsRow.lt h.rt g hg).1

theorem PWa.keeps {w w' : World} {B b : Nat} {vp vn vt : Value} {l : List Pq} {T : List ByteArray} {R : List (List Int)} {us vs' : List Value} (h : PWa w B b vp vn vt l T R us) (hp : PG w w' b [vp, vn, vt] vs') : Below B w w' :=
  hp.below (by have := h.lb; have := h.hb; omega) h.hb h.low

/-- a pair appended, and stored -/
theorem PWa.pair {w w9 : World} {B b g cap : Nat} {vp vn vt : Value} {l : List Pq} {T : List ByteArray} {R : List (List Int)} {us : List Value} {q : Pq} {o : Obj} (h : PWa w B b vp vn vt l T R us)
    (hown : w9.ownsRow B 86 2 (.slice (some ⟨g, 0, none⟩) (l.length + 1) cap) (l.length + 1) (l.flatMap Pq.cells ++ [.int .i64 (q.a : Int), .int .i64 (q.b : Int)])) (hgrow : (w.alloc o).grownBy w9 vp.ownBlock) (hat : vp.ownBlock = some g ∨ g = w.heap.size + 1) :
    TNx w w9 b 0 vp ∧ PWa (w9.setCell ⟨b, 0, none⟩ (.slice (some ⟨g, 0, none⟩) (l.length + 1) cap)) B b (.slice (some ⟨g, 0, none⟩) (l.length + 1) cap) vn vt (l ++ [q]) T R us ∧ PG w (w9.setCell ⟨b, 0, none⟩ (.slice (some ⟨g, 0, none⟩) (l.length + 1) cap)) b [vp, vn, vt] [.slice (some ⟨g, 0, none⟩) (l.length + 1) cap, vn, vt] := by
  have hsg : w.heap.size + 1 ≤ w9.heap.size := by have := hgrow.size; simpa using this
  have hlb := h.lb
  have far : some b ≠ vp.ownBlock := fun e => (h.ap b e.symm).1 rfl
  have hblk : w9.heap[b]? = w.heap[b]? := by
    rw [hgrow.block b (by simp; omega) far, Below.heap_alloc _ _ _ (by omega)]
  have c0 : w9.cell? ⟨b, 0, none⟩ = some vp := (World.cell?_of_block (w := w) hblk).trans h.c0
  have c1 : w9.cell? ⟨b, 1, none⟩ = some vn := (World.cell?_of_block (w := w) hblk).trans h.c1
  have c2 : w9.cell? ⟨b, 2, none⟩ = some vt := (World.cell?_of_block (w := w) hblk).trans h.c2
  have f0 : w9.frozen? ⟨b, 0, none⟩ = false := (World.frozen?_of_block (w := w) hblk).trans h.f0
  have f1 : w9.frozen? ⟨b, 1, none⟩ = false := (World.frozen?_of_block (w := w) hblk).trans h.f1
  have f2 : w9.frozen? ⟨b, 2, none⟩ = false := (World.frozen?_of_block (w := w) hblk).trans h.f2
  have hgb : g ≠ b := by rcases hat with e | e; exact (h.ap g e).1; omega
  have sto : ∀ {e size n : Nat} {v : Value} {xs : List Value}, w9.ownsRow B e size v n xs → v.ownBlock ≠ some b → (w9.setCell ⟨b, 0, none⟩ (.slice (some ⟨g, 0, none⟩) (l.length + 1) cap)).ownsRow B e size v n xs := fun hr hne => by
    refine ⟨hr.1, ?_⟩
    rcases hr.2 with hn | ⟨g', cap', cur, hv, hg, hgg, rest⟩
    · exact .inl hn
    · exact .inr ⟨g', cap', cur, hv, hg, (Below.heap_setCell _ _ _ _ (show g' ≠ b from fun e => hne (by rw [hv, ← e]; rfl))).trans hgg, rest⟩
  have ol : ∀ {v : Value} {e size n : Nat} {xs : List Value}, w.ownsRow B e size v n xs → (∀ g', v.ownBlock = some g' → some g' ≠ vp.ownBlock) → v.ownBlock ≠ some b → (w9.setCell ⟨b, 0, none⟩ (.slice (some ⟨g, 0, none⟩) (l.length + 1) cap)).ownsRow B e size v n xs := fun hr hne hb => sto (own_besideM (World.ownsRow.alloc hr o) hgrow hne) hb
  have hfresh : ∀ {v : Value} {e size n : Nat} {xs : List Value}, w.ownsRow B e size v n xs → (vp.ownBlock = some g → v.ownBlock ≠ some g) → v.ownBlock ≠ some g := fun hr hh e => by
    rcases hat with e2 | e2
    · exact hh e2 e
    · have := (World.ownsRow.lt hr g e).2; omega
  have hnp : ∀ g', vn.ownBlock = some g' → some g' ≠ vp.ownBlock := fun g' e e2 => (h.ap g' e2.symm).2.2.1 e
  have htp : ∀ g', vt.ownBlock = some g' → some g' ≠ vp.ownBlock := fun g' e e2 => (h.ap g' e2.symm).2.1 e
  refine ⟨⟨c0, f0, by omega⟩, ⟨by simp; omega, h.hb, World.cell?_setCell_same _ _ _ c0, ?_, ?_, by rw [World.frozen?_setCell]; exact f0, by rw [World.frozen?_setCell]; exact f1, by rw [World.frozen?_setCell]; exact f2, sto (PRow.snoc hown) (by simp [Value.ownBlock]; exact hgb), ?_, ol h.rt htp (fun e => (h.at' b e).1 rfl), ?_, h.at', h.an, h.au⟩, ?_⟩
  · rw [World.cell?_setCell_other _ _ _ _ (by simp)]; exact c1
  · rw [World.cell?_setCell_other _ _ _ _ (by simp)]; exact c2
  · refine ⟨ol h.rn.1 hnp (fun e => h.an b e rfl), fun i hi => ?_, h.rn.2.2⟩
    obtain ⟨u, k1, k2, k3⟩ := h.rn.2.1 i hi
    have hu := List.mem_of_getElem? k1
    exact ⟨u, k1, ol k2 (fun g' e e2 => (h.ap g' e2.symm).2.2.2 u hu e) (h.au u hu), k3⟩
  · intro g' hg'
    simp [Value.ownBlock] at hg'
    subst hg'
    refine ⟨hgb, hfresh h.rt (fun e => (h.ap g e).2.1), hfresh h.rn.1 (fun e => (h.ap g e).2.2.1), fun u hu e => ?_⟩
    rcases hat with e2 | e2
    · exact (h.ap g e2).2.2.2 u hu e
    · have := (h.rn.rows u hu g e).2; omega
  · refine ⟨hgrow.os, hgrow.tape, hgrow.output, by simp; omega, fun j hj hc hv => ?_, fun v' hv' g' hg' => ?_⟩
    · rw [Below.heap_setCell _ _ _ _ hc, hgrow.block j (by simp; omega) (fun e => hv vp (by simp) e.symm), Below.heap_alloc _ _ _ hj]
    · simp at hv'
      rcases hv' with rfl | rfl | rfl
      · simp [Value.ownBlock] at hg'
        subst hg'
        rcases hat with e | e
        · exact .inl ⟨vp, by simp, e⟩
        · exact .inr (by omega)
      · exact .inl ⟨_, by simp, hg'⟩
      · exact .inl ⟨_, by simp, hg'⟩

/-- a text appended, and stored -/
theorem PWa.text {w w9 : World} {B b g cap : Nat} {vp vn vt : Value} {l : List Pq} {T : List ByteArray} {R : List (List Int)} {us : List Value} {s : ByteArray} {o : Obj} (h : PWa w B b vp vn vt l T R us)
    (hown : w9.ownsRow B 9 1 (.slice (some ⟨g, 0, none⟩) (T.length + 1) cap) (T.length + 1) (strs T ++ [.string s])) (hgrow : (w.alloc o).grownBy w9 vt.ownBlock) (hat : vt.ownBlock = some g ∨ g = w.heap.size + 1) :
    TNx w w9 b 2 vt ∧ PWa (w9.setCell ⟨b, 2, none⟩ (.slice (some ⟨g, 0, none⟩) (T.length + 1) cap)) B b vp vn (.slice (some ⟨g, 0, none⟩) (T.length + 1) cap) l (T ++ [s]) R us ∧ PG w (w9.setCell ⟨b, 2, none⟩ (.slice (some ⟨g, 0, none⟩) (T.length + 1) cap)) b [vp, vn, vt] [vp, vn, .slice (some ⟨g, 0, none⟩) (T.length + 1) cap] := by
  have hsg : w.heap.size + 1 ≤ w9.heap.size := by have := hgrow.size; simpa using this
  have hlb := h.lb
  have far : some b ≠ vt.ownBlock := fun e => (h.at' b e.symm).1 rfl
  have hblk : w9.heap[b]? = w.heap[b]? := by
    rw [hgrow.block b (by simp; omega) far, Below.heap_alloc _ _ _ (by omega)]
  have c0 : w9.cell? ⟨b, 0, none⟩ = some vp := (World.cell?_of_block (w := w) hblk).trans h.c0
  have c1 : w9.cell? ⟨b, 1, none⟩ = some vn := (World.cell?_of_block (w := w) hblk).trans h.c1
  have c2 : w9.cell? ⟨b, 2, none⟩ = some vt := (World.cell?_of_block (w := w) hblk).trans h.c2
  have f0 : w9.frozen? ⟨b, 0, none⟩ = false := (World.frozen?_of_block (w := w) hblk).trans h.f0
  have f1 : w9.frozen? ⟨b, 1, none⟩ = false := (World.frozen?_of_block (w := w) hblk).trans h.f1
  have f2 : w9.frozen? ⟨b, 2, none⟩ = false := (World.frozen?_of_block (w := w) hblk).trans h.f2
  have hgb : g ≠ b := by rcases hat with e | e; exact (h.at' g e).1; omega
  have sto : ∀ {e size n : Nat} {v : Value} {xs : List Value}, w9.ownsRow B e size v n xs → v.ownBlock ≠ some b → (w9.setCell ⟨b, 2, none⟩ (.slice (some ⟨g, 0, none⟩) (T.length + 1) cap)).ownsRow B e size v n xs := fun hr hne => by
    refine ⟨hr.1, ?_⟩
    rcases hr.2 with hn | ⟨g', cap', cur, hv, hg, hgg, rest⟩
    · exact .inl hn
    · exact .inr ⟨g', cap', cur, hv, hg, (Below.heap_setCell _ _ _ _ (show g' ≠ b from fun e => hne (by rw [hv, ← e]; rfl))).trans hgg, rest⟩
  have ol : ∀ {v : Value} {e size n : Nat} {xs : List Value}, w.ownsRow B e size v n xs → (∀ g', v.ownBlock = some g' → some g' ≠ vt.ownBlock) → v.ownBlock ≠ some b → (w9.setCell ⟨b, 2, none⟩ (.slice (some ⟨g, 0, none⟩) (T.length + 1) cap)).ownsRow B e size v n xs := fun hr hne hb => sto (own_besideM (World.ownsRow.alloc hr o) hgrow hne) hb
  have hpt : ∀ g', vp.ownBlock = some g' → some g' ≠ vt.ownBlock := fun g' e e2 => (h.ap g' e).2.1 e2.symm
  have hnt : ∀ g', vn.ownBlock = some g' → some g' ≠ vt.ownBlock := fun g' e e2 => (h.at' g' e2.symm).2.1 e
  refine ⟨⟨c2, f2, by omega⟩, ⟨by simp; omega, h.hb, ?_, ?_, World.cell?_setCell_same _ _ _ c2, by rw [World.frozen?_setCell]; exact f0, by rw [World.frozen?_setCell]; exact f1, by rw [World.frozen?_setCell]; exact f2, ol h.rp hpt (fun e => (h.ap b e).1 rfl), ?_, sto (StRow.snoc hown) (by simp [Value.ownBlock]; exact hgb), ?_, ?_, h.an, h.au⟩, ?_⟩
  · rw [World.cell?_setCell_other _ _ _ _ (by simp)]; exact c0
  · rw [World.cell?_setCell_other _ _ _ _ (by simp)]; exact c1
  · refine ⟨ol h.rn.1 hnt (fun e => h.an b e rfl), fun i hi => ?_, h.rn.2.2⟩
    obtain ⟨u, k1, k2, k3⟩ := h.rn.2.1 i hi
    have hu := List.mem_of_getElem? k1
    exact ⟨u, k1, ol k2 (fun g' e e2 => (h.at' g' e2.symm).2.2 u hu e) (h.au u hu), k3⟩
  · intro g' hg'
    refine ⟨(h.ap g' hg').1, fun e => ?_, (h.ap g' hg').2.2⟩
    simp [Value.ownBlock] at e
    subst e
    rcases hat with e2 | e2
    · exact (h.ap g hg').2.1 e2
    · have := (World.ownsRow.lt h.rp g hg').2; omega
  · intro g' hg'
    simp [Value.ownBlock] at hg'
    subst hg'
    refine ⟨hgb, fun e => ?_, fun u hu e => ?_⟩
    · rcases hat with e2 | e2
      · exact (h.at' g e2).2.1 e
      · have := (World.ownsRow.lt h.rn.1 g e).2; omega
    · rcases hat with e2 | e2
      · exact (h.at' g e2).2.2 u hu e
      · have := (h.rn.rows u hu g e).2; omega
  · refine ⟨hgrow.os, hgrow.tape, hgrow.output, by simp; omega, fun j hj hc hv => ?_, fun v' hv' g' hg' => ?_⟩
    · rw [Below.heap_setCell _ _ _ _ hc, hgrow.block j (by simp; omega) (fun e => hv vt (by simp) e.symm), Below.heap_alloc _ _ _ hj]
    · simp at hv'
      rcases hv' with rfl | rfl | rfl
      · exact .inl ⟨_, by simp, hg'⟩
      · exact .inl ⟨_, by simp, hg'⟩
      · simp [Value.ownBlock] at hg'
        subst hg'
        rcases hat with e | e
        · exact .inl ⟨vt, by simp, e⟩
        · exact .inr (by omega)

theorem Try.pairFields : Try.prog.underlying 86 = some (.struct (Try.prog.fieldsOf 86)) := by kernel_rfl
theorem Try.pairField2 : (Try.prog.fieldsOf 86).toList.map (fun f => (f.name, f.type, f.offset)) = [("one", 3, 0), ("other", 3, 1)] := by kernel_rfl

/-- two pairs compared -/
theorem eqlP (a b c d : Int) (W : World) : (binOp .eql 86 (.agg #[.int .i64 a, .int .i64 b]) (.agg #[.int .i64 c, .int .i64 d])).run Try.prog W = .ok (.bool (decide (a = c) && decide (b = d))) W := by
  rw [run_eql_struct, run_equalIn_agg W 9999 _ _ _ Try.pairFields (by kernel_rfl)]
  have hf := Try.pairField2
  obtain ⟨F, hF⟩ : ∃ F, F = (Try.prog.fieldsOf 86).toList := ⟨_, rfl⟩
  rw [← hF] at hf ⊢
  clear hF
  have hl : F.length = 2 := by simpa using congrArg List.length hf
  match F, hl with
  | [f0, f1], _ =>
    simp at hf
    obtain ⟨⟨n0, t0, o0⟩, ⟨n1, t1, o1⟩⟩ := hf
    have d0 : (a == c) = decide (a = c) := rfl
    have d2 : (b == d) = decide (b = d) := rfl
    cases h0 : decide (a = c) <;> cases h1 : decide (b = d) <;>
      simp [Op.eqFields, n0, n1, t0, t1, o0, o1, go_sem, part, d0, d2, h0, h1]

end Go.Proofs.Ytecgjhnihagleaa
