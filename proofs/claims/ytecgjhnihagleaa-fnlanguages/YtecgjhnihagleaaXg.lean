/- Pairs that are reached: letter by letter, and the numbers that they go to. A row of numbers appended to a walk. The program's walkPairs. -/
import Derived.Test.YtecgjhnihagleaaXf
namespace Go.Proofs.Ytecgjhnihagleaa
open Go.RowKit Plain Mch Tpc

/-- the pairs that are known once the first k letters of p were gone by -/
def Mch.stk (A B : List (List Int)) (l : List Pq) (p : Pq) : Nat → List Pq
  | 0 => l
  | k + 1 => pu (stk A B l p k) (qn A B p k)

theorem stk_3 (A B : List (List Int)) (l : List Pq) (p : Pq) : stk A B l p 3 = st3 A B l p := rfl

theorem stk_grows (A B : List (List Int)) (l : List Pq) (p : Pq) : ∀ k, ∃ m, stk A B l p k = l ++ m
  | 0 => ⟨[], by simp [stk]⟩
  | k + 1 => by
    obtain ⟨m, e⟩ := stk_grows A B l p k
    obtain ⟨m', e'⟩ := pu_grows (stk A B l p k) (qn A B p k)
    exact ⟨m ++ m', by rw [stk, e', e, List.append_assoc]⟩

theorem stk_more (A B : List (List Int)) (l : List Pq) (p : Pq) (k : Nat) : ∀ d, ∃ m, stk A B l p (k + d) = stk A B l p k ++ m
  | 0 => ⟨[], by simp⟩
  | d + 1 => by
    obtain ⟨m, e⟩ := stk_more A B l p k d
    obtain ⟨m', e'⟩ := pu_grows (stk A B l p (k + d)) (qn A B p (k + d))
    exact ⟨m ++ m', by rw [show k + (d + 1) = (k + d) + 1 from rfl, stk, e', e, List.append_assoc]⟩

theorem stk_met {A B : List (List Int)} {E F : List Bool} (hA : gm A E = true) (hB : gm B F = true) {l : List Pq} {i : Nat} (h : Mch.Met A.length B.length l) (hi : i < l.length) : ∀ k, k ≤ 3 → Mch.Met A.length B.length (stk A B l (pq l i) k)
  | 0, _ => h
  | k + 1, hk => by
    obtain ⟨m, e⟩ := stk_grows A B l (pq l i) k
    have h1 := stk_met hA hB h hi k (by omega)
    refine h1.step hA hB (i := i) (p := pq l i) (by rw [e, List.length_append]; omega) (by rw [e, pq_left hi]) (by omega)

/-- the number that letter k leads to, in the list as it stands then, is its number in all -/
theorem stk_ix {A B : List (List Int)} {E F : List Bool} (hA : gm A E = true) (hB : gm B F = true) {i : Nat} {l : List Pq} (h : At A B i l) (hi : i < l.length) {k : Nat} (hk : k < 3) :
    ix (stk A B l (pq l i) k) (qn A B (pq l i) k).a (qn A B (pq l i) k).b = ix (prs A B) (nt A (pq (prs A B) i).a k) (nt B (pq (prs A B) i).b k) := by
  obtain ⟨m, e⟩ := (h.next hA hB hi).ahead
  obtain ⟨m0, e0⟩ := h.ahead
  have ep : pq (prs A B) i = pq l i := by rw [e0, pq_left hi]
  rw [ep]
  obtain ⟨m2, e2⟩ := stk_more A B l (pq l i) (k + 1) (2 - k)
  rw [show k + 1 + (2 - k) = 3 by omega, stk_3] at e2
  rw [e, e2, List.append_assoc]
  obtain ⟨h1, h2⟩ := ix_pu (stk A B l (pq l i) k) (qn A B (pq l i) k)
  have e3 : ix (stk A B l (pq l i) (k + 1)) (qn A B (pq l i) k).a (qn A B (pq l i) k).b = ix (stk A B l (pq l i) k) (qn A B (pq l i) k).a (qn A B (pq l i) k).b := h1
  show _ = ix (stk A B l (pq l i) (k + 1) ++ (m2 ++ m)) (qn A B (pq l i) k).a (qn A B (pq l i) k).b
  rw [ix_app (by rw [e3]; exact h2), e3]

/-- the numbers that pair j goes to, as ints -/
def Mch.nri (A B : List (List Int)) (j : Nat) : List Int := (nr A B j).map (fun x : Nat => (x : Int))
def Mch.NR (A B : List (List Int)) (i : Nat) : List (List Int) := (List.range i).map (nri A B)

theorem NR_len (A B : List (List Int)) (i : Nat) : (NR A B i).length = i := by simp [NR]
theorem NR_succ (A B : List (List Int)) (i : Nat) : NR A B (i + 1) = NR A B i ++ [nri A B i] := by
  unfold NR
  rw [List.range_succ, List.map_append]
  rfl
theorem nri_len (A B : List (List Int)) (j : Nat) : (nri A B j).length = 3 := by simp [nri, nr]
theorem nri_at (A B : List (List Int)) (j : Nat) {k : Nat} (hk : k < 3) : (nri A B j)[k]? = some ((ix (prs A B) (nt A (pq (prs A B) j).a k) (nt B (pq (prs A B) j).b k) : Nat) : Int) := by
  unfold nri nr
  simp [hk]

theorem set_nri {A B : List (List Int)} {j k : Nat} {ys : List Value} (hl : ys.length = 3) (hk : k < 3) (hm : ∀ m, m < k → ys[m]? = (zints (nri A B j))[m]?) {x : Nat} (hx : x = ix (prs A B) (nt A (pq (prs A B) j).a k) (nt B (pq (prs A B) j).b k)) : ∀ m, m < k + 1 → (ys.set k (.int .i64 (x : Int)))[m]? = (zints (nri A B j))[m]? := by
  intro m hmk
  rw [List.getElem?_set]
  by_cases h : k = m
  · subst h
    rw [if_pos rfl, if_pos (by omega)]
    unfold zints
    rw [List.getElem?_map, nri_at A B j hk, hx]
    rfl
  · rw [if_neg h]
    exact hm m (by omega)

theorem full_nri {A B : List (List Int)} {j : Nat} {ys : List Value} (hl : ys.length = 3) (hm : ∀ m, m < 3 → ys[m]? = (zints (nri A B j))[m]?) : ys = zints (nri A B j) := by
  apply List.ext_getElem?
  intro m
  by_cases h : m < 3
  · exact hm m h
  · rw [List.getElem?_eq_none (by omega), List.getElem?_eq_none (by unfold zints; rw [List.length_map, nri_len]; omega)]

theorem abc_cut {k : Nat} (hk : k < 3) : (⟨#[97, 98, 99]⟩ : ByteArray).extract k (k + 1) = ch k := by
  match k, hk with
  | 0, _ => rfl
  | 1, _ => rfl
  | 2, _ => rfl

/-- what stands in a walk's round beside the walk: the pair that is gone on from, and the row of numbers -/
structure Side (w : World) (b gf gn : Nat) (vp vn vt : Value) (us : List Value) (p : Pq) (ys : List Value) (B : Nat) : Prop where
  lf : gf < w.heap.size
  c0 : w.cell? ⟨gf, 0, none⟩ = some (.int .i64 (p.a : Int))
  c1 : w.cell? ⟨gf, 1, none⟩ = some (.int .i64 (p.b : Int))
  row : w.ownsRow B 3 1 (.slice (some ⟨gn, 0, none⟩) 3 3) 3 ys
  fb : gf ≠ b
  nb : gn ≠ b
  fn : gf ≠ gn
  vf : ∀ v ∈ [vp, vn, vt], v.ownBlock ≠ some gf
  vn' : ∀ v ∈ [vp, vn, vt], v.ownBlock ≠ some gn
  un : ∀ u ∈ us, u.ownBlock ≠ some gn

theorem Side.below {w w' : World} {b gf gn : Nat} {vp vn vt : Value} {us : List Value} {p : Pq} {ys : List Value} {B : Nat} (h : Side w b gf gn vp vn vt us p ys B) (hb : Below w.heap.size w w') : Side w' b gf gn vp vn vt us p ys B :=
  ⟨Nat.lt_of_lt_of_le h.lf hb.size, (hb.cell (p := ⟨gf, 0, none⟩) h.lf).trans h.c0, (hb.cell (p := ⟨gf, 1, none⟩) h.lf).trans h.c1, own_belowM h.row hb, h.fb, h.nb, h.fn, h.vf, h.vn', h.un⟩

theorem Side.gone {w w' : World} {b gf gn : Nat} {vp vn vt vp' vt' : Value} {us : List Value} {p : Pq} {ys : List Value} {B : Nat} (h : Side w b gf gn vp vn vt us p ys B) (hg : PG w w' b [vp, vn, vt] [vp', vn, vt']) : Side w' b gf gn vp' vn vt' us p ys B := by
  have hgn := (World.ownsRow.lt h.row gn rfl).2
  have hf := hg.block gf h.lf h.fb h.vf
  have hn := hg.block gn hgn h.nb h.vn'
  have nf : ∀ {x : Nat}, x < w.heap.size → (∀ v ∈ [vp, vn, vt], v.ownBlock ≠ some x) → ∀ v ∈ [vp', vn, vt'], v.ownBlock ≠ some x := fun hx hv v' hv' e => by
    rcases hg.new v' hv' _ e with ⟨v, h1, h2⟩ | h1
    · exact hv v h1 h2
    · omega
  refine ⟨Nat.lt_of_lt_of_le h.lf hg.size, (World.cell?_of_block (w := w) hf).trans h.c0, (World.cell?_of_block (w := w) hf).trans h.c1, ?_, h.fb, h.nb, h.fn, nf h.lf h.vf, nf hgn h.vn', h.un⟩
  refine ⟨h.row.1, ?_⟩
  rcases h.row.2 with hx | ⟨g', cap', cur, hv, hgB, hgg, rest⟩
  · exact .inl hx
  · have e : g' = gn := by simp at hv; exact hv.1.symm
    subst e
    exact .inr ⟨g', cap', cur, hv, hgB, hn.trans hgg, rest⟩

theorem Side.put {w : World} {b gf gn : Nat} {vp vn vt : Value} {us : List Value} {p : Pq} {ys : List Value} {B : Nat} (h : Side w b gf gn vp vn vt us p ys B) (k : Nat) (x : Value) : Side (w.setCell ⟨gn, k, none⟩ x) b gf gn vp vn vt us p (ys.set k x) B := by
  refine ⟨by simpa [World.setCell] using h.lf, ?_, ?_, (World.ownsRow.stored h.row k x).1, h.fb, h.nb, h.fn, h.vf, h.vn', h.un⟩
  · rw [World.cell?_setCell_other _ _ _ _ (by intro e; simp at e; exact h.fn e.1.symm)]; exact h.c0
  · rw [World.cell?_setCell_other _ _ _ _ (by intro e; simp at e; exact h.fn e.1.symm)]; exact h.c1

/-- a walk through a store elsewhere -/
theorem PWa.put {w : World} {B b gn k : Nat} {vp vn vt : Value} {l : List Pq} {T : List ByteArray} {R : List (List Int)} {us : List Value} (h : PWa w B b vp vn vt l T R us) (x : Value) (hb : gn ≠ b) (hv : ∀ v ∈ [vp, vn, vt], v.ownBlock ≠ some gn) (hu : ∀ u ∈ us, u.ownBlock ≠ some gn) : PWa (w.setCell ⟨gn, k, none⟩ x) B b vp vn vt l T R us := by
  have sto : ∀ {e size n : Nat} {v : Value} {xs : List Value}, w.ownsRow B e size v n xs → v.ownBlock ≠ some gn → (w.setCell ⟨gn, k, none⟩ x).ownsRow B e size v n xs := fun hr hne => by
    refine ⟨hr.1, ?_⟩
    rcases hr.2 with hn | ⟨g', cap', cur, hv, hg, hgg, rest⟩
    · exact .inl hn
    · exact .inr ⟨g', cap', cur, hv, hg, (Below.heap_setCell _ _ _ _ (show g' ≠ gn from fun e => hne (by rw [hv, ← e]; rfl))).trans hgg, rest⟩
  have ce : ∀ o, (w.setCell ⟨gn, k, none⟩ x).cell? ⟨b, o, none⟩ = w.cell? ⟨b, o, none⟩ := fun o => World.cell?_setCell_other _ _ _ _ (fun e => hb (congrArg Addr.block e))
  refine ⟨by simpa [World.setCell] using h.lb, h.hb, (ce 0).trans h.c0, (ce 1).trans h.c1, (ce 2).trans h.c2, by rw [World.frozen?_setCell]; exact h.f0, by rw [World.frozen?_setCell]; exact h.f1, by rw [World.frozen?_setCell]; exact h.f2, sto h.rp (hv vp (by simp)), ?_, sto h.rt (hv vt (by simp)), h.ap, h.at', h.an, h.au⟩
  refine ⟨sto h.rn.1 (hv vn (by simp)), fun i hi => ?_, h.rn.2.2⟩
  obtain ⟨u, k1, k2, k3⟩ := h.rn.2.1 i hi
  exact ⟨u, k1, sto k2 (hu u (List.mem_of_getElem? k1)), k3⟩

end Go.Proofs.Ytecgjhnihagleaa

namespace Go.Proofs.Ytecgjhnihagleaa
open Go.RowKit Plain Mch Tpc

theorem MOwn.snoc2 {w w9 : World} {B g cap : Nat} {v u : Value} {M : List (List Int)} {us : List Value} {L : List Int} {o : Obj} (h : MOwn w B v M us) (hq : ZRow w B u L) (hu : ∀ g', u.ownBlock = some g' → v.ownBlock ≠ some g' ∧ ∀ u' ∈ us, u'.ownBlock ≠ some g')
    (hown : w9.ownsRow B 27 1 (.slice (some ⟨g, 0, none⟩) (M.length + 1) cap) (M.length + 1) (us ++ [u])) (hgrow : (w.alloc o).grownBy w9 v.ownBlock) (hat : v.ownBlock = some g ∨ g = w.heap.size + 1) :
    MOwn w9 B (.slice (some ⟨g, 0, none⟩) (M.length + 1) cap) (M ++ [L]) (us ++ [u]) := by
  have hul : us.length = M.length := by have := h.1.1; omega
  have hql := World.ownsRow.lt hq
  have qn : ZRow w9 B u L := own_besideM (World.ownsRow.alloc hq o) hgrow (fun g' e e2 => (hu g' e).1 e2.symm)
  have qo : ∀ i, i < M.length → ∃ u', us[i]? = some u' ∧ ZRow w9 B u' (rx M i) ∧ u'.ownBlock ≠ some g := fun i hi => by
    obtain ⟨u', h1, h2, h3⟩ := h.2.1 i hi
    have hlt := World.ownsRow.lt h2
    refine ⟨u', h1, ?_, fun e => ?_⟩
    · exact own_besideM (World.ownsRow.alloc h2 o) hgrow (fun g' e e2 => h3 g' e e2.symm)
    · rcases hat with e2 | e2
      · exact h3 g e e2
      · have := (hlt g e).2; omega
  have hug : u.ownBlock ≠ some g := fun e => by
    rcases hat with e2 | e2
    · exact (hu g e).1 e2
    · have := (hql g e).2; omega
  refine ⟨by rw [List.length_append]; exact hown, fun i hi => ?_, fun i j ui uj hij e1 e2 g' f1 f2 => ?_⟩
  · by_cases hl : i < M.length
    · obtain ⟨u', h1, h2, h3⟩ := qo i hl
      refine ⟨u', by rw [List.getElem?_append_left (by omega)]; exact h1, by rw [rx_old hl]; exact h2, fun g' e e2 => ?_⟩
      simp [Value.ownBlock] at e2
      rw [← e2] at e
      exact h3 e
    · have e : i = M.length := by simp at hi; omega
      subst e
      refine ⟨u, by rw [List.getElem?_append_right (by omega), hul]; simp, by rw [rx_new]; exact qn, fun g' e e2 => ?_⟩
      simp [Value.ownBlock] at e2
      rw [← e2] at e
      exact hug e
  · by_cases hl : j < M.length
    · rw [List.getElem?_append_left (by omega)] at e1 e2
      exact h.2.2 i j ui uj hij e1 e2 g' f1 f2
    · have hj : j = us.length := by
        have := (List.getElem?_eq_some_iff.1 e2).1
        simp at this
        omega
      subst hj
      rw [List.getElem?_append_left (by omega)] at e1
      rw [List.getElem?_append_right (by omega)] at e2
      simp at e2
      subst e2
      exact (hu g' f2).2 ui (List.mem_of_getElem? e1) f1

/-- a row appended, and stored -/
theorem PWa.next {w w9 : World} {B b g cap : Nat} {vp vn vt u : Value} {l : List Pq} {T : List ByteArray} {R : List (List Int)} {us : List Value} {r : List Int} {o : Obj} (h : PWa w B b vp vn vt l T R us) (hq : ZRow w B u r)
    (hu : ∀ g', u.ownBlock = some g' → g' ≠ b ∧ (∀ v ∈ [vp, vn, vt], v.ownBlock ≠ some g') ∧ ∀ u' ∈ us, u'.ownBlock ≠ some g')
    (hown : w9.ownsRow B 27 1 (.slice (some ⟨g, 0, none⟩) (R.length + 1) cap) (R.length + 1) (us ++ [u])) (hgrow : (w.alloc o).grownBy w9 vn.ownBlock) (hat : vn.ownBlock = some g ∨ g = w.heap.size + 1) :
    TNx w w9 b 1 vn ∧ PWa (w9.setCell ⟨b, 1, none⟩ (.slice (some ⟨g, 0, none⟩) (R.length + 1) cap)) B b vp (.slice (some ⟨g, 0, none⟩) (R.length + 1) cap) vt l T (R ++ [r]) (us ++ [u]) ∧ Below B w (w9.setCell ⟨b, 1, none⟩ (.slice (some ⟨g, 0, none⟩) (R.length + 1) cap)) := by
  have hsg : w.heap.size + 1 ≤ w9.heap.size := by have := hgrow.size; simpa using this
  have hlb := h.lb
  have hBb := h.hb
  have far : some b ≠ vn.ownBlock := fun e => h.an b e.symm rfl
  have hblk : w9.heap[b]? = w.heap[b]? := by
    rw [hgrow.block b (by simp; omega) far, Below.heap_alloc _ _ _ (by omega)]
  have c0 : w9.cell? ⟨b, 0, none⟩ = some vp := (World.cell?_of_block (w := w) hblk).trans h.c0
  have c1 : w9.cell? ⟨b, 1, none⟩ = some vn := (World.cell?_of_block (w := w) hblk).trans h.c1
  have c2 : w9.cell? ⟨b, 2, none⟩ = some vt := (World.cell?_of_block (w := w) hblk).trans h.c2
  have f0 : w9.frozen? ⟨b, 0, none⟩ = false := (World.frozen?_of_block (w := w) hblk).trans h.f0
  have f1 : w9.frozen? ⟨b, 1, none⟩ = false := (World.frozen?_of_block (w := w) hblk).trans h.f1
  have f2 : w9.frozen? ⟨b, 2, none⟩ = false := (World.frozen?_of_block (w := w) hblk).trans h.f2
  have hgb : g ≠ b := by rcases hat with e | e; exact h.an g e; omega
  have sto : ∀ {e size n : Nat} {v : Value} {xs : List Value}, w9.ownsRow B e size v n xs → v.ownBlock ≠ some b → (w9.setCell ⟨b, 1, none⟩ (.slice (some ⟨g, 0, none⟩) (R.length + 1) cap)).ownsRow B e size v n xs := fun hr hne => by
    refine ⟨hr.1, ?_⟩
    rcases hr.2 with hn | ⟨g', cap', cur, hv, hg, hgg, rest⟩
    · exact .inl hn
    · exact .inr ⟨g', cap', cur, hv, hg, (Below.heap_setCell _ _ _ _ (show g' ≠ b from fun e => hne (by rw [hv, ← e]; rfl))).trans hgg, rest⟩
  have ol : ∀ {v : Value} {e size n : Nat} {xs : List Value}, w.ownsRow B e size v n xs → (∀ g', v.ownBlock = some g' → some g' ≠ vn.ownBlock) → v.ownBlock ≠ some b → (w9.setCell ⟨b, 1, none⟩ (.slice (some ⟨g, 0, none⟩) (R.length + 1) cap)).ownsRow B e size v n xs := fun hr hne hb => sto (own_besideM (World.ownsRow.alloc hr o) hgrow hne) hb
  have hM := h.rn.snoc2 hq (fun g' e => ⟨(hu g' e).2.1 vn (by simp), (hu g' e).2.2⟩) hown hgrow hat
  have hau : ∀ u' ∈ us ++ [u], u'.ownBlock ≠ some b := fun u' hu' e => by
    rw [List.mem_append] at hu'
    rcases hu' with hu' | hu'
    · exact h.au u' hu' e
    · simp at hu'; subst hu'; exact (hu b e).1 rfl
  have hfresh : ∀ {v : Value} {e size n : Nat} {xs : List Value}, w.ownsRow B e size v n xs → (vn.ownBlock = some g → v.ownBlock ≠ some g) → v.ownBlock ≠ some g := fun hr hh e => by
    rcases hat with e2 | e2
    · exact hh e2 e
    · have := (World.ownsRow.lt hr g e).2; omega
  refine ⟨⟨c1, f1, by omega⟩, ⟨by simp; omega, h.hb, ?_, World.cell?_setCell_same _ _ _ c1, ?_, by rw [World.frozen?_setCell]; exact f0, by rw [World.frozen?_setCell]; exact f1, by rw [World.frozen?_setCell]; exact f2, ol h.rp (fun g' e e2 => (h.ap g' e).2.2.1 e2.symm) (fun e => (h.ap b e).1 rfl), ?_, ol h.rt (fun g' e e2 => (h.at' g' e).2.1 e2.symm) (fun e => (h.at' b e).1 rfl), ?_, ?_, ?_, hau⟩, ?_⟩
  · rw [World.cell?_setCell_other _ _ _ _ (by simp)]; exact c0
  · rw [World.cell?_setCell_other _ _ _ _ (by simp)]; exact c2
  · refine ⟨sto hM.1 (by simp [Value.ownBlock]; exact hgb), fun i hi => ?_, hM.2.2⟩
    obtain ⟨u', k1, k2, k3⟩ := hM.2.1 i hi
    exact ⟨u', k1, sto k2 (hau u' (List.mem_of_getElem? k1)), k3⟩
  · intro g' hg'
    obtain ⟨a1, a2, a3, a4⟩ := h.ap g' hg'
    refine ⟨a1, a2, fun e => ?_, fun u' hu' e => ?_⟩
    · simp [Value.ownBlock] at e
      subst e
      exact hfresh h.rp (fun e => fun e2 => (h.ap g e2).2.2.1 e) hg'
    · rw [List.mem_append] at hu'
      rcases hu' with hu' | hu'
      · exact a4 u' hu' e
      · simp at hu'; subst hu'; exact (hu g' e).2.1 vp (by simp) hg'
  · intro g' hg'
    obtain ⟨a1, a2, a3⟩ := h.at' g' hg'
    refine ⟨a1, fun e => ?_, fun u' hu' e => ?_⟩
    · simp [Value.ownBlock] at e
      subst e
      exact hfresh h.rt (fun e => fun e2 => (h.at' g e2).2.1 e) hg'
    · rw [List.mem_append] at hu'
      rcases hu' with hu' | hu'
      · exact a3 u' hu' e
      · simp at hu'; subst hu'; exact (hu g' e).2.1 vt (by simp) hg'
  · intro g' hg'
    simp [Value.ownBlock] at hg'
    subst hg'
    exact hgb
  · refine ⟨hgrow.os, hgrow.tape, hgrow.output, by simp; omega, fun j hj => ?_⟩
    rw [Below.heap_setCell _ _ _ _ (show j ≠ b by omega), hgrow.block j (by simp; omega) (fun e => by have := (World.ownsRow.lt h.rn.1 j e.symm).1; omega), Below.heap_alloc _ _ _ (by omega)]

end Go.Proofs.Ytecgjhnihagleaa

namespace Go.Proofs.Ytecgjhnihagleaa
open Go.RowKit Plain Mch Tpc

theorem abcSl (k : Nat) (W : World) (hk : k < 3) : (Instr.slice 9 (.string { data := #[97, 98, 99] }) (some (.int .i64 (k : Int))) (some (.int .i64 ((k : Int) + 1))) none).run Try.prog W = .ok (.string (ch k)) W := by
  rw [run_slice_string W 9 ⟨#[97, 98, 99]⟩ .i64 .i64 (k : Int) ((k : Int) + 1) Try.underlying9 (by omega) (by omega) (by show (k : Int) + 1 ≤ 3; omega)]
  rw [show (k : Int).toNat = k by omega, show ((k : Int) + 1).toNat = k + 1 by omega, abc_cut hk]

theorem abcSlw (k : Nat) (W : World) (hk : k < 3) : (Instr.slice 9 (.string { data := #[97, 98, 99] }) (some (.int .i64 (k : Int))) (some (.int .i64 (IntKind.i64.wrap ((k : Int) + 1)))) none).run Try.prog W = .ok (.string (ch k)) W := by
  rw [show IntKind.i64.wrap ((k : Int) + 1) = (k : Int) + 1 by rw [IntKind.wrap_i64]; omega]
  exact abcSl k W hk

attribute [local go_sem ↓] abcSl abcSlw

/-- what walkPairs leaves: a walk over all pairs that are reached -/
def WalkR (A B : List (List Int)) (w : World) (e : Ending) (w' : World) : Prop :=
  ∃ b vp vn vt us, e = .returned (.pointer (some ⟨b, 0, none⟩)) ∧ PWa w' w.heap.size b vp vn vt (prs A B) ((prs A B).map Pq.s) (NR A B (prs A B).length) us ∧ Below w.heap.size w w'

set_option maxRecDepth 100000 in
set_option maxHeartbeats 8000000 in
theorem walkPairs_any (A B : List (List Int)) (E F : List Bool) (va ea vb eb : Value) (w : World) (hA : MAt w w.heap.size va A) (hB : MAt w w.heap.size vb B) (hEA : EAt w w.heap.size ea E) (hEB : EAt w w.heap.size eb F) (hgA : gm A E = true) (hgB : gm B F = true) :
    Calls Try.prog 50 #[.agg #[va, ea], .agg #[vb, eb]] w (WalkR A B w) := by
  obtain ⟨i0, hi, hz0, hz1, hz2⟩ := info_parts Try.infoZs
  obtain ⟨k0, hk, kz0, kz1, kz2⟩ := info_parts Try.infoInt
  have HA : Hid (MAt w w.heap.size va A) := hA
  have HB : Hid (MAt w w.heap.size vb B) := hB
  have HGA : Hid (gm A E = true) := hgA
  have HGB : Hid (gm B F = true) := hgB
  clear hgA hgB
  obtain ⟨aA, cA, rfl, hlcA, hcmA, _⟩ := hA
  obtain ⟨aB, cB, rfl, hlcB, hcmB, _⟩ := hB
  obtain ⟨aE, cE, rfl, _⟩ := hEA
  obtain ⟨aF, cF, rfl, _⟩ := hEB
  unfold maxLen at hcmA hcmB
  have hmk : ∀ W : World, (Instr.makeSlice 27 (.int .i64 3) (.int .i64 3)).run Try.prog W = .ok (.slice (some ⟨W.heap.size, 0, none⟩) 3 3) (W.alloc (.cells #[.int .i64 0, .int .i64 0, .int .i64 0] 3)) := fun W => by
    have h := run_make (P := Try.prog) W 27 3 k0 (.int .i64 0) Try.underlying27 hk kz0 .i64 .i64 3 3 (by omega) (by omega) (by rw [kz2]; omega) (by omega)
    rw [kz1] at h
    have e : madeCells (Value.int .i64 0).cells ((3 : Int).toNat * 1) = #[.int .i64 0, .int .i64 0, .int .i64 0] := by kernel_rfl
    rw [e] at h
    exact h
  obtain ⟨W1, hW1⟩ : ∃ W, W = ((((w.alloc (.cells #[.slice aA A.length cA, .slice aE E.length cE] 30)).alloc (.cells #[.slice aB B.length cB, .slice aF F.length cF] 30)).alloc (.cells #[.int .i64 0, .int .i64 0] 86)).alloc (.cells #[.string ⟨#[]⟩] 9)).alloc (.cells #[.slice (some ⟨w.heap.size + 2, 0, none⟩) 1 1, .slice none 0 0, .slice (some ⟨w.heap.size + 3, 0, none⟩) 1 1] 79) := ⟨_, rfl⟩
  have HS1 : Hid (W1.heap.size = w.heap.size + 5) := by show _ = _; rw [hW1]; simp
  have hB1 : Below w.heap.size w W1 := by rw [hW1]; exact (((((Below.refl _ w).alloc (Nat.le_refl _) _).alloc (by simp) _).alloc (by simp; omega) _).alloc (by simp; omega) _).alloc (by simp; omega) _
  have q0 : W1.cell? ⟨w.heap.size, 0, none⟩ = some (.slice aA A.length cA) := by rw [hW1]; go_simp
  have q1 : W1.cell? ⟨w.heap.size + 1, 0, none⟩ = some (.slice aB B.length cB) := by rw [hW1]; go_simp
  have Q0 : Hid (W1.cell? ⟨w.heap.size, 0, none⟩ = some (.slice aA A.length cA)) := q0
  have Q1 : Hid (W1.cell? ⟨w.heap.size + 1, 0, none⟩ = some (.slice aB B.length cB)) := q1
  have HW1 : Hid (PWa W1 (w.heap.size + 2) (w.heap.size + 4) (.slice (some ⟨w.heap.size + 2, 0, none⟩) 1 1) (.slice none 0 0) (.slice (some ⟨w.heap.size + 3, 0, none⟩) 1 1) [⟨0, 0, ByteArray.empty⟩] [ByteArray.empty] [] []) := by
    refine ⟨by rw [HS1.out]; omega, by omega, by rw [hW1]; go_simp, by rw [hW1]; go_simp, by rw [hW1]; go_simp, by rw [hW1]; go_simp, by rw [hW1]; go_simp, by rw [hW1]; go_simp, ?_, MOwn.nil _ _, ?_, ?_, ?_, ?_, ?_⟩
    · refine ⟨rfl, .inr ⟨w.heap.size + 2, 1, #[.int .i64 0, .int .i64 0], rfl, Nat.le_refl _, ?_, Nat.le_refl _, by unfold maxLen; omega, rfl, rfl⟩⟩
      rw [hW1, Below.heap_alloc _ _ _ (by simp), Below.heap_alloc _ _ _ (by simp)]
      have h := heap_alloc_new ((w.alloc (.cells #[.slice aA A.length cA, .slice aE E.length cE] 30)).alloc (.cells #[.slice aB B.length cB, .slice aF F.length cF] 30)) (.cells #[.int .i64 0, .int .i64 0] 86)
      simpa using h
    · refine ⟨rfl, .inr ⟨w.heap.size + 3, 1, #[.string ByteArray.empty], rfl, by omega, ?_, Nat.le_refl _, by unfold maxLen; omega, rfl, rfl⟩⟩
      rw [hW1, Below.heap_alloc _ _ _ (by simp)]
      have h := heap_alloc_new (((w.alloc (.cells #[.slice aA A.length cA, .slice aE E.length cE] 30)).alloc (.cells #[.slice aB B.length cB, .slice aF F.length cF] 30)).alloc (.cells #[.int .i64 0, .int .i64 0] 86)) (.cells #[.string ⟨#[]⟩] 9)
      rw [World.size_alloc, World.size_alloc, World.size_alloc] at h
      exact h
    · intro g hg
      simp [Value.ownBlock] at hg
      subst hg
      exact ⟨by omega, by simp [Value.ownBlock], by simp [Value.ownBlock], fun u hu => by simp at hu⟩
    · intro g hg
      simp [Value.ownBlock] at hg
      subst hg
      exact ⟨by omega, by simp [Value.ownBlock], fun u hu => by simp at hu⟩
    · intro g hg
      simp [Value.ownBlock] at hg
    · intro u hu
      simp at hu
  go_enter Try.func50, Try.ntmps50
  go_upto_region 2 with fail
  rw [← hW1]
  clear hW1
  go_wp2
  go_loopw [6] (fun vi wr => ∃ (i : Nat) (l : List Pq) (vp vn vt : Value) (us : List Value), vi = .int .i64 (i : Int) ∧ Hid (At A B i l) ∧ Hid (PWa wr (w.heap.size + 2) (w.heap.size + 4) vp vn vt l (l.map Pq.s) (NR A B i) us) ∧ Hid (Below (w.heap.size + 2) W1 wr))
    (fun vi _ => 145 - (intOf vi).toNat)
  case atStart => exact ⟨0, _, _, _, _, _, rfl, At.start HGA.out HGB.out, HW1, Below.refl _ _⟩
  case round =>
    obtain ⟨i, l, vp, vn, vt, us, rfl, hAt, hP, hbw⟩ := hrel
    have hl144 : l.length ≤ 144 := hAt.out.met.le HGA.out HGB.out
    have hil : i ≤ l.length := hAt.out.le
    obtain ⟨ap, cp, hvp, hcp⟩ := hP.out.rp.slice
    subst hvp
    unfold maxLen at hcp
    have p0 := hP.out.c0
    clear HW1 q0 q1
    by_cases hlt : i < l.length
    · have hlt' : (i : Int) < (l.length : Int) := by omega
      obtain ⟨gp, hap, hgpl, hgpB, e0, e1⟩ := hP.out.rp.cells hlt
      subst hap
      obtain ⟨p, hp⟩ : ∃ p, pq l i = p := ⟨_, rfl⟩
      have HPP : Hid (pq l i = p) := hp
      rw [hp] at e0 e1
      clear hp
      obtain ⟨W3, hW3⟩ : ∃ W, W = (wr.alloc (.cells #[.int .i64 (p.a : Int), .int .i64 (p.b : Int)] 86)).alloc (.cells #[.int .i64 0, .int .i64 0, .int .i64 0] 3) := ⟨_, rfl⟩
      have HS3 : Hid (W3.heap.size = wr.heap.size + 2) := by show _ = _; rw [hW3]; simp
      have hb3 : Below wr.heap.size wr W3 := by rw [hW3]; exact ((Below.refl _ wr).alloc (Nat.le_refl _) _).alloc (by simp) _
      have HP3 : Hid (PWa W3 (w.heap.size + 2) (w.heap.size + 4) (.slice (some ⟨gp, 0, none⟩) l.length cp) vn vt l (l.map Pq.s) (NR A B i) us) := hP.out.below hb3
      have hwl := hP.out.lb
      have HSd : Hid (Side W3 (w.heap.size + 4) wr.heap.size (wr.heap.size + 1) (.slice (some ⟨gp, 0, none⟩) l.length cp) vn vt us p [.int .i64 0, .int .i64 0, .int .i64 0] (w.heap.size + 2)) := by
        have lim : ∀ v ∈ [Value.slice (some ⟨gp, 0, none⟩) l.length cp, vn, vt], ∀ g, v.ownBlock = some g → g < wr.heap.size := fun v hv g hg => by
          simp at hv
          rcases hv with rfl | rfl | rfl
          · exact (World.ownsRow.lt hP.out.rp g hg).2
          · exact (World.ownsRow.lt hP.out.rn.1 g hg).2
          · exact (World.ownsRow.lt hP.out.rt g hg).2
        refine ⟨by rw [HS3.out]; omega, by rw [hW3]; go_simp, by rw [hW3]; go_simp, ⟨rfl, .inr ⟨wr.heap.size + 1, 3, #[.int .i64 0, .int .i64 0, .int .i64 0], rfl, by omega, ?_, Nat.le_refl _, by unfold maxLen; omega, rfl, rfl⟩⟩, by omega, by omega, by omega, fun v hv e => ?_, fun v hv e => ?_, fun u hu e => ?_⟩
        · rw [hW3]
          have h := heap_alloc_new (wr.alloc (.cells #[.int .i64 (p.a : Int), .int .i64 (p.b : Int)] 86)) (.cells #[.int .i64 0, .int .i64 0, .int .i64 0] 3)
          simpa using h
        · have := lim v hv _ e; omega
        · have := lim v hv _ e; omega
        · have := (hP.out.rn.rows u hu _ e).2; omega
      have HB3 : Hid (Below (w.heap.size + 2) W1 W3) := hbw.out.trans (hb3.mono (by omega))
      have hpa : p.a < A.length ∧ p.b < B.length := by rw [← HPP.out]; exact hAt.out.met.lo i hlt
      clear hb3
      go_upto_region 7 with fail
      rw [← hW3]
      clear hW3 e0 e1 p0
      go_wp2
      obtain ⟨wo, hwo⟩ : ∃ W, W = wr := ⟨_, rfl⟩
      rw [← hwo] at HS3 HSd hwl
      rw [← hwo]
      clear hP hbw hgpl hwo
      go_loopw [35] (fun vk wr => ∃ (k : Nat) (vp' vt' : Value) (ys : List Value), k ≤ 3 ∧ vk = .int .i64 (k : Int) ∧ Hid (PWa wr (w.heap.size + 2) (w.heap.size + 4) vp' vn vt' (stk A B l p k) ((stk A B l p k).map Pq.s) (NR A B i) us) ∧ Hid (Side wr (w.heap.size + 4) wo.heap.size (wo.heap.size + 1) vp' vn vt' us p ys (w.heap.size + 2)) ∧ Hid (∀ m, m < k → ys[m]? = (zints (nri A B i))[m]?) ∧ Hid (Below (w.heap.size + 2) W1 wr))
        (fun vk _ => 3 - (intOf vk).toNat)
      case atStart => exact ⟨0, _, _, _, by omega, rfl, HP3, HSd, fun m hm => by omega, HB3⟩
      case round =>
        obtain ⟨k, vp', vt', ys, hk3, rfl, hPk, hSk, hys, hbk⟩ := hrel
        clear HP3 HSd HB3
        by_cases hlk : k < 3
        · have hlk' : (k : Int) < 3 := by omega
          have hBr : Below w.heap.size w wr := hB1.trans (hbk.out.mono (by omega))
          obtain ⟨gA, oA, guA, ouA, cuA, hA1, hA2, hA3, hA4, hA5⟩ := (HA.out.below hBr).to HGA.out hpa.1 hlk
          obtain ⟨gB, oB, guB, ouB, cuB, hB1', hB2, hB3, hB4, hB5⟩ := (HB.out.below hBr).to HGB.out hpa.2 hlk
          subst hA1 hB1'
          have s1 := (hbk.out.cell (p := ⟨w.heap.size, 0, none⟩) (by show w.heap.size < _; omega)).trans Q0.out
          have s2 := (hbk.out.cell (p := ⟨w.heap.size + 1, 0, none⟩) (by show w.heap.size + 1 < _; omega)).trans Q1.out
          have s3 := hSk.out.c0
          have s4 := hSk.out.c1
          have hlf := hSk.out.lf
          have hll : w.heap.size + 1 < wr.heap.size := by have := hPk.out.lb; omega
          have HSX : Hid (∀ w' : World, Below wr.heap.size wr w' → w'.cell? ⟨w.heap.size, 0, none⟩ = some (.slice (some ⟨gA, oA, none⟩) A.length cA) ∧ w'.cell? ⟨w.heap.size + 1, 0, none⟩ = some (.slice (some ⟨gB, oB, none⟩) B.length cB) ∧ w'.cell? ⟨wo.heap.size, 0, none⟩ = some (.int .i64 (p.a : Int)) ∧ w'.cell? ⟨wo.heap.size, 1, none⟩ = some (.int .i64 (p.b : Int)) ∧ w'.cell? ⟨gA, oA + p.a, none⟩ = some (.slice (some ⟨guA, ouA, none⟩) 3 cuA) ∧ w'.cell? ⟨guA, ouA + k, none⟩ = some (.int .i64 ((nt A p.a k : Nat) : Int)) ∧ w'.cell? ⟨gB, oB + p.b, none⟩ = some (.slice (some ⟨guB, ouB, none⟩) 3 cuB) ∧ w'.cell? ⟨guB, ouB + k, none⟩ = some (.int .i64 ((nt B p.b k : Nat) : Int))) := fun w' h => ⟨(h.cell (p := ⟨w.heap.size, 0, none⟩) (by show w.heap.size < _; omega)).trans s1, (h.cell (p := ⟨w.heap.size + 1, 0, none⟩) hll).trans s2, (h.cell (p := ⟨wo.heap.size, 0, none⟩) hlf).trans s3, (h.cell (p := ⟨wo.heap.size, 1, none⟩) hlf).trans s4, (h.cell (p := ⟨gA, oA + p.a, none⟩) hA2).trans hA3, (h.cell (p := ⟨guA, ouA + k, none⟩) hA4).trans hA5, (h.cell (p := ⟨gB, oB + p.b, none⟩) hB2).trans hB3, (h.cell (p := ⟨guB, ouB + k, none⟩) hB4).trans hB5⟩
          have hpaA : (p.a : Int) < (A.length : Int) := by omega
          have hpbB : (p.b : Int) < (B.length : Int) := by omega
          have sd := HSX.out _ ((Below.refl _ wr).drew)
          have sa : ∀ o, _ := fun o => HSX.out _ (((Below.refl _ wr).drew).alloc (Nat.le_refl _) o)
          have ss : ∀ o x y, _ := fun o x y => HSX.out _ (((((Below.refl _ wr).drew).alloc (Nat.le_refl _) o).setCell (p := ⟨wr.heap.size, 0, none⟩) (Nat.le_refl _) x).setCell (p := ⟨wr.heap.size, 1, none⟩) (Nat.le_refl _) y)
          clear s1 s2 s3 s4 hA3 hA5 hB3 hB5
          go_upto_region 10 with fail
          go_region_held3 (fun w' => w'.cell? ⟨w.heap.size, 0, none⟩ = some (.slice (some ⟨gA, oA, none⟩) A.length cA) ∧ w'.cell? ⟨w.heap.size + 1, 0, none⟩ = some (.slice (some ⟨gB, oB, none⟩) B.length cB) ∧ w'.cell? ⟨wo.heap.size, 0, none⟩ = some (.int .i64 (p.a : Int)) ∧ w'.cell? ⟨wo.heap.size, 1, none⟩ = some (.int .i64 (p.b : Int)) ∧ w'.cell? ⟨gA, oA + p.a, none⟩ = some (.slice (some ⟨guA, ouA, none⟩) 3 cuA) ∧ w'.cell? ⟨guA, ouA + k, none⟩ = some (.int .i64 ((nt A p.a k : Nat) : Int)) ∧ w'.cell? ⟨gB, oB + p.b, none⟩ = some (.slice (some ⟨guB, ouB, none⟩) 3 cuB) ∧ w'.cell? ⟨guB, ouB + k, none⟩ = some (.int .i64 ((nt B p.b k : Nat) : Int)))
            (first | with_reducible exact sd | with_reducible exact sa _ | with_reducible exact ss _ _ _ | exact ss _ _ _ | exact sa _ | exact sd)
            (fail)
          obtain ⟨W4, hW4⟩ : ∃ W, W = (wr.alloc (.cells #[.int .i64 ((nt A p.a k : Nat) : Int), .int .i64 ((nt B p.b k : Nat) : Int)] 86)).drew := ⟨_, rfl⟩
          have hb4 : Below wr.heap.size wr W4 := by rw [hW4]; exact ((Below.refl _ wr).alloc (Nat.le_refl _) _).drew
          have x0 : W4.cell? ⟨wr.heap.size, 0, none⟩ = some (.int .i64 ((nt A p.a k : Nat) : Int)) := by rw [hW4]; go_simp
          have x1 : W4.cell? ⟨wr.heap.size, 1, none⟩ = some (.int .i64 ((nt B p.b k : Nat) : Int)) := by rw [hW4]; go_simp
          have hl4 : wr.heap.size < W4.heap.size := by rw [hW4]; simp
          have HP4 : Hid (PWa W4 (w.heap.size + 2) (w.heap.size + 4) vp' vn vt' (stk A B l p k) ((stk A B l p k).map Pq.s) (NR A B i) us) := hPk.out.below hb4
          have HS4 : Hid (Side W4 (w.heap.size + 4) wo.heap.size (wo.heap.size + 1) vp' vn vt' us p ys (w.heap.size + 2)) := hSk.out.below hb4
          have HB4 : Hid (Below (w.heap.size + 2) W1 W4) := hbk.out.trans (hb4.mono (by omega))
          have hgr : ∃ m, stk A B l p k = l ++ m := stk_grows A B l p k
          have hik : i < (stk A B l p k).length := by obtain ⟨m, e⟩ := hgr; rw [e, List.length_append]; omega
          have HPK : Hid (pq (stk A B l p k) i = p) := by obtain ⟨m, e⟩ := hgr; show _ = _; rw [e, pq_left hlt]; exact HPP.out
          obtain ⟨L, hL⟩ : ∃ L, L = stk A B l p k := ⟨_, rfl⟩
          obtain ⟨T, hT⟩ : ∃ T, T = L.map Pq.s := ⟨_, rfl⟩
          have HLL : Hid (L = stk A B l p k) := hL
          have HTT : Hid (T = L.map Pq.s) := hT
          rw [← hL] at HP4 hik HPK
          rw [← hT] at HP4
          have HTL : Hid (T.length = L.length) := by show _ = _; rw [hT]; simp
          have hTi : lq T i = p.s := by
            rw [hT]
            unfold lq
            rw [List.getD_eq_getElem?_getD, List.getElem?_map, pq_at hik, HPK.out]
            rfl
          have hL145 : L.length ≤ 145 := by rw [hL, ← HPP.out]; have := (stk_met HGA.out HGB.out hAt.out.met hlt k hk3).le HGA.out HGB.out; omega
          clear hL hT
          have hiT : (i : Int) < (T.length : Int) := by have := HTL.out; omega
          obtain ⟨at', ct, hvt⟩ := StRow.slice HP4.out.rt
          subst hvt
          obtain ⟨a2, c2, hv2, _, _, htx⟩ := StAt.own HP4.out.rt
          simp only [Value.slice.injEq, true_and] at hv2
          obtain ⟨rfl, rfl⟩ := hv2
          obtain ⟨gt, ot, hat, hgt, hct⟩ := htx i (by have := HTL.out; omega)
          subst hat
          rw [hTi] at hct
          have hps : p.s.size ≤ 144 := by rw [← HPP.out]; have := hAt.out.met.txt i hlt; omega
          have t2 := HP4.out.c2
          have x0d : W4.drew.cell? ⟨wr.heap.size, 0, none⟩ = some (.int .i64 ((nt A p.a k : Nat) : Int)) := x0
          have x1d : W4.drew.cell? ⟨wr.heap.size, 1, none⟩ = some (.int .i64 ((nt B p.b k : Nat) : Int)) := x1
          have t2d : W4.drew.cell? ⟨w.heap.size + 4, 2, none⟩ = some (.slice (some ⟨gt, ot, none⟩) T.length ct) := t2
          have ctd : W4.drew.cell? ⟨gt, ot + i, none⟩ = some (.string p.s) := hct
          have HP4d : Hid (PWa W4.drew (w.heap.size + 2) (w.heap.size + 4) vp' vn (.slice (some ⟨gt, ot, none⟩) T.length ct) L T (NR A B i) us) := HP4.out.below ((Below.refl _ W4).drew)
          have HS4d : Hid (Side W4.drew (w.heap.size + 4) wo.heap.size (wo.heap.size + 1) vp' vn (.slice (some ⟨gt, ot, none⟩) T.length ct) us p ys (w.heap.size + 2)) := HS4.out.below ((Below.refl _ W4).drew)
          have hcs : (ch k).size = 1 := ch_size k
          obtain ⟨a0, ha0⟩ : ∃ a, ys[k]? = some a := ⟨_, List.getElem?_eq_getElem (by have := HS4.out.row.1; omega)⟩
          have CT : Hid (Calls Try.prog 76 #[.pointer (some ⟨w.heap.size + 4, 0, none⟩), .agg #[.int .i64 ((nt A p.a k : Nat) : Int), .int .i64 ((nt B p.b k : Nat) : Int)], .string (p.s ++ ch k)] W4.drew fun e w' => e = .returned (.int .i64 ((ix L (nt A p.a k) (nt B p.b k) : Nat) : Int)) ∧ ∃ vp5 vt5, PWa w' (w.heap.size + 2) (w.heap.size + 4) vp5 vn vt5 (pu L (qn A B p k)) ((pu L (qn A B p k)).map Pq.s) (NR A B i) us ∧ PG W4.drew w' (w.heap.size + 4) [vp', vn, .slice (some ⟨gt, ot, none⟩) T.length ct] [vp5, vn, vt5]) := comeTo_any _ _ _ _ _ L _ _ (qn A B p k) _ (by rw [← HTT.out]; exact HP4d.out) (by omega)
          clear hgr hPk hSk hbk sd sa ss HSX hb4 htx hTi
          go_upto_region 11 with fail
          rw [← hW4]
          clear hW4
          go_region_with (go_at_call 76; refine CT.out.mono ?_; rintro e w5 ⟨rfl, vp5, vt5, hP5, hG5⟩; have hS5 := HS4d.out.gone hG5; have r5 := hS5.row.cellAt k (by omega); rw [ha0] at r5; have z5 := hS5.row.frozenAt k)
          all_goals
            obtain ⟨W6, hW6⟩ : ∃ W, W = w5.setCell ⟨wo.heap.size + 1, k, none⟩ (.int .i64 ((ix L (nt A p.a k) (nt B p.b k) : Nat) : Int)) := ⟨_, rfl⟩
            have HP6 : Hid (PWa W6 (w.heap.size + 2) (w.heap.size + 4) vp5 vn vt5 (stk A B l p (k + 1)) ((stk A B l p (k + 1)).map Pq.s) (NR A B i) us) := by
              show PWa _ _ _ _ _ _ _ _ _ _
              rw [hW6, stk, ← HLL.out]
              exact hP5.put _ hS5.nb hS5.vn' hS5.un
            have HS6 : Hid (Side W6 (w.heap.size + 4) wo.heap.size (wo.heap.size + 1) vp5 vn vt5 us p (ys.set k (.int .i64 ((ix L (nt A p.a k) (nt B p.b k) : Nat) : Int))) (w.heap.size + 2)) := by
              show Side _ _ _ _ _ _ _ _ _ _ _
              rw [hW6]
              exact hS5.put _ _
            have hyl : ys.length = 3 := by have := hS5.row.1; omega
            have HY6 : Hid (∀ m, m < k + 1 → (ys.set k (.int .i64 ((ix L (nt A p.a k) (nt B p.b k) : Nat) : Int)))[m]? = (zints (nri A B i))[m]?) := by
              refine set_nri hyl hlk hys.out ?_
              have h := stk_ix HGA.out HGB.out hAt.out hlt hlk
              rw [HPP.out, ← HLL.out] at h
              exact h
            have HB6 : Hid (Below (w.heap.size + 2) W1 W6) := by
              show Below _ _ _
              rw [hW6]
              exact ((HB4.out.drew).trans (HP4d.out.keeps hG5)).setCell (p := ⟨wo.heap.size + 1, k, none⟩) (by show w.heap.size + 2 ≤ wo.heap.size + 1; omega) _
            clear hP5 hG5 hS5 r5 z5 hyl
            go_wp2_with fail
            go_roundw
            case rel => exact ⟨k + 1, vp5, vt5, _, by omega, by go_num, by rw [← hW6]; exact HP6, by rw [← hW6]; exact HS6, HY6, by rw [← hW6]; exact HB6⟩
            case measure => simp [intOf]; omega
        · have hk3' : k = 3 := by omega
          subst hk3'
          have hge : ¬ ((3 : Int) < 3) := by omega
          have HN : Hid (At A B (i + 1) (stk A B l p 3)) := by
            show At _ _ _ _
            rw [stk_3, ← HPP.out]
            exact hAt.out.next HGA.out HGB.out hlt
          have HZ : Hid (ZRow wr (w.heap.size + 2) (.slice (some ⟨wo.heap.size + 1, 0, none⟩) (nri A B i).length 3) (nri A B i)) := by
            have h := hSk.out.row
            rw [full_nri (by have := h.1; omega) hys.out] at h
            show World.ownsRow _ _ _ _ _ _ _
            rw [nri_len]
            exact h
          have HNR : Hid ((NR A B i).length = i) := NR_len A B i
          have HUU : Hid (∀ g', (Value.slice (some ⟨wo.heap.size + 1, 0, none⟩) (nri A B i).length 3).ownBlock = some g' → g' ≠ w.heap.size + 4 ∧ (∀ v ∈ [vp', vn, vt'], v.ownBlock ≠ some g') ∧ ∀ u' ∈ us, u'.ownBlock ≠ some g') := fun g' hg' => by
            simp [Value.ownBlock] at hg'
            subst hg'
            exact ⟨hSk.out.nb, hSk.out.vn', hSk.out.un⟩
          obtain ⟨an, cn, hvn⟩ := hPk.out.rn.slice
          subst hvn
          obtain ⟨RR, hRR⟩ : ∃ RR, RR = NR A B i := ⟨_, rfl⟩
          have HRR : Hid (RR = NR A B i) := hRR
          rw [← hRR] at hPk HNR HUU
          have n1 := hPk.out.c1
          have hwb := hPk.out.lb
          have HN3 : Hid ((nri A B i).length = 3) := nri_len A B i
          clear hSk hys hRR
          have hi144 : i ≤ 144 := by omega
          go_wp2_with (at_builtin; refine wpList_append_lies _ rfl _ _ 22 rfl (w.heap.size + 2) 27 i0 (.slice none 0 0) 1 24 Try.underlying22 hi hz0 hz1 hz2 rfl (by decide) _ RR.length _ rfl (World.ownsRow.alloc hPk.out.rn.1 _) ⟨wr.heap.size, 0, none⟩ 1 1 [.slice (some ⟨wo.heap.size + 1, 0, none⟩) 3 3] rfl rfl (World.news_of_block (heap_alloc_new wr _)) (one1M _ _ _) (by omega) (by unfold maxLen; have := HNR.out; omega) (by have := HNR.out; omega) (by simp; omega) (wr.heap.size + 1) (by simp) ?_)
          intro g9 cap9 w9 hown9 hgrow9 hat9 hlt9
          obtain ⟨⟨q9, f9, k9⟩, hT9, hB9⟩ := hPk.out.next (r := nri A B i) HZ.out HUU.out (by rw [HN3.out]; exact hown9) hgrow9 hat9
          have HT9 : Hid (PWa (w9.setCell ⟨w.heap.size + 4, 1, none⟩ (.slice (some ⟨g9, 0, none⟩) (RR.length + 1) cap9)) (w.heap.size + 2) (w.heap.size + 4) vp' (.slice (some ⟨g9, 0, none⟩) (RR.length + 1) cap9) vt' (stk A B l p 3) ((stk A B l p 3).map Pq.s) (NR A B (i + 1)) (us ++ [.slice (some ⟨wo.heap.size + 1, 0, none⟩) (nri A B i).length 3])) := by
            rw [NR_succ, ← HRR.out]
            exact hT9
          have HB9 : Hid (Below (w.heap.size + 2) W1 (w9.setCell ⟨w.heap.size + 4, 1, none⟩ (.slice (some ⟨g9, 0, none⟩) (RR.length + 1) cap9))) := hbk.out.trans hB9
          clear hT9 hB9 hown9 hgrow9 hat9 n1 hPk
          go_wp2
          go_roundw
          case rel => exact ⟨i + 1, _, _, _, _, _, by go_num, HN, HT9, HB9⟩
          case measure => simp [intOf]; omega
    · have hke : i = l.length := by omega
      have hge : ¬ ((i : Int) < (l.length : Int)) := by omega
      have HD : Hid (l = prs A B) := hAt.out.done HGA.out HGB.out hke
      have HF : Hid (PWa wr w.heap.size (w.heap.size + 4) (.slice ap l.length cp) vn vt (prs A B) ((prs A B).map Pq.s) (NR A B (prs A B).length) us) := by
        have h := hP.out
        rw [hke] at h
        show PWa _ _ _ _ _ _ _ _ _ _
        rw [← HD.out]
        exact ⟨h.lb, by omega, h.c0, h.c1, h.c2, h.f0, h.f1, h.f2, own_lowerM h.rp (by omega), h.rn.lower (by omega), own_lowerM h.rt (by omega), h.ap, h.at', h.an, h.au⟩
      have HBe : Hid (Below w.heap.size w wr) := hB1.trans (hbw.out.mono (by omega))
      clear hke hP hAt
      go_wp2
      go_ret
      exact ⟨_, _, _, _, _, rfl, HF.out, HBe.out⟩

end Go.Proofs.Ytecgjhnihagleaa
