/- Pairs that are reached: letter by letter, and the numbers that they go to. -/
import Derived.Test.YtecgjhnihagleaaMcX
namespace Go.Proofs.Ytecgjhnihagleaa
open Go.RowKit Plain Mch Tpc

/-- the pairs that are known once the first k letters of p were gone by -/
def Mch.stk (A B : List (List Int)) (l : List Pq) (p : Pq) : Nat → List Pq
  | 0 => l
  | k + 1 => pu (stk A B l p k) (qn A B p k)

theorem stk_3 (A B : List (List Int)) (l : List Pq) (p : Pq) : stk A B l p 3 = st3 A B l p := rfl

theorem stk_grows (A B : List (List Int)) (l : List Pq) (p : Pq) : ∀ k, ∃ m, stk A B l p k = l ++ m
  | 0 => ⟨[], by simp [stk]⟩
  | k + 1 => by
    obtain ⟨m, e⟩ := stk_grows A B l p k
    obtain ⟨m', e'⟩ := pu_grows (stk A B l p k) (qn A B p k)
    exact ⟨m ++ m', by rw [stk, e', e, List.append_assoc]⟩

theorem stk_more (A B : List (List Int)) (l : List Pq) (p : Pq) (k : Nat) : ∀ d, ∃ m, stk A B l p (k + d) = stk A B l p k ++ m
  | 0 => ⟨[], by simp⟩
  | d + 1 => by
    obtain ⟨m, e⟩ := stk_more A B l p k d
    obtain ⟨m', e'⟩ := pu_grows (stk A B l p (k + d)) (qn A B p (k + d))
    exact ⟨m ++ m', by rw [show k + (d + 1) = (k + d) + 1 from rfl, stk, e', e, List.append_assoc]⟩

theorem stk_met {A B : List (List Int)} {E F : List Bool} (hA : gm A E = true) (hB : gm B F = true) {l : List Pq} {i : Nat} (h : Mch.Met A.length B.length l) (hi : i < l.length) : ∀ k, k ≤ 3 → Mch.Met A.length B.length (stk A B l (pq l i) k)
  | 0, _ => h
  | k + 1, hk => by
    obtain ⟨m, e⟩ := stk_grows A B l (pq l i) k
    have h1 := stk_met hA hB h hi k (by omega)
    refine h1.step hA hB (i := i) (p := pq l i) (by rw [e, List.length_append]; omega) (by rw [e, pq_left hi]) (by omega)

/-- the number that letter k leads to, in the list as it stands then, is its number in all -/
theorem stk_ix {A B : List (List Int)} {E F : List Bool} (hA : gm A E = true) (hB : gm B F = true) {i : Nat} {l : List Pq} (h : At A B i l) (hi : i < l.length) {k : Nat} (hk : k < 3) :
    ix (stk A B l (pq l i) k) (qn A B (pq l i) k).a (qn A B (pq l i) k).b = ix (prs A B) (nt A (pq (prs A B) i).a k) (nt B (pq (prs A B) i).b k) := by
  obtain ⟨m, e⟩ := (h.next hA hB hi).ahead
  obtain ⟨m0, e0⟩ := h.ahead
  have ep : pq (prs A B) i = pq l i := by rw [e0, pq_left hi]
  rw [ep]
  obtain ⟨m2, e2⟩ := stk_more A B l (pq l i) (k + 1) (2 - k)
  rw [show k + 1 + (2 - k) = 3 by omega, stk_3] at e2
  rw [e, e2, List.append_assoc]
  obtain ⟨h1, h2⟩ := ix_pu (stk A B l (pq l i) k) (qn A B (pq l i) k)
  have e3 : ix (stk A B l (pq l i) (k + 1)) (qn A B (pq l i) k).a (qn A B (pq l i) k).b = ix (stk A B l (pq l i) k) (qn A B (pq l i) k).a (qn A B (pq l i) k).b := h1
  show _ = ix (stk A B l (pq l i) (k + 1) ++ (m2 ++ m)) (qn A B (pq l i) k).a (qn A B (pq l i) k).b
  rw [ix_app (by rw [e3]; exact h2), e3]

/-- the numbers that pair j goes to, as ints -/
def Mch.nri (A B : List (List Int)) (j : Nat) : List Int := (nr A B j).map (fun x : Nat => (x : Int))
def Mch.NR (A B : List (List Int)) (i : Nat) : List (List Int) := (List.range i).map (nri A B)

theorem NR_len (A B : List (List Int)) (i : Nat) : (NR A B i).length = i := by simp [NR]
theorem NR_succ (A B : List (List Int)) (i : Nat) : NR A B (i + 1) = NR A B i ++ [nri A B i] := by
  unfold NR
  rw [List.range_succ, List.map_append]
  rfl
theorem nri_len (A B : List (List Int)) (j : Nat) : (nri A B j).length = 3 := by simp [nri, nr]
theorem nri_at (A B : List (List Int)) (j : Nat) {k : Nat} (hk : k < 3) : (nri A B j)[k]? = some ((ix (prs A B) (nt A (pq (prs A B) j).a k) (nt B (pq (prs A B) j).b k) : Nat) : Int) := by
  unfold nri nr
  simp [hk]

theorem set_nri {A B : List (List Int)} {j k : Nat} {ys : List Value} (hl : ys.length = 3) (hk : k < 3) (hm : ∀ m, m < k → ys[m]? = (zints (nri A B j))[m]?) {x : Nat} (hx : x = ix (prs A B) (nt A (pq (prs A B) j).a k) (nt B (pq (prs A B) j).b k)) : ∀ m, m < k + 1 → (ys.set k (.int .i64 (x : Int)))[m]? = (zints (nri A B j))[m]? := by
  intro m hmk
  rw [List.getElem?_set]
  by_cases h : k = m
  · subst h
    rw [if_pos rfl, if_pos (by omega)]
    unfold zints
    rw [List.getElem?_map, nri_at A B j hk, hx]
    rfl
  · rw [if_neg h]
    exact hm m (by omega)

theorem full_nri {A B : List (List Int)} {j : Nat} {ys : List Value} (hl : ys.length = 3) (hm : ∀ m, m < 3 → ys[m]? = (zints (nri A B j))[m]?) : ys = zints (nri A B j) := by
  apply List.ext_getElem?
  intro m
  by_cases h : m < 3
  · exact hm m h
  · rw [List.getElem?_eq_none (by omega), List.getElem?_eq_none (by unfold zints; rw [List.length_map, nri_len]; omega)]

theorem abc_cut {k : Nat} (hk : k < 3) : (⟨#[97, 98, 99]⟩ : ByteArray).extract k (k + 1) = ch k := by
  match k, hk with
  | 0, _ => rfl
  | 1, _ => rfl
  | 2, _ => rfl

/-- what stands in a walk's round beside the walk: the pair that is gone on from, and the row of numbers -/
structure Side (w : World) (b gf gn : Nat) (vp vn vt : Value) (us : List Value) (p : Pq) (ys : List Value) (B : Nat) : Prop where
  lf : gf < w.heap.size
  c0 : w.cell? ⟨gf, 0, none⟩ = some (.int .i64 (p.a : Int))
  c1 : w.cell? ⟨gf, 1, none⟩ = some (.int .i64 (p.b : Int))
  row : w.ownsRow B 3 1 (.slice (some ⟨gn, 0, none⟩) 3 3) 3 ys
  fb : gf ≠ b
  nb : gn ≠ b
  fn : gf ≠ gn
  vf : ∀ v ∈ [vp, vn, vt], v.ownBlock ≠ some gf
  vn' : ∀ v ∈ [vp, vn, vt], v.ownBlock ≠ some gn
  un : ∀ u ∈ us, u.ownBlock ≠ some gn

theorem Side.below {w w' : World} {b gf gn : Nat} {vp vn vt : Value} {us : List Value} {p : Pq} {ys : List Value} {B : Nat} (h : Side w b gf gn vp vn vt us p ys B) (hb : Below w.heap.size w w') : Side w' b gf gn vp vn vt us p ys B :=
  ⟨Nat.lt_of_lt_of_le h.lf hb.size, (hb.cell (p := ⟨gf, 0, none⟩) h.lf).trans h.c0, (hb.cell (p := ⟨gf, 1, none⟩) h.lf).trans h.c1, own_belowM h.row hb, h.fb, h.nb, h.fn, h.vf, h.vn', h.un⟩

theorem Side.gone {w w' : World} {b gf gn : Nat} {vp vn vt vp' vt' : Value} {us : List Value} {p : Pq} {ys : List Value} {B : Nat} (h : Side w b gf gn vp vn vt us p ys B) (hg : PG w w' b [vp, vn, vt] [vp', vn, vt']) : Side w' b gf gn vp' vn vt' us p ys B := by
  have hgn := (World.ownsRow.lt h.row gn rfl).2
  have hf := hg.block gf h.lf h.fb h.vf
  have hn := hg.block gn hgn h.nb h.vn'
  have nf : ∀ {x : Nat}, x < w.heap.size → (∀ v ∈ [vp, vn, vt], v.ownBlock ≠ some x) → ∀ v ∈ [vp', vn, vt'], v.ownBlock ≠ some x := fun hx hv v' hv' e => by
    rcases hg.new v' hv' _ e with ⟨v, h1, h2⟩ | h1
    · exact hv v h1 h2
    · omega
  refine ⟨Nat.lt_of_lt_of_le h.lf hg.size, (World.cell?_of_block (w := w) hf).trans h.c0, (World.cell?_of_block (w := w) hf).trans h.c1, ?_, h.fb, h.nb, h.fn, nf h.lf h.vf, nf hgn h.vn', h.un⟩
  refine ⟨h.row.1, ?_⟩
  rcases h.row.2 with hx | ⟨g', cap', cur, hv, hgB, hgg, rest⟩
  · exact .inl hx
  · have e : g' = gn := by simp at hv; exact hv.1.symm
    subst e
    exact .inr ⟨g', cap', cur, hv, hgB, hn.trans hgg, rest⟩

theorem Side.put {w : World} {b gf gn : Nat} {vp vn vt : Value} {us : List Value} {p : Pq} {ys : List Value} {B : Nat} (h : Side w b gf gn vp vn vt us p ys B) (k : Nat) (x : Value) : Side (w.setCell ⟨gn, k, none⟩ x) b gf gn vp vn vt us p (ys.set k x) B := by
  refine ⟨by simpa [World.setCell] using h.lf, ?_, ?_, (World.ownsRow.stored h.row k x).1, h.fb, h.nb, h.fn, h.vf, h.vn', h.un⟩
  · rw [World.cell?_setCell_other _ _ _ _ (by intro e; simp at e; exact h.fn e.1.symm)]; exact h.c0
  · rw [World.cell?_setCell_other _ _ _ _ (by intro e; simp at e; exact h.fn e.1.symm)]; exact h.c1

/-- a walk through a store elsewhere -/
theorem PWa.put {w : World} {B b gn k : Nat} {vp vn vt : Value} {l : List Pq} {T : List ByteArray} {R : List (List Int)} {us : List Value} (h : PWa w B b vp vn vt l T R us) (x : Value) (hb : gn ≠ b) (hv : ∀ v ∈ [vp, vn, vt], v.ownBlock ≠ some gn) (hu : ∀ u ∈ us, u.ownBlock ≠ some gn) : PWa (w.setCell ⟨gn, k, none⟩ x) B b vp vn vt l T R us := by
  have sto : ∀ {e size n : Nat} {v : Value} {xs : List Value}, w.ownsRow B e size v n xs → v.ownBlock ≠ some gn → (w.setCell ⟨gn, k, none⟩ x).ownsRow B e size v n xs := fun hr hne => by
    refine ⟨hr.1, ?_⟩
    rcases hr.2 with hn | ⟨g', cap', cur, hv, hg, hgg, rest⟩
    · exact .inl hn
    · exact .inr ⟨g', cap', cur, hv, hg, (Below.heap_setCell _ _ _ _ (show g' ≠ gn from fun e => hne (by rw [hv, ← e]; rfl))).trans hgg, rest⟩
  have ce : ∀ o, (w.setCell ⟨gn, k, none⟩ x).cell? ⟨b, o, none⟩ = w.cell? ⟨b, o, none⟩ := fun o => World.cell?_setCell_other _ _ _ _ (fun e => hb (congrArg Addr.block e))
  refine ⟨by simpa [World.setCell] using h.lb, h.hb, (ce 0).trans h.c0, (ce 1).trans h.c1, (ce 2).trans h.c2, by rw [World.frozen?_setCell]; exact h.f0, by rw [World.frozen?_setCell]; exact h.f1, by rw [World.frozen?_setCell]; exact h.f2, sto h.rp (hv vp (by simp)), ?_, sto h.rt (hv vt (by simp)), h.ap, h.at', h.an, h.au⟩
  refine ⟨sto h.rn.1 (hv vn (by simp)), fun i hi => ?_, h.rn.2.2⟩
  obtain ⟨u, k1, k2, k3⟩ := h.rn.2.1 i hi
  exact ⟨u, k1, sto k2 (hu u (List.mem_of_getElem? k1)), k3⟩

end Go.Proofs.Ytecgjhnihagleaa
