/- The model's tree of a type. -/
import Derived.Test.YtjaklpibjijkkaaSchJ
import Derived.Laws.ResultCell
import Derived.Laws.Rows
import Derived.Deep.RegionLaw
import Derived.Deep.AppendLies
namespace Go.Proofs.Ytjaklpibjijkkaa
open Go.RowKit Plain Sch

theorem Try.infoTr : (Try.prog.info? 57).map (fun i => (i.zero, i.size, i.bytes)) = some (some (.agg #[.int .i64 0, .string ⟨#[]⟩, .int .i64 0, .bool false, .int .i64 0, .slice none 0 0]), 6, 72) := by kernel_rfl

theorem ints_at {w : World} {B n cap g : Nat} {l : List Nat} (h : w.ownsRow B 3 1 (.slice (some ⟨g, 0, none⟩) n cap) n (ints l)) (i x : Nat) (hx : l[i]? = some x) (hi : i < n) : w.cell? ⟨g, i, none⟩ = some (.int .i64 (x : Int)) := by
  have := h.cellAt i (by omega)
  rw [this]
  simp [ints, hx]

theorem one6 {k : Int} {nm : ByteArray} {no : Int} {m : Bool} {mo : Int} {ao : Option Addr} {l cp : Nat} : ∀ u ∈ [Value.int .i64 k, .string nm, .int .i64 no, .bool m, .int .i64 mo, .slice ao l cp], u.oneCell' = true := by
  intro u hu
  simp at hu
  rcases hu with rfl | rfl | rfl | rfl | rfl | rfl <;> rfl

/-- what holds when n parts have been put to a node's own -/
def TInv (T : List Ty) (f : Nat) (b : Nat) (w1 : World) (ks : List Nat) (ar : Option Addr) (capr : Nat) (kind : Int) (name : ByteArray) (no : Int) (must : Bool) (most : Int) (n : Nat) (wr : World) : Prop :=
  ∃ (kv : Value) (rows : List (Tr × Value)) (S : Nat → Prop), Hid (rows.map Prod.fst = (ks.take n).map (tree T f)) ∧ rows.length = n ∧
    NdIn wr (b + 1 + 1 + 1) 0 (.mk kind name no must most []) kv ∧ wr.frozen? ⟨b + 1 + 1 + 1, 5, none⟩ = false ∧
    wr.ownsRow (b + 4) 57 6 kv n (rows.flatMap fun x => trCells x.1 x.2) ∧ Hid (∀ x ∈ rows, KidsIn f wr S x.2 x.1.kids) ∧
    Hid (∀ g, S g → b + 4 ≤ g ∧ g < wr.heap.size) ∧ Hid (∀ g, kv.ownBlock = some g → ¬ S g) ∧ Hid (∀ g, ar = some ⟨g, 0, none⟩ → S g) ∧ wr.ownsRow (b + 4) 3 1 (.slice ar ks.length capr) ks.length (ints ks) ∧
    Below (b + 3) w1 wr

theorem own_keptB {w w' : World} {B e size n : Nat} {v : Value} {xs : List Value} (h : w.ownsRow B e size v n xs) (hb : ∀ g, v.ownBlock = some g → w'.heap[g]? = w.heap[g]?) : w'.ownsRow B e size v n xs := by
  refine ⟨h.1, ?_⟩
  rcases h.2 with hn | ⟨g, cap, cur, hv, hg, hgg, rest⟩
  · exact .inl hn
  · exact .inr ⟨g, cap, cur, hv, hg, (hb g (by rw [hv]; rfl)).trans hgg, rest⟩

theorem tinv_step {T : List Ty} {f b : Nat} {w1 wr w2 w9 : World} {ks : List Nat} {ar : Option Addr} {capr : Nat} {kind : Int} {name : ByteArray} {no : Int} {must : Bool} {most : Int} {n c : Nat} {kv : Value} {rows : List (Tr × Value)} {S : Nat → Prop} {tc : Tr} {ac : Option Addr} {lc cc g9 cap9 : Nat}
    (hb3 : b + 4 ≤ wr.heap.size)
    (hrows : rows.map Prod.fst = (ks.take n).map (tree T f)) (hrl : rows.length = n) (hNr : NdIn wr (b + 1 + 1 + 1) 0 (.mk kind name no must most []) kv) (hzr : wr.frozen? ⟨b + 1 + 1 + 1, 5, none⟩ = false)
    (hown : wr.ownsRow (b + 4) 57 6 kv n (rows.flatMap fun x => trCells x.1 x.2)) (hkids : ∀ x ∈ rows, KidsIn f wr S x.2 x.1.kids) (hS : ∀ g, S g → b + 4 ≤ g ∧ g < wr.heap.size) (hkS : ∀ g, kv.ownBlock = some g → ¬ S g) (hrS : ∀ g, ar = some ⟨g, 0, none⟩ → S g)
    (hrr : wr.ownsRow (b + 4) 3 1 (.slice ar ks.length capr) ks.length (ints ks)) (hbw : Below (b + 3) w1 wr) (hc : ks[n]? = some c) (htc : tc = tree T f c)
    (hkid : KidsIn f w2 (fun g => wr.drew.heap.size ≤ g ∧ g < w2.heap.size) (.slice ac lc cc) tc.kids) (hb2 : Below wr.drew.heap.size wr.drew w2)
    (hown9 : w9.ownsRow (b + 4) 57 6 (.slice (some ⟨g9, 0, none⟩) (n + 1) cap9) (n + 1) ((rows.flatMap fun x => trCells x.1 x.2) ++ [Value.int .i64 tc.kind, .string tc.name, .int .i64 tc.no, .bool tc.must, .int .i64 tc.most, .slice ac lc cc]))
    (hgrow9 : (w2.alloc (.cells #[.int .i64 tc.kind, .string tc.name, .int .i64 tc.no, .bool tc.must, .int .i64 tc.most, .slice ac lc cc] 57)).grownBy w9 kv.ownBlock) (hat9 : kv.ownBlock = some g9 ∨ g9 = w2.heap.size + 1) :
    TInv T f b w1 ks ar capr kind name no must most (n + 1) (w9.setCell ⟨b + 1 + 1 + 1, 5, none⟩ (.slice (some ⟨g9, 0, none⟩) (n + 1) cap9)) := by
  have hs2 : wr.heap.size ≤ w2.heap.size := hb2.size
  have hs9 : w2.heap.size + 1 ≤ w9.heap.size := by have := hgrow9.size; simpa using this
  have hkl := hown.lt
  have hne9 : some (b + 1 + 1 + 1) ≠ kv.ownBlock := fun e => by have := (hkl _ e.symm).1; omega
  -- a block that was there in w2 and is not the row's own is as it was
  have blk : ∀ g, g < w2.heap.size → some g ≠ kv.ownBlock → g ≠ b + 1 + 1 + 1 → (w9.setCell ⟨b + 1 + 1 + 1, 5, none⟩ (.slice (some ⟨g9, 0, none⟩) (n + 1) cap9)).heap[g]? = w2.heap[g]? := by
    intro g h1 h2 h3
    rw [Below.heap_setCell _ _ _ _ (by simpa using h3), hgrow9.block g (by simp; omega) h2, Below.heap_alloc _ _ _ h1]
  have blkr : ∀ g, g < wr.heap.size → w2.heap[g]? = wr.heap[g]? := fun g hg => hb2.block g hg
  have hcell : ∀ j, j ≠ 5 → (w9.setCell ⟨b + 1 + 1 + 1, 5, none⟩ (.slice (some ⟨g9, 0, none⟩) (n + 1) cap9)).cell? ⟨b + 1 + 1 + 1, j, none⟩ = wr.cell? ⟨b + 1 + 1 + 1, j, none⟩ := by
    intro j hj
    rw [World.cell?_setCell_other _ _ _ _ (fun e => hj (congrArg Addr.off e).symm)]
    rw [World.cell?_of_block (w := (w2.alloc (.cells #[.int .i64 tc.kind, .string tc.name, .int .i64 tc.no, .bool tc.must, .int .i64 tc.most, .slice ac lc cc] 57))) (hgrow9.block _ (by simp; omega) hne9)]
    rw [World.cell?_of_block (w := w2) (Below.heap_alloc _ _ _ (by show b + 1 + 1 + 1 < _; omega)), World.cell?_of_block (w := wr) (blkr _ (by show b + 1 + 1 + 1 < _; omega))]
  refine ⟨.slice (some ⟨g9, 0, none⟩) (n + 1) cap9, rows ++ [(tc, .slice ac lc cc)], fun g => S g ∨ (wr.heap.size ≤ g ∧ g < w2.heap.size), ?_, by simp [hrl], ?_, ?_, ?_, ?_, ?_, ?_, fun g hg => .inl (hrS g hg), ?_, ?_⟩
  · show _ = _
    rw [List.map_append, hrows, List.take_add_one, hc, List.map_append]
    simp [htc]
  · obtain ⟨n0, n1, n2, n3, n4, n5⟩ := hNr
    refine ⟨(hcell 0 (by omega)).trans n0, (hcell 1 (by omega)).trans n1, (hcell 2 (by omega)).trans n2, (hcell 3 (by omega)).trans n3, (hcell 4 (by omega)).trans n4, ?_⟩
    have h5 : w9.cell? ⟨b + 1 + 1 + 1, 5, none⟩ = some kv := by
      rw [World.cell?_of_block (w := (w2.alloc (.cells #[.int .i64 tc.kind, .string tc.name, .int .i64 tc.no, .bool tc.must, .int .i64 tc.most, .slice ac lc cc] 57))) (hgrow9.block _ (by simp; omega) hne9)]
      rw [World.cell?_of_block (w := w2) (Below.heap_alloc _ _ _ (by show b + 1 + 1 + 1 < _; omega)), World.cell?_of_block (w := wr) (blkr _ (by show b + 1 + 1 + 1 < _; omega))]
      exact n5
    exact World.cell?_setCell_same _ _ _ h5
  · rw [World.frozen?_setCell]
    rw [World.frozen?_of_block (w := (w2.alloc (.cells #[.int .i64 tc.kind, .string tc.name, .int .i64 tc.no, .bool tc.must, .int .i64 tc.most, .slice ac lc cc] 57))) (hgrow9.block _ (by simp; omega) hne9)]
    rw [World.frozen?_of_block (w := w2) (Below.heap_alloc _ _ _ (by show b + 1 + 1 + 1 < _; omega)), World.frozen?_of_block (w := wr) (blkr _ (by show b + 1 + 1 + 1 < _; omega))]
    exact hzr
  · have := ownsRow_setCell_below hown9 (a := ⟨b + 1 + 1 + 1, 5, none⟩) (by show b + 1 + 1 + 1 < b + 4; omega) (.slice (some ⟨g9, 0, none⟩) (n + 1) cap9)
    rw [List.flatMap_append]
    simpa [trCells] using this
  · intro x hx
    rcases List.mem_append.1 hx with hx | hx
    · refine (hkids x hx).kept (fun g hg => ?_) (fun g hg => .inl hg)
      have h1 := hS g hg
      rw [blk g (by omega) (fun e => hkS g e.symm hg) (by omega), blkr g h1.2]
    · simp at hx
      subst hx
      refine hkid.kept (fun g hg => ?_) (fun g hg => .inr hg)
      refine blk g hg.2 (fun e => ?_) ?_
      · have h1 := (hkl g e.symm).2
        have h2 : wr.heap.size ≤ g := hg.1
        omega
      · have h2 : wr.heap.size ≤ g := hg.1
        omega
  · intro g hg
    have hsz : (w9.setCell ⟨b + 1 + 1 + 1, 5, none⟩ (.slice (some ⟨g9, 0, none⟩) (n + 1) cap9)).heap.size = w9.heap.size := by simp
    rw [hsz]
    rcases hg with hg | hg
    · have := hS g hg; omega
    · omega
  · intro g hg
    simp [Value.ownBlock] at hg
    subst hg
    rintro (h | h)
    · rcases hat9 with h9 | h9
      · exact hkS _ h9 h
      · have := hS _ h; omega
    · rcases hat9 with h9 | h9
      · have := (hkl _ h9).2; omega
      · omega
  · refine own_keptB hrr (fun g hg => ?_)
    have hgS : S g := by
      refine hrS g ?_
      rcases hrr.2 with ⟨h, _⟩ | ⟨g', cap', cur, h, _⟩
      · rw [h] at hg; simp [Value.ownBlock] at hg
      · simp only [Value.slice.injEq] at h
        rw [h.1] at hg ⊢
        simp [Value.ownBlock] at hg
        rw [hg]
    have h1 := hS g hgS
    rw [blk g (by omega) (fun e => hkS g e.symm hgS) (by omega), blkr g h1.2]
  · refine ((hbw.drew.trans (hb2.mono (by show b + 3 ≤ wr.heap.size; omega))).alloc (by omega) _).grown hgrow9 (by simp; omega) (fun k hk => by have := (hkl k hk).1; omega) |>.setCell (by show b + 3 ≤ b + 1 + 1 + 1; omega) _

theorem flat6 {α : Type} (F : α → List Value) (hF : ∀ x, (F x).length = 6) (l : List α) (i j : Nat) (x : α) (h : l[i]? = some x) (hj : j < 6) : (l.flatMap F)[i * 6 + j]? = (F x)[j]? := by
  induction l generalizing i with
  | nil => simp at h
  | cons a l ih =>
    rw [List.flatMap_cons]
    have ha := hF a
    cases i with
    | zero =>
      simp at h; subst h
      rw [Nat.zero_mul, Nat.zero_add, List.getElem?_append_left (by omega)]
    | succ i =>
      simp at h
      rw [List.getElem?_append_right (by omega), ← ih i h]
      congr 1
      omega

theorem kids_of_rows {f : Nat} {w : World} {B n : Nat} {kv : Value} {rows : List (Tr × Value)} {S S' : Nat → Prop} (hown : w.ownsRow B 57 6 kv n (rows.flatMap fun x => trCells x.1 x.2)) (hrl : rows.length = n)
    (hk : ∀ x ∈ rows, KidsIn f w S x.2 x.1.kids) (hS : ∀ g, S g → S' g) (hkS : ∀ g, kv.ownBlock = some g → S' g) : KidsIn (f + 1) w S' kv (rows.map Prod.fst) := by
  have h0 := hown
  have hlen : (rows.map Prod.fst).length = n := by simp [hrl]
  rcases hown.2 with ⟨rfl, hn0⟩ | ⟨g, cap, cur, rfl, hB, hb, hnc, hcm, _⟩
  · refine ⟨none, 0, by rw [hlen, hn0], by omega, by unfold maxLen; omega, fun i t hi => ?_⟩
    have : i < (rows.map Prod.fst).length := (List.getElem?_eq_some_iff.1 hi).1
    omega
  · refine ⟨some ⟨g, 0, none⟩, cap, by rw [hlen], by omega, hcm, fun i t hi => ?_⟩
    have hil : i < (rows.map Prod.fst).length := (List.getElem?_eq_some_iff.1 hi).1
    rw [List.getElem?_map, Option.map_eq_some_iff] at hi
    obtain ⟨x, hx, rfl⟩ := hi
    refine ⟨g, 0, x.2, rfl, hkS g rfl, ?_, (hk x (List.mem_of_getElem? hx)).kept (fun _ _ => rfl) hS⟩
    have c : ∀ j, j < 6 → w.cell? ⟨g, 0 + i * 6 + j, none⟩ = (trCells x.1 x.2)[j]? := fun j hj => by
      rw [Nat.zero_add, h0.cellAt (i * 6 + j) (by omega)]
      exact flat6 _ (fun _ => rfl) rows i j x hx hj
    exact ⟨c 0 (by omega), c 1 (by omega), c 2 (by omega), c 3 (by omega), c 4 (by omega), c 5 (by omega)⟩

theorem results_cell1 {fn : Func} {p : Tmp} {ty : TypeId} (h : fn.results = #[.cell p ty]) (tmps : Array Value) (P : Program) (w : World) :
    (results fn tmps).run P w = ((asAddr (tmps.getD p undef)).run P w).andThen fun a w₁ => (loadVar ty a).run P w₁ := by
  simp only [results, h]
  simp [Sem.run_bind, Result.andThen]

end Go.Proofs.Ytjaklpibjijkkaa
