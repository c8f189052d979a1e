/- The model's tree of a value. -/
import Derived.Test.YtpajdmhakdbkjaaNdT
import Derived.Test.YtpajdmhakdbkjaaGd
namespace Go.Proofs.Ytpajdmhakdbkjaa
open Go.RowKit Plain Sch

def vVal (t : Tr) (c : Value) : Value := .agg #[.int .i64 t.most, .string t.name, .int .i64 t.no, .bool t.must, c]

/-- what holds when n parts have been put to a node's own -/
def VTInv (T : List Ty) (f : Nat) (b : Nat) (w1 : World) (ks : List Nat) (ar : Option Addr) (capr : Nat) (kind : Int) (name : ByteArray) (no : Int) (must : Bool) (most : Int) (n : Nat) (wr : World) : Prop :=
  ∃ (kv : Value) (rows : List (Tr × Value)) (S : Nat → Prop), Hid (rows.map Prod.fst = (ks.take n).map (tree T f)) ∧ rows.length = n ∧
    VdIn wr (b + 1 + 1 + 1) 0 (.mk kind name no must most []) kv ∧ wr.frozen? ⟨b + 1 + 1 + 1, 4, none⟩ = false ∧
    wr.ownsRow (b + 4) 78 5 kv n (rows.flatMap fun x => vCells x.1 x.2) ∧ Hid (∀ x ∈ rows, VKids f wr S x.2 x.1.kids) ∧
    Hid (∀ g, S g → b + 4 ≤ g ∧ g < wr.heap.size) ∧ Hid (∀ g, kv.ownBlock = some g → ¬ S g) ∧ Hid (∀ g, ar = some ⟨g, 0, none⟩ → S g) ∧ wr.ownsRow (b + 4) 3 1 (.slice ar ks.length capr) ks.length (ints ks) ∧
    Below (b + 3) w1 wr

theorem vtinv_step {T : List Ty} {f b : Nat} {w1 wr w2 w9 : World} {ks : List Nat} {ar : Option Addr} {capr : Nat} {kind : Int} {name : ByteArray} {no : Int} {must : Bool} {most : Int} {n c : Nat} {kv : Value} {rows : List (Tr × Value)} {S : Nat → Prop} {tc : Tr} {ac : Option Addr} {lc cc g9 cap9 : Nat}
    (hb3 : b + 4 ≤ wr.heap.size)
    (hrows : rows.map Prod.fst = (ks.take n).map (tree T f)) (hrl : rows.length = n) (hNr : VdIn wr (b + 1 + 1 + 1) 0 (.mk kind name no must most []) kv) (hzr : wr.frozen? ⟨b + 1 + 1 + 1, 4, none⟩ = false)
    (hown : wr.ownsRow (b + 4) 78 5 kv n (rows.flatMap fun x => vCells x.1 x.2)) (hkids : ∀ x ∈ rows, VKids f wr S x.2 x.1.kids) (hS : ∀ g, S g → b + 4 ≤ g ∧ g < wr.heap.size) (hkS : ∀ g, kv.ownBlock = some g → ¬ S g) (hrS : ∀ g, ar = some ⟨g, 0, none⟩ → S g)
    (hrr : wr.ownsRow (b + 4) 3 1 (.slice ar ks.length capr) ks.length (ints ks)) (hbw : Below (b + 3) w1 wr) (hc : ks[n]? = some c) (htc : tc = tree T f c)
    (hkid : VKids f w2 (fun g => wr.drew.heap.size ≤ g ∧ g < w2.heap.size) (.slice ac lc cc) tc.kids) (hb2 : Below wr.drew.heap.size wr.drew w2)
    (hown9 : w9.ownsRow (b + 4) 78 5 (.slice (some ⟨g9, 0, none⟩) (n + 1) cap9) (n + 1) ((rows.flatMap fun x => vCells x.1 x.2) ++ [Value.int .i64 tc.most, .string tc.name, .int .i64 tc.no, .bool tc.must, .slice ac lc cc]))
    (hgrow9 : (w2.alloc (.cells #[.int .i64 tc.most, .string tc.name, .int .i64 tc.no, .bool tc.must, .slice ac lc cc] 78)).grownBy w9 kv.ownBlock) (hat9 : kv.ownBlock = some g9 ∨ g9 = w2.heap.size + 1) :
    VTInv T f b w1 ks ar capr kind name no must most (n + 1) (w9.setCell ⟨b + 1 + 1 + 1, 4, none⟩ (.slice (some ⟨g9, 0, none⟩) (n + 1) cap9)) := by
  have hs2 : wr.heap.size ≤ w2.heap.size := hb2.size
  have hs9 : w2.heap.size + 1 ≤ w9.heap.size := by have := hgrow9.size; simpa using this
  have hkl := hown.lt
  have hne9 : some (b + 1 + 1 + 1) ≠ kv.ownBlock := fun e => by have := (hkl _ e.symm).1; omega
  -- a block that was there in w2 and is not the row's own is as it was
  have blk : ∀ g, g < w2.heap.size → some g ≠ kv.ownBlock → g ≠ b + 1 + 1 + 1 → (w9.setCell ⟨b + 1 + 1 + 1, 4, none⟩ (.slice (some ⟨g9, 0, none⟩) (n + 1) cap9)).heap[g]? = w2.heap[g]? := by
    intro g h1 h2 h3
    rw [Below.heap_setCell _ _ _ _ (by simpa using h3), hgrow9.block g (by simp; omega) h2, Below.heap_alloc _ _ _ h1]
  have blkr : ∀ g, g < wr.heap.size → w2.heap[g]? = wr.heap[g]? := fun g hg => hb2.block g hg
  have hcell : ∀ j, j ≠ 4 → (w9.setCell ⟨b + 1 + 1 + 1, 4, none⟩ (.slice (some ⟨g9, 0, none⟩) (n + 1) cap9)).cell? ⟨b + 1 + 1 + 1, j, none⟩ = wr.cell? ⟨b + 1 + 1 + 1, j, none⟩ := by
    intro j hj
    rw [World.cell?_setCell_other _ _ _ _ (fun e => hj (congrArg Addr.off e).symm)]
    rw [World.cell?_of_block (w := (w2.alloc (.cells #[.int .i64 tc.most, .string tc.name, .int .i64 tc.no, .bool tc.must, .slice ac lc cc] 78))) (hgrow9.block _ (by simp; omega) hne9)]
    rw [World.cell?_of_block (w := w2) (Below.heap_alloc _ _ _ (by show b + 1 + 1 + 1 < _; omega)), World.cell?_of_block (w := wr) (blkr _ (by show b + 1 + 1 + 1 < _; omega))]
  refine ⟨.slice (some ⟨g9, 0, none⟩) (n + 1) cap9, rows ++ [(tc, .slice ac lc cc)], fun g => S g ∨ (wr.heap.size ≤ g ∧ g < w2.heap.size), ?_, by simp [hrl], ?_, ?_, ?_, ?_, ?_, ?_, fun g hg => .inl (hrS g hg), ?_, ?_⟩
  · show _ = _
    rw [List.map_append, hrows, List.take_add_one, hc, List.map_append]
    simp [htc]
  · obtain ⟨n0, n1, n2, n3, n5⟩ := hNr
    refine ⟨(hcell 0 (by omega)).trans n0, (hcell 1 (by omega)).trans n1, (hcell 2 (by omega)).trans n2, (hcell 3 (by omega)).trans n3, ?_⟩
    have h5 : w9.cell? ⟨b + 1 + 1 + 1, 4, none⟩ = some kv := by
      rw [World.cell?_of_block (w := (w2.alloc (.cells #[.int .i64 tc.most, .string tc.name, .int .i64 tc.no, .bool tc.must, .slice ac lc cc] 78))) (hgrow9.block _ (by simp; omega) hne9)]
      rw [World.cell?_of_block (w := w2) (Below.heap_alloc _ _ _ (by show b + 1 + 1 + 1 < _; omega)), World.cell?_of_block (w := wr) (blkr _ (by show b + 1 + 1 + 1 < _; omega))]
      exact n5
    exact World.cell?_setCell_same _ _ _ h5
  · rw [World.frozen?_setCell]
    rw [World.frozen?_of_block (w := (w2.alloc (.cells #[.int .i64 tc.most, .string tc.name, .int .i64 tc.no, .bool tc.must, .slice ac lc cc] 78))) (hgrow9.block _ (by simp; omega) hne9)]
    rw [World.frozen?_of_block (w := w2) (Below.heap_alloc _ _ _ (by show b + 1 + 1 + 1 < _; omega)), World.frozen?_of_block (w := wr) (blkr _ (by show b + 1 + 1 + 1 < _; omega))]
    exact hzr
  · have := ownsRow_setCell_below hown9 (a := ⟨b + 1 + 1 + 1, 4, none⟩) (by show b + 1 + 1 + 1 < b + 4; omega) (.slice (some ⟨g9, 0, none⟩) (n + 1) cap9)
    rw [List.flatMap_append]
    simpa [vCells] using this
  · intro x hx
    rcases List.mem_append.1 hx with hx | hx
    · refine (hkids x hx).kept (fun g hg => ?_) (fun g hg => .inl hg)
      have h1 := hS g hg
      rw [blk g (by omega) (fun e => hkS g e.symm hg) (by omega), blkr g h1.2]
    · simp at hx
      subst hx
      refine hkid.kept (fun g hg => ?_) (fun g hg => .inr hg)
      refine blk g hg.2 (fun e => ?_) ?_
      · have h1 := (hkl g e.symm).2
        have h2 : wr.heap.size ≤ g := hg.1
        omega
      · have h2 : wr.heap.size ≤ g := hg.1
        omega
  · intro g hg
    have hsz : (w9.setCell ⟨b + 1 + 1 + 1, 4, none⟩ (.slice (some ⟨g9, 0, none⟩) (n + 1) cap9)).heap.size = w9.heap.size := by simp
    rw [hsz]
    rcases hg with hg | hg
    · have := hS g hg; omega
    · omega
  · intro g hg
    simp [Value.ownBlock] at hg
    subst hg
    rintro (h | h)
    · rcases hat9 with h9 | h9
      · exact hkS _ h9 h
      · have := hS _ h; omega
    · rcases hat9 with h9 | h9
      · have := (hkl _ h9).2; omega
      · omega
  · refine own_keptB hrr (fun g hg => ?_)
    have hgS : S g := by
      refine hrS g ?_
      rcases hrr.2 with ⟨h, _⟩ | ⟨g', cap', cur, h, _⟩
      · rw [h] at hg; simp [Value.ownBlock] at hg
      · simp only [Value.slice.injEq] at h
        rw [h.1] at hg ⊢
        simp [Value.ownBlock] at hg
        rw [hg]
    have h1 := hS g hgS
    rw [blk g (by omega) (fun e => hkS g e.symm hgS) (by omega), blkr g h1.2]
  · refine ((hbw.drew.trans (hb2.mono (by show b + 3 ≤ wr.heap.size; omega))).alloc (by omega) _).grown hgrow9 (by simp; omega) (fun k hk => by have := (hkl k hk).1; omega) |>.setCell (by show b + 3 ≤ b + 1 + 1 + 1; omega) _

set_option maxRecDepth 100000 in
set_option maxHeartbeats 4000000 in
theorem l4Tree_any (T : List Ty) (v : Value) (hl : T.length ≤ 2097152) : ∀ (f k : Nat) (w : World), NdsAt w w.heap.size v T → k < T.length → T.length ≤ f + k →
    Calls Try.prog 55 #[.agg #[v], .int .i64 k] w fun e w' => ∃ c, e = .returned (vVal (tree T f k) c) ∧ VKids f w' (fun g => w.heap.size ≤ g ∧ g < w'.heap.size) c (tree T f k).kids ∧ Below w.heap.size w w' := by
  intro f
  induction f with
  | zero => intro k w hT hk hf; omega
  | succ f ih0 =>
    intro k w hT hk hf
    have ih : Hid (∀ (k : Nat) (w : World), NdsAt w w.heap.size v T → k < T.length → T.length ≤ f + k →
      Calls Try.prog 55 #[.agg #[v], .int .i64 k] w fun e w' => ∃ c, e = .returned (vVal (tree T f k) c) ∧ VKids f w' (fun g => w.heap.size ≤ g ∧ g < w'.heap.size) c (tree T f k).kids ∧ Below w.heap.size w w') := ih0
    clear ih0
    obtain ⟨i0, hi, hz0, hz1, hz2⟩ := info_parts Try.infoV
    have HT : Hid (NdsAt w w.heap.size v T) := hT
    obtain ⟨g, o, cap, rfl, hlc, hcm, hg, hrow, hnm⟩ := hT.open (by omega)
    clear hT
    have hci := hrow k hk
    have HT1 : Hid (tree T (f + 1) k = .mk (ty T k).kind (ty T k).name (ty T k).no (ty T k).must (ty T k).most ((kids T k).map (tree T f))) := rfl
    obtain ⟨TT, hTT⟩ : ∃ t, t = tree T (f + 1) k := ⟨_, rfl⟩
    rw [← hTT]
    rw [← hTT] at HT1
    clear hTT
    obtain ⟨ti, hti⟩ : ∃ t, ty T k = t := ⟨_, rfl⟩
    rw [hti] at hci HT1
    clear hti hrow hnm
    obtain ⟨kind, name, no, must, up, most⟩ := ti
    obtain ⟨c0, c1, c2, c3, c4⟩ := hci
    dsimp only at c0 c1 c2 c3 c4 HT1
    have hk' : (k : Int) < (T.length : Int) := by omega
    have hk0' : (0 : Int) ≤ (k : Int) := by omega
    have hcm' : cap ≤ 9223372036854775807 := by unfold maxLen at hcm; omega
    have hkn : ∀ c ∈ kids T k, k < c ∧ c < T.length := fun c hc => by have := (mem_kids T k c).1 hc; omega
    have HKN : Hid (∀ c ∈ kids T k, k < c ∧ c < T.length) := hkn
    clear hkn
    obtain ⟨W4, hW4⟩ : ∃ W, W = ((((w.alloc (.cells #[.slice (some ⟨g, o, none⟩) T.length cap] 29)).alloc (.cells #[.int .i64 0, .string ⟨#[]⟩, .int .i64 0, .bool false, .slice none 0 0] 78)).alloc (.cells #[.int .i64 most, .string name, .int .i64 no, .int .i64 up, .bool must] 85)).alloc (.cells #[.int .i64 most, .string name, .int .i64 no, .bool must, .slice none 0 0] 78)) := ⟨_, rfl⟩
    have hB4 : Below w.heap.size w W4 := by rw [hW4]; exact ((((Below.refl _ w).alloc (Nat.le_refl _) _).alloc (by simp) _).alloc (by simp; omega) _).alloc (by simp; omega) _
    have hs4 : W4.heap.size = w.heap.size + 4 := by rw [hW4]; simp
    have x0 : W4.cell? ⟨w.heap.size, 0, none⟩ = some (.slice (some ⟨g, o, none⟩) T.length cap) := by rw [hW4]; go_simp
    have y0 : W4.cell? ⟨w.heap.size + 1, 0, none⟩ = some (.int .i64 0) := by rw [hW4]; go_simp
    have y1 : W4.cell? ⟨w.heap.size + 1, 1, none⟩ = some (.string ⟨#[]⟩) := by rw [hW4]; go_simp
    have y2 : W4.cell? ⟨w.heap.size + 1, 2, none⟩ = some (.int .i64 0) := by rw [hW4]; go_simp
    have y3 : W4.cell? ⟨w.heap.size + 1, 3, none⟩ = some (.bool false) := by rw [hW4]; go_simp
    have y5 : W4.cell? ⟨w.heap.size + 1, 4, none⟩ = some (.slice none 0 0) := by rw [hW4]; go_simp
    have yz : ∀ j, W4.frozen? ⟨w.heap.size + 1, j, none⟩ = false := by intro j; rw [hW4]; go_simp
    have hN : VdIn W4 (w.heap.size + 1 + 1 + 1) 0 (.mk kind name no must most []) (.slice none 0 0) := by rw [hW4]; exact ⟨by go_simp; rfl, by go_simp; rfl, by go_simp; rfl, by go_simp; rfl, by go_simp⟩
    have hz5 : W4.frozen? ⟨w.heap.size + 1 + 1 + 1, 4, none⟩ = false := by rw [hW4]; go_simp
    go_enter Try.func55, Try.ntmps55
    go_wp2_with fail
    rw [← hW4]
    clear hW4 c0 c1 c2 c3 c4
    refine (l4Kids_any T _ k W4 (HT.out.below hB4) hk hl).mono ?_
    rintro e w1 ⟨r, rfl, hr, hb1⟩
    have hB1 : Below w.heap.size w w1 := hB4.trans (hb1.mono hB4.size)
    have hs1 := hb1.size
    have x0 := (hb1.cell (p := ⟨w.heap.size, 0, none⟩) (by show w.heap.size < _; omega)).trans x0
    have y0 := (hb1.cell (p := ⟨w.heap.size + 1, 0, none⟩) (by show w.heap.size + 1 < _; omega)).trans y0
    have y1 := (hb1.cell (p := ⟨w.heap.size + 1, 1, none⟩) (by show w.heap.size + 1 < _; omega)).trans y1
    have y2 := (hb1.cell (p := ⟨w.heap.size + 1, 2, none⟩) (by show w.heap.size + 1 < _; omega)).trans y2
    have y3 := (hb1.cell (p := ⟨w.heap.size + 1, 3, none⟩) (by show w.heap.size + 1 < _; omega)).trans y3
    have y5 := (hb1.cell (p := ⟨w.heap.size + 1, 4, none⟩) (by show w.heap.size + 1 < _; omega)).trans y5
    have yz : ∀ j, w1.frozen? ⟨w.heap.size + 1, j, none⟩ = false := fun j => (hb1.frozen (p := ⟨w.heap.size + 1, j, none⟩) (by show w.heap.size + 1 < _; omega)).trans (yz j)
    have hN := hN.kept (hb1.block _ (by omega))
    have hz5 := (hb1.frozen (p := ⟨w.heap.size + 1 + 1 + 1, 4, none⟩) (by show w.heap.size + 1 + 1 + 1 < _; omega)).trans hz5
    clear hb1
    rw [hs4] at hr hs1
    have hkl : (kids T k).length ≤ T.length := kidsTo_len T k T.length
    generalize kids T k = ks at hr hkl HKN HT1
    obtain ⟨ar, capr, hrv⟩ : ∃ ao cap, r = Value.slice ao ks.length cap := by
      rcases hr.2 with ⟨rfl, h0⟩ | ⟨g, cap, _, rfl, _⟩
      · exact ⟨none, 0, by rw [h0]⟩
      · exact ⟨_, _, rfl⟩
    subst hrv
    go_wp2
    go_loopw [27] (fun vi wr => ∃ (n : Nat), n ≤ ks.length ∧ vi = .int .i64 (n : Int) ∧ VTInv T f w.heap.size w1 ks ar capr kind name no must most n wr)
      (fun vi _ => ks.length - (intOf vi).toNat)
    case atStart =>
      refine ⟨0, by omega, rfl, .slice none 0 0, [], fun g => w.heap.size + 4 ≤ g ∧ g < w1.heap.size, rfl, rfl, hN, hz5, World.ownsRow_nil _ _ _ _, fun x hx => by simp at hx, fun g hg => hg, fun g hg => by simp [Value.ownBlock] at hg, fun g hg => ?_, hr, Below.refl _ _⟩
      subst hg
      exact hr.lt g rfl
    case round =>
      obtain ⟨n, hn, rfl, kv, rows, S, hrows, hrl, hNr, hzr, hown, hkids, hS, hkS, hrS, hrr, hbw⟩ := hrel
      have HNR : Hid (VdIn wr (w.heap.size + 1 + 1 + 1) 0 (.mk kind name no must most []) kv) := hNr
      have hBr : Below w.heap.size w wr := hB1.trans (hbw.mono (by omega))
      have hsr : w.heap.size + 4 ≤ wr.heap.size := by have := hbw.size; omega
      have x0 := (hbw.cell (p := ⟨w.heap.size, 0, none⟩) (by show w.heap.size < _; omega)).trans x0
      obtain ⟨n0, n1, n2, n3, n5⟩ := hNr
      simp only [Nat.zero_add, Tr.name, Tr.no, Tr.must, Tr.most] at n0 n1 n2 n3 n5
      by_cases hlt : n < ks.length
      · have hlt' : (n : Int) < (ks.length : Int) := by omega
        obtain ⟨c, hc⟩ : ∃ c, ks[n]? = some c := ⟨_, List.getElem?_eq_getElem hlt⟩
        obtain ⟨gr, capr', hra⟩ := Joins.ownsRow_form hrr (by omega)
        simp only [Value.slice.injEq, true_and] at hra
        obtain ⟨rfl, rfl⟩ := hra
        have hcell := ints_at hrr n c hc hlt
        have hcb := HKN.out c (List.mem_of_getElem? hc)
        have hTr : Hid (NdsAt wr wr.heap.size (.slice (some ⟨g, o, none⟩) T.length cap) T) := HT.out.below hBr
        obtain ⟨tc, htc⟩ : ∃ tc, tc = tree T f c := ⟨_, rfl⟩
        have IC : Hid (∀ w : World, NdsAt w w.heap.size (.slice (some ⟨g, o, none⟩) T.length cap) T → Calls Try.prog 55 #[.agg #[.slice (some ⟨g, o, none⟩) T.length cap], .int .i64 c] w fun e w' => ∃ ac lc cc, e = .returned (.agg #[.int .i64 tc.most, .string tc.name, .int .i64 tc.no, .bool tc.must, .slice ac lc cc]) ∧ VKids f w' (fun g => w.heap.size ≤ g ∧ g < w'.heap.size) (.slice ac lc cc) tc.kids ∧ Below w.heap.size w w') := fun w hT => by
          refine (ih.out c w hT hcb.2 (by omega)).mono ?_
          rintro e w' ⟨cc, rfl, hk, hb⟩
          obtain ⟨ac, cp, rfl, _⟩ := hk.form
          rw [htc]
          exact ⟨ac, _, cp, rfl, hk, hb⟩
        have HTC : Hid (tc = tree T f c) := htc
        clear htc
        have hTd : Hid (NdsAt wr.drew wr.drew.heap.size (.slice (some ⟨g, o, none⟩) T.length cap) T) := HT.out.below hBr.drew
        go_wp2_with fail
        go_region_law
          (first
            | (go_simp; go_at_call 55; refine (IC.out _ hTd.out).mono ?_; rintro e w2 ⟨ac, lc, cc, rfl, hkid, hb2⟩; have hown2 := own_below (w := wr.drew) hown hb2; have m5 := (hb2.cell (p := ⟨w.heap.size + 1 + 1 + 1, 4, none⟩) (by show w.heap.size + 1 + 1 + 1 < wr.heap.size; omega)).trans n5; have mz := (hb2.frozen (p := ⟨w.heap.size + 1 + 1 + 1, 4, none⟩) (by show w.heap.size + 1 + 1 + 1 < wr.heap.size; omega)).trans hzr; have hs2 : w.heap.size + 1 + 1 + 1 < w2.heap.size := (by have := hb2.size; simp at this; omega))
            | (refine step_append_lies _ rfl _ _ _ rfl (w.heap.size + 4) 78 i0 (.agg #[.int .i64 0, .string ⟨#[]⟩, .int .i64 0, .bool false, .slice none 0 0]) 5 64 Try.underlying76 hi hz0 hz1 hz2 rfl (by decide) kv n _ rfl (hown2.alloc _) ⟨w2.heap.size, 0, none⟩ 1 1 [Value.int .i64 tc.most, .string tc.name, .int .i64 tc.no, .bool tc.must, .slice ac lc cc] rfl rfl (World.news_of_block (heap_alloc_new w2 _)) one5V (by omega) (by unfold maxLen; omega) (by omega) (by have := hb2.size; simp at this ⊢; omega) (w2.heap.size + 1) (by simp) ?_; intro g9 cap9 w9 hown9 hgrow9 hat9 hlt9; have hne9 : some (w.heap.size + 1 + 1 + 1) ≠ kv.ownBlock := (fun e => by have := (hown.lt _ e.symm).1; omega); have m9 := (hgrow9.cell_far ⟨w.heap.size + 1 + 1 + 1, 4, none⟩ (by simp; omega) hne9).trans ((Below.cell ((Below.refl _ w2).alloc (Nat.le_refl _) _) (p := ⟨w.heap.size + 1 + 1 + 1, 4, none⟩) hs2).trans m5); have mz9 := (hgrow9.frozen_far ⟨w.heap.size + 1 + 1 + 1, 4, none⟩ (by simp; omega) hne9).trans ((Below.frozen ((Below.refl _ w2).alloc (Nat.le_refl _) _) (p := ⟨w.heap.size + 1 + 1 + 1, 4, none⟩) hs2).trans mz)))
        all_goals
          have hstep := vtinv_step hsr hrows.out hrl HNR.out hzr hown hkids.out hS.out hkS.out hrS.out hrr hbw hc HTC.out hkid hb2 hown9 hgrow9 hat9
          clear hown hown2 hkid hb2 hgrow9 hat9 hown9 HNR hkids hS hkS hrr hcell n0 n1 n2 n3 n5 m5 m9 mz mz9
          go_wp2
          go_roundw
          case rel => exact ⟨n + 1, by omega, by go_num, hstep⟩
          case measure => simp [intOf]; omega
      · have hke : n = ks.length := by omega
        subst hke
        have hge : ¬ ((ks.length : Int) < (ks.length : Int)) := by omega
        have hb1 : w.heap.size + 1 < w.heap.size + 3 := by omega
        have y0 := (hbw.cell (p := ⟨w.heap.size + 1, 0, none⟩) hb1).trans y0
        have y1 := (hbw.cell (p := ⟨w.heap.size + 1, 1, none⟩) hb1).trans y1
        have y2 := (hbw.cell (p := ⟨w.heap.size + 1, 2, none⟩) hb1).trans y2
        have y3 := (hbw.cell (p := ⟨w.heap.size + 1, 3, none⟩) hb1).trans y3
        have y5 := (hbw.cell (p := ⟨w.heap.size + 1, 4, none⟩) hb1).trans y5
        have z0 := (hbw.frozen (p := ⟨w.heap.size + 1, 0, none⟩) hb1).trans (yz 0)
        have z1 := (hbw.frozen (p := ⟨w.heap.size + 1, 1, none⟩) hb1).trans (yz 1)
        have z2 := (hbw.frozen (p := ⟨w.heap.size + 1, 2, none⟩) hb1).trans (yz 2)
        have z3 := (hbw.frozen (p := ⟨w.heap.size + 1, 3, none⟩) hb1).trans (yz 3)
        have z5 := (hbw.frozen (p := ⟨w.heap.size + 1, 4, none⟩) hb1).trans (yz 4)
        have HK : Hid (∀ w' : World, (∀ g, w.heap.size + 4 ≤ g → w'.heap[g]? = wr.heap[g]?) → w'.heap.size = wr.heap.size → VKids (f + 1) w' (fun g => w.heap.size ≤ g ∧ g < w'.heap.size) kv (ks.map (tree T f))) := by
          intro w' hw' hsz'
          have h1 := vkids_of_rows (S' := fun g => w.heap.size + 4 ≤ g ∧ g < wr.heap.size) hown hrl hkids.out hS.out (fun g hg => hown.lt g hg)
          rw [hrows.out, List.take_length] at h1
          refine h1.kept (fun g hg => hw' g hg.1) (fun g hg => ?_)
          rw [hsz']
          omega
        obtain ⟨ak, capk, hkv⟩ : ∃ ao cap, kv = Value.slice ao ks.length cap := by
          rcases hown.2 with ⟨rfl, h0⟩ | ⟨g, cap, _, rfl, _⟩
          · exact ⟨none, 0, by rw [h0]⟩
          · exact ⟨_, _, rfl⟩
        subst hkv
        clear hown hkids hS hkS hrS hrr hrows yz HNR
        go_wp2
        (try simp only [Exit.inBlock, Exit.then])
        refine bodyPost_ret (v := .agg #[.int .i64 most, .string name, .int .i64 no, .bool must, .slice ak ks.length capk]) ?_ rfl ⟨.slice ak ks.length capk, ?_, ?_, ?_⟩
        · rw [results_cell1 rfl]
          go_simp
        · rw [HT1.out]; rfl
        · rw [HT1.out]
          refine HK.out _ (fun g hg => ?_) (by simp)
          repeat rw [Below.heap_setCell _ _ _ _ (by show g ≠ w.heap.size + 1; omega)]
        · repeat' (first | exact hBr | refine Below.setCell ?_ (by simp) _)

end Go.Proofs.Ytpajdmhakdbkjaa
