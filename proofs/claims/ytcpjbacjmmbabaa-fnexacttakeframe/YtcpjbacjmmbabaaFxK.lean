/- Rows of bytes of the call's own, also such as a conversion of a text makes (a mark behind the last cell): read, kept, one byte put behind. -/
import Derived.Test.YtcpjbacjmmbabaaFxD
import Derived.Lib.FrozenHead2
import Derived.Lib.ConvBytes
namespace Go.Proofs.Ytcpjbacjmmbabaa
open Go.RowKit Plain Tpc Frm

/-- a row of bytes; what is frozen lies behind its last cell -/
def GRow (w : World) (B : Nat) (v : Value) (l : List UInt8) : Prop :=
  (v = .slice none 0 0 ∧ l = []) ∨
  ∃ g cap cur fz, v = .slice (some ⟨g, 0, none⟩) l.length cap ∧ B ≤ g ∧ w.heap[g]? = some (.cells cur 5 fz) ∧ (fz = ((0 : Nat), (0 : Nat)) ∨ cap ≤ fz.1) ∧ l.length ≤ cap ∧ cap ≤ maxLen ∧ cur.size = cap ∧ cur.toList.take l.length = Lib.byteCells l

theorem GRow.of {w : World} {B : Nat} {v : Value} {l : List UInt8} (h : BRow w B v l) : GRow w B v l := by
  rcases h.2 with ⟨h1, h2⟩ | ⟨g, cap, cur, hv, hb, hg, h1, h2, h3, h4⟩
  · exact .inl ⟨h1, List.length_eq_zero_iff.1 h2⟩
  · exact .inr ⟨g, cap, cur, (0, 0), hv, hb, hg, .inl rfl, h1, h2, by omega, by simpa using h4⟩

theorem GRow.nil (w : World) (B : Nat) : GRow w B (.slice none 0 0) [] := .inl ⟨rfl, rfl⟩

theorem GRow.form {w : World} {B : Nat} {v : Value} {l : List UInt8} (h : GRow w B v l) : ∃ ao cap, v = Value.slice ao l.length cap ∧ l.length ≤ cap ∧ cap ≤ maxLen := by
  rcases h with ⟨rfl, rfl⟩ | ⟨g, cap, _, _, rfl, _, _, _, h1, h2, _⟩
  · exact ⟨none, 0, rfl, by simp, by unfold maxLen; omega⟩
  · exact ⟨_, _, rfl, h1, h2⟩

theorem GRow.lt {w : World} {B : Nat} {v : Value} {l : List UInt8} (h : GRow w B v l) : ∀ k, v.ownBlock = some k → B ≤ k ∧ k < w.heap.size := by
  intro k hk
  rcases h with ⟨rfl, _⟩ | ⟨g, cap, cur, fz, rfl, hb, hg, _⟩
  · simp [Value.ownBlock] at hk
  · simp [Value.ownBlock] at hk
    subst hk
    exact ⟨hb, (Array.getElem?_eq_some_iff.1 hg).1⟩

theorem GRow.kept {w w' : World} {B : Nat} {v : Value} {l : List UInt8} (h : GRow w B v l) (hb : ∀ g, v.ownBlock = some g → w'.heap[g]? = w.heap[g]?) : GRow w' B v l := by
  rcases h with hn | ⟨g, cap, cur, fz, hv, hB, hg, rest⟩
  · exact .inl hn
  · exact .inr ⟨g, cap, cur, fz, hv, hB, (hb g (by rw [hv]; rfl)).trans hg, rest⟩

theorem GRow.below {w w' : World} {B : Nat} {v : Value} {l : List UInt8} (h : GRow w B v l) (hb : Below w.heap.size w w') : GRow w' B v l := h.kept fun g hg => hb.block g (h.lt g hg).2
theorem GRow.aside {w w' : World} {B : Nat} {v : Value} {l : List UInt8} {row : Option Nat} (h : GRow w B v l) (hg : w.grownBy w' row) (hne : ∀ g, v.ownBlock = some g → some g ≠ row) : GRow w' B v l := h.kept fun g hv => hg.block g (h.lt g hv).2 (hne g hv)
theorem GRow.setCell {w : World} {B : Nat} {v : Value} {l : List UInt8} (h : GRow w B v l) (b k : Nat) (u : Value) (hb : ∀ g, v.ownBlock = some g → g ≠ b) : GRow (w.setCell ⟨b, k, none⟩ u) B v l := h.kept fun g hv => Below.heap_setCell _ _ _ _ (hb g hv)
theorem GRow.alloc {w : World} {B : Nat} {v : Value} {l : List UInt8} (h : GRow w B v l) (o : Obj) : GRow (w.alloc o) B v l := h.below ((Below.refl _ w).alloc (Nat.le_refl _) o)

theorem GRow.cellB {w : World} {B : Nat} {ao : Option Addr} {n cap : Nat} {l : List UInt8} (h : GRow w B (.slice ao n cap) l) {i : Nat} (hi : i < l.length) : ∃ g, ao = some ⟨g, 0, none⟩ ∧ g < w.heap.size ∧ w.cell? ⟨g, i, none⟩ = some (.int .u8 (((l.getD i 0).toNat : Nat) : Int)) := by
  rcases h with ⟨_, rfl⟩ | ⟨g, c, cur, fz, hv, hB, hg, _, h1, h2, h3, h4⟩
  · simp at hi
  · simp only [Value.slice.injEq] at hv
    obtain ⟨rfl, rfl, rfl⟩ := hv
    refine ⟨g, rfl, (Array.getElem?_eq_some_iff.1 hg).1, ?_⟩
    rw [cell_of_row w g i cur _ fz hg, ← byteCells_at hi, ← h4, List.getElem?_take, if_pos hi]
    simp

theorem GRow.cells {w : World} {B g n cap : Nat} {l : List UInt8} (h : GRow w B (.slice (some ⟨g, 0, none⟩) n cap) l) : ∀ j u, (Lib.byteCells l)[j]? = some u → w.cell? ((⟨g, 0, none⟩ : Addr).add j) = some u := by
  intro j u hu
  have hj : j < l.length := by
    have := (List.getElem?_eq_some_iff.1 hu).1
    rwa [byteCells_len] at this
  obtain ⟨g', hg', _, c⟩ := h.cellB hj
  simp only [Option.some.injEq, Addr.mk.injEq, and_true] at hg'
  subst hg'
  have hadd : (⟨g, 0, none⟩ : Addr).add j = ⟨g, j, none⟩ := by unfold Addr.add; split <;> simp_all
  rw [hadd, c, ← byteCells_at hj, hu]

theorem GRow.conv {w : World} {B : Nat} {v : Value} {l : List UInt8} (h : GRow w B v l) : (convert 51 9 v).run Try.prog w = .ok (.string (tx l)) w := by
  obtain ⟨ao, cap, rfl, _, _⟩ := h.form
  by_cases h0 : l = []
  · subst h0
    rcases h with ⟨hv, _⟩ | ⟨g, c, cur, fz, hv, _⟩
    · simp only [Value.slice.injEq] at hv
      obtain ⟨rfl, _, rfl⟩ := hv
      kernel_rfl
    · simp only [Value.slice.injEq] at hv
      obtain ⟨rfl, _, rfl⟩ := hv
      rw [show ([] : List UInt8).length = 0 from rfl, run_convert_bytes_arg w 51 5 Try.underlying51 Try.underlying5 g 0 0 cap [] rfl (fun i hi => by omega) 9 Try.underlying9]
      rfl
  · have hl : 0 < l.length := List.length_pos_iff.2 h0
    obtain ⟨g, rfl, _, _⟩ := h.cellB hl
    rw [run_convert_bytes_arg w 51 5 Try.underlying51 Try.underlying5 g 0 l.length cap (l.map fun b => (b.toNat : Int)) (by rw [List.length_map]) (fun i hi => by
      obtain ⟨g', hg', _, c⟩ := h.cellB (i := i) hi
      simp only [Option.some.injEq, Addr.mk.injEq, and_true] at hg'
      subst hg'
      rw [Nat.zero_add, c]
      simp [List.getElem?_eq_getElem hi, List.getD]) 9 Try.underlying9]
    rw [Go.Lib.Lz.strOfNums_map]
    rfl

/-- a conversion's row -/
theorem GRow.made (w : World) (s : ByteArray) (hs : s.size ≤ maxLen) : GRow (Lib.bytesWorld w 5 s) w.heap.size (.slice (some ⟨w.heap.size, 0, none⟩) s.size (grownCap w s.size 0 5)) (ul s) := by
  have hge := grownCap_ge w s.size 0 5
  have hle := grownCap_le_maxLen w s.size 0 5 hs
  have hsz : (Lib.bytesCells w 5 s).size = grownCap w s.size 0 5 := by
    unfold Lib.bytesCells
    rw [Array.size_append, Array.size_map, Array.size_replicate]
    show s.size + _ = _
    omega
  refine .inr ⟨w.heap.size, _, _, _, rfl, Nat.le_refl _, Lib.bytesWorld_at_new w 5 s, .inr (by rw [hsz]; exact Nat.le_refl _), by rw [ul_len]; exact hge, hle, hsz, ?_⟩
  unfold Lib.bytesCells
  rw [Array.toList_append, Array.toList_map, List.take_append_of_le_length (by rw [List.length_map]; exact Nat.le_refl _), List.take_of_length_le (by rw [List.length_map]; exact Nat.le_refl _)]
  rfl

theorem bytes_belowF (w : World) (s : ByteArray) : Below w.heap.size w (Lib.bytesWorld w 5 s) :=
  ⟨rfl, rfl, rfl, by rw [Lib.bytesWorld_size]; omega, fun j hj => Lib.bytesWorld_at_old w 5 s j hj⟩

/-- what is written lies ahead of what is frozen -/
theorem run_storeCells_atG (P : Program) (g o : Nat) (t : TypeId) (fz : Nat × Nat) : ∀ (vs : List Value) (i : Nat) (cur : Array Value) (w : World), w.heap[g]? = some (.cells cur t fz) → (fz = ((0 : Nat), (0 : Nat)) ∨ cur.size ≤ fz.1) → o + i + vs.length ≤ cur.size → (∀ v ∈ vs, v.oneCell' = true) →
    (storeCells ⟨g, o, none⟩ vs i).run P w = .ok () (w.setRow g (cur.toList.take (o + i) ++ vs ++ cur.toList.drop (o + i + vs.length)).toArray)
  | [], i, cur, w, hg, _, _, _ => by
    simp only [storeCells, List.append_nil, List.length_nil, Nat.add_zero, List.take_append_drop, Array.toArray_toList]
    rw [setRow_self w g cur t fz hg]
    rfl
  | v :: rest, i, cur, w, hg, hfz, hl, h1 => by
    have hi : o + i < cur.size := by simp at hl; omega
    have hadd : (⟨g, o, none⟩ : Addr).add i = ⟨g, o + i, none⟩ := by unfold Addr.add; split <;> simp_all
    have hcell : w.cell? ⟨g, o + i, none⟩ = some cur[o + i] := by simp [World.cell?, hg, hi]
    have hfro : w.frozen? ⟨g, o + i, none⟩ = false := by
      obtain ⟨lo, hi'⟩ := fz
      simp only [World.frozen?, hg, Bool.and_eq_false_iff, decide_eq_false_iff_not]
      rcases hfz with h | h
      · simp only [Prod.mk.injEq] at h
        right
        omega
      · left
        simp only at h
        omega
    have hst : (store ((⟨g, o, none⟩ : Addr).add i) v).run P w = .ok () (w.setRow g (cur.setIfInBounds (o + i) v)) := by
      rw [hadd, run_store P w _ v _ (h1 v (by simp)), hcell]
      simp [hfro, setCell_eq_setRow w g (o + i) cur t fz v hg]
    have ih := run_storeCells_atG P g o t fz rest (i + 1) (cur.setIfInBounds (o + i) v) (w.setRow g (cur.setIfInBounds (o + i) v)) (setRow_heap w g cur _ t _ hg) (by simpa using hfz) (by simp at hl ⊢; omega) (fun x hx => h1 x (by simp [hx]))
    simp only [storeCells, Sem.run_bind, hst, Result.andThen_ok, ih, setRow_setRow]
    congr 3
    have e := list_seg_step cur.toList (o + i) v rest (by simp at hl ⊢; omega)
    simpa [Array.toList_setIfInBounds, Nat.add_assoc] using e

theorem run_gAppend (w : World) (ty : TypeId) (B : Nat) (i : TypeInfo) (hi : Try.prog.info? 5 = some i) (hz : i.zero = some (.int .u8 0)) (hsize : i.size = 1) (hby : i.bytes = 1)
    (v : Value) (l : List UInt8) (hown : GRow w B v l) (x : UInt8) (ad : Addr) (c : Nat) (hnews : w.cell? ad = some (.int .u8 ((x.toNat : Nat) : Int))) (hl : l.length ≤ 1000000) (hbase : B ≤ w.heap.size) :
    ∃ g cap w', (Builtin.append_ #[51, 51] ty #[v, .slice (some ad) 1 c]).run Try.prog w = .ok (.slice (some ⟨g, 0, none⟩) (l.length + 1) cap) w' ∧
      GRow w' B (.slice (some ⟨g, 0, none⟩) (l.length + 1) cap) (l ++ [x]) ∧ w.grownBy w' v.ownBlock ∧ (v.ownBlock = some g ∨ g = w.heap.size) := by
  have hn1 : ∀ j u, [Value.int .u8 ((x.toNat : Nat) : Int)][j]? = some u → w.cell? (ad.add j) = some u := fun j u hu => by
    cases j with
    | zero =>
      simp at hu
      subst hu
      have : ad.add 0 = ad := by unfold Addr.add; simp
      rw [this]; exact hnews
    | succ j => simp at hu
  have one : ∀ u ∈ [Value.int .u8 ((x.toNat : Nat) : Int)], u.oneCell' = true := by
    intro u hu
    simp at hu
    subst hu
    rfl
  have hlx : (l ++ [x]).length = l.length + 1 := by simp
  have hbx : Lib.byteCells (l ++ [x]) = Lib.byteCells l ++ [Value.int .u8 ((x.toNat : Nat) : Int)] := by rw [byteCells_app]; rfl
  rcases hown with ⟨rfl, rfl⟩ | ⟨g, cap, cur, fz, rfl, hbg, hg, hfz, hnc, hcm, hcs, htake⟩
  · have hr := run_append_nil (P := Try.prog) w 51 ty 5 i (.int .u8 0) Try.underlying51 hi hz ad 1 c [Value.int .u8 ((x.toNat : Nat) : Int)] (by simp [hsize]) hn1 (by omega) (by omega) (by omega)
    have hge := grownCap_ge w 1 0 5
    have hle := grownCap_le_maxLen w 1 0 5 (by unfold maxLen; omega)
    have hz1 : (Value.int IntKind.u8 0).cells.size = 1 := rfl
    refine ⟨_, _, _, hr, .inr ⟨w.heap.size, _, _, (0, 0), rfl, hbase, heap_alloc_new w.drew _, .inl rfl, by rw [hlx]; simpa using hge, hle, ?_, ?_⟩, ⟨rfl, rfl, rfl, by simp, fun _ hk _ => heap_alloc_old w.drew _ hk⟩, .inr rfl⟩
    · simp only [Array.size_append, List.size_toArray, size_zeroCells, hz1, List.length_singleton]
      omega
    · simp only [Array.toList_append]
      rw [hbx]
      show List.take 1 (_ :: _) = _
      simp [Lib.byteCells]
  · by_cases hroom : l.length + 1 ≤ cap
    · have hf := run_firstCells_some (P := Try.prog) w i.size 1 ad 1 c [Value.int .u8 ((x.toNat : Nat) : Int)] (by simp [hsize]) hn1
      have hst := run_storeCells_atG Try.prog g (l.length * i.size) 5 fz [Value.int .u8 ((x.toNat : Nat) : Int)] 0 cur w hg (by rw [hcs]; exact hfz) (by rw [hsize, hcs]; simp; omega) one
      simp only [Nat.add_zero] at hst
      have hr : (Builtin.append_ #[51, 51] ty #[.slice (some ⟨g, 0, none⟩) l.length cap, .slice (some ad) 1 c]).run Try.prog w =
          .ok (.slice (some ⟨g, 0, none⟩) (l.length + 1) cap) (w.setRow g (cur.toList.take (l.length * i.size) ++ [Value.int .u8 ((x.toNat : Nat) : Int)] ++ cur.toList.drop (l.length * i.size + 1)).toArray) := by
        simp [Builtin.append_, run_underlying Try.underlying51, sizeOf, typeInfo, hi, Builtin.lenOf, hroom, hf, Addr.add_lit, hst]
      rw [hsize, Nat.mul_one] at hr
      refine ⟨_, _, _, hr, .inr ⟨g, cap, _, fz, by rw [hlx], hbg, setRow_heap w g cur _ _ _ hg, hfz, by rw [hlx]; exact hroom, hcm, ?_, ?_⟩, ⟨rfl, rfl, rfl, by simp, fun k _ hk => setRow_other w g k _ (fun e => hk (by simp [Value.ownBlock, e]))⟩, .inl rfl⟩
      · simp only [List.size_toArray, List.length_append, List.length_take, List.length_drop, Array.length_toList, List.length_singleton]
        omega
      · rw [htake, hbx, hlx]
        have : (Lib.byteCells l ++ [Value.int IntKind.u8 ((x.toNat : Nat) : Int)]).length = l.length + 1 := by rw [List.length_append, byteCells_len]; rfl
        rw [← this]
        exact List.take_left
    · have holds : ∀ j u, (Lib.byteCells l)[j]? = some u → w.cell? ((⟨g, 0, none⟩ : Addr).add j) = some u := GRow.cells (B := B) (n := l.length) (cap := cap) (.inr ⟨g, cap, cur, fz, rfl, hbg, hg, hfz, hnc, hcm, hcs, htake⟩)
      have hr := run_append_grow (P := Try.prog) w 51 ty 5 i (.int .u8 0) Try.underlying51 hi hz ⟨g, 0, none⟩ l.length cap (Lib.byteCells l) (by rw [hsize, byteCells_len]; omega) holds ad 1 c [Value.int .u8 ((x.toNat : Nat) : Int)] (by simp [hsize]) hn1 (by omega) (by omega) (growslice_fits (by omega) (by rw [hby]; omega))
      have hge := grownCap_ge w (l.length + 1) cap 5
      have hle := grownCap_le_maxLen w (l.length + 1) cap 5 (by unfold maxLen; omega)
      have hz1 : (Value.int IntKind.u8 0).cells.size = 1 := rfl
      refine ⟨_, _, _, hr, .inr ⟨w.heap.size, _, _, (0, 0), by rw [hlx], hbase, heap_alloc_new w.drew _, .inl rfl, by rw [hlx]; exact hge, hle, ?_, ?_⟩, ⟨rfl, rfl, rfl, by simp, fun _ hk _ => heap_alloc_old w.drew _ hk⟩, .inr rfl⟩
      · simp only [Array.size_append, List.size_toArray, size_zeroCells, hz1, byteCells_len, List.length_singleton]
        omega
      · simp only [Array.toList_append, List.append_assoc]
        rw [← List.append_assoc, hbx]
        have : (Lib.byteCells l ++ [Value.int IntKind.u8 ((x.toNat : Nat) : Int)]).length = (l ++ [x]).length := by rw [List.length_append, byteCells_len, List.length_append]; rfl
        rw [← this]
        exact List.take_left

/-- at the list of a plain region's operations -/
theorem wpList_gAppend (w : World) {ops : Array Oper} {rest : List Oper} {o : Oper} {a : Act} {Q : Exit → Act → World → Prop} (hgd : o.guard = none) (s y : Operand)
    (ho : o.op = .call { callee := .builtin .append, args := #[s, y], argTypes := #[51, 51] }) (B : Nat) (i : TypeInfo) (hi : Try.prog.info? 5 = some i) (hz : i.zero = some (.int .u8 0)) (hsize : i.size = 1) (hby : i.bytes = 1)
    (v : Value) (l : List UInt8) (hs : a.eval s = v) (hown : GRow w B v l) (x : UInt8) (ad : Addr) (c : Nat) (hx : a.eval y = .slice (some ad) 1 c) (hnews : w.cell? ad = some (.int .u8 ((x.toNat : Nat) : Int))) (hl : l.length ≤ 1000000) (hbase : B ≤ w.heap.size) (H : Nat) (hH : w.heap.size = H)
    (h : ∀ g cap w', GRow w' B (.slice (some ⟨g, 0, none⟩) (l.length + 1) cap) (l ++ [x]) → w.grownBy w' v.ownBlock → (v.ownBlock = some g ∨ g = H) → wpList Try.prog ops Q rest (a.put o.dst (.slice (some ⟨g, 0, none⟩) (l.length + 1) cap)) w') : wpList Try.prog ops Q (o :: rest) a w := by
  refine wpList_plain hgd fun K hK => ?_
  obtain ⟨g, cap, w', hr, h2, h3, h4⟩ := run_gAppend w o.type B i hi hz hsize hby v l hown x ad c hnews hl hbase
  unfold Oper.wp execOp
  simp only [ho, resolve, invoke, builtin, Sem.run_bind, Sem.run_pure, Result.andThen_ok, List.map_toArray, List.map_cons, List.map_nil, hs, hx, hr]
  exact hK _ _ (h g cap w' h2 h3 (by rw [← hH]; exact h4))

end Go.Proofs.Ytcpjbacjmmbabaa
