/- A row of wants that is drawn: what the draw may write. The draw of wants. The draw of a filter. The texts of rising fields that the model draws. The draws of a filter and a text, and of two filters. -/
import Derived.Test.YtmjpmmkjfimopaaDoorCurF
import Derived.Test.YtmjpmmkjfimopaaDoorHk
import Derived.Test.YtmjpmmkjfimopaaDoorGd
import Derived.Deep.RegionHeld3
import Derived.Deep.DrawnRows
import Derived.Test.YtmjpmmkjfimopaaDoorHf
import Derived.OwnWalk
import Derived.Deep.AppendLies
namespace Go.Proofs.YtmjpmmkjfimopaaDoor
open Go.RowKit Plain Sch Wan

/-- what grows, and writes into the blocks of S alone -/
structure GrS (S : Nat → Prop) (w w' : World) : Prop where
  os : w'.os = w.os
  tape : w'.tape = w.tape
  output : w'.output = w.output
  size : w.heap.size ≤ w'.heap.size
  block : ∀ k, k < w.heap.size → ¬ S k → w'.heap[k]? = w.heap[k]?

theorem GrS.refl (S : Nat → Prop) (w : World) : GrS S w w := ⟨rfl, rfl, rfl, Nat.le_refl _, fun _ _ _ => rfl⟩
theorem GrS.trans {S S' : Nat → Prop} {a b c : World} (h : GrS S a b) (h' : GrS S' b c) (hS : ∀ k, k < a.heap.size → S' k → S k) : GrS S a c :=
  ⟨h'.os.trans h.os, h'.tape.trans h.tape, h'.output.trans h.output, Nat.le_trans h.size h'.size,
    fun k hk hn => (h'.block k (Nat.lt_of_lt_of_le hk h.size) (fun hs => hn (hS k hk hs))).trans (h.block k hk hn)⟩
theorem GrS.of {w w' : World} {row : Option Nat} (h : w.grownBy w' row) : GrS (fun k => some k = row) w w' := ⟨h.os, h.tape, h.output, h.size, h.block⟩
theorem GrS.alloc {S : Nat → Prop} {a b : World} (h : GrS S a b) (o : Obj) : GrS S a (b.alloc o) :=
  h.trans (GrS.of (Lib.grownBy_allocR (World.grownBy.refl b none) o)) (fun k _ e => by cases e)
theorem GrS.drew {S : Nat → Prop} {a b : World} (h : GrS S a b) : GrS S a b.drew := ⟨h.os, h.tape, h.output, h.size, h.block⟩

theorem GrS.row {S : Nat → Prop} {w w' : World} {B : Nat} {v : Value} {L : List Wa} (h : GrS S w w') (hr : WRow w B v L) (hn : ∀ g, v.ownBlock = some g → ¬ S g) : WRow w' B v L := by
  refine ⟨hr.1, ?_⟩
  rcases hr.2 with hn' | ⟨g, cap, cur, hv, hg, hgg, rest⟩
  · exact .inl hn'
  · exact .inr ⟨g, cap, cur, hv, hg, (h.block g (Array.getElem?_eq_some_iff.1 hgg).1 (hn g (by rw [hv]; rfl))).trans hgg, rest⟩

theorem GrS.cur {S : Nat → Prop} {w w' : World} {b m : Nat} (h : GrS S w w') (hc : Cur w b m) (hn : ∀ k, k ≤ b → ¬ S k) : Cur w' b m :=
  hc.below ⟨h.os, h.tape, h.output, h.size, fun k hk => h.block k (by have := hc.lt; omega) (hn k (by omega))⟩

/-- a want in a block of its own -/
def SixW (w : World) (K : Nat) (t : Wa) : Prop :=
  (w.cell? ⟨K, 0, none⟩ = some (.int .i64 t.kind) ∧ w.cell? ⟨K, 1, none⟩ = some (.int .i64 t.no) ∧ w.cell? ⟨K, 2, none⟩ = some (.int .i64 t.num) ∧ w.cell? ⟨K, 3, none⟩ = some (.string t.text) ∧ w.cell? ⟨K, 4, none⟩ = some (.int .i64 t.a) ∧ w.cell? ⟨K, 5, none⟩ = some (.int .i64 t.b)) ∧
    ∀ j, w.frozen? ⟨K, j, none⟩ = false

theorem SixW.kept {w w' : World} {K : Nat} {t : Wa} (h : SixW w K t) (hk : w'.heap[K]? = w.heap[K]?) : SixW w' K t := by
  have c : ∀ j, w'.cell? ⟨K, j, none⟩ = w.cell? ⟨K, j, none⟩ := fun j => World.cell?_of_block hk
  have f : ∀ j, w'.frozen? ⟨K, j, none⟩ = w.frozen? ⟨K, j, none⟩ := fun j => World.frozen?_of_block hk
  refine ⟨?_, fun j => (f j).trans (h.2 j)⟩
  rw [c, c, c, c, c, c]
  exact h.1

theorem SixW.lt {w : World} {K : Nat} {t : Wa} (h : SixW w K t) : K < w.heap.size := World.block_lt_of_cell? w _ h.1.1

theorem SixW.no {w : World} {K : Nat} {t : Wa} (h : SixW w K t) (n : Int) : SixW (w.setCell ⟨K, 1, none⟩ (.int .i64 n)) K { t with no := n } := by
  obtain ⟨⟨c0, c1, c2, c3, c4, c5⟩, f⟩ := h
  refine ⟨⟨?_, World.cell?_setCell_same _ _ _ c1, ?_, ?_, ?_, ?_⟩, fun j => by rw [World.frozen?_setCell]; exact f j⟩
  all_goals rw [World.cell?_setCell_other _ _ _ _ (by simp)]; assumption
theorem SixW.num {w : World} {K : Nat} {t : Wa} (h : SixW w K t) (n : Int) : SixW (w.setCell ⟨K, 2, none⟩ (.int .i64 n)) K { t with num := n } := by
  obtain ⟨⟨c0, c1, c2, c3, c4, c5⟩, f⟩ := h
  refine ⟨⟨?_, ?_, World.cell?_setCell_same _ _ _ c2, ?_, ?_, ?_⟩, fun j => by rw [World.frozen?_setCell]; exact f j⟩
  all_goals rw [World.cell?_setCell_other _ _ _ _ (by simp)]; assumption
theorem SixW.text {w : World} {K : Nat} {t : Wa} (h : SixW w K t) (s : ByteArray) : SixW (w.setCell ⟨K, 3, none⟩ (.string s)) K { t with text := s } := by
  obtain ⟨⟨c0, c1, c2, c3, c4, c5⟩, f⟩ := h
  refine ⟨⟨?_, ?_, ?_, World.cell?_setCell_same _ _ _ c3, ?_, ?_⟩, fun j => by rw [World.frozen?_setCell]; exact f j⟩
  all_goals rw [World.cell?_setCell_other _ _ _ _ (by simp)]; assumption
theorem SixW.seta {w : World} {K : Nat} {t : Wa} (h : SixW w K t) (n : Int) : SixW (w.setCell ⟨K, 4, none⟩ (.int .i64 n)) K { t with a := n } := by
  obtain ⟨⟨c0, c1, c2, c3, c4, c5⟩, f⟩ := h
  refine ⟨⟨?_, ?_, ?_, ?_, World.cell?_setCell_same _ _ _ c4, ?_⟩, fun j => by rw [World.frozen?_setCell]; exact f j⟩
  all_goals rw [World.cell?_setCell_other _ _ _ _ (by simp)]; assumption
theorem SixW.setb {w : World} {K : Nat} {t : Wa} (h : SixW w K t) (n : Int) : SixW (w.setCell ⟨K, 5, none⟩ (.int .i64 n)) K { t with b := n } := by
  obtain ⟨⟨c0, c1, c2, c3, c4, c5⟩, f⟩ := h
  refine ⟨⟨?_, ?_, ?_, ?_, ?_, World.cell?_setCell_same _ _ _ c5⟩, fun j => by rw [World.frozen?_setCell]; exact f j⟩
  all_goals rw [World.cell?_setCell_other _ _ _ _ (by simp)]; assumption

/-- the draw of wants at work: its cursor, the row so far, the want that is made, all else as it was -/
structure DSt (w0 : World) (b B : Nat) (ro : Option Nat) (K : Nat) (rv : Value) (L : List Wa) (t : Wa) (m : Nat) (w : World) : Prop where
  cur : Cur w b m
  row : WRow w B rv L
  six : SixW w K t
  gr : GrS (fun k => k = b ∨ some k = ro) w0 w
  blk : ∀ g, rv.ownBlock = some g → ro = some g ∨ w0.heap.size ≤ g
  ne : rv.ownBlock ≠ some K
  k0 : w0.heap.size ≤ K
  bB : b < B
  B0 : B ≤ w0.heap.size
  ob : ∀ g, ro = some g → B ≤ g ∧ g < w0.heap.size

variable {w0 w w' : World} {b B K m : Nat} {ro : Option Nat} {rv : Value} {L : List Wa} {t : Wa}

theorem DSt.pick (h : DSt w0 b B ro K rv L t m w) {m' : Nat} (hc : Cur w' b m') (hg : w.grownBy w' (some b)) : DSt w0 b B ro K rv L t m' w' := by
  have hK := h.k0
  have hb := h.bB
  have hB := h.B0
  refine ⟨hc, (GrS.of hg).row h.row (fun g hg' e => ?_), h.six.kept (hg.block K h.six.lt (by simp; omega)), h.gr.trans (GrS.of hg) (fun k _ e => .inl (by simpa using e)), h.blk, h.ne, hK, hb, hB, h.ob⟩
  have := (h.row.lt g hg').1
  simp at e
  omega

theorem DSt.alloc (h : DSt w0 b B ro K rv L t m w) (o : Obj) : DSt w0 b B ro K rv L t m (w.alloc o) := by
  have hg : w.grownBy (w.alloc o) none := Lib.grownBy_allocR (World.grownBy.refl w none) o
  exact ⟨h.cur.alloc o, (GrS.of hg).row h.row (fun g _ e => by cases e), h.six.kept (hg.block K h.six.lt (by simp)), h.gr.alloc o, h.blk, h.ne, h.k0, h.bB, h.B0, h.ob⟩

/-- a store into the want that is made -/
theorem DSt.put (h : DSt w0 b B ro K rv L t m w) {t' : Wa} (j : Nat) (v : Value) (h6 : SixW (w.setCell ⟨K, j, none⟩ v) K t') : DSt w0 b B ro K rv L t' m (w.setCell ⟨K, j, none⟩ v) := by
  have hK := h.k0
  have hb := h.bB
  have hB := h.B0
  have hg : w.grownBy (w.setCell ⟨K, j, none⟩ v) (some K) := Lib.grownBy_setCell w K j v
  refine ⟨h.cur.grown hg (by intro k hk; cases hk; omega), (GrS.of hg).row h.row (fun g hg' e => h.ne (by rw [hg', e])), h6, h.gr.trans (GrS.of hg) (fun k hk e => ?_), h.blk, h.ne, hK, hb, hB, h.ob⟩
  simp at e
  omega

/-- what the draw leaves -/
def WantsR (w : World) (b B m : Nat) (rv : Value) (L : List Wa) (z : Nat) (e : Ending) (w' : World) : Prop :=
  ∃ M rv', e = .returned rv' ∧ WRow w' B rv' (L ++ M) ∧ 1 ≤ M.length ∧ M.length ≤ z ∧ (∀ x ∈ M, x.text.size ≤ 4) ∧ Cur w' b m ∧ GrS (fun k => k = b ∨ some k = rv.ownBlock) w w' ∧ ∀ g, rv'.ownBlock = some g → rv.ownBlock = some g ∨ w.heap.size ≤ g

theorem DSt.deep (h : DSt w0 b B ro K rv L t m w) {M : List Wa} {rv' : Value} {m' : Nat} (hr : WRow w' B rv' (L ++ M)) (hc : Cur w' b m') (hg : GrS (fun k => k = b ∨ some k = rv.ownBlock) w w') (hb' : ∀ g, rv'.ownBlock = some g → rv.ownBlock = some g ∨ w.heap.size ≤ g) :
    DSt w0 b B ro K rv' (L ++ M) t m' w' := by
  have hK := h.k0
  have hb := h.bB
  have hB := h.B0
  have hl := h.six.lt
  refine ⟨hc, hr, h.six.kept (hg.block K hl ?_), h.gr.trans hg ?_, ?_, ?_, hK, hb, hB, h.ob⟩
  · rintro (e | e)
    · omega
    · exact h.ne e.symm
  · rintro k hk (e | e)
    · exact .inl e
    · rcases h.blk k e.symm with q | q
      · exact .inr q.symm
      · omega
  · intro g hg'
    rcases hb' g hg' with q | q
    · exact h.blk g q
    · exact .inr (Nat.le_trans h.gr.size q)
  · intro q
    rcases hb' K q with q' | q'
    · exact h.ne q'
    · omega

/-- the want is put behind the row -/
theorem DSt.fin {rv0 : Value} {L0 M : List Wa} {z g9 cap9 : Nat} {w9 : World} {o : Obj} (h : DSt w0 b B rv0.ownBlock K rv L t m w) (hL : L = L0 ++ M) (hz : M.length + 1 ≤ z) (hM : ∀ x ∈ M, x.text.size ≤ 4) (ht : t.text.size ≤ 4)
    (hown : w9.ownsRow B 66 6 (.slice (some ⟨g9, 0, none⟩) (L.length + 1) cap9) (L.length + 1) (L.flatMap Wa.cells ++ t.cells)) (hgrow : (w.alloc o).grownBy w9 rv.ownBlock) (hat : rv.ownBlock = some g9 ∨ g9 = w.heap.size + 1) {m' : Nat} (hm : m ≤ m') :
    WantsR w0 b B m' rv0 L0 z (.returned (.slice (some ⟨g9, 0, none⟩) (L.length + 1) cap9)) w9 := by
  have hK := h.k0
  have hb := h.bB
  have hB := h.B0
  refine ⟨M ++ [t], _, rfl, ?_, by simp, by simpa using hz, ?_, ?_, ?_, ?_⟩
  · unfold WRow
    rw [← List.append_assoc, ← hL, List.length_append, List.length_singleton, List.flatMap_append]
    simpa using hown
  · intro x hx
    rcases List.mem_append.1 hx with q | q
    · exact hM x q
    · simp at q; rw [q]; exact ht
  · refine ((h.cur.alloc o).grown hgrow (fun k hk => ?_)).le hm
    have := (h.row.lt k hk).1
    omega
  · refine (h.gr.alloc o).trans (GrS.of hgrow) (fun k hk e => ?_)
    rcases h.blk k e.symm with q | q
    · exact .inr q.symm
    · omega
  · intro g hg
    have hg' : g9 = g := by simpa [Value.ownBlock] using hg
    subst hg'
    rcases hat with q | q
    · exact h.blk g9 q
    · have := h.gr.size; exact .inr (by omega)

end Go.Proofs.YtmjpmmkjfimopaaDoor

namespace Go.Proofs.YtmjpmmkjfimopaaDoor
open Go.RowKit Plain Sch Wan

def szW : Nat → Nat
  | 0 => 1
  | d + 1 => 2 * szW d + 1
def stW : Nat → Nat
  | 0 => 10
  | d + 1 => 2 * stW d + 10
theorem szW_pos (d : Nat) : 1 ≤ szW d := by cases d <;> simp [szW]
theorem stW_ten (d : Nat) : 10 ≤ stW d := by cases d <;> simp [stW]

def four (i : Nat) : ByteArray := [⟨#[]⟩, ⟨#[97]⟩, ⟨#[115, 111, 109, 101]⟩, ⟨#[120]⟩].getD i ⟨#[]⟩
theorem four_size (i : Nat) : (four i).size ≤ 4 := by
  unfold four
  rcases i with _ | _ | _ | _ | i <;> simp [ByteArray.size]
theorem four_cells (w : World) (t : TypeId) (i : Nat) (h : i < 4) : (w.alloc (.cells #[.string ⟨#[]⟩, .string ⟨#[97]⟩, .string ⟨#[115, 111, 109, 101]⟩, .string ⟨#[120]⟩] t)).cell? ⟨w.heap.size, i, none⟩ = some (.string (four i)) := by
  have h4 : i = 0 ∨ i = 1 ∨ i = 2 ∨ i = 3 := by omega
  rcases h4 with rfl | rfl | rfl | rfl <;> simp [four]

theorem start_any {w w2 : World} {b B m : Nat} {rv : Value} {L : List Wa} (hc : Cur w2 b m) (hg : w.grownBy w2 (some b)) (hrow : WRow w B rv L) (hbB : b < B) (hBw : B ≤ w.heap.size) (k : Int) :
    DSt w b B rv.ownBlock w2.heap.size rv L ⟨k, 0, 0, ⟨#[]⟩, 0, 0⟩ m (w2.alloc (.cells #[.int .i64 k, .int .i64 0, .int .i64 0, .string ⟨#[]⟩, .int .i64 0, .int .i64 0] 66)) := by
  have hgr : GrS (fun k => some k = some b) w w2 := GrS.of hg
  have hg2 : w2.grownBy (w2.alloc (.cells #[.int .i64 k, .int .i64 0, .int .i64 0, .string ⟨#[]⟩, .int .i64 0, .int .i64 0] 66)) none := Lib.grownBy_allocR (World.grownBy.refl w2 none) _
  have hlt := fun g h => hrow.lt g h
  refine ⟨hc.alloc _, (GrS.of hg2).row (hgr.row hrow (fun g hg' e => ?_)) (fun g _ e => by cases e), ⟨⟨by go_simp, by go_simp, by go_simp, by go_simp, by go_simp, by go_simp⟩, fun j => by simp only [World.frozen?, heap_alloc_new]; simp⟩, ?_, fun g h => .inl h, ?_, hg.size, hbB, hBw, hlt⟩
  · have := (hlt g hg').1
    simp at e
    omega
  · refine (GrS.trans (S := fun k => k = b ∨ some k = rv.ownBlock) ⟨hgr.os, hgr.tape, hgr.output, hgr.size, fun k hk hn => hgr.block k hk (fun e => hn (.inl (by simpa using e)))⟩ (GrS.of hg2) (fun k _ e => by cases e))
  · intro e
    have := (hlt _ e).2
    have := hg.size
    omega

def WantsOK (d : Nat) : Prop := ∀ (z : Int) (b m : Nat) (w : World) (L : List Wa) (rv : Value) (B : Nat), z = d → d ≤ 1000 → Cur w b m → m + stW d ≤ 900000000 → L.length + szW d ≤ 1000 → WRow w B rv L → b < B → B ≤ w.heap.size →
    Calls Tryd.prog 38 #[.pointer (some ⟨b, 0, none⟩), .int .i64 z, rv] w (WantsR w b B (m + stW d) rv L (szW d))

theorem infoWaD : (Tryd.prog.info? 66).map (fun i => (i.zero, i.size, i.bytes)) = some (some (.agg #[.int .i64 0, .int .i64 0, .int .i64 0, .string ⟨#[]⟩, .int .i64 0, .int .i64 0]), 6, 56) := by kernel_rfl

set_option maxRecDepth 100000 in
set_option maxHeartbeats 8000000 in
theorem wants_zero : WantsOK 0 := by
  intro z b m w L rv B hz hd hc hm hl hrow hbB hBw
  obtain ⟨i0, hi, hz0, hz1, hz2⟩ := info_parts infoWaD
  have HSZ : Hid (1 ≤ szW 0) := szW_pos _
  have HST : Hid (10 ≤ stW 0) := stW_ten _
  have hm9 : m + 10 ≤ 900000000 := by have := HST.out; omega
  have hl9 : L.length ≤ 999 := by have := HSZ.out; omega
  have hz3 : z = 0 := by omega
  subst hz3
  clear hz hd hm hl
  go_enter Tryd.func38, Tryd.ntmps38
  go_wp2_with fail
  refine (pick_any b m 8 _ hc (by omega)).mono ?_
  rintro e w1 ⟨x, rfl, hx, hc1, hg1⟩
  have hx8 : x < 8 := by omega
  clear hx hc
  have hx8i : (x : Int) ≤ 8 := by omega
  go_wp2_with fail
  refine (pick_any b (m + 2) 5 _ hc1 (by omega)).mono ?_
  rintro e w2 ⟨x2, rfl, hx2, hc2, hg2⟩
  have hgw := Lib.grownBy_trans hg1 hg2
  have hx5 : x2 = 0 ∨ x2 = 1 ∨ x2 = 2 ∨ x2 = 3 ∨ x2 = 4 := by omega
  clear hx2 hx8 hx8i hc1 hg1 hg2
  rcases hx5 with rfl | rfl | rfl | rfl | rfl
  · skip
    obtain ⟨W3, hW3⟩ : ∃ W, W = w2.alloc (.cells #[.int .i64 1, .int .i64 0, .int .i64 0, .string ⟨#[]⟩, .int .i64 0, .int .i64 0] 66) := ⟨_, rfl⟩
    have hS3 : DSt w b B rv.ownBlock w2.heap.size rv L ⟨1, 0, 0, ⟨#[]⟩, 0, 0⟩ (m + 2 + 2) W3 := by rw [hW3]; exact start_any hc2 hgw hrow hbB hBw 1
    go_wp2_with fail
    rw [← hW3]
    clear hW3
    refine (pick_any b _ 6 _ hS3.cur (by omega)).mono ?_
    rintro e w4 ⟨y, rfl, hy, hc4, hg4⟩
    have hS4 := hS3.pick hc4 hg4
    have hy6 : (y : Int) ≤ 6 := by omega
    clear hS3 hc4 hg4 hy
    obtain ⟨⟨c0, c1, c2, c3, c4, c5⟩, ff⟩ := hS4.six
    dsimp only at c0 c1 c2 c3 c4 c5
    have f1 := ff 1
    have f2 := ff 2
    have f3 := ff 3
    have f4 := ff 4
    have f5 := ff 5
    clear ff
    obtain ⟨W5, hW5⟩ : ∃ W, W = w4.setCell ⟨w2.heap.size, 1, none⟩ (.int .i64 (1 + (y : Int))) := ⟨_, rfl⟩
    have hS5 : DSt w b B rv.ownBlock w2.heap.size rv L ⟨1, 1 + (y : Int), 0, ⟨#[]⟩, 0, 0⟩ (m + 2 + 2 + 2) W5 := by rw [hW5]; exact hS4.put 1 _ (hS4.six.no _)
    go_wp2_with fail
    rw [← hW5]
    clear hW5 hS4
    clear c0 c1 c2 c3 c4 c5 f1 f2 f3 f4 f5
    refine (pick_any b _ 12 _ hS5.cur (by omega)).mono ?_
    rintro e w6 ⟨u, rfl, hu, hc6, hg6⟩
    have hS6 := hS5.pick hc6 hg6
    have hu6 : (u : Int) ≤ 12 := by omega
    clear hS5 hc6 hg6 hu
    obtain ⟨⟨c0, c1, c2, c3, c4, c5⟩, ff⟩ := hS6.six
    dsimp only at c0 c1 c2 c3 c4 c5
    have f1 := ff 1
    have f2 := ff 2
    have f3 := ff 3
    have f4 := ff 4
    have f5 := ff 5
    clear ff
    obtain ⟨W7, hW7⟩ : ∃ W, W = w6.setCell ⟨w2.heap.size, 2, none⟩ (.int .i64 ((u : Int) - 4)) := ⟨_, rfl⟩
    have hS7 : DSt w b B rv.ownBlock w2.heap.size rv L ⟨1, 1 + (y : Int), (u : Int) - 4, ⟨#[]⟩, 0, 0⟩ (m + 2 + 2 + 2 + 2) W7 := by rw [hW7]; exact hS6.put 2 _ (hS6.six.num _)
    go_upto_region 13 with fail
    rw [← hW7]
    clear hW7 hS6
    clear c0 c1 c2 c3 c4 c5 f1 f2 f3 f4 f5
    have HLL : L.length ≤ 1000 := by omega
    obtain ⟨⟨c0, c1, c2, c3, c4, c5⟩, ff⟩ := hS7.six
    dsimp only at c0 c1 c2 c3 c4 c5
    have f1 := ff 1
    have f2 := ff 2
    have f3 := ff 3
    have f4 := ff 4
    have f5 := ff 5
    clear ff
    have hrow9 := hS7.row
    have hB9 : B ≤ W7.heap.size := Nat.le_trans hBw hS7.gr.size
    go_wp2_with (at_builtin; refine wpList_append_lies _ rfl _ _ 23 rfl B 66 i0 (.agg #[.int .i64 0, .int .i64 0, .int .i64 0, .string ⟨#[]⟩, .int .i64 0, .int .i64 0]) 6 56 Tryd.underlying23 hi hz0 hz1 hz2 rfl (by decide) _ (L).length _ rfl (World.ownsRow.alloc hrow9 _) ⟨W7.heap.size, 0, none⟩ 1 1 [.int .i64 1, .int .i64 (1 + (y : Int)), .int .i64 ((u : Int) - 4), .string ⟨#[]⟩, .int .i64 0, .int .i64 0] rfl rfl (World.news_of_block (heap_alloc_new W7 _)) (one6W _ _ _ _ _ _) (by omega) (by unfold maxLen; omega) (by omega) (by simp; omega) (W7.heap.size + 1) (by simp) ?_)
    intro g9 cap9 w9 hown9 hgrow9 hat9 hlt9
    clear c0 c1 c2 c3 c4 c5 f1 f2 f3 f4 f5
    clear hrow9 hlt9
    go_wp2
    go_ret
    exact hS7.fin (M := []) (by simp) (by have := HSZ.out; simp; omega) (by simp) (by simp [ByteArray.size]) (by simpa [Wa.cells] using hown9) hgrow9 hat9 (by have := HST.out; omega)
  · skip
    obtain ⟨W3, hW3⟩ : ∃ W, W = w2.alloc (.cells #[.int .i64 2, .int .i64 0, .int .i64 0, .string ⟨#[]⟩, .int .i64 0, .int .i64 0] 66) := ⟨_, rfl⟩
    have hS3 : DSt w b B rv.ownBlock w2.heap.size rv L ⟨2, 0, 0, ⟨#[]⟩, 0, 0⟩ (m + 2 + 2) W3 := by rw [hW3]; exact start_any hc2 hgw hrow hbB hBw 2
    go_wp2_with fail
    rw [← hW3]
    clear hW3
    refine (pick_any b _ 6 _ hS3.cur (by omega)).mono ?_
    rintro e w4 ⟨y, rfl, hy, hc4, hg4⟩
    have hS4 := hS3.pick hc4 hg4
    have hy6 : (y : Int) ≤ 6 := by omega
    clear hS3 hc4 hg4 hy
    obtain ⟨⟨c0, c1, c2, c3, c4, c5⟩, ff⟩ := hS4.six
    dsimp only at c0 c1 c2 c3 c4 c5
    have f1 := ff 1
    have f2 := ff 2
    have f3 := ff 3
    have f4 := ff 4
    have f5 := ff 5
    clear ff
    obtain ⟨W5, hW5⟩ : ∃ W, W = w4.setCell ⟨w2.heap.size, 1, none⟩ (.int .i64 (1 + (y : Int))) := ⟨_, rfl⟩
    have hS5 : DSt w b B rv.ownBlock w2.heap.size rv L ⟨2, 1 + (y : Int), 0, ⟨#[]⟩, 0, 0⟩ (m + 2 + 2 + 2) W5 := by rw [hW5]; exact hS4.put 1 _ (hS4.six.no _)
    go_wp2_with fail
    rw [← hW5]
    clear hW5 hS4
    clear c0 c1 c2 c3 c4 c5 f1 f2 f3 f4 f5
    refine (pick_any b _ 12 _ hS5.cur (by omega)).mono ?_
    rintro e w6 ⟨u, rfl, hu, hc6, hg6⟩
    have hS6 := hS5.pick hc6 hg6
    have hu6 : (u : Int) ≤ 12 := by omega
    clear hS5 hc6 hg6 hu
    obtain ⟨⟨c0, c1, c2, c3, c4, c5⟩, ff⟩ := hS6.six
    dsimp only at c0 c1 c2 c3 c4 c5
    have f1 := ff 1
    have f2 := ff 2
    have f3 := ff 3
    have f4 := ff 4
    have f5 := ff 5
    clear ff
    obtain ⟨W7, hW7⟩ : ∃ W, W = w6.setCell ⟨w2.heap.size, 2, none⟩ (.int .i64 ((u : Int) - 4)) := ⟨_, rfl⟩
    have hS7 : DSt w b B rv.ownBlock w2.heap.size rv L ⟨2, 1 + (y : Int), (u : Int) - 4, ⟨#[]⟩, 0, 0⟩ (m + 2 + 2 + 2 + 2) W7 := by rw [hW7]; exact hS6.put 2 _ (hS6.six.num _)
    go_upto_region 13 with fail
    rw [← hW7]
    clear hW7 hS6
    clear c0 c1 c2 c3 c4 c5 f1 f2 f3 f4 f5
    have HLL : L.length ≤ 1000 := by omega
    obtain ⟨⟨c0, c1, c2, c3, c4, c5⟩, ff⟩ := hS7.six
    dsimp only at c0 c1 c2 c3 c4 c5
    have f1 := ff 1
    have f2 := ff 2
    have f3 := ff 3
    have f4 := ff 4
    have f5 := ff 5
    clear ff
    have hrow9 := hS7.row
    have hB9 : B ≤ W7.heap.size := Nat.le_trans hBw hS7.gr.size
    go_wp2_with (at_builtin; refine wpList_append_lies _ rfl _ _ 23 rfl B 66 i0 (.agg #[.int .i64 0, .int .i64 0, .int .i64 0, .string ⟨#[]⟩, .int .i64 0, .int .i64 0]) 6 56 Tryd.underlying23 hi hz0 hz1 hz2 rfl (by decide) _ (L).length _ rfl (World.ownsRow.alloc hrow9 _) ⟨W7.heap.size, 0, none⟩ 1 1 [.int .i64 2, .int .i64 (1 + (y : Int)), .int .i64 ((u : Int) - 4), .string ⟨#[]⟩, .int .i64 0, .int .i64 0] rfl rfl (World.news_of_block (heap_alloc_new W7 _)) (one6W _ _ _ _ _ _) (by omega) (by unfold maxLen; omega) (by omega) (by simp; omega) (W7.heap.size + 1) (by simp) ?_)
    intro g9 cap9 w9 hown9 hgrow9 hat9 hlt9
    clear c0 c1 c2 c3 c4 c5 f1 f2 f3 f4 f5
    clear hrow9 hlt9
    go_wp2
    go_ret
    exact hS7.fin (M := []) (by simp) (by have := HSZ.out; simp; omega) (by simp) (by simp [ByteArray.size]) (by simpa [Wa.cells] using hown9) hgrow9 hat9 (by have := HST.out; omega)
  · skip
    obtain ⟨W3, hW3⟩ : ∃ W, W = w2.alloc (.cells #[.int .i64 3, .int .i64 0, .int .i64 0, .string ⟨#[]⟩, .int .i64 0, .int .i64 0] 66) := ⟨_, rfl⟩
    have hS3 : DSt w b B rv.ownBlock w2.heap.size rv L ⟨3, 0, 0, ⟨#[]⟩, 0, 0⟩ (m + 2 + 2) W3 := by rw [hW3]; exact start_any hc2 hgw hrow hbB hBw 3
    go_wp2_with fail
    rw [← hW3]
    clear hW3
    refine (pick_any b _ 6 _ hS3.cur (by omega)).mono ?_
    rintro e w4 ⟨y, rfl, hy, hc4, hg4⟩
    have hS4 := hS3.pick hc4 hg4
    have hy6 : (y : Int) ≤ 6 := by omega
    clear hS3 hc4 hg4 hy
    obtain ⟨⟨c0, c1, c2, c3, c4, c5⟩, ff⟩ := hS4.six
    dsimp only at c0 c1 c2 c3 c4 c5
    have f1 := ff 1
    have f2 := ff 2
    have f3 := ff 3
    have f4 := ff 4
    have f5 := ff 5
    clear ff
    obtain ⟨W5, hW5⟩ : ∃ W, W = w4.setCell ⟨w2.heap.size, 1, none⟩ (.int .i64 (1 + (y : Int))) := ⟨_, rfl⟩
    have hS5 : DSt w b B rv.ownBlock w2.heap.size rv L ⟨3, 1 + (y : Int), 0, ⟨#[]⟩, 0, 0⟩ (m + 2 + 2 + 2) W5 := by rw [hW5]; exact hS4.put 1 _ (hS4.six.no _)
    go_wp2_with fail
    rw [← hW5]
    clear hW5 hS4
    clear c0 c1 c2 c3 c4 c5 f1 f2 f3 f4 f5
    refine (pick_any b _ 12 _ hS5.cur (by omega)).mono ?_
    rintro e w6 ⟨u, rfl, hu, hc6, hg6⟩
    have hS6 := hS5.pick hc6 hg6
    have hu6 : (u : Int) ≤ 12 := by omega
    clear hS5 hc6 hg6 hu
    obtain ⟨⟨c0, c1, c2, c3, c4, c5⟩, ff⟩ := hS6.six
    dsimp only at c0 c1 c2 c3 c4 c5
    have f1 := ff 1
    have f2 := ff 2
    have f3 := ff 3
    have f4 := ff 4
    have f5 := ff 5
    clear ff
    obtain ⟨W7, hW7⟩ : ∃ W, W = w6.setCell ⟨w2.heap.size, 2, none⟩ (.int .i64 ((u : Int) - 4)) := ⟨_, rfl⟩
    have hS7 : DSt w b B rv.ownBlock w2.heap.size rv L ⟨3, 1 + (y : Int), (u : Int) - 4, ⟨#[]⟩, 0, 0⟩ (m + 2 + 2 + 2 + 2) W7 := by rw [hW7]; exact hS6.put 2 _ (hS6.six.num _)
    go_upto_region 13 with fail
    rw [← hW7]
    clear hW7 hS6
    clear c0 c1 c2 c3 c4 c5 f1 f2 f3 f4 f5
    have HLL : L.length ≤ 1000 := by omega
    obtain ⟨⟨c0, c1, c2, c3, c4, c5⟩, ff⟩ := hS7.six
    dsimp only at c0 c1 c2 c3 c4 c5
    have f1 := ff 1
    have f2 := ff 2
    have f3 := ff 3
    have f4 := ff 4
    have f5 := ff 5
    clear ff
    have hrow9 := hS7.row
    have hB9 : B ≤ W7.heap.size := Nat.le_trans hBw hS7.gr.size
    go_wp2_with (at_builtin; refine wpList_append_lies _ rfl _ _ 23 rfl B 66 i0 (.agg #[.int .i64 0, .int .i64 0, .int .i64 0, .string ⟨#[]⟩, .int .i64 0, .int .i64 0]) 6 56 Tryd.underlying23 hi hz0 hz1 hz2 rfl (by decide) _ (L).length _ rfl (World.ownsRow.alloc hrow9 _) ⟨W7.heap.size, 0, none⟩ 1 1 [.int .i64 3, .int .i64 (1 + (y : Int)), .int .i64 ((u : Int) - 4), .string ⟨#[]⟩, .int .i64 0, .int .i64 0] rfl rfl (World.news_of_block (heap_alloc_new W7 _)) (one6W _ _ _ _ _ _) (by omega) (by unfold maxLen; omega) (by omega) (by simp; omega) (W7.heap.size + 1) (by simp) ?_)
    intro g9 cap9 w9 hown9 hgrow9 hat9 hlt9
    clear c0 c1 c2 c3 c4 c5 f1 f2 f3 f4 f5
    clear hrow9 hlt9
    go_wp2
    go_ret
    exact hS7.fin (M := []) (by simp) (by have := HSZ.out; simp; omega) (by simp) (by simp [ByteArray.size]) (by simpa [Wa.cells] using hown9) hgrow9 hat9 (by have := HST.out; omega)
  · skip
    obtain ⟨W3, hW3⟩ : ∃ W, W = w2.alloc (.cells #[.int .i64 4, .int .i64 0, .int .i64 0, .string ⟨#[]⟩, .int .i64 0, .int .i64 0] 66) := ⟨_, rfl⟩
    have hS3 : DSt w b B rv.ownBlock w2.heap.size rv L ⟨4, 0, 0, ⟨#[]⟩, 0, 0⟩ (m + 2 + 2) W3 := by rw [hW3]; exact start_any hc2 hgw hrow hbB hBw 4
    go_wp2_with fail
    rw [← hW3]
    clear hW3
    refine (pick_any b _ 6 _ hS3.cur (by omega)).mono ?_
    rintro e w4 ⟨y, rfl, hy, hc4, hg4⟩
    have hS4 := hS3.pick hc4 hg4
    have hy6 : (y : Int) ≤ 6 := by omega
    clear hS3 hc4 hg4 hy
    obtain ⟨⟨c0, c1, c2, c3, c4, c5⟩, ff⟩ := hS4.six
    dsimp only at c0 c1 c2 c3 c4 c5
    have f1 := ff 1
    have f2 := ff 2
    have f3 := ff 3
    have f4 := ff 4
    have f5 := ff 5
    clear ff
    obtain ⟨W5, hW5⟩ : ∃ W, W = w4.setCell ⟨w2.heap.size, 1, none⟩ (.int .i64 (1 + (y : Int))) := ⟨_, rfl⟩
    have hS5 : DSt w b B rv.ownBlock w2.heap.size rv L ⟨4, 1 + (y : Int), 0, ⟨#[]⟩, 0, 0⟩ (m + 2 + 2 + 2) W5 := by rw [hW5]; exact hS4.put 1 _ (hS4.six.no _)
    go_upto_region 11 with fail
    rw [← hW5]
    clear hW5 hS4
    clear c0 c1 c2 c3 c4 c5 f1 f2 f3 f4 f5
    have HLL : L.length ≤ 1000 := by omega
    obtain ⟨⟨c0, c1, c2, c3, c4, c5⟩, ff⟩ := hS5.six
    dsimp only at c0 c1 c2 c3 c4 c5
    have f1 := ff 1
    have f2 := ff 2
    have f3 := ff 3
    have f4 := ff 4
    have f5 := ff 5
    clear ff
    have hrow9 := hS5.row
    have hB9 : B ≤ W5.heap.size := Nat.le_trans hBw hS5.gr.size
    go_wp2_with (at_builtin; refine wpList_append_lies _ rfl _ _ 23 rfl B 66 i0 (.agg #[.int .i64 0, .int .i64 0, .int .i64 0, .string ⟨#[]⟩, .int .i64 0, .int .i64 0]) 6 56 Tryd.underlying23 hi hz0 hz1 hz2 rfl (by decide) _ (L).length _ rfl (World.ownsRow.alloc hrow9 _) ⟨W5.heap.size, 0, none⟩ 1 1 [.int .i64 4, .int .i64 (1 + (y : Int)), .int .i64 0, .string ⟨#[]⟩, .int .i64 0, .int .i64 0] rfl rfl (World.news_of_block (heap_alloc_new W5 _)) (one6W _ _ _ _ _ _) (by omega) (by unfold maxLen; omega) (by omega) (by simp; omega) (W5.heap.size + 1) (by simp) ?_)
    intro g9 cap9 w9 hown9 hgrow9 hat9 hlt9
    clear c0 c1 c2 c3 c4 c5 f1 f2 f3 f4 f5
    clear hrow9 hlt9
    go_wp2
    go_ret
    exact hS5.fin (M := []) (by simp) (by have := HSZ.out; simp; omega) (by simp) (by simp [ByteArray.size]) (by simpa [Wa.cells] using hown9) hgrow9 hat9 (by have := HST.out; omega)
  · skip
    obtain ⟨W3, hW3⟩ : ∃ W, W = w2.alloc (.cells #[.int .i64 5, .int .i64 0, .int .i64 0, .string ⟨#[]⟩, .int .i64 0, .int .i64 0] 66) := ⟨_, rfl⟩
    have hS3 : DSt w b B rv.ownBlock w2.heap.size rv L ⟨5, 0, 0, ⟨#[]⟩, 0, 0⟩ (m + 2 + 2) W3 := by rw [hW3]; exact start_any hc2 hgw hrow hbB hBw 5
    go_wp2_with fail
    rw [← hW3]
    clear hW3
    refine (pick_any b _ 6 _ hS3.cur (by omega)).mono ?_
    rintro e w4 ⟨y, rfl, hy, hc4, hg4⟩
    have hS4 := hS3.pick hc4 hg4
    have hy6 : (y : Int) ≤ 6 := by omega
    clear hS3 hc4 hg4 hy
    obtain ⟨⟨c0, c1, c2, c3, c4, c5⟩, ff⟩ := hS4.six
    dsimp only at c0 c1 c2 c3 c4 c5
    have f1 := ff 1
    have f2 := ff 2
    have f3 := ff 3
    have f4 := ff 4
    have f5 := ff 5
    clear ff
    obtain ⟨W5, hW5⟩ : ∃ W, W = w4.setCell ⟨w2.heap.size, 1, none⟩ (.int .i64 (1 + (y : Int))) := ⟨_, rfl⟩
    have hS5 : DSt w b B rv.ownBlock w2.heap.size rv L ⟨5, 1 + (y : Int), 0, ⟨#[]⟩, 0, 0⟩ (m + 2 + 2 + 2) W5 := by rw [hW5]; exact hS4.put 1 _ (hS4.six.no _)
    go_upto_region 14 with fail
    rw [← hW5]
    clear hW5 hS4
    clear c0 c1 c2 c3 c4 c5 f1 f2 f3 f4 f5
    obtain ⟨W6, hW6⟩ : ∃ W, W = W5.alloc (.cells #[.string ⟨#[]⟩, .string ⟨#[97]⟩, .string ⟨#[115, 111, 109, 101]⟩, .string ⟨#[120]⟩] 9) := ⟨_, rfl⟩
    obtain ⟨zs, hzs⟩ : ∃ zs, zs = four := ⟨_, rfl⟩
    have HZ : Hid (∀ i, i < 4 → W6.cell? ⟨W5.heap.size, i, none⟩ = some (.string (zs i))) := by rw [hW6, hzs]; exact four_cells W5 _
    have HZN : Hid (∀ i, (zs i).size ≤ 4) := by rw [hzs]; exact four_size
    have hS6 := hS5.alloc (.cells #[.string ⟨#[]⟩, .string ⟨#[97]⟩, .string ⟨#[115, 111, 109, 101]⟩, .string ⟨#[120]⟩] 9)
    rw [← hW6] at hS6
    have hne : Hid (W5.heap.size ≠ b) := by have := hS5.cur.lt; show _ ≠ _; omega
    clear hzs hS5
    go_wp2_with fail
    rw [← hW6]
    clear hW6
    refine (of_any b _ _ 4 4 zs _ hS6.cur (by omega) (by omega) (by omega) hne.out HZ.out).mono ?_
    rintro e w7 ⟨i, hi4, rfl, hc7, hg7⟩
    have hS7 := hS6.pick hc7 hg7
    clear hS6 hc7 hg7 HZ hne hi4
    have hfour := HZN.out i
    generalize zs i = tx at hfour
    obtain ⟨⟨c0, c1, c2, c3, c4, c5⟩, ff⟩ := hS7.six
    dsimp only at c0 c1 c2 c3 c4 c5
    have f1 := ff 1
    have f2 := ff 2
    have f3 := ff 3
    have f4 := ff 4
    have f5 := ff 5
    clear ff
    obtain ⟨W8, hW8⟩ : ∃ W, W = w7.setCell ⟨w2.heap.size, 3, none⟩ (.string tx) := ⟨_, rfl⟩
    have hS8 : DSt w b B rv.ownBlock w2.heap.size rv L ⟨5, 1 + (y : Int), 0, tx, 0, 0⟩ (m + 2 + 2 + 2 + 2) W8 := by rw [hW8]; exact hS7.put 3 _ (hS7.six.text _)
    go_upto_region 18 with fail
    rw [← hW8]
    clear hW8 hS7
    clear c0 c1 c2 c3 c4 c5 f1 f2 f3 f4 f5
    have HLL : L.length ≤ 1000 := by omega
    obtain ⟨⟨c0, c1, c2, c3, c4, c5⟩, ff⟩ := hS8.six
    dsimp only at c0 c1 c2 c3 c4 c5
    have f1 := ff 1
    have f2 := ff 2
    have f3 := ff 3
    have f4 := ff 4
    have f5 := ff 5
    clear ff
    have hrow9 := hS8.row
    have hB9 : B ≤ W8.heap.size := Nat.le_trans hBw hS8.gr.size
    go_wp2_with (at_builtin; refine wpList_append_lies _ rfl _ _ 23 rfl B 66 i0 (.agg #[.int .i64 0, .int .i64 0, .int .i64 0, .string ⟨#[]⟩, .int .i64 0, .int .i64 0]) 6 56 Tryd.underlying23 hi hz0 hz1 hz2 rfl (by decide) _ (L).length _ rfl (World.ownsRow.alloc hrow9 _) ⟨W8.heap.size, 0, none⟩ 1 1 [.int .i64 5, .int .i64 (1 + (y : Int)), .int .i64 0, .string tx, .int .i64 0, .int .i64 0] rfl rfl (World.news_of_block (heap_alloc_new W8 _)) (one6W _ _ _ _ _ _) (by omega) (by unfold maxLen; omega) (by omega) (by simp; omega) (W8.heap.size + 1) (by simp) ?_)
    intro g9 cap9 w9 hown9 hgrow9 hat9 hlt9
    clear c0 c1 c2 c3 c4 c5 f1 f2 f3 f4 f5
    clear hrow9 hlt9
    go_wp2
    go_ret
    exact hS8.fin (M := []) (by simp) (by have := HSZ.out; simp; omega) (by simp) hfour (by simpa [Wa.cells] using hown9) hgrow9 hat9 (by have := HST.out; omega)

set_option maxRecDepth 100000 in
set_option maxHeartbeats 8000000 in
theorem wants_succ (d : Nat) (ih0 : WantsOK d) : WantsOK (d + 1) := by
  intro z b m w L rv B hz hd hc hm hl hrow hbB hBw
  obtain ⟨i0, hi, hz0, hz1, hz2⟩ := info_parts infoWaD
  have HSZ : Hid (1 ≤ szW (d + 1)) := szW_pos _
  have HST : Hid (10 ≤ stW (d + 1)) := stW_ten _
  have hm9 : m + 10 ≤ 900000000 := by have := HST.out; omega
  have hl9 : L.length ≤ 999 := by have := HSZ.out; omega
  have IH : Hid (WantsOK d) := ih0
  have HS2 : Hid (szW (d + 1) = 2 * szW d + 1) := by show _ = _; rfl
  have HT2 : Hid (stW (d + 1) = 2 * stW d + 10) := by show _ = _; rfl
  have HM : Hid (m + stW (d + 1) ≤ 900000000) := hm
  have HL : Hid (L.length + szW (d + 1) ≤ 1000) := hl
  have HZ : Hid (z = ((d + 1 : Nat) : Int)) := hz
  have HD : Hid (d + 1 ≤ 1000) := hd
  have hz3 : 0 < z := by omega
  have hz4 : z ≤ 1000 := by omega
  have hzd : decide (z ≤ 0) = false := by simp; omega
  clear ih0 hz hd hm hl
  go_enter Tryd.func38, Tryd.ntmps38
  go_wp2_with fail
  refine (pick_any b m 8 _ hc (by omega)).mono ?_
  rintro e w1 ⟨x, rfl, hx, hc1, hg1⟩
  have hx8 : x < 8 := by omega
  clear hx hc
  have hgw := hg1
  have hx5 : x = 0 ∨ x = 1 ∨ x = 2 ∨ x = 3 ∨ x = 4 ∨ x = 5 ∨ x = 6 ∨ x = 7 := by omega
  clear hx8 hg1
  rcases hx5 with rfl | rfl | rfl | rfl | rfl | rfl | rfl | rfl
  · skip
    obtain ⟨W3, hW3⟩ : ∃ W, W = w1.alloc (.cells #[.int .i64 1, .int .i64 0, .int .i64 0, .string ⟨#[]⟩, .int .i64 0, .int .i64 0] 66) := ⟨_, rfl⟩
    have hS3 : DSt w b B rv.ownBlock w1.heap.size rv L ⟨1, 0, 0, ⟨#[]⟩, 0, 0⟩ (m + 2) W3 := by rw [hW3]; exact start_any hc1 hgw hrow hbB hBw 1
    go_wp2_with fail
    rw [← hW3]
    clear hW3
    refine (pick_any b _ 6 _ hS3.cur (by omega)).mono ?_
    rintro e w4 ⟨y, rfl, hy, hc4, hg4⟩
    have hS4 := hS3.pick hc4 hg4
    have hy6 : (y : Int) ≤ 6 := by omega
    clear hS3 hc4 hg4 hy
    obtain ⟨⟨c0, c1, c2, c3, c4, c5⟩, ff⟩ := hS4.six
    dsimp only at c0 c1 c2 c3 c4 c5
    have f1 := ff 1
    have f2 := ff 2
    have f3 := ff 3
    have f4 := ff 4
    have f5 := ff 5
    clear ff
    obtain ⟨W5, hW5⟩ : ∃ W, W = w4.setCell ⟨w1.heap.size, 1, none⟩ (.int .i64 (1 + (y : Int))) := ⟨_, rfl⟩
    have hS5 : DSt w b B rv.ownBlock w1.heap.size rv L ⟨1, 1 + (y : Int), 0, ⟨#[]⟩, 0, 0⟩ (m + 2 + 2) W5 := by rw [hW5]; exact hS4.put 1 _ (hS4.six.no _)
    go_wp2_with fail
    rw [← hW5]
    clear hW5 hS4
    clear c0 c1 c2 c3 c4 c5 f1 f2 f3 f4 f5
    refine (pick_any b _ 12 _ hS5.cur (by omega)).mono ?_
    rintro e w6 ⟨u, rfl, hu, hc6, hg6⟩
    have hS6 := hS5.pick hc6 hg6
    have hu6 : (u : Int) ≤ 12 := by omega
    clear hS5 hc6 hg6 hu
    obtain ⟨⟨c0, c1, c2, c3, c4, c5⟩, ff⟩ := hS6.six
    dsimp only at c0 c1 c2 c3 c4 c5
    have f1 := ff 1
    have f2 := ff 2
    have f3 := ff 3
    have f4 := ff 4
    have f5 := ff 5
    clear ff
    obtain ⟨W7, hW7⟩ : ∃ W, W = w6.setCell ⟨w1.heap.size, 2, none⟩ (.int .i64 ((u : Int) - 4)) := ⟨_, rfl⟩
    have hS7 : DSt w b B rv.ownBlock w1.heap.size rv L ⟨1, 1 + (y : Int), (u : Int) - 4, ⟨#[]⟩, 0, 0⟩ (m + 2 + 2 + 2) W7 := by rw [hW7]; exact hS6.put 2 _ (hS6.six.num _)
    go_upto_region 13 with fail
    rw [← hW7]
    clear hW7 hS6
    clear c0 c1 c2 c3 c4 c5 f1 f2 f3 f4 f5
    have HLL : L.length ≤ 1000 := by omega
    obtain ⟨⟨c0, c1, c2, c3, c4, c5⟩, ff⟩ := hS7.six
    dsimp only at c0 c1 c2 c3 c4 c5
    have f1 := ff 1
    have f2 := ff 2
    have f3 := ff 3
    have f4 := ff 4
    have f5 := ff 5
    clear ff
    have hrow9 := hS7.row
    have hB9 : B ≤ W7.heap.size := Nat.le_trans hBw hS7.gr.size
    go_wp2_with (at_builtin; refine wpList_append_lies _ rfl _ _ 23 rfl B 66 i0 (.agg #[.int .i64 0, .int .i64 0, .int .i64 0, .string ⟨#[]⟩, .int .i64 0, .int .i64 0]) 6 56 Tryd.underlying23 hi hz0 hz1 hz2 rfl (by decide) _ (L).length _ rfl (World.ownsRow.alloc hrow9 _) ⟨W7.heap.size, 0, none⟩ 1 1 [.int .i64 1, .int .i64 (1 + (y : Int)), .int .i64 ((u : Int) - 4), .string ⟨#[]⟩, .int .i64 0, .int .i64 0] rfl rfl (World.news_of_block (heap_alloc_new W7 _)) (one6W _ _ _ _ _ _) (by omega) (by unfold maxLen; omega) (by omega) (by simp; omega) (W7.heap.size + 1) (by simp) ?_)
    intro g9 cap9 w9 hown9 hgrow9 hat9 hlt9
    clear c0 c1 c2 c3 c4 c5 f1 f2 f3 f4 f5
    clear hrow9 hlt9
    go_wp2
    go_ret
    exact hS7.fin (M := []) (by simp) (by have := HSZ.out; simp; omega) (by simp) (by simp [ByteArray.size]) (by simpa [Wa.cells] using hown9) hgrow9 hat9 (by have := HST.out; omega)
  · skip
    obtain ⟨W3, hW3⟩ : ∃ W, W = w1.alloc (.cells #[.int .i64 2, .int .i64 0, .int .i64 0, .string ⟨#[]⟩, .int .i64 0, .int .i64 0] 66) := ⟨_, rfl⟩
    have hS3 : DSt w b B rv.ownBlock w1.heap.size rv L ⟨2, 0, 0, ⟨#[]⟩, 0, 0⟩ (m + 2) W3 := by rw [hW3]; exact start_any hc1 hgw hrow hbB hBw 2
    go_wp2_with fail
    rw [← hW3]
    clear hW3
    refine (pick_any b _ 6 _ hS3.cur (by omega)).mono ?_
    rintro e w4 ⟨y, rfl, hy, hc4, hg4⟩
    have hS4 := hS3.pick hc4 hg4
    have hy6 : (y : Int) ≤ 6 := by omega
    clear hS3 hc4 hg4 hy
    obtain ⟨⟨c0, c1, c2, c3, c4, c5⟩, ff⟩ := hS4.six
    dsimp only at c0 c1 c2 c3 c4 c5
    have f1 := ff 1
    have f2 := ff 2
    have f3 := ff 3
    have f4 := ff 4
    have f5 := ff 5
    clear ff
    obtain ⟨W5, hW5⟩ : ∃ W, W = w4.setCell ⟨w1.heap.size, 1, none⟩ (.int .i64 (1 + (y : Int))) := ⟨_, rfl⟩
    have hS5 : DSt w b B rv.ownBlock w1.heap.size rv L ⟨2, 1 + (y : Int), 0, ⟨#[]⟩, 0, 0⟩ (m + 2 + 2) W5 := by rw [hW5]; exact hS4.put 1 _ (hS4.six.no _)
    go_wp2_with fail
    rw [← hW5]
    clear hW5 hS4
    clear c0 c1 c2 c3 c4 c5 f1 f2 f3 f4 f5
    refine (pick_any b _ 12 _ hS5.cur (by omega)).mono ?_
    rintro e w6 ⟨u, rfl, hu, hc6, hg6⟩
    have hS6 := hS5.pick hc6 hg6
    have hu6 : (u : Int) ≤ 12 := by omega
    clear hS5 hc6 hg6 hu
    obtain ⟨⟨c0, c1, c2, c3, c4, c5⟩, ff⟩ := hS6.six
    dsimp only at c0 c1 c2 c3 c4 c5
    have f1 := ff 1
    have f2 := ff 2
    have f3 := ff 3
    have f4 := ff 4
    have f5 := ff 5
    clear ff
    obtain ⟨W7, hW7⟩ : ∃ W, W = w6.setCell ⟨w1.heap.size, 2, none⟩ (.int .i64 ((u : Int) - 4)) := ⟨_, rfl⟩
    have hS7 : DSt w b B rv.ownBlock w1.heap.size rv L ⟨2, 1 + (y : Int), (u : Int) - 4, ⟨#[]⟩, 0, 0⟩ (m + 2 + 2 + 2) W7 := by rw [hW7]; exact hS6.put 2 _ (hS6.six.num _)
    go_upto_region 13 with fail
    rw [← hW7]
    clear hW7 hS6
    clear c0 c1 c2 c3 c4 c5 f1 f2 f3 f4 f5
    have HLL : L.length ≤ 1000 := by omega
    obtain ⟨⟨c0, c1, c2, c3, c4, c5⟩, ff⟩ := hS7.six
    dsimp only at c0 c1 c2 c3 c4 c5
    have f1 := ff 1
    have f2 := ff 2
    have f3 := ff 3
    have f4 := ff 4
    have f5 := ff 5
    clear ff
    have hrow9 := hS7.row
    have hB9 : B ≤ W7.heap.size := Nat.le_trans hBw hS7.gr.size
    go_wp2_with (at_builtin; refine wpList_append_lies _ rfl _ _ 23 rfl B 66 i0 (.agg #[.int .i64 0, .int .i64 0, .int .i64 0, .string ⟨#[]⟩, .int .i64 0, .int .i64 0]) 6 56 Tryd.underlying23 hi hz0 hz1 hz2 rfl (by decide) _ (L).length _ rfl (World.ownsRow.alloc hrow9 _) ⟨W7.heap.size, 0, none⟩ 1 1 [.int .i64 2, .int .i64 (1 + (y : Int)), .int .i64 ((u : Int) - 4), .string ⟨#[]⟩, .int .i64 0, .int .i64 0] rfl rfl (World.news_of_block (heap_alloc_new W7 _)) (one6W _ _ _ _ _ _) (by omega) (by unfold maxLen; omega) (by omega) (by simp; omega) (W7.heap.size + 1) (by simp) ?_)
    intro g9 cap9 w9 hown9 hgrow9 hat9 hlt9
    clear c0 c1 c2 c3 c4 c5 f1 f2 f3 f4 f5
    clear hrow9 hlt9
    go_wp2
    go_ret
    exact hS7.fin (M := []) (by simp) (by have := HSZ.out; simp; omega) (by simp) (by simp [ByteArray.size]) (by simpa [Wa.cells] using hown9) hgrow9 hat9 (by have := HST.out; omega)
  · skip
    obtain ⟨W3, hW3⟩ : ∃ W, W = w1.alloc (.cells #[.int .i64 3, .int .i64 0, .int .i64 0, .string ⟨#[]⟩, .int .i64 0, .int .i64 0] 66) := ⟨_, rfl⟩
    have hS3 : DSt w b B rv.ownBlock w1.heap.size rv L ⟨3, 0, 0, ⟨#[]⟩, 0, 0⟩ (m + 2) W3 := by rw [hW3]; exact start_any hc1 hgw hrow hbB hBw 3
    go_wp2_with fail
    rw [← hW3]
    clear hW3
    refine (pick_any b _ 6 _ hS3.cur (by omega)).mono ?_
    rintro e w4 ⟨y, rfl, hy, hc4, hg4⟩
    have hS4 := hS3.pick hc4 hg4
    have hy6 : (y : Int) ≤ 6 := by omega
    clear hS3 hc4 hg4 hy
    obtain ⟨⟨c0, c1, c2, c3, c4, c5⟩, ff⟩ := hS4.six
    dsimp only at c0 c1 c2 c3 c4 c5
    have f1 := ff 1
    have f2 := ff 2
    have f3 := ff 3
    have f4 := ff 4
    have f5 := ff 5
    clear ff
    obtain ⟨W5, hW5⟩ : ∃ W, W = w4.setCell ⟨w1.heap.size, 1, none⟩ (.int .i64 (1 + (y : Int))) := ⟨_, rfl⟩
    have hS5 : DSt w b B rv.ownBlock w1.heap.size rv L ⟨3, 1 + (y : Int), 0, ⟨#[]⟩, 0, 0⟩ (m + 2 + 2) W5 := by rw [hW5]; exact hS4.put 1 _ (hS4.six.no _)
    go_wp2_with fail
    rw [← hW5]
    clear hW5 hS4
    clear c0 c1 c2 c3 c4 c5 f1 f2 f3 f4 f5
    refine (pick_any b _ 12 _ hS5.cur (by omega)).mono ?_
    rintro e w6 ⟨u, rfl, hu, hc6, hg6⟩
    have hS6 := hS5.pick hc6 hg6
    have hu6 : (u : Int) ≤ 12 := by omega
    clear hS5 hc6 hg6 hu
    obtain ⟨⟨c0, c1, c2, c3, c4, c5⟩, ff⟩ := hS6.six
    dsimp only at c0 c1 c2 c3 c4 c5
    have f1 := ff 1
    have f2 := ff 2
    have f3 := ff 3
    have f4 := ff 4
    have f5 := ff 5
    clear ff
    obtain ⟨W7, hW7⟩ : ∃ W, W = w6.setCell ⟨w1.heap.size, 2, none⟩ (.int .i64 ((u : Int) - 4)) := ⟨_, rfl⟩
    have hS7 : DSt w b B rv.ownBlock w1.heap.size rv L ⟨3, 1 + (y : Int), (u : Int) - 4, ⟨#[]⟩, 0, 0⟩ (m + 2 + 2 + 2) W7 := by rw [hW7]; exact hS6.put 2 _ (hS6.six.num _)
    go_upto_region 13 with fail
    rw [← hW7]
    clear hW7 hS6
    clear c0 c1 c2 c3 c4 c5 f1 f2 f3 f4 f5
    have HLL : L.length ≤ 1000 := by omega
    obtain ⟨⟨c0, c1, c2, c3, c4, c5⟩, ff⟩ := hS7.six
    dsimp only at c0 c1 c2 c3 c4 c5
    have f1 := ff 1
    have f2 := ff 2
    have f3 := ff 3
    have f4 := ff 4
    have f5 := ff 5
    clear ff
    have hrow9 := hS7.row
    have hB9 : B ≤ W7.heap.size := Nat.le_trans hBw hS7.gr.size
    go_wp2_with (at_builtin; refine wpList_append_lies _ rfl _ _ 23 rfl B 66 i0 (.agg #[.int .i64 0, .int .i64 0, .int .i64 0, .string ⟨#[]⟩, .int .i64 0, .int .i64 0]) 6 56 Tryd.underlying23 hi hz0 hz1 hz2 rfl (by decide) _ (L).length _ rfl (World.ownsRow.alloc hrow9 _) ⟨W7.heap.size, 0, none⟩ 1 1 [.int .i64 3, .int .i64 (1 + (y : Int)), .int .i64 ((u : Int) - 4), .string ⟨#[]⟩, .int .i64 0, .int .i64 0] rfl rfl (World.news_of_block (heap_alloc_new W7 _)) (one6W _ _ _ _ _ _) (by omega) (by unfold maxLen; omega) (by omega) (by simp; omega) (W7.heap.size + 1) (by simp) ?_)
    intro g9 cap9 w9 hown9 hgrow9 hat9 hlt9
    clear c0 c1 c2 c3 c4 c5 f1 f2 f3 f4 f5
    clear hrow9 hlt9
    go_wp2
    go_ret
    exact hS7.fin (M := []) (by simp) (by have := HSZ.out; simp; omega) (by simp) (by simp [ByteArray.size]) (by simpa [Wa.cells] using hown9) hgrow9 hat9 (by have := HST.out; omega)
  · skip
    obtain ⟨W3, hW3⟩ : ∃ W, W = w1.alloc (.cells #[.int .i64 4, .int .i64 0, .int .i64 0, .string ⟨#[]⟩, .int .i64 0, .int .i64 0] 66) := ⟨_, rfl⟩
    have hS3 : DSt w b B rv.ownBlock w1.heap.size rv L ⟨4, 0, 0, ⟨#[]⟩, 0, 0⟩ (m + 2) W3 := by rw [hW3]; exact start_any hc1 hgw hrow hbB hBw 4
    go_wp2_with fail
    rw [← hW3]
    clear hW3
    refine (pick_any b _ 6 _ hS3.cur (by omega)).mono ?_
    rintro e w4 ⟨y, rfl, hy, hc4, hg4⟩
    have hS4 := hS3.pick hc4 hg4
    have hy6 : (y : Int) ≤ 6 := by omega
    clear hS3 hc4 hg4 hy
    obtain ⟨⟨c0, c1, c2, c3, c4, c5⟩, ff⟩ := hS4.six
    dsimp only at c0 c1 c2 c3 c4 c5
    have f1 := ff 1
    have f2 := ff 2
    have f3 := ff 3
    have f4 := ff 4
    have f5 := ff 5
    clear ff
    obtain ⟨W5, hW5⟩ : ∃ W, W = w4.setCell ⟨w1.heap.size, 1, none⟩ (.int .i64 (1 + (y : Int))) := ⟨_, rfl⟩
    have hS5 : DSt w b B rv.ownBlock w1.heap.size rv L ⟨4, 1 + (y : Int), 0, ⟨#[]⟩, 0, 0⟩ (m + 2 + 2) W5 := by rw [hW5]; exact hS4.put 1 _ (hS4.six.no _)
    go_upto_region 11 with fail
    rw [← hW5]
    clear hW5 hS4
    clear c0 c1 c2 c3 c4 c5 f1 f2 f3 f4 f5
    have HLL : L.length ≤ 1000 := by omega
    obtain ⟨⟨c0, c1, c2, c3, c4, c5⟩, ff⟩ := hS5.six
    dsimp only at c0 c1 c2 c3 c4 c5
    have f1 := ff 1
    have f2 := ff 2
    have f3 := ff 3
    have f4 := ff 4
    have f5 := ff 5
    clear ff
    have hrow9 := hS5.row
    have hB9 : B ≤ W5.heap.size := Nat.le_trans hBw hS5.gr.size
    go_wp2_with (at_builtin; refine wpList_append_lies _ rfl _ _ 23 rfl B 66 i0 (.agg #[.int .i64 0, .int .i64 0, .int .i64 0, .string ⟨#[]⟩, .int .i64 0, .int .i64 0]) 6 56 Tryd.underlying23 hi hz0 hz1 hz2 rfl (by decide) _ (L).length _ rfl (World.ownsRow.alloc hrow9 _) ⟨W5.heap.size, 0, none⟩ 1 1 [.int .i64 4, .int .i64 (1 + (y : Int)), .int .i64 0, .string ⟨#[]⟩, .int .i64 0, .int .i64 0] rfl rfl (World.news_of_block (heap_alloc_new W5 _)) (one6W _ _ _ _ _ _) (by omega) (by unfold maxLen; omega) (by omega) (by simp; omega) (W5.heap.size + 1) (by simp) ?_)
    intro g9 cap9 w9 hown9 hgrow9 hat9 hlt9
    clear c0 c1 c2 c3 c4 c5 f1 f2 f3 f4 f5
    clear hrow9 hlt9
    go_wp2
    go_ret
    exact hS5.fin (M := []) (by simp) (by have := HSZ.out; simp; omega) (by simp) (by simp [ByteArray.size]) (by simpa [Wa.cells] using hown9) hgrow9 hat9 (by have := HST.out; omega)
  · skip
    obtain ⟨W3, hW3⟩ : ∃ W, W = w1.alloc (.cells #[.int .i64 5, .int .i64 0, .int .i64 0, .string ⟨#[]⟩, .int .i64 0, .int .i64 0] 66) := ⟨_, rfl⟩
    have hS3 : DSt w b B rv.ownBlock w1.heap.size rv L ⟨5, 0, 0, ⟨#[]⟩, 0, 0⟩ (m + 2) W3 := by rw [hW3]; exact start_any hc1 hgw hrow hbB hBw 5
    go_wp2_with fail
    rw [← hW3]
    clear hW3
    refine (pick_any b _ 6 _ hS3.cur (by omega)).mono ?_
    rintro e w4 ⟨y, rfl, hy, hc4, hg4⟩
    have hS4 := hS3.pick hc4 hg4
    have hy6 : (y : Int) ≤ 6 := by omega
    clear hS3 hc4 hg4 hy
    obtain ⟨⟨c0, c1, c2, c3, c4, c5⟩, ff⟩ := hS4.six
    dsimp only at c0 c1 c2 c3 c4 c5
    have f1 := ff 1
    have f2 := ff 2
    have f3 := ff 3
    have f4 := ff 4
    have f5 := ff 5
    clear ff
    obtain ⟨W5, hW5⟩ : ∃ W, W = w4.setCell ⟨w1.heap.size, 1, none⟩ (.int .i64 (1 + (y : Int))) := ⟨_, rfl⟩
    have hS5 : DSt w b B rv.ownBlock w1.heap.size rv L ⟨5, 1 + (y : Int), 0, ⟨#[]⟩, 0, 0⟩ (m + 2 + 2) W5 := by rw [hW5]; exact hS4.put 1 _ (hS4.six.no _)
    go_upto_region 14 with fail
    rw [← hW5]
    clear hW5 hS4
    clear c0 c1 c2 c3 c4 c5 f1 f2 f3 f4 f5
    obtain ⟨W6, hW6⟩ : ∃ W, W = W5.alloc (.cells #[.string ⟨#[]⟩, .string ⟨#[97]⟩, .string ⟨#[115, 111, 109, 101]⟩, .string ⟨#[120]⟩] 9) := ⟨_, rfl⟩
    obtain ⟨zs, hzs⟩ : ∃ zs, zs = four := ⟨_, rfl⟩
    have HZ : Hid (∀ i, i < 4 → W6.cell? ⟨W5.heap.size, i, none⟩ = some (.string (zs i))) := by rw [hW6, hzs]; exact four_cells W5 _
    have HZN : Hid (∀ i, (zs i).size ≤ 4) := by rw [hzs]; exact four_size
    have hS6 := hS5.alloc (.cells #[.string ⟨#[]⟩, .string ⟨#[97]⟩, .string ⟨#[115, 111, 109, 101]⟩, .string ⟨#[120]⟩] 9)
    rw [← hW6] at hS6
    have hne : Hid (W5.heap.size ≠ b) := by have := hS5.cur.lt; show _ ≠ _; omega
    clear hzs hS5
    go_wp2_with fail
    rw [← hW6]
    clear hW6
    refine (of_any b _ _ 4 4 zs _ hS6.cur (by omega) (by omega) (by omega) hne.out HZ.out).mono ?_
    rintro e w7 ⟨i, hi4, rfl, hc7, hg7⟩
    have hS7 := hS6.pick hc7 hg7
    clear hS6 hc7 hg7 HZ hne hi4
    have hfour := HZN.out i
    generalize zs i = tx at hfour
    obtain ⟨⟨c0, c1, c2, c3, c4, c5⟩, ff⟩ := hS7.six
    dsimp only at c0 c1 c2 c3 c4 c5
    have f1 := ff 1
    have f2 := ff 2
    have f3 := ff 3
    have f4 := ff 4
    have f5 := ff 5
    clear ff
    obtain ⟨W8, hW8⟩ : ∃ W, W = w7.setCell ⟨w1.heap.size, 3, none⟩ (.string tx) := ⟨_, rfl⟩
    have hS8 : DSt w b B rv.ownBlock w1.heap.size rv L ⟨5, 1 + (y : Int), 0, tx, 0, 0⟩ (m + 2 + 2 + 2) W8 := by rw [hW8]; exact hS7.put 3 _ (hS7.six.text _)
    go_upto_region 18 with fail
    rw [← hW8]
    clear hW8 hS7
    clear c0 c1 c2 c3 c4 c5 f1 f2 f3 f4 f5
    have HLL : L.length ≤ 1000 := by omega
    obtain ⟨⟨c0, c1, c2, c3, c4, c5⟩, ff⟩ := hS8.six
    dsimp only at c0 c1 c2 c3 c4 c5
    have f1 := ff 1
    have f2 := ff 2
    have f3 := ff 3
    have f4 := ff 4
    have f5 := ff 5
    clear ff
    have hrow9 := hS8.row
    have hB9 : B ≤ W8.heap.size := Nat.le_trans hBw hS8.gr.size
    go_wp2_with (at_builtin; refine wpList_append_lies _ rfl _ _ 23 rfl B 66 i0 (.agg #[.int .i64 0, .int .i64 0, .int .i64 0, .string ⟨#[]⟩, .int .i64 0, .int .i64 0]) 6 56 Tryd.underlying23 hi hz0 hz1 hz2 rfl (by decide) _ (L).length _ rfl (World.ownsRow.alloc hrow9 _) ⟨W8.heap.size, 0, none⟩ 1 1 [.int .i64 5, .int .i64 (1 + (y : Int)), .int .i64 0, .string tx, .int .i64 0, .int .i64 0] rfl rfl (World.news_of_block (heap_alloc_new W8 _)) (one6W _ _ _ _ _ _) (by omega) (by unfold maxLen; omega) (by omega) (by simp; omega) (W8.heap.size + 1) (by simp) ?_)
    intro g9 cap9 w9 hown9 hgrow9 hat9 hlt9
    clear c0 c1 c2 c3 c4 c5 f1 f2 f3 f4 f5
    clear hrow9 hlt9
    go_wp2
    go_ret
    exact hS8.fin (M := []) (by simp) (by have := HSZ.out; simp; omega) (by simp) hfour (by simpa [Wa.cells] using hown9) hgrow9 hat9 (by have := HST.out; omega)
  · skip
    obtain ⟨W3, hW3⟩ : ∃ W, W = w1.alloc (.cells #[.int .i64 6, .int .i64 0, .int .i64 0, .string ⟨#[]⟩, .int .i64 0, .int .i64 0] 66) := ⟨_, rfl⟩
    have hS3 : DSt w b B rv.ownBlock w1.heap.size rv L ⟨6, 0, 0, ⟨#[]⟩, 0, 0⟩ (m + 2) W3 := by rw [hW3]; exact start_any hc1 hgw hrow hbB hBw 6
    go_wp2_with fail
    rw [← hW3]
    clear hW3
    refine (IH.out (z - 1) b _ _ (L) rv B (by have := HZ.out; omega) (by have := HD.out; omega) hS3.cur (by have := HM.out; have := HT2.out; omega) (by have := HL.out; have := HS2.out; omega) hS3.row hbB (Nat.le_trans hBw hS3.gr.size)).mono ?_
    rintro e w4 ⟨M4, rv4, rfl, hr4, hp4, hq4, ht4, hc4, hg4, hb4⟩
    have hS4 := hS3.deep hr4 hc4 hg4 hb4
    have hn4 : M4.length ≤ 1000 := by have := HL.out; have := HS2.out; omega
    obtain ⟨ao4, cap4, hrv4⟩ := hr4.slice
    subst hrv4
    clear hS3 hg4 hb4 hr4 hc4
    obtain ⟨⟨c0, c1, c2, c3, c4, c5⟩, ff⟩ := hS4.six
    dsimp only at c0 c1 c2 c3 c4 c5
    have f1 := ff 1
    have f2 := ff 2
    have f3 := ff 3
    have f4 := ff 4
    have f5 := ff 5
    clear ff
    have hLL4 : (L ++ M4).length ≤ 1000 := by have := HL.out; have := HS2.out; simp only [List.length_append]; omega
    obtain ⟨n4, hn4e⟩ : ∃ n, n = (L ++ M4).length := ⟨_, rfl⟩
    rw [← hn4e]
    rw [← hn4e] at hLL4
    have HN4 : Hid (n4 = (L ++ M4).length) := hn4e
    obtain ⟨W5, hW5⟩ : ∃ W, W = w4.setCell ⟨w1.heap.size, 4, none⟩ (.int .i64 ((n4 : Int) - 1)) := ⟨_, rfl⟩
    have hS5 := hS4.put 4 (.int .i64 ((n4 : Int) - 1)) (hS4.six.seta _)
    rw [← hW5] at hS5
    dsimp only at hS5
    clear hn4e
    go_wp2_with fail
    rw [← hW5]
    clear hW5 hS4
    clear c0 c1 c2 c3 c4 c5 f1 f2 f3 f4 f5
    rw [HN4.out]
    refine (IH.out (z - 1) b _ _ (L ++ M4) (.slice ao4 (L ++ M4).length cap4) B (by have := HZ.out; omega) (by have := HD.out; omega) hS5.cur (by have := HM.out; have := HT2.out; omega) (by have := HL.out; have := HS2.out; simp only [List.length_append]; omega) hS5.row hbB (Nat.le_trans hBw hS5.gr.size)).mono ?_
    rintro e w6 ⟨M6, rv6, rfl, hr6, hp6, hq6, ht6, hc6, hg6, hb6⟩
    have hS6 := hS5.deep hr6 hc6 hg6 hb6
    have hn6 : M6.length ≤ 1000 := by have := HL.out; have := HS2.out; omega
    obtain ⟨ao6, cap6, hrv6⟩ := hr6.slice
    subst hrv6
    clear hS5 hg6 hb6 hr6 hc6
    obtain ⟨⟨c0, c1, c2, c3, c4, c5⟩, ff⟩ := hS6.six
    dsimp only at c0 c1 c2 c3 c4 c5
    have f1 := ff 1
    have f2 := ff 2
    have f3 := ff 3
    have f4 := ff 4
    have f5 := ff 5
    clear ff
    have hLL6 : (L ++ M4 ++ M6).length ≤ 1000 := by have := HL.out; have := HS2.out; simp only [List.length_append]; omega
    obtain ⟨n6, hn6e⟩ : ∃ n, n = (L ++ M4 ++ M6).length := ⟨_, rfl⟩
    rw [← hn6e]
    rw [← hn6e] at hLL6
    have HN6 : Hid (n6 = (L ++ M4 ++ M6).length) := hn6e
    obtain ⟨W7, hW7⟩ : ∃ W, W = w6.setCell ⟨w1.heap.size, 5, none⟩ (.int .i64 ((n6 : Int) - 1)) := ⟨_, rfl⟩
    have hS7 := hS6.put 5 (.int .i64 ((n6 : Int) - 1)) (hS6.six.setb _)
    rw [← hW7] at hS7
    dsimp only at hS7
    clear hn6e
    go_upto_region 18 with fail
    rw [← hW7]
    clear hW7 hS6
    clear c0 c1 c2 c3 c4 c5 f1 f2 f3 f4 f5
    have hrw : n6 = (L ++ M4 ++ M6).length := HN6.out
    obtain ⟨LL, hLLe⟩ : ∃ LL, LL = L ++ M4 ++ M6 := ⟨_, rfl⟩
    rw [← hLLe] at hS7 hrw
    have HLE : Hid (LL = L ++ M4 ++ M6) := hLLe
    subst hrw
    clear hLLe
    obtain ⟨⟨c0, c1, c2, c3, c4, c5⟩, ff⟩ := hS7.six
    dsimp only at c0 c1 c2 c3 c4 c5
    have f1 := ff 1
    have f2 := ff 2
    have f3 := ff 3
    have f4 := ff 4
    have f5 := ff 5
    clear ff
    have hrow9 := hS7.row
    have hB9 : B ≤ W7.heap.size := Nat.le_trans hBw hS7.gr.size
    go_wp2_with (at_builtin; refine wpList_append_lies _ rfl _ _ 23 rfl B 66 i0 (.agg #[.int .i64 0, .int .i64 0, .int .i64 0, .string ⟨#[]⟩, .int .i64 0, .int .i64 0]) 6 56 Tryd.underlying23 hi hz0 hz1 hz2 rfl (by decide) _ (LL).length _ rfl (World.ownsRow.alloc hrow9 _) ⟨W7.heap.size, 0, none⟩ 1 1 [.int .i64 6, .int .i64 0, .int .i64 0, .string ⟨#[]⟩, .int .i64 ((n4 : Int) - 1), .int .i64 ((LL.length : Int) - 1)] rfl rfl (World.news_of_block (heap_alloc_new W7 _)) (one6W _ _ _ _ _ _) (by omega) (by unfold maxLen; omega) (by omega) (by simp; omega) (W7.heap.size + 1) (by simp) ?_)
    intro g9 cap9 w9 hown9 hgrow9 hat9 hlt9
    clear c0 c1 c2 c3 c4 c5 f1 f2 f3 f4 f5
    clear hrow9 hlt9
    go_wp2
    go_ret
    exact hS7.fin (M := M4 ++ M6) (by rw [HLE.out, List.append_assoc]) (by have := HS2.out; rw [List.length_append]; omega) (fun x hx => (List.mem_append.1 hx).elim (ht4 x) (ht6 x)) (by simp [ByteArray.size]) (by simpa [Wa.cells] using hown9) hgrow9 hat9 (by have := HT2.out; omega)
  · skip
    obtain ⟨W3, hW3⟩ : ∃ W, W = w1.alloc (.cells #[.int .i64 7, .int .i64 0, .int .i64 0, .string ⟨#[]⟩, .int .i64 0, .int .i64 0] 66) := ⟨_, rfl⟩
    have hS3 : DSt w b B rv.ownBlock w1.heap.size rv L ⟨7, 0, 0, ⟨#[]⟩, 0, 0⟩ (m + 2) W3 := by rw [hW3]; exact start_any hc1 hgw hrow hbB hBw 7
    go_wp2_with fail
    rw [← hW3]
    clear hW3
    refine (IH.out (z - 1) b _ _ (L) rv B (by have := HZ.out; omega) (by have := HD.out; omega) hS3.cur (by have := HM.out; have := HT2.out; omega) (by have := HL.out; have := HS2.out; omega) hS3.row hbB (Nat.le_trans hBw hS3.gr.size)).mono ?_
    rintro e w4 ⟨M4, rv4, rfl, hr4, hp4, hq4, ht4, hc4, hg4, hb4⟩
    have hS4 := hS3.deep hr4 hc4 hg4 hb4
    have hn4 : M4.length ≤ 1000 := by have := HL.out; have := HS2.out; omega
    obtain ⟨ao4, cap4, hrv4⟩ := hr4.slice
    subst hrv4
    clear hS3 hg4 hb4 hr4 hc4
    obtain ⟨⟨c0, c1, c2, c3, c4, c5⟩, ff⟩ := hS4.six
    dsimp only at c0 c1 c2 c3 c4 c5
    have f1 := ff 1
    have f2 := ff 2
    have f3 := ff 3
    have f4 := ff 4
    have f5 := ff 5
    clear ff
    have hLL4 : (L ++ M4).length ≤ 1000 := by have := HL.out; have := HS2.out; simp only [List.length_append]; omega
    obtain ⟨n4, hn4e⟩ : ∃ n, n = (L ++ M4).length := ⟨_, rfl⟩
    rw [← hn4e]
    rw [← hn4e] at hLL4
    have HN4 : Hid (n4 = (L ++ M4).length) := hn4e
    obtain ⟨W5, hW5⟩ : ∃ W, W = w4.setCell ⟨w1.heap.size, 4, none⟩ (.int .i64 ((n4 : Int) - 1)) := ⟨_, rfl⟩
    have hS5 := hS4.put 4 (.int .i64 ((n4 : Int) - 1)) (hS4.six.seta _)
    rw [← hW5] at hS5
    dsimp only at hS5
    clear hn4e
    go_wp2_with fail
    rw [← hW5]
    clear hW5 hS4
    clear c0 c1 c2 c3 c4 c5 f1 f2 f3 f4 f5
    rw [HN4.out]
    refine (IH.out (z - 1) b _ _ (L ++ M4) (.slice ao4 (L ++ M4).length cap4) B (by have := HZ.out; omega) (by have := HD.out; omega) hS5.cur (by have := HM.out; have := HT2.out; omega) (by have := HL.out; have := HS2.out; simp only [List.length_append]; omega) hS5.row hbB (Nat.le_trans hBw hS5.gr.size)).mono ?_
    rintro e w6 ⟨M6, rv6, rfl, hr6, hp6, hq6, ht6, hc6, hg6, hb6⟩
    have hS6 := hS5.deep hr6 hc6 hg6 hb6
    have hn6 : M6.length ≤ 1000 := by have := HL.out; have := HS2.out; omega
    obtain ⟨ao6, cap6, hrv6⟩ := hr6.slice
    subst hrv6
    clear hS5 hg6 hb6 hr6 hc6
    obtain ⟨⟨c0, c1, c2, c3, c4, c5⟩, ff⟩ := hS6.six
    dsimp only at c0 c1 c2 c3 c4 c5
    have f1 := ff 1
    have f2 := ff 2
    have f3 := ff 3
    have f4 := ff 4
    have f5 := ff 5
    clear ff
    have hLL6 : (L ++ M4 ++ M6).length ≤ 1000 := by have := HL.out; have := HS2.out; simp only [List.length_append]; omega
    obtain ⟨n6, hn6e⟩ : ∃ n, n = (L ++ M4 ++ M6).length := ⟨_, rfl⟩
    rw [← hn6e]
    rw [← hn6e] at hLL6
    have HN6 : Hid (n6 = (L ++ M4 ++ M6).length) := hn6e
    obtain ⟨W7, hW7⟩ : ∃ W, W = w6.setCell ⟨w1.heap.size, 5, none⟩ (.int .i64 ((n6 : Int) - 1)) := ⟨_, rfl⟩
    have hS7 := hS6.put 5 (.int .i64 ((n6 : Int) - 1)) (hS6.six.setb _)
    rw [← hW7] at hS7
    dsimp only at hS7
    clear hn6e
    go_upto_region 18 with fail
    rw [← hW7]
    clear hW7 hS6
    clear c0 c1 c2 c3 c4 c5 f1 f2 f3 f4 f5
    have hrw : n6 = (L ++ M4 ++ M6).length := HN6.out
    obtain ⟨LL, hLLe⟩ : ∃ LL, LL = L ++ M4 ++ M6 := ⟨_, rfl⟩
    rw [← hLLe] at hS7 hrw
    have HLE : Hid (LL = L ++ M4 ++ M6) := hLLe
    subst hrw
    clear hLLe
    obtain ⟨⟨c0, c1, c2, c3, c4, c5⟩, ff⟩ := hS7.six
    dsimp only at c0 c1 c2 c3 c4 c5
    have f1 := ff 1
    have f2 := ff 2
    have f3 := ff 3
    have f4 := ff 4
    have f5 := ff 5
    clear ff
    have hrow9 := hS7.row
    have hB9 : B ≤ W7.heap.size := Nat.le_trans hBw hS7.gr.size
    go_wp2_with (at_builtin; refine wpList_append_lies _ rfl _ _ 23 rfl B 66 i0 (.agg #[.int .i64 0, .int .i64 0, .int .i64 0, .string ⟨#[]⟩, .int .i64 0, .int .i64 0]) 6 56 Tryd.underlying23 hi hz0 hz1 hz2 rfl (by decide) _ (LL).length _ rfl (World.ownsRow.alloc hrow9 _) ⟨W7.heap.size, 0, none⟩ 1 1 [.int .i64 7, .int .i64 0, .int .i64 0, .string ⟨#[]⟩, .int .i64 ((n4 : Int) - 1), .int .i64 ((LL.length : Int) - 1)] rfl rfl (World.news_of_block (heap_alloc_new W7 _)) (one6W _ _ _ _ _ _) (by omega) (by unfold maxLen; omega) (by omega) (by simp; omega) (W7.heap.size + 1) (by simp) ?_)
    intro g9 cap9 w9 hown9 hgrow9 hat9 hlt9
    clear c0 c1 c2 c3 c4 c5 f1 f2 f3 f4 f5
    clear hrow9 hlt9
    go_wp2
    go_ret
    exact hS7.fin (M := M4 ++ M6) (by rw [HLE.out, List.append_assoc]) (by have := HS2.out; rw [List.length_append]; omega) (fun x hx => (List.mem_append.1 hx).elim (ht4 x) (ht6 x)) (by simp [ByteArray.size]) (by simpa [Wa.cells] using hown9) hgrow9 hat9 (by have := HT2.out; omega)
  · skip
    obtain ⟨W3, hW3⟩ : ∃ W, W = w1.alloc (.cells #[.int .i64 8, .int .i64 0, .int .i64 0, .string ⟨#[]⟩, .int .i64 0, .int .i64 0] 66) := ⟨_, rfl⟩
    have hS3 : DSt w b B rv.ownBlock w1.heap.size rv L ⟨8, 0, 0, ⟨#[]⟩, 0, 0⟩ (m + 2) W3 := by rw [hW3]; exact start_any hc1 hgw hrow hbB hBw 8
    go_wp2_with fail
    rw [← hW3]
    clear hW3
    refine (IH.out (z - 1) b _ _ (L) rv B (by have := HZ.out; omega) (by have := HD.out; omega) hS3.cur (by have := HM.out; have := HT2.out; omega) (by have := HL.out; have := HS2.out; omega) hS3.row hbB (Nat.le_trans hBw hS3.gr.size)).mono ?_
    rintro e w4 ⟨M4, rv4, rfl, hr4, hp4, hq4, ht4, hc4, hg4, hb4⟩
    have hS4 := hS3.deep hr4 hc4 hg4 hb4
    have hn4 : M4.length ≤ 1000 := by have := HL.out; have := HS2.out; omega
    obtain ⟨ao4, cap4, hrv4⟩ := hr4.slice
    subst hrv4
    clear hS3 hg4 hb4 hr4 hc4
    obtain ⟨⟨c0, c1, c2, c3, c4, c5⟩, ff⟩ := hS4.six
    dsimp only at c0 c1 c2 c3 c4 c5
    have f1 := ff 1
    have f2 := ff 2
    have f3 := ff 3
    have f4 := ff 4
    have f5 := ff 5
    clear ff
    have hLL4 : (L ++ M4).length ≤ 1000 := by have := HL.out; have := HS2.out; simp only [List.length_append]; omega
    obtain ⟨n4, hn4e⟩ : ∃ n, n = (L ++ M4).length := ⟨_, rfl⟩
    rw [← hn4e]
    rw [← hn4e] at hLL4
    have HN4 : Hid (n4 = (L ++ M4).length) := hn4e
    obtain ⟨W5, hW5⟩ : ∃ W, W = w4.setCell ⟨w1.heap.size, 4, none⟩ (.int .i64 ((n4 : Int) - 1)) := ⟨_, rfl⟩
    have hS5 := hS4.put 4 (.int .i64 ((n4 : Int) - 1)) (hS4.six.seta _)
    rw [← hW5] at hS5
    dsimp only at hS5
    clear hn4e
    go_upto_region 18 with fail
    rw [← hW5]
    clear hW5 hS4
    clear c0 c1 c2 c3 c4 c5 f1 f2 f3 f4 f5
    have hrw : n4 = (L ++ M4).length := HN4.out
    obtain ⟨LL, hLLe⟩ : ∃ LL, LL = L ++ M4 := ⟨_, rfl⟩
    rw [← hLLe] at hS5 hrw
    have HLE : Hid (LL = L ++ M4) := hLLe
    subst hrw
    clear hLLe
    obtain ⟨⟨c0, c1, c2, c3, c4, c5⟩, ff⟩ := hS5.six
    dsimp only at c0 c1 c2 c3 c4 c5
    have f1 := ff 1
    have f2 := ff 2
    have f3 := ff 3
    have f4 := ff 4
    have f5 := ff 5
    clear ff
    have hrow9 := hS5.row
    have hB9 : B ≤ W5.heap.size := Nat.le_trans hBw hS5.gr.size
    go_wp2_with (at_builtin; refine wpList_append_lies _ rfl _ _ 23 rfl B 66 i0 (.agg #[.int .i64 0, .int .i64 0, .int .i64 0, .string ⟨#[]⟩, .int .i64 0, .int .i64 0]) 6 56 Tryd.underlying23 hi hz0 hz1 hz2 rfl (by decide) _ (LL).length _ rfl (World.ownsRow.alloc hrow9 _) ⟨W5.heap.size, 0, none⟩ 1 1 [.int .i64 8, .int .i64 0, .int .i64 0, .string ⟨#[]⟩, .int .i64 ((LL.length : Int) - 1), .int .i64 0] rfl rfl (World.news_of_block (heap_alloc_new W5 _)) (one6W _ _ _ _ _ _) (by omega) (by unfold maxLen; omega) (by omega) (by simp; omega) (W5.heap.size + 1) (by simp) ?_)
    intro g9 cap9 w9 hown9 hgrow9 hat9 hlt9
    clear c0 c1 c2 c3 c4 c5 f1 f2 f3 f4 f5
    clear hrow9 hlt9
    go_wp2
    go_ret
    exact hS5.fin (M := M4) HLE.out (by have := HS2.out; omega) ht4 (by simp [ByteArray.size]) (by simpa [Wa.cells] using hown9) hgrow9 hat9 (by have := HT2.out; omega)

theorem wants_any (d : Nat) : WantsOK d := by
  induction d with
  | zero => exact wants_zero
  | succ d ih => exact wants_succ d ih

end Go.Proofs.YtmjpmmkjfimopaaDoor

namespace Go.Proofs.YtmjpmmkjfimopaaDoor
open Go.RowKit Plain Sch Wan
attribute [local go_sem ↓] Go.wp_at_zero Go.wp_at_succ

theorem stW_three {x : Nat} (h : x ≤ 3) : stW x ≤ 150 := by
  have h4 : x = 0 ∨ x = 1 ∨ x = 2 ∨ x = 3 := by omega
  rcases h4 with rfl | rfl | rfl | rfl <;> decide
theorem szW_three {x : Nat} (h : x ≤ 3) : szW x ≤ 15 := by
  have h4 : x = 0 ∨ x = 1 ∨ x = 2 ∨ x = 3 := by omega
  rcases h4 with rfl | rfl | rfl | rfl <;> decide

theorem flat_setW : ∀ (L : List Wa) (k j : Nat) (u : Value) (t : Wa), k < L.length → j < 6 → (wa L k).cells.set j u = t.cells → (L.flatMap Wa.cells).set (k * 6 + j) u = (L.set k t).flatMap Wa.cells
  | [], k, j, u, t, hk, _, _ => by simp at hk
  | x :: L, 0, j, u, t, _, hj, h => by
    have h' : x.cells.set j u = t.cells := h
    rw [List.flatMap_cons, List.set_cons_zero, List.flatMap_cons, Nat.zero_mul, Nat.zero_add, List.set_append_left _ _ (by show j < 6; exact hj), h']
  | x :: L, k + 1, j, u, t, hk, hj, h => by
    have ih := flat_setW L k j u t (by simpa using hk) hj h
    rw [List.flatMap_cons, List.set_cons_succ, List.flatMap_cons, ← ih, List.set_append_right _ _ (by show 6 ≤ _; omega)]
    congr 2
    show (k + 1) * 6 + j - 6 = k * 6 + j
    omega

theorem WRow.stored {w : World} {B g cap : Nat} {L : List Wa} (h : WRow w B (.slice (some ⟨g, 0, none⟩) L.length cap) L) (k j : Nat) (u : Value) (t : Wa) (hk : k < L.length) (hj : j < 6) (hc : (wa L k).cells.set j u = t.cells) :
    WRow (w.setCell ⟨g, k * 6 + j, none⟩ u) B (.slice (some ⟨g, 0, none⟩) L.length cap) (L.set k t) := by
  have h1 := (World.ownsRow.stored h (k * 6 + j) u).1
  rw [flat_setW L k j u t hk hj hc] at h1
  show World.ownsRow _ _ _ _ _ _ _
  rw [List.length_set]
  exact h1

theorem set_texts {L : List Wa} {k : Nat} {t : Wa} (h : ∀ x ∈ L, x.text.size ≤ 4) (ht : t.text.size ≤ 4) : ∀ x ∈ L.set k t, x.text.size ≤ 4 := by
  intro x hx
  rcases List.mem_or_eq_of_mem_set hx with hx | hx
  · exact h x hx
  · rw [hx]; exact ht

theorem wa_text {L : List Wa} {k : Nat} (h : ∀ x ∈ L, x.text.size ≤ 4) (hk : k < L.length) : (wa L k).text.size ≤ 4 := by
  apply h
  unfold wa
  rw [List.getD, List.getElem?_eq_getElem hk]
  exact List.getElem_mem hk

/-- a filter drawn -/
def FilR (b m : Nat) (w : World) (e : Ending) (w' : World) : Prop :=
  ∃ rv L, e = .returned (.agg #[rv]) ∧ WRow w' w.heap.size rv L ∧ 1 ≤ L.length ∧ L.length ≤ 15 ∧ (∀ x ∈ L, x.text.size ≤ 4) ∧ Cur w' b m ∧ w.grownBy w' (some b)

structure FSt (w : World) (b K g cap : Nat) (L : List Wa) (m : Nat) (w' : World) : Prop where
  cur : Cur w' b m
  row : WRow w' (w.heap.size + 1) (.slice (some ⟨g, 0, none⟩) L.length cap) L
  q : w'.cell? ⟨K, 0, none⟩ = some (.slice (some ⟨g, 0, none⟩) L.length cap)
  y : w'.cell? ⟨w.heap.size, 0, none⟩ = some (.slice none 0 0)
  z : w'.frozen? ⟨w.heap.size, 0, none⟩ = false
  gr : w.grownBy w' (some b)
  gK : g ≠ K
  g0 : w.heap.size < g
  K0 : w.heap.size < K
  b0 : b < w.heap.size

variable {w w' w'' : World} {b K g cap m : Nat} {L : List Wa}

theorem FSt.pick (h : FSt w b K g cap L m w') {m' : Nat} (hc : Cur w'' b m') (hg : w'.grownBy w'' (some b)) : FSt w b K g cap L m' w'' := by
  have h1 := h.gK
  have h2 := h.g0
  have h3 := h.K0
  have h4 := h.b0
  have hs := h.gr.size
  have hl : w.heap.size < w'.heap.size := World.block_lt_of_cell? w' _ h.y
  refine ⟨hc, (GrS.of hg).row h.row (fun k hk e => ?_), hg.cell h.q (by simp; omega), hg.cell h.y (by simp; omega), (hg.frozen_far _ hl (by simp; omega)).trans h.z, Lib.grownBy_trans h.gr hg, h1, h2, h3, h4⟩
  have hk' : g = k := by simpa [Value.ownBlock] using hk
  simp at e
  omega

theorem FSt.drew (h : FSt w b K g cap L m w') : FSt w b K g cap L m w'.drew :=
  ⟨h.cur.drew, h.row, h.q, h.y, h.z, ⟨h.gr.os, h.gr.tape, h.gr.output, h.gr.size, h.gr.block⟩, h.gK, h.g0, h.K0, h.b0⟩

theorem FSt.cell (h : FSt w b K g cap L m w') (k j : Nat) (hk : k < L.length) (hj : j < 6) : w'.cell? ⟨g, k * 6 + j, none⟩ = (wa L k).cells[j]? := by
  have h1 := World.ownsRow.cellAt h.row (k * 6 + j) (by omega)
  rw [flat6Wa L k j hk hj] at h1
  simpa using h1

theorem FSt.frozen (h : FSt w b K g cap L m w') (i : Nat) : w'.frozen? ⟨g, i, none⟩ = false := World.ownsRow.frozenAt h.row i

/-- a store into the row -/
theorem FSt.put (h : FSt w b K g cap L m w') (k j : Nat) (u : Value) (t : Wa) (hk : k < L.length) (hj : j < 6) (hc : (wa L k).cells.set j u = t.cells) :
    Cur (w'.setCell ⟨g, k * 6 + j, none⟩ u) b m ∧ WRow (w'.setCell ⟨g, k * 6 + j, none⟩ u) (w.heap.size + 1) (.slice (some ⟨g, 0, none⟩) L.length cap) (L.set k t) ∧ w.grownBy (w'.setCell ⟨g, k * 6 + j, none⟩ u) (some b) ∧ w.heap.size < (w'.setCell ⟨g, k * 6 + j, none⟩ u).heap.size := by
  have h2 := h.g0
  have h4 := h.b0
  have hl : w.heap.size < w'.heap.size := World.block_lt_of_cell? w' _ h.y
  have hg := Lib.grownBy_setCell w' g (k * 6 + j) u
  refine ⟨h.cur.grown hg (fun k hk => by simp at hk; omega), h.row.stored k j u t hk hj hc, ?_, Nat.lt_of_lt_of_le hl hg.size⟩
  exact ⟨hg.os.trans h.gr.os, hg.tape.trans h.gr.tape, hg.output.trans h.gr.output, Nat.le_trans h.gr.size hg.size, fun i hi hne => (hg.block i (by omega) (by simp; omega)).trans (h.gr.block i hi hne)⟩

/-- the result is stored -/
theorem fil_fin {rv : Value} (hc : Cur w' b m) (hr : WRow w' (w.heap.size + 1) rv L) (hg : w.grownBy w' (some b)) (hb : b < w.heap.size) (h1 : 1 ≤ L.length) (h15 : L.length ≤ 15) (ht : ∀ x ∈ L, x.text.size ≤ 4) {m' : Nat} (hm : m ≤ m') (u : Value) :
    FilR b m' w (.returned (.agg #[rv])) (w'.setCell ⟨w.heap.size, 0, none⟩ u) := by
  have hs := Lib.grownBy_setCell w' w.heap.size 0 u
  refine ⟨rv, L, rfl, ((GrS.of hs).row hr (fun k hk e => ?_)).lower (by omega), h1, h15, ht, (hc.grown hs (fun k hk => by simp at hk; omega)).le hm, ?_⟩
  · have := (World.ownsRow.lt hr k hk).1
    simp at e
    omega
  · exact ⟨hs.os.trans hg.os, hs.tape.trans hg.tape, hs.output.trans hg.output, Nat.le_trans hg.size hs.size, fun i hi hne => (hs.block i (by have := hg.size; omega) (by simp; omega)).trans (hg.block i hi hne)⟩

set_option maxRecDepth 100000 in
set_option maxHeartbeats 8000000 in
theorem filter_any (b m : Nat) (w : World) (hc : Cur w b m) (hm : m ≤ 800000000) :
    Calls Tryd.prog 19 #[.pointer (some ⟨b, 0, none⟩)] w (FilR b (m + 200) w) := by
  have hbw := hc.lt
  obtain ⟨W1, hW1⟩ : ∃ W, W = w.alloc (.cells #[.slice none 0 0] 25) := ⟨_, rfl⟩
  have hc1 : Cur W1 b m := by rw [hW1]; exact hc.alloc _
  have HS1 : Hid (W1.heap.size = w.heap.size + 1) := by show _ = _; rw [hW1]; simp
  have hg1 : w.grownBy W1 (some b) := by rw [hW1]; exact Lib.grownBy_allocR (World.grownBy.refl _ _) _
  have y1 : W1.cell? ⟨w.heap.size, 0, none⟩ = some (.slice none 0 0) := by rw [hW1]; go_simp
  have z1 : W1.frozen? ⟨w.heap.size, 0, none⟩ = false := by rw [hW1]; go_simp
  clear hc
  go_enter Tryd.func19, Tryd.ntmps19
  go_wp2_with fail
  rw [← hW1]
  clear hW1
  refine (pick_any b m 4 _ hc1 (by omega)).mono ?_
  rintro e w2 ⟨x, rfl, hx, hc2, hg2⟩
  have hx3 : x ≤ 3 := by omega
  have hx3i : (x : Int) ≤ 3 := by omega
  have hs2 : w.heap.size < w2.heap.size := by have := hg2.size; have := HS1.out; omega
  have hs1 : w.heap.size < W1.heap.size := by have := HS1.out; omega
  have y2 : w2.cell? ⟨w.heap.size, 0, none⟩ = some (.slice none 0 0) := hg2.cell y1 (by simp; omega)
  have z2 : w2.frozen? ⟨w.heap.size, 0, none⟩ = false := (hg2.frozen_far _ hs1 (by simp; omega)).trans z1
  have hg2' := Lib.grownBy_trans hg1 hg2
  clear hx hc1 hg1 hg2 y1 z1 hs1
  go_wp2_with fail
  refine (wants_any x (x : Int) b (m + 2) w2 [] (.slice none 0 0) w2.heap.size rfl (by omega) hc2 (by have := stW_three hx3; omega) (by have := szW_three hx3; simp; omega) (World.ownsRow_nil _ _ _ _) hc2.lt (Nat.le_refl _)).mono ?_
  rintro e w3 ⟨M, rv, rfl, hr3, hp3, hq3, ht3, hc3, hg3, hb3⟩
  have hM15 : M.length ≤ 15 := Nat.le_trans hq3 (szW_three hx3)
  have hM20 : (M.length : Int) ≤ 20 := by omega
  have hc3' : Cur w3 b (m + 152) := hc3.le (by have := stW_three hx3; omega)
  rw [List.nil_append] at hr3
  have hlen3 := hr3
  obtain ⟨g, cap, hv⟩ := Joins.ownsRow_form hlen3 (by omega)
  subst hv
  have hs3 : w2.heap.size ≤ w3.heap.size := hg3.size
  have hgl := World.ownsRow.lt hr3 g rfl
  have hgg : w.grownBy w3 (some b) := ⟨hg3.os.trans hg2'.os, hg3.tape.trans hg2'.tape, hg3.output.trans hg2'.output, Nat.le_trans hg2'.size hg3.size, fun k hk hne => (hg3.block k (Nat.lt_of_lt_of_le hk hg2'.size) (by rintro (e | e); exact hne (by rw [e]); exact absurd e (by simp [Value.ownBlock]))).trans (hg2'.block k hk hne)⟩
  have hbk : w3.heap[w.heap.size]? = w2.heap[w.heap.size]? := hg3.block _ hs2 (by rintro (e | e); omega; exact absurd e (by simp [Value.ownBlock]))
  obtain ⟨W4, hW4⟩ : ∃ W, W = w3.alloc (.cells #[.slice (some ⟨g, 0, none⟩) M.length cap] 25) := ⟨_, rfl⟩
  have hS4 : FSt w b w3.heap.size g cap M (m + 152) W4 := by
    rw [hW4]
    have ha : w3.grownBy (w3.alloc (.cells #[.slice (some ⟨g, 0, none⟩) M.length cap] 25)) none := Lib.grownBy_allocR (World.grownBy.refl w3 none) _
    have y3 : w3.cell? ⟨w.heap.size, 0, none⟩ = some (.slice none 0 0) := (World.cell?_of_block hbk).trans y2
    have z3 : w3.frozen? ⟨w.heap.size, 0, none⟩ = false := (World.frozen?_of_block hbk).trans z2
    refine ⟨hc3'.alloc _, (GrS.of ha).row (hr3.lower (by omega)) (fun k _ e => by cases e), by go_simp, ha.cell y3 (by simp), (ha.frozen_far _ (by show w.heap.size < _; omega) (by simp)).trans z3, Lib.grownBy_allocR hgg _, by omega, by omega, by omega, hbw⟩
  clear hr3 hlen3 hc3 hc3' hg3 hb3 hgl hgg hbk hq3 y2 z2 hg2' hc2 hs2 hs3
  have hls : (0 : Int) < (M.length : Int) := by omega
  go_wp2_with fail
  rw [← hW4]
  clear hW4
  refine (one_any b _ 20 _ hS4.cur (by omega)).mono ?_
  rintro e w5 ⟨t, rfl, hc5, hg5⟩
  have hS5 := hS4.pick hc5 hg5
  clear hS4 hc5 hg5
  have y5 := hS5.y
  have z5 := hS5.z
  have q5 := hS5.q
  cases t
  · go_wp2
    (try simp only [Exit.inBlock, Exit.then])
    refine bodyPost_ret (v := .agg #[.slice (some ⟨g, 0, none⟩) M.length cap]) ?_ rfl ?_
    · rw [results_cell1 rfl]
      go_simp
    · exact fil_fin hS5.cur hS5.row hS5.gr hbw hp3 hM15 ht3 (by omega) _
  · go_wp2_with fail
    refine (pick_any b _ (M.length : Int) _ hS5.cur (by omega)).mono ?_
    rintro e w6 ⟨k, rfl, hk, hc6, hg6⟩
    have hS6 := hS5.pick hc6 hg6
    have hk' : k < M.length := by omega
    have hki : (k : Int) < (M.length : Int) := by omega
    clear hS5 hc6 hg6 hk y5 z5 q5
    go_wp2_with fail
    refine (pick_any b _ 3 _ hS6.cur (by omega)).mono ?_
    rintro e w7 ⟨x3, rfl, hx3', hc7, hg7⟩
    have hS7 := hS6.pick hc7 hg7
    have hx33 : x3 = 0 ∨ x3 = 1 ∨ x3 = 2 := by omega
    have q7 := hS7.q
    have q7d : w7.drew.cell? ⟨w3.heap.size, 0, none⟩ = some (.slice (some ⟨g, 0, none⟩) M.length cap) := q7
    have hS7d := hS7.drew
    have hcd := hS7d.cur
    have hgK := hS7.gK
    have hg0 := hS7.g0
    have hK0 := hS7.K0
    obtain ⟨tk, htk⟩ : ∃ t, t = wa M k := ⟨_, rfl⟩
    have HTK : Hid (wa M k = tk) := htk.symm
    have htx : tk.text.size ≤ 4 := by rw [htk]; exact wa_text ht3 hk'
    clear htk hS6 hc7 hg7 hx3'
    obtain ⟨kind, no, num, text, a, b'⟩ := tk
    dsimp only at htx
    rcases hx33 with rfl | rfl | rfl
    · go_upto_region 9 with fail
      go_region_held3 (fun w' => w'.cell? ⟨w3.heap.size, 0, none⟩ = some (.slice (some ⟨g, 0, none⟩) M.length cap))
        (first | exact (World.cell?_setCell_other _ _ _ _ (fun e => by have := congrArg Addr.block e; simp at this; omega)).trans q8 | exact q8 | exact q7d | exact q7)
        (first
          | (go_at_call 39; refine (pick_any b _ 10 _ hcd (by omega)).mono ?_; rintro e w8 ⟨x7, rfl, hx7, hc8, hg8⟩; have hS8 := hS7d.pick hc8 hg8; have hx7i : (x7 : Int) ≤ 40 := (by omega); have q8 := hS8.q; have hcc := hS8.cell k 0 hk' (by omega); rw [HTK.out] at hcc; have cc8 : w8.cell? ⟨g, k * 6, none⟩ = some (Value.int .i64 kind) := hcc; have cf8 : w8.frozen? ⟨g, k * 6, none⟩ = false := hS8.frozen _))
      have hP := hS8.put k 0 (.int .i64 (x7 : Int)) (⟨(x7 : Int), no, num, text, a, b'⟩ : Wa) hk' (by omega) (by rw [HTK.out]; rfl)
      have HP : Hid (Cur (w8.setCell ⟨g, k * 6 + 0, none⟩ (.int .i64 (x7 : Int))) b (m + 160) ∧ WRow (w8.setCell ⟨g, k * 6 + 0, none⟩ (.int .i64 (x7 : Int))) (w.heap.size + 1) (.slice (some ⟨g, 0, none⟩) M.length cap) (M.set k (⟨(x7 : Int), no, num, text, a, b'⟩ : Wa)) ∧ w.grownBy (w8.setCell ⟨g, k * 6 + 0, none⟩ (.int .i64 (x7 : Int))) (some b) ∧ w.heap.size < (w8.setCell ⟨g, k * 6 + 0, none⟩ (.int .i64 (x7 : Int))).heap.size) := ⟨hP.1.le (by omega), hP.2⟩
      have y8 := hS8.y
      have z8 := hS8.z
      have hg1 : g ≠ w.heap.size := by omega
      clear hP hcc hS7 hS7d hS8 hc8 hg8 hx7
      go_wp2
      (try simp only [Exit.inBlock, Exit.then])
      refine bodyPost_ret (v := .agg #[.slice (some ⟨g, 0, none⟩) M.length cap]) ?_ rfl ?_
      · rw [results_cell1 rfl]
        go_simp
      · obtain ⟨p1, p2, p3, _⟩ := HP.out
        exact fil_fin (m' := m + 200) p1 p2 p3 hbw (by rw [List.length_set]; exact hp3) (by rw [List.length_set]; exact hM15) (set_texts ht3 htx) (by omega) _
    · go_upto_region 11 with fail
      go_region_held3 (fun w' => w'.cell? ⟨w3.heap.size, 0, none⟩ = some (.slice (some ⟨g, 0, none⟩) M.length cap))
        (first | exact (World.cell?_setCell_other _ _ _ _ (fun e => by have := congrArg Addr.block e; simp at this; omega)).trans q8 | exact q8 | exact q7d | exact q7)
        (first
          | (go_at_call 39; refine (pick_any b _ 4 _ hcd (by omega)).mono ?_; rintro e w8 ⟨x7, rfl, hx7, hc8, hg8⟩; have hS8 := hS7d.pick hc8 hg8; have hx7i : (x7 : Int) ≤ 40 := (by omega); have q8 := hS8.q; have hcc := hS8.cell k 4 hk' (by omega); rw [HTK.out] at hcc; have cc8 : w8.cell? ⟨g, k * 6 + 4, none⟩ = some (Value.int .i64 a) := hcc; have cf8 : w8.frozen? ⟨g, k * 6 + 4, none⟩ = false := hS8.frozen _))
      have hP := hS8.put k 4 (.int .i64 ((x7 : Int) - 1)) (⟨kind, no, num, text, (x7 : Int) - 1, b'⟩ : Wa) hk' (by omega) (by rw [HTK.out]; rfl)
      have HP : Hid (Cur (w8.setCell ⟨g, k * 6 + 4, none⟩ (.int .i64 ((x7 : Int) - 1))) b (m + 160) ∧ WRow (w8.setCell ⟨g, k * 6 + 4, none⟩ (.int .i64 ((x7 : Int) - 1))) (w.heap.size + 1) (.slice (some ⟨g, 0, none⟩) M.length cap) (M.set k (⟨kind, no, num, text, (x7 : Int) - 1, b'⟩ : Wa)) ∧ w.grownBy (w8.setCell ⟨g, k * 6 + 4, none⟩ (.int .i64 ((x7 : Int) - 1))) (some b) ∧ w.heap.size < (w8.setCell ⟨g, k * 6 + 4, none⟩ (.int .i64 ((x7 : Int) - 1))).heap.size) := ⟨hP.1.le (by omega), hP.2⟩
      have y8 := hS8.y
      have z8 := hS8.z
      have hg1 : g ≠ w.heap.size := by omega
      clear hP hcc hS7 hS7d hS8 hc8 hg8 hx7
      go_wp2
      (try simp only [Exit.inBlock, Exit.then])
      refine bodyPost_ret (v := .agg #[.slice (some ⟨g, 0, none⟩) M.length cap]) ?_ rfl ?_
      · rw [results_cell1 rfl]
        go_simp
      · obtain ⟨p1, p2, p3, _⟩ := HP.out
        exact fil_fin (m' := m + 200) p1 p2 p3 hbw (by rw [List.length_set]; exact hp3) (by rw [List.length_set]; exact hM15) (set_texts ht3 htx) (by omega) _
    · go_upto_region 7 with fail
      go_region_held3 (fun w' => w'.cell? ⟨w3.heap.size, 0, none⟩ = some (.slice (some ⟨g, 0, none⟩) M.length cap))
        (first | exact (World.cell?_setCell_other _ _ _ _ (fun e => by have := congrArg Addr.block e; simp at this; omega)).trans q8 | exact q8 | exact q7d | exact q7)
        (first
          | (go_at_call 39; refine (pick_any b _ 32 _ hcd (by omega)).mono ?_; rintro e w8 ⟨x7, rfl, hx7, hc8, hg8⟩; have hS8 := hS7d.pick hc8 hg8; have hx7i : (x7 : Int) ≤ 40 := (by omega); have q8 := hS8.q; have hcc := hS8.cell k 1 hk' (by omega); rw [HTK.out] at hcc; have cc8 : w8.cell? ⟨g, k * 6 + 1, none⟩ = some (Value.int .i64 no) := hcc; have cf8 : w8.frozen? ⟨g, k * 6 + 1, none⟩ = false := hS8.frozen _))
      have hP := hS8.put k 1 (.int .i64 (x7 : Int)) (⟨kind, (x7 : Int), num, text, a, b'⟩ : Wa) hk' (by omega) (by rw [HTK.out]; rfl)
      have HP : Hid (Cur (w8.setCell ⟨g, k * 6 + 1, none⟩ (.int .i64 (x7 : Int))) b (m + 160) ∧ WRow (w8.setCell ⟨g, k * 6 + 1, none⟩ (.int .i64 (x7 : Int))) (w.heap.size + 1) (.slice (some ⟨g, 0, none⟩) M.length cap) (M.set k (⟨kind, (x7 : Int), num, text, a, b'⟩ : Wa)) ∧ w.grownBy (w8.setCell ⟨g, k * 6 + 1, none⟩ (.int .i64 (x7 : Int))) (some b) ∧ w.heap.size < (w8.setCell ⟨g, k * 6 + 1, none⟩ (.int .i64 (x7 : Int))).heap.size) := ⟨hP.1.le (by omega), hP.2⟩
      have y8 := hS8.y
      have z8 := hS8.z
      have hg1 : g ≠ w.heap.size := by omega
      clear hP hcc hS7 hS7d hS8 hc8 hg8 hx7
      go_wp2
      (try simp only [Exit.inBlock, Exit.then])
      refine bodyPost_ret (v := .agg #[.slice (some ⟨g, 0, none⟩) M.length cap]) ?_ rfl ?_
      · rw [results_cell1 rfl]
        go_simp
      · obtain ⟨p1, p2, p3, _⟩ := HP.out
        exact fil_fin (m' := m + 200) p1 p2 p3 hbw (by rw [List.length_set]; exact hp3) (by rw [List.length_set]; exact hM15) (set_texts ht3 htx) (by omega) _

end Go.Proofs.YtmjpmmkjfimopaaDoor

namespace Go.Proofs.YtmjpmmkjfimopaaDoor
open Go.RowKit

theorem grown_ownR {w w1 w2 : World} {b : Nat} {row : Option Nat} (h : w.grownBy w1 (some b)) (k : w1.grownBy w2 row) (hr : ∀ j, row = some j → w.heap.size ≤ j) : w.grownBy w2 (some b) :=
  ⟨k.os.trans h.os, k.tape.trans h.tape, k.output.trans h.output, Nat.le_trans h.size k.size, fun j hj hne => (k.block j (Nat.lt_of_lt_of_le hj h.size) (fun e => by have := hr j e.symm; omega)).trans (h.block j hj hne)⟩
theorem own_pickR {w w' : World} {B b n size : Nat} {e : TypeId} {v : Value} {xs : List Value} (h : w.ownsRow B e size v n xs) (hg : w.grownBy w' (some b)) (hb : b < B) : w'.ownsRow B e size v n xs := by
  refine h.kept hg (.inr fun he => ?_)
  have := (h.lt b he).1
  omega
theorem own_setR {w : World} {B n size g : Nat} {e : TypeId} {v : Value} {xs : List Value} (h : w.ownsRow B e size v n xs) {N : Nat} (hlt : ∀ k, v.ownBlock = some k → N ≤ k ∧ k < g) (i : Nat) (u : Value) : (w.setCell ⟨g, i, none⟩ u).ownsRow B e size v n xs :=
  h.kept (Lib.grownBy_setCell w g i u) (.inr fun he => by have := (hlt g he).2; omega)
theorem grown_setR {w w1 : World} {b g : Nat} (h : w.grownBy w1 (some b)) (hg : w.heap.size ≤ g) (i : Nat) (u : Value) : w.grownBy (w1.setCell ⟨g, i, none⟩ u) (some b) :=
  grown_ownR h (Lib.grownBy_setCell w1 g i u) (fun j hj => by simp at hj; omega)
theorem cur_setR {w : World} {b n g : Nat} (h : Cur w b n) (hg : b < g) (i : Nat) (u : Value) : Cur (w.setCell ⟨g, i, none⟩ u) b n :=
  h.grown (Lib.grownBy_setCell w g i u) (fun j hj => by simp at hj; omega)
theorem fb_sizeR (l : List Fld) : (fb l).1.size ≤ 400 := by
  by_cases h : l.all Fld.ok = true ∧ l.length ≤ 40 ∧ (l.flatMap Fld.bytes).length ≤ 400
  · rw [fb_yes l h]; simpa [ByteArray.size] using h.2.2
  · rw [fb_no l h]; decide
theorem below_grownR {w w' : World} {row : Option Nat} (h : Below w.heap.size w w') : w.grownBy w' row := ⟨h.os, h.tape, h.output, h.size, fun k hk _ => h.block k hk⟩

def three (i : Nat) : ByteArray := [⟨#[]⟩, ⟨#[97, 98]⟩, ⟨#[116, 101, 120, 116]⟩].getD i ⟨#[]⟩
theorem three_cells (w : World) (t : TypeId) (i : Nat) (h : i < 3) : (w.alloc (.cells #[.string ⟨#[]⟩, .string ⟨#[97, 98]⟩, .string ⟨#[116, 101, 120, 116]⟩] t)).cell? ⟨w.heap.size, i, none⟩ = some (.string (three i)) := by
  have h4 : i = 0 ∨ i = 1 ∨ i = 2 := by omega
  rcases h4 with rfl | rfl | rfl <;> simp [three]

set_option maxRecDepth 100000 in
set_option maxHeartbeats 8000000 in
theorem rising_any (b m : Nat) (w : World) (hc : Cur w b m) (hm : m ≤ 800000000) :
    Calls Tryd.prog 20 #[.pointer (some ⟨b, 0, none⟩)] w fun e w' => ∃ t : ByteArray, e = .returned (.string t) ∧ t.size ≤ 402 ∧ Cur w' b (m + 200) ∧ w.grownBy w' (some b) := by
  obtain ⟨i0, hi, hz0, hz1, hz2⟩ := info_parts Tryd.infoFld
  have hbw := hc.lt
  go_enter Tryd.func20, Tryd.ntmps20
  go_wp2_with fail
  go_loopw [3, 4] (fun vl vn wr => ∃ (l : List Fld) (n : Nat), l.length < n ∧ n ≤ 7 ∧ vn = .int .i64 (n : Int) ∧ wr.ownsRow w.heap.size 88 4 vl l.length (l.flatMap Fld.cells) ∧ Cur wr b (m + 20 * n) ∧ w.grownBy wr (some b))
    (fun _ vn _ => 7 - (intOf vn).toNat)
  case atStart => exact ⟨[], 1, by simp, by omega, by go_num, World.ownsRow_nil _ _ _ _, hc.le (by omega), World.grownBy.refl _ _⟩
  case round =>
    obtain ⟨l, n, hln, hn7, rfl, hown, hcr, hgr⟩ := hrel
    clear hc
    by_cases h0 : n < 7
    · have hn0 : (n : Int) < 7 := by omega
      clear h0 hn7
      go_wp2_with fail
      refine (one_any b _ _ _ hcr (by omega)).mono ?_
      rintro e w4 ⟨t1, rfl, hc4, hg4⟩
      have hown4 := own_pickR hown hg4 hbw
      have hg4' := Lib.grownBy_trans hgr hg4
      clear hown hcr hgr hg4
      cases t1
      · go_wp2
        go_roundw
        case rel => exact ⟨l, n + 1, by omega, by omega, by go_num, hown4, hc4.le (by omega), hg4'⟩
        case measure => simp [intOf]; omega
      · go_wp2_with fail
        refine (small_any b _ _ hc4 (by omega)).mono ?_
        rintro e w5 ⟨num, rfl, hn1, hn2, hc5, hg5⟩
        have hown5 := own_pickR hown4 hg5 hbw
        have hg5' := Lib.grownBy_trans hg4' hg5
        have hgs5 := hg5'.size
        clear hown4 hc4 hg4' hg5
        go_wp2_with fail
        refine (one_any b _ _ _ (hc5.alloc _) (by omega)).mono ?_
        rintro e w6 ⟨t2, rfl, hc6, hg6⟩
        have hown6 := own_pickR (hown5.alloc _) hg6 hbw
        have hg6' := Lib.grownBy_trans (Lib.grownBy_allocR hg5' _) hg6
        have hw5 := hc5.lt
        have q : ∀ j u, #[Value.int .i64 (n : Int), Value.int .i64 0, Value.int .i64 num, Value.string ⟨#[]⟩][j]? = some u → w6.cell? ⟨w5.heap.size, j, none⟩ = some u := fun j u hj => hg6.cell (by simpa using hj) (by simp; omega)
        have f6 : ∀ j, w6.frozen? ⟨w5.heap.size, j, none⟩ = false := fun j => (hg6.frozen_far ⟨w5.heap.size, j, none⟩ (by simp) (by simp; omega)).trans (by simp)
        have q0 := q 0 _ rfl
        have q1 := q 1 _ rfl
        have q2 := q 2 _ rfl
        have q3 := q 3 _ rfl
        have f60 := f6 0
        have f61 := f6 1
        have f62 := f6 2
        have f63 := f6 3
        have hs6 : w5.heap.size < w6.heap.size := by have := hg6.size; simp at this; omega
        have hlt5 := hown5.lt
        clear q f6 hown5 hc5 hg5' hg6
        cases t2
        · skip
          go_wp2_with (at_builtin; refine wpList_append_own _ rfl _ _ 61 rfl w.heap.size 88 i0 (.agg #[.int .i64 0, .int .i64 0, .int .i64 0, .string ⟨#[]⟩]) 4 40 Tryd.underlying61 hi hz0 hz1 hz2 rfl (by decide) _ _ _ rfl (hown6.alloc _) ⟨w6.heap.size, 0, none⟩ 1 1 (Fld.cells ⟨(n : Int), 0, num, ⟨#[]⟩⟩) rfl rfl ?c1 ?c2 ?c3 ?c4 ?c5 ?_)
          case c1 =>
            intro j u hj
            match j, hj with
            | 0, hj => simp [Fld.cells] at hj; subst hj; exact cell_new _ _ _ _ 0 (by simp)
            | 1, hj => simp [Fld.cells] at hj; subst hj; exact cell_new _ _ _ _ 1 (by simp)
            | 2, hj => simp [Fld.cells] at hj; subst hj; exact cell_new _ _ _ _ 2 (by simp)
            | 3, hj => simp [Fld.cells] at hj; subst hj; exact cell_new _ _ _ _ 3 (by simp)
            | j + 4, hj => simp [Fld.cells] at hj
          case c2 => intro u hu; simp [Fld.cells] at hu; rcases hu with rfl | rfl | rfl | rfl <;> rfl
          case c3 => unfold maxLen; omega
          case c4 => omega
          case c5 => have := hg6'.size; simp at this ⊢; omega
          intro v' w9 hown' hgrow _
          have hlt9 := hown6.lt
          have hg9 : w.grownBy w9 (some b) := grown_ownR (Lib.grownBy_allocR hg6' _) hgrow (fun j hj => (hlt9 j hj).1)
          have hc9 : Cur w9 b (m + 20 * (n + 1)) := ((hc6.alloc _).grown hgrow (fun j hj => by have := (hlt9 j hj).1; omega)).le (by omega)
          have hown9 : w9.ownsRow w.heap.size 88 4 v' (l ++ [(⟨(n : Int), 0, num, ⟨#[]⟩⟩ : Fld)]).length ((l ++ [(⟨(n : Int), 0, num, ⟨#[]⟩⟩ : Fld)]).flatMap Fld.cells) := by
            rw [List.flatMap_append, List.length_append, List.length_singleton]
            simpa using hown'
          clear hgrow hown' hlt9
          go_wp2
          go_roundw
          case rel => exact ⟨l ++ [(⟨(n : Int), 0, num, ⟨#[]⟩⟩ : Fld)], n + 1, by simp; omega, by omega, by go_num, hown9, hc9, hg9⟩
          case measure => simp [intOf]; omega
        · skip
          obtain ⟨zs, hzs⟩ : ∃ zs, zs = three := ⟨_, rfl⟩
          obtain ⟨W6, hW6⟩ : ∃ W, W = w6.alloc (.cells #[.string ⟨#[]⟩, .string ⟨#[97, 98]⟩, .string ⟨#[116, 101, 120, 116]⟩] 9) := ⟨_, rfl⟩
          have HZ : Hid (∀ i, i < 3 → W6.cell? ⟨w6.heap.size, i, none⟩ = some (.string (zs i))) := by rw [hW6, hzs]; exact three_cells w6 _
          have hcW : Cur W6 b (m + 20 * n + 2 + 4 + 2) := by rw [hW6]; exact hc6.alloc _
          have howW : W6.ownsRow w.heap.size 88 4 u3 l.length (l.flatMap Fld.cells) := by rw [hW6]; exact hown6.alloc _
          have hgW : w.grownBy W6 (some b) := by rw [hW6]; exact Lib.grownBy_allocR hg6' _
          have hg66 : w6.grownBy W6 none := by rw [hW6]; exact Lib.grownBy_allocR (World.grownBy.refl w6 none) _
          have hne : Hid (w6.heap.size ≠ b) := by show _ ≠ _; omega
          clear hzs
          go_wp2_with fail
          rw [← hW6]
          clear hW6 hown6 hg6' hc6
          refine (of_any b _ _ 3 3 zs _ hcW (by omega) (by omega) (by omega) hne.out HZ.out).mono ?_
          rintro e w8 ⟨i, hi4, rfl, hc8, hg8⟩
          have hown8 := own_pickR howW hg8 hbw
          have hg8' := Lib.grownBy_trans hgW hg8
          have hs66 := hg66.size
          have p : ∀ j u, w6.cell? ⟨w5.heap.size, j, none⟩ = some u → w8.cell? ⟨w5.heap.size, j, none⟩ = some u := fun j u hj => hg8.cell (hg66.cell hj (by simp)) (by simp; omega)
          have pf : ∀ j, w6.frozen? ⟨w5.heap.size, j, none⟩ = false → w8.frozen? ⟨w5.heap.size, j, none⟩ = false := fun j hj => (hg8.frozen_far ⟨w5.heap.size, j, none⟩ (by simp; omega) (by simp; omega)).trans ((hg66.frozen_far ⟨w5.heap.size, j, none⟩ (by simpa using hs6) (by simp)).trans hj)
          have r0 := p 0 _ q0
          have r1 := p 1 _ q1
          have r2 := p 2 _ q2
          have r3 := p 3 _ q3
          have s0 := pf 0 f60
          have s1 := pf 1 f61
          have s2 := pf 2 f62
          have s3 := pf 3 f63
          clear HZ hi4
          generalize zs i = s
          clear p pf q0 q1 q2 q3 f60 f61 f62 f63 hcW howW hgW hg8 hg66 hne hs66
          have hownA := own_setR (own_setR (own_setR (own_setR hown8 hlt5 0 (.int .i64 (n : Int))) hlt5 1 (.int .i64 2)) hlt5 2 (.int .i64 0)) hlt5 3 (.string s)
          have hgA := grown_setR (grown_setR (grown_setR (grown_setR hg8' hgs5 0 (.int .i64 (n : Int))) hgs5 1 (.int .i64 2)) hgs5 2 (.int .i64 0)) hgs5 3 (.string s)
          have hcA := cur_setR (cur_setR (cur_setR (cur_setR hc8 hw5 0 (.int .i64 (n : Int))) hw5 1 (.int .i64 2)) hw5 2 (.int .i64 0)) hw5 3 (.string s)
          clear hown8 hc8 hg8' hlt5
          go_wp2_with (at_builtin; refine wpList_append_own _ rfl _ _ 61 rfl w.heap.size 88 i0 (.agg #[.int .i64 0, .int .i64 0, .int .i64 0, .string ⟨#[]⟩]) 4 40 Tryd.underlying61 hi hz0 hz1 hz2 rfl (by decide) _ _ _ rfl (hownA.alloc _) ⟨w8.heap.size, 0, none⟩ 1 1 (Fld.cells ⟨(n : Int), 2, 0, s⟩) rfl rfl ?d1 ?d2 ?d3 ?d4 ?d5 ?_)
          case d1 =>
            intro j u hj
            match j, hj with
            | 0, hj => simp [Fld.cells] at hj; subst hj; exact cell_new _ _ _ _ 0 (by simp)
            | 1, hj => simp [Fld.cells] at hj; subst hj; exact cell_new _ _ _ _ 1 (by simp)
            | 2, hj => simp [Fld.cells] at hj; subst hj; exact cell_new _ _ _ _ 2 (by simp)
            | 3, hj => simp [Fld.cells] at hj; subst hj; exact cell_new _ _ _ _ 3 (by simp)
            | j + 4, hj => simp [Fld.cells] at hj
          case d2 => intro u hu; simp [Fld.cells] at hu; rcases hu with rfl | rfl | rfl | rfl <;> rfl
          case d3 => unfold maxLen; omega
          case d4 => omega
          case d5 => have := hgA.size; simp at this ⊢; omega
          intro v' w9 hown' hgrow _
          have hlt9 := hownA.lt
          have hg9 : w.grownBy w9 (some b) := grown_ownR (Lib.grownBy_allocR hgA _) hgrow (fun j hj => (hlt9 j hj).1)
          have hc9 : Cur w9 b (m + 20 * (n + 1)) := ((hcA.alloc _).grown hgrow (fun j hj => by have := (hlt9 j hj).1; omega)).le (by omega)
          have hown9 : w9.ownsRow w.heap.size 88 4 v' (l ++ [(⟨(n : Int), 2, 0, s⟩ : Fld)]).length ((l ++ [(⟨(n : Int), 2, 0, s⟩ : Fld)]).flatMap Fld.cells) := by
            rw [List.flatMap_append, List.length_append, List.length_singleton]
            simpa using hown'
          clear hgrow hown' hlt9
          go_wp2
          go_roundw
          case rel => exact ⟨l ++ [(⟨(n : Int), 2, 0, s⟩ : Fld)], n + 1, by simp; omega, by omega, by go_num, hown9, hc9, hg9⟩
          case measure => simp [intOf]; omega
    · have hn0 : n = 7 := by omega
      subst hn0
      have hf : FldsAt wr wr.heap.size _ l := FldsAt.own hown (by unfold maxLen; omega)
      have HF : Hid (FldsAt wr wr.heap.size u3 l) := hf
      clear hown hf h0 hn7
      go_wp2_with fail
      refine (fieldsBytes_any l _ _ HF.out).mono ?_
      rintro e w2 ⟨rfl, hb2⟩
      have hfs := fb_sizeR l
      generalize fb l = R at hfs
      obtain ⟨t, ok⟩ := R
      dsimp only at hfs
      have hg2 : w.grownBy w2 (some b) := Lib.grownBy_trans hgr (below_grownR hb2)
      have hc2 : Cur w2 b (m + 20 * 7) := hcr.below ⟨hb2.os, hb2.tape, hb2.output, hb2.size, fun k hk => hb2.block k (by have := hcr.lt; omega)⟩
      clear HF hb2 hcr hgr
      go_wp2_with fail
      refine (one_any b _ _ _ hc2 (by omega)).mono ?_
      rintro e w3 ⟨t1, rfl, hc3, hg3⟩
      have hg3' := Lib.grownBy_trans hg2 hg3
      clear hc2 hg2 hg3
      cases t1
      · go_wp2
        go_ret
        exact ⟨t, rfl, by omega, hc3.le (by omega), hg3'⟩
      · go_wp2_with fail
        refine (spoilt_any b _ t _ _ hc3 (by omega) (by omega) (by decide) (by decide)).mono ?_
        rintro e w4 ⟨t', rfl, ht', hc4, hg4⟩
        go_wp2
        go_ret
        exact ⟨t', rfl, by omega, hc4.le (by omega), Lib.grownBy_trans hg3' hg4⟩

end Go.Proofs.YtmjpmmkjfimopaaDoor

namespace Go.Proofs.YtmjpmmkjfimopaaDoor
open Go.RowKit Plain Sch Wan

theorem results_cell_cellF {fn : Func} {p u : Tmp} {ty ty' : TypeId} (h : fn.results = #[.cell p ty, .cell u ty']) (tmps : Array Value) (P : Program) (w : World) :
    (results fn tmps).run P w =
      ((asAddr (tmps.getD p undef)).run P w).andThen fun a w₁ => ((loadVar ty a).run P w₁).andThen fun v w₂ => ((asAddr (tmps.getD u undef)).run P w₂).andThen fun a' w₃ => ((loadVar ty' a').run P w₃).andThen fun v' w₄ => .ok (.tuple #[v, v']) w₄ := by
  simp only [results, h]
  simp [Sem.run_bind, Result.andThen]

/-- a filter drawn, in memory -/
def FilAt (w w' : World) (v : Value) (L : List Wa) : Prop := WRow w' w.heap.size v L ∧ L.length ≤ 15 ∧ (∀ x ∈ L, x.text.size ≤ 4) ∧ Below w.heap.size w w'

theorem FilAt.was {w w' : World} {v : Value} {L : List Wa} (h : FilAt w w' v L) : WasAt w' w'.heap.size v L :=
  WasAt.own h.1 (fun i hi => by have := wa_text h.2.2.1 hi; unfold maxLen; omega)

def DrM (w : World) (e : Ending) (w' : World) : Prop := ∃ ao cap L t, e = .returned (.tuple #[.agg #[.slice ao L.length cap], .string t]) ∧ FilAt w w' (.slice ao L.length cap) L ∧ t.size ≤ 402

def DrB (w : World) (e : Ending) (w' : World) : Prop := ∃ ao cap L ao' cap' L', e = .returned (.tuple #[.agg #[.slice ao L.length cap], .agg #[.slice ao' L'.length cap']]) ∧ FilAt w w' (.slice ao L.length cap) L ∧ FilAt w w' (.slice ao' L'.length cap') L'

theorem row_set {w' : World} {B K : Nat} {v : Value} {L : List Wa} (h : WRow w' B v L) (hK : K < B) (u : Value) : WRow (w'.setCell ⟨K, 0, none⟩ u) B v L :=
  (GrS.of (Lib.grownBy_setCell w' K 0 u)).row h (fun g hg e => by have := (World.ownsRow.lt h g hg).1; simp at e; omega)

set_option maxRecDepth 100000 in
set_option maxHeartbeats 4000000 in
theorem drawMatches_any (ao : Option Addr) (len cap : Nat) (w : World) (hcode : CodeAt w ao len) :
    Calls Tryd.prog 5 #[.slice ao len cap] w (DrM w) := by
  obtain ⟨W1, hW1⟩ : ∃ W, W = w.alloc (.cells #[.slice none 0 0] 25) := ⟨_, rfl⟩
  have hB1 : Below w.heap.size w W1 := by rw [hW1]; exact (Below.refl _ w).alloc (Nat.le_refl _) _
  have HS1 : Hid (W1.heap.size = w.heap.size + 1) := by show _ = _; rw [hW1]; simp
  obtain ⟨W2, hW2⟩ : ∃ W, W = W1.alloc (.cells #[.slice ao len cap, .int .i64 0, .int .u64 0] 50) := ⟨_, rfl⟩
  have hB2 : Below w.heap.size w W2 := by rw [hW2]; exact hB1.alloc hB1.size _
  have HS2 : Hid (W2.heap.size = w.heap.size + 2) := by show _ = _; rw [hW2]; simp; have := HS1.out; omega
  have q0 : W2.cell? ⟨w.heap.size, 0, none⟩ = some (.slice none 0 0) := by rw [hW2, World.cell?_alloc_lt _ _ _ (by show w.heap.size < _; have := HS1.out; omega), hW1]; go_simp
  have z0 : W2.frozen? ⟨w.heap.size, 0, none⟩ = false := by rw [hW2, World.frozen?_alloc_past _ _ _ (by show w.heap.size < _; have := HS1.out; omega), hW1]; go_simp
  have hc2 : Cur W2 (w.heap.size + 1) 0 := by rw [hW2, ← HS1.out]; exact Cur.made (hcode.below hB1) _
  rw [hW1] at hW2
  clear hW1 hB1 HS1
  go_enter Tryd.func5, Tryd.ntmps5
  go_wp2_with fail
  rw [← hW2]
  clear hW2
  refine (filter_any (w.heap.size + 1) 0 W2 hc2 (by omega)).mono ?_
  rintro e w3 ⟨rv, L, rfl, hr, hl1, hl15, htx, hc3, hg3⟩
  obtain ⟨ar, capr, hrv⟩ := hr.slice
  subst hrv
  have hs2 := HS2.out
  have q3 := hg3.cell q0 (by simp)
  have z3 := (hg3.frozen_far ⟨w.heap.size, 0, none⟩ (by show w.heap.size < _; omega) (by simp)).trans z0
  have hs3 := hg3.size
  have HG3 : Hid (W2.grownBy w3 (some (w.heap.size + 1))) := hg3
  have HR : Hid (WRow w3 W2.heap.size (.slice ar L.length capr) L) := hr
  clear hr hg3 q0 z0 hc2
  clear hs2
  go_wp2_with fail
  refine (rising_any (w.heap.size + 1) _ w3 hc3 (by omega)).mono ?_
  rintro e w4 ⟨t, rfl, ht, hc4, hg4⟩
  have hs2 := HS2.out
  have q4 := hg4.cell q3 (by simp)
  have z4 := (hg4.frozen_far ⟨w.heap.size, 0, none⟩ (by show w.heap.size < _; omega) (by simp)).trans z3
  have HR4 : Hid (WRow w4 W2.heap.size (.slice ar L.length capr) L) := (GrS.of hg4).row HR.out (fun g hg e => by have := (World.ownsRow.lt HR.out g hg).1; simp at e; omega)
  have HB4 : Hid (Below w.heap.size w w4) := (hB2.grown HG3.out (by omega) (fun k hk => by simp at hk; omega)).grown hg4 (by omega) (fun k hk => by simp at hk; omega)
  clear hs2 q3 z3 hg4 hc4 hc3 HR HG3
  go_wp2
  (try simp only [Exit.inBlock, Exit.then])
  refine bodyPost_ret (v := .tuple #[.agg #[.slice ar L.length capr], .string t]) ?_ rfl ⟨ar, capr, L, t, rfl, ⟨(row_set HR4.out (by have := HS2.out; omega) _).lower (by have := HS2.out; omega), hl15, htx, HB4.out.setCell (p := ⟨w.heap.size, 0, none⟩) (Nat.le_refl _) _⟩, ht⟩
  rw [results_cell_tmp rfl]
  go_simp

end Go.Proofs.YtmjpmmkjfimopaaDoor
