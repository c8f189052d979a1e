/- Lists of boxes that may share their sides: rows that grow by one, lists written out. The draws of two boxes, of lists of boxes, of points. The law's own comparison of boxes. The point that the laws draw: three numbers of 0 to 11. The draws of points, and of boxes with a point; what the laws of boxes compare. -/
import Derived.Test.YtnbaeplbnonhkaaBdA
import Derived.Test.YtnbaeplbnonhkaaByB
import Derived.Test.YtnbaeplbnonhkaaBxY
import Derived.Test.YtnbaeplbnonhkaaHc
import Derived.Deep.QuietTactic
import Derived.BigQuiet
import Derived.Deep.DeepCutAuto
namespace Go.Proofs.Ytnbaeplbnonhkaa
open Go.RowKit Plain Sch Bxs

/-- a slice's block is there, and is not the row's -/
def Apt (w : World) (B : Nat) (u : Value) (row : Option Nat) : Prop := ∀ a n c, u = .slice (some a) n c → a.block < w.heap.size ∧ row ≠ some a.block ∧ B ≤ a.block

theorem Apt.below {w w' : World} {B : Nat} {u : Value} {row : Option Nat} (h : Apt w B u row) (hs : w.heap.size ≤ w'.heap.size) : Apt w' B u row := fun a n c e => ⟨Nat.lt_of_lt_of_le (h a n c e).1 hs, (h a n c e).2⟩

theorem SdsAt.grown9 {w w' : World} {u : Value} {T : List Sd} {row : Option Nat} (h : SdsAt w w.heap.size u T) (hg : w.grownBy w' row) (ha : ∀ a n c, u = .slice (some a) n c → row ≠ some a.block) : SdsAt w' w'.heap.size u T := by
  obtain ⟨ao, cap, hv, hc, hm, hr⟩ := h
  refine ⟨ao, cap, hv, hc, hm, fun i hi => ?_⟩
  obtain ⟨g, o, hao, hgB, c1, c2⟩ := hr i hi
  have hne : row ≠ some g := ha ⟨g, o, none⟩ T.length cap (by rw [hv, hao])
  refine ⟨g, o, hao, Nat.lt_of_lt_of_le hgB hg.size, hg.cell c1 (fun e => hne e.symm), hg.cell c2 (fun e => hne e.symm)⟩

theorem QRow.apt {w : World} {B : Nat} {u : Value} {L : List Sd} {row : Option Nat} (h : QRow w B u L) (hn : ∀ g, u.ownBlock = some g → row ≠ some g) : Apt w B u row := by
  intro a n c e
  obtain ⟨ty, hr⟩ := h
  have hlt := World.ownsRow.lt hr
  rcases hr.2 with ⟨rfl, _⟩ | ⟨g, cap, cur, rfl, _⟩
  · cases e
  · simp only [Value.slice.injEq, Option.some.injEq] at e
    obtain ⟨rfl, _, _⟩ := e
    exact ⟨(hlt g rfl).2, hn g rfl, (hlt g rfl).1⟩

/-- an own row of boxes, whose sides lie elsewhere -/
def BLs (w : World) (B : Nat) (v : Value) (M : List (List Sd)) (us : List Value) : Prop :=
  w.ownsRow B 25 1 v M.length us ∧ ∀ i, i < M.length → ∃ u, us[i]? = some u ∧ SdsAt w w.heap.size u (mx M i) ∧ Apt w B u v.ownBlock

theorem BLs.nil (w : World) (B : Nat) : BLs w B (.slice none 0 0) [] [] := ⟨⟨rfl, .inl ⟨rfl, rfl⟩⟩, fun i hi => by simp at hi⟩

theorem BLs.at {w : World} {B : Nat} {v : Value} {M : List (List Sd)} {us : List Value} (h : BLs w B v M us) : BxsAt w w.heap.size v M := by
  obtain ⟨h1, h2⟩ := h
  have h0 := h1
  obtain ⟨_, ⟨rfl, hn0⟩ | ⟨g, cap, cur, rfl, hB, hb, hnc, hcm, _⟩⟩ := h1
  · exact ⟨none, 0, by rw [hn0], by omega, by unfold maxLen; omega, fun i hi => by omega⟩
  · refine ⟨some ⟨g, 0, none⟩, cap, rfl, hnc, hcm, fun i hi => ?_⟩
    obtain ⟨u, hu, hq, _⟩ := h2 i hi
    refine ⟨g, 0, u, rfl, (h0.lt g rfl).2, ?_, hq⟩
    rw [Nat.zero_add, h0.cellAt i (by omega)]
    exact hu

theorem BLs.slice {w : World} {B : Nat} {v : Value} {M : List (List Sd)} {us : List Value} (h : BLs w B v M us) : ∃ ao cap, v = Value.slice ao M.length cap := by
  rcases h.1.2 with ⟨rfl, h0⟩ | ⟨g, cap, _, rfl, _⟩
  · exact ⟨none, 0, by rw [h0]⟩
  · exact ⟨_, _, rfl⟩

theorem BLs.grown {w w' : World} {B : Nat} {v : Value} {M : List (List Sd)} {us : List Value} {row : Option Nat} (h : BLs w B v M us) (hg : w.grownBy w' row) (hv : ∀ g, v.ownBlock = some g → some g ≠ row) (hu : ∀ (i : Nat) (u : Value) (a : Addr) (n c : Nat), us[i]? = some u → u = .slice (some a) n c → row ≠ some a.block) : BLs w' B v M us := by
  refine ⟨own_beside9 h.1 hg hv, fun i hi => ?_⟩
  obtain ⟨u, e, hs, ha⟩ := h.2 i hi
  exact ⟨u, e, hs.grown9 hg (fun a n c => hu i u a n c e), ha.below hg.size⟩

theorem BLs.bounds {w : World} {B : Nat} {v : Value} {M : List (List Sd)} {us : List Value} (h : BLs w B v M us) : ∀ (i : Nat) (u : Value) (a : Addr) (n c : Nat), us[i]? = some u → u = .slice (some a) n c → a.block < w.heap.size ∧ B ≤ a.block := by
  intro i u a n c e e2
  have hul : us.length = M.length := by have := h.1.1; omega
  have hi := (List.getElem?_eq_some_iff.1 e).1
  obtain ⟨u', e', _, ha⟩ := h.2 i (by omega)
  rw [e] at e'
  cases e'
  obtain ⟨h1, _, h3⟩ := ha a n c e2
  exact ⟨h1, h3⟩

theorem BLs.below {w w' : World} {B : Nat} {v : Value} {M : List (List Sd)} {us : List Value} (h : BLs w B v M us) (hb : Below w.heap.size w w') : BLs w' B v M us :=
  ⟨own_below2 h.1 hb, fun i hi => by
    obtain ⟨u, e, hs, ha⟩ := h.2 i hi
    exact ⟨u, e, hs.below hb, ha.below hb.size⟩⟩

/-- one box more -/
theorem BLs.snoc {w w9 : World} {B g cap : Nat} {v u : Value} {M : List (List Sd)} {us : List Value} {L : List Sd} {o : Obj} (h : BLs w B v M us) (hq : SdsAt w w.heap.size u L) (ha : Apt w B u v.ownBlock)
    (hown : w9.ownsRow B 25 1 (.slice (some ⟨g, 0, none⟩) (M.length + 1) cap) (M.length + 1) (us ++ [u])) (hgrow : (w.alloc o).grownBy w9 v.ownBlock) (hat : v.ownBlock = some g ∨ g = w.heap.size + 1) :
    BLs w9 B (.slice (some ⟨g, 0, none⟩) (M.length + 1) cap) (M ++ [L]) (us ++ [u]) := by
  have hul : us.length = M.length := by have := h.1.1; omega
  have hba : Below w.heap.size w (w.alloc o) := (Below.refl _ w).alloc (Nat.le_refl _) o
  have key : ∀ x T, SdsAt w w.heap.size x T → Apt w B x v.ownBlock → SdsAt w9 w9.heap.size x T ∧ Apt w9 B x (Value.slice (some ⟨g, 0, none⟩) (M.length + 1) cap).ownBlock := fun x T h1 h2 => by
    refine ⟨(h1.below hba).grown9 hgrow (fun a n c e => (h2 a n c e).2.1), fun a n c e => ?_⟩
    obtain ⟨q1, q2, q3⟩ := h2 a n c e
    refine ⟨Nat.lt_of_lt_of_le q1 (Nat.le_trans hba.size hgrow.size), fun e2 => ?_, q3⟩
    have e3 : g = a.block := by simpa [Value.ownBlock] using e2
    rcases hat with h3 | h3
    · exact q2 (by rw [h3, e3])
    · omega
  refine ⟨by rw [List.length_append]; exact hown, fun i hi => ?_⟩
  by_cases hl : i < M.length
  · obtain ⟨x, e, hs, hx⟩ := h.2 i hl
    obtain ⟨k1, k2⟩ := key x _ hs hx
    exact ⟨x, by rw [List.getElem?_append_left (by omega)]; exact e, by rw [mx_old hl]; exact k1, k2⟩
  · have hie : i = M.length := by simp at hi; omega
    subst hie
    obtain ⟨k1, k2⟩ := key u L hq ha
    exact ⟨u, by rw [List.getElem?_append_right (by omega), hul]; simp, by rw [mx_new]; exact k1, k2⟩

/-- lists of one and two boxes, as a call makes them -/
theorem one_box {w : World} {u : Value} {T : List Sd} (h : SdsAt w w.heap.size u T) : BxsAt (w.alloc (.cells #[u] 25)) (w.alloc (.cells #[u] 25)).heap.size (.slice (some ⟨w.heap.size, 0, none⟩) 1 1) [T] := by
  refine ⟨some ⟨w.heap.size, 0, none⟩, 1, rfl, by simp, by unfold maxLen; omega, fun i hi => ⟨w.heap.size, 0, u, rfl, by simp, ?_, ?_⟩⟩
  · obtain rfl : i = 0 := by simpa using hi
    go_simp
  · obtain rfl : i = 0 := by simpa using hi
    exact h.below ((Below.refl _ w).alloc (Nat.le_refl _) _)

theorem two_box {w : World} {u v : Value} {T U : List Sd} (h : SdsAt w w.heap.size u T) (h2 : SdsAt w w.heap.size v U) : BxsAt (w.alloc (.cells #[u, v] 25)) (w.alloc (.cells #[u, v] 25)).heap.size (.slice (some ⟨w.heap.size, 0, none⟩) 2 2) [T, U] := by
  refine ⟨some ⟨w.heap.size, 0, none⟩, 2, rfl, by simp, by unfold maxLen; omega, fun i hi => ?_⟩
  match i, hi with
  | 0, _ => exact ⟨w.heap.size, 0, u, rfl, by simp, by go_simp, h.below ((Below.refl _ w).alloc (Nat.le_refl _) _)⟩
  | 1, _ => exact ⟨w.heap.size, 0, v, rfl, by simp, by go_simp, h2.below ((Below.refl _ w).alloc (Nat.le_refl _) _)⟩

end Go.Proofs.Ytnbaeplbnonhkaa

namespace Go.Proofs.Ytnbaeplbnonhkaa
open Go.RowKit Plain Sch Bxs

theorem results_cell_cellB {fn : Func} {p u : Tmp} {ty ty' : TypeId} (h : fn.results = #[.cell p ty, .cell u ty']) (tmps : Array Value) (P : Program) (w : World) :
    (results fn tmps).run P w =
      ((asAddr (tmps.getD p undef)).run P w).andThen fun a w₁ => ((loadVar ty a).run P w₁).andThen fun v w₂ => ((asAddr (tmps.getD u undef)).run P w₂).andThen fun a' w₃ => ((loadVar ty' a').run P w₃).andThen fun v' w₄ => .ok (.tuple #[v, v']) w₄ := by
  simp only [results, h]
  simp [Sem.run_bind, Result.andThen]

/-- two boxes drawn: their variables, the results' cells, the memory that was there -/
structure Two (w : World) (A B : Nat) (u1 u2 : Value) (L1 L2 : List Sd) (W : World) : Prop where
  a : W.cell? ⟨A, 0, none⟩ = some u1
  af : W.frozen? ⟨A, 0, none⟩ = false
  b : W.cell? ⟨B, 0, none⟩ = some u2
  r0 : W.cell? ⟨w.heap.size, 0, none⟩ = some (.slice none 0 0)
  r0f : W.frozen? ⟨w.heap.size, 0, none⟩ = false
  r1 : W.cell? ⟨w.heap.size + 1, 0, none⟩ = some (.slice none 0 0)
  r1f : W.frozen? ⟨w.heap.size + 1, 0, none⟩ = false
  s1 : ∃ ty, SRow W (w.heap.size + 3) ty u1 L1
  s2 : ∃ ty, SRow W (w.heap.size + 3) ty u2 L2
  bel : Below w.heap.size w W
  hA : w.heap.size + 2 < A
  hB : A < B

theorem Two.grown {w W W' : World} {A B : Nat} {u1 u2 : Value} {L1 L2 : List Sd} (h : Two w A B u1 u2 L1 L2 W) (hg : W.grownBy W' (some (w.heap.size + 2))) : Two w A B u1 u2 L1 L2 W' := by
  have h1 := h.hA
  have h2 := h.hB
  have la := World.block_lt_of_cell? W _ h.a
  have l0 := World.block_lt_of_cell? W _ h.r0
  have l1 := World.block_lt_of_cell? W _ h.r1
  refine ⟨hg.cell h.a (by simp; omega), (hg.frozen_far _ la (by simp; omega)).trans h.af, hg.cell h.b (by simp; omega), hg.cell h.r0 (by simp), (hg.frozen_far _ l0 (by simp)).trans h.r0f, hg.cell h.r1 (by simp), (hg.frozen_far _ l1 (by simp)).trans h.r1f, ?_, ?_, h.bel.grown hg h.bel.size (fun k hk => by simp at hk; omega), h1, h2⟩
  · obtain ⟨ty, hs⟩ := h.s1
    exact ⟨ty, srow_grown hg hs (fun g hg' e => by have := (World.ownsRow.lt hs g hg').1; simp at e; omega)⟩
  · obtain ⟨ty, hs⟩ := h.s2
    exact ⟨ty, srow_grown hg hs (fun g hg' e => by have := (World.ownsRow.lt hs g hg').1; simp at e; omega)⟩

theorem Two.below {w W W' : World} {A B : Nat} {u1 u2 : Value} {L1 L2 : List Sd} (h : Two w A B u1 u2 L1 L2 W) (hb : Below W.heap.size W W') : Two w A B u1 u2 L1 L2 W' :=
  h.grown ⟨hb.os, hb.tape, hb.output, hb.size, fun k hk _ => hb.block k hk⟩

theorem Two.drew {w W : World} {A B n : Nat} {u1 u2 : Value} {L1 L2 : List Sd} (h : Two w A B u1 u2 L1 L2 W) : Two w A B u1 u2 L1 L2 (W.drewN n) :=
  ⟨h.a, h.af, h.b, h.r0, h.r0f, h.r1, h.r1f, h.s1, h.s2, ⟨h.bel.os, h.bel.tape, h.bel.output, h.bel.size, h.bel.block⟩, h.hA, h.hB⟩

/-- the first one is another -/
theorem Two.set {w W : World} {A B ty : Nat} {u1 u2 u : Value} {L1 L2 L : List Sd} (h : Two w A B u1 u2 L1 L2 W) (hs : SRow W (w.heap.size + 3) ty u L) (hn : u.ownBlock ≠ some A) (hn2 : u2.ownBlock ≠ some A) : Two w A B u u2 L L2 (W.setCell ⟨A, 0, none⟩ u) := by
  have h1 := h.hA
  have h2 := h.hB
  have l0 := World.block_lt_of_cell? W _ h.r0
  have l1 := World.block_lt_of_cell? W _ h.r1
  have hg := Lib.grownBy_setCell W A 0 u
  refine ⟨World.cell?_setCell_same _ _ _ h.a, by rw [World.frozen?_setCell]; exact h.af, hg.cell h.b (by simp; omega), hg.cell h.r0 (by simp; omega), (hg.frozen_far _ l0 (by simp; omega)).trans h.r0f, hg.cell h.r1 (by simp; omega), (hg.frozen_far _ l1 (by simp; omega)).trans h.r1f, ⟨ty, srow_grown hg hs (fun g hg' e => hn (by rw [hg', e]))⟩, ?_, h.bel.grown hg h.bel.size (fun k hk => by simp at hk; omega), h1, h2⟩
  obtain ⟨ty, hs2⟩ := h.s2
  exact ⟨ty, srow_grown hg hs2 (fun g hg' e => hn2 (by rw [hg', e]))⟩

def CovR (w : World) (e : Ending) (w' : World) : Prop :=
  ∃ va vb L1 L2, e = .returned (.tuple #[.agg #[va], .agg #[vb]]) ∧ QRow w' w.heap.size va L1 ∧ QRow w' w.heap.size vb L2 ∧ Below w.heap.size w w'

theorem Two.fin {w W : World} {A B n : Nat} {u1 u2 : Value} {L1 L2 : List Sd} (h : Two w A B u1 u2 L1 L2 W) : CovR w (.returned (.tuple #[.agg #[u1], .agg #[u2]])) (((W.setCell ⟨w.heap.size, 0, none⟩ u1).setCell ⟨w.heap.size + 1, 0, none⟩ u2).drewN n) := by
  have g1 := Lib.grownBy_setCell W w.heap.size 0 u1
  have g2 := Lib.grownBy_setCell (W.setCell ⟨w.heap.size, 0, none⟩ u1) (w.heap.size + 1) 0 u2
  have key : ∀ u L, (∃ ty, SRow W (w.heap.size + 3) ty u L) → QRow (((W.setCell ⟨w.heap.size, 0, none⟩ u1).setCell ⟨w.heap.size + 1, 0, none⟩ u2).drewN n) w.heap.size u L := fun u L ⟨ty, hs⟩ => by
    have q1 := srow_grown g1 hs (fun g hg' e => by have := (World.ownsRow.lt hs g hg').1; simp at e; omega)
    have q2 := srow_grown g2 q1 (fun g hg' e => by have := (World.ownsRow.lt hs g hg').1; simp at e; omega)
    exact ⟨ty, own_lower q2 (by omega)⟩
  refine ⟨u1, u2, L1, L2, rfl, key _ _ h.s1, key _ _ h.s2, ?_⟩
  have hb := (h.bel.grown g1 h.bel.size (fun k hk => by simp at hk; omega)).grown g2 (by simp; exact h.bel.size) (fun k hk => by simp at hk; omega)
  exact ⟨hb.os, hb.tape, hb.output, hb.size, hb.block⟩

set_option maxRecDepth 100000 in
set_option maxHeartbeats 8000000 in
theorem drawCov_any (ao : Option Addr) (len cap : Nat) (w : World) (hcode : CodeAt w ao len) :
    Calls Try.prog 5 #[.slice ao len cap] w (CovR w) := by
  have rc := fun (tmps : Array Value) (P : Program) (w : World) => results_cell_cellB (fn := Try.f5) (p := 2) (u := 3) (ty := 25) (ty' := 25) rfl tmps P w
  obtain ⟨W0, hW0⟩ : ∃ W, W = (w.alloc (.cells #[.slice none 0 0] 25)).alloc (.cells #[.slice none 0 0] 25) := ⟨_, rfl⟩
  obtain ⟨W1, hW1⟩ : ∃ W, W = W0.alloc (.cells #[.slice ao len cap, .int .i64 0, .int .u64 0] 54) := ⟨_, rfl⟩
  have hs0 : W0.heap.size = w.heap.size + 2 := by rw [hW0]; simp
  have hB0 : Below w.heap.size w W0 := by rw [hW0]; exact ((Below.refl _ w).alloc (Nat.le_refl _) _).alloc (by simp) _
  have hc1 : Cur W1 (w.heap.size + 2) 0 := by
    have := Cur.made (cap := cap) (hcode.below hB0) 54
    rw [← hW1, hs0] at this
    exact this
  have hB1 : Below w.heap.size w W1 := by rw [hW1]; exact hB0.alloc hB0.size _
  have hs1 : W1.heap.size = w.heap.size + 3 := by rw [hW1]; simp [hs0]
  have R1 : W1.cell? ⟨w.heap.size, 0, none⟩ = some (.slice none 0 0) ∧ W1.frozen? ⟨w.heap.size, 0, none⟩ = false ∧ W1.cell? ⟨w.heap.size + 1, 0, none⟩ = some (.slice none 0 0) ∧ W1.frozen? ⟨w.heap.size + 1, 0, none⟩ = false := by
    rw [hW1, hW0]
    refine ⟨?_, ?_, ?_, ?_⟩ <;> go_simp
  have HW1 : Hid (W1 = ((w.alloc (.cells #[.slice none 0 0] 25)).alloc (.cells #[.slice none 0 0] 25)).alloc (.cells #[.slice ao len cap, .int .i64 0, .int .u64 0] 54)) := by show _ = _; rw [hW1, hW0]
  have HS1 : Hid (W1.heap.size = w.heap.size + 3) := hs1
  clear hW1 hW0 hs0 hB0 hs1
  go_enter Try.func5, Try.ntmps5
  go_wp2_with fail
  rw [← HW1.out]
  clear HW1
  refine (drawBox_any (w.heap.size + 2) 0 W1 hc1 (by omega)).mono ?_
  rintro e w2 ⟨rv1, L1, rfl, hr1, hl1, hc2, hg2⟩
  clear hl1
  obtain ⟨av1, cv1, rfl⟩ := hr1.slice
  obtain ⟨W3, hW3⟩ : ∃ W, W = w2.alloc (.cells #[.slice av1 L1.length cv1] 25) := ⟨_, rfl⟩
  have hs2 := hg2.size
  have hc3 : Cur W3 (w.heap.size + 2) 100 := by rw [hW3]; exact hc2.alloc _
  have A3 : W3.cell? ⟨w2.heap.size, 0, none⟩ = some (.slice av1 L1.length cv1) ∧ W3.frozen? ⟨w2.heap.size, 0, none⟩ = false := by rw [hW3]; exact ⟨by go_simp, by go_simp⟩
  have hb23 : Below w2.heap.size w2 W3 := by rw [hW3]; exact (Below.refl _ w2).alloc (Nat.le_refl _) _
  have HS3 : Hid (W3.heap.size = w2.heap.size + 1) := by show _ = _; rw [hW3]; simp
  have HW3 : Hid (W3 = w2.alloc (.cells #[.slice av1 L1.length cv1] 25)) := hW3
  clear hW3
  go_wp2_with fail
  rw [← HW3.out]
  clear HW3
  refine (drawBox_any (w.heap.size + 2) 100 W3 hc3 (by omega)).mono ?_
  rintro e w4 ⟨rv2, L2, rfl, hr2, hl2, hc4, hg4⟩
  clear hl2
  obtain ⟨av2, cv2, rfl⟩ := hr2.slice
  obtain ⟨W5, hW5⟩ : ∃ W, W = w4.alloc (.cells #[.slice av2 L2.length cv2] 25) := ⟨_, rfl⟩
  have hT5 : Two w w2.heap.size w4.heap.size (.slice av1 L1.length cv1) (.slice av2 L2.length cv2) L1 L2 W5 := by
    have h1 := HS1.out
    have h3 := HS3.out
    have hs4 := hg4.size
    have hb45 : Below w4.heap.size w4 W5 := by rw [hW5]; exact (Below.refl _ w4).alloc (Nat.le_refl _) _
    have hbl : ∀ {k : Nat}, k < W1.heap.size → k ≠ w.heap.size + 2 → W5.heap[k]? = W1.heap[k]? := fun {k} hk hne => by
      rw [hb45.block k (by omega), hg4.block k (by omega) (by simp; omega), hb23.block k (by omega), hg2.block k hk (by simp; omega)]
    have hbl0 : W5.heap[w.heap.size]? = W1.heap[w.heap.size]? := hbl (by omega) (by omega)
    have hbl1 : W5.heap[w.heap.size + 1]? = W1.heap[w.heap.size + 1]? := hbl (by omega) (by omega)
    have hblA : W5.heap[w2.heap.size]? = W3.heap[w2.heap.size]? := by
      rw [hb45.block _ (by omega), hg4.block _ (by omega) (by simp; omega)]
    refine ⟨(World.cell?_of_block hblA).trans A3.1, (World.frozen?_of_block hblA).trans A3.2, by rw [hW5]; go_simp, (World.cell?_of_block hbl0).trans R1.1, (World.frozen?_of_block hbl0).trans R1.2.1, (World.cell?_of_block hbl1).trans R1.2.2.1, (World.frozen?_of_block hbl1).trans R1.2.2.2, ⟨58, ?_⟩, ⟨58, ?_⟩, ?_, by omega, by omega⟩
    · have q1 := own_lower hr1 (show w.heap.size + 3 ≤ W1.heap.size by omega)
      have q2 : SRow W3 (w.heap.size + 3) 58 (.slice av1 L1.length cv1) L1 := own_below2 q1 hb23
      have q3 := srow_grown hg4 q2 (fun g hg' e => by have := (World.ownsRow.lt q2 g hg').1; simp at e; omega)
      exact own_below2 q3 hb45
    · exact own_below2 (own_lower hr2 (show w.heap.size + 3 ≤ W3.heap.size by omega)) hb45
    · have b2 := hB1.grown hg2 hB1.size (fun k hk => by simp at hk; omega)
      have b3 := b2.trans (hb23.mono b2.size)
      have b4 := b3.grown hg4 b3.size (fun k hk => by simp at hk; omega)
      exact b4.trans (hb45.mono b4.size)
  have hc5 : Cur W5 (w.heap.size + 2) 200 := by rw [hW5]; exact hc4.alloc _
  have hnA : (Value.slice av2 L2.length cv2).ownBlock ≠ some w2.heap.size := fun e => by have := (World.ownsRow.lt hr2 _ e).1; have := HS3.out; omega
  have HW5 : Hid (W5 = w4.alloc (.cells #[.slice av2 L2.length cv2] 25)) := hW5
  clear hW5 hr1 hr2 hc2 hc3 hc4 hg2 hg4 A3 hb23 R1 hB1 hc1 hs2
  go_wp2_with fail
  rw [← HW5.out]
  clear HW5
  refine (one_any (w.heap.size + 2) 200 _ W5 hc5 (by omega)).mono ?_
  rintro e w6 ⟨t, rfl, hc6, hg6⟩
  have hT6 := hT5.grown hg6
  clear hT5 hg6 hc6 hc5
  have HT6 : Hid (Two w w2.heap.size w4.heap.size (.slice av1 L1.length cv1) (.slice av2 L2.length cv2) L1 L2 w6) := hT6
  have lb6 := World.block_lt_of_cell? w6 _ hT6.b
  dsimp only at lb6
  obtain ⟨a6, af6, b6, r06, r0f6, r16, r1f6, s16, s26, bel6, hA6, hB6⟩ := hT6
  have hfin : ∀ {u : Value} {L : List Sd} {W : World} (n : Nat), Two w w2.heap.size w4.heap.size u (.slice av2 L2.length cv2) L L2 W → CovR w (.returned (.tuple #[.agg #[u], .agg #[.slice av2 L2.length cv2]])) (((W.setCell ⟨w.heap.size, 0, none⟩ u).setCell ⟨w.heap.size + 1, 0, none⟩ (.slice av2 L2.length cv2)).drewN n) := fun n h => h.fin
  have HFIN : Hid (∀ {u : Value} {L : List Sd} {W : World} (n : Nat), Two w w2.heap.size w4.heap.size u (.slice av2 L2.length cv2) L L2 W → CovR w (.returned (.tuple #[.agg #[u], .agg #[.slice av2 L2.length cv2]])) (((W.setCell ⟨w.heap.size, 0, none⟩ u).setCell ⟨w.heap.size + 1, 0, none⟩ (.slice av2 L2.length cv2)).drewN n)) := hfin
  clear hfin
  cases t with
  | false =>
    go_wp2_with fail
    go_region
    all_goals
      go_wp2
      refine bodyPost_ret (v := .tuple #[.agg #[.slice av1 L1.length cv1], .agg #[.slice av2 L2.length cv2]]) ?_ rfl ?_
      · rw [rc]
        go_simp
      · exact HFIN.out 1 HT6.out
  | true =>
    have hS1 : SdsAt w6 w6.heap.size (.slice av1 L1.length cv1) L1 := QRow.at s16
    have hS2 : SdsAt w6 w6.heap.size (.slice av2 L2.length cv2) L2 := QRow.at s26
    go_wp2_with fail
    refine (specHull L1 L2 _ _ w6 hS1 hS2).mono ?_
    rintro e w7 ⟨⟨vh, rfl, hrh⟩, hb7⟩
    obtain ⟨avh, cvh, rfl⟩ := hrh.slice
    obtain ⟨W8, hW8⟩ : ∃ W, W = w7.alloc (.cells #[.slice avh (hlo L1 L2).length cvh] 25) := ⟨_, rfl⟩
    have hb78 : Below w7.heap.size w7 W8 := by rw [hW8]; exact (Below.refl _ w7).alloc (Nat.le_refl _) _
    have hb68 : Below w6.heap.size w6 W8 := hb7.trans (hb78.mono hb7.size)
    have hT8 := HT6.out.below hb68
    have c8 : W8.cell? ⟨w7.heap.size, 0, none⟩ = some (.slice avh (hlo L1 L2).length cvh) := by rw [hW8]; go_simp
    have hl8 := World.block_lt_of_cell? W8 _ c8
    have h67 := hb7.size
    have h6s := bel6.size
    have hrh8 : SRow W8 (w.heap.size + 3) 58 (.slice avh (hlo L1 L2).length cvh) (hlo L1 L2) := own_below2 (own_lower hrh (by have := hA6; omega)) hb78
    have hnh : (Value.slice avh (hlo L1 L2).length cvh).ownBlock ≠ some w2.heap.size := fun e => by have := (World.ownsRow.lt hrh _ e).1; omega
    have hT9 := hT8.set hrh8 hnh hnA
    have HT8 : Hid (Two w w2.heap.size w4.heap.size (.slice av1 L1.length cv1) (.slice av2 L2.length cv2) L1 L2 W8) := hT8
    have HW8 : Hid (W8 = w7.alloc (.cells #[.slice avh (hlo L1 L2).length cvh] 25)) := hW8
    dsimp only at hl8
    clear hW8 hrh hb7 hb78 hb68 hrh8 hS1 hS2 s16 s26 hnh a6 af6 b6 r06 r0f6 r16 r1f6 HT6
    generalize hlo L1 L2 = Lh at HW8 c8 hT9
    generalize (gb L1 && gb L2) = ok
    cases ok with
    | false =>
      obtain ⟨a8, af8, b8, r08, r0f8, r18, r1f8, _, _, _, _, _⟩ := hT8
      clear hT9
      go_upto_region 8 with fail
      rw [← HW8.out]
      go_region
      all_goals
        go_wp2
        refine bodyPost_ret (v := .tuple #[.agg #[.slice av1 L1.length cv1], .agg #[.slice av2 L2.length cv2]]) ?_ rfl ?_
        · rw [rc]
          go_simp
        · exact HFIN.out 1 HT8.out
    | true =>
      obtain ⟨a8, af8, b8, r08, r0f8, r18, r1f8, _, _, _, _, _⟩ := hT8
      obtain ⟨W9, hW9⟩ : ∃ W, W = W8.setCell ⟨w2.heap.size, 0, none⟩ (.slice avh Lh.length cvh) := ⟨_, rfl⟩
      rw [← hW9] at hT9
      have HT9 : Hid (Two w w2.heap.size w4.heap.size (.slice avh Lh.length cvh) (.slice av2 L2.length cv2) Lh L2 W9) := hT9
      have HW9 : Hid (W9 = W8.setCell ⟨w2.heap.size, 0, none⟩ (.slice avh Lh.length cvh)) := hW9
      obtain ⟨a9, af9, b9, r09, r0f9, r19, r1f9, _, _, _, _, _⟩ := hT9
      clear hW9
      go_upto_region 7 with fail
      rw [← HW8.out]
      go_upto_region 8 with fail
      rw [← HW9.out]
      clear a8 af8 b8 r08 r0f8 r18 r1f8 c8
      go_region
      all_goals
        go_wp2
        refine bodyPost_ret (v := .tuple #[.agg #[.slice avh Lh.length cvh], .agg #[.slice av2 L2.length cv2]]) ?_ rfl ?_
        · rw [rc]
          go_simp
        · exact HFIN.out 1 HT9.out

set_option maxRecDepth 100000 in
set_option maxHeartbeats 4000000 in
theorem drawCut_any (ao : Option Addr) (len cap : Nat) (w : World) (hcode : CodeAt w ao len) :
    Calls Try.prog 22 #[.slice ao len cap] w (CovR w) := by
  have rc := fun (tmps : Array Value) (P : Program) (w : World) => results_cell_cellB (fn := Try.f22) (p := 2) (u := 3) (ty := 25) (ty' := 25) rfl tmps P w
  obtain ⟨W0, hW0⟩ : ∃ W, W = (w.alloc (.cells #[.slice none 0 0] 25)).alloc (.cells #[.slice none 0 0] 25) := ⟨_, rfl⟩
  have hs0 : W0.heap.size = w.heap.size + 2 := by rw [hW0]; simp
  have hB0 : Below w.heap.size w W0 := by rw [hW0]; exact ((Below.refl _ w).alloc (Nat.le_refl _) _).alloc (by simp) _
  have R0 : W0.cell? ⟨w.heap.size, 0, none⟩ = some (.slice none 0 0) ∧ W0.frozen? ⟨w.heap.size, 0, none⟩ = false ∧ W0.cell? ⟨w.heap.size + 1, 0, none⟩ = some (.slice none 0 0) ∧ W0.frozen? ⟨w.heap.size + 1, 0, none⟩ = false := by
    rw [hW0]
    refine ⟨?_, ?_, ?_, ?_⟩ <;> go_simp
  have HW0 : Hid (W0 = (w.alloc (.cells #[.slice none 0 0] 25)).alloc (.cells #[.slice none 0 0] 25)) := hW0
  have CC := drawCov_any ao len cap W0 (hcode.below hB0)
  clear hW0
  go_enter Try.func22, Try.ntmps22
  go_wp2_with fail
  rw [← HW0.out]
  clear HW0
  refine CC.mono ?_
  rintro e w1 ⟨va, vb, L1, L2, rfl, hsa, hsb, hb1⟩
  have key : ∀ u L, QRow w1 W0.heap.size u L → QRow ((w1.setCell ⟨w.heap.size, 0, none⟩ va).setCell ⟨w.heap.size + 1, 0, none⟩ vb) w.heap.size u L := fun u L ⟨ty, hs⟩ => by
    have q1 := srow_grown (Lib.grownBy_setCell w1 w.heap.size 0 va) hs (fun g hg' e => by have := (World.ownsRow.lt hs g hg').1; simp at e; omega)
    have q2 := srow_grown (Lib.grownBy_setCell (w1.setCell ⟨w.heap.size, 0, none⟩ va) (w.heap.size + 1) 0 vb) q1 (fun g hg' e => by have := (World.ownsRow.lt hs g hg').1; simp at e; omega)
    exact ⟨ty, own_lower q2 (by omega)⟩
  have hbw := hB0.trans (hb1.mono hB0.size)
  have hb9 : Below w.heap.size w ((w1.setCell ⟨w.heap.size, 0, none⟩ va).setCell ⟨w.heap.size + 1, 0, none⟩ vb) := (hbw.setCell (p := ⟨w.heap.size, 0, none⟩) (Nat.le_refl _) _).setCell (p := ⟨w.heap.size + 1, 0, none⟩) (by show w.heap.size ≤ w.heap.size + 1; omega) _
  have r0 := (hb1.cell (p := ⟨w.heap.size, 0, none⟩) (by show w.heap.size < _; omega)).trans R0.1
  have r0f := (hb1.frozen (p := ⟨w.heap.size, 0, none⟩) (by show w.heap.size < _; omega)).trans R0.2.1
  have r1 := (hb1.cell (p := ⟨w.heap.size + 1, 0, none⟩) (by show w.heap.size + 1 < _; omega)).trans R0.2.2.1
  have r1f := (hb1.frozen (p := ⟨w.heap.size + 1, 0, none⟩) (by show w.heap.size + 1 < _; omega)).trans R0.2.2.2
  have K1 : Hid (QRow ((w1.setCell ⟨w.heap.size, 0, none⟩ va).setCell ⟨w.heap.size + 1, 0, none⟩ vb) w.heap.size va L1) := key va L1 hsa
  have K2 : Hid (QRow ((w1.setCell ⟨w.heap.size, 0, none⟩ va).setCell ⟨w.heap.size + 1, 0, none⟩ vb) w.heap.size vb L2) := key vb L2 hsb
  obtain ⟨tya, hsa'⟩ := hsa
  obtain ⟨tyb, hsb'⟩ := hsb
  obtain ⟨ava, cva, rfl⟩ := hsa'.slice
  obtain ⟨avb, cvb, rfl⟩ := hsb'.slice
  have hl0 : w.heap.size + 1 < w1.heap.size := by have := hb1.size; omega
  clear key hsa' hsb' hb1 R0 hs0
  go_wp2
  refine bodyPost_ret (v := .tuple #[.agg #[.slice ava L1.length cva], .agg #[.slice avb L2.length cvb]]) ?_ rfl ?_
  · rw [rc]
    go_simp
  · exact ⟨_, _, _, _, rfl, K1.out, K2.out, hb9⟩

theorem one_slice (a : Option Addr) (n c : Nat) : ∀ u ∈ [Value.slice a n c], u.oneCell' = true := by
  intro u hu; simp at hu; subst hu; rfl

theorem boxes_step {w W w9 : World} {b m9 g cap : Nat} {v u : Value} {M : List (List Sd)} {us : List Value} {T : List Sd} {o : Obj} (hc : Cur W b m9) (hg : w.grownBy W (some b)) (hBL : BLs W w.heap.size v M us) (hS : SdsAt W W.heap.size u T) (hA : Apt W w.heap.size u v.ownBlock) (hb : b < w.heap.size)
    (hown : w9.ownsRow w.heap.size 25 1 (.slice (some ⟨g, 0, none⟩) (M.length + 1) cap) (M.length + 1) (us ++ [u])) (hgrow : (W.alloc o).grownBy w9 v.ownBlock) (hat : v.ownBlock = some g ∨ g = W.heap.size + 1) :
    BLs w9 w.heap.size (.slice (some ⟨g, 0, none⟩) (M.length + 1) cap) (M ++ [T]) (us ++ [u]) ∧ Cur w9 b m9 ∧ w.grownBy w9 (some b) := by
  have hlt := World.ownsRow.lt hBL.1
  have hga : w.grownBy (W.alloc o) (some b) := Lib.grownBy_allocR hg o
  have hsa := hga.size
  exact ⟨hBL.snoc hS hA hown hgrow hat, (hc.alloc o).grown hgrow (fun k hk => by have := (hlt k hk).1; omega),
    ⟨hgrow.os.trans hga.os, hgrow.tape.trans hga.tape, hgrow.output.trans hga.output, Nat.le_trans hga.size hgrow.size, fun i hi hne => (hgrow.block i (by omega) (fun e => by have := (hlt i e.symm).1; omega)).trans (hga.block i hi hne)⟩⟩

set_option maxRecDepth 100000 in
set_option maxHeartbeats 8000000 in
theorem boxes_any (b m : Nat) (w : World) (hc : Cur w b m) (hm : m ≤ 600000000) :
    Calls Try.prog 43 #[.pointer (some ⟨b, 0, none⟩)] w fun e w' => (∃ v M us, e = .returned v ∧ M.length ≤ 100 ∧ BLs w' w.heap.size v M us) ∧ Cur w' b (m + 20000) ∧ w.grownBy w' (some b) := by
  obtain ⟨i0, hi0, hz0, hz1', hz2⟩ := info_parts Try.infoBx
  have hbw := hc.lt
  go_enter Try.func43, Try.ntmps43
  go_wp2_with fail
  refine (pick_any b m _ _ hc (by omega)).mono ?_
  rintro e w1 ⟨n0, rfl, hn0, hc1, hg1⟩
  have hn6 : n0 ≤ 6 := by omega
  clear hn0 hc
  go_wp2_with fail
  refine (one_any b _ _ _ hc1 (by omega)).mono ?_
  rintro e w2 ⟨t, rfl, hc2, hg2⟩
  have hg2' := Lib.grownBy_trans hg1 hg2
  clear hc1 hg1 hg2
  go_upto_if 9 with fail
  go_cut [4] (fun s4 wx => ∃ n : Nat, n ≤ 30 ∧ s4 = .int .i64 (n : Int) ∧ Cur wx b (m + 10) ∧ w.grownBy wx (some b))
  case first =>
    cases t with
    | false =>
      go_wp2_with fail
      go_meet
      exact ⟨n0, by omega, rfl, hc2.le (by omega), hg2'⟩
    | true =>
      go_wp2_with fail
      refine (pick_any b _ _ _ hc2 (by omega)).mono ?_
      rintro e w3 ⟨n1, rfl, hn1, hc3, hg3⟩
      have hn2 : (n1 : Int) ≤ 2 := by omega
      go_wp2_with fail
      go_meet
      exact ⟨20 + n1, by omega, by go_num, hc3.le (by omega), Lib.grownBy_trans hg2' hg3⟩
  case rest =>
    obtain ⟨n1, hn1, rfl, hc3, hg3⟩ := hcut
    clear hc2 hg2' hn6
    go_wp2_with fail
    go_loopw [3, 4] (fun vl vn wr => ∃ (n : Nat) (M : List (List Sd)) (us : List Value), n ≤ 30 ∧ vn = .int .i64 (n : Int) ∧ Hid (M.length + n ≤ 30) ∧ Hid (BLs wr w.heap.size vl M us) ∧ Cur wr b (m + 10 + 200 * (30 - n)) ∧ w.grownBy wr (some b))
      (fun _ vn _ => (intOf vn).toNat)
    case atStart => exact ⟨n1, [], [], hn1, rfl, by show 0 + n1 ≤ 30; omega, BLs.nil _ _, hc3.le (by omega), hg3⟩
    case round =>
      obtain ⟨n, M, us, hn, rfl, hML, hBL, hcr, hgr⟩ := hrel
      clear hc3 hg3 hn1
      by_cases h0 : n = 0
      · subst h0
        obtain ⟨av, cv, hu3⟩ := hBL.out.slice
        subst hu3
        go_wp2
        go_ret
        exact ⟨⟨_, M, us, rfl, by have := hML.out; omega, hBL.out⟩, hcr.le (by omega), hgr⟩
      · have hn0 : (0 : Int) < (n : Int) := by omega
        have hn1 : (0 : Int) ≤ (n : Int) - 1 := by omega
        have hsr := hgr.size
        go_wp2_with fail
        refine (drawBox_any b _ wr hcr (by omega)).mono ?_
        rintro e w7 ⟨rv, L, rfl, hrv, hl3, hc7, hg7⟩
        clear hl3
        have hs7 := hg7.size
        have hBL7 : BLs w7 w.heap.size u3 M us := hBL.out.grown hg7 (fun g hg e => by have := (World.ownsRow.lt hBL.out.1 g hg).1; simp at e; omega) (fun i u a k c e1 e2 e3 => by have := (hBL.out.bounds i u a k c e1 e2).2; simp at e3; omega)
        obtain ⟨arv, crv, rfl⟩ := hrv.slice
        obtain ⟨av, cv, hu3⟩ := hBL7.slice
        have HQ7 : Hid (QRow w7 w.heap.size (.slice arv L.length crv) L) := ⟨_, own_lower hrv hsr⟩
        have HAP : Hid (∀ g, (Value.slice arv L.length crv).ownBlock = some g → u3.ownBlock ≠ some g) := fun g hg e => by
          have h1 := (World.ownsRow.lt hrv g hg).1
          have h2 := (World.ownsRow.lt hBL.out.1 g e).2
          omega
        obtain ⟨W8, hW8⟩ : ∃ W, W = w7.alloc (.cells #[.slice arv L.length crv] 25) := ⟨_, rfl⟩
        have hb78 : Below w7.heap.size w7 W8 := by rw [hW8]; exact (Below.refl _ w7).alloc (Nat.le_refl _) _
        have hBL8 : BLs W8 w.heap.size u3 M us := hBL7.below hb78
        have hq8 : QRow W8 w.heap.size (.slice arv L.length crv) L := HQ7.out.below hb78
        have hc8 : Cur W8 b (m + 10 + 200 * (30 - n) + 100) := by rw [hW8]; exact hc7.alloc _
        have c8 : W8.cell? ⟨w7.heap.size, 0, none⟩ = some (.slice arv L.length crv) ∧ W8.frozen? ⟨w7.heap.size, 0, none⟩ = false := by rw [hW8]; exact ⟨by go_simp, by go_simp⟩
        have hg8 : w.grownBy W8 (some b) := by rw [hW8]; exact Lib.grownBy_allocR (Lib.grownBy_trans hgr hg7) _
        have HS8 : Hid (W8.heap.size = w7.heap.size + 1) := by show _ = _; rw [hW8]; simp
        have HB7 : Hid (∀ (i : Nat) (u : Value) (a : Addr) (k c : Nat), us[i]? = some u → u = .slice (some a) k c → a.block < w7.heap.size) := fun i u a k c e1 e2 => (hBL7.bounds i u a k c e1 e2).1
        have HV7 : Hid (∀ g, u3.ownBlock = some g → g < w7.heap.size) := fun g hg => (World.ownsRow.lt hBL7.1 g hg).2
        have HW8 : Hid (W8 = w7.alloc (.cells #[.slice arv L.length crv] 25)) := hW8
        have hML9 := hML.out
        clear hW8 hBL hBL7 hrv hc7 hg7 hgr hb78
        have hS8 : SdsAt W8 W8.heap.size (.slice arv L.length crv) L := hq8.at
        have hA8 : Apt W8 w.heap.size (.slice arv L.length crv) u3.ownBlock := hq8.apt HAP.out
        have hsz8 : w.heap.size ≤ W8.heap.size := hg8.size
        obtain ⟨c80, c8f⟩ := c8
        have hl8 : w7.heap.size < W8.heap.size := by have := HS8.out; omega
        by_cases hM0 : M.length = 0
        · have hd : decide ((M.length : Int) > 0) = false := decide_eq_false (by omega)
          have hd' : decide (0 < M.length) = false := decide_eq_false (by omega)
          clear hM0
          subst hu3
          go_upto_region 8 with fail
          rw [← HW8.out]
          go_wp2_with (at_builtin; refine wpList_append_lies _ rfl _ _ 37 rfl w.heap.size 25 i0 (.agg #[.slice none 0 0]) 1 24 Try.underlying37 hi0 hz0 hz1' hz2 rfl (by decide) _ M.length _ rfl (World.ownsRow.alloc hBL8.1 _) ⟨W8.heap.size, 0, none⟩ 1 1 [Value.slice arv L.length crv] rfl rfl (World.news_of_block (heap_alloc_new W8 _)) (one_slice _ _ _) (by omega) (by unfold maxLen; omega) (by omega) (by simp; omega) (W8.heap.size + 1) (by simp) ?_)
          intro g9 cap9 w9 hown9 hgrow9 hat9 hlt9
          obtain ⟨k1, k2, k3⟩ := boxes_step hc8 hg8 hBL8 hS8 hA8 hbw hown9 hgrow9 hat9
          have K1 : Hid (BLs w9 w.heap.size (.slice (some ⟨g9, 0, none⟩) (M.length + 1) cap9) (M ++ [L]) (us ++ [Value.slice arv L.length crv])) := k1
          clear k1 hown9 hgrow9 hat9
          go_wp2
          go_roundw
          case rel => exact ⟨n - 1, M ++ [L], us ++ [Value.slice arv L.length crv], by omega, by go_num, by show _ ≤ _; rw [List.length_append, List.length_singleton]; omega, K1, k2.le (by omega), k3⟩
          case measure => simp [intOf]; omega
        · have hd : decide ((M.length : Int) > 0) = true := decide_eq_true (by omega)
          have hd' : decide (0 < M.length) = true := decide_eq_true (by omega)
          have hM1 : (0 : Int) < (M.length : Int) := by omega
          have hM2 : 0 < M.length := by omega
          have HU3 : Hid (u3 = .slice av M.length cv) := hu3
          have HBL8 : Hid (BLs W8 w.heap.size (.slice av M.length cv) M us) := by rw [← hu3]; exact hBL8
          have CO : Hid (Calls Try.prog 32 #[.pointer (some ⟨b, 0, none⟩), .int .i64 8] W8 fun e w' => ∃ t, e = .returned (.bool t) ∧ Cur w' b (m + 10 + 200 * (30 - n) + 100 + 2) ∧ W8.grownBy w' (some b)) := one_any b _ _ W8 hc8 (by omega)
          have HV7' : Hid (∀ g, (Value.slice av M.length cv).ownBlock = some g → g < w7.heap.size) := by rw [← hu3]; exact HV7
          subst hu3
          go_upto_region 8 with fail
          rw [← HW8.out]
          go_wp2_with fail
          refine CO.out.mono ?_
          rintro e w9 ⟨t, rfl, hc9, hg9⟩
          have hg9' : w.grownBy w9 (some b) := Lib.grownBy_trans hg8 hg9
          have hs9 := hg9.size
          have hBL9 : BLs w9 w.heap.size (.slice av M.length cv) M us := HBL8.out.grown hg9 (fun g hg e => by have := (World.ownsRow.lt HBL8.out.1 g hg).1; simp at e; omega) (fun i u a k c e1 e2 e3 => by have := (HBL8.out.bounds i u a k c e1 e2).2; simp at e3; omega)
          have hq9 : QRow w9 w.heap.size (.slice arv L.length crv) L := by
            obtain ⟨ty, hq⟩ := hq8
            exact ⟨ty, srow_grown hg9 hq (fun g hg e => by have := (World.ownsRow.lt hq g hg).1; simp at e; omega)⟩
          have c90 := hg9.cell c80 (by simp; omega)
          have c9f := (hg9.frozen_far ⟨w7.heap.size, 0, none⟩ hl8 (by simp; omega)).trans c8f
          have hl9 : w7.heap.size < w9.heap.size := by omega
          have hsz9 : w.heap.size ≤ w9.heap.size := by omega
          clear hBL8 hq8 hS8 hA8 hc8 hg8 hg9 CO c80 c8f HBL8
          cases t with
          | false =>
            have hS9 : SdsAt w9 w9.heap.size (.slice arv L.length crv) L := hq9.at
            have hA9 : Apt w9 w.heap.size (.slice arv L.length crv) (Value.slice av M.length cv).ownBlock := hq9.apt HAP.out
            go_wp2_with (at_builtin; refine wpList_append_lies _ rfl _ _ 37 rfl w.heap.size 25 i0 (.agg #[.slice none 0 0]) 1 24 Try.underlying37 hi0 hz0 hz1' hz2 rfl (by decide) _ M.length _ rfl (World.ownsRow.alloc hBL9.1 _) ⟨w9.heap.size, 0, none⟩ 1 1 [Value.slice arv L.length crv] rfl rfl (World.news_of_block (heap_alloc_new w9 _)) (one_slice _ _ _) (by omega) (by unfold maxLen; omega) (by omega) (by simp; omega) (w9.heap.size + 1) (by simp) ?_)
            intro g9 cap9 w10 hown9 hgrow9 hat9 hlt9
            obtain ⟨k1, k2, k3⟩ := boxes_step hc9 hg9' hBL9 hS9 hA9 hbw hown9 hgrow9 hat9
            have K1 : Hid (BLs w10 w.heap.size (.slice (some ⟨g9, 0, none⟩) (M.length + 1) cap9) (M ++ [L]) (us ++ [Value.slice arv L.length crv])) := k1
            clear k1 hown9 hgrow9 hat9
            go_wp2
            go_roundw
            case rel => exact ⟨n - 1, M ++ [L], us ++ [Value.slice arv L.length crv], by omega, by go_num, by show _ ≤ _; rw [List.length_append, List.length_singleton]; omega, K1, k2.le (by omega), k3⟩
            case measure => simp [intOf]; omega
          | true =>
            obtain ⟨u0, hu0, hs0, ha0⟩ := hBL9.2 0 hM2
            obtain ⟨ao0, cap0, hu0e, _⟩ := id hs0
            subst hu0e
            obtain ⟨gv, hav⟩ : ∃ gv, av = some ⟨gv, 0, none⟩ := by
              rcases hBL9.1.2 with ⟨e, h0⟩ | ⟨g, cap, cur, e, _⟩
              · exact absurd h0 hM0
              · simp only [Value.slice.injEq] at e
                exact ⟨g, e.1⟩
            subst hav
            have hca := World.ownsRow.cellAt hBL9.1 0 (by rw [Nat.mul_one]; exact hM2)
            rw [hu0] at hca
            have hcv : w9.cell? ⟨gv, 0, none⟩ = some (.slice ao0 (mx M 0).length cap0) := hca
            obtain ⟨W10, hW10⟩ : ∃ W, W = w9.setCell ⟨w7.heap.size, 0, none⟩ (.slice ao0 (mx M 0).length cap0) := ⟨_, rfl⟩
            have hgs := Lib.grownBy_setCell w9 w7.heap.size 0 (.slice ao0 (mx M 0).length cap0)
            rw [← hW10] at hgs
            have hn0 : ∀ (a : Addr) (k c : Nat), Value.slice ao0 (mx M 0).length cap0 = .slice (some a) k c → some w7.heap.size ≠ some a.block := fun a k c e e2 => by
              have h1 := HB7.out 0 _ a k c hu0 e
              have h2 := Option.some.inj e2
              omega
            have hBL10 : BLs W10 w.heap.size (.slice (some ⟨gv, 0, none⟩) M.length cv) M us := hBL9.grown hgs (fun g hg e => by have := HV7'.out g hg; simp at e; omega) (fun i u a k c e1 e2 e3 => by have := HB7.out i u a k c e1 e2; simp at e3; omega)
            have hS10 : SdsAt W10 W10.heap.size (.slice ao0 (mx M 0).length cap0) (mx M 0) := hs0.grown9 hgs hn0
            have hA10 : Apt W10 w.heap.size (.slice ao0 (mx M 0).length cap0) (Value.slice (some ⟨gv, 0, none⟩) M.length cv).ownBlock := ha0.below hgs.size
            have hc10 : Cur W10 b (m + 10 + 200 * (30 - n) + 100 + 2) := hc9.grown hgs (fun k hk => by simp at hk; omega)
            have hg10 : w.grownBy W10 (some b) := ⟨hgs.os.trans hg9'.os, hgs.tape.trans hg9'.tape, hgs.output.trans hg9'.output, Nat.le_trans hg9'.size hgs.size, fun i hi hne => (hgs.block i (by omega) (by simp; omega)).trans (hg9'.block i hi hne)⟩
            have c10 : W10.cell? ⟨w7.heap.size, 0, none⟩ = some (.slice ao0 (mx M 0).length cap0) := by rw [hW10]; exact World.cell?_setCell_same _ _ _ c90
            have hl10 : w7.heap.size < W10.heap.size := by have := hgs.size; omega
            have hsz10 : w.heap.size ≤ W10.heap.size := by omega
            have HW10 : Hid (W10 = w9.setCell ⟨w7.heap.size, 0, none⟩ (.slice ao0 (mx M 0).length cap0)) := hW10
            clear hW10 hgs hs0 ha0 hca
            go_upto_region 10 with fail
            rw [← HW10.out]
            clear c90 c9f hcv
            go_wp2_with (at_builtin; refine wpList_append_lies _ rfl _ _ 37 rfl w.heap.size 25 i0 (.agg #[.slice none 0 0]) 1 24 Try.underlying37 hi0 hz0 hz1' hz2 rfl (by decide) _ M.length _ rfl (World.ownsRow.alloc hBL10.1 _) ⟨W10.heap.size, 0, none⟩ 1 1 [Value.slice ao0 (mx M 0).length cap0] rfl rfl (World.news_of_block (heap_alloc_new W10 _)) (one_slice _ _ _) (by omega) (by unfold maxLen; omega) (by omega) (by simp; omega) (W10.heap.size + 1) (by simp) ?_)
            intro g9 cap9 w11 hown9 hgrow9 hat9 hlt9
            obtain ⟨k1, k2, k3⟩ := boxes_step hc10 hg10 hBL10 hS10 hA10 hbw hown9 hgrow9 hat9
            have K1 : Hid (BLs w11 w.heap.size (.slice (some ⟨g9, 0, none⟩) (M.length + 1) cap9) (M ++ [mx M 0]) (us ++ [Value.slice ao0 (mx M 0).length cap0])) := k1
            clear k1 hown9 hgrow9 hat9
            go_wp2
            go_roundw
            case rel => exact ⟨n - 1, M ++ [mx M 0], us ++ [Value.slice ao0 (mx M 0).length cap0], by omega, by go_num, by show _ ≤ _; rw [List.length_append, List.length_singleton]; omega, K1, k2.le (by omega), k3⟩
            case measure => simp [intOf]; omega

end Go.Proofs.Ytnbaeplbnonhkaa

namespace Go.Proofs.Ytnbaeplbnonhkaa
open Go.RowKit Plain Sch Bxs

theorem below_drewC {B : Nat} {a w : World} (h : Below B a w) (q : Nat) : Below B a (w.drewN q) := ⟨h.os, h.tape, h.output, h.size, h.block⟩

theorem same_take {T U : List Sd} (hl : T.length = U.length) (h : ∀ j, j < T.length → sd T j = sd U j) : T = U := by
  apply List.ext_getElem hl
  intro i h1 h2
  have e := h i h1
  unfold sd at e
  rwa [List.getD, List.getD, List.getElem?_eq_getElem h1, List.getElem?_eq_getElem h2] at e

set_option maxRecDepth 100000 in
set_option maxHeartbeats 4000000 in
theorem sameBox_any (T U : List Sd) (v1 v2 : Value) (w : World) (h1 : SdsAt w w.heap.size v1 T) (h2 : SdsAt w w.heap.size v2 U) :
    Calls Try.prog 12 #[.agg #[v1], .agg #[v2]] w fun e w' => e = .returned (.bool (decide (T = U))) ∧ Below w.heap.size w w' := by
  obtain ⟨ao, cap, rfl, _, hmax, hrow⟩ := h1
  obtain ⟨ao2, cap2, rfl, _, hmax2, hrow2⟩ := h2
  unfold maxLen at hmax hmax2
  have HROW : Hid (∀ i, i < T.length → ∃ g o, ao = some ⟨g, o, none⟩ ∧ g < w.heap.size ∧ SdIn w g (o + i * 2) (sd T i)) := hrow
  have HROW2 : Hid (∀ i, i < U.length → ∃ g o, ao2 = some ⟨g, o, none⟩ ∧ g < w.heap.size ∧ SdIn w g (o + i * 2) (sd U i)) := hrow2
  clear hrow hrow2
  obtain ⟨r, hr⟩ : ∃ r, r = decide (T = U) := ⟨_, rfl⟩
  rw [← hr]
  have HR : Hid (r = decide (T = U)) := hr
  clear hr
  obtain ⟨W2, hW2⟩ : ∃ W, W = (w.alloc (.cells #[.slice ao T.length cap] 25)).alloc (.cells #[.slice ao2 U.length cap2] 25) := ⟨_, rfl⟩
  have hB2 : Below w.heap.size w W2 := by rw [hW2]; exact ((Below.refl _ w).alloc (Nat.le_refl _) _).alloc (by simp) _
  have HS2 : Hid (W2.heap.size = w.heap.size + 2) := by show _ = _; rw [hW2]; simp
  have y2 : W2.cell? ⟨w.heap.size, 0, none⟩ = some (.slice ao T.length cap) ∧ W2.cell? ⟨w.heap.size + 1, 0, none⟩ = some (.slice ao2 U.length cap2) := by rw [hW2]; exact ⟨by go_simp, by go_simp⟩
  have hq1 := y2.1
  have hq2 := y2.2
  have hz0 : w.heap.size < W2.heap.size := by have := HS2.out; omega
  have hz1 : w.heap.size + 1 < W2.heap.size := by have := HS2.out; omega
  go_enter Try.func12, Try.ntmps12
  go_upto_region 1 with fail
  rw [← hW2]
  clear hW2
  by_cases hlen : T.length = U.length
  case neg =>
    have hne : ((T.length : Int) != (U.length : Int)) = true := by simp; omega
    have hne2 : ¬ ((T.length : Int) = (U.length : Int)) := by omega
    go_wp2
    go_ret
    refine ⟨?_, hB2⟩
    rw [HR.out, decide_eq_false (fun e => hlen (by rw [e]))]
    rfl
  have hne : ((T.length : Int) != (T.length : Int)) = false := by simp
  have HLEN : Hid (T.length = U.length) := hlen
  rw [← hlen] at hq2 y2
  rw [← hlen]
  clear hlen
  go_wp2
  go_loopw [16] (fun vi wr => ∃ k : Nat, k ≤ T.length ∧ vi = .int .i64 (k : Int) ∧ Below W2.heap.size W2 wr ∧ Hid (∀ j, j < k → sd T j = sd U j))
    (fun vi _ => T.length - (intOf vi).toNat)
  case atStart => exact ⟨0, by omega, rfl, Below.refl _ _, fun j hj => by omega⟩
  case round =>
    obtain ⟨k, hk, rfl, hbw, HK⟩ := hrel
    have c1 := (hbw.cell (p := ⟨w.heap.size, 0, none⟩) (by show w.heap.size < _; omega)).trans hq1
    have c2 := (hbw.cell (p := ⟨w.heap.size + 1, 0, none⟩) (by show w.heap.size + 1 < _; omega)).trans hq2
    have hbw0 : Below w.heap.size w wr := hB2.trans (hbw.mono hB2.size)
    clear hq1 hq2 y2
    by_cases hlt : k < T.length
    · obtain ⟨g, o, rfl, hgB, hy1⟩ := HROW.out k hlt
      obtain ⟨g2, o2, rfl, hgB2, hy2⟩ := HROW2.out k (by have := HLEN.out; omega)
      have e1 := hy1.below hbw0 hgB
      have e2 := hy2.below hbw0 hgB2
      clear hy1 hy2
      have hlt' : (k : Int) < (T.length : Int) := by omega
      by_cases hE : sd T k = sd U k
      · have HE : Hid (sd T k = sd U k) := hE
        rw [← hE] at e2
        clear hE
        obtain ⟨ti, hti⟩ : ∃ t, sd T k = t := ⟨_, rfl⟩
        rw [hti] at e1 e2
        clear hti
        obtain ⟨l1, u1⟩ := ti
        obtain ⟨a0, a1⟩ := e1
        obtain ⟨x0, x1⟩ := e2
        dsimp only at a0 a1 x0 x1
        go_wp2
        go_quiet (fail)
        go_wp2
        go_roundw
        case rel => exact ⟨k + 1, by omega, by go_num, below_drewC hbw _, fun j hj => by
          by_cases q : j = k
          · rw [q]; exact HE.out
          · exact HK.out j (by omega)⟩
        case measure => simp [intOf]; omega
      · have HF : Hid (r = false) := by
          show _ = _
          rw [HR.out, decide_eq_false (fun e => hE (by rw [e]))]
        have hE' : ¬ ((sd T k).lo = (sd U k).lo ∧ (sd T k).hi = (sd U k).hi) := fun h => hE (by
          generalize sd T k = s at h ⊢
          generalize sd U k = t at h ⊢
          obtain ⟨a, b⟩ := s
          obtain ⟨c, d⟩ := t
          dsimp only at h
          rw [h.1, h.2])
        clear hE
        obtain ⟨ti, hti⟩ : ∃ t, sd T k = t := ⟨_, rfl⟩
        obtain ⟨tu, htu⟩ : ∃ t, sd U k = t := ⟨_, rfl⟩
        rw [hti] at e1 hE'
        rw [htu] at e2 hE'
        clear hti htu
        obtain ⟨l1, u1⟩ := ti
        obtain ⟨l2, u2⟩ := tu
        obtain ⟨a0, a1⟩ := e1
        obtain ⟨x0, x1⟩ := e2
        dsimp only at a0 a1 x0 x1 hE'
        by_cases hlo : l1 = l2
        · subst hlo
          have hhi : ¬ (u1 = u2) := fun h => hE' ⟨rfl, h⟩
          have hhi' : (u1 == u2) = false := by simpa using hhi
          go_wp2
          go_quiet (fail)
          go_wp2
          go_ret
          exact ⟨by rw [HF.out]; rfl, below_drewC hbw0 _⟩
        · have hlo' : (l1 == l2) = false := by simpa using hlo
          go_wp2
          go_quiet (fail)
          go_wp2
          go_ret
          exact ⟨by rw [HF.out]; rfl, below_drewC hbw0 _⟩
    · have hke : k = T.length := by omega
      subst hke
      have hge : ¬ ((T.length : Int) < (T.length : Int)) := by omega
      have HT : Hid (r = true) := by
        show _ = _
        rw [HR.out, decide_eq_true (same_take HLEN.out HK.out)]
      go_wp2
      go_ret
      exact ⟨by rw [HT.out]; rfl, hbw0⟩

end Go.Proofs.Ytnbaeplbnonhkaa

namespace Go.Proofs.Ytnbaeplbnonhkaa
open Go.RowKit Plain Sch Bxs

set_option maxRecDepth 100000 in
set_option maxHeartbeats 4000000 in
theorem pointOf_any (ao : Option Addr) (len cap : Nat) (w : World) (hlen : len ≤ 1048576)
    (hcode : 0 < len → ∃ ab o, ao = some ⟨ab, o, none⟩ ∧ ab < w.heap.size ∧ ∀ i, i < len → ∃ x : Nat, x < 256 ∧ w.cell? ⟨ab, o + i, none⟩ = some (.int .u8 (x : Int))) :
    Calls Try.prog 15 #[.slice ao len cap] w fun e w' => ∃ r, e = .returned r ∧ (∃ L, L.length = 3 ∧ (∀ x ∈ L, 0 ≤ x ∧ x ≤ 11) ∧ ZRow w' w.heap.size r L) ∧ Below w.heap.size w w' := by
  obtain ⟨i0, hi0, hz0, hz1', hz2⟩ := info_parts Try.infoIntN
  have HC : Hid (0 < len → ∃ ab o, ao = some ⟨ab, o, none⟩ ∧ ab < w.heap.size ∧ ∀ i, i < len → ∃ x : Nat, x < 256 ∧ w.cell? ⟨ab, o + i, none⟩ = some (.int .u8 (x : Int))) := hcode
  clear hcode
  go_enter Try.func15, Try.ntmps15
  go_wp2
  go_loopw [3, 4] (fun vl vi wr => ∃ i : Nat, i ≤ 3 ∧ vi = .int .i64 (i : Int) ∧ (∃ L : List Int, L.length = i ∧ Hid (∀ x ∈ L, 0 ≤ x ∧ x ≤ 11) ∧ Hid (ZRow wr w.heap.size vl L)) ∧ Hid (Below w.heap.size w wr))
    (fun _ vi _ => 3 - (intOf vi).toNat)
  case atStart => exact ⟨0, by omega, rfl, ⟨[], rfl, fun x hx => by simp at hx, ZRow.nil9 _ _⟩, Below.refl _ _⟩
  case round =>
    obtain ⟨i, hi, rfl, ⟨L, hL, HL, HZ⟩, HB⟩ := hrel
    subst hL
    have hsl := HZ.out.1
    by_cases hlt : L.length < 3
    case neg =>
      have hge : ¬ ((L.length : Int) < 3) := by omega
      go_wp2
      go_ret
      exact ⟨_, rfl, ⟨L, by omega, HL.out, HZ.out⟩, HB.out⟩
    have hlt' : (L.length : Int) < 3 := by omega
    have hBz : w.heap.size ≤ wr.heap.size := HB.out.size
    have key : ∀ (n : Int), 0 ≤ n → n ≤ 11 → ∀ x ∈ L ++ [n], 0 ≤ x ∧ x ≤ 11 := fun n h0 h1 x hx => by
      rcases List.mem_append.1 hx with q | q
      · exact HL.out x q
      · simp at q; rw [q]; exact ⟨h0, h1⟩
    have KEY : Hid (∀ (n : Int), 0 ≤ n → n ≤ 11 → ∀ x ∈ L ++ [n], 0 ≤ x ∧ x ≤ 11) := key
    clear key hsl
    by_cases hin : L.length < len
    · obtain ⟨ab, o, rfl, hab, hx⟩ := HC.out (by omega)
      obtain ⟨x, hx1, hx2⟩ := hx L.length hin
      have c0 := (HB.out.cell (p := ⟨ab, o + L.length, none⟩) hab).trans hx2
      clear hx hx2
      have hin' : (L.length : Int) < (len : Int) := by omega
      have hm0 : 0 ≤ (x : Int).tmod 12 := by rw [Int.tmod_eq_emod_of_nonneg (by omega)]; omega
      have hm1 : (x : Int).tmod 12 ≤ 11 := by rw [Int.tmod_eq_emod_of_nonneg (by omega)]; omega
      go_wp2_with (at_builtin; refine wpList_append_lies _ rfl _ _ 34 rfl w.heap.size 3 i0 (.int .i64 0) 1 8 Try.underlying34 hi0 hz0 hz1' hz2 rfl (by decide) _ L.length _ rfl (World.ownsRow.alloc HZ.out _) ⟨wr.heap.size, 0, none⟩ 1 1 [.int .i64 ((x : Int).tmod 12)] rfl rfl (World.news_of_block (heap_alloc_new wr _)) (one1Z _) (by omega) (by unfold maxLen; omega) (by omega) (by simp; omega) (wr.heap.size + 1) (by simp) ?_)
      intro g9 cap9 w9 hown9 hgrow9 hat9 hlt9
      have HZ9 : Hid (ZRow w9 w.heap.size (.slice (some ⟨g9, 0, none⟩) (L.length + 1) cap9) (L ++ [(x : Int).tmod 12])) := ZRow.snoc9 hown9
      have HB9 : Hid (Below w.heap.size w w9) := HB.out.trans (grown_belowB HZ.out hgrow9 hBz)
      clear hown9 hgrow9 hat9 hlt9 HZ HB
      go_wp2
      go_roundw
      case rel => exact ⟨L.length + 1, by omega, by go_num, ⟨_, by simp, KEY.out _ hm0 hm1, HZ9.out⟩, HB9⟩
      case measure => simp [intOf]; omega
    · have hin' : ¬ ((L.length : Int) < (len : Int)) := by omega
      go_wp2_with (at_builtin; refine wpList_append_lies _ rfl _ _ 34 rfl w.heap.size 3 i0 (.int .i64 0) 1 8 Try.underlying34 hi0 hz0 hz1' hz2 rfl (by decide) _ L.length _ rfl (World.ownsRow.alloc HZ.out _) ⟨wr.heap.size, 0, none⟩ 1 1 [.int .i64 (L.length : Int)] rfl rfl (World.news_of_block (heap_alloc_new wr _)) (one1Z _) (by omega) (by unfold maxLen; omega) (by omega) (by simp; omega) (wr.heap.size + 1) (by simp) ?_)
      intro g9 cap9 w9 hown9 hgrow9 hat9 hlt9
      have HZ9 : Hid (ZRow w9 w.heap.size (.slice (some ⟨g9, 0, none⟩) (L.length + 1) cap9) (L ++ [(L.length : Int)])) := ZRow.snoc9 hown9
      have HB9 : Hid (Below w.heap.size w w9) := HB.out.trans (grown_belowB HZ.out hgrow9 hBz)
      clear hown9 hgrow9 hat9 hlt9 HZ HB
      go_wp2
      go_roundw
      case rel => exact ⟨L.length + 1, by omega, by go_num, ⟨_, by simp, KEY.out _ (by omega) (by omega), HZ9.out⟩, HB9⟩
      case measure => simp [intOf]; omega

end Go.Proofs.Ytnbaeplbnonhkaa

namespace Go.Proofs.Ytnbaeplbnonhkaa
open Go.RowKit Plain Sch Bxs

theorem zrow_grown {w w' : World} {B : Nat} {v : Value} {l : List Int} {row : Option Nat} (h : ZRow w B v l) (hg : w.grownBy w' row) (hne : ∀ g, v.ownBlock = some g → some g ≠ row) : ZRow w' B v l := own_beside9 h hg hne

set_option maxRecDepth 100000 in
set_option maxHeartbeats 8000000 in
theorem point_any (b m : Nat) (w : World) (hc : Cur w b m) (hm : m ≤ 600000000) :
    Calls Try.prog 52 #[.pointer (some ⟨b, 0, none⟩)] w fun e w' => (∃ v L, e = .returned v ∧ L.length = 3 ∧ ZRow w' w.heap.size v L) ∧ Cur w' b (m + 20) ∧ w.grownBy w' (some b) := by
  obtain ⟨i0, hi0, hz0, hz1', hz2⟩ := info_parts Try.infoInt
  have hbw := hc.lt
  go_enter Try.func52, Try.ntmps52
  go_wp2_with fail
  go_loopw [3, 4] (fun vl vi wr => ∃ (i : Nat) (L : List Int), i ≤ 3 ∧ vi = .int .i64 (i : Int) ∧ Hid (L.length = i) ∧ Hid (ZRow wr w.heap.size vl L) ∧ Cur wr b (m + 2 * i) ∧ w.grownBy wr (some b))
    (fun _ vi _ => 3 - (intOf vi).toNat)
  case atStart => exact ⟨0, [], by omega, rfl, rfl, World.ownsRow_nil _ _ _ _, hc, World.grownBy.refl w _⟩
  case round =>
    obtain ⟨i, L, hi3, rfl, hLi, hZ, hcr, hgr⟩ := hrel
    have hsr := hgr.size
    clear hc
    by_cases hlt : i < 3
    · have hltI : (i : Int) < 3 := by omega
      go_wp2_with fail
      refine (pick_any b _ _ _ hcr (by omega)).mono ?_
      rintro e w7 ⟨x, rfl, hx, hc7, hg7⟩
      have hx9 : (x : Int) ≤ 20 := by omega
      have hs7 := hg7.size
      have hZ7 : w7.ownsRow w.heap.size 3 1 u3 L.length (zints L) := zrow_grown hZ.out hg7 (fun g hg e => by have := (World.ownsRow.lt hZ.out g hg).1; simp at e; omega)
      have hL3 : L.length + 1 ≤ 10 := by have := hLi.out; omega
      have hg7' := Lib.grownBy_trans hgr hg7
      clear hcr hgr hg7 hZ hx
      go_wp2_with (at_builtin; refine wpList_append_lies _ rfl _ _ 34 rfl w.heap.size 3 i0 (.int .i64 0) 1 8 Try.underlying34 hi0 hz0 hz1' hz2 rfl (by decide) _ L.length _ rfl (World.ownsRow.alloc hZ7 _) ⟨w7.heap.size, 0, none⟩ 1 1 [Value.int .i64 (x : Int)] rfl rfl (World.news_of_block (heap_alloc_new w7 _)) ?c2 (by omega) (by unfold maxLen; omega) (by omega) (by simp; omega) (w7.heap.size + 1) (by simp) ?_)
      case c2 => intro u hu; simp at hu; subst hu; rfl
      intro g9 cap9 w9 hown9 hgrow9 hat9 hlt9
      have hlt7 := World.ownsRow.lt hZ7
      have hZ9 : Hid (ZRow w9 w.heap.size (.slice (some ⟨g9, 0, none⟩) (L.length + 1) cap9) (L ++ [(x : Int)])) := by
        show ZRow _ _ _ _
        unfold ZRow zints
        rw [List.map_append, List.length_append, List.length_singleton]
        simpa [zints] using hown9
      have hga : w.grownBy (w7.alloc (.cells #[Value.int .i64 (x : Int)] 3)) (some b) := Lib.grownBy_allocR hg7' _
      have hc9 : Cur w9 b (m + 2 * i + 2) := (hc7.alloc _).grown hgrow9 (fun k hk => by have := (hlt7 k hk).1; omega)
      have hsa := hga.size
      have hg9 : w.grownBy w9 (some b) := ⟨hgrow9.os.trans hga.os, hgrow9.tape.trans hga.tape, hgrow9.output.trans hga.output, Nat.le_trans hga.size hgrow9.size, fun i hi hne => (hgrow9.block i (by omega) (fun e => by have := (hlt7 i e.symm).1; omega)).trans (hga.block i hi hne)⟩
      clear hown9 hgrow9 hat9 hZ7 hga hlt7 hc7 hg7'
      go_wp2
      go_roundw
      case rel => exact ⟨i + 1, L ++ [(x : Int)], by omega, by go_num, by show _ = _; rw [List.length_append, List.length_singleton, hLi.out], hZ9, hc9.le (by omega), hg9⟩
      case measure => simp [intOf]; omega
    · have hi3' : i = 3 := by omega
      subst hi3'
      obtain ⟨av, cv, hu3⟩ := hZ.out.slice
      go_wp2_with fail
      refine (one_any b _ _ _ hcr (by omega)).mono ?_
      rintro e w7 ⟨t, rfl, hc7, hg7⟩
      have hs7 := hg7.size
      have hZ7 : ZRow w7 w.heap.size u3 L := zrow_grown hZ.out hg7 (fun g hg e => by have := (World.ownsRow.lt hZ.out g hg).1; simp at e; omega)
      have hg7' := Lib.grownBy_trans hgr hg7
      clear hcr hgr hg7 hZ
      cases t with
      | false =>
        have HZ7 : Hid (ZRow w7 w.heap.size u3 L) := hZ7
        clear hZ7
        subst hu3
        go_wp2
        go_ret
        exact ⟨⟨_, L, rfl, hLi.out, HZ7.out⟩, hc7.le (by omega), hg7'⟩
      | true =>
        obtain ⟨g, hav⟩ : ∃ g, av = some ⟨g, 0, none⟩ := by
          rcases hZ7.2 with ⟨e, h0⟩ | ⟨g, cap, cur, e, _⟩
          · have := hLi.out; omega
          · rw [hu3] at e
            simp only [Value.slice.injEq] at e
            exact ⟨g, e.1⟩
        subst hav
        have hL3 : L.length = 3 := hLi.out
        have hZ8 : w7.ownsRow w.heap.size 3 1 (.slice (some ⟨g, 0, none⟩) 3 cv) 3 (zints L) := by
          have : ZRow w7 w.heap.size (.slice (some ⟨g, 0, none⟩) L.length cv) L := by rw [← hu3]; exact hZ7
          unfold ZRow at this
          rwa [hL3] at this
        have hu3' : u3 = .slice (some ⟨g, 0, none⟩) 3 cv := by rw [hu3, hL3]
        have hgl := World.ownsRow.lt hZ8 g rfl
        subst hu3'
        have CA : Hid (Calls Try.prog 56 #[.pointer (some ⟨b, 0, none⟩), .slice (some ⟨w7.heap.size, 0, none⟩) 3 3] (w7.alloc (Obj.cells #[.int .i64 (-1001), .int .i64 1000, .int .i64 1001] 3)) (AmR b (m + 15) (w7.alloc (Obj.cells #[.int .i64 (-1001), .int .i64 1000, .int .i64 1001] 3)))) := among_three (x := -1001) (y := 1000) (z := 1001) _ _ _ _ (hc7.alloc _) (by omega) (by omega) (by have := hc7.lt; omega) (by go_simp) (by go_simp) (by go_simp)
        have hZ9 := World.ownsRow.alloc hZ8 (Obj.cells #[.int .i64 (-1001), .int .i64 1000, .int .i64 1001] 3)
        have hg9 : w.grownBy (w7.alloc (Obj.cells #[.int .i64 (-1001), .int .i64 1000, .int .i64 1001] 3)) (some b) := Lib.grownBy_allocR hg7' _
        clear hu3 hZ8 hZ7 hc7 hg7'
        go_wp2_with fail
        refine CA.out.mono ?_
        rintro e w10 ⟨x, rfl, hc10, hg10⟩
        have hZ10 := own_beside9 hZ9 hg10 (fun g' hg' e => by simp [Value.ownBlock] at hg'; simp at e; omega)
        have hg10' := Lib.grownBy_trans hg9 hg10
        have q0 := hZ10.cellAt 0 (by omega)
        obtain ⟨a0, ha0⟩ : ∃ a0, (zints L)[0]? = some a0 := ⟨_, List.getElem?_eq_getElem (by simp [zints, hL3])⟩
        rw [ha0] at q0
        have z0 := hZ10.frozenAt 0
        clear ha0
        have how := (hZ10.stored 0 (.int .i64 x)).1
        have hg11 := Lib.grownBy_setCell w10 g 0 (.int .i64 x)
        have HF : Hid (ZRow (w10.setCell ⟨g, 0, none⟩ (.int .i64 x)) w.heap.size (.slice (some ⟨g, 0, none⟩) 3 cv) (L.set 0 x)) := by
          show World.ownsRow _ _ _ _ _ _ _
          rw [List.length_set, hL3]
          have e : (zints L).set 0 (.int .i64 x) = zints (L.set 0 x) := by unfold zints; rw [List.map_set]
          rw [← e]
          exact how
        have hc11 : Cur (w10.setCell ⟨g, 0, none⟩ (.int .i64 x)) b (m + 15) := hc10.grown hg11 (fun k hk => by simp at hk; omega)
        have hsz := hg10'.size
        have hg12 : w.grownBy (w10.setCell ⟨g, 0, none⟩ (.int .i64 x)) (some b) := ⟨hg11.os.trans hg10'.os, hg11.tape.trans hg10'.tape, hg11.output.trans hg10'.output, Nat.le_trans hg10'.size hg11.size, fun i hi hne => (hg11.block i (by omega) (by simp; omega)).trans (hg10'.block i hi hne)⟩
        have HL3 : Hid (L.length = 3) := hL3
        clear how hg11 hZ10 hZ9 hL3
        go_wp2
        go_ret
        exact ⟨⟨_, L.set 0 x, rfl, by rw [List.length_set]; exact HL3.out, HF.out⟩, hc11.le (by omega), hg12⟩

set_option maxRecDepth 100000 in
set_option maxHeartbeats 4000000 in
theorem drawLeast_any (ao : Option Addr) (len cap : Nat) (w : World) (hcode : CodeAt w ao len) :
    Calls Try.prog 17 #[.slice ao len cap] w fun e w' => (∃ v M us, e = .returned v ∧ M.length ≤ 100 ∧ BLs w' w.heap.size v M us) ∧ Below w.heap.size w w' := by
  have hc0 := Cur.made (cap := cap) hcode 54
  go_enter Try.func17, Try.ntmps17
  go_wp2_with fail
  refine (boxes_any w.heap.size 0 _ hc0 (by omega)).mono ?_
  rintro e w1 ⟨⟨v, M, us, rfl, hM, hB⟩, hc1, hg1⟩
  obtain ⟨av, cv, rfl⟩ := hB.slice
  have HB : Hid (BLs w1 w.heap.size (.slice av M.length cv) M us) := ⟨own_lower hB.1 (by simp), fun i hi => by
    obtain ⟨u, e, hs, ha⟩ := hB.2 i hi
    exact ⟨u, e, hs, fun a n c e2 => by obtain ⟨q1, q2, q3⟩ := ha a n c e2; simp at q3; exact ⟨q1, q2, by omega⟩⟩⟩
  clear hB
  go_wp2
  go_ret
  exact ⟨⟨_, M, us, rfl, hM, HB.out⟩, ((Below.refl _ w).alloc (Nat.le_refl _) _).grown hg1 (by simp) (fun k hk => by simp at hk; omega)⟩

set_option maxRecDepth 100000 in
set_option maxHeartbeats 4000000 in
theorem drawVol_any (ao : Option Addr) (len cap : Nat) (w : World) (hcode : CodeAt w ao len) :
    Calls Try.prog 27 #[.slice ao len cap] w fun e w' => (∃ v M us, e = .returned v ∧ M.length ≤ 100 ∧ BLs w' w.heap.size v M us) ∧ Below w.heap.size w w' := by
  have CC := drawLeast_any ao len cap w hcode
  go_enter Try.func27, Try.ntmps27
  go_wp2_with fail
  refine CC.mono ?_
  rintro e w1 ⟨⟨v, M, us, rfl, hM, hB⟩, hb1⟩
  obtain ⟨av, cv, rfl⟩ := hB.slice
  have HB : Hid (BLs w1 w.heap.size (.slice av M.length cv) M us) := hB
  clear hB
  go_wp2
  go_ret
  exact ⟨⟨_, M, us, rfl, hM, HB.out⟩, hb1⟩

set_option maxRecDepth 100000 in
set_option maxHeartbeats 4000000 in
theorem drawUnion_any (ao : Option Addr) (len cap : Nat) (w : World) (hcode : CodeAt w ao len) :
    Calls Try.prog 29 #[.slice ao len cap] w fun e w' => (∃ v u M us L, e = .returned (.tuple #[v, u]) ∧ M.length ≤ 100 ∧ BLs w' w.heap.size v M us ∧ ZRow w' w.heap.size u L) ∧ Below w.heap.size w w' := by
  have hc0 := Cur.made (cap := cap) hcode 54
  go_enter Try.func29, Try.ntmps29
  go_wp2_with fail
  refine (boxes_any w.heap.size 0 _ hc0 (by omega)).mono ?_
  rintro e w1 ⟨⟨v, M, us, rfl, hM, hB⟩, hc1, hg1⟩
  obtain ⟨av, cv, rfl⟩ := hB.slice
  have hs1 := hg1.size
  simp only [World.size_alloc] at hs1
  go_wp2_with fail
  refine (point_any w.heap.size _ w1 hc1 (by omega)).mono ?_
  rintro e w2 ⟨⟨u, L, rfl, hL, hZ⟩, hc2, hg2⟩
  obtain ⟨au, cu, rfl⟩ := hZ.slice
  have hB2 := hB.grown hg2 (fun g hg e => by have := (World.ownsRow.lt hB.1 g hg).1; simp at this e; omega) (fun i u a k c e1 e2 e3 => by have := (hB.bounds i u a k c e1 e2).2; simp at this e3; omega)
  have HB : Hid (BLs w2 w.heap.size (.slice av M.length cv) M us) := ⟨own_lower hB2.1 (by simp), fun i hi => by
    obtain ⟨u, e, hs, ha⟩ := hB2.2 i hi
    exact ⟨u, e, hs, fun a n c e2 => by obtain ⟨q1, q2, q3⟩ := ha a n c e2; simp at q3; exact ⟨q1, q2, by omega⟩⟩⟩
  have HZ : Hid (ZRow w2 w.heap.size (.slice au L.length cu) L) := hZ.lower (by omega)
  have hb9 : Below w.heap.size w w2 := (((Below.refl _ w).alloc (Nat.le_refl _) _).grown hg1 (by simp) (fun k hk => by simp at hk; omega)).grown hg2 (by omega) (fun k hk => by simp at hk; omega)
  clear hB hB2 hZ hL
  go_wp2
  go_ret2
  exact ⟨⟨_, _, M, us, L, rfl, hM, HB.out, HZ.out⟩, hb9⟩

set_option maxRecDepth 100000 in
set_option maxHeartbeats 4000000 in
theorem sameBoxes_same (M : List (List Sd)) (v1 v2 : Value) (w : World) (h1 : BxsAt w w.heap.size v1 M) (h2 : BxsAt w w.heap.size v2 M) (hM : M.length ≤ 1048576) :
    Calls Try.prog 25 #[v1, v2] w fun e w' => e = .returned (.bool true) ∧ Below w.heap.size w w' := by
  have H1 : Hid (∀ W, Below w.heap.size w W → BxsAt W W.heap.size v1 M) := fun W hW => h1.below hW
  have H2 : Hid (∀ W, Below w.heap.size w W → BxsAt W W.heap.size v2 M) := fun W hW => h2.below hW
  obtain ⟨ao, cap, rfl, _, hmax, hrow⟩ := h1
  obtain ⟨ao2, cap2, rfl, _, hmax2, hrow2⟩ := h2
  unfold maxLen at hmax hmax2
  have HROW : Hid (∀ i, i < M.length → ∃ g o u, ao = some ⟨g, o, none⟩ ∧ g < w.heap.size ∧ w.cell? ⟨g, o + i, none⟩ = some u ∧ SdsAt w w.heap.size u (mx M i)) := hrow
  have HROW2 : Hid (∀ i, i < M.length → ∃ g o u, ao2 = some ⟨g, o, none⟩ ∧ g < w.heap.size ∧ w.cell? ⟨g, o + i, none⟩ = some u ∧ SdsAt w w.heap.size u (mx M i)) := hrow2
  clear hrow hrow2
  have hne : ((M.length : Int) != (M.length : Int)) = false := by simp
  go_enter Try.func25, Try.ntmps25
  go_wp2
  go_loopw [13] (fun vi wr => ∃ k : Nat, k ≤ M.length ∧ vi = .int .i64 (k : Int) ∧ Below w.heap.size w wr)
    (fun vi _ => M.length - (intOf vi).toNat)
  case atStart => exact ⟨0, by omega, rfl, Below.refl _ _⟩
  case round =>
    obtain ⟨k, hk, rfl, hbw⟩ := hrel
    by_cases hlt : k < M.length
    · obtain ⟨g, o, u, rfl, hg, c, hs⟩ := HROW.out k hlt
      obtain ⟨g2, o2, u2, rfl, hg2, c2, hs2⟩ := HROW2.out k hlt
      have e1 := (hbw.cell (p := ⟨g, o + k, none⟩) hg).trans c
      have e2 := (hbw.cell (p := ⟨g2, o2 + k, none⟩) hg2).trans c2
      have CB : Hid (∀ W : World, Below w.heap.size w W → Calls Try.prog 12 #[.agg #[u], .agg #[u2]] W fun e w' => e = .returned (.bool true) ∧ Below W.heap.size W w') := fun W hW => by
        have := sameBox_any (mx M k) (mx M k) u u2 W (hs.below hW) (hs2.below hW)
        rwa [show decide (mx M k = mx M k) = true by simp] at this
      obtain ⟨a1, k1, hu, _⟩ := id hs
      obtain ⟨a2, k2, hu2, _⟩ := id hs2
      subst hu hu2
      have hlt' : (k : Int) < (M.length : Int) := by omega
      have hbd : Below w.heap.size w wr.drew := hbw.drew
      clear c c2 hs hs2
      go_upto_region 6 with fail
      go_region_with (first
        | (go_at_call 12; refine (CB.out _ hbd).mono ?_; rintro e w3 ⟨rfl, hb3⟩; have hB3 : Below w.heap.size w w3 := hbd.trans (hb3.mono hbd.size)))
      all_goals
        go_wp2
        go_roundw
        case rel => exact ⟨k + 1, by omega, by go_num, hB3⟩
        case measure => simp [intOf]; omega
    · have hke : k = M.length := by omega
      subst hke
      have hge : ¬ ((M.length : Int) < (M.length : Int)) := by omega
      go_wp2
      go_ret
      exact ⟨rfl, hbw⟩

set_option maxRecDepth 100000 in
set_option maxHeartbeats 4000000 in
theorem sameZ_same (l : List Int) (v1 v2 : Value) (w : World) (h1 : ZAt w w.heap.size v1 l) (h2 : ZAt w w.heap.size v2 l) (hl : l.length ≤ 2097152) :
    Calls Try.prog 20 #[v1, v2] w fun e w' => e = .returned (.bool true) ∧ Below w.heap.size w w' := by
  obtain ⟨ao, cap, rfl, _, _, hrow⟩ := h1
  obtain ⟨ao2, cap2, rfl, _, _, hrow2⟩ := h2
  have hne : ((l.length : Int) != (l.length : Int)) = false := by simp
  have HROW : Hid (∀ i (x : Int), l[i]? = some x → ∃ g o, ao = some ⟨g, o, none⟩ ∧ g < w.heap.size ∧ w.cell? ⟨g, o + i, none⟩ = some (.int .i64 x)) := hrow
  have HROW2 : Hid (∀ i (x : Int), l[i]? = some x → ∃ g o, ao2 = some ⟨g, o, none⟩ ∧ g < w.heap.size ∧ w.cell? ⟨g, o + i, none⟩ = some (.int .i64 x)) := hrow2
  clear hrow hrow2
  go_enter Try.func20, Try.ntmps20
  go_wp2
  go_loopw [13] (fun vi wr => ∃ k : Nat, k ≤ l.length ∧ vi = .int .i64 (k : Int) ∧ Below w.heap.size w wr)
    (fun vi _ => l.length - (intOf vi).toNat)
  case atStart => exact ⟨0, by omega, rfl, Below.refl _ _⟩
  case round =>
    obtain ⟨k, hk, rfl, hbw⟩ := hrel
    by_cases hlt : k < l.length
    · obtain ⟨x, hx⟩ : ∃ x, l[k]? = some x := ⟨_, List.getElem?_eq_getElem hlt⟩
      obtain ⟨g, o, rfl, hgB, hy1⟩ := HROW.out k x hx
      obtain ⟨g2, o2, rfl, hgB2, hy2⟩ := HROW2.out k x hx
      have e1 := (hbw.cell (p := ⟨g, o + k, none⟩) hgB).trans hy1
      have e2 := (hbw.cell (p := ⟨g2, o2 + k, none⟩) hgB2).trans hy2
      clear hy1 hy2 hx
      have hlt' : (k : Int) < (l.length : Int) := by omega
      have hxx : (x != x) = false := by simp
      go_wp2
      go_quiet (fail)
      go_wp2
      go_roundw
      case rel => exact ⟨k + 1, by omega, by go_num, below_drewC hbw _⟩
      case measure => simp [intOf]; omega
    · have hke : k = l.length := by omega
      subst hke
      have hge : ¬ ((l.length : Int) < (l.length : Int)) := by omega
      go_wp2
      go_ret
      exact ⟨rfl, hbw⟩

end Go.Proofs.Ytnbaeplbnonhkaa
