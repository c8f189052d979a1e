/- The program's lists of sums: one more put behind, the first taken. -/
import Derived.Test.YtlglngmlaknmlaaLgU
namespace Go.Proofs.Ytlglngmlaknmlaa
open Go.RowKit Plain Lgs Tpc

/-- how a list of sums lies in a variable -/
structure Lv (w : World) (b B : Nat) (v : Value) (L : List Int) : Prop where
  low : b < w.heap.size
  row : w.cell? ⟨b, 0, none⟩ = some v
  frz : w.frozen? ⟨b, 0, none⟩ = false
  own : ZRow w B v L
  apt : ∀ g, v.ownBlock = some g → g ≠ b

theorem Lv.below {w w' : World} {b B : Nat} {v : Value} {L : List Int} (h : Lv w b B v L) (hb : Below w.heap.size w w') : Lv w' b B v L :=
  ⟨Nat.lt_of_lt_of_le h.low hb.size, (hb.cell (p := ⟨b, 0, none⟩) h.low).trans h.row, (hb.frozen (p := ⟨b, 0, none⟩) h.low).trans h.frz, h.own.below hb, h.apt⟩

theorem ZRow.snoc {w : World} {B : Nat} {v : Value} {L : List Int} {x : Int} {n : Nat} {xs : List Value} (h : w.ownsRow B 3 1 v n xs) (hn : n = L.length + 1) (hx : xs = zints L ++ [.int .i64 x]) : ZRow w B v (L ++ [x]) := by
  unfold ZRow
  rw [List.length_append, List.length_singleton]
  unfold zints at hx ⊢
  rw [List.map_append]
  subst hn hx
  exact h

theorem addZ_end {w w9 : World} {b B g9 cap9 : Nat} {v : Value} {x : Int} {L : List Int} {o : Obj} (hC : Lv w b B v L)
    (hown9 : w9.ownsRow B 3 1 (.slice (some ⟨g9, 0, none⟩) (L.length + 1) cap9) (L.length + 1) (zints L ++ [.int .i64 x])) (hgrow : (w.alloc o).grownBy w9 v.ownBlock) (hat : v.ownBlock = some g9 ∨ g9 = w.heap.size + 1) :
    Lv (w9.setCell ⟨b, 0, none⟩ (.slice (some ⟨g9, 0, none⟩) (L.length + 1) cap9)) b B (.slice (some ⟨g9, 0, none⟩) (L.length + 1) cap9) (L ++ [x]) ∧ Pl w (w9.setCell ⟨b, 0, none⟩ (.slice (some ⟨g9, 0, none⟩) (L.length + 1) cap9)) b v (.slice (some ⟨g9, 0, none⟩) (L.length + 1) cap9) := by
  obtain ⟨h1, h2, h3, h4, h5⟩ := hC
  have hB2 : Below w.heap.size w (w.alloc o) := (Below.refl _ w).alloc (Nat.le_refl _) o
  have hsz : w.heap.size + 1 ≤ w9.heap.size := by have := hgrow.size; simp at this; omega
  have hne : some b ≠ v.ownBlock := fun e => h5 b e.symm rfl
  have hblk : w9.heap[b]? = w.heap[b]? := (hgrow.block b (by simp; omega) hne).trans (hB2.block b h1)
  have c0 : w9.cell? ⟨b, 0, none⟩ = some v := (World.cell?_of_block (w := w) hblk).trans h2
  have f1 : w9.frozen? ⟨b, 0, none⟩ = false := (World.frozen?_of_block (w := w) hblk).trans h3
  have hg9 : g9 ≠ b := by
    rcases hat with h | h
    · exact h5 g9 h
    · omega
  refine ⟨⟨by simp; omega, World.cell?_setCell_same _ _ _ c0, by rw [World.frozen?_setCell]; exact f1, ?_, ?_⟩, ?_, ?_, ?_, by simp; omega, ?_, ?_⟩
  · exact (ZRow.snoc hown9 rfl rfl).aside (Lib.grownBy_setCell _ b 0 _) (fun g hg e => by
      simp [Value.ownBlock] at hg e
      omega)
  · intro g hg
    simp [Value.ownBlock] at hg
    omega
  · exact hgrow.os.trans hB2.os
  · exact hgrow.tape.trans hB2.tape
  · exact hgrow.output.trans hB2.output
  · intro j hj hc hv
    rw [Below.heap_setCell _ _ _ _ hc, hgrow.block j (by simp; omega) hv, hB2.block j hj]
  · intro g hg
    simp [Value.ownBlock] at hg
    subst hg
    rcases hat with h | h
    · exact .inl h
    · exact .inr (by omega)

set_option maxRecDepth 100000 in
set_option maxHeartbeats 4000000 in
theorem addZ_any (x : Int) (b B : Nat) (v : Value) (L : List Int) (w : World) (hC : Lv w b B v L) (hBw : B ≤ w.heap.size) (hL : L.length ≤ 10000000) :
    Calls Try.prog 76 #[.pointer (some ⟨b, 0, none⟩), .int .i64 x] w fun e w' => e = .returned (.tuple #[]) ∧ ∃ v', Lv w' b B v' (L ++ [x]) ∧ Pl w w' b v v' := by
  obtain ⟨i0, hi, hz0, hz1, hz2⟩ := info_parts LgInfo
  have HC : Hid (Lv w b B v L) := hC
  obtain ⟨hcb, cv, fv, hown, hapt⟩ := hC
  obtain ⟨ar, capr, rfl⟩ := hown.slice
  have hne0 : some b ≠ (Value.slice ar L.length capr).ownBlock := fun e => hapt b e.symm rfl
  have S1a : ∀ o, (w.alloc o).cell? ⟨b, 0, none⟩ = some (.slice ar L.length capr) := fun o => (((Below.refl w.heap.size w).alloc (Nat.le_refl _) o).cell (p := ⟨b, 0, none⟩) hcb).trans cv
  have f1a : ∀ o, (w.alloc o).frozen? ⟨b, 0, none⟩ = false := fun o => (((Below.refl w.heap.size w).alloc (Nat.le_refl _) o).frozen (p := ⟨b, 0, none⟩) hcb).trans fv
  have hown1 : Hid (w.ownsRow B 3 1 (.slice ar L.length capr) L.length (zints L)) := hown
  clear hown
  go_enter Try.func76, Try.ntmps76
  go_wp2_with (at_builtin; refine wpList_append_lies _ rfl _ _ 35 rfl B 3 i0 (.int .i64 0) 1 8 Try.underlying35 hi hz0 hz1 hz2 rfl (by decide) _ L.length _ rfl (World.ownsRow.alloc hown1.out _) ⟨w.heap.size, 0, none⟩ 1 1 [Value.int .i64 x] rfl rfl (World.news_of_block (heap_alloc_new w _)) (by intro u hu; simp at hu; subst hu; rfl) (by omega) (by unfold maxLen; omega) (by omega) (by simp; omega) (w.heap.size + 1) (by simp) ?_; intro g9 cap9 w9 hown9 hgrow9 hat9 hlt9; have s9 := (hgrow9.cell_far ⟨b, 0, none⟩ (by simp; omega) hne0).trans (S1a _); have f9 : w9.frozen? ⟨b, 0, none⟩ = false := (World.frozen?_of_block (hgrow9.block b (by simp; omega) hne0)).trans (f1a _); have hend := addZ_end HC.out hown9 hgrow9 hat9; have HEND : Hid (type_of% hend) := hend; clear hend hown9 hgrow9 hat9)
  go_end0
  exact ⟨rfl, _, HEND.out⟩

theorem ZAt.drop {w : World} {B : Nat} {L : List Int} {ao : Option Addr} {n cap k : Nat} (h : ZAt w B (.slice ao n cap) L) (hk : k ≤ L.length) (ao' : Option Addr) (h' : k < L.length → ∀ g o, ao = some ⟨g, o, none⟩ → ao' = some ⟨g, o + k, none⟩) : ZAt w B (.slice ao' (n - k) (cap - k)) (L.drop k) := by
  obtain ⟨a, c, hv, hm, hc, hr⟩ := h
  simp only [Value.slice.injEq] at hv
  obtain ⟨rfl, rfl, rfl⟩ := hv
  refine ⟨ao', cap - k, by rw [List.length_drop], by rw [List.length_drop]; omega, by omega, fun i x hx => ?_⟩
  rw [List.getElem?_drop] at hx
  have hi : k + i < L.length := (List.getElem?_eq_some_iff.1 hx).1
  obtain ⟨g, o, ha, hg, cc⟩ := hr (k + i) x hx
  refine ⟨g, o + k, h' (by omega) g o ha, hg, ?_⟩
  rw [show o + k + i = o + (k + i) by omega, cc]

theorem zl_drop (p : List Nat) (k : Nat) : (zl p).drop k = zl (p.drop k) := by unfold zl; rw [List.map_drop]

/-- a list of sums that are taken one by one -/
structure Tv (w : World) (b B : Nat) (v : Value) (p : List Nat) : Prop where
  low : b < w.heap.size
  row : w.cell? ⟨b, 0, none⟩ = some v
  frz : w.frozen? ⟨b, 0, none⟩ = false
  at_ : ZAt w B v (zl p)
  far : B ≤ b

theorem ZAt.set {w : World} {B b : Nat} {v u : Value} {L : List Int} (h : ZAt w B v L) (hb : B ≤ b) : ZAt (w.setCell ⟨b, 0, none⟩ u) B v L := by
  obtain ⟨ao, cap, hv, hm, hc, hr⟩ := h
  refine ⟨ao, cap, hv, hm, hc, fun i x hx => ?_⟩
  obtain ⟨g, o, ha, hg, c⟩ := hr i x hx
  refine ⟨g, o, ha, hg, ?_⟩
  rw [World.cell?_setCell_other _ _ _ _ (by intro e; injection e with e1; omega)]
  exact c

theorem Tv.below {w w' : World} {b B : Nat} {v : Value} {p : List Nat} (h : Tv w b B v p) (hb : Below w.heap.size w w') : Tv w' b B v p := by
  obtain ⟨h1, h2, h3, h4, h5⟩ := h
  refine ⟨Nat.lt_of_lt_of_le h1 hb.size, (hb.cell (p := ⟨b, 0, none⟩) h1).trans h2, (hb.frozen (p := ⟨b, 0, none⟩) h1).trans h3, ?_, h5⟩
  obtain ⟨ao, cap, hv, hm, hc, hr⟩ := h4
  refine ⟨ao, cap, hv, hm, hc, fun i x hx => ?_⟩
  obtain ⟨g, o, ha, hg, c⟩ := hr i x hx
  exact ⟨g, o, ha, hg, (hb.cell (p := ⟨g, o + i, none⟩) (by show g < _; omega)).trans c⟩

set_option maxRecDepth 100000 in
set_option maxHeartbeats 4000000 in
theorem takeZ_any (b B : Nat) (v : Value) (p : List Nat) (w : World) (h : Tv w b B v p) (hp : 0 < p.length) :
    Calls Try.prog 72 #[.pointer (some ⟨b, 0, none⟩)] w fun e w' => e = .returned (.int .i64 ((p.getD 0 0 : Nat) : Int)) ∧ ∃ v', Tv w' b B v' (p.drop 1) ∧ w' = w.setCell ⟨b, 0, none⟩ v' := by
  have HT : Hid (Tv w b B v p) := h
  obtain ⟨h1, h2, h3, h4, h5⟩ := h
  have h40 := h4
  obtain ⟨ao, cap, rfl, hm, hc, hr⟩ := h4
  rw [zl_len] at hm
  rw [zl_len] at h2 h40
  unfold maxLen at hc
  obtain ⟨g, o, rfl, hg, c⟩ := hr 0 _ (zl_at p hp)
  rw [Nat.add_zero] at c
  obtain ⟨ao', hao⟩ : ∃ a : Option Addr, a = if cap = 1 then some ⟨g, o, none⟩ else some ⟨g, o + 1, none⟩ := ⟨_, rfl⟩
  have hD := ZAt.drop h40 (k := 1) (by rw [zl_len]; omega) ao' (fun hlt g' o' e => by
    rw [zl_len] at hlt
    simp only [Option.some.injEq, Addr.mk.injEq] at e
    obtain ⟨rfl, rfl, _⟩ := e
    rw [hao, if_neg (by omega)])
  rw [zl_drop] at hD
  have HEND : Hid (Tv (w.setCell ⟨b, 0, none⟩ (.slice ao' (p.length - 1) (cap - 1))) b B (.slice ao' (p.length - 1) (cap - 1)) (p.drop 1)) :=
    ⟨by simp; exact h1, World.cell?_setCell_same _ _ _ h2, by rw [World.frozen?_setCell]; exact h3, hD.set h5, h5⟩
  generalize p.getD 0 0 = q at c
  have hlt : (0 : Int) < (p.length : Int) := by omega
  have hl1 : (1 : Int) ≤ (p.length : Int) := by omega
  have hl2 : (1 : Int) ≤ (cap : Int) := by omega
  clear hr hD h40
  by_cases hc1 : cap = 1
  · rw [if_pos hc1] at hao
    subst hao
    subst hc1
    have HE2 : Hid (Tv (w.setCell ⟨b, 0, none⟩ (.slice (some ⟨g, o, none⟩) 0 0)) b B (.slice (some ⟨g, o, none⟩) 0 0) (p.drop 1)) := by
      have h := HEND.out
      rw [show p.length - 1 = 0 by omega] at h
      exact h
    go_enter Try.func72, Try.ntmps72
    go_wp2_with fail
    go_ret
    exact ⟨rfl, _, HE2.out, rfl⟩
  · rw [if_neg hc1] at hao
    subst hao
    go_enter Try.func72, Try.ntmps72
    go_wp2_with fail
    go_ret
    exact ⟨rfl, _, HEND.out, rfl⟩

theorem isWhole_any (b B : Nat) (v : Value) (x y : Nat) (L : List As) (w : World) (h : Rt w b B v x y L) :
    Calls Try.prog 75 #[.pointer (some ⟨b, 0, none⟩)] w fun e w' => e = .returned (.bool (decide (x = 0))) ∧ w' = w := by
  have h0 := h.fr
  have e : decide (x = 0) = decide ((x : Int) = 0) := by rw [decide_eq_decide]; omega
  rw [e]
  clear h
  go_enter Try.func75, Try.ntmps75
  go_wp2_with fail
  go_ret
  exact ⟨by first | rfl | simp, rfl⟩

set_option maxRecDepth 100000 in
theorem manySums_any (b B : Nat) (v : Value) (x y : Nat) (L : List As) (w : World) (h : Rt w b B v x y L) (hL : L.length ≤ 100) :
    Calls Try.prog 79 #[.pointer (some ⟨b, 0, none⟩)] w fun e w' => e = .returned (.int .i64 ((L.length + off x : Nat) : Int)) ∧ w' = w := by
  have C : Hid (∀ W, W = w → Calls Try.prog 75 #[.pointer (some ⟨b, 0, none⟩)] W fun e w' => e = .returned (.bool (decide (x = 0))) ∧ w' = W) := fun W hW => by rw [hW]; exact isWhole_any b B v x y L w h
  have h2 := h.row
  obtain ⟨ar, cr, hv, _, _⟩ := h.own.slice
  subst hv
  clear h
  by_cases hx : x = 0
  · rw [decide_eq_true hx] at C
    rw [show off x = 0 by unfold off; rw [if_pos hx], Nat.add_zero]
    go_enter Try.func79, Try.ntmps79
    go_wp2_with fail
    go_at_call 75
    refine (C.out _ rfl).mono ?_
    rintro e w' ⟨rfl, rfl⟩
    go_wp2_with fail
    go_ret
    exact ⟨rfl, rfl⟩
  · rw [decide_eq_false hx] at C
    rw [show off x = 1 by unfold off; rw [if_neg hx]]
    go_enter Try.func79, Try.ntmps79
    go_wp2_with fail
    go_at_call 75
    refine (C.out _ rfl).mono ?_
    rintro e w' ⟨rfl, rfl⟩
    go_wp2_with fail
    go_ret
    exact ⟨by first | rfl | go_num, rfl⟩

end Go.Proofs.Ytlglngmlaknmlaa
