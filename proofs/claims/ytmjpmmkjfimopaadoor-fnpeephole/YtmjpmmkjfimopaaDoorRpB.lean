/- The program's run of one instruction. -/
import Derived.Test.YtmjpmmkjfimopaaDoorHc
import Derived.Test.YtmjpmmkjfimopaaDoorCpA
import Derived.Test.YtmjpmmkjfimopaaDoorMtE
import Derived.Test.YtmjpmmkjfimopaaDoorHe
namespace Go.Proofs.YtmjpmmkjfimopaaDoor
open Go.RowKit Plain Sch Wan Prg

abbrev noV : Value := .slice none 0 0

/-- how a run lies in memory -/
def RSt (w : World) (rb : Nat) (s : ByteArray) (fl : Bool) (pv nx : Int) (en : Bool) : Prop :=
  rb < w.heap.size ∧ (w.cell? ⟨rb, 0, none⟩ = some (.string s) ∧ w.cell? ⟨rb, 1, none⟩ = some (.bool fl) ∧ w.cell? ⟨rb, 2, none⟩ = some (.int .i64 pv) ∧ w.cell? ⟨rb, 3, none⟩ = some (.int .i64 nx) ∧ w.cell? ⟨rb, 4, none⟩ = some (.bool en)) ∧ w.frozen? ⟨rb, 1, none⟩ = false ∧ w.frozen? ⟨rb, 2, none⟩ = false ∧ w.frozen? ⟨rb, 3, none⟩ = false ∧ w.frozen? ⟨rb, 4, none⟩ = false

theorem RSt.kept {w w' : World} {rb : Nat} {s : ByteArray} {fl : Bool} {pv nx : Int} {en : Bool} (h : RSt w rb s fl pv nx en) (hb : w'.heap[rb]? = w.heap[rb]?) (hs : w.heap.size ≤ w'.heap.size) : RSt w' rb s fl pv nx en := by
  obtain ⟨h0, ⟨h1, h2, h3, h4, h5⟩, f1, f2, f3, f4⟩ := h
  have hq : ∀ j, w'.cell? ⟨rb, j, none⟩ = w.cell? ⟨rb, j, none⟩ := fun j => World.cell?_of_block (w := w) hb
  have hf : ∀ j, w'.frozen? ⟨rb, j, none⟩ = w.frozen? ⟨rb, j, none⟩ := fun j => World.frozen?_of_block (w := w) hb
  exact ⟨by omega, ⟨(hq _).trans h1, (hq _).trans h2, (hq _).trans h3, (hq _).trans h4, (hq _).trans h5⟩, (hf _).trans f1, (hf _).trans f2, (hf _).trans f3, (hf _).trans f4⟩

theorem RSt.below {w w' : World} {rb : Nat} {s : ByteArray} {fl : Bool} {pv nx : Int} {en : Bool} (h : RSt w rb s fl pv nx en) (hb : Below w.heap.size w w') : RSt w' rb s fl pv nx en := h.kept (hb.block rb h.1) hb.size

theorem RSt.set1 {w : World} {rb : Nat} {s : ByteArray} {fl : Bool} {pv nx : Int} {en : Bool} (h : RSt w rb s fl pv nx en) (x : Bool) : RSt (w.setCell ⟨rb, 1, none⟩ (.bool x)) rb s x pv nx en := by
  obtain ⟨h0, ⟨h1, h2, h3, h4, h5⟩, f1, f2, f3, f4⟩ := h
  exact ⟨by simp; omega, ⟨by rw [World.cell?_setCell_other _ _ _ _ (by simp)]; exact h1, World.cell?_setCell_same _ _ _ h2, by rw [World.cell?_setCell_other _ _ _ _ (by simp)]; exact h3, by rw [World.cell?_setCell_other _ _ _ _ (by simp)]; exact h4, by rw [World.cell?_setCell_other _ _ _ _ (by simp)]; exact h5⟩, by rw [World.frozen?_setCell]; exact f1, by rw [World.frozen?_setCell]; exact f2, by rw [World.frozen?_setCell]; exact f3, by rw [World.frozen?_setCell]; exact f4⟩
theorem RSt.set2 {w : World} {rb : Nat} {s : ByteArray} {fl : Bool} {pv nx : Int} {en : Bool} (h : RSt w rb s fl pv nx en) (x : Int) : RSt (w.setCell ⟨rb, 2, none⟩ (.int .i64 x)) rb s fl x nx en := by
  obtain ⟨h0, ⟨h1, h2, h3, h4, h5⟩, f1, f2, f3, f4⟩ := h
  exact ⟨by simp; omega, ⟨by rw [World.cell?_setCell_other _ _ _ _ (by simp)]; exact h1, by rw [World.cell?_setCell_other _ _ _ _ (by simp)]; exact h2, World.cell?_setCell_same _ _ _ h3, by rw [World.cell?_setCell_other _ _ _ _ (by simp)]; exact h4, by rw [World.cell?_setCell_other _ _ _ _ (by simp)]; exact h5⟩, by rw [World.frozen?_setCell]; exact f1, by rw [World.frozen?_setCell]; exact f2, by rw [World.frozen?_setCell]; exact f3, by rw [World.frozen?_setCell]; exact f4⟩
theorem RSt.set3 {w : World} {rb : Nat} {s : ByteArray} {fl : Bool} {pv nx : Int} {en : Bool} (h : RSt w rb s fl pv nx en) (x : Int) : RSt (w.setCell ⟨rb, 3, none⟩ (.int .i64 x)) rb s fl pv x en := by
  obtain ⟨h0, ⟨h1, h2, h3, h4, h5⟩, f1, f2, f3, f4⟩ := h
  exact ⟨by simp; omega, ⟨by rw [World.cell?_setCell_other _ _ _ _ (by simp)]; exact h1, by rw [World.cell?_setCell_other _ _ _ _ (by simp)]; exact h2, by rw [World.cell?_setCell_other _ _ _ _ (by simp)]; exact h3, World.cell?_setCell_same _ _ _ h4, by rw [World.cell?_setCell_other _ _ _ _ (by simp)]; exact h5⟩, by rw [World.frozen?_setCell]; exact f1, by rw [World.frozen?_setCell]; exact f2, by rw [World.frozen?_setCell]; exact f3, by rw [World.frozen?_setCell]; exact f4⟩
theorem RSt.set4 {w : World} {rb : Nat} {s : ByteArray} {fl : Bool} {pv nx : Int} {en : Bool} (h : RSt w rb s fl pv nx en) (x : Bool) : RSt (w.setCell ⟨rb, 4, none⟩ (.bool x)) rb s fl pv nx x := by
  obtain ⟨h0, ⟨h1, h2, h3, h4, h5⟩, f1, f2, f3, f4⟩ := h
  exact ⟨by simp; omega, ⟨by rw [World.cell?_setCell_other _ _ _ _ (by simp)]; exact h1, by rw [World.cell?_setCell_other _ _ _ _ (by simp)]; exact h2, by rw [World.cell?_setCell_other _ _ _ _ (by simp)]; exact h3, by rw [World.cell?_setCell_other _ _ _ _ (by simp)]; exact h4, World.cell?_setCell_same _ _ _ h5⟩, by rw [World.frozen?_setCell]; exact f1, by rw [World.frozen?_setCell]; exact f2, by rw [World.frozen?_setCell]; exact f3, by rw [World.frozen?_setCell]; exact f4⟩

theorem Pu.set {w w' : World} {rb : Nat} (h : Pu w w' (some rb) noV noV) (j : Nat) (x : Value) : Pu w (w'.setCell ⟨rb, j, none⟩ x) (some rb) noV noV :=
  ⟨h.os, h.tape, h.output, by have := h.size; simp; omega, fun k hk hc hv => by
    rw [Below.heap_setCell _ _ _ _ (fun e => hc (by rw [e]))]; exact h.block k hk hc hv, fun g hg => by simp [Value.ownBlock] at hg⟩

theorem Pu.next {w w1 w2 : World} {rb : Nat} (h : Pu w w1 (some rb) noV noV) (hb : Below w1.heap.size w1 w2) : Pu w w2 (some rb) noV noV := h.trans (Pu.of_below hb)
theorem Pu.refl (w : World) (cb : Option Nat) (v : Value) : Pu w w cb v v := Pu.of_below (Below.refl _ w)

/-- what one instruction leaves -/
def DoOut (w : World) (rb : Nat) (s : ByteArray) (fl : Bool) (pv nx : Int) (en : Bool) (e : Ending) (w' : World) : Prop := e = .returned (.tuple #[]) ∧ RSt w' rb s fl pv nx en ∧ Pu w w' (some rb) noV noV

theorem RSt.drewN {w : World} {rb : Nat} {s : ByteArray} {fl : Bool} {pv nx : Int} {en : Bool} (h : RSt w rb s fl pv nx en) (n : Nat) : RSt (w.drewN n) rb s fl pv nx en := h
theorem Pu.drewN {w w' : World} {cb : Option Nat} {v v' : Value} (h : Pu w w' cb v v') (n : Nat) : Pu w (w'.drewN n) cb v v' := ⟨h.os, h.tape, h.output, h.size, h.block, h.new⟩
theorem Below.bdN {B : Nat} {w w' : World} (h : Below B w w') (n : Nat) : Below B w (w'.drewN n) := ⟨h.os, h.tape, h.output, h.size, h.block⟩

set_option maxRecDepth 100000 in
set_option maxHeartbeats 2000000 in
theorem end_any (x : Ins) (rb : Nat) (s : ByteArray) (fl : Bool) (pv nx : Int) (en : Bool) (w : World) (hR : RSt w rb s fl pv nx en) :
    Calls Tryd.prog 57 #[.pointer (some ⟨rb, 0, none⟩), .agg #[.int .i64 x.code, .int .i64 x.kind, .int .i64 x.no, .int .i64 x.num, .string x.text, .int .i64 x.dst]] w (DoOut w rb s fl pv nx true) := by
  obtain ⟨W1, hW1⟩ : ∃ W, W = w.alloc (.cells #[.int .i64 x.code, .int .i64 x.kind, .int .i64 x.no, .int .i64 x.num, .string x.text, .int .i64 x.dst] 59) := ⟨_, rfl⟩
  have hB1 : Below w.heap.size w W1 := by rw [hW1]; exact (Below.refl _ w).alloc (Nat.le_refl _) _
  have hs1 : Hid (W1.heap.size = w.heap.size + 1) := by show _ = _; rw [hW1]; simp
  have hl1 : w.heap.size < W1.heap.size := by rw [hs1.out]; omega
  have x0 : W1.cell? ⟨w.heap.size, 0, none⟩ = some (.int .i64 x.code) := by rw [hW1]; go_simp
  have x1 : W1.cell? ⟨w.heap.size, 1, none⟩ = some (.int .i64 x.kind) := by rw [hW1]; go_simp
  have x2 : W1.cell? ⟨w.heap.size, 2, none⟩ = some (.int .i64 x.no) := by rw [hW1]; go_simp
  have x3 : W1.cell? ⟨w.heap.size, 3, none⟩ = some (.int .i64 x.num) := by rw [hW1]; go_simp
  have x4 : W1.cell? ⟨w.heap.size, 4, none⟩ = some (.string x.text) := by rw [hW1]; go_simp
  have x5 : W1.cell? ⟨w.heap.size, 5, none⟩ = some (.int .i64 x.dst) := by rw [hW1]; go_simp
  have hrb := hR.1
  have hrw : rb < W1.heap.size := by omega
  have hne : rb ≠ w.heap.size := by omega
  have HR1 : Hid (RSt W1 rb s fl pv nx en) := hR.below hB1
  have HP1 : Hid (Pu w W1 (some rb) noV noV) := Pu.of_below hB1
  clear hR
  obtain ⟨_, ⟨h1, h2, h3, h4, h5⟩, f1, f2, f3, f4⟩ := HR1.out
  go_enter Tryd.func57, Tryd.ntmps57
  go_upto_region 1 with fail
  rw [← hW1]
  clear hW1
  go_wp2
  go_end0
  exact ⟨rfl, HR1.out.set4 true, HP1.out.set 4 _⟩

set_option maxRecDepth 100000 in
set_option maxHeartbeats 2000000 in
theorem flip_any (x : Ins) (rb : Nat) (s : ByteArray) (fl : Bool) (pv nx : Int) (en : Bool) (w : World) (hR : RSt w rb s fl pv nx en) :
    Calls Tryd.prog 56 #[.pointer (some ⟨rb, 0, none⟩), .agg #[.int .i64 x.code, .int .i64 x.kind, .int .i64 x.no, .int .i64 x.num, .string x.text, .int .i64 x.dst]] w (DoOut w rb s (!fl) pv nx en) := by
  obtain ⟨W1, hW1⟩ : ∃ W, W = w.alloc (.cells #[.int .i64 x.code, .int .i64 x.kind, .int .i64 x.no, .int .i64 x.num, .string x.text, .int .i64 x.dst] 59) := ⟨_, rfl⟩
  have hB1 : Below w.heap.size w W1 := by rw [hW1]; exact (Below.refl _ w).alloc (Nat.le_refl _) _
  have hs1 : Hid (W1.heap.size = w.heap.size + 1) := by show _ = _; rw [hW1]; simp
  have hl1 : w.heap.size < W1.heap.size := by rw [hs1.out]; omega
  have x0 : W1.cell? ⟨w.heap.size, 0, none⟩ = some (.int .i64 x.code) := by rw [hW1]; go_simp
  have x1 : W1.cell? ⟨w.heap.size, 1, none⟩ = some (.int .i64 x.kind) := by rw [hW1]; go_simp
  have x2 : W1.cell? ⟨w.heap.size, 2, none⟩ = some (.int .i64 x.no) := by rw [hW1]; go_simp
  have x3 : W1.cell? ⟨w.heap.size, 3, none⟩ = some (.int .i64 x.num) := by rw [hW1]; go_simp
  have x4 : W1.cell? ⟨w.heap.size, 4, none⟩ = some (.string x.text) := by rw [hW1]; go_simp
  have x5 : W1.cell? ⟨w.heap.size, 5, none⟩ = some (.int .i64 x.dst) := by rw [hW1]; go_simp
  have hrb := hR.1
  have hrw : rb < W1.heap.size := by omega
  have hne : rb ≠ w.heap.size := by omega
  have HR1 : Hid (RSt W1 rb s fl pv nx en) := hR.below hB1
  have HP1 : Hid (Pu w W1 (some rb) noV noV) := Pu.of_below hB1
  clear hR
  obtain ⟨_, ⟨h1, h2, h3, h4, h5⟩, f1, f2, f3, f4⟩ := HR1.out
  go_enter Tryd.func56, Tryd.ntmps56
  go_upto_region 1 with fail
  rw [← hW1]
  clear hW1
  go_wp2
  go_end0
  exact ⟨rfl, HR1.out.set1 (!fl), HP1.out.set 1 _⟩

set_option maxRecDepth 100000 in
set_option maxHeartbeats 4000000 in
theorem jump_any (x : Ins) (rb : Nat) (s : ByteArray) (fl : Bool) (pv nx : Int) (en : Bool) (w : World) (hR : RSt w rb s fl pv nx en) (hm : x.num = 0 ∨ x.num = 1) :
    Calls Tryd.prog 55 #[.pointer (some ⟨rb, 0, none⟩), .agg #[.int .i64 x.code, .int .i64 x.kind, .int .i64 x.no, .int .i64 x.num, .string x.text, .int .i64 x.dst]] w (DoOut w rb s fl pv (if fl = decide (x.num = 1) then x.dst else nx) en) := by
  obtain ⟨NX, hNX⟩ : ∃ NX, NX = (if fl = decide (x.num = 1) then x.dst else nx) := ⟨_, rfl⟩
  rw [← hNX]
  have HNX : Hid (NX = (if fl = decide (x.num = 1) then x.dst else nx)) := hNX
  clear hNX
  obtain ⟨W1, hW1⟩ : ∃ W, W = w.alloc (.cells #[.int .i64 x.code, .int .i64 x.kind, .int .i64 x.no, .int .i64 x.num, .string x.text, .int .i64 x.dst] 59) := ⟨_, rfl⟩
  have hB1 : Below w.heap.size w W1 := by rw [hW1]; exact (Below.refl _ w).alloc (Nat.le_refl _) _
  have hs1 : Hid (W1.heap.size = w.heap.size + 1) := by show _ = _; rw [hW1]; simp
  have hl1 : w.heap.size < W1.heap.size := by rw [hs1.out]; omega
  have x0 : W1.cell? ⟨w.heap.size, 0, none⟩ = some (.int .i64 x.code) := by rw [hW1]; go_simp
  have x1 : W1.cell? ⟨w.heap.size, 1, none⟩ = some (.int .i64 x.kind) := by rw [hW1]; go_simp
  have x2 : W1.cell? ⟨w.heap.size, 2, none⟩ = some (.int .i64 x.no) := by rw [hW1]; go_simp
  have x3 : W1.cell? ⟨w.heap.size, 3, none⟩ = some (.int .i64 x.num) := by rw [hW1]; go_simp
  have x4 : W1.cell? ⟨w.heap.size, 4, none⟩ = some (.string x.text) := by rw [hW1]; go_simp
  have x5 : W1.cell? ⟨w.heap.size, 5, none⟩ = some (.int .i64 x.dst) := by rw [hW1]; go_simp
  have hrb := hR.1
  have hrw : rb < W1.heap.size := by omega
  have hne : rb ≠ w.heap.size := by omega
  have HR1 : Hid (RSt W1 rb s fl pv nx en) := hR.below hB1
  have HP1 : Hid (Pu w W1 (some rb) noV noV) := Pu.of_below hB1
  clear hR
  obtain ⟨_, ⟨h1, h2, h3, h4, h5⟩, f1, f2, f3, f4⟩ := HR1.out
  obtain ⟨c, kd, no, m, t, jt⟩ := x
  dsimp only at *
  have hEa : Hid (∀ n, NX = jt → DoOut w rb s fl pv NX en (.returned (.tuple #[])) ((W1.setCell ⟨rb, 3, none⟩ (.int .i64 jt)).drewN n)) := fun n h => by rw [h]; exact ⟨rfl, (HR1.out.set3 jt).drewN n, (HP1.out.set 3 _).drewN n⟩
  have hEb : Hid (∀ n, NX = jt → DoOut w rb s fl pv NX en (.returned (.tuple #[])) ((W1.drewN n).setCell ⟨rb, 3, none⟩ (.int .i64 jt))) := fun n h => by rw [h]; exact ⟨rfl, (HR1.out.drewN n).set3 jt, (HP1.out.drewN n).set 3 _⟩
  have hEc : Hid (∀ n, NX = nx → DoOut w rb s fl pv NX en (.returned (.tuple #[])) (W1.drewN n)) := fun n h => by rw [h]; exact ⟨rfl, HR1.out.drewN n, HP1.out.drewN n⟩
  go_enter Tryd.func55, Tryd.ntmps55
  go_upto_region 1 with fail
  rw [← hW1]
  clear hW1
  rcases hm with rfl | rfl <;> cases fl
  · have hN : Hid (NX = jt) := by show NX = _; rw [HNX.out]; rfl
    clear HNX
    go_wp2_with fail
    go_quiet (fail)
    go_wp2
    go_end0
    first | exact hEc.out _ hN.out | exact hEa.out _ hN.out | exact hEb.out _ hN.out
  · have hN : Hid (NX = nx) := by show NX = _; rw [HNX.out]; rfl
    clear HNX
    go_wp2_with fail
    go_quiet (fail)
    go_wp2
    go_end0
    first | exact hEc.out _ hN.out | exact hEa.out _ hN.out | exact hEb.out _ hN.out
  · have hN : Hid (NX = nx) := by show NX = _; rw [HNX.out]; rfl
    clear HNX
    go_wp2_with fail
    go_quiet (fail)
    go_wp2
    go_end0
    first | exact hEc.out _ hN.out | exact hEa.out _ hN.out | exact hEb.out _ hN.out
  · have hN : Hid (NX = jt) := by show NX = _; rw [HNX.out]; rfl
    clear HNX
    go_wp2_with fail
    go_quiet (fail)
    go_wp2
    go_end0
    first | exact hEc.out _ hN.out | exact hEa.out _ hN.out | exact hEb.out _ hN.out

theorem KR.pu {w w' : World} {rb : Nat} (h : KR w) (hp : Pu w w' (some rb) noV noV) (hrb : 0 < rb) : KR w' :=
  h.below (B := 1) (hp.below h.1 (fun g hg => by simp at hg; omega) (fun g hg => by simp [Value.ownBlock] at hg)) (by omega)

set_option maxRecDepth 100000 in
set_option maxHeartbeats 8000000 in
theorem seek_any (x : Ins) (rb : Nat) (s : ByteArray) (fl : Bool) (pv nx : Int) (en : Bool) (w : World) (hR : RSt w rb s fl pv nx en) (l : List Fld) (hs : s.size ≤ 400) (hrf : rfs s (s.size + 1) 0 [] = (l, true)) (hok : ∀ f ∈ l, okF f) (hk : KR w) (hrb0 : 0 < rb) :
    Calls Tryd.prog 53 #[.pointer (some ⟨rb, 0, none⟩), .agg #[.int .i64 x.code, .int .i64 x.kind, .int .i64 x.no, .int .i64 x.num, .string x.text, .int .i64 x.dst]] w fun e w' => ∃ pv', DoOut w rb s fl pv' nx en e w' ∧ PlR s pv' (fby l x.no) := by
  obtain ⟨W1, hW1⟩ : ∃ W, W = w.alloc (.cells #[.int .i64 x.code, .int .i64 x.kind, .int .i64 x.no, .int .i64 x.num, .string x.text, .int .i64 x.dst] 59) := ⟨_, rfl⟩
  have hB1 : Below w.heap.size w W1 := by rw [hW1]; exact (Below.refl _ w).alloc (Nat.le_refl _) _
  have hs1 : Hid (W1.heap.size = w.heap.size + 1) := by show _ = _; rw [hW1]; simp
  have hl1 : w.heap.size < W1.heap.size := by rw [hs1.out]; omega
  have x0 : W1.cell? ⟨w.heap.size, 0, none⟩ = some (.int .i64 x.code) := by rw [hW1]; go_simp
  have x1 : W1.cell? ⟨w.heap.size, 1, none⟩ = some (.int .i64 x.kind) := by rw [hW1]; go_simp
  have x2 : W1.cell? ⟨w.heap.size, 2, none⟩ = some (.int .i64 x.no) := by rw [hW1]; go_simp
  have x3 : W1.cell? ⟨w.heap.size, 3, none⟩ = some (.int .i64 x.num) := by rw [hW1]; go_simp
  have x4 : W1.cell? ⟨w.heap.size, 4, none⟩ = some (.string x.text) := by rw [hW1]; go_simp
  have x5 : W1.cell? ⟨w.heap.size, 5, none⟩ = some (.int .i64 x.dst) := by rw [hW1]; go_simp
  have hrb := hR.1
  have hrw : rb < W1.heap.size := by omega
  have hne : rb ≠ w.heap.size := by omega
  have HR1 : Hid (RSt W1 rb s fl pv nx en) := hR.below hB1
  have HP1 : Hid (Pu w W1 (some rb) noV noV) := Pu.of_below hB1
  clear hR
  obtain ⟨_, ⟨h1, h2, h3, h4, h5⟩, f1, f2, f3, f4⟩ := HR1.out
  have HK : Hid (KR w) := hk
  have HRF : Hid (rfs s (s.size + 1) 0 [] = (l, true)) := hrf
  have HOK : Hid (∀ f ∈ l, okF f) := hok
  obtain ⟨no, hno⟩ : ∃ no, no = x.no := ⟨_, rfl⟩
  rw [← hno] at x2 hW1 ⊢
  have X2 : Hid (W1.cell? ⟨w.heap.size, 2, none⟩ = some (.int .i64 no)) := x2
  have hs' : (s.size : Int) ≤ 400 := by omega
  clear hk hrf hok hno x0 x1 x3 x4 x5
  go_enter Tryd.func53, Tryd.ntmps53
  go_upto_region 1 with fail
  rw [← hW1]
  clear hW1
  have HR2 : Hid (RSt (W1.setCell ⟨rb, 2, none⟩ (.int .i64 (-1))) rb s fl (-1) nx en) := HR1.out.set2 (-1)
  have HP2 : Hid (Pu w (W1.setCell ⟨rb, 2, none⟩ (.int .i64 (-1))) (some rb) noV noV) := HP1.out.set 2 _
  have HB2 : Hid ((W1.setCell ⟨rb, 2, none⟩ (.int .i64 (-1))).cell? ⟨w.heap.size, 2, none⟩ = some (.int .i64 no) ∧ w.heap.size < (W1.setCell ⟨rb, 2, none⟩ (.int .i64 (-1))).heap.size) := ⟨by rw [World.cell?_setCell_other _ _ _ _ (by simp <;> omega)]; exact x2, by simp; omega⟩
  go_wp2
  go_loopw [4] (fun va wr => ∃ (a f : Nat) (acc : List Fld) (pv' : Int), va = .int .i64 (a : Int) ∧ a ≤ s.size ∧ Hid (RSt wr rb s fl pv' nx en) ∧ Hid (Pu w wr (some rb) noV noV) ∧ Hid (wr.cell? ⟨w.heap.size, 2, none⟩ = some (.int .i64 no) ∧ w.heap.size < wr.heap.size) ∧ ((pv' = -1 ∧ Hid (rfs s f a acc = (l, true)) ∧ Hid (∀ y ∈ acc, y.no ≠ no)) ∨ (pv' ≠ -1 ∧ Hid (PlR s pv' (fby l no)))))
    (fun va _ => s.size - (intOf va).toNat)
  case atStart => exact ⟨0, s.size + 1, [], -1, rfl, by omega, HR2, HP2, HB2, .inl ⟨rfl, HRF, fun y hy => by simp at hy⟩⟩
  case round =>
    clear HR2 HP2 HB2 h1 h2 h3 h4 h5 f1 f2 f3 f4 x2
    obtain ⟨a, f, acc, pv', rfl, hale, HRr, HPr, HBr, hcase⟩ := hrel
    obtain ⟨hrr, ⟨h1, h2, h3, h4, h5⟩, f1, f2, f3, f4⟩ := HRr.out
    obtain ⟨xb, hwl⟩ := HBr.out
    rcases hcase with ⟨rfl, hrfs, hacc⟩ | ⟨hpv, hpl⟩
    · by_cases hlt : a < s.size
      · have hlt' : (a : Int) < (s.size : Int) := by omega
        obtain ⟨f', y, b, rfl, hrf1, hrfs2⟩ := rfs_in hrfs.out hlt
        have HK2 : Hid (KR wr) := HK.out.pu HPr.out hrb0
        have HRF1 : Hid (rf1 s a = some (y, b)) := hrf1
        have HRS2 : Hid (rfs s f' b (acc ++ [y]) = (l, true)) := hrfs2
        have hoy : Hid (okF y) := by
          obtain ⟨rest, hrest⟩ := rfs_pre s _ _ _ _ hrfs2
          exact HOK.out y (by rw [hrest]; simp)
        clear hrf1 hrfs2 hrfs
        go_wp2_with fail
        refine (takeField_any s a _ hs HK2.out).mono ?_
        rintro e w3 ⟨x3, b3, ok3, rfl, htf, hb3⟩
        have hx3 : x3 = y ∧ b3 = (b : Int) ∧ a < b ∧ b ≤ s.size := by
          rcases htf with ⟨_, c, hbc, hrc, hac, hcs⟩ | ⟨_, hn⟩
          · rw [HRF1.out] at hrc
            simp only [Option.some.injEq, Prod.mk.injEq] at hrc
            obtain ⟨rfl, rfl⟩ := hrc
            exact ⟨rfl, hbc, hac, hcs⟩
          · rw [HRF1.out] at hn; cases hn
        obtain ⟨rfl, rfl, hab, hbs⟩ := hx3
        have HR3 : Hid (RSt w3 rb s fl (-1) nx en) := HRr.out.below hb3
        have HP3 : Hid (Pu w w3 (some rb) noV noV) := HPr.out.next hb3
        have xb3 := (hb3.cell (p := ⟨w.heap.size, 2, none⟩) hwl).trans xb
        have hwl3 : w.heap.size < w3.heap.size := by have := hb3.size; omega
        clear htf hb3 HK2
        unfold Fld.val
        obtain ⟨W4, hW4⟩ : ∃ W, W = w3.alloc (.cells #[.int .i64 x3.no, .int .i64 x3.kind, .int .i64 x3.num, .string x3.data] 88) := ⟨_, rfl⟩
        have hB4 : Below w3.heap.size w3 W4 := by rw [hW4]; exact (Below.refl _ w3).alloc (Nat.le_refl _) _
        have hl4 : w3.heap.size < W4.heap.size := by rw [hW4]; simp
        have y0 : W4.cell? ⟨w3.heap.size, 0, none⟩ = some (.int .i64 x3.no) := by rw [hW4]; go_simp
        have HR4 : Hid (RSt W4 rb s fl (-1) nx en) := HR3.out.below hB4
        have HP4 : Hid (Pu w W4 (some rb) noV noV) := HP3.out.next hB4
        have xb4 := (hB4.cell (p := ⟨w.heap.size, 2, none⟩) hwl3).trans xb3
        have hwl4 : w.heap.size < W4.heap.size := by omega
        obtain ⟨hr4, ⟨k1, k2, k3, k4, k5⟩, e1, e2, e3, e4⟩ := HR4.out
        go_upto_region 5 with fail
        rw [← hW4]
        clear hW4 h1 h2 h3 h4 h5 f1 f2 f3 f4 xb xb3 HR3 HP3
        by_cases hnn : x3.no = no
        · have hnn' : (x3.no == no) = true := by simpa using hnn
          have HPL : Hid (PlR s (a : Int) (fby l no)) := by
            obtain ⟨rest, hrest⟩ := rfs_pre s _ _ _ _ HRS2.out
            have hfb := fby_take l acc no x3 rest hacc.out (by rw [hrest, List.append_assoc]; rfl)
            rw [if_pos hnn] at hfb
            show PlR _ _ _
            rw [hfb]
            exact .inr ⟨a, x3, b, rfl, HRF1.out, rfl, hlt, hoy.out⟩
          have HR5 : Hid (RSt (W4.setCell ⟨rb, 2, none⟩ (.int .i64 (a : Int))) rb s fl (a : Int) nx en) := HR4.out.set2 a
          have HP5 : Hid (Pu w (W4.setCell ⟨rb, 2, none⟩ (.int .i64 (a : Int))) (some rb) noV noV) := HP4.out.set 2 _
          have HB5 : Hid ((W4.setCell ⟨rb, 2, none⟩ (.int .i64 (a : Int))).cell? ⟨w.heap.size, 2, none⟩ = some (.int .i64 no) ∧ w.heap.size < (W4.setCell ⟨rb, 2, none⟩ (.int .i64 (a : Int))).heap.size) := ⟨by rw [World.cell?_setCell_other _ _ _ _ (by simp <;> omega)]; exact xb4, by simp; omega⟩
          clear hacc hnn HRS2 HRF1 hoy
          go_wp2
          go_roundw
          case rel => exact ⟨b, 0, [], (a : Int), by go_num, hbs, HR5, HP5, HB5, .inr ⟨by omega, HPL⟩⟩
          case measure => simp [intOf]; omega
        · have hnn' : (x3.no == no) = false := by simpa using hnn
          have HA2 : Hid (∀ y ∈ acc ++ [x3], y.no ≠ no) := fun y hy => by
            rw [List.mem_append, List.mem_singleton] at hy
            rcases hy with hy | rfl
            · exact hacc.out y hy
            · exact hnn
          have HB5 : Hid (W4.cell? ⟨w.heap.size, 2, none⟩ = some (.int .i64 no) ∧ w.heap.size < W4.heap.size) := ⟨xb4, hwl4⟩
          clear hacc hnn HRF1 hoy
          go_wp2
          go_roundw
          case rel => exact ⟨b, f', acc ++ [x3], -1, by go_num, hbs, HR4, HP4, HB5, .inl ⟨rfl, HRS2, HA2⟩⟩
          case measure => simp [intOf]; omega
      · have hge : ¬ (a : Int) < (s.size : Int) := by omega
        have HPL : Hid (PlR s (-1) (fby l no)) := by
          have hl := rfs_out2 hrfs.out hlt
          show PlR _ _ _
          rw [fby_none l no (fun j y hy => hacc.out y (by rw [← hl]; exact List.mem_of_getElem? hy))]
          exact .inl ⟨rfl, rfl⟩
        clear hrfs hacc
        go_wp2
        go_end0
        exact ⟨-1, ⟨rfl, HRr.out, HPr.out⟩, HPL.out⟩
    · have hpv' : (pv' == -1) = false := by simpa using hpv
      by_cases hlt : a < s.size
      · have hlt' : (a : Int) < (s.size : Int) := by omega
        go_wp2
        go_end0
        exact ⟨pv', ⟨rfl, HRr.out, HPr.out⟩, hpl.out⟩
      · have hge : ¬ (a : Int) < (s.size : Int) := by omega
        go_wp2
        go_end0
        exact ⟨pv', ⟨rfl, HRr.out, HPr.out⟩, hpl.out⟩

end Go.Proofs.YtmjpmmkjfimopaaDoor
