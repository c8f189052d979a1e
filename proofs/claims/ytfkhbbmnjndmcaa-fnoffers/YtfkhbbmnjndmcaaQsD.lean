/- A queue of one's own in a variable, turned step by step. -/
import Derived.Test.YtfkhbbmnjndmcaaQsC
namespace Go.Proofs.Ytfkhbbmnjndmcaa
open Go.RowKit Plain Qus

/-- a queue as an answer whose rows lie from B on -/
def QuOutB (w w' : World) (B : Nat) (q : Qu) (P : Value → Prop) : Prop := ∃ a1 c1 a2 c2 a3 c3, P (.agg #[.int .i64 q.cap, .int .i64 q.rule, .int .i64 q.next, .slice a1 q.wt.length c1, .slice a2 q.hd.length c2, .slice a3 q.dr.length c3]) ∧ QuRow w' B q (.slice a1 q.wt.length c1) (.slice a2 q.hd.length c2) (.slice a3 q.dr.length c3) ∧ Below B w w'

theorem grow_of_below {w w' : World} {row : Option Nat} (hb : Below w.heap.size w w') : w.grownBy w' row := ⟨hb.os, hb.tape, hb.output, hb.size, fun j hj _ => hb.block j hj⟩

theorem apart9 {w : World} {v v9 u : Value} (hu : ∀ g, u.ownBlock = some g → g < w.heap.size) (h9 : ∀ g, v9.ownBlock = some g → v.ownBlock = some g ∨ w.heap.size ≤ g) (h : ∀ g, v.ownBlock = some g → u.ownBlock ≠ some g) : ∀ g, v9.ownBlock = some g → u.ownBlock ≠ some g := fun g hg e => by
  rcases h9 g hg with h1 | h1
  · exact h g h1 e
  · have := hu g e; omega
theorem flipQ {u v : Value} (h : ∀ g, u.ownBlock = some g → v.ownBlock ≠ some g) : ∀ g, v.ownBlock = some g → u.ownBlock ≠ some g := fun g hg e => h g e hg

section
variable {w w9 : World} {B : Nat} {q : Qu} {v1 v2 v3 v9 : Value} {L : List Int}
theorem QuRow.lt1 (h : QuRow w B q v1 v2 v3) : (∀ g, v1.ownBlock = some g → g < w.heap.size) ∧ (∀ g, v2.ownBlock = some g → g < w.heap.size) ∧ (∀ g, v3.ownBlock = some g → g < w.heap.size) :=
  ⟨fun g hg => (World.ownsRow.lt h.a g hg).2, fun g hg => (World.ownsRow.lt h.b g hg).2, fun g hg => (World.ownsRow.lt h.c g hg).2⟩
theorem QuRow.putA (h : QuRow w B q v1 v2 v3) (hr : ZRow w9 B v9 L) (hg : w.grownBy w9 v1.ownBlock) (h9 : ∀ g, v9.ownBlock = some g → v1.ownBlock = some g ∨ w.heap.size ≤ g) : QuRow w9 B { q with wt := L } v9 v2 v3 :=
  ⟨hr, own_asideQ h.b hg (fun g e e2 => h.ab g e2 e), own_asideQ h.c hg (fun g e e2 => h.ac g e2 e), apart9 h.lt1.2.1 h9 h.ab, apart9 h.lt1.2.2 h9 h.ac, h.bc⟩
theorem QuRow.putB (h : QuRow w B q v1 v2 v3) (hr : ZRow w9 B v9 L) (hg : w.grownBy w9 v2.ownBlock) (h9 : ∀ g, v9.ownBlock = some g → v2.ownBlock = some g ∨ w.heap.size ≤ g) : QuRow w9 B { q with hd := L } v1 v9 v3 :=
  ⟨own_asideQ h.a hg (fun g e e2 => h.ab g e e2), hr, own_asideQ h.c hg (fun g e e2 => h.bc g e2 e), flipQ (apart9 h.lt1.1 h9 (flipQ h.ab)), h.ac, apart9 h.lt1.2.2 h9 h.bc⟩
theorem QuRow.putC (h : QuRow w B q v1 v2 v3) (hr : ZRow w9 B v9 L) (hg : w.grownBy w9 v3.ownBlock) (h9 : ∀ g, v9.ownBlock = some g → v3.ownBlock = some g ∨ w.heap.size ≤ g) : QuRow w9 B { q with dr := L } v1 v2 v9 :=
  ⟨own_asideQ h.a hg (fun g e e2 => h.ac g e e2), own_asideQ h.b hg (fun g e e2 => h.bc g e e2), hr, h.ab, flipQ (apart9 h.lt1.1 h9 (flipQ h.ac)), flipQ (apart9 h.lt1.2.1 h9 (flipQ h.bc))⟩
def P3 (v1 v2 v3 : Value) (g : Nat) : Prop := v1.ownBlock = some g ∨ v2.ownBlock = some g ∨ v3.ownBlock = some g
theorem QuRow.setN (h : QuRow w B q v1 v2 v3) (b k : Nat) (u : Value) (hn : ∀ g, P3 v1 v2 v3 g → g ≠ b) : QuRow (w.setCell ⟨b, k, none⟩ u) B q v1 v2 v3 :=
  ⟨own_setCellQ h.a b k u (fun g hg => hn g (.inl hg)), own_setCellQ h.b b k u (fun g hg => hn g (.inr (.inl hg))), own_setCellQ h.c b k u (fun g hg => hn g (.inr (.inr hg))), h.ab, h.ac, h.bc⟩
end

/-- a queue of one's own in the variable at block w.heap.size, the answer's cell behind it -/
structure Ow (w W : World) (B : Nat) (q : Qu) (v1 v2 v3 : Value) : Prop where
  b : Below B w W
  s : w.heap.size + 2 ≤ W.heap.size
  hB : B ≤ w.heap.size
  x : Sv W w.heap.size (.int .i64 q.cap) (.int .i64 q.rule) (.int .i64 q.next) v1 v2 v3
  v : Sv W (w.heap.size + 1) (.int .i64 0) (.int .i64 0) (.int .i64 0) (.slice none 0 0) (.slice none 0 0) (.slice none 0 0)
  q : QuRow W B q v1 v2 v3
  n : ∀ g, P3 v1 v2 v3 g → g ≠ w.heap.size ∧ g ≠ w.heap.size + 1

section
variable {w W : World} {B : Nat} {q : Qu} {v1 v2 v3 : Value}
theorem Ow.start (h : QuRow w B q v1 v2 v3) (hB : B ≤ w.heap.size) : Ow w ((w.alloc (.cells #[.int .i64 q.cap, .int .i64 q.rule, .int .i64 q.next, v1, v2, v3] 24)).alloc (.cells #[.int .i64 0, .int .i64 0, .int .i64 0, .slice none 0 0, .slice none 0 0, .slice none 0 0] 24)) B q v1 v2 v3 := by
  have hb : Below w.heap.size w ((w.alloc (.cells #[.int .i64 q.cap, .int .i64 q.rule, .int .i64 q.next, v1, v2, v3] 24)).alloc (.cells #[.int .i64 0, .int .i64 0, .int .i64 0, .slice none 0 0, .slice none 0 0, .slice none 0 0] 24)) := ((Below.refl _ w).alloc (Nat.le_refl _) _).alloc (by simp) _
  refine ⟨hb.mono hB, by simp, hB, (Sv.fresh w _ _ _ _ _ _ _).below ((Below.refl _ _).alloc (Nat.le_refl _) _), ?_, h.below hb, fun g hg => ?_⟩
  · have h := Sv.fresh (w.alloc (.cells #[.int .i64 q.cap, .int .i64 q.rule, .int .i64 q.next, v1, v2, v3] 24)) (.int .i64 0) (.int .i64 0) (.int .i64 0) (.slice none 0 0) (.slice none 0 0) (.slice none 0 0) 24
    simpa using h
  · rcases hg with e | e | e
    · have := h.lt1.1 g e; omega
    · have := h.lt1.2.1 g e; omega
    · have := h.lt1.2.2 g e; omega
theorem Ow.below {W' : World} (h : Ow w W B q v1 v2 v3) (hb : Below W.heap.size W W') : Ow w W' B q v1 v2 v3 :=
  ⟨h.b.trans (hb.mono h.b.size |>.mono h.hB), Nat.le_trans h.s hb.size, h.hB, h.x.below hb, h.v.below hb, h.q.below hb, h.n⟩
theorem Ow.next (h : Ow w W B q v1 v2 v3) (x : Int) : Ow w (W.setCell ⟨w.heap.size, 2, none⟩ (.int .i64 x)) B { q with next := x } v1 v2 v3 := by
  have q' := h.q.setN w.heap.size 2 (.int .i64 x) (fun g hg => (h.n g hg).1)
  exact ⟨h.b.setCell (p := ⟨w.heap.size, 2, none⟩) h.hB _, by simpa using h.s, h.hB, h.x.set2 _, h.v.apart (by omega), ⟨q'.a, q'.b, q'.c, q'.ab, q'.ac, q'.bc⟩, h.n⟩
theorem Ow.newA {W1 : World} {u : Value} {L : List Int} (h : Ow w W B q v1 v2 v3) (hb : Below W.heap.size W W1) (hr : ZRow W1 W.heap.size u L) : Ow w (W1.setCell ⟨w.heap.size, 3, none⟩ u) B { q with wt := L } u v2 v3 := by
  have h1 := h.below hb
  have hlt := World.ownsRow.lt hr
  have hs := h.s
  have hsb := hb.size
  have hWB : B ≤ W.heap.size := h.b.size |> Nat.le_trans h.hB
  have qn : QuRow W1 B { q with wt := L } u v2 v3 := QuRow.putA h.q (ZRow.lower hr hWB) (grow_of_below hb) (fun g hg => .inr (hlt g hg).1)
  have hn : ∀ g, P3 u v2 v3 g → g ≠ w.heap.size ∧ g ≠ w.heap.size + 1 := fun g hg => by
    rcases hg with e | e | e
    · have := hlt g e; omega
    · exact h.n g (.inr (.inl e))
    · exact h.n g (.inr (.inr e))
  exact ⟨h1.b.setCell (p := ⟨w.heap.size, 3, none⟩) h.hB _, by simp; exact h1.s, h.hB, h1.x.set3 _, h1.v.apart (by omega), qn.setN w.heap.size 3 u (fun g hg => (hn g hg).1), hn⟩
theorem Ow.newB {W1 : World} {u : Value} {L : List Int} (h : Ow w W B q v1 v2 v3) (hb : Below W.heap.size W W1) (hr : ZRow W1 W.heap.size u L) : Ow w (W1.setCell ⟨w.heap.size, 4, none⟩ u) B { q with hd := L } v1 u v3 := by
  have h1 := h.below hb
  have hlt := World.ownsRow.lt hr
  have hs := h.s
  have hsb := hb.size
  have hWB : B ≤ W.heap.size := h.b.size |> Nat.le_trans h.hB
  have qn : QuRow W1 B { q with hd := L } v1 u v3 := QuRow.putB h.q (ZRow.lower hr hWB) (grow_of_below hb) (fun g hg => .inr (hlt g hg).1)
  have hn : ∀ g, P3 v1 u v3 g → g ≠ w.heap.size ∧ g ≠ w.heap.size + 1 := fun g hg => by
    rcases hg with e | e | e
    · exact h.n g (.inl e)
    · have := hlt g e; omega
    · exact h.n g (.inr (.inr e))
  exact ⟨h1.b.setCell (p := ⟨w.heap.size, 4, none⟩) h.hB _, by simp; exact h1.s, h.hB, h1.x.set4 _, h1.v.apart (by omega), qn.setN w.heap.size 4 u (fun g hg => (hn g hg).1), hn⟩
theorem Ow.newC {W1 : World} {u : Value} {L : List Int} (h : Ow w W B q v1 v2 v3) (hb : Below W.heap.size W W1) (hr : ZRow W1 W.heap.size u L) : Ow w (W1.setCell ⟨w.heap.size, 5, none⟩ u) B { q with dr := L } v1 v2 u := by
  have h1 := h.below hb
  have hlt := World.ownsRow.lt hr
  have hs := h.s
  have hsb := hb.size
  have hWB : B ≤ W.heap.size := h.b.size |> Nat.le_trans h.hB
  have qn : QuRow W1 B { q with dr := L } v1 v2 u := QuRow.putC h.q (ZRow.lower hr hWB) (grow_of_below hb) (fun g hg => .inr (hlt g hg).1)
  have hn : ∀ g, P3 v1 v2 u g → g ≠ w.heap.size ∧ g ≠ w.heap.size + 1 := fun g hg => by
    rcases hg with e | e | e
    · exact h.n g (.inl e)
    · exact h.n g (.inr (.inl e))
    · have := hlt g e; omega
  exact ⟨h1.b.setCell (p := ⟨w.heap.size, 5, none⟩) h.hB _, by simp; exact h1.s, h.hB, h1.x.set5 _, h1.v.apart (by omega), qn.setN w.heap.size 5 u (fun g hg => (hn g hg).1), hn⟩
theorem Ow.appA {w9 : World} {g9 cap9 : Nat} {x : Int} {o : Obj} (h : Ow w W B q v1 v2 v3)
    (hown9 : w9.ownsRow B 3 1 (.slice (some ⟨g9, 0, none⟩) (q.wt.length + 1) cap9) (q.wt.length + 1) (zints q.wt ++ [.int .i64 x])) (hgrow9 : (W.alloc o).grownBy w9 v1.ownBlock) (hat9 : v1.ownBlock = some g9 ∨ g9 = W.heap.size + 1) :
    Ow w (w9.setCell ⟨w.heap.size, 3, none⟩ (.slice (some ⟨g9, 0, none⟩) (q.wt.length + 1) cap9)) B { q with wt := q.wt ++ [x] } (.slice (some ⟨g9, 0, none⟩) (q.wt.length + 1) cap9) v2 v3 := by
  have hbo : Below W.heap.size W (W.alloc o) := (Below.refl _ W).alloc (Nat.le_refl _) o
  have h1 := h.below hbo
  have hs := h.s
  have hso : (W.alloc o).heap.size = W.heap.size + 1 := by simp
  have hgs := hgrow9.size
  have hWB : B ≤ W.heap.size := h.b.size |> Nat.le_trans h.hB
  have hne : ∀ b, (b = w.heap.size ∨ b = w.heap.size + 1) → some b ≠ v1.ownBlock := fun b hb e => by
    have := h.n b (.inl e.symm)
    omega
  have hb9 : Below B (W.alloc o) w9 := ⟨hgrow9.os, hgrow9.tape, hgrow9.output, hgrow9.size, fun j hj => hgrow9.block j (by omega) (fun e => by have := (World.ownsRow.lt h.q.a j e.symm).1; omega)⟩
  have hx9 := h1.x.kept (hgrow9.block _ h1.x.low (hne _ (.inl rfl))) hgs
  have hv9 := h1.v.kept (hgrow9.block _ h1.v.low (hne _ (.inr rfl))) hgs
  have hg9 : ∀ g, (Value.slice (some ⟨g9, 0, none⟩) (q.wt.length + 1) cap9).ownBlock = some g → v1.ownBlock = some g ∨ (W.alloc o).heap.size ≤ g := fun g hg => by
    simp [Value.ownBlock] at hg
    subst hg
    rcases hat9 with e | e
    · exact .inl e
    · exact .inr (by omega)
  have qn : QuRow w9 B { q with wt := q.wt ++ [x] } (.slice (some ⟨g9, 0, none⟩) (q.wt.length + 1) cap9) v2 v3 := QuRow.putA h1.q (ZRow.snocQ hown9) hgrow9 hg9
  have hn : ∀ g, P3 (.slice (some ⟨g9, 0, none⟩) (q.wt.length + 1) cap9) v2 v3 g → g ≠ w.heap.size ∧ g ≠ w.heap.size + 1 := fun g hg => by
    rcases hg with e | e | e
    · rcases hg9 g e with e2 | e2
      · exact h.n g (.inl e2)
      · omega
    · exact h.n g (.inr (.inl e))
    · exact h.n g (.inr (.inr e))
  exact ⟨(h1.b.trans hb9).setCell (p := ⟨w.heap.size, 3, none⟩) h.hB _, by simp; omega, h.hB, hx9.set3 _, hv9.apart (by omega), qn.setN w.heap.size 3 _ (fun g hg => (hn g hg).1), hn⟩
theorem Ow.set6 {x0 x1 x2 x3 x4 x5 : Value} (h : Ow w W B q v1 v2 v3) : QuRow ((((((W.setCell ⟨w.heap.size + 1, 0, none⟩ x0).setCell ⟨w.heap.size + 1, 1, none⟩ x1).setCell ⟨w.heap.size + 1, 2, none⟩ x2).setCell ⟨w.heap.size + 1, 3, none⟩ x3).setCell ⟨w.heap.size + 1, 4, none⟩ x4).setCell ⟨w.heap.size + 1, 5, none⟩ x5) B q v1 v2 v3 :=
  have n := fun g hg => (h.n g hg).2
  (((((h.q.setN _ 0 _ n).setN _ 1 _ n).setN _ 2 _ n).setN _ 3 _ n).setN _ 4 _ n).setN _ 5 _ n
end

/-- a list cut from place k on -/
theorem cutF (l : List Int) (ao : Option Addr) (cap k : Nat) (hk : k ≤ l.length) : ∃ a2, (∀ W : World, (Instr.slice 22 (.slice ao l.length cap) (some (.int .i64 (k : Int))) none none).run Try.prog W = .ok (.slice a2 (l.drop k).length (cap - k)) W) ∧ ∀ (W : World) (B : Nat), ZAt W B (.slice ao l.length cap) l → ∀ j u, (zints (l.drop k))[j]? = some u → ∃ ad, a2 = some ad ∧ W.cell? (ad.add j) = some u := by
  refine ⟨if cap = k then ao else ao.map (·.add (k * 1)), fun W => ?_, fun W B h j u hj => ?_⟩
  · rw [run_slice_l (P := Try.prog) (w := W) 22 ao l.length cap Try.underlying22 .i64 (k : Int) (by omega) (by omega)]
    have e : (sizeOf (Try.prog.elem 22)).run Try.prog W = .ok 1 W := by kernel_rfl
    rw [e]
    show Result.ok (sliced ao (k : Int).toNat l.length cap 1) W = _
    unfold sliced
    rw [Int.toNat_natCast, List.length_drop]
  · obtain ⟨ao', c', hv', hlc, _, hr⟩ := h
    cases hv'
    unfold zints at hj
    rw [List.getElem?_map, Option.map_eq_some_iff] at hj
    obtain ⟨y, hy, rfl⟩ := hj
    rw [List.getElem?_drop] at hy
    have hjl := (List.getElem?_eq_some_iff.1 hy).1
    obtain ⟨g, o, hao, _, hc⟩ := hr (k + j) y hy
    refine ⟨⟨g, o + k, none⟩, ?_, ?_⟩
    · rw [if_neg (by omega), hao]
      show some ((⟨g, o, none⟩ : Addr).add (k * 1)) = _
      rw [addr_add, Nat.mul_one]
    · rw [addr_add, Nat.add_assoc]
      exact hc
/-- a list cut up to place k -/
theorem cutU (l : List Int) (ao : Option Addr) (cap k : Nat) (hk : k ≤ l.length) (hc : l.length ≤ cap) : (∀ W : World, (Instr.slice 22 (.slice ao l.length cap) none (some (.int .i64 (k : Int))) none).run Try.prog W = .ok (.slice ao (l.take k).length cap) W) ∧ ∀ (W : World) (B : Nat), ZAt W B (.slice ao l.length cap) l → ∀ j u, (zints (l.take k))[j]? = some u → ∃ ad, ao = some ad ∧ W.cell? (ad.add j) = some u := by
  refine ⟨fun W => ?_, fun W B h j u hj => ?_⟩
  · rw [run_slice_h (P := Try.prog) (w := W) 22 ao l.length cap Try.underlying22 .i64 (k : Int) (by omega) (by omega)]
    have e : (sizeOf (Try.prog.elem 22)).run Try.prog W = .ok 1 W := by kernel_rfl
    rw [e]
    show Result.ok (sliced ao 0 (k : Int).toNat cap 1) W = _
    unfold sliced
    rw [Int.toNat_natCast, Nat.zero_mul, Nat.sub_zero, Nat.sub_zero, List.length_take, Nat.min_eq_left hk]
    congr 2
    cases ao with
    | none => split <;> rfl
    | some a => obtain ⟨ab, ao', ae⟩ := a; split <;> simp [Addr.add] <;> cases ae <;> rfl
  · obtain ⟨ao', c', hv', hlc, _, hr⟩ := h
    cases hv'
    unfold zints at hj
    rw [List.getElem?_map, Option.map_eq_some_iff] at hj
    obtain ⟨y, hy, rfl⟩ := hj
    have hjk : j < k := by
      have := (List.getElem?_eq_some_iff.1 hy).1
      rw [List.length_take] at this
      omega
    rw [List.getElem?_take, if_pos hjk] at hy
    obtain ⟨g, o, hao, _, hc⟩ := hr j y hy
    exact ⟨_, hao, by rw [addr_add]; exact hc⟩

end Go.Proofs.Ytfkhbbmnjndmcaa
