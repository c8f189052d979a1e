/- The program's outlookOf; two outlooks compared; rows of outlooks; slices.Index. The program's outlookOf. The program's divide. The program's classesOf and ClassesOf. -/
import Derived.Test.YtecgjhnihagleaaXk
import Derived.Test.YtecgjhnihagleaaXj
import Derived.ChangeKeysEq
import Derived.Laws.StructEq
import Derived.Test.YtecgjhnihagleaaMcT
import Derived.Test.YtecgjhnihagleaaMcG
import Derived.Deep.LoopGhost
import Derived.Laws.OwnMore
namespace Go.Proofs.Ytecgjhnihagleaa
open Go.RowKit Plain Mch Tpc

def Mch.lkc (q : Bool × Nat × Nat × Nat) : List Value := [.bool q.1, .int .i64 ((q.2.1 : Nat) : Int), .int .i64 ((q.2.2.1 : Nat) : Int), .int .i64 ((q.2.2.2 : Nat) : Int)]
def Mch.lkv (q : Bool × Nat × Nat × Nat) : Value := .agg #[.bool q.1, .int .i64 ((q.2.1 : Nat) : Int), .int .i64 ((q.2.2.1 : Nat) : Int), .int .i64 ((q.2.2.2 : Nat) : Int)]

theorem Try.lkFields : Try.prog.underlying 96 = some (.struct (Try.prog.fieldsOf 96)) := by kernel_rfl
theorem Try.lkField2 : (Try.prog.fieldsOf 96).toList.map (fun f => (f.name, f.type, f.offset)) = [("ends", 4, 0), ("next", 94, 1)] := by kernel_rfl
theorem Try.lkArr : Try.prog.underlying 94 = some (.array 3 3) := by kernel_rfl

theorem part3_0 (a b c : Value) (W : World) : (part 3 #[a, b, c] 0).run Try.prog W = .ok a W := by kernel_rfl
theorem part3_1 (a b c : Value) (W : World) : (part 3 #[a, b, c] 1).run Try.prog W = .ok b W := by kernel_rfl
theorem part3_2 (a b c : Value) (W : World) : (part 3 #[a, b, c] 2).run Try.prog W = .ok c W := by kernel_rfl
theorem part4_0 (e a b c : Value) (W : World) : (part 4 #[e, a, b, c] 0).run Try.prog W = .ok e W := by kernel_rfl
theorem part4_1 (e a b c : Value) (W : World) : (part 94 #[e, a, b, c] 1).run Try.prog W = .ok (.agg #[a, b, c]) W := by kernel_rfl

theorem equalIn_i (a b : Int) (W : World) : (Op.equalIn 9998 3 (.int .i64 a) (.int .i64 b)).run Try.prog W = .ok (decide (a = b)) W := by
  have d0 : (a == b) = decide (a = b) := rfl
  simp [go_sem, d0]
theorem equalIn_bo (a b : Bool) (W : World) : (Op.equalIn 9999 4 (.bool a) (.bool b)).run Try.prog W = .ok (decide (a = b)) W := by
  have d0 : (a == b) = decide (a = b) := by cases a <;> cases b <;> rfl
  simp [go_sem, d0]

theorem equalIn_a3 (a b c x y z : Int) (W : World) : (Op.equalIn 9999 94 (.agg #[.int .i64 a, .int .i64 b, .int .i64 c]) (.agg #[.int .i64 x, .int .i64 y, .int .i64 z])).run Try.prog W = .ok (decide (a = x) && (decide (b = y) && decide (c = z))) W := by
  obtain ⟨i0, hi, _⟩ : ∃ i0, Try.prog.info? 3 = some i0 ∧ True := by
    cases h : Try.prog.info? 3 with
    | none =>
      have hc : (Try.prog.info? 3).isSome = true := by kernel_rfl
      rw [h] at hc
      cases hc
    | some i => exact ⟨i, rfl, trivial⟩
  have hc : Try.prog.cellsOf 3 = 1 := by kernel_rfl
  rw [run_equalIn_array W 9998 _ _ Try.lkArr hi, hc]
  show (Op.eqItems 9998 3 1 _ _ [0, 1, 2]).run _ _ = _
  simp only [Op.eqItems, Sem.run_bind, part3_0, Nat.reduceMul, Nat.zero_mul, Result.andThen_ok, equalIn_i]
  cases h0 : decide (a = x) with
  | false => simp
  | true => cases h1 : decide (b = y) with
    | false => simp [Sem.run_bind, part3_1, equalIn_i, h1]
    | true => cases h2 : decide (c = z) <;> simp [Sem.run_bind, part3_1, part3_2, equalIn_i, h1, h2]

/-- are two outlooks alike -/
def leq (a b c : Int) (u : Bool) (x y z : Int) (v : Bool) : Bool := decide (u = v) && (decide (a = x) && (decide (b = y) && decide (c = z)))

theorem eqlL (u v : Bool) (a b c x y z : Int) (W : World) : (binOp .eql 96 (.agg #[.bool u, .int .i64 a, .int .i64 b, .int .i64 c]) (.agg #[.bool v, .int .i64 x, .int .i64 y, .int .i64 z])).run Try.prog W = .ok (.bool (leq a b c u x y z v)) W := by
  rw [run_eql_struct]
  rw [run_equalIn_agg W 9999 _ _ _ Try.lkFields (by kernel_rfl)]
  have hf := Try.lkField2
  obtain ⟨F, hF⟩ : ∃ F, F = (Try.prog.fieldsOf 96).toList := ⟨_, rfl⟩
  rw [← hF] at hf ⊢
  clear hF
  have hl : F.length = 2 := by simpa using congrArg List.length hf
  match F, hl with
  | [f0, f1], _ =>
    simp at hf
    obtain ⟨⟨n0, t0, o0⟩, ⟨n1, t1, o1⟩⟩ := hf
    unfold leq
    cases h0 : decide (u = v) with
    | false => simp [Op.eqFields, n0, t0, o0, Sem.run_bind, part4_0, equalIn_bo, h0]
    | true =>
      have hA := equalIn_a3 a b c x y z W
      generalize (decide (a = x) && (decide (b = y) && decide (c = z))) = B at hA
      cases B <;> simp [Op.eqFields, n0, t0, o0, n1, t1, o1, Sem.run_bind, part4_0, part4_1, equalIn_bo, hA, h0]

theorem leq_same {p q : Bool × Nat × Nat × Nat} : leq ((p.2.1 : Nat) : Int) ((p.2.2.1 : Nat) : Int) ((p.2.2.2 : Nat) : Int) p.1 ((q.2.1 : Nat) : Int) ((q.2.2.1 : Nat) : Int) ((q.2.2.2 : Nat) : Int) q.1 = decide (p = q) := by
  obtain ⟨u, a, b, c⟩ := p
  obtain ⟨v, x, y, z⟩ := q
  unfold leq
  rw [← Bool.decide_and, ← Bool.decide_and, ← Bool.decide_and]
  exact decide_eq_decide.2 (by simp only [Prod.mk.injEq]; constructor <;> (rintro ⟨h0, h1, h2, h3⟩; exact ⟨h0, by omega, by omega, by omega⟩))

theorem flatL (l : List (Bool × Nat × Nat × Nat)) (i j : Nat) {q : Bool × Nat × Nat × Nat} (h : l[i]? = some q) (hj : j < 4) : (l.flatMap lkc)[i * 4 + j]? = (lkc q)[j]? := by
  induction l generalizing i with
  | nil => simp at h
  | cons a l ih =>
    rw [List.flatMap_cons]
    have ha : (lkc a).length = 4 := rfl
    cases i with
    | zero =>
      simp at h
      subst h
      rw [Nat.zero_mul, Nat.zero_add, List.getElem?_append_left (by omega)]
    | succ i =>
      rw [List.getElem?_append_right (by omega)]
      have := ih i (by simpa using h)
      rw [← this]
      congr 1
      omega

/-- an own row of outlooks -/
def LRow (w : World) (B : Nat) (v : Value) (l : List (Bool × Nat × Nat × Nat)) : Prop := w.ownsRow B 96 4 v l.length (l.flatMap lkc)

theorem LRow.slice {w : World} {B : Nat} {v : Value} {l : List (Bool × Nat × Nat × Nat)} (h : LRow w B v l) : ∃ ao cap, v = Value.slice ao l.length cap ∧ cap ≤ maxLen ∧ l.length ≤ cap := by
  rcases h.2 with ⟨rfl, h0⟩ | ⟨g, cap, cur, rfl, _, _, h1, h2, _⟩
  · exact ⟨none, 0, by rw [h0], by unfold maxLen; omega, by omega⟩
  · exact ⟨_, _, rfl, h2, h1⟩

theorem LRow.cells {w : World} {B n cap : Nat} {ao : Option Addr} {l : List (Bool × Nat × Nat × Nat)} (h : LRow w B (.slice ao n cap) l) {i : Nat} {q : Bool × Nat × Nat × Nat} (hq : l[i]? = some q) : ∃ g, ao = some ⟨g, 0, none⟩ ∧ g < w.heap.size ∧ B ≤ g ∧ w.cell? ⟨g, i * 4, none⟩ = some (.bool q.1) ∧ w.cell? ⟨g, i * 4 + 1, none⟩ = some (.int .i64 ((q.2.1 : Nat) : Int)) ∧ w.cell? ⟨g, i * 4 + 2, none⟩ = some (.int .i64 ((q.2.2.1 : Nat) : Int)) ∧ w.cell? ⟨g, i * 4 + 3, none⟩ = some (.int .i64 ((q.2.2.2 : Nat) : Int)) := by
  have hi : i < l.length := (List.getElem?_eq_some_iff.1 hq).1
  obtain ⟨g, c, hv⟩ := Joins.ownsRow_form h (by omega)
  simp only [Value.slice.injEq] at hv
  obtain ⟨rfl, rfl, rfl⟩ := hv
  have hlt := World.ownsRow.lt h g rfl
  have at' : ∀ j, j < 4 → w.cell? ⟨g, i * 4 + j, none⟩ = (lkc q)[j]? := fun j hj => by
    rw [World.ownsRow.cellAt h (i * 4 + j) (by omega)]
    exact flatL l i j hq hj
  exact ⟨g, rfl, hlt.2, hlt.1, at' 0 (by omega), at' 1 (by omega), at' 2 (by omega), at' 3 (by omega)⟩

theorem LRow.snoc {w9 : World} {B g cap : Nat} {l : List (Bool × Nat × Nat × Nat)} {q : Bool × Nat × Nat × Nat} (hown : w9.ownsRow B 96 4 (.slice (some ⟨g, 0, none⟩) (l.length + 1) cap) (l.length + 1) (l.flatMap lkc ++ lkc q)) : LRow w9 B (.slice (some ⟨g, 0, none⟩) (l.length + 1) cap) (l ++ [q]) := by
  unfold LRow
  rw [List.length_append, List.length_singleton, List.flatMap_append]
  simpa using hown

theorem LRow.below {w w' : World} {B : Nat} {v : Value} {l : List (Bool × Nat × Nat × Nat)} (h : LRow w B v l) (hb : Below w.heap.size w w') : LRow w' B v l := own_belowM h hb

attribute [local go_sem ↓] eqlL

set_option maxRecDepth 100000 in
set_option maxHeartbeats 4000000 in
theorem lkIndex_any (f : Nat → Bool × Nat × Nat × Nat) (k B : Nat) (v : Value) (w : World) (hv : LRow w B v ((List.range (k + 1)).map f)) (hk : k ≤ 100) :
    Calls Try.prog 85 #[v, lkv (f k)] w fun e w' => e = .returned (.int .i64 ((fi f k : Nat) : Int)) ∧ Below w.heap.size w w' := by
  have HV : Hid (LRow w B v ((List.range (k + 1)).map f)) := hv
  obtain ⟨ao, cap, rfl, hc1, hc2⟩ := hv.slice
  rw [List.length_map, List.length_range] at HV hc2
  rw [List.length_map, List.length_range]
  unfold maxLen at hc1
  have HLE : Hid (fi f k ≤ k) := fi_le f k
  obtain ⟨q, hq⟩ : ∃ q, q = f k := ⟨_, rfl⟩
  have HQ : Hid (q = f k) := hq
  have HEQ : Hid (∀ i, i ≤ fi f k → f i = q → fi f k = i) := fun i hi e => by
    by_cases h2 : i < fi f k
    · exact absurd (e.trans hq) (fi_first f h2)
    · omega
  have HNE : Hid (∀ i, i ≤ fi f k → f i ≠ q → i + 1 ≤ fi f k) := fun i hi e => by
    by_cases h2 : i = fi f k
    · exact absurd ((congrArg f h2).trans ((fi_eq f k).trans hq.symm)) e
    · omega
  rw [← hq]
  clear hq
  unfold lkv
  obtain ⟨R, hR⟩ : ∃ R, R = fi f k := ⟨_, rfl⟩
  rw [← hR]
  rw [← hR] at HLE HEQ HNE
  clear hR
  obtain ⟨W1, hW1⟩ : ∃ W, W = w.alloc (.cells #[.bool q.1, .int .i64 ((q.2.1 : Nat) : Int), .int .i64 ((q.2.2.1 : Nat) : Int), .int .i64 ((q.2.2.2 : Nat) : Int)] 96) := ⟨_, rfl⟩
  have hB1 : Below w.heap.size w W1 := by rw [hW1]; exact (Below.refl _ w).alloc (Nat.le_refl _) _
  have q0 : W1.cell? ⟨w.heap.size, 0, none⟩ = some (.bool q.1) := by rw [hW1]; go_simp
  have q1 : W1.cell? ⟨w.heap.size, 1, none⟩ = some (.int .i64 ((q.2.1 : Nat) : Int)) := by rw [hW1]; go_simp
  have q2 : W1.cell? ⟨w.heap.size, 2, none⟩ = some (.int .i64 ((q.2.2.1 : Nat) : Int)) := by rw [hW1]; go_simp
  have q3 : W1.cell? ⟨w.heap.size, 3, none⟩ = some (.int .i64 ((q.2.2.2 : Nat) : Int)) := by rw [hW1]; go_simp
  have hl1 : w.heap.size < W1.heap.size := by rw [hW1]; simp
  go_enter Try.func85, Try.ntmps85
  go_upto_region 1 with fail
  rw [← hW1]
  clear hW1
  go_wp2
  go_loopw [8] (fun vi wr => ∃ i : Nat, i ≤ k ∧ vi = .int .i64 (i : Int) ∧ Hid (i ≤ R) ∧ Hid (Below W1.heap.size W1 wr))
    (fun vi _ => k + 1 - (intOf vi).toNat)
  case atStart => exact ⟨0, by omega, rfl, Nat.zero_le _, Below.refl _ _⟩
  case round =>
    obtain ⟨i, hil, rfl, hix, hbw⟩ := hrel
    have hBr : Below w.heap.size w wr := hB1.trans (hbw.out.mono hB1.size)
    have q0r := (hbw.out.cell (p := ⟨w.heap.size, 0, none⟩) hl1).trans q0
    have q1r := (hbw.out.cell (p := ⟨w.heap.size, 1, none⟩) hl1).trans q1
    have q2r := (hbw.out.cell (p := ⟨w.heap.size, 2, none⟩) hl1).trans q2
    have q3r := (hbw.out.cell (p := ⟨w.heap.size, 3, none⟩) hl1).trans q3
    have hlr : w.heap.size < wr.heap.size := by have := hbw.out.size; omega
    clear q0 q1 q2 q3
    have hlt' : (i : Int) < ((k + 1 : Nat) : Int) := by omega
    have hlt2 : (i : Int) < (k : Int) + 1 := by omega
    obtain ⟨g, hap, hgl, _, k0, k1, k2, k3⟩ := HV.out.cells (i := i) (q := f i) (by rw [List.getElem?_map, List.getElem?_range (by omega)]; rfl)
    subst hap
    replace k0 := (hBr.cell (p := ⟨g, i * 4, none⟩) hgl).trans k0
    replace k1 := (hBr.cell (p := ⟨g, i * 4 + 1, none⟩) hgl).trans k1
    replace k2 := (hBr.cell (p := ⟨g, i * 4 + 2, none⟩) hgl).trans k2
    replace k3 := (hBr.cell (p := ⟨g, i * 4 + 3, none⟩) hgl).trans k3
    have HE := HEQ.out i hix.out
    have HN := HNE.out i hix.out
    have HEh : Hid (f i = q → R = i) := HE
    have HNh : Hid (f i ≠ q → i + 1 ≤ R) := HN
    have HL := leq_same (p := q) (q := f i)
    clear HE HN
    generalize f i = p at k0 k1 k2 k3 HEh HNh HL
    by_cases he : p = q
    · have hR : Hid (R = i) := HEh.out he
      have d : leq ((q.2.1 : Nat) : Int) ((q.2.2.1 : Nat) : Int) ((q.2.2.2 : Nat) : Int) q.1 ((p.2.1 : Nat) : Int) ((p.2.2.1 : Nat) : Int) ((p.2.2.2 : Nat) : Int) p.1 = true := by rw [HL, he]; simp
      clear HEh HNh he HL hix
      generalize q.1 = qa at q0r d
      generalize p.1 = pa at k0 d
      generalize q.2.1 = qb at q1r d
      generalize q.2.2.1 = qc at q2r d
      generalize q.2.2.2 = qd at q3r d
      generalize p.2.1 = pb at k1 d
      generalize p.2.2.1 = pc at k2 d
      generalize p.2.2.2 = pd at k3 d
      go_upto_region 4 with fail
      go_quiet (fail)
      go_wp2
      go_ret
      exact ⟨by rw [hR.out]; rfl, below_drewT hBr⟩
    · have hR : Hid (i + 1 ≤ R) := HNh.out he
      have d : leq ((q.2.1 : Nat) : Int) ((q.2.2.1 : Nat) : Int) ((q.2.2.2 : Nat) : Int) q.1 ((p.2.1 : Nat) : Int) ((p.2.2.1 : Nat) : Int) ((p.2.2.2 : Nat) : Int) p.1 = false := by rw [HL]; simpa using fun e => he e.symm
      clear HEh HNh he HL hix
      generalize q.1 = qa at q0r d
      generalize p.1 = pa at k0 d
      generalize q.2.1 = qb at q1r d
      generalize q.2.2.1 = qc at q2r d
      generalize q.2.2.2 = qd at q3r d
      generalize p.2.1 = pb at k1 d
      generalize p.2.2.1 = pc at k2 d
      generalize p.2.2.2 = pd at k3 d
      go_upto_region 4 with fail
      go_quiet (fail)
      go_wp2
      go_roundw
      case rel => exact ⟨i + 1, by have := HLE.out; have := hR.out; omega, by go_num, hR, below_drewT hbw.out⟩
      case measure => simp [intOf]; omega

end Go.Proofs.Ytecgjhnihagleaa

namespace Go.Proofs.Ytecgjhnihagleaa
open Go.RowKit Plain Mch Tpc

/-- an outlook's variable -/
structure LC (w : World) (b : Nat) (e : Bool) (x y z : Nat) : Prop where
  lb : b < w.heap.size
  c0 : w.cell? ⟨b, 0, none⟩ = some (.bool e)
  c1 : w.cell? ⟨b, 1, none⟩ = some (.int .i64 (x : Int))
  c2 : w.cell? ⟨b, 2, none⟩ = some (.int .i64 (y : Int))
  c3 : w.cell? ⟨b, 3, none⟩ = some (.int .i64 (z : Int))
  f0 : w.frozen? ⟨b, 0, none⟩ = false
  f1 : w.frozen? ⟨b, 1, none⟩ = false
  f2 : w.frozen? ⟨b, 2, none⟩ = false
  f3 : w.frozen? ⟨b, 3, none⟩ = false

theorem LC.below {w w' : World} {b : Nat} {e : Bool} {x y z : Nat} (h : LC w b e x y z) (hb : Below w.heap.size w w') : LC w' b e x y z :=
  ⟨Nat.lt_of_lt_of_le h.lb hb.size, (hb.cell (p := ⟨b, 0, none⟩) h.lb).trans h.c0, (hb.cell (p := ⟨b, 1, none⟩) h.lb).trans h.c1, (hb.cell (p := ⟨b, 2, none⟩) h.lb).trans h.c2, (hb.cell (p := ⟨b, 3, none⟩) h.lb).trans h.c3, (hb.frozen (p := ⟨b, 0, none⟩) h.lb).trans h.f0, (hb.frozen (p := ⟨b, 1, none⟩) h.lb).trans h.f1, (hb.frozen (p := ⟨b, 2, none⟩) h.lb).trans h.f2, (hb.frozen (p := ⟨b, 3, none⟩) h.lb).trans h.f3⟩

theorem LC.made (w : World) (e : Bool) (x y z : Nat) : LC (w.alloc (.cells #[.bool e, .int .i64 (x : Int), .int .i64 (y : Int), .int .i64 (z : Int)] 96)) w.heap.size e x y z := by
  refine ⟨by simp, ?_, ?_, ?_, ?_, ?_, ?_, ?_, ?_⟩ <;> go_simp

theorem LC.set1 {w : World} {b : Nat} {e : Bool} {x y z : Nat} (h : LC w b e x y z) (u : Nat) : LC (w.setCell ⟨b, 1, none⟩ (.int .i64 (u : Int))) b e u y z :=
  ⟨by rw [World.size_setCell]; exact h.lb, by rw [World.cell?_setCell_other _ _ _ _ (by simp)]; exact h.c0, World.cell?_setCell_same _ _ _ h.c1, by rw [World.cell?_setCell_other _ _ _ _ (by simp)]; exact h.c2, by rw [World.cell?_setCell_other _ _ _ _ (by simp)]; exact h.c3, by rw [World.frozen?_setCell]; exact h.f0, by rw [World.frozen?_setCell]; exact h.f1, by rw [World.frozen?_setCell]; exact h.f2, by rw [World.frozen?_setCell]; exact h.f3⟩
theorem LC.set2 {w : World} {b : Nat} {e : Bool} {x y z : Nat} (h : LC w b e x y z) (u : Nat) : LC (w.setCell ⟨b, 2, none⟩ (.int .i64 (u : Int))) b e x u z :=
  ⟨by rw [World.size_setCell]; exact h.lb, by rw [World.cell?_setCell_other _ _ _ _ (by simp)]; exact h.c0, by rw [World.cell?_setCell_other _ _ _ _ (by simp)]; exact h.c1, World.cell?_setCell_same _ _ _ h.c2, by rw [World.cell?_setCell_other _ _ _ _ (by simp)]; exact h.c3, by rw [World.frozen?_setCell]; exact h.f0, by rw [World.frozen?_setCell]; exact h.f1, by rw [World.frozen?_setCell]; exact h.f2, by rw [World.frozen?_setCell]; exact h.f3⟩
theorem LC.set3 {w : World} {b : Nat} {e : Bool} {x y z : Nat} (h : LC w b e x y z) (u : Nat) : LC (w.setCell ⟨b, 3, none⟩ (.int .i64 (u : Int))) b e x y u :=
  ⟨by rw [World.size_setCell]; exact h.lb, by rw [World.cell?_setCell_other _ _ _ _ (by simp)]; exact h.c0, by rw [World.cell?_setCell_other _ _ _ _ (by simp)]; exact h.c1, by rw [World.cell?_setCell_other _ _ _ _ (by simp)]; exact h.c2, World.cell?_setCell_same _ _ _ h.c3, by rw [World.frozen?_setCell]; exact h.f0, by rw [World.frozen?_setCell]; exact h.f1, by rw [World.frozen?_setCell]; exact h.f2, by rw [World.frozen?_setCell]; exact h.f3⟩

/-- the outlook in the making -/
def Mch.lks (q : Bool × Nat × Nat × Nat) (i : Nat) : Bool × Nat × Nat × Nat := (q.1, if 0 < i then q.2.1 else 0, if 1 < i then q.2.2.1 else 0, if 2 < i then q.2.2.2 else 0)

set_option maxRecDepth 100000 in
set_option maxHeartbeats 8000000 in
theorem outlookOf_any (M : List (List Int)) (E : List Bool) (c : List Nat) (vM eM v : Value) (x : Nat) (w : World) (hM : MAt w w.heap.size vM M) (hE : EAt w w.heap.size eM E) (hv : ZAt w w.heap.size v (zn c)) (hg : gm M E = true) (hl : c.length = M.length) (hx : x < M.length) :
    Calls Try.prog 75 #[.agg #[vM, eM], .int .i64 (x : Int), v] w fun e w' => e = .returned (lkv (lo4 M E c x)) ∧ Below w.heap.size w w' := by
  have rc := fun (tmps : Array Value) (P : Program) (w : World) => results_cellM (fn := Try.f75) (p := 6) (ty := 96) rfl tmps P w
  have HM : Hid (MAt w w.heap.size vM M) := hM
  have HE : Hid (EAt w w.heap.size eM E) := hE
  have HV : Hid (ZAt w w.heap.size v (zn c)) := hv
  have HG : Hid (gm M E = true) := hg
  have HL : Hid (c.length = M.length) := hl
  have HLE : Hid (E.length = M.length) := (gm_iff.1 hg).1.2.2
  obtain ⟨aM, cM, rfl, hm1, hm2, _⟩ := hM
  obtain ⟨aE, cE, rfl, he1, he2, _⟩ := hE
  obtain ⟨av, cv, rfl, hc1, hc2, _⟩ := hv
  rw [zn_len] at hc1 HV
  rw [zn_len]
  unfold maxLen at hm2 hc2 he2
  have h12 : M.length ≤ 12 := (gm_iff.1 hg).1.2.1
  rw [hl] at HV hc1
  rw [hl]
  obtain ⟨⟨ra, rb, rd, re⟩, hR⟩ : ∃ R, R = lo4 M E c x := ⟨_, rfl⟩
  have HR : Hid ((ra, rb, rd, re) = lo4 M E c x) := hR
  rw [← hR]
  unfold lkv
  dsimp only
  clear hR hg hl
  obtain ⟨ga, oa, gu, ou, cu, hA1, hA2, hA3, hA4, hA5⟩ := HM.out.row HG.out hx
  subst hA1
  obtain ⟨gE, oE, hvE, hgE, cO⟩ := HE.out.to (i := x) (by rw [HLE.out]; exact hx)
  subst hvE
  have hv0 : 0 < c.length := by rw [HL.out]; omega
  obtain ⟨gv, ov, hv1, hv2, _⟩ := HV.out.cx (i := 0) hv0
  subst hv1
  have HVC : Hid (∀ y, y < M.length → w.cell? ⟨gv, ov + y, none⟩ = some (.int .i64 ((cx c y : Nat) : Int))) := fun y hy => by
    obtain ⟨g', o', e1, e2, e3⟩ := HV.out.cx (i := y) (by rw [HL.out]; exact hy)
    simp only [Option.some.injEq, Addr.mk.injEq] at e1
    obtain ⟨rfl, rfl, _⟩ := e1
    exact e3
  have HA5 : Hid (∀ k, k < 3 → w.cell? ⟨gu, ou + k, none⟩ = some (.int .i64 ((nt M x k : Nat) : Int)) ∧ nt M x k < M.length) := fun k hk => ⟨hA5 k hk, (gm_next HG.out hx hk).2.1⟩
  have hxM : (x : Int) < (M.length : Int) := by omega
  have hxE : (x : Int) < (E.length : Int) := by have := HLE.out; omega
  obtain ⟨W0, hW0⟩ : ∃ W, W = (w.alloc (.cells #[.slice (some ⟨ga, oa, none⟩) M.length cM, .slice (some ⟨gE, oE, none⟩) E.length cE] 30)).alloc (.cells #[.bool false, .int .i64 0, .int .i64 0, .int .i64 0] 96) := ⟨_, rfl⟩
  have HS0 : Hid (W0.heap.size = w.heap.size + 2) := by show _ = _; rw [hW0]; simp
  have hB0 : Below w.heap.size w W0 := by rw [hW0]; exact ((Below.refl _ w).alloc (Nat.le_refl _) _).alloc (by simp) _
  have q0 : W0.cell? ⟨w.heap.size, 0, none⟩ = some (.slice (some ⟨ga, oa, none⟩) M.length cM) := by rw [hW0]; go_simp
  have q1 : W0.cell? ⟨w.heap.size, 1, none⟩ = some (.slice (some ⟨gE, oE, none⟩) E.length cE) := by rw [hW0]; go_simp
  have hz0 : w.heap.size < W0.heap.size := by rw [hW0]; simp; omega
  have L0 : Hid (LC W0 (w.heap.size + 1) false 0 0 0) := by
    have h := LC.made (w.alloc (.cells #[.slice (some ⟨ga, oa, none⟩) M.length cM, .slice (some ⟨gE, oE, none⟩) E.length cE] 30)) false 0 0 0
    rw [World.size_alloc] at h
    rw [hW0]
    exact h
  obtain ⟨W1, hW1⟩ : ∃ W, W = W0.alloc (.cells #[.bool (en E x), .int .i64 0, .int .i64 0, .int .i64 0] 96) := ⟨_, rfl⟩
  have hB01 : Below W0.heap.size W0 W1 := by rw [hW1]; exact (Below.refl _ W0).alloc (Nat.le_refl _) _
  have L1 : Hid (LC W1 (w.heap.size + 2) (en E x) 0 0 0) := by
    have h := LC.made W0 (en E x) 0 0 0
    rw [HS0.out] at h
    rw [hW1]
    exact h
  have hB1 : Below w.heap.size w W1 := hB0.trans (hB01.mono hB0.size)
  have P0 : Hid (LC W1 (w.heap.size + 1) false 0 0 0) := L0.out.below hB01
  have HS1 : Hid (W1.heap.size = w.heap.size + 3) := by show _ = _; rw [hW1, World.size_alloc, HS0.out]
  have r0 := (hB01.cell (p := ⟨w.heap.size, 0, none⟩) hz0).trans q0
  have hz1 : w.heap.size < W1.heap.size := by rw [HS1.out]; omega
  have cE0 := (hB0.cell (p := ⟨gE, oE + x, none⟩) hgE).trans cO
  have r3 := (hB1.cell (p := ⟨ga, oa + x, none⟩) hA2).trans hA3
  have HFS : Hid (lks (ra, rb, rd, re) 0 = (en E x, 0, 0, 0)) := by show _ = _; rw [HR.out]; rfl
  have HF3 : Hid (lks (ra, rb, rd, re) 3 = (ra, rb, rd, re)) := by show _ = _; rw [HR.out]; rfl
  have HX1 : Hid (ra = en E x) := congrArg Prod.fst HR.out
  have HX : Hid (cx c (nt M x 0) = rb ∧ cx c (nt M x 1) = rd ∧ cx c (nt M x 2) = re) := by
    have h := HR.out
    unfold lo4 at h
    simp only [Prod.mk.injEq] at h
    exact ⟨h.2.1.symm, h.2.2.1.symm, h.2.2.2.symm⟩
  clear hA3 hA5 HR cO
  generalize en E x = ex at hW1 L1 cE0 HFS HX1
  go_enter Try.func75, Try.ntmps75
  go_upto_region 1 with fail
  rw [← hW0]
  clear hW0
  have hs0 : W0.heap.size = w.heap.size + 2 := HS0.out
  go_upto_region 2 with fail
  rw [← hW1]
  clear hW1 hs0 q0 q1 cE0
  go_wp2
  clear r0 r3
  go_loopw [22] (fun vi wr => ∃ i : Nat, i ≤ 3 ∧ vi = .int .i64 (i : Int) ∧ Hid (LC wr (w.heap.size + 2) ra (lks (ra, rb, rd, re) i).2.1 (lks (ra, rb, rd, re) i).2.2.1 (lks (ra, rb, rd, re) i).2.2.2) ∧ Hid (Below (w.heap.size + 2) W1 wr))
    (fun vi _ => 3 - (intOf vi).toNat)
  case atStart => exact ⟨0, by omega, rfl, by rw [HFS.out, HX1.out]; exact L1, Below.refl _ _⟩
  case round =>
    obtain ⟨i, hi, rfl, hLC, hbw⟩ := hrel
    clear L1 L0
    have hBr : Below w.heap.size w wr := hB1.trans (hbw.out.mono (by omega))
    have hsz : w.heap.size + 2 < wr.heap.size := hLC.out.lb
    have hcase : i = 0 ∨ i = 1 ∨ i = 2 ∨ i = 3 := by omega
    rcases hcase with rfl | rfl | rfl | rfl
    · obtain ⟨n1, n3⟩ := HA5.out 0 (by omega)
      replace n1 := (hBr.cell (p := ⟨gu, ou + 0, none⟩) hA4).trans n1
      have k1 := (hBr.cell (p := ⟨gv, ov + nt M x 0, none⟩) hv2).trans (HVC.out _ n3)
      have HK : Hid (cx c (nt M x 0) = rb) := HX.out.1
      rw [Nat.add_zero] at n1
      have L2 : Hid (LC (wr.setCell ⟨w.heap.size + 2, 1, none⟩ (.int .i64 ((cx c (nt M x 0) : Nat) : Int))) (w.heap.size + 2) ra (lks (ra, rb, rd, re) 1).2.1 (lks (ra, rb, rd, re) 1).2.2.1 (lks (ra, rb, rd, re) 1).2.2.2) := by
        show LC _ _ _ _ _ _
        rw [HK.out]
        exact hLC.out.set1 _
      have HB2 : Hid (Below (w.heap.size + 2) W1 (wr.setCell ⟨w.heap.size + 2, 1, none⟩ (.int .i64 ((cx c (nt M x 0) : Nat) : Int)))) := hbw.out.setCell (p := ⟨w.heap.size + 2, 1, none⟩) (Nat.le_refl _) _
      have d1 := hLC.out.c1
      have d2 := hLC.out.f1
      generalize cx c (nt M x 0) = p at k1 L2 HB2
      generalize nt M x 0 = s at n1 n3 k1
      have n3' : (s : Int) < (M.length : Int) := by omega
      clear hLC HK
      go_wp2
      go_roundw
      case rel => exact ⟨1, by omega, rfl, L2, HB2⟩
      case measure => simp [intOf]
    · obtain ⟨n1, n3⟩ := HA5.out 1 (by omega)
      replace n1 := (hBr.cell (p := ⟨gu, ou + 1, none⟩) hA4).trans n1
      have k1 := (hBr.cell (p := ⟨gv, ov + nt M x 1, none⟩) hv2).trans (HVC.out _ n3)
      have HK : Hid (cx c (nt M x 1) = rd) := HX.out.2.1
      have L2 : Hid (LC (wr.setCell ⟨w.heap.size + 2, 2, none⟩ (.int .i64 ((cx c (nt M x 1) : Nat) : Int))) (w.heap.size + 2) ra (lks (ra, rb, rd, re) 2).2.1 (lks (ra, rb, rd, re) 2).2.2.1 (lks (ra, rb, rd, re) 2).2.2.2) := by
        show LC _ _ _ _ _ _
        rw [HK.out]
        exact hLC.out.set2 _
      have HB2 : Hid (Below (w.heap.size + 2) W1 (wr.setCell ⟨w.heap.size + 2, 2, none⟩ (.int .i64 ((cx c (nt M x 1) : Nat) : Int)))) := hbw.out.setCell (p := ⟨w.heap.size + 2, 2, none⟩) (Nat.le_refl _) _
      have d1 := hLC.out.c2
      have d2 := hLC.out.f2
      generalize cx c (nt M x 1) = p at k1 L2 HB2
      generalize nt M x 1 = s at n1 n3 k1
      have n3' : (s : Int) < (M.length : Int) := by omega
      clear hLC HK
      go_wp2
      go_roundw
      case rel => exact ⟨2, by omega, rfl, L2, HB2⟩
      case measure => simp [intOf]
    · obtain ⟨n1, n3⟩ := HA5.out 2 (by omega)
      replace n1 := (hBr.cell (p := ⟨gu, ou + 2, none⟩) hA4).trans n1
      have k1 := (hBr.cell (p := ⟨gv, ov + nt M x 2, none⟩) hv2).trans (HVC.out _ n3)
      have HK : Hid (cx c (nt M x 2) = re) := HX.out.2.2
      have L2 : Hid (LC (wr.setCell ⟨w.heap.size + 2, 3, none⟩ (.int .i64 ((cx c (nt M x 2) : Nat) : Int))) (w.heap.size + 2) ra (lks (ra, rb, rd, re) 3).2.1 (lks (ra, rb, rd, re) 3).2.2.1 (lks (ra, rb, rd, re) 3).2.2.2) := by
        show LC _ _ _ _ _ _
        rw [HK.out]
        exact hLC.out.set3 _
      have HB2 : Hid (Below (w.heap.size + 2) W1 (wr.setCell ⟨w.heap.size + 2, 3, none⟩ (.int .i64 ((cx c (nt M x 2) : Nat) : Int)))) := hbw.out.setCell (p := ⟨w.heap.size + 2, 3, none⟩) (Nat.le_refl _) _
      have d1 := hLC.out.c3
      have d2 := hLC.out.f3
      generalize cx c (nt M x 2) = p at k1 L2 HB2
      generalize nt M x 2 = s at n1 n3 k1
      have n3' : (s : Int) < (M.length : Int) := by omega
      clear hLC HK
      go_wp2
      go_roundw
      case rel => exact ⟨3, by omega, rfl, L2, HB2⟩
      case measure => simp [intOf]
    · have hge : ¬ ((3 : Int) < 3) := by omega
      have hLC' : LC wr (w.heap.size + 2) ra rb rd re := hLC.out
      have hP : LC wr (w.heap.size + 1) false 0 0 0 := ⟨by omega, (hbw.out.cell (p := ⟨w.heap.size + 1, 0, none⟩) (by show w.heap.size + 1 < _; omega)).trans P0.out.c0, (hbw.out.cell (p := ⟨w.heap.size + 1, 1, none⟩) (by show w.heap.size + 1 < _; omega)).trans P0.out.c1, (hbw.out.cell (p := ⟨w.heap.size + 1, 2, none⟩) (by show w.heap.size + 1 < _; omega)).trans P0.out.c2, (hbw.out.cell (p := ⟨w.heap.size + 1, 3, none⟩) (by show w.heap.size + 1 < _; omega)).trans P0.out.c3, (hbw.out.frozen (p := ⟨w.heap.size + 1, 0, none⟩) (by show w.heap.size + 1 < _; omega)).trans P0.out.f0, (hbw.out.frozen (p := ⟨w.heap.size + 1, 1, none⟩) (by show w.heap.size + 1 < _; omega)).trans P0.out.f1, (hbw.out.frozen (p := ⟨w.heap.size + 1, 2, none⟩) (by show w.heap.size + 1 < _; omega)).trans P0.out.f2, (hbw.out.frozen (p := ⟨w.heap.size + 1, 3, none⟩) (by show w.heap.size + 1 < _; omega)).trans P0.out.f3⟩
      obtain ⟨_, d0, d1, d2, d3, _, _, _, _⟩ := hLC'
      obtain ⟨_, p0, p1, p2, p3, y0, y1, y2, y3⟩ := hP
      clear hLC P0
      go_wp2
      (try simp only [Exit.inBlock, Exit.then])
      refine bodyPost_ret (v := .agg #[.bool ra, .int .i64 (rb : Int), .int .i64 (rd : Int), .int .i64 (re : Int)]) ?_ rfl ⟨rfl, ?_⟩
      · rw [rc]
        go_simp
      · exact (((hBr.setCell (p := ⟨w.heap.size + 1, 0, none⟩) (by show w.heap.size ≤ w.heap.size + 1; omega) _).setCell (p := ⟨w.heap.size + 1, 1, none⟩) (by show w.heap.size ≤ w.heap.size + 1; omega) _).setCell (p := ⟨w.heap.size + 1, 2, none⟩) (by show w.heap.size ≤ w.heap.size + 1; omega) _).setCell (p := ⟨w.heap.size + 1, 3, none⟩) (by show w.heap.size ≤ w.heap.size + 1; omega) _

end Go.Proofs.Ytecgjhnihagleaa

namespace Go.Proofs.Ytecgjhnihagleaa
open Go.RowKit Plain Mch Tpc

theorem Try.infoLk : (Try.prog.info? 96).map (fun i => (i.zero, i.size, i.bytes)) = some (some (.agg #[.bool false, .int .i64 0, .int .i64 0, .int .i64 0]), 4, 32) := by kernel_rfl

theorem one4L (a : Bool) (b c d : Int) : ∀ u ∈ [Value.bool a, .int .i64 b, .int .i64 c, .int .i64 d], u.oneCell' = true := by
  intro u hu
  simp at hu
  rcases hu with rfl | rfl | rfl | rfl <;> rfl

set_option maxRecDepth 100000 in
set_option maxHeartbeats 8000000 in
theorem divide_any (M : List (List Int)) (E : List Bool) (c : List Nat) (vM eM v : Value) (w : World) (hM : MAt w w.heap.size vM M) (hE : EAt w w.heap.size eM E) (hv : ZAt w w.heap.size v (zn c)) (hg : gm M E = true) (hl : c.length = M.length) :
    Calls Try.prog 74 #[.agg #[vM, eM], v] w fun e w' => ∃ r, e = .returned r ∧ ZRow w' w.heap.size r (zn (dv M E c)) ∧ Below w.heap.size w w' := by
  obtain ⟨i0, hi, hz0, hz1, hz2⟩ := info_parts Try.infoInt
  obtain ⟨j0, hj, jz0, jz1, jz2⟩ := info_parts Try.infoLk
  have HM : Hid (MAt w w.heap.size vM M) := hM
  have HE : Hid (EAt w w.heap.size eM E) := hE
  have HV : Hid (ZAt w w.heap.size v (zn c)) := hv
  have HG : Hid (gm M E = true) := hg
  have HL : Hid (c.length = M.length) := hl
  obtain ⟨aM, cM, rfl, hm1, hm2, _⟩ := hM
  obtain ⟨aE, cE, rfl, he1, he2, _⟩ := hE
  obtain ⟨av, cv, rfl, hc1, hc2, _⟩ := hv
  rw [zn_len] at hc1 HV
  rw [zn_len]
  unfold maxLen at hm2 hc2 he2
  have h12 : M.length ≤ 12 := (gm_iff.1 hg).1.2.1
  rw [hl] at HV hc1
  rw [hl]
  obtain ⟨f, hf⟩ : ∃ f, f = lo4 M E c := ⟨_, rfl⟩
  have HF : Hid (f = lo4 M E c) := hf
  have HD : Hid (dv M E c = cl f M.length) := by show _ = _; rw [hf, ← hl]; rfl
  obtain ⟨D, hD⟩ : ∃ D, D = dv M E c := ⟨_, rfl⟩
  rw [← hD] at HD ⊢
  clear hf hD hg hl
  obtain ⟨W1, hW1⟩ : ∃ W, W = w.alloc (.cells #[.slice aM M.length cM, .slice aE E.length cE] 30) := ⟨_, rfl⟩
  have hB1 : Below w.heap.size w W1 := by rw [hW1]; exact (Below.refl _ w).alloc (Nat.le_refl _) _
  have Q0 : Hid (W1.cell? ⟨w.heap.size, 0, none⟩ = some (.slice aM M.length cM) ∧ W1.cell? ⟨w.heap.size, 1, none⟩ = some (.slice aE E.length cE)) := by refine ⟨?_, ?_⟩ <;> rw [hW1] <;> go_simp
  have HS1 : Hid (W1.heap.size = w.heap.size + 1) := by show _ = _; rw [hW1]; simp
  have HZ0 : Hid (ZRow W1 (w.heap.size + 1) (.slice none 0 0) (zn (cl f 0))) := ⟨rfl, .inl ⟨rfl, rfl⟩⟩
  have HL0 : Hid (LRow W1 (w.heap.size + 1) (.slice none 0 0) ((List.range 0).map f)) := ⟨rfl, .inl ⟨rfl, rfl⟩⟩
  go_enter Try.func74, Try.ntmps74
  go_upto_region 1 with fail
  rw [← hW1]
  clear hW1
  go_wp2
  go_loopw [5, 6, 11] (fun vl vd vi wr => ∃ i : Nat, i ≤ M.length ∧ vi = .int .i64 (i : Int) ∧ Hid (LRow wr (w.heap.size + 1) vl ((List.range i).map f)) ∧ Hid (ZRow wr (w.heap.size + 1) vd (zn (cl f i))) ∧ Hid (∀ g, vl.ownBlock = some g → vd.ownBlock ≠ some g) ∧ Hid (Below (w.heap.size + 1) W1 wr))
    (fun _ _ vi _ => M.length - (intOf vi).toNat)
  case atStart => exact ⟨0, by omega, rfl, HL0, HZ0, fun g hg => by simp [Value.ownBlock] at hg, Below.refl _ _⟩
  case round =>
    obtain ⟨i, hin, rfl, hLr, hO, hne, hbw⟩ := hrel
    clear HZ0 HL0
    have hszr : w.heap.size + 1 ≤ wr.heap.size := by have := hbw.out.size; have := HS1.out; omega
    obtain ⟨al, ca, hvl, hcl, _⟩ := hLr.out.slice
    subst hvl
    obtain ⟨ao, co, hvo⟩ := ZRow.slice hO.out
    subst hvo
    rw [zn_len, cl_len, List.length_map, List.length_range]
    rw [zn_len, cl_len] at hO hne
    rw [List.length_map, List.length_range] at hLr hne
    unfold maxLen at hcl
    have hBr : Below w.heap.size w wr := hB1.trans (hbw.out.mono (by omega))
    by_cases hlt : i < M.length
    · have hlt' : (i : Int) < (M.length : Int) := by omega
      have q0 := (hbw.out.cell (p := ⟨w.heap.size, 0, none⟩) (by show w.heap.size < _; omega)).trans Q0.out.1
      have q1 := (hbw.out.cell (p := ⟨w.heap.size, 1, none⟩) (by show w.heap.size < _; omega)).trans Q0.out.2
      have hzw : w.heap.size < wr.heap.size := by omega
      go_wp2_with fail
      refine (outlookOf_any M E c _ _ _ i _ (HM.out.below hBr) (HE.out.below hBr) (HV.out.below hBr) HG.out HL.out hlt).mono ?_
      rintro e w5 ⟨rfl, hb5⟩
      rw [← HF.out]
      obtain ⟨⟨qa, qb, qc, qd⟩, hq⟩ : ∃ q, q = f i := ⟨_, rfl⟩
      have HQ : Hid ((qa, qb, qc, qd) = f i) := hq
      rw [← hq]
      clear hq q0 q1
      have hs5 : wr.heap.size ≤ w5.heap.size := hb5.size
      have HB5 : Hid (Below (w.heap.size + 1) W1 w5) := hbw.out.trans (hb5.mono hszr)
      have HL5 : Hid (LRow w5 (w.heap.size + 1) (.slice al i ca) ((List.range i).map f)) := hLr.out.below hb5
      have HO5 : Hid (ZRow w5 (w.heap.size + 1) (.slice ao i co) (zn (cl f i))) := ZRow.below hO.out hb5
      unfold lkv
      dsimp only
      obtain ⟨W6, hW6⟩ : ∃ W, W = w5.alloc (.cells #[.bool qa, .int .i64 (qb : Int), .int .i64 (qc : Int), .int .i64 (qd : Int)] 96) := ⟨_, rfl⟩
      have HC6 : Hid (LC W6 w5.heap.size qa qb qc qd) := by show LC _ _ _ _ _ _; rw [hW6]; exact LC.made w5 qa qb qc qd
      have hb6 : Below w5.heap.size w5 W6 := by rw [hW6]; exact (Below.refl _ w5).alloc (Nat.le_refl _) _
      have HB6 : Hid (Below (w.heap.size + 1) W1 W6) := HB5.out.trans (hb6.mono (by omega))
      have HL6 : Hid (LRow W6 (w.heap.size + 1) (.slice al i ca) ((List.range i).map f)) := HL5.out.below hb6
      have HO6 : Hid (ZRow W6 (w.heap.size + 1) (.slice ao i co) (zn (cl f i))) := ZRow.below HO5.out hb6
      have HS6 : Hid (W6.heap.size = w5.heap.size + 1) := by show _ = _; rw [hW6]; simp
      have hlw : w5.heap.size < W6.heap.size := by rw [HS6.out]; omega
      have HLT : Hid (∀ g, (Value.slice al i ca).ownBlock = some g → w.heap.size + 1 ≤ g ∧ g < w5.heap.size) := World.ownsRow.lt HL5.out
      have HOT : Hid (∀ g, (Value.slice ao i co).ownBlock = some g → w.heap.size + 1 ≤ g ∧ g < w5.heap.size) := World.ownsRow.lt HO5.out
      obtain ⟨_, k0, k1, k2, k3, _, _, _, _⟩ := HC6.out
      clear hLr hO hb5 hbw HL5 HO5 HB5
      go_upto_region 7 with fail
      rw [← hW6]
      clear hW6
      have hi12 : i ≤ 12 := by omega
      go_wp2_with (at_builtin; refine wpList_append_lies _ rfl _ _ 106 rfl (w.heap.size + 1) 96 j0 (.agg #[.bool false, .int .i64 0, .int .i64 0, .int .i64 0]) 4 32 Try.underlying106 hj jz0 jz1 jz2 rfl (by decide) _ i _ rfl (World.ownsRow.alloc (by have h := HL6.out; unfold LRow at h; rw [List.length_map, List.length_range] at h; exact h) _) ⟨W6.heap.size, 0, none⟩ 1 1 [.bool qa, .int .i64 (qb : Int), .int .i64 (qc : Int), .int .i64 (qd : Int)] rfl rfl (World.news_of_block (heap_alloc_new W6 _)) (one4L _ _ _ _) (by omega) (by unfold maxLen; omega) (by omega) (by simp; omega) (W6.heap.size + 1) (by simp) ?_)
      intro g9 cap9 w9 hown9 hgrow9 hat9 hlt9
      have hs9 : W6.heap.size + 1 ≤ w9.heap.size := by have := hgrow9.size; simpa using this
      have HL9 : Hid (LRow w9 (w.heap.size + 1) (.slice (some ⟨g9, 0, none⟩) (i + 1) cap9) ((List.range (i + 1)).map f)) := by
        show LRow _ _ _ _
        rw [List.range_succ, List.map_append]
        unfold LRow
        have e : (([i].map f).flatMap lkc) = [.bool qa, .int .i64 (qb : Int), .int .i64 (qc : Int), .int .i64 (qd : Int)] := by
          show (lkc (f i) ++ []) = _
          rw [← HQ.out]
          rfl
        rw [List.length_append, List.length_map, List.length_range, List.flatMap_append, e]
        exact hown9
      have hblk : w9.heap[w5.heap.size]? = W6.heap[w5.heap.size]? := by
        rw [hgrow9.block _ (by simp; omega) (fun e => by have := (HLT.out _ e.symm).2; omega), Below.heap_alloc _ _ _ (by omega)]
      have HC9 : Hid (LC w9 w5.heap.size qa qb qc qd) := by
        obtain ⟨_, c0, c1, c2, c3, f0, f1, f2, f3⟩ := HC6.out
        exact ⟨by omega, (World.cell?_of_block (w := W6) hblk).trans c0, (World.cell?_of_block (w := W6) hblk).trans c1, (World.cell?_of_block (w := W6) hblk).trans c2, (World.cell?_of_block (w := W6) hblk).trans c3, (World.frozen?_of_block (w := W6) hblk).trans f0, (World.frozen?_of_block (w := W6) hblk).trans f1, (World.frozen?_of_block (w := W6) hblk).trans f2, (World.frozen?_of_block (w := W6) hblk).trans f3⟩
      have HO9 : Hid (ZRow w9 (w.heap.size + 1) (.slice ao i co) (zn (cl f i))) := own_besideM (World.ownsRow.alloc HO6.out _) hgrow9 (fun g' e1 e2 => hne.out g' e2.symm e1)
      have HNE9 : Hid ((Value.slice ao i co).ownBlock ≠ some g9) := fun e => by
        rcases hat9 with h | h
        · exact hne.out g9 h e
        · have := (HOT.out g9 e).2; omega
      have HB9 : Hid (Below (w.heap.size + 1) W1 w9) := below_grown HB6.out (by omega) hgrow9 (fun g hg => (HLT.out g hg).1)
      have hlw9 : w5.heap.size < w9.heap.size := by omega
      have hg9 : g9 < w9.heap.size := (World.ownsRow.lt HL9.out g9 rfl).2
      clear hown9 hgrow9 hat9 hlt9 k0 k1 k2 k3 HL6 HO6 HB6 HC6 hblk hlw hne
      obtain ⟨_, k0, k1, k2, k3, _, _, _, _⟩ := HC9.out
      have hI := lkIndex_any f i (w.heap.size + 1) (.slice (some ⟨g9, 0, none⟩) (i + 1) cap9) w9 HL9.out (by omega)
      rw [← HQ.out] at hI
      unfold lkv at hI
      dsimp only at hI
      have HI : Hid (type_of% hI) := hI
      clear hI
      go_wp2_with fail
      refine HI.out.mono ?_
      rintro e w10 ⟨rfl, hb10⟩
      have HL10 : Hid (LRow w10 (w.heap.size + 1) (.slice (some ⟨g9, 0, none⟩) (i + 1) cap9) ((List.range (i + 1)).map f)) := HL9.out.below hb10
      have HO10 : Hid (ZRow w10 (w.heap.size + 1) (.slice ao i co) (zn (cl f i))) := ZRow.below HO9.out hb10
      have HB10 : Hid (Below (w.heap.size + 1) W1 w10) := HB9.out.trans (hb10.mono (by omega))
      have hs10 : w9.heap.size ≤ w10.heap.size := hb10.size
      have HNX : Hid (zn (cl f (i + 1)) = zn (cl f i) ++ [((fi f i : Nat) : Int)]) := zn_cl f i
      have HKL : Hid ((zn (cl f i)).length = i) := by show _ = _; rw [zn_len, cl_len]
      clear HL9 HO9 HB9 HC9 k0 k1 k2 k3 hb10 HI
      generalize fi f i = x at HNX ⊢
      generalize zn (cl f i) = K at HO10 HNX HKL
      go_wp2_with (at_builtin; refine wpList_append_lies _ rfl _ _ 27 rfl (w.heap.size + 1) 3 i0 (.int .i64 0) 1 8 Try.underlying27 hi hz0 hz1 hz2 rfl (by decide) _ i _ rfl (World.ownsRow.alloc (by have h := HO10.out; unfold ZRow at h; rw [HKL.out] at h; exact h) _) ⟨w10.heap.size, 0, none⟩ 1 1 [.int .i64 (x : Int)] rfl rfl (World.news_of_block (heap_alloc_new w10 _)) (onezJ _) (by omega) (by unfold maxLen; omega) (by omega) (by simp; omega) (w10.heap.size + 1) (by simp) ?_)
      intro g8 cap8 w8 hown8 hgrow8 hat8 hlt8
      have HO8 : Hid (ZRow w8 (w.heap.size + 1) (.slice (some ⟨g8, 0, none⟩) (i + 1) cap8) (zn (cl f (i + 1)))) := by
        rw [HNX.out]
        have h := hown8
        rw [← HKL.out] at h
        have h2 := ZRow.snocM h
        rw [HKL.out] at h2
        exact h2
      have HL8 : Hid (LRow w8 (w.heap.size + 1) (.slice (some ⟨g9, 0, none⟩) (i + 1) cap9) ((List.range (i + 1)).map f)) := own_besideM (World.ownsRow.alloc HL10.out _) hgrow8 (fun g' e1 e2 => by
        simp [Value.ownBlock] at e1
        subst e1
        exact HNE9.out e2.symm)
      have HB8 : Hid (Below (w.heap.size + 1) W1 w8) := below_grown HB10.out (by omega) hgrow8 (fun g hg => (World.ownsRow.lt HO10.out g hg).1)
      have HN8 : Hid (∀ g, (Value.slice (some ⟨g9, 0, none⟩) (i + 1) cap9).ownBlock = some g → (Value.slice (some ⟨g8, 0, none⟩) (i + 1) cap8).ownBlock ≠ some g) := fun g e1 e2 => by
        simp [Value.ownBlock] at e1 e2
        subst e1 e2
        rcases hat8 with h | h
        · exact HNE9.out h
        · omega
      clear hown8 hgrow8 hat8 hlt8 HL10 HO10 HB10
      go_wp2
      go_roundw
      case rel => exact ⟨i + 1, by omega, by go_num, HL8, HO8, HN8, HB8⟩
      case measure => simp [intOf]; omega
    · have hke : i = M.length := by omega
      have hge : ¬ ((i : Int) < (M.length : Int)) := by omega
      have HEND : Hid (ZRow wr w.heap.size (.slice ao i co) (zn D)) := by
        have h := hO.out
        rw [hke] at h
        show World.ownsRow _ _ _ _ _ _ _
        rw [HD.out, hke]
        exact own_lowerM h (by omega)
      clear hke hO
      go_wp2
      go_ret
      exact ⟨_, rfl, HEND.out, hBr⟩

end Go.Proofs.Ytecgjhnihagleaa

namespace Go.Proofs.Ytecgjhnihagleaa
open Go.RowKit Plain Mch Tpc

theorem made_zeros (n : Nat) : (madeCells (Value.int .i64 0).cells n).toList = zints (zn (List.replicate n 0)) := by
  rw [show (Value.int .i64 0).cells = #[Value.int .i64 0] from rfl, toList_madeCells_one]
  simp [zints, zn]

/-- how far the rounds are, with what the program's way of parting wants -/
structure Rv (M : List (List Int)) (E : List Bool) (c : List Nat) (r : Nat) : Prop where
  rd : Rd M E c r
  iv : Iv M E c

theorem Rv.next {M : List (List Int)} {E : List Bool} {c : List Nat} {r : Nat} (h : Rv M E c r) (hg : gm M E = true) (hE : E.length ≤ 12) (hne : dv M E c ≠ c) : Rv M E (dv M E c) (r + 1) := by
  have hlE := (gm_iff.1 hg).1.2.2
  have hl : c.length = M.length := h.rd.len.trans hlE
  rw [h.iv.dv] at hne ⊢
  exact ⟨h.rd.next hE hne, h.iv.next (fun x k hx hk => by rw [hl] at hx ⊢; exact (gm_next hg hx hk).2.1)⟩

theorem Rv.done {M : List (List Int)} {E : List Bool} {c : List Nat} {r : Nat} (h : Rv M E c r) (hE : E.length ≤ 12) (he : dv M E c = c) : cls M E = c ∧ cln M E = r := by
  rw [h.iv.dv] at he
  exact h.rd.done hE he

set_option maxRecDepth 100000 in
set_option maxHeartbeats 8000000 in
theorem classesOf_any (M : List (List Int)) (E : List Bool) (vM eM : Value) (w : World) (hM : MAt w w.heap.size vM M) (hE : EAt w w.heap.size eM E) (hg : gm M E = true) :
    Calls Try.prog 43 #[.agg #[vM, eM]] w fun e w' => (∃ r, e = .returned (.tuple #[r, .int .i64 ((cln M E : Nat) : Int)]) ∧ ZRow w' w.heap.size r (zn (cls M E))) ∧ Below w.heap.size w w' := by
  obtain ⟨i0, hi, hz0, hz1, hz2⟩ := info_parts Try.infoInt
  have HM : Hid (MAt w w.heap.size vM M) := hM
  have HE : Hid (EAt w w.heap.size eM E) := hE
  have HG : Hid (gm M E = true) := hg
  have HLE : Hid (E.length = M.length) := (gm_iff.1 hg).1.2.2
  have HE1 : Hid (1 ≤ E.length) := by have h1 := (gm_iff.1 hg).1.1; have h2 := HLE.out; show 1 ≤ _; omega
  obtain ⟨aM, cM, rfl, hm1, hm2, _⟩ := hM
  obtain ⟨aE, cE, rfl, he1, he2, _⟩ := hE
  unfold maxLen at hm2 he2
  have h12 : E.length ≤ 12 := by rw [HLE.out]; exact (gm_iff.1 hg).1.2.1
  clear hg
  obtain ⟨CN, hCN⟩ : ∃ n, n = cln M E := ⟨_, rfl⟩
  obtain ⟨CL, hCL⟩ : ∃ n, n = cls M E := ⟨_, rfl⟩
  have HCN : Hid (CN = cln M E) := hCN
  have HCL' : Hid (CL = cls M E) := hCL
  rw [← hCN, ← hCL]
  clear hCN hCL
  obtain ⟨Z, hZ⟩ : ∃ Z, Z = madeCells (Value.int .i64 0).cells (((E.length : Nat) : Int).toNat * i0.size) := ⟨_, rfl⟩
  have hZs : Z.size = E.length * 1 := by rw [hZ, size_madeCells, hz1]; simp
  have hZl : Z.toList = zints (zn (List.replicate E.length 0)) := by rw [hZ, hz1]; have h := made_zeros E.length; simpa using h
  have hmk : ∀ W : World, (Instr.makeSlice 27 (.int .i64 (E.length : Int)) (.int .i64 (E.length : Int))).run Try.prog W = .ok (.slice (some ⟨W.heap.size, 0, none⟩) E.length E.length) (W.alloc (.cells Z 3)) := fun W => by
    have h := run_make (P := Try.prog) W 27 3 i0 (.int .i64 0) Try.underlying27 hi hz0 .i64 .i64 (E.length : Int) (E.length : Int) (by omega) (by omega) (by rw [hz2]; omega) (by omega)
    rw [← hZ] at h
    simpa using h
  clear hZ
  obtain ⟨W0, hW0⟩ : ∃ W, W = w.alloc (.cells #[.slice aM M.length cM, .slice aE E.length cE] 30) := ⟨_, rfl⟩
  have hB0 : Below w.heap.size w W0 := by rw [hW0]; exact (Below.refl _ w).alloc (Nat.le_refl _) _
  have q00 : W0.cell? ⟨w.heap.size, 0, none⟩ = some (.slice aM M.length cM) := by rw [hW0]; go_simp
  have q01 : W0.cell? ⟨w.heap.size, 1, none⟩ = some (.slice aE E.length cE) := by rw [hW0]; go_simp
  have HS0 : Hid (W0.heap.size = w.heap.size + 1) := by show _ = _; rw [hW0]; simp
  have hzw0 : w.heap.size < W0.heap.size := by rw [HS0.out]; omega
  obtain ⟨W1, hW1⟩ : ∃ W, W = W0.alloc (.cells Z 3) := ⟨_, rfl⟩
  have hB01 : Below W0.heap.size W0 W1 := by rw [hW1]; exact (Below.refl _ W0).alloc (Nat.le_refl _) _
  have hB1 : Below w.heap.size w W1 := hB0.trans (hB01.mono hB0.size)
  have HS1 : Hid (W1.heap.size = w.heap.size + 2) := by show _ = _; rw [hW1, World.size_alloc, HS0.out]
  have Q0 : Hid (W1.cell? ⟨w.heap.size, 0, none⟩ = some (.slice aM M.length cM) ∧ W1.cell? ⟨w.heap.size, 1, none⟩ = some (.slice aE E.length cE)) := ⟨(hB01.cell (p := ⟨w.heap.size, 0, none⟩) hzw0).trans q00, (hB01.cell (p := ⟨w.heap.size, 1, none⟩) hzw0).trans q01⟩
  have HZ1 : Hid (ZRow W1 (w.heap.size + 1) (.slice (some ⟨w.heap.size + 1, 0, none⟩) E.length E.length) (zn (List.replicate E.length 0))) := by
    have hh := heap_alloc_new W0 (.cells Z 3)
    rw [← hW1, HS0.out] at hh
    unfold Hid ZRow
    rw [zn_len, List.length_replicate]
    exact ⟨by rw [← hZl]; simp [hZs], .inr ⟨w.heap.size + 1, E.length, Z, rfl, Nat.le_refl _, hh, Nat.le_refl _, by unfold maxLen; omega, hZs, by rw [← hZl, List.take_of_length_le (by simp [hZs])]⟩⟩
  have q0 := Q0.out.1
  have q1 := Q0.out.2
  have hzw : w.heap.size < W1.heap.size := by rw [HS1.out]; omega
  clear hZl hZs
  go_enter Try.func43, Try.ntmps43
  go_upto_region 1 with fail
  rw [← hW0]
  clear hW0
  have hs0 : W0.heap.size = w.heap.size + 1 := HS0.out
  go_step3
  go_upto_region 2 with fail
  rw [← hW1]
  clear hW1 hs0 q00 q01 hmk
  go_wp2_with fail
  refine (divide_any M E (List.replicate E.length 0) _ _ _ _ (HM.out.below hB1) (HE.out.below hB1) (ZAt.own HZ1.out) HG.out (by rw [List.length_replicate, HLE.out])).mono ?_
  rintro e w2 ⟨r2, rfl, ho2, hb2⟩
  rw [dv_zero] at ho2
  have HO2 : Hid (ZRow w2 (w.heap.size + 1) r2 (zn (c0 E))) := own_lowerM ho2 (by omega)
  have HB2 : Hid (Below (w.heap.size + 1) W1 w2) := hb2.mono (by omega)
  have HR2 : Hid (Rv M E (c0 E) 0) := ⟨Rd.start HE1.out, Iv.start M E⟩
  clear ho2 hb2 q0 q1 HZ1
  go_wp2
  go_step3
  go_wp2
  go_loopg [5, 6] 13 (fun k vc vr wr => ∃ (r : Nat) (c : List Nat), k + r = 13 ∧ vr = .int .i64 (r : Int) ∧ Hid (ZRow wr (w.heap.size + 1) vc (zn c)) ∧ Hid (Rv M E c r) ∧ Hid (Below (w.heap.size + 1) W1 wr))
  case atStart => exact ⟨0, _, rfl, rfl, HO2, HR2, HB2⟩
  case round =>
    obtain ⟨r, c, hkr, rfl, hC, hR, hbk⟩ := hrel
    clear HO2 HR2 HB2
    have hszk : w.heap.size + 2 ≤ wr.heap.size := by have := hbk.out.size; have := HS1.out; omega
    have hr11 : r ≤ 11 := hR.out.rd.le h12
    obtain ⟨ac, cc, hvc⟩ := ZRow.slice hC.out
    subst hvc
    have HCL : Hid (c.length = E.length) := hR.out.rd.len
    have q0 := (hbk.out.cell (p := ⟨w.heap.size, 0, none⟩) (by show w.heap.size < _; omega)).trans Q0.out.1
    have q1 := (hbk.out.cell (p := ⟨w.heap.size, 1, none⟩) (by show w.heap.size < _; omega)).trans Q0.out.2
    have hzw : w.heap.size < wr.heap.size := by omega
    have hBk : Below w.heap.size w wr := hB1.trans (hbk.out.mono (by omega))
    rw [zn_len, HCL.out] at hC ⊢
    go_wp2_with fail
    refine (divide_any M E c _ _ _ _ (HM.out.below hBk) (HE.out.below hBk) (ZAt.own hC.out) HG.out (by rw [HCL.out, HLE.out])).mono ?_
    rintro e w5 ⟨r5, rfl, ho5, hb5⟩
    have HC5 : Hid (ZRow w5 (w.heap.size + 1) (.slice ac E.length cc) (zn c)) := ZRow.below hC.out hb5
    have HO5 : Hid (ZRow w5 (w.heap.size + 1) r5 (zn (dv M E c))) := own_lowerM ho5 (by omega)
    have HB5 : Hid (Below (w.heap.size + 1) W1 w5) := hbk.out.trans (hb5.mono (by omega))
    have HDL : Hid ((dv M E c).length = E.length) := by show _ = _; rw [dv_len, HCL.out]
    obtain ⟨a5, c5, hv5⟩ := ZRow.slice HO5.out
    subst hv5
    rw [zn_len, HDL.out] at HO5 ⊢
    have HT : Hid (dv M E c = c → CL = c ∧ CN = r) := fun h => by have h := hR.out.done h12 h; exact ⟨HCL'.out.trans h.1, HCN.out.trans h.2⟩
    have HN : Hid (dv M E c ≠ c → Rv M E (dv M E c) (r + 1)) := fun h => hR.out.next HG.out h12 h
    have hBe : Below w.heap.size w w5 := hB1.trans (HB5.out.mono (by omega))
    have HEN : Hid (ZRow w5 w.heap.size (.slice ac E.length cc) (zn c)) := own_lowerM HC5.out (by omega)
    clear ho5 hb5 q0 q1 hC hbk hBk hR
    generalize dv M E c = D at HO5 HDL HT HN
    have HIX : Hid (∀ i, i < E.length → ∃ ga oa gc oc, a5 = some ⟨ga, oa, none⟩ ∧ ac = some ⟨gc, oc, none⟩ ∧ w5.cell? ⟨ga, oa + i, none⟩ = some (.int .i64 ((cx D i : Nat) : Int)) ∧ w5.cell? ⟨gc, oc + i, none⟩ = some (.int .i64 ((cx c i : Nat) : Int))) := fun i hi => by
      obtain ⟨ga, oa, h1, _, h3⟩ := (ZAt.own HO5.out).cx (i := i) (by rw [HDL.out]; exact hi)
      obtain ⟨gc, oc, k1, _, k3⟩ := (ZAt.own HC5.out).cx (i := i) (by rw [HCL.out]; exact hi)
      exact ⟨ga, oa, gc, oc, h1, k1, h3, k3⟩
    go_wp2
    obtain ⟨G, hG⟩ : ∃ G, G = gk := ⟨_, rfl⟩
    rw [← hG] at hkr
    go_loopg [5, 6, 22] (E.length) (fun k2 v5 v6 vi wy => ∃ i : Nat, i + k2 = E.length ∧ v5 = .slice ac E.length cc ∧ v6 = .int .i64 (r : Int) ∧ vi = .int .i64 (i : Int) ∧ Hid (∀ j, j < i → cx D j = cx c j) ∧ wy = w5)
    case atStart => exact ⟨0, by omega, rfl, rfl, rfl, fun j hj => by omega, rfl⟩
    case round =>
      obtain ⟨i, hik, rfl, rfl, rfl, hix, rfl⟩ := hrel
      by_cases hlt : i < E.length
      · have hlt' : (i : Int) < (E.length : Int) := by omega
        obtain ⟨ga, oa, gc, oc, rfl, rfl, c1, c2⟩ := HIX.out i hlt
        have HNE : Hid (cx D i ≠ cx c i → Rv M E D (r + 1)) := fun h => HN.out (fun e => h (by rw [e]))
        have HEQ : Hid (cx D i = cx c i → ∀ j, j < i + 1 → cx D j = cx c j) := fun h j hj => by
          by_cases e : j = i
          · rw [e]; exact h
          · exact hix.out j (by omega)
        clear hix
        generalize cx D i = x at c1 HNE HEQ
        generalize cx c i = y at c2 HNE HEQ
        by_cases hxy : x = y
        · subst hxy
          have hS : Hid (∀ j, j < i + 1 → cx D j = cx c j) := HEQ.out rfl
          have hne : ((x : Int) != (x : Int)) = false := by simp
          clear HEQ HNE
          go_wp2
          go_roundg (gk - 1)
          case measure => omega
          case rel => exact ⟨i + 1, by omega, rfl, rfl, by go_num, hS, rfl⟩
        · have hS : Hid (Rv M E D (r + 1)) := HNE.out hxy
          have hne : ((x : Int) != (y : Int)) = true := by simp; omega
          have hne2 : ¬ ((x : Int) = (y : Int)) := by omega
          clear HEQ HNE hxy
          go_wp2
          go_roundg (12 - r)
          case measure => omega
          case rel => exact ⟨r + 1, D, by omega, by go_num, HO5, hS, HB5⟩
      · have hke : i = E.length := by omega
        have hge : ¬ ((i : Int) < (E.length : Int)) := by omega
        have HD : Hid (CL = c ∧ CN = r) := HT.out (cx_ext (HDL.out.trans HCL.out.symm) (fun j hj => hix.out j (by rw [hke, ← HDL.out]; exact hj)))
        clear hke hix
        go_wp2
        (try rw [Exit.noGoto_ret])
        go_ret2
        exact ⟨⟨_, by rw [HD.out.2]; rfl, by rw [HD.out.1]; exact HEN.out⟩, hBe⟩

end Go.Proofs.Ytecgjhnihagleaa
