/- The program's outlookOf; two outlooks compared; rows of outlooks; slices.Index. -/
import Derived.Test.YtecgjhnihagleaaMcDa
import Derived.Test.YtecgjhnihagleaaMcCb
import Derived.ChangeKeysEq
import Derived.Laws.StructEq
namespace Go.Proofs.Ytecgjhnihagleaa
open Go.RowKit Plain Mch Tpc

def Mch.lkc (q : Bool × Nat × Nat × Nat) : List Value := [.bool q.1, .int .i64 ((q.2.1 : Nat) : Int), .int .i64 ((q.2.2.1 : Nat) : Int), .int .i64 ((q.2.2.2 : Nat) : Int)]
def Mch.lkv (q : Bool × Nat × Nat × Nat) : Value := .agg #[.bool q.1, .int .i64 ((q.2.1 : Nat) : Int), .int .i64 ((q.2.2.1 : Nat) : Int), .int .i64 ((q.2.2.2 : Nat) : Int)]

theorem Try.lkFields : Try.prog.underlying 96 = some (.struct (Try.prog.fieldsOf 96)) := by kernel_rfl
theorem Try.lkField2 : (Try.prog.fieldsOf 96).toList.map (fun f => (f.name, f.type, f.offset)) = [("ends", 4, 0), ("next", 94, 1)] := by kernel_rfl
theorem Try.lkArr : Try.prog.underlying 94 = some (.array 3 3) := by kernel_rfl

theorem part3_0 (a b c : Value) (W : World) : (part 3 #[a, b, c] 0).run Try.prog W = .ok a W := by kernel_rfl
theorem part3_1 (a b c : Value) (W : World) : (part 3 #[a, b, c] 1).run Try.prog W = .ok b W := by kernel_rfl
theorem part3_2 (a b c : Value) (W : World) : (part 3 #[a, b, c] 2).run Try.prog W = .ok c W := by kernel_rfl
theorem part4_0 (e a b c : Value) (W : World) : (part 4 #[e, a, b, c] 0).run Try.prog W = .ok e W := by kernel_rfl
theorem part4_1 (e a b c : Value) (W : World) : (part 94 #[e, a, b, c] 1).run Try.prog W = .ok (.agg #[a, b, c]) W := by kernel_rfl

theorem equalIn_i (a b : Int) (W : World) : (Op.equalIn 9998 3 (.int .i64 a) (.int .i64 b)).run Try.prog W = .ok (decide (a = b)) W := by
  have d0 : (a == b) = decide (a = b) := rfl
  simp [go_sem, d0]
theorem equalIn_bo (a b : Bool) (W : World) : (Op.equalIn 9999 4 (.bool a) (.bool b)).run Try.prog W = .ok (decide (a = b)) W := by
  have d0 : (a == b) = decide (a = b) := by cases a <;> cases b <;> rfl
  simp [go_sem, d0]

theorem equalIn_a3 (a b c x y z : Int) (W : World) : (Op.equalIn 9999 94 (.agg #[.int .i64 a, .int .i64 b, .int .i64 c]) (.agg #[.int .i64 x, .int .i64 y, .int .i64 z])).run Try.prog W = .ok (decide (a = x) && (decide (b = y) && decide (c = z))) W := by
  obtain ⟨i0, hi, _⟩ : ∃ i0, Try.prog.info? 3 = some i0 ∧ True := by
    cases h : Try.prog.info? 3 with
    | none =>
      have hc : (Try.prog.info? 3).isSome = true := by kernel_rfl
      rw [h] at hc
      cases hc
    | some i => exact ⟨i, rfl, trivial⟩
  have hc : Try.prog.cellsOf 3 = 1 := by kernel_rfl
  rw [run_equalIn_array W 9998 _ _ Try.lkArr hi, hc]
  show (Op.eqItems 9998 3 1 _ _ [0, 1, 2]).run _ _ = _
  simp only [Op.eqItems, Sem.run_bind, part3_0, Nat.reduceMul, Nat.zero_mul, Result.andThen_ok, equalIn_i]
  cases h0 : decide (a = x) with
  | false => simp
  | true => cases h1 : decide (b = y) with
    | false => simp [Sem.run_bind, part3_1, equalIn_i, h1]
    | true => cases h2 : decide (c = z) <;> simp [Sem.run_bind, part3_1, part3_2, equalIn_i, h1, h2]

/-- are two outlooks alike -/
def leq (a b c : Int) (u : Bool) (x y z : Int) (v : Bool) : Bool := decide (u = v) && (decide (a = x) && (decide (b = y) && decide (c = z)))

theorem eqlL (u v : Bool) (a b c x y z : Int) (W : World) : (binOp .eql 96 (.agg #[.bool u, .int .i64 a, .int .i64 b, .int .i64 c]) (.agg #[.bool v, .int .i64 x, .int .i64 y, .int .i64 z])).run Try.prog W = .ok (.bool (leq a b c u x y z v)) W := by
  rw [run_eql_struct]
  rw [run_equalIn_agg W 9999 _ _ _ Try.lkFields (by kernel_rfl)]
  have hf := Try.lkField2
  obtain ⟨F, hF⟩ : ∃ F, F = (Try.prog.fieldsOf 96).toList := ⟨_, rfl⟩
  rw [← hF] at hf ⊢
  clear hF
  have hl : F.length = 2 := by simpa using congrArg List.length hf
  match F, hl with
  | [f0, f1], _ =>
    simp at hf
    obtain ⟨⟨n0, t0, o0⟩, ⟨n1, t1, o1⟩⟩ := hf
    unfold leq
    cases h0 : decide (u = v) with
    | false => simp [Op.eqFields, n0, t0, o0, Sem.run_bind, part4_0, equalIn_bo, h0]
    | true =>
      have hA := equalIn_a3 a b c x y z W
      generalize (decide (a = x) && (decide (b = y) && decide (c = z))) = B at hA
      cases B <;> simp [Op.eqFields, n0, t0, o0, n1, t1, o1, Sem.run_bind, part4_0, part4_1, equalIn_bo, hA, h0]

theorem leq_same {p q : Bool × Nat × Nat × Nat} : leq ((p.2.1 : Nat) : Int) ((p.2.2.1 : Nat) : Int) ((p.2.2.2 : Nat) : Int) p.1 ((q.2.1 : Nat) : Int) ((q.2.2.1 : Nat) : Int) ((q.2.2.2 : Nat) : Int) q.1 = decide (p = q) := by
  obtain ⟨u, a, b, c⟩ := p
  obtain ⟨v, x, y, z⟩ := q
  unfold leq
  rw [← Bool.decide_and, ← Bool.decide_and, ← Bool.decide_and]
  exact decide_eq_decide.2 (by simp only [Prod.mk.injEq]; constructor <;> (rintro ⟨h0, h1, h2, h3⟩; exact ⟨h0, by omega, by omega, by omega⟩))

theorem flatL (l : List (Bool × Nat × Nat × Nat)) (i j : Nat) {q : Bool × Nat × Nat × Nat} (h : l[i]? = some q) (hj : j < 4) : (l.flatMap lkc)[i * 4 + j]? = (lkc q)[j]? := by
  induction l generalizing i with
  | nil => simp at h
  | cons a l ih =>
    rw [List.flatMap_cons]
    have ha : (lkc a).length = 4 := rfl
    cases i with
    | zero =>
      simp at h
      subst h
      rw [Nat.zero_mul, Nat.zero_add, List.getElem?_append_left (by omega)]
    | succ i =>
      rw [List.getElem?_append_right (by omega)]
      have := ih i (by simpa using h)
      rw [← this]
      congr 1
      omega

/-- an own row of outlooks -/
def LRow (w : World) (B : Nat) (v : Value) (l : List (Bool × Nat × Nat × Nat)) : Prop := w.ownsRow B 96 4 v l.length (l.flatMap lkc)

theorem LRow.slice {w : World} {B : Nat} {v : Value} {l : List (Bool × Nat × Nat × Nat)} (h : LRow w B v l) : ∃ ao cap, v = Value.slice ao l.length cap ∧ cap ≤ maxLen ∧ l.length ≤ cap := by
  rcases h.2 with ⟨rfl, h0⟩ | ⟨g, cap, cur, rfl, _, _, h1, h2, _⟩
  · exact ⟨none, 0, by rw [h0], by unfold maxLen; omega, by omega⟩
  · exact ⟨_, _, rfl, h2, h1⟩

theorem LRow.cells {w : World} {B n cap : Nat} {ao : Option Addr} {l : List (Bool × Nat × Nat × Nat)} (h : LRow w B (.slice ao n cap) l) {i : Nat} {q : Bool × Nat × Nat × Nat} (hq : l[i]? = some q) : ∃ g, ao = some ⟨g, 0, none⟩ ∧ g < w.heap.size ∧ B ≤ g ∧ w.cell? ⟨g, i * 4, none⟩ = some (.bool q.1) ∧ w.cell? ⟨g, i * 4 + 1, none⟩ = some (.int .i64 ((q.2.1 : Nat) : Int)) ∧ w.cell? ⟨g, i * 4 + 2, none⟩ = some (.int .i64 ((q.2.2.1 : Nat) : Int)) ∧ w.cell? ⟨g, i * 4 + 3, none⟩ = some (.int .i64 ((q.2.2.2 : Nat) : Int)) := by
  have hi : i < l.length := (List.getElem?_eq_some_iff.1 hq).1
  obtain ⟨g, c, hv⟩ := Joins.ownsRow_form h (by omega)
  simp only [Value.slice.injEq] at hv
  obtain ⟨rfl, rfl, rfl⟩ := hv
  have hlt := World.ownsRow.lt h g rfl
  have at' : ∀ j, j < 4 → w.cell? ⟨g, i * 4 + j, none⟩ = (lkc q)[j]? := fun j hj => by
    rw [World.ownsRow.cellAt h (i * 4 + j) (by omega)]
    exact flatL l i j hq hj
  exact ⟨g, rfl, hlt.2, hlt.1, at' 0 (by omega), at' 1 (by omega), at' 2 (by omega), at' 3 (by omega)⟩

theorem LRow.snoc {w9 : World} {B g cap : Nat} {l : List (Bool × Nat × Nat × Nat)} {q : Bool × Nat × Nat × Nat} (hown : w9.ownsRow B 96 4 (.slice (some ⟨g, 0, none⟩) (l.length + 1) cap) (l.length + 1) (l.flatMap lkc ++ lkc q)) : LRow w9 B (.slice (some ⟨g, 0, none⟩) (l.length + 1) cap) (l ++ [q]) := by
  unfold LRow
  rw [List.length_append, List.length_singleton, List.flatMap_append]
  simpa using hown

theorem LRow.below {w w' : World} {B : Nat} {v : Value} {l : List (Bool × Nat × Nat × Nat)} (h : LRow w B v l) (hb : Below w.heap.size w w') : LRow w' B v l := own_belowM h hb

attribute [local go_sem ↓] eqlL

set_option maxRecDepth 100000 in
set_option maxHeartbeats 4000000 in
theorem lkIndex_any (f : Nat → Bool × Nat × Nat × Nat) (k B : Nat) (v : Value) (w : World) (hv : LRow w B v ((List.range (k + 1)).map f)) (hk : k ≤ 100) :
    Calls Try.prog 85 #[v, lkv (f k)] w fun e w' => e = .returned (.int .i64 ((fi f k : Nat) : Int)) ∧ Below w.heap.size w w' := by
  have HV : Hid (LRow w B v ((List.range (k + 1)).map f)) := hv
  obtain ⟨ao, cap, rfl, hc1, hc2⟩ := hv.slice
  rw [List.length_map, List.length_range] at HV hc2
  rw [List.length_map, List.length_range]
  unfold maxLen at hc1
  have HLE : Hid (fi f k ≤ k) := fi_le f k
  obtain ⟨q, hq⟩ : ∃ q, q = f k := ⟨_, rfl⟩
  have HQ : Hid (q = f k) := hq
  have HEQ : Hid (∀ i, i ≤ fi f k → f i = q → fi f k = i) := fun i hi e => by
    by_cases h2 : i < fi f k
    · exact absurd (e.trans hq) (fi_first f h2)
    · omega
  have HNE : Hid (∀ i, i ≤ fi f k → f i ≠ q → i + 1 ≤ fi f k) := fun i hi e => by
    by_cases h2 : i = fi f k
    · exact absurd ((congrArg f h2).trans ((fi_eq f k).trans hq.symm)) e
    · omega
  rw [← hq]
  clear hq
  unfold lkv
  obtain ⟨R, hR⟩ : ∃ R, R = fi f k := ⟨_, rfl⟩
  rw [← hR]
  rw [← hR] at HLE HEQ HNE
  clear hR
  obtain ⟨W1, hW1⟩ : ∃ W, W = w.alloc (.cells #[.bool q.1, .int .i64 ((q.2.1 : Nat) : Int), .int .i64 ((q.2.2.1 : Nat) : Int), .int .i64 ((q.2.2.2 : Nat) : Int)] 96) := ⟨_, rfl⟩
  have hB1 : Below w.heap.size w W1 := by rw [hW1]; exact (Below.refl _ w).alloc (Nat.le_refl _) _
  have q0 : W1.cell? ⟨w.heap.size, 0, none⟩ = some (.bool q.1) := by rw [hW1]; go_simp
  have q1 : W1.cell? ⟨w.heap.size, 1, none⟩ = some (.int .i64 ((q.2.1 : Nat) : Int)) := by rw [hW1]; go_simp
  have q2 : W1.cell? ⟨w.heap.size, 2, none⟩ = some (.int .i64 ((q.2.2.1 : Nat) : Int)) := by rw [hW1]; go_simp
  have q3 : W1.cell? ⟨w.heap.size, 3, none⟩ = some (.int .i64 ((q.2.2.2 : Nat) : Int)) := by rw [hW1]; go_simp
  have hl1 : w.heap.size < W1.heap.size := by rw [hW1]; simp
  go_enter Try.func85, Try.ntmps85
  go_upto_region 1 with fail
  rw [← hW1]
  clear hW1
  go_wp2
  go_loopw [8] (fun vi wr => ∃ i : Nat, i ≤ k ∧ vi = .int .i64 (i : Int) ∧ Hid (i ≤ R) ∧ Hid (Below W1.heap.size W1 wr))
    (fun vi _ => k + 1 - (intOf vi).toNat)
  case atStart => exact ⟨0, by omega, rfl, Nat.zero_le _, Below.refl _ _⟩
  case round =>
    obtain ⟨i, hil, rfl, hix, hbw⟩ := hrel
    have hBr : Below w.heap.size w wr := hB1.trans (hbw.out.mono hB1.size)
    have q0r := (hbw.out.cell (p := ⟨w.heap.size, 0, none⟩) hl1).trans q0
    have q1r := (hbw.out.cell (p := ⟨w.heap.size, 1, none⟩) hl1).trans q1
    have q2r := (hbw.out.cell (p := ⟨w.heap.size, 2, none⟩) hl1).trans q2
    have q3r := (hbw.out.cell (p := ⟨w.heap.size, 3, none⟩) hl1).trans q3
    have hlr : w.heap.size < wr.heap.size := by have := hbw.out.size; omega
    clear q0 q1 q2 q3
    have hlt' : (i : Int) < ((k + 1 : Nat) : Int) := by omega
    have hlt2 : (i : Int) < (k : Int) + 1 := by omega
    obtain ⟨g, hap, hgl, _, k0, k1, k2, k3⟩ := HV.out.cells (i := i) (q := f i) (by rw [List.getElem?_map, List.getElem?_range (by omega)]; rfl)
    subst hap
    replace k0 := (hBr.cell (p := ⟨g, i * 4, none⟩) hgl).trans k0
    replace k1 := (hBr.cell (p := ⟨g, i * 4 + 1, none⟩) hgl).trans k1
    replace k2 := (hBr.cell (p := ⟨g, i * 4 + 2, none⟩) hgl).trans k2
    replace k3 := (hBr.cell (p := ⟨g, i * 4 + 3, none⟩) hgl).trans k3
    have HE := HEQ.out i hix.out
    have HN := HNE.out i hix.out
    have HEh : Hid (f i = q → R = i) := HE
    have HNh : Hid (f i ≠ q → i + 1 ≤ R) := HN
    have HL := leq_same (p := q) (q := f i)
    clear HE HN
    generalize f i = p at k0 k1 k2 k3 HEh HNh HL
    by_cases he : p = q
    · have hR : Hid (R = i) := HEh.out he
      have d : leq ((q.2.1 : Nat) : Int) ((q.2.2.1 : Nat) : Int) ((q.2.2.2 : Nat) : Int) q.1 ((p.2.1 : Nat) : Int) ((p.2.2.1 : Nat) : Int) ((p.2.2.2 : Nat) : Int) p.1 = true := by rw [HL, he]; simp
      clear HEh HNh he HL hix
      generalize q.1 = qa at q0r d
      generalize p.1 = pa at k0 d
      generalize q.2.1 = qb at q1r d
      generalize q.2.2.1 = qc at q2r d
      generalize q.2.2.2 = qd at q3r d
      generalize p.2.1 = pb at k1 d
      generalize p.2.2.1 = pc at k2 d
      generalize p.2.2.2 = pd at k3 d
      go_upto_region 4 with fail
      go_quiet (fail)
      go_wp2
      go_ret
      exact ⟨by rw [hR.out]; rfl, below_drewT hBr⟩
    · have hR : Hid (i + 1 ≤ R) := HNh.out he
      have d : leq ((q.2.1 : Nat) : Int) ((q.2.2.1 : Nat) : Int) ((q.2.2.2 : Nat) : Int) q.1 ((p.2.1 : Nat) : Int) ((p.2.2.1 : Nat) : Int) ((p.2.2.2 : Nat) : Int) p.1 = false := by rw [HL]; simpa using fun e => he e.symm
      clear HEh HNh he HL hix
      generalize q.1 = qa at q0r d
      generalize p.1 = pa at k0 d
      generalize q.2.1 = qb at q1r d
      generalize q.2.2.1 = qc at q2r d
      generalize q.2.2.2 = qd at q3r d
      generalize p.2.1 = pb at k1 d
      generalize p.2.2.1 = pc at k2 d
      generalize p.2.2.2 = pd at k3 d
      go_upto_region 4 with fail
      go_quiet (fail)
      go_wp2
      go_roundw
      case rel => exact ⟨i + 1, by have := HLE.out; have := hR.out; omega, by go_num, hR, below_drewT hbw.out⟩
      case measure => simp [intOf]; omega

end Go.Proofs.Ytecgjhnihagleaa
