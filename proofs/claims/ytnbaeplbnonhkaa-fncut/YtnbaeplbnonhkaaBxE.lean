/- Two boxes in arrays compared; six stores. -/
import Derived.Test.YtnbaeplbnonhkaaBxM
import Derived.ChangeKeysEq
import Derived.Laws.StructEq
namespace Go.Proofs.Ytnbaeplbnonhkaa
open Go.RowKit Plain Sch Bxs

theorem Try.sideFields : Try.prog.underlying 58 = some (.struct (Try.prog.fieldsOf 58)) := by kernel_rfl

theorem Try.sideField2 : (Try.prog.fieldsOf 58).toList.map (fun f => (f.name, f.type, f.offset)) = [("Lo", 3, 0), ("Hi", 3, 1)] := by kernel_rfl

set_option maxHeartbeats 2000000 in
theorem equalIn_sd (s o : Sd) (W : World) : (Op.equalIn 9999 58 (.agg #[.int .i64 s.lo, .int .i64 s.hi]) (.agg #[.int .i64 o.lo, .int .i64 o.hi])).run Try.prog W = .ok (decide (s = o)) W := by
  rw [run_equalIn_agg W 9998 _ _ _ Try.sideFields (by kernel_rfl)]
  have hf := Try.sideField2
  obtain ⟨F, hF⟩ : ∃ F, F = (Try.prog.fieldsOf 58).toList := ⟨_, rfl⟩
  rw [← hF] at hf ⊢
  clear hF
  have hl : F.length = 2 := by simpa using congrArg List.length hf
  match F, hl with
  | [f0, f1], _ =>
    simp at hf
    obtain ⟨⟨n0, t0, o0⟩, ⟨n1, t1, o1⟩⟩ := hf
    have d0 : (s.lo == o.lo) = decide (s.lo = o.lo) := rfl
    have d1 : (s.hi == o.hi) = decide (s.hi = o.hi) := rfl
    have hd : decide (s = o) = (decide (s.lo = o.lo) && decide (s.hi = o.hi)) := by
      rw [← Bool.decide_and]
      exact decide_eq_decide.2 (by cases s; cases o; simp)
    rw [hd]
    cases h0 : decide (s.lo = o.lo) with
    | false => simp [Op.eqFields, n0, t0, o0, go_sem, part, d0, h0]
    | true => cases h1 : decide (s.hi = o.hi) <;> simp [Op.eqFields, n0, n1, t0, t1, o0, o1, go_sem, part, d0, d1, h0, h1]

theorem Try.boxArr : Try.prog.underlying 60 = some (.array 3 58) := by kernel_rfl

theorem part_0 (a0 a1 a2 a3 a4 a5 : Value) (W : World) : (part 58 #[a0, a1, a2, a3, a4, a5] 0).run Try.prog W = .ok (.agg #[a0, a1]) W := by kernel_rfl
theorem part_1 (a0 a1 a2 a3 a4 a5 : Value) (W : World) : (part 58 #[a0, a1, a2, a3, a4, a5] 2).run Try.prog W = .ok (.agg #[a2, a3]) W := by kernel_rfl
theorem part_2 (a0 a1 a2 a3 a4 a5 : Value) (W : World) : (part 58 #[a0, a1, a2, a3, a4, a5] 4).run Try.prog W = .ok (.agg #[a4, a5]) W := by kernel_rfl

theorem equalIn_bx (x y : Bx) (W : World) : (Op.equalIn 10000 60 x.val y.val).run Try.prog W = .ok (decide (x = y)) W := by
  obtain ⟨i0, hi, _⟩ : ∃ i0, Try.prog.info? 58 = some i0 ∧ True := by
    cases h : Try.prog.info? 58 with
    | none =>
      have hc : (Try.prog.info? 58).isSome = true := by kernel_rfl
      rw [h] at hc
      cases hc
    | some i => exact ⟨i, rfl, trivial⟩
  have hc : Try.prog.cellsOf 58 = 2 := by kernel_rfl
  unfold Bx.val
  rw [run_equalIn_array W 9999 _ _ Try.boxArr hi, hc]
  have hd : decide (x = y) = (decide (x.a = y.a) && (decide (x.b = y.b) && decide (x.c = y.c))) := by
    rw [← Bool.decide_and, ← Bool.decide_and]
    exact decide_eq_decide.2 (by cases x; cases y; simp)
  rw [hd]
  show (Op.eqItems 9999 58 2 _ _ [0, 1, 2]).run _ _ = _
  simp only [Op.eqItems, Sem.run_bind, part_0, Nat.reduceMul, Nat.zero_mul, Result.andThen_ok, equalIn_sd]
  cases h0 : decide (x.a = y.a) with
  | false => simp
  | true => cases h1 : decide (x.b = y.b) with
    | false => simp [Sem.run_bind, part_1, equalIn_sd, h1]
    | true => cases h2 : decide (x.c = y.c) <;> simp [Sem.run_bind, part_1, part_2, equalIn_sd, h1, h2]

/-- are two boxes alike -/
def beq9 (x y : Bx) : Bool := decide (x = y)

theorem eqlB (a0 a1 a2 a3 a4 a5 b0 b1 b2 b3 b4 b5 : Int) (W : World) : (binOp .eql 60 (.agg #[.int .i64 a0, .int .i64 a1, .int .i64 a2, .int .i64 a3, .int .i64 a4, .int .i64 a5]) (.agg #[.int .i64 b0, .int .i64 b1, .int .i64 b2, .int .i64 b3, .int .i64 b4, .int .i64 b5])).run Try.prog W = .ok (.bool (beq9 ⟨⟨a0, a1⟩, ⟨a2, a3⟩, ⟨a4, a5⟩⟩ ⟨⟨b0, b1⟩, ⟨b2, b3⟩, ⟨b4, b5⟩⟩)) W := by
  rw [run_eql_struct]
  have h := equalIn_bx ⟨⟨a0, a1⟩, ⟨a2, a3⟩, ⟨a4, a5⟩⟩ ⟨⟨b0, b1⟩, ⟨b2, b3⟩, ⟨b4, b5⟩⟩ W
  unfold Bx.val at h
  rw [h]
  rfl

theorem neqB (a0 a1 a2 a3 a4 a5 b0 b1 b2 b3 b4 b5 : Int) (W : World) : (binOp .neq 60 (.agg #[.int .i64 a0, .int .i64 a1, .int .i64 a2, .int .i64 a3, .int .i64 a4, .int .i64 a5]) (.agg #[.int .i64 b0, .int .i64 b1, .int .i64 b2, .int .i64 b3, .int .i64 b4, .int .i64 b5])).run Try.prog W = .ok (.bool (!beq9 ⟨⟨a0, a1⟩, ⟨a2, a3⟩, ⟨a4, a5⟩⟩ ⟨⟨b0, b1⟩, ⟨b2, b3⟩, ⟨b4, b5⟩⟩)) W := by
  rw [run_neq_struct]
  have h := equalIn_bx ⟨⟨a0, a1⟩, ⟨a2, a3⟩, ⟨a4, a5⟩⟩ ⟨⟨b0, b1⟩, ⟨b2, b3⟩, ⟨b4, b5⟩⟩ W
  unfold Bx.val at h
  rw [h]
  rfl

theorem below_six {B g : Nat} {a w : World} (h : Below B a w) (hg : B ≤ g) (o0 o1 o2 o3 o4 o5 : Nat) (u0 u1 u2 u3 u4 u5 : Value) :
    Below B a ((((((w.setCell ⟨g, o0, none⟩ u0).setCell ⟨g, o1, none⟩ u1).setCell ⟨g, o2, none⟩ u2).setCell ⟨g, o3, none⟩ u3).setCell ⟨g, o4, none⟩ u4).setCell ⟨g, o5, none⟩ u5) :=
  (((((h.setCell (p := ⟨g, o0, none⟩) hg _).setCell (p := ⟨g, o1, none⟩) hg _).setCell (p := ⟨g, o2, none⟩) hg _).setCell (p := ⟨g, o3, none⟩) hg _).setCell (p := ⟨g, o4, none⟩) hg _).setCell (p := ⟨g, o5, none⟩) hg _

end Go.Proofs.Ytnbaeplbnonhkaa
