/- Two instructions compared. -/
import Derived.Test.YtmjpmmkjfimopaaDoorHe
import Derived.Laws.StructEq
namespace Go.Proofs.YtmjpmmkjfimopaaDoor
open Go.RowKit Plain Sch Prg

theorem Tryd.insFields : Tryd.prog.underlying 59 = some (.struct (Tryd.prog.fieldsOf 59)) := by kernel_rfl

theorem Tryd.insField6 : (Tryd.prog.fieldsOf 59).toList.map (fun f => (f.name, f.type, f.offset)) = [("Code", 3, 0), ("Kind", 3, 1), ("No", 3, 2), ("Num", 3, 3), ("Text", 9, 4), ("To", 3, 5)] := by kernel_rfl

set_option maxHeartbeats 2000000 in
/-- two instructions compared -/
theorem eqlIns (x y : Ins) (W : World) : (binOp .eql 59 (.agg #[.int .i64 x.code, .int .i64 x.kind, .int .i64 x.no, .int .i64 x.num, .string x.text, .int .i64 x.dst]) (.agg #[.int .i64 y.code, .int .i64 y.kind, .int .i64 y.no, .int .i64 y.num, .string y.text, .int .i64 y.dst])).run Tryd.prog W = .ok (.bool (decide (x = y))) W := by
  rw [run_eql_struct, run_equalIn_agg W 9999 _ _ _ Tryd.insFields (by kernel_rfl)]
  have hf := Tryd.insField6
  obtain ⟨F, hF⟩ : ∃ F, F = (Tryd.prog.fieldsOf 59).toList := ⟨_, rfl⟩
  rw [← hF] at hf ⊢
  clear hF
  have hl : F.length = 6 := by simpa using congrArg List.length hf
  match F, hl with
  | [f0, f1, f2, f3, f4, f5], _ =>
    simp at hf
    obtain ⟨⟨n0, t0, o0⟩, ⟨n1, t1, o1⟩, ⟨n2, t2, o2⟩, ⟨n3, t3, o3⟩, ⟨n4, t4, o4⟩, ⟨n5, t5, o5⟩⟩ := hf
    have d0 : (x.code == y.code) = decide (x.code = y.code) := rfl
    have d1 : (x.kind == y.kind) = decide (x.kind = y.kind) := rfl
    have d2 : (x.no == y.no) = decide (x.no = y.no) := rfl
    have d3 : (x.num == y.num) = decide (x.num = y.num) := rfl
    have d5 : (x.dst == y.dst) = decide (x.dst = y.dst) := rfl
    have d4 : (x.text.toList == y.text.toList) = decide (x.text = y.text) := by
      by_cases h : x.text = y.text
      · simp [h]
      · rw [str_neB h]; simp [h]
    have hd : decide (x = y) = (decide (x.code = y.code) && (decide (x.kind = y.kind) && (decide (x.no = y.no) && (decide (x.num = y.num) && (decide (x.text = y.text) && decide (x.dst = y.dst)))))) := by
      rw [← Bool.decide_and, ← Bool.decide_and, ← Bool.decide_and, ← Bool.decide_and, ← Bool.decide_and]
      exact decide_eq_decide.2 (by cases x; cases y; simp)
    rw [hd]
    cases h0 : decide (x.code = y.code) with
    | false => simp [Op.eqFields, n0, t0, o0, go_sem, part, d0, h0]
    | true =>
      cases h1 : decide (x.kind = y.kind) with
      | false => simp [Op.eqFields, n0, n1, t0, t1, o0, o1, go_sem, part, d0, d1, h0, h1]
      | true =>
        cases h2 : decide (x.no = y.no) with
        | false => simp [Op.eqFields, n0, n1, n2, t0, t1, t2, o0, o1, o2, go_sem, part, d0, d1, d2, h0, h1, h2]
        | true =>
          cases h3 : decide (x.num = y.num) with
          | false => simp [Op.eqFields, n0, n1, n2, n3, t0, t1, t2, t3, o0, o1, o2, o3, go_sem, part, d0, d1, d2, d3, h0, h1, h2, h3]
          | true =>
            cases h4 : decide (x.text = y.text) <;> cases h5 : decide (x.dst = y.dst) <;>
              simp [Op.eqFields, n0, n1, n2, n3, n4, n5, t0, t1, t2, t3, t4, t5, o0, o1, o2, o3, o4, o5, go_sem, part, d0, d1, d2, d3, d4, d5, h0, h1, h2, h3, h4, h5]

/-- are two instructions alike -/
def ieq (x y : Ins) : Bool := decide (x = y)

theorem eqlI (c k n m : Int) (t : ByteArray) (a c' k' n' m' : Int) (t' : ByteArray) (a' : Int) (W : World) : (binOp .eql 59 (.agg #[.int .i64 c, .int .i64 k, .int .i64 n, .int .i64 m, .string t, .int .i64 a]) (.agg #[.int .i64 c', .int .i64 k', .int .i64 n', .int .i64 m', .string t', .int .i64 a'])).run Tryd.prog W = .ok (.bool (ieq ⟨c, k, n, m, t, a⟩ ⟨c', k', n', m', t', a'⟩)) W := eqlIns ⟨c, k, n, m, t, a⟩ ⟨c', k', n', m', t', a'⟩ W

end Go.Proofs.YtmjpmmkjfimopaaDoor
