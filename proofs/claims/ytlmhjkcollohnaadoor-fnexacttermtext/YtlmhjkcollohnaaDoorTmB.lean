/- The program's looks at cells and terms. -/
import Derived.Test.YtlmhjkcollohnaaDoorTmM
import Derived.Test.YtlmhjkcollohnaaDoorGb
import Derived.Deep.RegionWith
import Derived.Laws.StructEq
namespace Go.Proofs.YtlmhjkcollohnaaDoor
open Go.RowKit Plain Sch Trm

set_option maxRecDepth 100000 in
set_option maxHeartbeats 1000000 in
theorem variable_any (v : Int) (w : World) :
    Calls Tryd.prog 58 #[.int .i64 v] w fun e w' => e = .returned (.agg #[.int .i64 v, .string ⟨#[]⟩, .int .i64 0]) ∧ Below w.heap.size w w' := by
  go_enter Tryd.func58, Tryd.ntmps58
  go_wp2
  (try simp only [Exit.inBlock, Exit.then])
  refine bodyPost_ret (v := .agg #[.int .i64 v, .string ⟨#[]⟩, .int .i64 0]) ?_ rfl ⟨rfl, ?_⟩
  · have rc : ∀ (tmps : Array Value) (P : Program) (w : World), (results Tryd.f58 tmps).run P w = ((asAddr (tmps.getD 2 undef)).run P w).andThen fun a w₁ => (loadVar 97 a).run P w₁ := fun tmps P w => by
      have h : Tryd.f58.results = #[.cell 2 97] := rfl
      simp only [results, h]
      simp [Sem.run_bind, Result.andThen]
    rw [rc]
    go_simp
  · repeat' (first | exact Below.refl _ _ | refine Below.alloc ?_ (by simp <;> omega) _ | refine Below.setCell ?_ (by simp <;> omega) _)

instance : DecidableEq Ce := fun a b => decidable_of_iff (a.var = b.var ∧ a.name = b.name ∧ a.many = b.many) (by cases a; cases b; simp)

theorem Tryd.cellFields : Tryd.prog.underlying 97 = some (.struct (Tryd.prog.fieldsOf 97)) := by kernel_rfl

theorem Tryd.cellField3 : (Tryd.prog.fieldsOf 97).toList.map (fun f => (f.name, f.type, f.offset)) = [("Var", 3, 0), ("Name", 9, 1), ("Many", 3, 2)] := by kernel_rfl

/-- two cells compared -/
theorem eqlCe (a b : Ce) (W : World) : (binOp .eql 97 (.agg #[.int .i64 a.var, .string a.name, .int .i64 a.many]) (.agg #[.int .i64 b.var, .string b.name, .int .i64 b.many])).run Tryd.prog W = .ok (.bool (decide (a = b))) W := by
  rw [run_eql_struct, run_equalIn_agg W 9999 _ _ _ Tryd.cellFields (by kernel_rfl)]
  have hf := Tryd.cellField3
  obtain ⟨F, hF⟩ : ∃ F, F = (Tryd.prog.fieldsOf 97).toList := ⟨_, rfl⟩
  rw [← hF] at hf ⊢
  clear hF
  have hl : F.length = 3 := by simpa using congrArg List.length hf
  match F, hl with
  | [f0, f1, f2], _ =>
    simp at hf
    obtain ⟨⟨n0, t0, o0⟩, ⟨n1, t1, o1⟩, ⟨n2, t2, o2⟩⟩ := hf
    have d0 : (a.var == b.var) = decide (a.var = b.var) := rfl
    have d2 : (a.many == b.many) = decide (a.many = b.many) := rfl
    have d1 : (a.name.toList == b.name.toList) = decide (a.name = b.name) := by
      by_cases h : a.name = b.name
      · simp [h]
      · rw [str_neB h]; simp [h]
    have hd : decide (a = b) = (decide (a.var = b.var) && (decide (a.name = b.name) && decide (a.many = b.many))) := by
      rw [← Bool.decide_and, ← Bool.decide_and]
      exact decide_eq_decide.2 (by cases a; cases b; simp)
    rw [hd]
    cases h0 : decide (a.var = b.var) <;> cases h1 : decide (a.name = b.name) <;> cases h2 : decide (a.many = b.many) <;>
      simp [Op.eqFields, n0, n1, n2, t0, t1, t2, o0, o1, o2, go_sem, part, d0, d1, d2, h0, h1, h2]

/-- are two cells alike -/
def ceq (v : Int) (n : ByteArray) (m : Int) (v' : Int) (n' : ByteArray) (m' : Int) : Bool := decide ((⟨v, n, m⟩ : Ce) = ⟨v', n', m'⟩)

theorem ceq_eq (a b : Ce) : ceq a.var a.name a.many b.var b.name b.many = decide (a = b) := rfl

theorem eqlC (v : Int) (n : ByteArray) (m : Int) (v' : Int) (n' : ByteArray) (m' : Int) (W : World) : (binOp .eql 97 (.agg #[.int .i64 v, .string n, .int .i64 m]) (.agg #[.int .i64 v', .string n', .int .i64 m'])).run Tryd.prog W = .ok (.bool (ceq v n m v' n' m')) W := eqlCe ⟨v, n, m⟩ ⟨v', n', m'⟩ W

theorem neqC (v : Int) (n : ByteArray) (m : Int) (v' : Int) (n' : ByteArray) (m' : Int) (W : World) : (binOp .neq 97 (.agg #[.int .i64 v, .string n, .int .i64 m]) (.agg #[.int .i64 v', .string n', .int .i64 m'])).run Tryd.prog W = .ok (.bool (!ceq v n m v' n' m')) W := by
  have h := eqlC v n m v' n' m' W
  rw [run_eql_struct] at h
  rw [run_neq_struct]
  generalize (Op.equalIn 10000 97 (.agg #[.int .i64 v, .string n, .int .i64 m]) (.agg #[.int .i64 v', .string n', .int .i64 m'])).run Tryd.prog W = r at h
  cases r with
  | ok b w' => simp [Result.andThen] at h; obtain ⟨rfl, rfl⟩ := h; rfl
  | halt x w' => simp [Result.andThen] at h

end Go.Proofs.YtlmhjkcollohnaaDoor
