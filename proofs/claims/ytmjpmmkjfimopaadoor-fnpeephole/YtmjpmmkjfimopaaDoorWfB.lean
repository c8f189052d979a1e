/- The program's looks at one want: alike or not, whom it asks, whether a want that asks a field is good. -/
import Derived.Test.YtmjpmmkjfimopaaDoorWfA
import Derived.Laws.StructEq
import Derived.Great.BuildSlice
namespace Go.Proofs.YtmjpmmkjfimopaaDoor
open Go.RowKit Plain Sch Wan

theorem Tryd.wantFields : Tryd.prog.underlying 66 = some (.struct (Tryd.prog.fieldsOf 66)) := by kernel_rfl

theorem Tryd.wantField6 : (Tryd.prog.fieldsOf 66).toList.map (fun f => (f.name, f.type, f.offset)) = [("Kind", 3, 0), ("No", 3, 1), ("Num", 3, 2), ("Text", 9, 3), ("A", 3, 4), ("B", 3, 5)] := by kernel_rfl

set_option maxHeartbeats 2000000 in
/-- two wants compared -/
theorem eqlWa (x y : Wa) (W : World) : (binOp .eql 66 (.agg #[.int .i64 x.kind, .int .i64 x.no, .int .i64 x.num, .string x.text, .int .i64 x.a, .int .i64 x.b]) (.agg #[.int .i64 y.kind, .int .i64 y.no, .int .i64 y.num, .string y.text, .int .i64 y.a, .int .i64 y.b])).run Tryd.prog W = .ok (.bool (decide (x = y))) W := by
  rw [run_eql_struct, run_equalIn_agg W 9999 _ _ _ Tryd.wantFields (by kernel_rfl)]
  have hf := Tryd.wantField6
  obtain ⟨F, hF⟩ : ∃ F, F = (Tryd.prog.fieldsOf 66).toList := ⟨_, rfl⟩
  rw [← hF] at hf ⊢
  clear hF
  have hl : F.length = 6 := by simpa using congrArg List.length hf
  match F, hl with
  | [f0, f1, f2, f3, f4, f5], _ =>
    simp at hf
    obtain ⟨⟨n0, t0, o0⟩, ⟨n1, t1, o1⟩, ⟨n2, t2, o2⟩, ⟨n3, t3, o3⟩, ⟨n4, t4, o4⟩, ⟨n5, t5, o5⟩⟩ := hf
    have d0 : (x.kind == y.kind) = decide (x.kind = y.kind) := rfl
    have d1 : (x.no == y.no) = decide (x.no = y.no) := rfl
    have d2 : (x.num == y.num) = decide (x.num = y.num) := rfl
    have d4 : (x.a == y.a) = decide (x.a = y.a) := rfl
    have d5 : (x.b == y.b) = decide (x.b = y.b) := rfl
    have d3 : (x.text.toList == y.text.toList) = decide (x.text = y.text) := by
      by_cases h : x.text = y.text
      · simp [h]
      · rw [str_neB h]; simp [h]
    have hd : decide (x = y) = (decide (x.kind = y.kind) && (decide (x.no = y.no) && (decide (x.num = y.num) && (decide (x.text = y.text) && (decide (x.a = y.a) && decide (x.b = y.b)))))) := by
      rw [← Bool.decide_and, ← Bool.decide_and, ← Bool.decide_and, ← Bool.decide_and, ← Bool.decide_and]
      exact decide_eq_decide.2 (by cases x; cases y; simp)
    rw [hd]
    cases h0 : decide (x.kind = y.kind) with
    | false => simp [Op.eqFields, n0, t0, o0, go_sem, part, d0, h0]
    | true =>
      cases h1 : decide (x.no = y.no) with
      | false => simp [Op.eqFields, n0, n1, t0, t1, o0, o1, go_sem, part, d0, d1, h0, h1]
      | true =>
        cases h2 : decide (x.num = y.num) with
        | false => simp [Op.eqFields, n0, n1, n2, t0, t1, t2, o0, o1, o2, go_sem, part, d0, d1, d2, h0, h1, h2]
        | true =>
          cases h3 : decide (x.text = y.text) with
          | false => simp [Op.eqFields, n0, n1, n2, n3, t0, t1, t2, t3, o0, o1, o2, o3, go_sem, part, d0, d1, d2, d3, h0, h1, h2, h3]
          | true =>
            cases h4 : decide (x.a = y.a) <;> cases h5 : decide (x.b = y.b) <;>
              simp [Op.eqFields, n0, n1, n2, n3, n4, n5, t0, t1, t2, t3, t4, t5, o0, o1, o2, o3, o4, o5, go_sem, part, d0, d1, d2, d3, d4, d5, h0, h1, h2, h3, h4, h5]

/-- are two wants alike -/
def weq (x y : Wa) : Bool := decide (x = y)

theorem eqlW (k n m : Int) (t : ByteArray) (a b k' n' m' : Int) (t' : ByteArray) (a' b' : Int) (W : World) : (binOp .eql 66 (.agg #[.int .i64 k, .int .i64 n, .int .i64 m, .string t, .int .i64 a, .int .i64 b]) (.agg #[.int .i64 k', .int .i64 n', .int .i64 m', .string t', .int .i64 a', .int .i64 b'])).run Tryd.prog W = .ok (.bool (weq ⟨k, n, m, t, a, b⟩ ⟨k', n', m', t', a', b'⟩)) W := eqlWa ⟨k, n, m, t, a, b⟩ ⟨k', n', m', t', a', b'⟩ W

attribute [local go_sem] storeJ storeF
attribute [local go_sem ↓] eqlW

set_option maxRecDepth 100000 in
set_option maxHeartbeats 1000000 in
theorem goodNumber_w (n : Int) (w : World) : Calls Tryd.prog 89 #[.int .i64 n] w fun e w' => e = .returned (.bool (nOk n)) ∧ w' = w := by
  by_cases h1 : -1000000000 ≤ n
  · by_cases h2 : n ≤ 1000000000
    · have hd : nOk n = true := by unfold nOk; simp [h1, h2]
      rw [hd]
      clear hd
      go_enter Tryd.func89, Tryd.ntmps89
      go_wp2
      go_ret
      exact ⟨rfl, rfl⟩
    · have hd : nOk n = false := by unfold nOk; simp [h2]
      have h2' : decide (n ≤ 1000000000) = false := by simpa using h2
      rw [hd]
      clear hd h2
      go_enter Tryd.func89, Tryd.ntmps89
      go_wp2
      go_ret
      exact ⟨rfl, rfl⟩
  · have hd : nOk n = false := by unfold nOk; simp [h1]
    have h1' : decide (-1000000000 ≤ n) = false := by simpa using h1
    rw [hd]
    clear hd h1
    go_enter Tryd.func89, Tryd.ntmps89
    go_wp2
    go_ret
    exact ⟨rfl, rfl⟩

set_option maxRecDepth 100000 in
set_option maxHeartbeats 2000000 in
theorem ownWants_any (x : Wa) (w : World) :
    Calls Tryd.prog 46 #[.agg #[.int .i64 x.kind, .int .i64 x.no, .int .i64 x.num, .string x.text, .int .i64 x.a, .int .i64 x.b]] w fun e w' => ∃ v, e = .returned v ∧ ZAt w' w'.heap.size v (own x) ∧ (∀ g o c, v = .slice (some ⟨g, o, none⟩) (own x).length c → w.heap.size ≤ g) ∧ Below w.heap.size w w' := by
  obtain ⟨k, n, m, t, a, b⟩ := x
  have hB1 : ∀ o, Below w.heap.size w (w.alloc o) := fun o => (Below.refl _ w).alloc (Nat.le_refl _) o
  dsimp only
  unfold own
  dsimp only
  by_cases hb : isBin k = true
  · rw [if_pos hb]
    have hj : isJoin k = true := by unfold isJoin; rw [hb]; rfl
    go_enter Tryd.func46, Tryd.ntmps46
    go_wp2_with fail
    refine (wantJoinOf_any k _).mono ?_
    rintro e w1 ⟨rfl, hb1⟩
    have hB2 : Below w.heap.size w w1 := (hB1 _).trans (hb1.mono (by simp))
    have hs1 : w.heap.size < w1.heap.size := by have := hb1.size; simp at this; omega
    have c4 : w1.cell? ⟨w.heap.size, 4, none⟩ = some (.int .i64 a) := (hb1.cell (p := ⟨w.heap.size, 4, none⟩) (by simp)).trans (by simp)
    have c5 : w1.cell? ⟨w.heap.size, 5, none⟩ = some (.int .i64 b) := (hb1.cell (p := ⟨w.heap.size, 5, none⟩) (by simp)).trans (by simp)
    clear hb1
    rw [hb, hj]
    clear hb hj
    go_wp2
    go_ret
    refine ⟨_, rfl, ⟨_, _, rfl, by simp, by unfold maxLen; omega, ?_⟩, fun g o c h => by simp at h; omega, ?_⟩
    · intro i y hi
      match i with
      | 0 => simp at hi; subst hi; exact ⟨_, 0, rfl, by simp, by go_simp⟩
      | 1 => simp at hi; subst hi; exact ⟨_, 0, rfl, by simp, by go_simp⟩
      | i + 2 => simp at hi
    · repeat' (first | exact hB2 | refine Below.alloc ?_ (by first | omega | (simp; omega) | simp) _ | refine Below.setCell ?_ (by first | omega | (simp; omega) | simp) _)
  · have hb' : isBin k = false := by simpa using hb
    rw [if_neg hb]
    by_cases hn : isNot k = true
    · rw [if_pos hn]
      have hj : isJoin k = true := by unfold isJoin; rw [hb', hn]; rfl
      go_enter Tryd.func46, Tryd.ntmps46
      go_wp2_with fail
      refine (wantJoinOf_any k _).mono ?_
      rintro e w1 ⟨rfl, hb1⟩
      have hB2 : Below w.heap.size w w1 := (hB1 _).trans (hb1.mono (by simp))
      have hs1 : w.heap.size < w1.heap.size := by have := hb1.size; simp at this; omega
      have c4 : w1.cell? ⟨w.heap.size, 4, none⟩ = some (.int .i64 a) := (hb1.cell (p := ⟨w.heap.size, 4, none⟩) (by simp)).trans (by simp)
      clear hb1
      rw [hb', hj]
      clear hb hb' hj hn
      go_wp2
      go_ret
      refine ⟨_, rfl, ⟨_, _, rfl, by simp, by unfold maxLen; omega, ?_⟩, fun g o c h => by simp at h; omega, ?_⟩
      · intro i y hi
        match i with
        | 0 => simp at hi; subst hi; exact ⟨_, 0, rfl, by simp, by go_simp⟩
        | i + 1 => simp at hi
      · repeat' (first | exact hB2 | refine Below.alloc ?_ (by first | omega | (simp; omega) | simp) _ | refine Below.setCell ?_ (by first | omega | (simp; omega) | simp) _)
    · have hn' : isNot k = false := by simpa using hn
      rw [if_neg hn]
      have hj : isJoin k = false := by unfold isJoin; rw [hb', hn']; rfl
      go_enter Tryd.func46, Tryd.ntmps46
      go_wp2_with fail
      refine (wantJoinOf_any k _).mono ?_
      rintro e w1 ⟨rfl, hb1⟩
      have hB2 : Below w.heap.size w w1 := (hB1 _).trans (hb1.mono (by simp))
      have hs1 : w.heap.size < w1.heap.size := by have := hb1.size; simp at this; omega
      clear hb1
      rw [hb', hj]
      clear hb hb' hj hn hn'
      go_wp2
      go_ret
      refine ⟨_, rfl, ⟨none, 0, rfl, by simp, by unfold maxLen; omega, ?_⟩, fun g o c h => by simp at h, ?_⟩
      · intro i y hi; simp at hi
      · repeat' (first | exact hB2 | refine Below.alloc ?_ (by first | omega | (simp; omega) | simp) _ | refine Below.setCell ?_ (by first | omega | (simp; omega) | simp) _)

end Go.Proofs.YtmjpmmkjfimopaaDoor
