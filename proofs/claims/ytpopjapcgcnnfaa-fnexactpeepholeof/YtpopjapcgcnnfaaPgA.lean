/- Programs as lists of instructions: what a good one is, in the program's words and in the model's. -/
import Derived.Laws.Bits128
import Derived.Test.YtpopjapcgcnnfaaPgO
namespace Go.Proofs.Ytpopjapcgcnnfaa.Prg
open Plain Sch Wan

structure Ins where
  code : Int
  kind : Int
  no : Int
  num : Int
  text : ByteArray
  dst : Int

instance : Inhabited Ins := ⟨⟨0, 0, 0, 0, ⟨#[]⟩, 0⟩⟩
instance : DecidableEq Ins := fun x y => decidable_of_iff (x.code = y.code ∧ x.kind = y.kind ∧ x.no = y.no ∧ x.num = y.num ∧ x.text = y.text ∧ x.dst = y.dst) (by cases x; cases y; simp)

def ins (T : List Ins) (i : Nat) : Ins := T.getD i default

/-- is an instruction good, at its place, the last one's being told -/
def okI (x : Ins) (i : Nat) (last : Int) : Bool :=
  if x.code = 1 then decide (1 ≤ x.no) && decide (x.no ≤ 30) && decide (x = ⟨x.code, 0, x.no, 0, ⟨#[]⟩, 0⟩)
  else if x.code = 2 then isAsk x.kind && askedOk (askN x.kind) (askT x.kind) x.num x.text && decide (x = ⟨x.code, x.kind, 0, x.num, x.text, 0⟩)
  else if x.code = 3 then (decide (x.num = 0) || decide (x.num = 1)) && decide ((i : Int) < x.dst) && decide (x.dst ≤ last) && decide (x = ⟨x.code, 0, 0, x.num, ⟨#[]⟩, x.dst⟩)
  else if x.code = 4 ∨ x.code = 5 then decide (x = ⟨x.code, 0, 0, 0, ⟨#[]⟩, 0⟩)
  else false

/-- is one of a program's instructions good -/
def okP (x : Ins) (i : Nat) (last : Int) : Bool := (decide (x.code = 5) == decide ((i : Int) = last)) && okI x i last

def gp (T : List Ins) : Bool := decide (1 ≤ T.length) && decide (T.length ≤ 60) && decide (∀ i, i < T.length → okP (ins T i) i ((T.length : Int) - 1) = true)

theorem gp_len {T : List Ins} (h : gp T = true) : 1 ≤ T.length ∧ T.length ≤ 60 := by
  simp only [gp, Bool.and_eq_true, decide_eq_true_eq] at h; exact ⟨h.1.1, h.1.2⟩
theorem gp_ok {T : List Ins} (h : gp T = true) : ∀ i, i < T.length → okP (ins T i) i ((T.length : Int) - 1) = true := by
  simp only [gp, Bool.and_eq_true, decide_eq_true_eq] at h; exact h.2
theorem gp_all {T : List Ins} (h1 : 1 ≤ T.length) (h2 : T.length ≤ 60) (h : ∀ i, i < T.length → okP (ins T i) i ((T.length : Int) - 1) = true) : gp T = true := by
  simp only [gp, Bool.and_eq_true, decide_eq_true_eq]; exact ⟨⟨h1, h2⟩, h⟩
theorem gp_bad {T : List Ins} {i : Nat} (hi : i < T.length) (h : okP (ins T i) i ((T.length : Int) - 1) = false) : gp T = false := by
  rw [Bool.eq_false_iff]
  intro hg
  rw [gp_ok hg i hi] at h
  cases h
theorem gp_none {T : List Ins} (h : T.length < 1) : gp T = false := by
  rw [Bool.eq_false_iff]; intro hg; have := gp_len hg; omega
theorem gp_many {T : List Ins} (h : 60 < T.length) : gp T = false := by
  rw [Bool.eq_false_iff]; intro hg; have := gp_len hg; omega

theorem okP_ok {x : Ins} {i : Nat} {last : Int} (h : okP x i last = true) : okI x i last = true := by
  simp only [okP, Bool.and_eq_true] at h; exact h.2
theorem okP_end {x : Ins} {i : Nat} {last : Int} (h : okP x i last = true) : x.code = 5 ↔ (i : Int) = last := by
  simp only [okP, Bool.and_eq_true, beq_iff_eq, decide_eq_decide] at h; exact h.1

/-- the model's words -/
def speI (x : Ins) (i n : Int) : Bool :=
  if nOk x.num = false then false
  else if ¬ x.text.size ≤ 30 then false
  else if x.code = 1 then decide (1 ≤ x.no ∧ x.no ≤ 30) && decide (x.kind = 0) && decide (x.num = 0) && decide (x.text = ⟨#[]⟩) && decide (x.dst = 0)
  else if x.code = 2 then decide (1 ≤ x.kind ∧ x.kind ≤ 5) && decide (x.no = 0) && decide (x.dst = 0) && (decide (x.kind ≤ 3) || decide (x.num = 0)) && (decide (x.kind = 5) || decide (x.text = ⟨#[]⟩))
  else if x.code = 3 then decide (x.no = 0) && decide (x.kind = 0) && decide (x.text = ⟨#[]⟩) && decide (0 ≤ x.num ∧ x.num ≤ 1) && decide (i < x.dst) && decide (x.dst < n)
  else if x.code = 4 ∨ x.code = 5 then decide (x.no = 0) && decide (x.kind = 0) && decide (x.text = ⟨#[]⟩) && decide (x.num = 0) && decide (x.dst = 0) && (decide (x.code = 4) == decide (i < n - 1))
  else false

theorem nOk_small {m : Int} (h : 0 ≤ m ∧ m ≤ 1) : nOk m = true := by simp only [nOk, Bool.and_eq_true, decide_eq_true_eq]; omega
theorem nil_size : (ByteArray.mk #[]).size = 0 := rfl

theorem speI_eq (x : Ins) (i n : Nat) (hi : i < n) : (speI x i n && !(decide ((i : Int) = n - 1) && decide (x.code ≠ 5))) = okP x i ((n : Int) - 1) := by
  obtain ⟨c, k, o, m, t, jt⟩ := x
  rw [Bool.eq_iff_iff]
  simp only [okP, okI, speI, askedOk, askN, askT, isAsk]
  by_cases c1 : c = 1
  · subst c1
    by_cases h1 : nOk m = true <;> by_cases h2 : t.size ≤ 30 <;> by_cases h3 : m = 0 <;> by_cases h4 : t = ⟨#[]⟩ <;> by_cases h5 : (i : Int) = n - 1 <;> simp_all [nOk_small, nil_size] <;> omega
  · by_cases c2 : c = 2
    · subst c2
      by_cases h1 : nOk m = true <;> by_cases h2 : t.size ≤ 30 <;> by_cases h3 : m = 0 <;> by_cases h4 : t = ⟨#[]⟩ <;> by_cases h5 : (i : Int) = n - 1 <;> by_cases h6 : k = 5 <;> by_cases h7 : k ≤ 3 <;> simp_all [nOk_small, nil_size] <;> omega
    · by_cases c3 : c = 3
      · subst c3
        by_cases h1 : nOk m = true <;> by_cases h2 : t.size ≤ 30 <;> by_cases h3 : 0 ≤ m ∧ m ≤ 1 <;> by_cases h4 : t = ⟨#[]⟩ <;> by_cases h5 : (i : Int) = n - 1 <;> simp_all [nOk_small, nil_size] <;> omega
      · by_cases c4 : c = 4
        · subst c4
          by_cases h1 : nOk m = true <;> by_cases h2 : t.size ≤ 30 <;> by_cases h3 : m = 0 <;> by_cases h4 : t = ⟨#[]⟩ <;> by_cases h5 : (i : Int) = n - 1 <;> simp_all [nOk_small, nil_size] <;> omega
        · by_cases c5 : c = 5
          · subst c5
            by_cases h1 : nOk m = true <;> by_cases h2 : t.size ≤ 30 <;> by_cases h3 : m = 0 <;> by_cases h4 : t = ⟨#[]⟩ <;> by_cases h5 : (i : Int) = n - 1 <;> simp_all [nOk_small, nil_size] <;> omega
          · simp [c1, c2, c3, c4, c5]

end Go.Proofs.Ytpopjapcgcnnfaa.Prg
