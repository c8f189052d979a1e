/- A filter's program, in plain words. -/
import Derived.Test.YtpopjapcgcnnfaaPgA
namespace Go.Proofs.Ytpopjapcgcnnfaa.Prg
open Plain Sch Wan

def iSeek (no : Int) : Ins := ⟨1, 0, no, 0, ⟨#[]⟩, 0⟩
def iTest (k m : Int) (t : ByteArray) : Ins := ⟨2, k, 0, m, t, 0⟩
def iJump (m jt : Int) : Ins := ⟨3, 0, 0, m, ⟨#[]⟩, jt⟩
def iFlip : Ins := ⟨4, 0, 0, 0, ⟨#[]⟩, 0⟩
def iEnd : Ins := ⟨5, 0, 0, 0, ⟨#[]⟩, 0⟩

/-- the program of a want, put behind so many instructions -/
def cmp (T : List Wa) (k base : Nat) : List Ins :=
  if isAsk (wa T k).kind then [iSeek (wa T k).no, iTest (wa T k).kind (wa T k).num (wa T k).text]
  else if isNot (wa T k).kind then (if _h : (wa T k).a.toNat < k then cmp T (wa T k).a.toNat base ++ [iFlip] else [])
  else if _h : (wa T k).a.toNat < k ∧ (wa T k).b.toNat < k then
    cmp T (wa T k).a.toNat base ++ [iJump ((wa T k).kind - 6) (((base + (cmp T (wa T k).a.toNat base).length + 1 + (cmp T (wa T k).b.toNat (base + (cmp T (wa T k).a.toNat base).length + 1)).length : Nat)) : Int)] ++ cmp T (wa T k).b.toNat (base + (cmp T (wa T k).a.toNat base).length + 1)
  else []
termination_by k
decreasing_by all_goals omega

theorem cmp_ask {T : List Wa} {k base : Nat} (h : isAsk (wa T k).kind = true) : cmp T k base = [iSeek (wa T k).no, iTest (wa T k).kind (wa T k).num (wa T k).text] := by
  rw [cmp, if_pos h]

theorem cmp_not {T : List Wa} {k base : Nat} (h : isNot (wa T k).kind = true) (h1 : (wa T k).a.toNat < k) : cmp T k base = cmp T (wa T k).a.toNat base ++ [iFlip] := by
  rw [cmp, if_neg (by intro e; have := ask_bounds e; have := not_bounds h; omega), if_pos h, dif_pos h1]

theorem cmp_bin {T : List Wa} {k base : Nat} (h : isBin (wa T k).kind = true) (h1 : (wa T k).a.toNat < k) (h2 : (wa T k).b.toNat < k) :
    cmp T k base = cmp T (wa T k).a.toNat base ++ [iJump ((wa T k).kind - 6) (((base + (cmp T (wa T k).a.toNat base).length + 1 + (cmp T (wa T k).b.toNat (base + (cmp T (wa T k).a.toNat base).length + 1)).length : Nat)) : Int)] ++ cmp T (wa T k).b.toNat (base + (cmp T (wa T k).a.toNat base).length + 1) := by
  conv => lhs; rw [cmp]
  rw [if_neg (by intro e; have := ask_bounds e; have := bin_bounds h; omega), if_neg (by intro e; have := not_bounds e; have := bin_bounds h; omega), dif_pos ⟨h1, h2⟩]

theorem cmp_len (T : List Wa) : ∀ (k base : Nat), (cmp T k base).length + 1 ≤ 2 ^ (k + 2) := by
  intro k
  induction k using Nat.strongRecOn with
  | ind k ih =>
    intro base
    have hp : ∀ j, j < k → 2 ^ (j + 2) ≤ 2 ^ (k + 1) := fun j hj => Nat.pow_le_pow_right (by omega) (by omega)
    have h2 : 2 ^ (k + 2) = 2 ^ (k + 1) + 2 ^ (k + 1) := by rw [Nat.pow_succ]; omega
    have h4 : 4 ≤ 2 ^ (k + 2) := by have : 2 ^ 2 ≤ 2 ^ (k + 2) := Nat.pow_le_pow_right (by omega) (by omega); omega
    rw [cmp]
    split
    · simp; omega
    · split
      · split
        · rename_i h
          have := ih _ h base
          have := hp _ h
          simp; omega
        · simp; omega
      · split
        · rename_i h
          have e1 := ih _ h.1 base
          have e2 := ih _ h.2 (base + (cmp T (wa T k).a.toNat base).length + 1)
          have := hp _ h.1
          have := hp _ h.2
          simp; omega
        · simp; omega

theorem cmp_small (T : List Wa) (k base : Nat) (hk : k < 20) : (cmp T k base).length ≤ 2097151 := by
  have h1 := cmp_len T k base
  have h2 : 2 ^ (k + 2) ≤ 2 ^ 21 := Nat.pow_le_pow_right (by omega) (by omega)
  have : (2 : Nat) ^ 21 = 2097152 := by decide
  omega

theorem cmp_text (T : List Wa) (hT : ∀ k, k < T.length → (wa T k).text.size ≤ 30) : ∀ (k base : Nat), k < T.length → ∀ x ∈ cmp T k base, x.text.size ≤ 30 := by
  intro k
  induction k using Nat.strongRecOn with
  | ind k ih =>
    intro base hk x hx
    rw [cmp] at hx
    have z : (ByteArray.mk #[]).size ≤ 30 := by decide
    split at hx
    · simp at hx
      rcases hx with rfl | rfl
      · exact z
      · exact hT k hk
    · split at hx
      · split at hx
        · rename_i h
          rw [List.mem_append] at hx
          rcases hx with hx | hx
          · exact ih _ h base (by omega) x hx
          · simp at hx; subst hx; exact z
        · simp at hx
      · split at hx
        · rename_i h
          rw [List.mem_append, List.mem_append] at hx
          rcases hx with (hx | hx) | hx
          · exact ih _ h.1 base (by omega) x hx
          · simp at hx; subst hx; exact z
          · exact ih _ h.2 _ (by omega) x hx
        · simp at hx

def cpo (T : List Wa) : List Ins × Bool := if gf T then (cmp T (T.length - 1) 0 ++ [iEnd], true) else ([], false)

end Go.Proofs.Ytpopjapcgcnnfaa.Prg
