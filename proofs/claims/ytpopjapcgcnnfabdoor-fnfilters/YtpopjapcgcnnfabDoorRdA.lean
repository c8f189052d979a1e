/- What ReadFields finds, as a function of the bytes. -/
import Derived.Test.YtpopjapcgcnnfabDoorFldA
import Derived.Test.YtpopjapcgcnnfabDoorGa
namespace Go.Proofs.YtpopjapcgcnnfabDoor
open Go.RowKit Plain

/-- the number that was folded -/
def unf (a : Int) : Int := if a % 2 = 0 then a / 2 else -((a + 1) / 2)

/-- one field at a place, and the place behind it -/
def rf1 (s : ByteArray) (a : Nat) : Option (Fld × Nat) :=
  if (tk s a 5 0 0).2.2 = true then
    if (tk s (tk s a 5 0 0).2.1.toNat 5 0 0).2.2 = true then
      if (tk s a 5 0 0).1 % 8 = 0 then
        if 1 ≤ (tk s a 5 0 0).1 / 8 ∧ (tk s a 5 0 0).1 / 8 ≤ 30 ∧ (tk s (tk s a 5 0 0).2.1.toNat 5 0 0).1 ≤ 2000000000 then
          some (⟨(tk s a 5 0 0).1 / 8, 0, unf (tk s (tk s a 5 0 0).2.1.toNat 5 0 0).1, ⟨#[]⟩⟩, (tk s (tk s a 5 0 0).2.1.toNat 5 0 0).2.1.toNat)
        else none
      else if (tk s a 5 0 0).1 % 8 = 2 ∧ 1 ≤ (tk s a 5 0 0).1 / 8 ∧ (tk s a 5 0 0).1 / 8 ≤ 30 ∧ (tk s (tk s a 5 0 0).2.1.toNat 5 0 0).1 ≤ (s.size : Int) - (tk s (tk s a 5 0 0).2.1.toNat 5 0 0).2.1 then
        some (⟨(tk s a 5 0 0).1 / 8, 2, 0, s.extract (tk s (tk s a 5 0 0).2.1.toNat 5 0 0).2.1.toNat ((tk s (tk s a 5 0 0).2.1.toNat 5 0 0).2.1 + (tk s (tk s a 5 0 0).2.1.toNat 5 0 0).1).toNat⟩, ((tk s (tk s a 5 0 0).2.1.toNat 5 0 0).2.1 + (tk s (tk s a 5 0 0).2.1.toNat 5 0 0).1).toNat)
      else none
    else none
  else none

/-- the fields from a place on -/
def rfs (s : ByteArray) : Nat → Nat → List Fld → List Fld × Bool
  | 0, _, _ => ([], false)
  | f + 1, a, acc =>
    if a < s.size then
      match rf1 s a with
      | none => ([], false)
      | some (x, b) => if acc.length = 40 then ([], false) else rfs s f b (acc ++ [x])
    else (acc, true)

def rf (s : ByteArray) : List Fld × Bool := if s.size ≤ 400 then rfs s (s.size + 1) 0 [] else ([], false)

/-- what is found lies behind the place, within the text, and is within bounds -/
theorem tk_place (s : ByteArray) (a : Nat) : ∀ (f k n : Nat), (tk s a f k n).2.2 = true → 0 ≤ (tk s a f k n).1 ∧ (tk s a f k n).1 ≤ 2000000001 ∧ (a : Int) + k < (tk s a f k n).2.1 ∧ (tk s a f k n).2.1 ≤ s.size := by
  intro f
  induction f with
  | zero => intro k n h; simp [tk] at h
  | succ f ih =>
    intro k n h
    by_cases h1 : a + k < s.size
    · by_cases h2 : bt s (a + k) < 128
      · by_cases h3 : (0 < k ∧ bt s (a + k) = 0) ∨ 2000000001 < n + bt s (a + k) % 128 * 128 ^ k
        · rw [tk_bad s a f k n h1 h2 h3] at h; simp at h
        · rw [tk_good s a f k n h1 h2 h3]
          have : ¬ 2000000001 < n + bt s (a + k) % 128 * 128 ^ k := fun e => h3 (.inr e)
          dsimp only
          omega
      · rw [tk_more s a f k n h1 (by omega)] at h ⊢
        have := ih _ _ h
        omega
    · rw [tk_out s a _ k n h1] at h; simp at h

theorem rfs_out (s : ByteArray) (f a : Nat) (acc : List Fld) (h : ¬ a < s.size) : rfs s (f + 1) a acc = (acc, true) := by
  rw [rfs, if_neg h]

theorem rfs_none (s : ByteArray) (f a : Nat) (acc : List Fld) (h : a < s.size) (h1 : rf1 s a = none) : rfs s (f + 1) a acc = ([], false) := by
  rw [rfs, if_pos h, h1]

theorem rfs_full (s : ByteArray) (f a b : Nat) (x : Fld) (acc : List Fld) (h : a < s.size) (h1 : rf1 s a = some (x, b)) (h2 : acc.length = 40) : rfs s (f + 1) a acc = ([], false) := by
  rw [rfs, if_pos h, h1]; dsimp only; rw [if_pos h2]

theorem rfs_more (s : ByteArray) (f a b : Nat) (x : Fld) (acc : List Fld) (h : a < s.size) (h1 : rf1 s a = some (x, b)) (h2 : acc.length ≠ 40) : rfs s (f + 1) a acc = rfs s f b (acc ++ [x]) := by
  rw [rfs, if_pos h, h1]; dsimp only; rw [if_neg h2]

section
variable (s : ByteArray) (a : Nat) (tag nx n en : Int)

theorem rf1_no1 (h : (tk s a 5 0 0).2.2 = false) : rf1 s a = none := by unfold rf1; rw [if_neg (by simp [h])]
theorem rf1_no2 (h : tk s a 5 0 0 = (tag, nx, true)) (h2 : (tk s nx.toNat 5 0 0).2.2 = false) : rf1 s a = none := by
  unfold rf1; rw [h]; dsimp only; rw [if_pos rfl, if_neg (by simp [h2])]
theorem rf1_num (h : tk s a 5 0 0 = (tag, nx, true)) (h2 : tk s nx.toNat 5 0 0 = (n, en, true)) (h3 : tag % 8 = 0) (h4 : 1 ≤ tag / 8 ∧ tag / 8 ≤ 30 ∧ n ≤ 2000000000) :
    rf1 s a = some (⟨tag / 8, 0, unf n, ⟨#[]⟩⟩, en.toNat) := by
  unfold rf1; rw [h]; dsimp only; rw [h2]; dsimp only; rw [if_pos rfl, if_pos rfl, if_pos h3, if_pos h4]
theorem rf1_nonum (h : tk s a 5 0 0 = (tag, nx, true)) (h2 : tk s nx.toNat 5 0 0 = (n, en, true)) (h3 : tag % 8 = 0) (h4 : ¬ (1 ≤ tag / 8 ∧ tag / 8 ≤ 30 ∧ n ≤ 2000000000)) :
    rf1 s a = none := by
  unfold rf1; rw [h]; dsimp only; rw [h2]; dsimp only; rw [if_pos rfl, if_pos rfl, if_pos h3, if_neg h4]
theorem rf1_data (h : tk s a 5 0 0 = (tag, nx, true)) (h2 : tk s nx.toNat 5 0 0 = (n, en, true)) (h4 : tag % 8 = 2 ∧ 1 ≤ tag / 8 ∧ tag / 8 ≤ 30 ∧ n ≤ (s.size : Int) - en) :
    rf1 s a = some (⟨tag / 8, 2, 0, s.extract en.toNat (en + n).toNat⟩, (en + n).toNat) := by
  unfold rf1; rw [h]; dsimp only; rw [h2]; dsimp only; rw [if_pos rfl, if_pos rfl, if_neg (by omega), if_pos h4]
theorem rf1_nodata (h : tk s a 5 0 0 = (tag, nx, true)) (h2 : tk s nx.toNat 5 0 0 = (n, en, true)) (h3 : tag % 8 ≠ 0) (h4 : ¬ (tag % 8 = 2 ∧ 1 ≤ tag / 8 ∧ tag / 8 ≤ 30 ∧ n ≤ (s.size : Int) - en)) :
    rf1 s a = none := by
  unfold rf1; rw [h]; dsimp only; rw [h2]; dsimp only; rw [if_pos rfl, if_pos rfl, if_neg h3, if_neg h4]
/-- a tag that no field has: whatever follows -/
theorem rf1_tag (h : tk s a 5 0 0 = (tag, nx, true)) (h3 : ¬ ((tag % 8 = 0 ∨ tag % 8 = 2) ∧ 1 ≤ tag / 8 ∧ tag / 8 ≤ 30)) : rf1 s a = none := by
  by_cases h2 : (tk s nx.toNat 5 0 0).2.2 = true
  · obtain ⟨⟨n, en, b⟩, he⟩ : ∃ r, tk s nx.toNat 5 0 0 = r := ⟨_, rfl⟩
    rw [he] at h2
    dsimp only at h2
    subst h2
    by_cases h0 : tag % 8 = 0
    · exact rf1_nonum s a tag nx n en h he h0 (fun k => h3 ⟨.inl h0, k.1, k.2.1⟩)
    · exact rf1_nodata s a tag nx n en h he h0 (fun k => h3 ⟨.inr k.1, k.2.1, k.2.2.1⟩)
  · exact rf1_no2 s a tag nx h (by simpa using h2)
end

end Go.Proofs.YtpopjapcgcnnfabDoor
