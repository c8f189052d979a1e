/- The path of a type, and the type of a path: plain functions of a list of types. -/
import Derived.Test.YtjaklpibjijkkabFltB
namespace Go.Proofs.Ytjaklpibjijkkab.Sch
open Plain

/-- the names from the whole on, with a dot between -/
def path (T : List Ty) (k : Nat) : Option ByteArray :=
  if _h : 0 < k ∧ 0 ≤ (ty T k).up ∧ (ty T k).up < k then
    if (ty T (ty T k).up.toNat).kind = 5 then
      match path T (ty T k).up.toNat with
      | none => none
      | some p => some (if p.size = 0 then (ty T k).name else p ++ ⟨#[46]⟩ ++ (ty T k).name)
    else none
  else some ⟨#[]⟩
termination_by k
decreasing_by omega

theorem path_zero (T : List Ty) : path T 0 = some ⟨#[]⟩ := by rw [path, dif_neg (by omega)]

theorem path_list (T : List Ty) (k u : Nat) (h0 : 0 < k) (hu : (ty T k).up = (u : Int)) (huk : u < k) (h5 : (ty T u).kind ≠ 5) : path T k = none := by
  rw [path, dif_pos ⟨h0, by omega, by omega⟩, hu, Int.toNat_natCast, if_neg h5]

theorem path_none (T : List Ty) (k u : Nat) (h0 : 0 < k) (hu : (ty T k).up = (u : Int)) (huk : u < k) (h5 : (ty T u).kind = 5) (hp : path T u = none) : path T k = none := by
  rw [path, dif_pos ⟨h0, by omega, by omega⟩, hu, Int.toNat_natCast, if_pos h5, hp]

theorem path_some (T : List Ty) (k u : Nat) (h0 : 0 < k) (hu : (ty T k).up = (u : Int)) (huk : u < k) (h5 : (ty T u).kind = 5) (p : ByteArray) (hp : path T u = some p) :
    path T k = some (if p.size = 0 then (ty T k).name else p ++ ⟨#[46]⟩ ++ (ty T k).name) := by
  rw [path, dif_pos ⟨h0, by omega, by omega⟩, hu, Int.toNat_natCast, if_pos h5, hp]

/-- what a part of a good schema is in -/
theorem gs_up (T : List Ty) (h : gs T = true) (k : Nat) (h0 : 0 < k) (hk : k < T.length) : ∃ u : Nat, (ty T k).up = (u : Int) ∧ u < k ∧ ((ty T u).kind = 4 ∨ (ty T u).kind = 5) ∧ ((ty T u).kind = 5 → 1 ≤ (ty T k).name.size ∧ (ty T k).name.size ≤ 10) := by
  have hT := (gs_parts T h).2.2.1 k hk
  unfold typeOk partOk at hT
  rw [if_neg (by omega)] at hT
  simp only [Bool.and_eq_true, decide_eq_true_eq] at hT
  obtain ⟨_, ⟨⟨⟨a1, a2⟩, a3⟩, a4⟩, a5⟩ := hT
  refine ⟨(ty T k).up.toNat, by omega, by omega, ?_, fun h5 => ?_⟩
  · unfold holds at a3
    simpa using a3
  · rw [if_neg (by omega)] at a5
    simp only [Bool.and_eq_true] at a5
    have := a5.1.1.1
    unfold isName at this
    rw [decide_eq_true_eq] at this
    omega

theorem path_size (T : List Ty) (h : gs T = true) (k : Nat) (hk : k < T.length) : ∀ p, path T k = some p → p.size ≤ 11 * k ∧ (p.size = 0 ↔ k = 0) := by
  induction k using Nat.strongRecOn with
  | ind k ih =>
    intro p hp
    by_cases h0 : k = 0
    · subst h0
      rw [path_zero] at hp
      cases hp
      simp [ByteArray.size]
    · obtain ⟨u, hu, huk, hkind, hname⟩ := gs_up T h k (by omega) hk
      by_cases h5 : (ty T u).kind = 5
      · have hn := hname h5
        cases hq : path T u with
        | none => rw [path_none T k u (by omega) hu huk h5 hq] at hp; cases hp
        | some q =>
          rw [path_some T k u (by omega) hu huk h5 q hq] at hp
          cases hp
          have hi := ih u huk (by omega) q hq
          by_cases hq0 : q.size = 0
          · rw [if_pos hq0]; omega
          · rw [if_neg hq0]
            have e : (q ++ ⟨#[46]⟩ ++ (ty T k).name).size = q.size + 1 + (ty T k).name.size := by
              rw [ByteArray.size_append, ByteArray.size_append]; rfl
            rw [e]
            omega
      · rw [path_list T k u (by omega) hu huk h5] at hp; cases hp

/-- a path, or an empty text, and whether there is one -/
def po : Option ByteArray → ByteArray × Bool
  | none => (⟨#[]⟩, false)
  | some p => (p, true)

/-- what PathOf answers -/
def pof (T : List Ty) (k : Int) : ByteArray × Bool := if gs T = true ∧ 0 ≤ k ∧ k < T.length then po (path T k.toNat) else (⟨#[]⟩, false)

theorem pof_no (T : List Ty) (k : Int) (h : ¬ (gs T = true ∧ 0 ≤ k ∧ k < T.length)) : pof T k = (⟨#[]⟩, false) := by unfold pof; rw [if_neg h]
theorem pof_yes (T : List Ty) (k : Nat) (h : gs T = true) (h2 : k < T.length) : pof T (k : Int) = po (path T k) := by unfold pof; rw [if_pos ⟨h, by omega, by omega⟩, Int.toNat_natCast]

/-- what TypeAt answers: the first type with that path -/
def tat (T : List Ty) (p : ByteArray) : Nat × Bool :=
  if gs T = true then (match (List.range T.length).find? (fun k => decide (path T k = some p)) with | none => (0, false) | some k => (k, true)) else (0, false)

theorem tat_no (T : List Ty) (p : ByteArray) (h : gs T = false) : tat T p = (0, false) := by unfold tat; rw [if_neg (by simp [h])]

theorem tat_found (T : List Ty) (p : ByteArray) (h : gs T = true) (k : Nat) (hk : k < T.length) (hp : path T k = some p) (hall : ∀ j, j < k → path T j ≠ some p) : tat T p = (k, true) := by
  unfold tat
  rw [if_pos h]
  have : (List.range T.length).find? (fun k => decide (path T k = some p)) = some k := by
    rw [List.find?_range_eq_some]
    exact ⟨by simpa using hp, by simpa using hk, fun j hj => by simpa using hall j hj⟩
  rw [this]

theorem tat_none (T : List Ty) (p : ByteArray) (h : gs T = true) (hall : ∀ j, j < T.length → path T j ≠ some p) : tat T p = (0, false) := by
  unfold tat
  rw [if_pos h]
  have : (List.range T.length).find? (fun k => decide (path T k = some p)) = none := by
    rw [List.find?_eq_none]
    intro x hx
    simpa using hall x (by simpa using hx)
  rw [this]

end Go.Proofs.Ytjaklpibjijkkab.Sch
