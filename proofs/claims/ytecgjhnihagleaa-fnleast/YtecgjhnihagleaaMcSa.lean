/- What SameLanguage tells, in plain words. -/
import Derived.Test.YtecgjhnihagleaaMcA
namespace Go.Proofs.Ytecgjhnihagleaa.Mch
open Plain

/-- the first pair whose states do not end alike -/
def fdl (l : List Pq) (E F : List Bool) : Nat := l.findIdx (fun p => en E p.a != en F p.b)

theorem fdl_at {l : List Pq} {E F : List Bool} {i : Nat} (h : i < l.length) (hi : i ≤ fdl l E F) (hd : (en E (pq l i).a != en F (pq l i).b) = true) : fdl l E F = i := by
  by_cases e : i = fdl l E F
  · exact e.symm
  · exfalso
    have h1 := List.not_of_lt_findIdx (p := fun p => en E p.a != en F p.b) (xs := l) (i := i) (by show i < fdl l E F; omega)
    have e2 : l[i] = pq l i := by have := pq_at h; rw [List.getElem?_eq_getElem h] at this; simpa using this
    rw [e2] at h1
    rw [hd] at h1
    cases h1
theorem fdl_past {l : List Pq} {E F : List Bool} {i : Nat} (h : i < l.length) (hi : i ≤ fdl l E F) (hd : (en E (pq l i).a != en F (pq l i).b) = false) : i + 1 ≤ fdl l E F := by
  by_cases e : i = fdl l E F
  · exfalso
    have h2 : fdl l E F < l.length := by omega
    have h1 : (fun p : Pq => en E p.a != en F p.b) (l[fdl l E F]) = true := List.findIdx_getElem (p := fun p : Pq => en E p.a != en F p.b) (xs := l) (w := h2)
    have e2 : l[fdl l E F] = pq l (fdl l E F) := by have := pq_at h2; rw [List.getElem?_eq_getElem h2] at this; simpa using this
    rw [e2, ← e] at h1
    dsimp only at h1
    rw [hd] at h1
    cases h1
  · omega

def fdx (A : List (List Int)) (E : List Bool) (B : List (List Int)) (F : List Bool) : Nat := fdl (prs A B) E F
def smb (A : List (List Int)) (E : List Bool) (B : List (List Int)) (F : List Bool) : Bool := (gm A E && gm B F) && decide (¬ fdx A E B F < (prs A B).length)
def smt (A : List (List Int)) (E : List Bool) (B : List (List Int)) (F : List Bool) : ByteArray := if (gm A E && gm B F) = true ∧ fdx A E B F < (prs A B).length then (pq (prs A B) (fdx A E B F)).s else ByteArray.empty

theorem fdx_at {A : List (List Int)} {E : List Bool} {B : List (List Int)} {F : List Bool} {i : Nat} (h : i < (prs A B).length) (hi : i ≤ fdx A E B F) (hd : (en E (pq (prs A B) i).a != en F (pq (prs A B) i).b) = true) : fdx A E B F = i := fdl_at h hi hd
theorem fdx_past {A : List (List Int)} {E : List Bool} {B : List (List Int)} {F : List Bool} {i : Nat} (h : i < (prs A B).length) (hi : i ≤ fdx A E B F) (hd : (en E (pq (prs A B) i).a != en F (pq (prs A B) i).b) = false) : i + 1 ≤ fdx A E B F := fdl_past h hi hd

end Go.Proofs.Ytecgjhnihagleaa.Mch
