/- How deep a filter is; wants that go behind others; the kinds of good wants. -/
import Derived.Test.YtecgjhnihagleaaWnA
namespace Go.Proofs.Ytecgjhnihagleaa.Wan
open Plain Sch

theorem kind_cases {w : Wa} {i : Nat} (h : okW w i = true) : isAsk w.kind = true ∨ isBin w.kind = true ∨ isNot w.kind = true := by
  unfold okW at h
  by_cases h1 : isAsk w.kind = true
  · exact .inl h1
  · by_cases h2 : isBin w.kind = true
    · exact .inr (.inl h2)
    · by_cases h3 : isNot w.kind = true
      · exact .inr (.inr h3)
      · rw [if_neg h1, if_neg h2, if_neg h3] at h; cases h

theorem ask_bounds {k : Int} (h : isAsk k = true) : 1 ≤ k ∧ k ≤ 5 := by simpa [isAsk] using h
theorem bin_bounds {k : Int} (h : isBin k = true) : k = 6 ∨ k = 7 := by simpa [isBin] using h
theorem not_bounds {k : Int} (h : isNot k = true) : k = 8 := by simpa [isNot] using h

theorem own_ask {w : Wa} (h : isAsk w.kind = true) : own w = [] := by
  have := ask_bounds h
  unfold own
  rw [if_neg (by intro e; have := bin_bounds e; omega), if_neg (by intro e; have := not_bounds e; omega)]
theorem own_bin {w : Wa} (h : isBin w.kind = true) : own w = [w.a, w.b] := by unfold own; rw [if_pos h]
theorem own_not {w : Wa} (h : isNot w.kind = true) : own w = [w.a] := by
  unfold own
  rw [if_neg (by intro e; have := bin_bounds e; have := not_bounds h; omega), if_pos h]

/-- what one want is deep, by those ahead -/
def depS (acc : List Int) (w : Wa) : Int := (own w).foldl (fun m x => max m (acc.getD x.toNat 0)) 0 + 1

def dp (T : List Wa) (k : Nat) : Int := (fld depS T).getD k 0
def dpo (T : List Wa) : Int × Bool := if gf T then (dp T (T.length - 1), true) else (0, false)

theorem fldD_get {s : List Int → Wa → Int} {T : List Wa} {k j : Nat} (hk : k ≤ T.length) (hj : j < k) : (fld s (T.take k)).getD j 0 = (fld s T).getD j 0 := by
  have h1 := fld_prefix s T k T.length hk (Nat.le_refl _) j hj
  rw [List.take_length] at h1
  simp only [List.getD, h1]

theorem dp_eq (T : List Wa) (k : Nat) (hk : k < T.length) : dp T k = depS (fld depS (T.take k)) (wa T k) := by
  unfold dp
  rw [List.getD, fld_get depS T k hk]
  rfl

theorem dp_ask {T : List Wa} {k : Nat} (hk : k < T.length) (h : isAsk (wa T k).kind = true) : dp T k = 1 := by
  rw [dp_eq T k hk, depS, own_ask h]; rfl

theorem dp_pos (T : List Wa) (k : Nat) (hk : k < T.length) : 1 ≤ dp T k := by
  rw [dp_eq T k hk, depS]
  have h : ∀ (l : List Int) (acc : List Int) (m : Int), 0 ≤ m → 0 ≤ l.foldl (fun m x => max m (acc.getD x.toNat 0)) m := by
    intro l acc
    induction l with
    | nil => intro m h; exact h
    | cons a l ih => intro m h; exact ih _ (by dsimp only; omega)
  have := h (own (wa T k)) (fld depS (T.take k)) 0 (by omega)
  omega

theorem dp_bin {T : List Wa} {k : Nat} (hg : gf T = true) (hk : k < T.length) (h : isBin (wa T k).kind = true) : dp T k = max (dp T (wa T k).a.toNat) (dp T (wa T k).b.toNat) + 1 := by
  have hx := gf_own hg k hk
  rw [own_bin h] at hx
  have ha := hx (wa T k).a (by simp)
  have hb := hx (wa T k).b (by simp)
  have pa := dp_pos T (wa T k).a.toNat (by omega)
  rw [dp_eq T k hk, depS, own_bin h]
  simp only [List.foldl]
  rw [fldD_get (by omega) (by omega), fldD_get (by omega) (by omega)]
  show max (max 0 (dp T _)) (dp T _) + 1 = _
  omega

theorem dp_not {T : List Wa} {k : Nat} (hg : gf T = true) (hk : k < T.length) (h : isNot (wa T k).kind = true) : dp T k = dp T (wa T k).a.toNat + 1 := by
  have hx := gf_own hg k hk
  rw [own_not h] at hx
  have ha := hx (wa T k).a (by simp)
  have pa := dp_pos T (wa T k).a.toNat (by omega)
  rw [dp_eq T k hk, depS, own_not h]
  simp only [List.foldl]
  rw [fldD_get (by omega) (by omega)]
  show max 0 (dp T _) + 1 = _
  omega

theorem dp_le {T : List Wa} (hg : gf T = true) : ∀ k, k < T.length → dp T k ≤ k + 1 := by
  intro k
  induction k using Nat.strongRecOn with
  | _ k ih =>
    intro hk
    rcases kind_cases (gf_ok hg k hk) with h | h | h
    · rw [dp_ask hk h]; omega
    · have hx := gf_own hg k hk
      rw [own_bin h] at hx
      have ha := hx (wa T k).a (by simp)
      have hb := hx (wa T k).b (by simp)
      rw [dp_bin hg hk h]
      have h1 := ih _ (show (wa T k).a.toNat < k by omega) (by omega)
      have h2 := ih _ (show (wa T k).b.toNat < k by omega) (by omega)
      omega
    · have hx := gf_own hg k hk
      rw [own_not h] at hx
      have ha := hx (wa T k).a (by simp)
      rw [dp_not hg hk h]
      have h1 := ih _ (show (wa T k).a.toNat < k by omega) (by omega)
      omega

/-- a want that goes n behind -/
def sh (n : Nat) (w : Wa) : Wa := if isBin w.kind then ⟨w.kind, w.no, w.num, w.text, w.a + n, w.b + n⟩ else if isNot w.kind then ⟨w.kind, w.no, w.num, w.text, w.a + n, w.b⟩ else w

theorem sh_zero (w : Wa) : sh 0 w = w := by
  unfold sh
  by_cases h1 : isBin w.kind = true
  · rw [if_pos h1]; simp
  · rw [if_neg h1]
    by_cases h2 : isNot w.kind = true
    · rw [if_pos h2]; simp
    · rw [if_neg h2]

theorem sh_zeros (T : List Wa) : T.map (sh 0) = T := by
  have : (sh 0) = id := funext sh_zero
  rw [this, List.map_id]

def notF (T : List Wa) : List Wa × Bool := if gf T && decide (T.length < 20) then (T ++ [⟨8, 0, 0, ⟨#[]⟩, (T.length : Int) - 1, 0⟩], true) else ([], false)
def bothF (T U : List Wa) : List Wa × Bool := if gf T && gf U && decide (T.length + U.length < 20) then (T ++ U.map (sh T.length) ++ [⟨6, 0, 0, ⟨#[]⟩, (T.length : Int) - 1, (T.length : Int) + U.length - 1⟩], true) else ([], false)

end Go.Proofs.Ytecgjhnihagleaa.Wan
