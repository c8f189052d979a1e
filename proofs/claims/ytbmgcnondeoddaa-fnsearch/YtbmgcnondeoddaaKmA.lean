/- Borders: the plain theory: how far a text is held, what falls back, all borders of a text. -/
import Derived.Test.YtbmgcnondeoddaaGa
namespace Go.Proofs.Ytbmgcnondeoddaa.Kmp
open Plain

/-- how much of p stands at the end once a byte is taken, from k on, by the borders B; f falls at most -/
def nxF (p : ByteArray) (B : List Nat) (b : Nat) : Nat → Nat → Nat
  | 0, _ => 0
  | f + 1, k => if bt p k = b then k + 1 else if k = 0 then 0 else nxF p B b f (B.getD (k - 1) 0)

/-- how often the byte is held against one of p's -/
def lkF (p : ByteArray) (B : List Nat) (b : Nat) : Nat → Nat → Nat
  | 0, _ => 0
  | f + 1, k => if bt p k = b then 1 else if k = 0 then 1 else lkF p B b f (B.getD (k - 1) 0) + 1

/-- each border is shorter than what it ends -/
def Sh (B : List Nat) : Prop := ∀ j, B.getD j 0 ≤ j

theorem nxF_fuel {p : ByteArray} {B : List Nat} (hB : Sh B) (b : Nat) : ∀ (f g k : Nat), k < f → k < g → nxF p B b f k = nxF p B b g k
  | 0, _, _, h, _ => by omega
  | _, 0, _, _, h => by omega
  | f + 1, g + 1, k, hf, hg => by
    rw [nxF, nxF]
    by_cases h1 : bt p k = b
    · rw [if_pos h1, if_pos h1]
    · rw [if_neg h1, if_neg h1]
      by_cases h2 : k = 0
      · rw [if_pos h2, if_pos h2]
      · rw [if_neg h2, if_neg h2]
        have := hB (k - 1)
        exact nxF_fuel hB b f g _ (by omega) (by omega)

theorem lkF_fuel {p : ByteArray} {B : List Nat} (hB : Sh B) (b : Nat) : ∀ (f g k : Nat), k < f → k < g → lkF p B b f k = lkF p B b g k
  | 0, _, _, h, _ => by omega
  | _, 0, _, _, h => by omega
  | f + 1, g + 1, k, hf, hg => by
    rw [lkF, lkF]
    by_cases h1 : bt p k = b
    · rw [if_pos h1, if_pos h1]
    · rw [if_neg h1, if_neg h1]
      by_cases h2 : k = 0
      · rw [if_pos h2, if_pos h2]
      · rw [if_neg h2, if_neg h2]
        have := hB (k - 1)
        rw [lkF_fuel hB b f g _ (by omega) (by omega)]

def nx (p : ByteArray) (B : List Nat) (b k : Nat) : Nat := nxF p B b (k + 1) k
def lk (p : ByteArray) (B : List Nat) (b k : Nat) : Nat := lkF p B b (k + 1) k

theorem nx_hit {p : ByteArray} (B : List Nat) {b k : Nat} (h : bt p k = b) : nx p B b k = k + 1 := by
  unfold nx; rw [nxF, if_pos h]
theorem nx_zero {p : ByteArray} (B : List Nat) {b : Nat} (h : bt p 0 ≠ b) : nx p B b 0 = 0 := by
  unfold nx; rw [nxF, if_neg h, if_pos rfl]
theorem nx_fall {p : ByteArray} {B : List Nat} (hB : Sh B) {b k : Nat} (h : bt p k ≠ b) (hk : 0 < k) : nx p B b k = nx p B b (B.getD (k - 1) 0) := by
  have := hB (k - 1)
  unfold nx
  rw [nxF, if_neg h, if_neg (by omega)]
  exact nxF_fuel hB b _ _ _ (by omega) (by omega)
theorem lk_hit {p : ByteArray} (B : List Nat) {b k : Nat} (h : bt p k = b) : lk p B b k = 1 := by
  unfold lk; rw [lkF, if_pos h]
theorem lk_zero {p : ByteArray} (B : List Nat) {b : Nat} (h : bt p 0 ≠ b) : lk p B b 0 = 1 := by
  unfold lk; rw [lkF, if_neg h, if_pos rfl]
theorem lk_fall {p : ByteArray} {B : List Nat} (hB : Sh B) {b k : Nat} (h : bt p k ≠ b) (hk : 0 < k) : lk p B b k = lk p B b (B.getD (k - 1) 0) + 1 := by
  have := hB (k - 1)
  unfold lk
  rw [lkF, if_neg h, if_neg (by omega), lkF_fuel hB b k (B.getD (k - 1) 0 + 1) _ (by omega) (by omega)]

theorem nx_le {p : ByteArray} {B : List Nat} (hB : Sh B) (b : Nat) : ∀ k, nx p B b k ≤ k + 1 := by
  intro k
  induction k using Nat.strongRecOn with
  | _ k ih =>
    by_cases h1 : bt p k = b
    · rw [nx_hit B h1]; exact Nat.le_refl _
    · by_cases h2 : k = 0
      · subst h2; rw [nx_zero B h1]; omega
      · have := hB (k - 1)
        rw [nx_fall hB h1 (by omega)]
        have := ih (B.getD (k - 1) 0) (by omega)
        omega

/-- looks and what is left are at most what was there and two -/
theorem lk_nx {p : ByteArray} {B : List Nat} (hB : Sh B) (b : Nat) : ∀ k, lk p B b k + nx p B b k ≤ k + 2 := by
  intro k
  induction k using Nat.strongRecOn with
  | _ k ih =>
    by_cases h1 : bt p k = b
    · rw [nx_hit B h1, lk_hit B h1]; omega
    · by_cases h2 : k = 0
      · subst h2; rw [nx_zero B h1, lk_zero B h1]; omega
      · have := hB (k - 1)
        rw [nx_fall hB h1 (by omega), lk_fall hB h1 (by omega)]
        have := ih (B.getD (k - 1) 0) (by omega)
        omega

theorem lk_le {p : ByteArray} {B : List Nat} (hB : Sh B) (b k : Nat) : lk p B b k ≤ k + 2 := by have := lk_nx (p := p) hB b k; omega

/-- the first n borders of p -/
def bors (p : ByteArray) : Nat → List Nat
  | 0 => []
  | 1 => [0]
  | n + 2 => bors p (n + 1) ++ [nx p (bors p (n + 1)) (bt p (n + 1)) ((bors p (n + 1)).getD n 0)]

theorem bors_len (p : ByteArray) : ∀ n, (bors p n).length = n
  | 0 => rfl
  | 1 => rfl
  | n + 2 => by rw [bors, List.length_append, bors_len p (n + 1)]; rfl

theorem getD_end (B : List Nat) (j : Nat) (h : B.length ≤ j) : B.getD j 0 = 0 := by
  rw [List.getD_eq_getElem?_getD, List.getElem?_eq_none h]; rfl

theorem getD_app (B : List Nat) (x j : Nat) : (B ++ [x]).getD j 0 = if j = B.length then x else B.getD j 0 := by
  rw [List.getD_eq_getElem?_getD, List.getD_eq_getElem?_getD]
  by_cases h : j < B.length
  · rw [List.getElem?_append_left h, if_neg (by omega)]
  · rw [List.getElem?_append_right (by omega)]
    by_cases h2 : j = B.length
    · rw [if_pos h2, h2]; simp
    · rw [if_neg h2, List.getElem?_eq_none (by simp; omega), List.getElem?_eq_none (by omega)]

theorem bors_sh (p : ByteArray) : ∀ n, Sh (bors p n)
  | 0 => fun j => by simp [bors]
  | 1 => fun j => by
    rcases j with _ | j
    · simp [bors]
    · simp [bors]
  | n + 2 => fun j => by
    have ih := bors_sh p (n + 1)
    rw [bors, getD_app]
    split
    · rename_i h
      rw [bors_len] at h
      have h1 := nx_le (p := p) ih (bt p (n + 1)) ((bors p (n + 1)).getD n 0)
      have h2 := ih n
      omega
    · exact ih j

/-- what was told stays -/
theorem bors_stay (p : ByteArray) : ∀ n m j, j < n → n ≤ m → (bors p m).getD j 0 = (bors p n).getD j 0 := by
  intro n m j hj hm
  induction m with
  | zero => omega
  | succ m ih =>
    by_cases h : n = m + 1
    · rw [h]
    · rw [← ih (by omega)]
      rcases m with _ | m
      · omega
      · rw [bors, getD_app, bors_len, if_neg (by omega)]

theorem nxF_alike {p : ByteArray} {B C : List Nat} (b : Nat) (m : Nat) (hs : Sh B) (h : ∀ j, j < m → B.getD j 0 = C.getD j 0) : ∀ f k, k ≤ m → nxF p B b f k = nxF p C b f k
  | 0, _, _ => rfl
  | f + 1, k, hk => by
    rw [nxF, nxF]
    by_cases h1 : bt p k = b
    · rw [if_pos h1, if_pos h1]
    · rw [if_neg h1, if_neg h1]
      by_cases h2 : k = 0
      · rw [if_pos h2, if_pos h2]
      · have := hs (k - 1)
        rw [if_neg h2, if_neg h2, ← h (k - 1) (by omega)]
        exact nxF_alike b m hs h f _ (by omega)

/-- each border out of the one ahead, by all of them -/
theorem bors_next (p : ByteArray) (n m : Nat) (hn : 0 < n) (hm : n < m) : (bors p m).getD n 0 = nx p (bors p m) (bt p n) ((bors p m).getD (n - 1) 0) := by
  obtain ⟨n, rfl⟩ : ∃ k, n = k + 1 := ⟨n - 1, by omega⟩
  rw [bors_stay p (n + 2) m (n + 1) (by omega) (by omega), bors_stay p (n + 1) m _ (by omega) (by omega)]
  rw [bors, getD_app, bors_len, if_pos rfl, Nat.add_sub_cancel]
  unfold nx
  have := bors_sh p (n + 1) n
  exact nxF_alike _ (n + 1) (bors_sh p _) (fun j hj => (bors_stay p (n + 1) m j hj (by omega)).symm) _ _ (by omega)

end Go.Proofs.Ytbmgcnondeoddaa.Kmp
