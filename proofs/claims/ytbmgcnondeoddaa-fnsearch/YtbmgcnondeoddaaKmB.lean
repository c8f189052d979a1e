/- What borders tell, and what a search by them finds: the plain theory of FnSearch. -/
import Derived.Test.YtbmgcnondeoddaaKmA
namespace Go.Proofs.Ytbmgcnondeoddaa.Kmp
open Plain

/-- the first k bytes of p stand at the end of the first i of a text -/
def En (p : ByteArray) (t : Nat → Nat) (i k : Nat) : Prop := k ≤ i ∧ ∀ j, j < k → bt p j = t (i - k + j)

/-- p behind its first byte -/
def sh (p : ByteArray) (j : Nat) : Nat := bt p (j + 1)

theorem En.zero (p : ByteArray) (t : Nat → Nat) (i : Nat) : En p t i 0 := ⟨Nat.zero_le _, fun j h => by omega⟩

theorem En.step {p : ByteArray} {t : Nat → Nat} {i m : Nat} : En p t (i + 1) (m + 1) ↔ En p t i m ∧ bt p m = t i := by
  constructor
  · rintro ⟨h1, h2⟩
    refine ⟨⟨by omega, fun j hj => ?_⟩, ?_⟩
    · have := h2 j (by omega)
      rwa [show i + 1 - (m + 1) + j = i - m + j by omega] at this
    · have := h2 m (by omega)
      rwa [show i + 1 - (m + 1) + m = i by omega] at this
  · rintro ⟨⟨h1, h2⟩, h3⟩
    refine ⟨by omega, fun j hj => ?_⟩
    by_cases h : j = m
    · subst h
      rw [show i + 1 - (j + 1) + j = i by omega]
      exact h3
    · rw [show i + 1 - (m + 1) + j = i - m + j by omega]
      exact h2 j (by omega)

theorem En.fall {p : ByteArray} {t : Nat → Nat} {i k m : Nat} (h : En p t i k) (hm : m < k) : En p t i m ↔ En p (sh p) (k - 1) m := by
  obtain ⟨hk, hE⟩ := h
  have key : ∀ j, j < m → sh p (k - 1 - m + j) = t (i - m + j) := fun j hj => by
    unfold sh
    rw [show k - 1 - m + j + 1 = k - m + j by omega, hE (k - m + j) (by omega), show i - k + (k - m + j) = i - m + j by omega]
  constructor
  · rintro ⟨h1, h2⟩
    exact ⟨by omega, fun j hj => by rw [h2 j hj, key j hj]⟩
  · rintro ⟨h1, h2⟩
    exact ⟨by omega, fun j hj => by rw [h2 j hj, key j hj]⟩

/-- the first n borders are the longest ones -/
def Gb (p : ByteArray) (B : List Nat) (n : Nat) : Prop := ∀ k, 0 < k → k ≤ n → En p (sh p) (k - 1) (B.getD (k - 1) 0) ∧ ∀ m, B.getD (k - 1) 0 < m → m < k → ¬ En p (sh p) (k - 1) m

theorem nx_tells {p : ByteArray} {B : List Nat} (hB : Sh B) {n : Nat} (hG : Gb p B n) (t : Nat → Nat) (i M : Nat) : ∀ k, k ≤ n → k ≤ M → En p t i k → (∀ m, k < m → m ≤ M → En p t i m → bt p m ≠ t i) →
    En p t (i + 1) (nx p B (t i) k) ∧ ∀ m, nx p B (t i) k < m → m ≤ M + 1 → ¬ En p t (i + 1) m := by
  intro k
  induction k using Nat.strongRecOn with
  | _ k ih =>
    intro hkn hkM hE hmax
    by_cases h1 : bt p k = t i
    · rw [nx_hit B h1]
      refine ⟨En.step.2 ⟨hE, h1⟩, fun m hm hM hEm => ?_⟩
      obtain ⟨m, rfl⟩ : ∃ q, m = q + 1 := ⟨m - 1, by omega⟩
      obtain ⟨e1, e2⟩ := En.step.1 hEm
      exact hmax m (by omega) (by omega) e1 e2
    · by_cases h2 : k = 0
      · subst h2
        rw [nx_zero B h1]
        refine ⟨En.zero _ _ _, fun m hm hM hEm => ?_⟩
        obtain ⟨m, rfl⟩ : ∃ q, m = q + 1 := ⟨m - 1, by omega⟩
        obtain ⟨e1, e2⟩ := En.step.1 hEm
        by_cases h0 : m = 0
        · subst h0; exact h1 e2
        · exact hmax m (by omega) (by omega) e1 e2
      · have hs := hB (k - 1)
        rw [nx_fall hB h1 (by omega)]
        obtain ⟨g1, g2⟩ := hG k (by omega) hkn
        refine ih _ (by omega) (by omega) (by omega) ((En.fall hE (by omega)).2 g1) (fun m hm hM hEm => ?_)
        by_cases hmk : m < k
        · exact absurd ((En.fall hE hmk).1 hEm) (g2 m hm hmk)
        · by_cases hme : m = k
          · subst hme; exact h1
          · exact hmax m (by omega) hM hEm

theorem bors_good (p : ByteArray) : ∀ n, Gb p (bors p n) n
  | 0 => fun k h1 h2 => by omega
  | 1 => fun k h1 h2 => by
    obtain rfl : k = 1 := by omega
    refine ⟨En.zero _ _ _, fun m hm hk => ?_⟩
    simp [bors] at hm
    omega
  | n + 2 => fun k h1 h2 => by
    have ih := bors_good p (n + 1)
    by_cases hk : k ≤ n + 1
    · rw [bors_stay p (n + 1) (n + 2) (k - 1) (by omega) (by omega)]
      exact ih k h1 hk
    · obtain rfl : k = n + 2 := by omega
      rw [show n + 2 - 1 = n + 1 by omega, bors, getD_app, bors_len, if_pos rfl]
      have hs := bors_sh p (n + 1)
      obtain ⟨g1, g2⟩ := ih (n + 1) (by omega) (by omega)
      rw [Nat.add_sub_cancel] at g1 g2
      have hsn := hs n
      have := nx_tells hs ih (sh p) n n _ (by omega) (by omega) g1 (fun m hm hM hEm => absurd hEm (g2 m hm (by omega)))
      refine ⟨this.1, fun m hm hk => this.2 m hm (by omega)⟩

/-- a search at work: how much of p stands there, the looks, the places -/
def st (p s : ByteArray) (B : List Nat) : Nat → Nat × Nat × List Nat
  | 0 => (0, 0, [])
  | i + 1 =>
    if nx p B (bt s i) (st p s B i).1 = p.size then (B.getD (p.size - 1) 0, (st p s B i).2.1 + lk p B (bt s i) (st p s B i).1, (st p s B i).2.2 ++ [i + 1 - p.size])
    else (nx p B (bt s i) (st p s B i).1, (st p s B i).2.1 + lk p B (bt s i) (st p s B i).1, (st p s B i).2.2)

theorem st_lt (p s : ByteArray) {B : List Nat} (hB : Sh B) (hp : 0 < p.size) : ∀ i, (st p s B i).1 < p.size
  | 0 => hp
  | i + 1 => by
    have ih := st_lt p s hB hp i
    have h1 := nx_le (p := p) hB (bt s i) (st p s B i).1
    have h2 := hB (p.size - 1)
    rw [st]
    split
    · dsimp only; omega
    · dsimp only; omega

theorem st_len (p s : ByteArray) (B : List Nat) : ∀ i, (st p s B i).2.2.length ≤ i
  | 0 => Nat.le_refl _
  | i + 1 => by
    have ih := st_len p s B i
    rw [st]
    split
    · dsimp only; rw [List.length_append, List.length_singleton]; omega
    · dsimp only; omega

theorem st_looks (p s : ByteArray) {B : List Nat} (hB : Sh B) (hp : 0 < p.size) : ∀ i, (st p s B i).2.1 + (st p s B i).1 ≤ 2 * i
  | 0 => Nat.le_refl _
  | i + 1 => by
    have ih := st_looks p s hB hp i
    have h1 := lk_nx (p := p) hB (bt s i) (st p s B i).1
    have h2 := hB (p.size - 1)
    rw [st]
    split
    · dsimp only; omega
    · dsimp only; omega

/-- p stands at x of the first i bytes of s -/
def Stands (p s : ByteArray) (i x : Nat) : Prop := x + p.size ≤ i ∧ ∀ j, j < p.size → bt p j = bt s (x + j)

theorem st_tells (p s : ByteArray) (hp : 0 < p.size) : ∀ i, En p (bt s) i (st p s (bors p p.size) i).1 ∧ (∀ m, (st p s (bors p p.size) i).1 < m → m < p.size → ¬ En p (bt s) i m) ∧
    ∀ x, x ∈ (st p s (bors p p.size) i).2.2 ↔ Stands p s i x
  | 0 => ⟨En.zero _ _ _, fun m h1 h2 hE => by have : (0 : Nat) < m := h1; have := hE.1; omega, fun x => by constructor; (intro h; exact absurd h (by simp [st])); (rintro ⟨h, _⟩; omega)⟩
  | i + 1 => by
    obtain ⟨e1, e2, e3⟩ := st_tells p s hp i
    have hs := bors_sh p p.size
    have hlt := st_lt p s hs hp i
    obtain ⟨n1, n2⟩ := nx_tells hs (bors_good p p.size) (bt s) i (p.size - 1) _ (by omega) (by omega) e1 (fun m hm hM hEm => absurd hEm (e2 m hm (by omega)))
    have hnl := nx_le (p := p) hs (bt s i) (st p s (bors p p.size) i).1
    generalize hK : nx p (bors p p.size) (bt s i) (st p s (bors p p.size) i).1 = K at *
    -- a place that ends just here
    have here : ∀ x, Stands p s (i + 1) x ↔ Stands p s i x ∨ (x = i + 1 - p.size ∧ En p (bt s) (i + 1) p.size) := by
      intro x
      constructor
      · rintro ⟨h1, h2⟩
        by_cases h : x + p.size ≤ i
        · exact .inl ⟨h, h2⟩
        · obtain rfl : x = i + 1 - p.size := by omega
          exact .inr ⟨rfl, by omega, h2⟩
      · rintro (⟨h1, h2⟩ | ⟨rfl, h1, h2⟩)
        · exact ⟨by omega, h2⟩
        · exact ⟨by omega, h2⟩
    rw [st, hK]
    by_cases hf : K = p.size
    · rw [if_pos hf]
      subst hf
      obtain ⟨g1, g2⟩ := bors_good p p.size p.size hp (Nat.le_refl _)
      have hb := hs (p.size - 1)
      refine ⟨(En.fall n1 (by omega)).2 g1, fun m hm hmp hEm => g2 m hm hmp ((En.fall n1 hmp).1 hEm), fun x => ?_⟩
      rw [List.mem_append, List.mem_singleton, here x, e3 x]
      constructor
      · rintro (h | rfl)
        · exact .inl h
        · exact .inr ⟨rfl, n1⟩
      · rintro (h | ⟨rfl, _⟩)
        · exact .inl h
        · exact .inr rfl
    · rw [if_neg hf]
      refine ⟨n1, fun m hm hmp => n2 m hm (by omega), fun x => ?_⟩
      rw [here x, e3 x]
      constructor
      · exact .inl
      · rintro (h | ⟨_, hE⟩)
        · exact h
        · exact absurd hE (n2 p.size (by omega) (by omega))

/-- a period: each byte is the one so many places ahead -/
theorem period (s : ByteArray) (hs : 0 < s.size) (i : Nat) (h1 : s.size - (bors s s.size).getD (s.size - 1) 0 ≤ i) (h2 : i < s.size) :
    bt s i = bt s (i - (s.size - (bors s s.size).getD (s.size - 1) 0)) := by
  have hb := bors_sh s s.size (s.size - 1)
  obtain ⟨⟨_, g1⟩, _⟩ := bors_good s s.size s.size hs (Nat.le_refl _)
  generalize (bors s s.size).getD (s.size - 1) 0 = B at *
  have := g1 (i - (s.size - B)) (by omega)
  unfold sh at this
  rw [this]
  congr 1
  omega

end Go.Proofs.Ytbmgcnondeoddaa.Kmp
