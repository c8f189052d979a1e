/- Logs that prove, in plain words: sums, roots, what is proved and checked. -/
import Derived.Test.YtlglngmlaknmlaaGa
namespace Go.Proofs.Ytlglngmlaknmlaa.Lgs
open Plain

def md : Nat := 1000003

/-- the sum of the first i bytes -/
def lfN (s : ByteArray) : Nat → Nat
  | 0 => 7
  | i + 1 => (263 * lfN s i + bt s i + 1) % 1000003
def leaf (s : ByteArray) : Nat := lfN s s.size
def node (a b : Nat) : Nat := (131 * a + 17 * b + 11) % 1000003

theorem lfN_lt (s : ByteArray) : ∀ i, lfN s i < 1000003
  | 0 => by show 7 < 1000003; omega
  | i + 1 => Nat.mod_lt _ (by omega)
theorem leaf_lt (s : ByteArray) : leaf s < 1000003 := lfN_lt s _
theorem node_lt (a b : Nat) : node a b < 1000003 := Nat.mod_lt _ (by omega)
theorem node_left {a a' b : Nat} (h : a < 1000003) (h' : a' < 1000003) (e : node a b = node a' b) : a = a' := by
  unfold node at e
  omega
theorem node_right {a b b' : Nat} (h : b < 1000003) (h' : b' < 1000003) (e : node a b = node a b') : b = b' := by
  unfold node at e
  omega

/-- the greatest power of 2 below n, from k on -/
def splF : Nat → Nat → Nat → Nat
  | 0, k, _ => k
  | f + 1, k, n => if 2 * k < n then splF f (2 * k) n else k
def spl (n : Nat) : Nat := splF 6 1 n

theorem spl_all : ∀ n, n < 41 → 2 ≤ n → 1 ≤ spl n ∧ spl n < n ∧ n ≤ 2 * spl n := by decide
theorem spl_pos {n : Nat} (h : 2 ≤ n) (h2 : n ≤ 40) : 1 ≤ spl n ∧ spl n < n ∧ n ≤ 2 * spl n := spl_all n (by omega) h

/-- the root, so many levels deep -/
def rootF : Nat → List ByteArray → Nat
  | 0, _ => 1
  | f + 1, l => if l.length = 0 then 1 else if l.length = 1 then leaf (l.getD 0 ByteArray.empty) else node (rootF f (l.take (spl l.length))) (rootF f (l.drop (spl l.length)))
def root (l : List ByteArray) : Nat := rootF 41 l

theorem rootF_lt (f : Nat) (l : List ByteArray) : rootF f l < 1000003 := by
  cases f with
  | zero => show 1 < 1000003; omega
  | succ f =>
    unfold rootF
    split
    · omega
    · split
      · exact leaf_lt _
      · exact node_lt _ _
theorem root_lt (l : List ByteArray) : root l < 1000003 := rootF_lt _ _

/-- deep enough is deep enough -/
theorem rootF_deep : ∀ (f g : Nat) (l : List ByteArray), l.length < f → l.length < g → l.length ≤ 40 → rootF f l = rootF g l
  | 0, _, _, h, _, _ => by omega
  | _ + 1, 0, _, _, h, _ => by omega
  | f + 1, g + 1, l, hf, hg, h40 => by
    unfold rootF
    by_cases h0 : l.length = 0
    · rw [if_pos h0, if_pos h0]
    · by_cases h1 : l.length = 1
      · rw [if_neg h0, if_neg h0, if_pos h1, if_pos h1]
      · obtain ⟨s1, s2, s3⟩ := spl_pos (n := l.length) (by omega) h40
        rw [if_neg h0, if_neg h0, if_neg h1, if_neg h1]
        rw [rootF_deep f g (l.take (spl l.length)) (by rw [List.length_take]; omega) (by rw [List.length_take]; omega) (by rw [List.length_take]; omega)]
        rw [rootF_deep f g (l.drop (spl l.length)) (by rw [List.length_drop]; omega) (by rw [List.length_drop]; omega) (by rw [List.length_drop]; omega)]
theorem rootF_root {f : Nat} {l : List ByteArray} (h : l.length < f) (h40 : l.length ≤ 40) : rootF f l = root l := rootF_deep f 41 l h (by omega) h40

theorem root_none : root [] = 1 := rfl
theorem root_one {l : List ByteArray} (h : l.length = 1) : root l = leaf (l.getD 0 ByteArray.empty) := by
  unfold root rootF
  rw [if_neg (by omega), if_pos h]
theorem root_split {l : List ByteArray} (h : 2 ≤ l.length) (h40 : l.length ≤ 40) : root l = node (root (l.take (spl l.length))) (root (l.drop (spl l.length))) := by
  obtain ⟨s1, s2, s3⟩ := spl_pos h h40
  have e : root l = node (rootF 40 (l.take (spl l.length))) (rootF 40 (l.drop (spl l.length))) := by
    show rootF (40 + 1) l = _
    rw [rootF, if_neg (by omega), if_neg (by omega)]
  rw [e, rootF_root (by rw [List.length_take]; omega) (by rw [List.length_take]; omega), rootF_root (by rw [List.length_drop]; omega) (by rw [List.length_drop]; omega)]

/-- the sums that prove a text to be in, from the leaf up -/
def inF : Nat → List ByteArray → Nat → List Nat
  | 0, _, _ => []
  | f + 1, l, k => if l.length ≤ 1 then [] else if k < spl l.length then inF f (l.take (spl l.length)) k ++ [root (l.drop (spl l.length))] else inF f (l.drop (spl l.length)) (k - spl l.length) ++ [root (l.take (spl l.length))]
/-- what a leaf's sum and sums make -/
def upF : Nat → Nat → Nat → Nat → List Nat → Nat × Bool
  | 0, _, _, x, p => (x, decide (p.length = 0))
  | f + 1, n, k, x, p => if n ≤ 1 then (x, decide (p.length = 0)) else if p.length = 0 then (0, false) else if k < spl n then (node (upF f (spl n) k x p.dropLast).1 (p.getD (p.length - 1) 0), (upF f (spl n) k x p.dropLast).2) else (node (p.getD (p.length - 1) 0) (upF f (n - spl n) (k - spl n) x p.dropLast).1, (upF f (n - spl n) (k - spl n) x p.dropLast).2)

theorem last_snoc (p : List Nat) (x : Nat) : (p ++ [x]).length ≠ 0 ∧ (p ++ [x]).dropLast = p ∧ (p ++ [x]).getD ((p ++ [x]).length - 1) 0 = x := by
  refine ⟨by simp, by simp, ?_⟩
  rw [List.length_append, List.length_singleton, Nat.add_sub_cancel, List.getD, List.getElem?_append_right (Nat.le_refl _)]
  simp

/-- a proof that a text is in holds -/
theorem up_in : ∀ (f : Nat) (l : List ByteArray) (k : Nat), l.length < f → l.length ≤ 40 → k < l.length → upF f l.length k (leaf (l.getD k ByteArray.empty)) (inF f l k) = (root l, true)
  | 0, l, _, h, _, _ => by omega
  | f + 1, l, k, hf, h40, hk => by
    unfold inF upF
    by_cases h1 : l.length ≤ 1
    · have hk0 : k = 0 := by omega
      subst hk0
      rw [if_pos h1, if_pos h1, root_one (by omega)]
      rfl
    · obtain ⟨s1, s2, s3⟩ := spl_pos (n := l.length) (by omega) h40
      rw [if_neg h1, if_neg h1, root_split (by omega) h40]
      by_cases h2 : k < spl l.length
      · obtain ⟨e1, e2, e3⟩ := last_snoc (inF f (l.take (spl l.length)) k) (root (l.drop (spl l.length)))
        rw [if_pos h2, if_neg e1, if_pos h2, e2, e3]
        have hl : (l.take (spl l.length)).length = spl l.length := by rw [List.length_take]; omega
        have ih := up_in f (l.take (spl l.length)) k (by rw [hl]; omega) (by rw [hl]; omega) (by rw [hl]; exact h2)
        have eg : (l.take (spl l.length)).getD k ByteArray.empty = l.getD k ByteArray.empty := by
          rw [List.getD, List.getD, List.getElem?_take, if_pos h2]
        rw [hl, eg] at ih
        rw [ih]
      · obtain ⟨e1, e2, e3⟩ := last_snoc (inF f (l.drop (spl l.length)) (k - spl l.length)) (root (l.take (spl l.length)))
        rw [if_neg h2, if_neg e1, if_neg h2, e2, e3]
        have hl : (l.drop (spl l.length)).length = l.length - spl l.length := by rw [List.length_drop]
        have ih := up_in f (l.drop (spl l.length)) (k - spl l.length) (by rw [hl]; omega) (by rw [hl]; omega) (by rw [hl]; omega)
        have eg : (l.drop (spl l.length)).getD (k - spl l.length) ByteArray.empty = l.getD k ByteArray.empty := by
          rw [List.getD, List.getD, List.getElem?_drop, show spl l.length + (k - spl l.length) = k by omega]
        rw [hl, eg] at ih
        rw [ih]

theorem upF_lt : ∀ (f n k x : Nat) (p : List Nat), x < 1000003 → (upF f n k x p).1 < 1000003
  | 0, _, _, _, _, h => h
  | f + 1, n, k, x, p, h => by
    unfold upF
    split
    · exact h
    · split
      · show 0 < 1000003; omega
      · split
        · exact node_lt _ _
        · exact node_lt _ _

/-- whether there are as many hangs on no sum -/
theorem up_same : ∀ (f n k x y : Nat) (p : List Nat), (upF f n k x p).2 = (upF f n k y p).2
  | 0, _, _, _, _, _ => rfl
  | f + 1, n, k, x, y, p => by
    unfold upF
    split
    · rfl
    · split
      · rfl
      · split
        · exact up_same f _ _ _ _ _
        · exact up_same f _ _ _ _ _

/-- and it holds for no other sum -/
theorem up_one : ∀ (f n k x y : Nat) (p : List Nat), x < 1000003 → y < 1000003 → (upF f n k x p).2 = true → (upF f n k x p).1 = (upF f n k y p).1 → x = y
  | 0, _, _, _, _, _, _, _, _, h => h
  | f + 1, n, k, x, y, p, hx, hy, ht, h => by
    unfold upF at ht h
    by_cases h1 : n ≤ 1
    · rw [if_pos h1, if_pos h1] at h
      exact h
    · rw [if_neg h1] at ht
      rw [if_neg h1, if_neg h1] at h
      by_cases h2 : p.length = 0
      · rw [if_pos h2] at ht
        cases ht
      · rw [if_neg h2] at ht
        rw [if_neg h2, if_neg h2] at h
        by_cases h3 : k < spl n
        · rw [if_pos h3] at ht
          rw [if_pos h3, if_pos h3] at h
          exact up_one f _ _ x y _ hx hy ht (node_left (upF_lt _ _ _ _ _ hx) (upF_lt _ _ _ _ _ hy) h)
        · rw [if_neg h3] at ht
          rw [if_neg h3, if_neg h3] at h
          exact up_one f _ _ x y _ hx hy ht (node_right (upF_lt _ _ _ _ _ hx) (upF_lt _ _ _ _ _ hy) h)

end Go.Proofs.Ytlglngmlaknmlaa.Lgs
