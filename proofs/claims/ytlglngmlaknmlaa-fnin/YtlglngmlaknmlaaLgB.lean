/- Logs that only grew, in plain words. -/
import Derived.Test.YtlglngmlaknmlaaLgA
namespace Go.Proofs.Ytlglngmlaknmlaa.Lgs
open Plain

/-- the sums that show that a log only grew -/
def groF : Nat → List ByteArray → Nat → Bool → List Nat
  | 0, _, _, _ => []
  | f + 1, l, m, wh => if m = l.length then (if wh then [] else [root l]) else if m ≤ spl l.length then groF f (l.take (spl l.length)) m wh ++ [root (l.drop (spl l.length))] else groF f (l.drop (spl l.length)) (m - spl l.length) false ++ [root (l.take (spl l.length))]

/-- both roots that sums make -/
def botF : Nat → Nat → Nat → Nat → Bool → List Nat → Nat × Nat × Bool
  | 0, _, _, _, _, _ => (0, 0, false)
  | f + 1, o, n, m, wh, p =>
    if m = n then (if wh then (o, o, decide (p.length = 0)) else if p.length = 1 then (p.getD 0 0, p.getD 0 0, true) else (0, 0, false))
    else if p.length = 0 then (0, 0, false)
    else if m ≤ spl n then ((botF f o (spl n) m wh p.dropLast).1, node (botF f o (spl n) m wh p.dropLast).2.1 (p.getD (p.length - 1) 0), (botF f o (spl n) m wh p.dropLast).2.2)
    else (node (p.getD (p.length - 1) 0) (botF f o (n - spl n) (m - spl n) false p.dropLast).1, node (p.getD (p.length - 1) 0) (botF f o (n - spl n) (m - spl n) false p.dropLast).2.1, (botF f o (n - spl n) (m - spl n) false p.dropLast).2.2)

theorem spl_mid_all : ∀ n, n < 41 → ∀ m, m < 41 → 2 ≤ n → spl n < m → m ≤ n → spl m = spl n := by decide
theorem spl_mid {n m : Nat} (h : 2 ≤ n) (h40 : n ≤ 40) (h1 : spl n < m) (h2 : m ≤ n) : spl m = spl n := spl_mid_all n (by omega) m (by omega) h h1 h2

theorem root_mid {l : List ByteArray} {m : Nat} (h : 2 ≤ l.length) (h40 : l.length ≤ 40) (h1 : spl l.length < m) (h2 : m ≤ l.length) : root (l.take m) = node (root (l.take (spl l.length))) (root ((l.drop (spl l.length)).take (m - spl l.length))) := by
  obtain ⟨s1, s2, s3⟩ := spl_pos h h40
  have hl : (l.take m).length = m := by rw [List.length_take]; omega
  have e := root_split (l := l.take m) (by rw [hl]; omega) (by rw [hl]; omega)
  rw [hl, spl_mid h h40 h1 h2] at e
  rw [e, List.take_take, List.drop_take]
  congr 2
  rw [Nat.min_eq_left (by omega)]

/-- where the elder ones are not whole any more the sums make both roots -/
theorem both_part : ∀ (f o : Nat) (l : List ByteArray) (m : Nat), l.length < f → l.length ≤ 40 → 1 ≤ m → m ≤ l.length → botF f o l.length m false (groF f l m false) = (root (l.take m), root l, true)
  | 0, _, l, _, h, _, _, _ => by omega
  | f + 1, o, l, m, hf, h40, hm, hml => by
    unfold groF botF
    by_cases h1 : m = l.length
    · rw [if_pos h1, if_pos h1, h1, List.take_of_length_le (Nat.le_refl _)]
      rfl
    · obtain ⟨s1, s2, s3⟩ := spl_pos (n := l.length) (by omega) h40
      rw [if_neg h1, if_neg h1]
      have ht : (l.take (spl l.length)).length = spl l.length := by rw [List.length_take]; omega
      have hd : (l.drop (spl l.length)).length = l.length - spl l.length := by rw [List.length_drop]
      by_cases h2 : m ≤ spl l.length
      · obtain ⟨e1, e2, e3⟩ := last_snoc (groF f (l.take (spl l.length)) m false) (root (l.drop (spl l.length)))
        rw [if_pos h2, if_neg e1, if_pos h2, e2, e3]
        have ih := both_part f o (l.take (spl l.length)) m (by rw [ht]; omega) (by rw [ht]; omega) hm (by rw [ht]; exact h2)
        rw [ht, List.take_take, Nat.min_eq_left h2] at ih
        rw [ih, root_split (l := l) (by omega) h40]
      · obtain ⟨e1, e2, e3⟩ := last_snoc (groF f (l.drop (spl l.length)) (m - spl l.length) false) (root (l.take (spl l.length)))
        rw [if_neg h2, if_neg e1, if_neg h2, e2, e3]
        have ih := both_part f o (l.drop (spl l.length)) (m - spl l.length) (by rw [hd]; omega) (by rw [hd]; omega) (by omega) (by rw [hd]; omega)
        rw [hd] at ih
        rw [ih, root_split (l := l) (by omega) h40, root_mid (by omega) h40 (by omega) hml]

/-- what the sums make of a first root that is told -/
structure Bth (o : Nat) (l : List ByteArray) (m : Nat) (r : Nat × Nat × Bool) : Prop where
  many : r.2.2 = true
  low : r.2.1 < 1000003
  is : o = root (l.take m) → r.1 = o ∧ r.2.1 = root l
  no : (r.1 = o ∧ (r.2.1 = root l → o = root (l.take m))) ∨ (r.1 = root (l.take m))

theorem both_whole : ∀ (f o : Nat) (l : List ByteArray) (m : Nat), o < 1000003 → l.length < f → l.length ≤ 40 → 1 ≤ m → m ≤ l.length → Bth o l m (botF f o l.length m true (groF f l m true))
  | 0, _, l, _, _, h, _, _, _ => by omega
  | f + 1, o, l, m, ho, hf, h40, hm, hml => by
    unfold groF botF
    by_cases h1 : m = l.length
    · have e : root (l.take m) = root l := by rw [h1, List.take_of_length_le (Nat.le_refl _)]
      rw [if_pos h1, if_pos h1, if_pos rfl, if_pos rfl]
      exact ⟨rfl, ho, fun h => ⟨rfl, by rw [h, e]⟩, .inl ⟨rfl, fun h => by rw [e]; exact h⟩⟩
    · obtain ⟨s1, s2, s3⟩ := spl_pos (n := l.length) (by omega) h40
      rw [if_neg h1, if_neg h1]
      have ht : (l.take (spl l.length)).length = spl l.length := by rw [List.length_take]; omega
      have hd : (l.drop (spl l.length)).length = l.length - spl l.length := by rw [List.length_drop]
      by_cases h2 : m ≤ spl l.length
      · obtain ⟨e1, e2, e3⟩ := last_snoc (groF f (l.take (spl l.length)) m true) (root (l.drop (spl l.length)))
        rw [if_pos h2, if_neg e1, if_pos h2, e2, e3]
        have ih := both_whole f o (l.take (spl l.length)) m ho (by rw [ht]; omega) (by rw [ht]; omega) hm (by rw [ht]; exact h2)
        rw [ht] at ih
        have et : (l.take (spl l.length)).take m = l.take m := by rw [List.take_take, Nat.min_eq_left h2]
        obtain ⟨i1, i2, i3, i4⟩ := ih
        rw [et] at i3 i4
        have er := root_split (l := l) (by omega) h40
        refine ⟨i1, node_lt _ _, fun h => ⟨(i3 h).1, ?_⟩, ?_⟩
        · show node _ _ = _
          rw [(i3 h).2, er]
        · rcases i4 with ⟨k1, k2⟩ | k1
          · refine .inl ⟨k1, fun h => k2 ?_⟩
            have h' : node (botF f o (spl l.length) m true (groF f (l.take (spl l.length)) m true)).2.1 (root (l.drop (spl l.length))) = root l := h
            rw [er] at h'
            exact node_left i2 (root_lt _) h'
          · exact .inr k1
      · obtain ⟨e1, e2, e3⟩ := last_snoc (groF f (l.drop (spl l.length)) (m - spl l.length) false) (root (l.take (spl l.length)))
        rw [if_neg h2, if_neg e1, if_neg h2, e2, e3]
        have ih := both_part f o (l.drop (spl l.length)) (m - spl l.length) (by rw [hd]; omega) (by rw [hd]; omega) (by omega) (by rw [hd]; omega)
        rw [hd] at ih
        rw [ih]
        have er := root_split (l := l) (by omega) h40
        have em := root_mid (l := l) (m := m) (by omega) h40 (by omega) hml
        refine ⟨rfl, node_lt _ _, fun h => ⟨?_, er.symm⟩, .inr em.symm⟩
        show node _ _ = o
        rw [h, em]

/-- a log that only grew is shown to, and for no other first root -/
theorem grew_law {o : Nat} {l : List ByteArray} {m : Nat} (ho : o < 1000003) (h40 : l.length ≤ 40) (hm : 1 ≤ m) (hml : m ≤ l.length) : (botF 41 o l.length m true (groF 41 l m true)).2.2 = true ∧ (((botF 41 o l.length m true (groF 41 l m true)).1 = o ∧ (botF 41 o l.length m true (groF 41 l m true)).2.1 = root l) ↔ o = root (l.take m)) := by
  have h := both_whole 41 o l m ho (by omega) h40 hm hml
  refine ⟨h.many, fun e => ?_, h.is⟩
  rcases h.no with ⟨_, k⟩ | k
  · exact k e.2
  · rw [← e.1, k]

end Go.Proofs.Ytlglngmlaknmlaa.Lgs
