/- What a step of a session does; what is good stays so. -/
import Derived.Test.YtnlppeieccbhgaaSnD
namespace Go.Proofs.Ytnlppeieccbhgaa
open Go.RowKit Plain Tpc Ssn

namespace Ssn
/-- a packet is taken -/
def come (s : Ses) (p : Pk) : Ses :=
  if p.ep = s.ep then
    (let h := if p.no = (s.handed.length : Int) then s.handed ++ [p.tx] else s.handed
     { s with handed := h, acks := if s.acks.length < 12 then s.acks ++ [⟨s.ep, (h.length : Int)⟩] else s.acks })
  else s
def raise (b : Int) (s : Ses) (a : Ak) : Int := if a.ep = s.ep ∧ b < a.up then a.up else b
def outP (l : List Pk) (k : Nat) : List Pk := l.take k ++ l.drop (k + 1)
def outA (l : List Ak) (k : Nat) : List Ak := l.take k ++ l.drop (k + 1)
def inW (s : Ses) (k : Int) : Bool := decide (0 ≤ k ∧ k < (s.way.length : Int))
def inA (s : Ses) (k : Int) : Bool := decide (0 ≤ k ∧ k < (s.acks.length : Int))

def pushK (s : Ses) (t : ByteArray) : Bool := decide (t.size ≤ 20) && decide (s.items.length < 30)
def pushS (s : Ses) (t : ByteArray) : Ses := { s with items := s.items ++ [t] }
def sendK (s : Ses) (k : Int) : Bool := decide (s.base ≤ k) && (decide (k < s.base + 4) && (decide (k < (s.items.length : Int)) && decide (s.way.length < 12)))
def sendS (s : Ses) (k : Int) : Ses := { s with way := s.way ++ [⟨s.ep, k, lq s.items k.toNat⟩] }
def ackS (s : Ses) (k : Int) : Ses := { s with acks := outA s.acks k.toNat, base := raise s.base s (ak s.acks k.toNat) }
def cutK (s : Ses) : Bool := decide (s.ep < 1000)
def cutS (s : Ses) : Ses := { s with ep := s.ep + 1, base := (s.handed.length : Int) }
def loseS (s : Ses) (k : Int) : Ses := { s with way := outP s.way k.toNat }
def takeS (s : Ses) (k : Int) : Ses := come (loseS s k) (pk s.way k.toNat)
def twiceK (s : Ses) (k : Int) : Bool := inW s k && decide (s.way.length < 12)
def twiceS (s : Ses) (k : Int) : Ses := { s with way := s.way ++ [pk s.way k.toNat] }

/-- whether a step can be done -/
def stK (s : Ses) (x : Sp) : Bool :=
  if x.kind = 1 then pushK s x.tx else if x.kind = 2 then sendK s x.kk else if x.kind = 3 then inW s x.kk else if x.kind = 4 then inW s x.kk
  else if x.kind = 5 then twiceK s x.kk else if x.kind = 6 then inA s x.kk else if x.kind = 7 then cutK s else false
/-- what it makes -/
def stS (s : Ses) (x : Sp) : Ses :=
  if stK s x = false then s else
  if x.kind = 1 then pushS s x.tx else if x.kind = 2 then sendS s x.kk else if x.kind = 3 then takeS s x.kk else if x.kind = 4 then loseS s x.kk
  else if x.kind = 5 then twiceS s x.kk else if x.kind = 6 then ackS s x.kk else cutS s
end Ssn

/-- what goodness says -/
structure Gd (s : Ses) : Prop where
  e0 : 1 ≤ s.ep
  e1 : s.ep ≤ 1000
  il : s.items.length ≤ 30
  it : ∀ j, j < s.items.length → (lq s.items j).size ≤ 20
  b0 : 0 ≤ s.base
  b1 : s.base ≤ (s.handed.length : Int)
  hl : s.handed.length ≤ s.items.length
  he : s.handed = s.items.take s.handed.length
  yl : s.way.length ≤ 12
  yo : ∀ p ∈ s.way, (1 ≤ p.ep ∧ p.ep ≤ s.ep) ∧ 0 ≤ p.no ∧ p.no < (s.items.length : Int) ∧ p.no < s.base + 4 ∧ p.tx = lq s.items p.no.toNat
  al : s.acks.length ≤ 12
  ao : ∀ a ∈ s.acks, (1 ≤ a.ep ∧ a.ep ≤ s.ep) ∧ 0 ≤ a.up ∧ a.up ≤ (s.handed.length : Int)

theorem gs_iff (s : Ses) : gs s = true ↔ Gd s := by
  constructor
  · intro h
    obtain ⟨h1, h2, h3, h4, h5⟩ := gs_parts h
    obtain ⟨i1, i2⟩ := gI_parts h2
    obtain ⟨j1, j2, j3, j4⟩ := gH_parts h3
    unfold gE at h1
    unfold gW at h4
    unfold gA at h5
    rw [decide_eq_true_eq] at h1
    rw [Bool.and_eq_true, decide_eq_true_eq, List.all_eq_true] at h4 h5
    refine ⟨h1.1, h1.2, i1, i2, j1, j2, j3, j4, h4.1, fun p hp => ?_, h5.1, fun a ha => ?_⟩
    · have := h4.2 p hp
      unfold okPk at this
      simp only [Bool.and_eq_true, decide_eq_true_eq] at this
      exact ⟨this.1, this.2.1, this.2.2.1, this.2.2.2.1, this.2.2.2.2⟩
    · have := h5.2 a ha
      unfold okAk at this
      simp only [Bool.and_eq_true, decide_eq_true_eq] at this
      exact ⟨this.1, this.2.1, this.2.2⟩
  · intro h
    unfold gs gE gI gH gW gA bgn
    simp only [Bool.and_eq_true, decide_eq_true_eq, List.all_eq_true]
    refine ⟨⟨h.e0, h.e1⟩, ⟨h.il, fun t ht => ?_⟩, ⟨⟨h.b0, h.b1⟩, h.hl, h.he⟩, ⟨h.yl, fun p hp => ?_⟩, h.al, fun a ha => ?_⟩
    · obtain ⟨i, hi, rfl⟩ := List.mem_iff_getElem.1 ht
      have := h.it i hi
      rw [show lq s.items i = s.items[i] by unfold lq; simp [List.getD, List.getElem?_eq_getElem hi]] at this
      simpa using this
    · obtain ⟨q1, q2, q3, q4, q5⟩ := h.yo p hp
      unfold okPk
      simp only [Bool.and_eq_true, decide_eq_true_eq]
      exact ⟨q1, q2, q3, q4, q5⟩
    · obtain ⟨q1, q2, q3⟩ := h.ao a ha
      unfold okAk
      simp only [Bool.and_eq_true, decide_eq_true_eq]
      exact ⟨q1, q2, q3⟩

theorem Gd.handed_at {s : Ses} (h : Gd s) {j : Nat} (hj : j < s.handed.length) : lq s.handed j = lq s.items j := by
  have e : lq s.handed j = lq (s.items.take s.handed.length) j := congrArg (fun l => lq l j) h.he
  rw [e]
  unfold lq
  rw [List.getD_eq_getElem?_getD, List.getD_eq_getElem?_getD, List.getElem?_take, if_pos hj]

theorem lq_app {L R : List ByteArray} {i : Nat} (h : i < L.length) : lq (L ++ R) i = lq L i := by
  unfold lq
  rw [List.getD_eq_getElem?_getD, List.getD_eq_getElem?_getD, List.getElem?_append_left h]

theorem Gd.push {s : Ses} (h : Gd s) {t : ByteArray} (hk : pushK s t = true) : Gd (pushS s t) := by
  unfold pushK at hk
  rw [Bool.and_eq_true, decide_eq_true_eq, decide_eq_true_eq] at hk
  have hh := h.hl
  unfold pushS
  refine ⟨h.e0, h.e1, by simp; omega, fun j hj => ?_, h.b0, h.b1, by simp; omega, ?_, h.yl, fun p hp => ?_, h.al, h.ao⟩
  · simp at hj
    by_cases e : j = s.items.length
    · subst e
      rw [show lq (s.items ++ [t]) s.items.length = t by unfold lq; simp [List.getD]]
      exact hk.1
    · rw [lq_app (by omega)]
      exact h.it j (by omega)
  · dsimp only
    rw [List.take_append_of_le_length hh]
    exact h.he
  · obtain ⟨q1, q2, q3, q4, q5⟩ := h.yo p hp
    refine ⟨q1, q2, by dsimp only; rw [List.length_append, List.length_singleton]; omega, q4, ?_⟩
    dsimp only
    rw [lq_app (by omega)]
    exact q5

theorem Gd.send {s : Ses} (h : Gd s) {k : Int} (hk : sendK s k = true) : Gd (sendS s k) := by
  unfold sendK at hk
  simp only [Bool.and_eq_true, decide_eq_true_eq] at hk
  obtain ⟨k1, k2, k3, k4⟩ := hk
  have hb := h.b0
  unfold sendS
  refine ⟨h.e0, h.e1, h.il, h.it, h.b0, h.b1, h.hl, h.he, by simp; omega, fun p hp => ?_, h.al, h.ao⟩
  dsimp only at hp ⊢
  rcases List.mem_append.1 hp with hp | hp
  · exact h.yo p hp
  · rw [List.mem_singleton] at hp
    subst hp
    exact ⟨⟨h.e0, Int.le_refl _⟩, by dsimp only; omega, k3, k2, rfl⟩

theorem mem_outP {l : List Pk} {k : Nat} {p : Pk} (h : p ∈ outP l k) : p ∈ l := by
  unfold outP at h
  rcases List.mem_append.1 h with h | h
  · exact List.mem_of_mem_take h
  · exact List.mem_of_mem_drop h
theorem mem_outA {l : List Ak} {k : Nat} {p : Ak} (h : p ∈ outA l k) : p ∈ l := by
  unfold outA at h
  rcases List.mem_append.1 h with h | h
  · exact List.mem_of_mem_take h
  · exact List.mem_of_mem_drop h
theorem len_outP (l : List Pk) {k : Nat} (h : k < l.length) : (outP l k).length = l.length - 1 := by
  unfold outP
  rw [List.length_append, List.length_take, List.length_drop]
  omega
theorem len_outA (l : List Ak) {k : Nat} (h : k < l.length) : (outA l k).length = l.length - 1 := by
  unfold outA
  rw [List.length_append, List.length_take, List.length_drop]
  omega

theorem Gd.lose {s : Ses} (h : Gd s) {k : Int} (hk : inW s k = true) : Gd (loseS s k) := by
  unfold inW at hk
  rw [decide_eq_true_eq] at hk
  have := len_outP s.way (k := k.toNat) (by omega)
  have := h.yl
  unfold loseS
  exact ⟨h.e0, h.e1, h.il, h.it, h.b0, h.b1, h.hl, h.he, by dsimp only; omega, fun p hp => h.yo p (mem_outP hp), h.al, h.ao⟩

theorem Gd.twice {s : Ses} (h : Gd s) {k : Int} (hk : twiceK s k = true) : Gd (twiceS s k) := by
  unfold twiceK inW at hk
  rw [Bool.and_eq_true, decide_eq_true_eq, decide_eq_true_eq] at hk
  unfold twiceS
  refine ⟨h.e0, h.e1, h.il, h.it, h.b0, h.b1, h.hl, h.he, by simp; omega, fun p hp => ?_, h.al, h.ao⟩
  dsimp only at hp
  rcases List.mem_append.1 hp with hp | hp
  · exact h.yo p hp
  · rw [List.mem_singleton] at hp
    subst hp
    exact h.yo _ (pk_mem (by omega))

theorem Gd.ack {s : Ses} (h : Gd s) {k : Int} (hk : inA s k = true) : Gd (ackS s k) := by
  unfold inA at hk
  rw [decide_eq_true_eq] at hk
  have := len_outA s.acks (k := k.toNat) (by omega)
  have h12 := h.al
  obtain ⟨_, q2, q3⟩ := h.ao _ (ak_mem (T := s.acks) (i := k.toNat) (by omega))
  have hb0 := h.b0
  have hb1 := h.b1
  unfold ackS raise
  refine ⟨h.e0, h.e1, h.il, h.it, ?_, ?_, h.hl, h.he, h.yl, fun p hp => ?_, by dsimp only; omega, fun a ha => h.ao a (mem_outA ha)⟩
  · dsimp only; split <;> omega
  · dsimp only; split <;> omega
  · obtain ⟨r1, r2, r3, r4, r5⟩ := h.yo p hp
    refine ⟨r1, r2, r3, ?_, r5⟩
    dsimp only
    split <;> omega

theorem Gd.cut {s : Ses} (h : Gd s) (hk : cutK s = true) : Gd (cutS s) := by
  unfold cutK at hk
  rw [decide_eq_true_eq] at hk
  have he := h.e0
  have hb1 := h.b1
  unfold cutS
  refine ⟨by dsimp only; omega, by dsimp only; omega, h.il, h.it, by dsimp only; omega, Int.le_refl _, h.hl, h.he, h.yl, fun p hp => ?_, h.al, fun a ha => ?_⟩
  · obtain ⟨r1, r2, r3, r4, r5⟩ := h.yo p hp
    exact ⟨⟨r1.1, by dsimp only; omega⟩, r2, r3, by dsimp only; omega, r5⟩
  · obtain ⟨r1, r2, r3⟩ := h.ao a ha
    exact ⟨⟨r1.1, by dsimp only; omega⟩, r2, r3⟩

theorem Gd.come {s : Ses} (h : Gd s) {p : Pk} (hp : (1 ≤ p.ep ∧ p.ep ≤ s.ep) ∧ 0 ≤ p.no ∧ p.no < (s.items.length : Int) ∧ p.no < s.base + 4 ∧ p.tx = lq s.items p.no.toNat) : Gd (come s p) := by
  unfold Ssn.come
  by_cases he : p.ep = s.ep
  · rw [if_pos he]
    dsimp only
    have hb1 := h.b1
    have hal := h.al
    by_cases hn : p.no = (s.handed.length : Int)
    · rw [if_pos hn]
      have hnn : p.no.toNat = s.handed.length := by omega
      have hlt : s.handed.length < s.items.length := by omega
      refine ⟨h.e0, h.e1, h.il, h.it, h.b0, by simp; omega, by simp; omega, ?_, h.yl, h.yo, ?_, fun a ha => ?_⟩
      · dsimp only
        rw [List.length_append, List.length_singleton, List.take_add_one, lq_at hlt, ← h.he, hp.2.2.2.2, hnn]
        rfl
      · dsimp only
        split
        · rw [List.length_append, List.length_singleton]; omega
        · omega
      · dsimp only at ha ⊢
        have hold : ∀ a ∈ s.acks, (1 ≤ a.ep ∧ a.ep ≤ s.ep) ∧ 0 ≤ a.up ∧ a.up ≤ ((s.handed ++ [p.tx]).length : Int) := fun a ha => by
          obtain ⟨r1, r2, r3⟩ := h.ao a ha
          exact ⟨r1, r2, by rw [List.length_append, List.length_singleton]; omega⟩
        split at ha
        · rcases List.mem_append.1 ha with ha | ha
          · exact hold a ha
          · rw [List.mem_singleton] at ha
            subst ha
            exact ⟨⟨h.e0, Int.le_refl _⟩, by dsimp only; omega, Int.le_refl _⟩
        · exact hold a ha
    · rw [if_neg hn]
      refine ⟨h.e0, h.e1, h.il, h.it, h.b0, h.b1, h.hl, h.he, h.yl, h.yo, ?_, fun a ha => ?_⟩
      · dsimp only
        split
        · rw [List.length_append, List.length_singleton]; omega
        · omega
      · dsimp only at ha ⊢
        split at ha
        · rcases List.mem_append.1 ha with ha | ha
          · exact h.ao a ha
          · rw [List.mem_singleton] at ha
            subst ha
            exact ⟨⟨h.e0, Int.le_refl _⟩, by dsimp only; omega, Int.le_refl _⟩
        · exact h.ao a ha
  · rw [if_neg he]
    exact h

theorem Gd.take {s : Ses} (h : Gd s) {k : Int} (hk : inW s k = true) : Gd (takeS s k) := by
  have h1 := h.lose hk
  unfold inW at hk
  rw [decide_eq_true_eq] at hk
  exact h1.come (h.yo _ (pk_mem (by omega)))

/-- what is good stays so -/
theorem Gd.step {s : Ses} (h : Gd s) (x : Sp) : Gd (stS s x) := by
  unfold stS
  by_cases hk : stK s x = false
  · rw [if_pos hk]
    exact h
  · rw [if_neg hk]
    have hk' : stK s x = true := by simpa using hk
    unfold stK at hk'
    by_cases h1 : x.kind = 1
    · rw [if_pos h1] at hk' ⊢; exact h.push hk'
    rw [if_neg h1] at hk' ⊢
    by_cases h2 : x.kind = 2
    · rw [if_pos h2] at hk' ⊢; exact h.send hk'
    rw [if_neg h2] at hk' ⊢
    by_cases h3 : x.kind = 3
    · rw [if_pos h3] at hk' ⊢; exact h.take hk'
    rw [if_neg h3] at hk' ⊢
    by_cases h4 : x.kind = 4
    · rw [if_pos h4] at hk' ⊢; exact h.lose hk'
    rw [if_neg h4] at hk' ⊢
    by_cases h5 : x.kind = 5
    · rw [if_pos h5] at hk' ⊢; exact h.twice hk'
    rw [if_neg h5] at hk' ⊢
    by_cases h6 : x.kind = 6
    · rw [if_pos h6] at hk' ⊢; exact h.ack hk'
    rw [if_neg h6] at hk' ⊢
    by_cases h7 : x.kind = 7
    · rw [if_pos h7] at hk'; exact h.cut hk'
    · rw [if_neg h7] at hk'
      cases hk'

end Go.Proofs.Ytnlppeieccbhgaa
