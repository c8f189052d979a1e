/- Terms as lists of cells and as trees: what a good one is, told in two ways, and that both tell the same. -/
import Derived.Laws.Bits128
import Derived.Test.YtndeikgkncfmbaaDoorGa
namespace Go.Proofs.YtndeikgkncfmbaaDoor.Trm
open Plain Sch

structure Ce where
  var : Int
  name : ByteArray
  many : Int

instance : Inhabited Ce := ⟨⟨0, ⟨#[]⟩, 0⟩⟩

def ce (T : List Ce) (i : Nat) : Ce := T.getD i default

inductive TT where
  | mk (v : Int) (name : ByteArray) (kids : List TT)

def TT.v : TT → Int | .mk v _ _ => v
def TT.name : TT → ByteArray | .mk _ n _ => n
def TT.kids : TT → List TT | .mk _ _ k => k

def okName (s : ByteArray) : Bool := isName s && decide (s.size ≤ 4)
def okVar (c : Ce) : Bool := decide (1 ≤ c.var) && decide (c.var ≤ 6) && decide (c.name = ⟨#[]⟩) && decide (c.many = 0)
def okFn (c : Ce) : Bool := okName c.name && (decide (0 ≤ c.many) && decide (c.many ≤ 5))
def okCe (c : Ce) : Bool := if c.var = 0 then okFn c else okVar c

theorem okCe_many {c : Ce} (h : okCe c = true) : 0 ≤ c.many ∧ c.many ≤ 5 := by
  unfold okCe at h
  split at h
  · simp [okFn] at h; exact h.2
  · simp [okVar] at h; omega

/-- n terms to come, and no cell behind them -/
def need : Nat → List Ce → Bool
  | n, [] => decide (n = 0)
  | n, c :: l => decide (n ≠ 0) && okCe c && need (n - 1 + c.many.toNat) l

def gt (T : List Ce) : Bool := decide (T.length ≤ 30) && need 1 T

/-- n terms one behind the other -/
def rdN (rd : List Ce → Option (TT × List Ce)) : Nat → List Ce → Option (List TT × List Ce)
  | 0, l => some ([], l)
  | n + 1, l =>
    match rd l with
    | none => none
    | some (x, r) =>
      match rdN rd n r with
      | none => none
      | some (xs, s) => some (x :: xs, s)

/-- one term, and what is behind it -/
def rdT : Nat → List Ce → Option (TT × List Ce)
  | 0, _ => none
  | _ + 1, [] => none
  | f + 1, c :: l => if okCe c then (rdN (rdT f) c.many.toNat l).map fun p => (.mk c.var c.name p.1, p.2) else none

def frst : Nat → List Ce → Option (List TT)
  | n, [] => if n = 0 then some [] else none
  | 0, _ :: _ => none
  | n + 1, c :: l => if okCe c then (frst (n + c.many.toNat) l).map fun ts => .mk c.var c.name (ts.take c.many.toNat) :: ts.drop c.many.toNat else none

theorem need_frst (l : List Ce) : ∀ n, need n l = (frst n l).isSome := by
  induction l with
  | nil => intro n; unfold need frst; by_cases h : n = 0 <;> simp [h]
  | cons c l ih =>
    intro n
    cases n with
    | zero => simp [need, frst]
    | succ n =>
      unfold need frst
      by_cases h : okCe c = true
      · simp [h, ih]
      · simp [h]

theorem frst_zero {r : List Ce} {us : List TT} (h : frst 0 r = some us) : r = [] ∧ us = [] := by
  cases r with
  | nil => simp [frst] at h; exact ⟨rfl, h⟩
  | cons c r => simp [frst] at h

theorem rdN_step {rd : List Ce → Option (TT × List Ce)} {l r : List Ce} {x : TT} (n : Nat) (h : rd l = some (x, r)) : rdN rd (n + 1) l = (rdN rd n r).map fun p => (x :: p.1, p.2) := by
  rw [rdN, h]
  dsimp only
  cases rdN rd n r <;> rfl

theorem rdN_none {rd : List Ce → Option (TT × List Ce)} {l : List Ce} (n : Nat) (h : rd l = none) : rdN rd (n + 1) l = none := by
  rw [rdN, h]

theorem rdN_some {rd : List Ce → Option (TT × List Ce)} {l s : List Ce} {ts : List TT} {n : Nat} (h : rdN rd (n + 1) l = some (ts, s)) : ∃ x r xs, rd l = some (x, r) ∧ rdN rd n r = some (xs, s) ∧ ts = x :: xs := by
  cases hr : rd l with
  | none => rw [rdN_none n hr] at h; cases h
  | some p =>
    obtain ⟨x, r⟩ := p
    rw [rdN_step n hr] at h
    cases hs : rdN rd n r with
    | none => rw [hs] at h; cases h
    | some q =>
      rw [hs] at h
      simp at h
      obtain ⟨h1, h2⟩ := h
      exact ⟨x, r, q.1, rfl, by rw [← h2, hs], h1.symm⟩

theorem rdT_some {f : Nat} {l r : List Ce} {x : TT} (h : rdT f l = some (x, r)) : ∃ f' c l' ts, f = f' + 1 ∧ l = c :: l' ∧ okCe c = true ∧ rdN (rdT f') c.many.toNat l' = some (ts, r) ∧ x = .mk c.var c.name ts := by
  cases f with
  | zero => simp [rdT] at h
  | succ f =>
    cases l with
    | nil => simp [rdT] at h
    | cons c l =>
      unfold rdT at h
      by_cases hc : okCe c = true
      · rw [if_pos hc] at h
        cases hn : rdN (rdT f) c.many.toNat l with
        | none => rw [hn] at h; cases h
        | some q =>
          rw [hn] at h
          simp at h
          exact ⟨f, c, l, q.1, rfl, rfl, hc, by rw [hn, ← h.2], h.1.symm⟩
      · rw [if_neg hc] at h; cases h

/-- what is read is a beginning, and not nothing -/
theorem rd_rest (f : Nat) : (∀ l x r, rdT f l = some (x, r) → ∃ k, 0 < k ∧ k ≤ l.length ∧ r = l.drop k) ∧ ∀ n l xs r, rdN (rdT f) n l = some (xs, r) → ∃ k, n ≤ k ∧ k ≤ l.length ∧ r = l.drop k := by
  have hN : ∀ f, (∀ l x r, rdT f l = some (x, r) → ∃ k, 0 < k ∧ k ≤ l.length ∧ r = l.drop k) → ∀ n l xs r, rdN (rdT f) n l = some (xs, r) → ∃ k, n ≤ k ∧ k ≤ l.length ∧ r = l.drop k := by
    intro f hT n
    induction n with
    | zero =>
      intro l xs r h
      simp [rdN] at h
      exact ⟨0, by omega, by omega, by simp [h.2]⟩
    | succ n ih =>
      intro l xs r h
      obtain ⟨x, s, ys, h1, h2, rfl⟩ := rdN_some h
      obtain ⟨k1, p1, q1, rfl⟩ := hT _ _ _ h1
      obtain ⟨k2, p2, q2, rfl⟩ := ih _ _ _ h2
      rw [List.length_drop] at q2
      exact ⟨k1 + k2, by omega, by omega, by rw [List.drop_drop]⟩
  have hT : ∀ l x r, rdT f l = some (x, r) → ∃ k, 0 < k ∧ k ≤ l.length ∧ r = l.drop k := by
    induction f with
    | zero => intro l x r h; simp [rdT] at h
    | succ f ih =>
      intro l x r h
      obtain ⟨f', c, l', ts, hf, rfl, hc, hn, rfl⟩ := rdT_some h
      obtain rfl : f = f' := by omega
      obtain ⟨k, _, hk, rfl⟩ := hN f ih _ _ _ _ hn
      exact ⟨k + 1, by omega, by simp; omega, by simp⟩
  exact ⟨hT, hN f hT⟩

theorem rdN_len {rd : List Ce → Option (TT × List Ce)} : ∀ (n : Nat) {l r : List Ce} {ts : List TT}, rdN rd n l = some (ts, r) → ts.length = n
  | 0, l, r, ts, h => by simp [rdN] at h; simp [← h.1]
  | n + 1, l, r, ts, h => by
    obtain ⟨x, s, xs, h1, h2, rfl⟩ := rdN_some h
    simp [rdN_len n h2]

theorem rd_frst (f : Nat) : (∀ l x r, rdT f l = some (x, r) → ∀ m, frst (m + 1) l = (frst m r).map fun us => x :: us) ∧ ∀ n l ts r, rdN (rdT f) n l = some (ts, r) → ∀ m, frst (m + n) l = (frst m r).map fun us => ts ++ us := by
  have hN : ∀ f, (∀ l x r, rdT f l = some (x, r) → ∀ m, frst (m + 1) l = (frst m r).map fun us => x :: us) → ∀ n l ts r, rdN (rdT f) n l = some (ts, r) → ∀ m, frst (m + n) l = (frst m r).map fun us => ts ++ us := by
    intro f hT n
    induction n with
    | zero => intro l ts r h m; simp [rdN] at h; obtain ⟨rfl, rfl⟩ := h; simp
    | succ n ih =>
      intro l ts r h m
      obtain ⟨x, s, xs, h1, h2, rfl⟩ := rdN_some h
      rw [← Nat.add_assoc, hT _ _ _ h1 (m + n), ih _ _ _ h2 m]
      simp [Option.map_map, Function.comp_def]
  have hT : ∀ l x r, rdT f l = some (x, r) → ∀ m, frst (m + 1) l = (frst m r).map fun us => x :: us := by
    induction f with
    | zero => intro l x r h; simp [rdT] at h
    | succ f ih =>
      intro l x r h m
      obtain ⟨f', c, l', ts, hf, rfl, hc, hn, rfl⟩ := rdT_some h
      obtain rfl : f = f' := by omega
      have hl := rdN_len _ hn
      rw [frst, if_pos hc, hN f ih _ _ _ _ hn m, Option.map_map]
      congr 1
      funext us
      simp [← hl]
  exact ⟨hT, hN f hT⟩

theorem frst_rd : ∀ (f : Nat) (n : Nat) (l : List Ce) (m : Nat) (us : List TT), l.length ≤ f → frst (m + n) l = some us → ∃ r, rdN (rdT f) n l = some (us.take n, r) ∧ frst m r = some (us.drop n) := by
  intro f
  induction f with
  | zero =>
    intro n l m us hl h
    have : l = [] := List.length_eq_zero_iff.1 (by omega)
    subst this
    unfold frst at h
    by_cases h0 : m + n = 0
    · rw [if_pos h0] at h
      have : n = 0 := by omega
      subst this
      have : m = 0 := by omega
      subst this
      simp at h
      subst h
      exact ⟨[], by simp [rdN], by simp [frst]⟩
    · rw [if_neg h0] at h; cases h
  | succ f ih =>
    intro n
    induction n with
    | zero => intro l m us hl h; exact ⟨l, by simp [rdN], by simpa using h⟩
    | succ n ihn =>
      intro l m us hl h
      cases l with
      | nil => rw [← Nat.add_assoc] at h; simp [frst] at h
      | cons c l =>
        rw [← Nat.add_assoc, frst] at h
        by_cases hc : okCe c = true
        · rw [if_pos hc, Option.map_eq_some_iff] at h
          obtain ⟨us', h1, rfl⟩ := h
          simp at hl
          obtain ⟨r, h2, h3⟩ := ih c.many.toNat l (m + n) us' hl h1
          obtain ⟨k, _, hk, hr⟩ := (rd_rest f).2 _ _ _ _ h2
          have hT : rdT (f + 1) (c :: l) = some (.mk c.var c.name (us'.take c.many.toNat), r) := by
            rw [rdT, if_pos hc, h2]; rfl
          obtain ⟨s, h4, h5⟩ := ihn r m (us'.drop c.many.toNat) (by rw [hr, List.length_drop]; omega) h3
          exact ⟨s, by rw [rdN_step n hT, h4]; simp, by simpa using h5⟩
        · rw [if_neg hc] at h; cases h

/-- the tree of a good term -/
def tre (T : List Ce) : Option TT :=
  match rdT 31 T with
  | some (x, []) => some x
  | _ => none

theorem tre_some {T : List Ce} {x : TT} (h : tre T = some x) : rdT 31 T = some (x, []) := by
  unfold tre at h
  split at h
  · rename_i y hy; simp at h; rw [hy, h]
  · cases h

theorem tre_of {T : List Ce} {x : TT} (h : rdT 31 T = some (x, [])) : tre T = some x := by unfold tre; rw [h]

theorem tre_gt (T : List Ce) (hl : T.length ≤ 30) : (tre T).isSome = gt T := by
  unfold gt
  rw [need_frst]
  simp only [hl, decide_true, Bool.true_and]
  cases h : frst 1 T with
  | some us =>
    obtain ⟨r, h1, h2⟩ := frst_rd 31 1 T 0 us (by omega) h
    obtain ⟨x, s, xs, h3, h4, h5⟩ := rdN_some h1
    simp [rdN] at h4
    obtain ⟨_, rfl⟩ := h4
    obtain ⟨rfl, _⟩ := frst_zero h2
    rw [tre_of h3]; rfl
  | none =>
    cases ht : tre T with
    | none => rfl
    | some x =>
      have := (rd_frst 31).1 _ _ _ (tre_some ht) 0
      rw [h] at this
      simp [frst] at this

mutual
/-- the cells of a tree -/
def fl : TT → List Ce
  | .mk v n ks => ⟨v, n, (ks.length : Int)⟩ :: flL ks
def flL : List TT → List Ce
  | [] => []
  | x :: xs => fl x ++ flL xs
end

theorem rd_fl (f : Nat) : ∀ l x r, rdT f l = some (x, r) → l = fl x ++ r := by
  induction f with
  | zero => intro l x r h; simp [rdT] at h
  | succ f ih =>
    intro l x r h
    obtain ⟨f', c, l', ts, hf, rfl, hc, hn, rfl⟩ := rdT_some h
    obtain rfl : f = f' := by omega
    have hN : ∀ n l ts r, rdN (rdT f) n l = some (ts, r) → l = flL ts ++ r := by
      intro n
      induction n with
      | zero => intro l ts r h; simp [rdN] at h; obtain ⟨rfl, rfl⟩ := h; simp [flL]
      | succ n ihn =>
        intro l ts r h
        obtain ⟨y, s, ys, h1, h2, rfl⟩ := rdN_some h
        rw [ih _ _ _ h1, ihn _ _ _ h2, flL, List.append_assoc]
    have hm := okCe_many hc
    have hl := rdN_len _ hn
    rw [hN _ _ _ _ hn, fl, hl]
    have : ((c.many.toNat : Nat) : Int) = c.many := by omega
    rw [this]
    rfl

theorem tre_fl {T : List Ce} {x : TT} (h : tre T = some x) : T = fl x := by
  have := rd_fl 31 _ _ _ (tre_some h)
  simpa using this

end Go.Proofs.YtndeikgkncfmbaaDoor.Trm
