/- Classes of states, in plain words: a state's number is the place of the first state that is like it. -/
import Derived.Test.YtecgjhnihagleaaMcA
namespace Go.Proofs.Ytecgjhnihagleaa
open Plain Mch

/-- the first place that has k's key -/
def Mch.fi {α : Type} [DecidableEq α] (f : Nat → α) (k : Nat) : Nat := (List.range (k + 1)).findIdx (fun o => decide (f o = f k))

theorem fi_lt {α : Type} [DecidableEq α] (f : Nat → α) (k : Nat) : fi f k < (List.range (k + 1)).length := by
  unfold fi
  exact List.findIdx_lt_length_of_exists ⟨k, by simp, by simp⟩
theorem fi_le {α : Type} [DecidableEq α] (f : Nat → α) (k : Nat) : fi f k ≤ k := by
  have := fi_lt f k
  simp at this
  omega
theorem fi_eq {α : Type} [DecidableEq α] (f : Nat → α) (k : Nat) : f (fi f k) = f k := by
  have h := fi_lt f k
  have h2 : decide (f ((List.range (k + 1))[fi f k]'h) = f k) = true := List.findIdx_getElem (p := fun o => decide (f o = f k)) (xs := List.range (k + 1)) (w := h)
  rw [List.getElem_range] at h2
  exact of_decide_eq_true h2
theorem fi_first {α : Type} [DecidableEq α] (f : Nat → α) {k o : Nat} (ho : o < fi f k) : f o ≠ f k := by
  have h := fi_lt f k
  have h2 := List.not_of_lt_findIdx (p := fun o => decide (f o = f k)) (xs := List.range (k + 1)) ho
  simp at h2
  exact h2
theorem fi_same {α : Type} [DecidableEq α] (f : Nat → α) {a b : Nat} (h : f a = f b) : fi f a = fi f b := by
  rcases Nat.lt_trichotomy (fi f a) (fi f b) with h1 | h1 | h1
  · exact absurd ((fi_eq f a).trans h) (fi_first f h1)
  · exact h1
  · exact absurd ((fi_eq f b).trans h.symm) (fi_first f h1)
theorem fi_fi {α : Type} [DecidableEq α] (f : Nat → α) (k : Nat) : fi f (fi f k) = fi f k := fi_same f (fi_eq f k)
theorem fi_iff {α : Type} [DecidableEq α] (f : Nat → α) {a b : Nat} : fi f a = fi f b ↔ f a = f b :=
  ⟨fun h => by have h1 := fi_eq f a; have h2 := fi_eq f b; rw [h] at h1; exact h1.symm.trans h2, fi_same f⟩

/-- what a look down from k to j tells -/
def Mch.dn {α : Type} [DecidableEq α] (f : Nat → α) (k j : Nat) : Nat := if (List.range k).any (fun o => decide (j ≤ o ∧ f o = f k)) then fi f k else k

theorem dn_top {α : Type} [DecidableEq α] (f : Nat → α) (k : Nat) : dn f k k = k := by
  unfold dn
  rw [if_neg]
  simp
  intro o h1 h2
  omega
theorem dn_hit {α : Type} [DecidableEq α] (f : Nat → α) {k j : Nat} (hj : j < k) (h : f j = f k) : dn f k j = fi f j := by
  unfold dn
  rw [if_pos, fi_same f h]
  simp
  exact ⟨j, hj, Nat.le_refl _, h⟩
theorem dn_miss {α : Type} [DecidableEq α] (f : Nat → α) {k j : Nat} (h : f j ≠ f k) : dn f k j = dn f k (j + 1) := by
  unfold dn
  congr 2
  apply congrArg
  funext o
  by_cases e : j = o
  · subst e
    simp [h]
  · have : (j ≤ o ∧ f o = f k) ↔ (j + 1 ≤ o ∧ f o = f k) := ⟨fun ⟨a, b⟩ => ⟨by omega, b⟩, fun ⟨a, b⟩ => ⟨by omega, b⟩⟩
    simp only [this]
theorem dn_done {α : Type} [DecidableEq α] (f : Nat → α) (k : Nat) : dn f k 0 = fi f k := by
  unfold dn
  by_cases h : (List.range k).any (fun o => decide (0 ≤ o ∧ f o = f k))
  · rw [if_pos h]
  · rw [if_neg h]
    simp at h
    have h1 := fi_le f k
    by_cases e : fi f k = k
    · exact e.symm
    · exact absurd (fi_eq f k) (h _ (by omega))

/-- the classes by a key -/
def Mch.cl {α : Type} [DecidableEq α] (f : Nat → α) (n : Nat) : List Nat := (List.range n).map (fi f)
def Mch.cx (c : List Nat) (x : Nat) : Nat := c.getD x 0

theorem cl_len {α : Type} [DecidableEq α] (f : Nat → α) (n : Nat) : (cl f n).length = n := by simp [cl]
theorem cl_at {α : Type} [DecidableEq α] (f : Nat → α) {n k : Nat} (h : k < n) : cx (cl f n) k = fi f k := by
  unfold cx cl
  rw [List.getD, List.getElem?_map, List.getElem?_range h]
  rfl
theorem cl_get {α : Type} [DecidableEq α] (f : Nat → α) {n k : Nat} (h : k < n) : (cl f n)[k]? = some (fi f k) := by
  unfold cl
  rw [List.getElem?_map, List.getElem?_range h]
  rfl
theorem cl_succ {α : Type} [DecidableEq α] (f : Nat → α) (n : Nat) : cl f (n + 1) = cl f n ++ [fi f n] := by
  unfold cl
  rw [List.range_succ, List.map_append]
  rfl

/-- a state's class now and by each letter -/
def Mch.ky (M : List (List Int)) (c : List Nat) (x : Nat) : Nat × Nat × Nat × Nat := (cx c x, cx c (nt M x 0), cx c (nt M x 1), cx c (nt M x 2))
def Mch.c0 (E : List Bool) : List Nat := cl (en E) E.length
def Mch.sp (M : List (List Int)) (c : List Nat) : List Nat := cl (ky M c) c.length

/-- classes whose numbers are their first states' places -/
structure CF (c : List Nat) : Prop where
  le : ∀ x, x < c.length → cx c x ≤ x
  id : ∀ x, x < c.length → cx c (cx c x) = cx c x

theorem CF.cl {α : Type} [DecidableEq α] (f : Nat → α) (n : Nat) : CF (Mch.cl f n) := by
  refine ⟨fun x hx => ?_, fun x hx => ?_⟩ <;> rw [cl_len] at hx
  · rw [cl_at f hx]; exact fi_le f x
  · have h1 := fi_le f x
    rw [cl_at f hx, cl_at f (by omega), fi_fi]

/-- how many classes there are -/
def Mch.nf (c : List Nat) : Nat := ((List.range c.length).filter (fun x => cx c x == x)).length

theorem nf_le (c : List Nat) : nf c ≤ c.length := by
  unfold nf
  have := List.length_filter_le (fun x => cx c x == x) (List.range c.length)
  simpa using this

theorem sp_len (M : List (List Int)) (c : List Nat) : (sp M c).length = c.length := cl_len _ _

theorem sp_keeps {M : List (List Int)} {c : List Nat} (h : CF c) {x : Nat} (hx : x < c.length) (hf : cx c x = x) : cx (sp M c) x = x := by
  unfold sp
  rw [cl_at _ hx]
  have h1 := fi_le (ky M c) x
  have h2 := fi_eq (ky M c) x
  have h3 : cx c (fi (ky M c) x) = cx c x := congrArg Prod.fst h2
  have h4 := h.le (fi (ky M c) x) (by omega)
  omega

theorem filter_lt {p q : Nat → Bool} {l : List Nat} (hpq : ∀ x ∈ l, p x = true → q x = true) {y : Nat} (hy : y ∈ l) (hq : q y = true) (hp : p y = false) : (l.filter p).length < (l.filter q).length := by
  induction l with
  | nil => simp at hy
  | cons a l ih =>
    have hle : ∀ (m : List Nat), (∀ x ∈ m, p x = true → q x = true) → (m.filter p).length ≤ (m.filter q).length := by
      intro m
      induction m with
      | nil => simp
      | cons b m ihm =>
        intro hm
        have h1 := ihm (fun x hx => hm x (List.mem_cons_of_mem _ hx))
        by_cases hb : p b = true
        · rw [List.filter_cons_of_pos hb, List.filter_cons_of_pos (hm b (by simp) hb)]; simp; exact h1
        · rw [List.filter_cons_of_neg hb]
          by_cases hb2 : q b = true
          · rw [List.filter_cons_of_pos hb2]; simp; omega
          · rw [List.filter_cons_of_neg hb2]; exact h1
    rcases List.mem_cons.1 hy with rfl | hy
    · rw [List.filter_cons_of_neg (by rw [hp]; simp), List.filter_cons_of_pos hq]
      have := hle l (fun x hx => hpq x (List.mem_cons_of_mem _ hx))
      simp
      omega
    · have h1 := ih (fun x hx => hpq x (List.mem_cons_of_mem _ hx)) hy
      by_cases ha : p a = true
      · rw [List.filter_cons_of_pos ha, List.filter_cons_of_pos (hpq a (by simp) ha)]; simp; exact h1
      · rw [List.filter_cons_of_neg ha]
        by_cases ha2 : q a = true
        · rw [List.filter_cons_of_pos ha2]; simp; omega
        · rw [List.filter_cons_of_neg ha2]; exact h1

theorem cx_ext {c d : List Nat} (hl : c.length = d.length) (h : ∀ x, x < c.length → cx c x = cx d x) : c = d := by
  apply List.ext_getElem hl
  intro i h1 h2
  have := h i h1
  unfold cx at this
  rw [List.getD, List.getD, List.getElem?_eq_getElem h1, List.getElem?_eq_getElem h2] at this
  exact this

/-- classes that are parted grow in number -/
theorem sp_grows {M : List (List Int)} {c : List Nat} (h : CF c) (hne : sp M c ≠ c) : nf c < nf (sp M c) := by
  have hex : ∃ y, y < c.length ∧ cx (sp M c) y = y ∧ cx c y ≠ y := by
    by_cases hall : ∀ y, y < c.length → cx (sp M c) y = y → cx c y = y
    · exfalso
      apply hne
      apply cx_ext (sp_len M c)
      intro x hx
      rw [sp_len] at hx
      have h0 : cx (sp M c) x = fi (ky M c) x := cl_at _ hx
      have h1 := fi_le (ky M c) x
      have h2 : cx c (fi (ky M c) x) = cx c x := congrArg Prod.fst (fi_eq (ky M c) x)
      have h3 : cx (sp M c) (fi (ky M c) x) = fi (ky M c) x := (cl_at _ (by omega)).trans (fi_fi _ _)
      have h4 := hall _ (by omega) h3
      rw [h0, ← h2, h4]
    · simp at hall
      obtain ⟨y, h1, h2, h3⟩ := hall
      exact ⟨y, h1, h2, h3⟩
  obtain ⟨y, h1, h2, h3⟩ := hex
  unfold nf
  rw [sp_len]
  refine filter_lt (fun x hx hp => ?_) (y := y) (by simpa using h1) (by simpa using h2) (by simpa using h3)
  simp at hp hx ⊢
  exact sp_keeps h hx hp

/-- the rounds: classes and how many partings it took -/
def Mch.clr (M : List (List Int)) : Nat → List Nat → Nat → List Nat × Nat
  | 0, c, r => (c, r)
  | f + 1, c, r => if sp M c = c then (c, r) else clr M f (sp M c) (r + 1)

def Mch.cls (M : List (List Int)) (E : List Bool) : List Nat := (clr M 13 (c0 E) 0).1
def Mch.cln (M : List (List Int)) (E : List Bool) : Nat := (clr M 13 (c0 E) 0).2

/-- how far the rounds are -/
structure Rd (M : List (List Int)) (E : List Bool) (c : List Nat) (r : Nat) : Prop where
  len : c.length = E.length
  cf : CF c
  few : r < nf c
  rest : clr M (13 - r) c r = (cls M E, cln M E)

theorem Rd.start {M : List (List Int)} {E : List Bool} (hE : 1 ≤ E.length) : Rd M E (c0 E) 0 := by
  refine ⟨cl_len _ _, CF.cl _ _, ?_, rfl⟩
  unfold nf
  have h0 : (0 : Nat) ∈ (List.range (c0 E).length).filter (fun x => cx (c0 E) x == x) := by
    rw [List.mem_filter]
    refine ⟨by rw [List.mem_range]; unfold c0; rw [cl_len]; omega, ?_⟩
    have h := fi_le (en E) 0
    have h2 : cx (c0 E) 0 = fi (en E) 0 := cl_at _ (by omega)
    simp
    omega
  exact List.length_pos_of_mem h0

theorem Rd.le {M : List (List Int)} {E : List Bool} {c : List Nat} {r : Nat} (h : Rd M E c r) (hE : E.length ≤ 12) : r ≤ 11 := by
  have h1 := nf_le c
  have h2 := h.few
  have h3 := h.len
  omega

theorem Rd.next {M : List (List Int)} {E : List Bool} {c : List Nat} {r : Nat} (h : Rd M E c r) (hE : E.length ≤ 12) (hne : sp M c ≠ c) : Rd M E (sp M c) (r + 1) := by
  have h1 := h.le hE
  refine ⟨(sp_len M c).trans h.len, CF.cl _ _, ?_, ?_⟩
  · have := sp_grows h.cf hne
    have := h.few
    omega
  · rw [← h.rest, show 13 - r = (13 - (r + 1)) + 1 by omega, clr, if_neg hne]

theorem Rd.done {M : List (List Int)} {E : List Bool} {c : List Nat} {r : Nat} (h : Rd M E c r) (hE : E.length ≤ 12) (he : sp M c = c) : cls M E = c ∧ cln M E = r := by
  have h1 := h.le hE
  have h2 := h.rest
  rw [show 13 - r = (12 - r) + 1 by omega, clr, if_pos he] at h2
  have h3 := congrArg Prod.fst h2
  have h4 := congrArg Prod.snd h2
  exact ⟨h3.symm, h4.symm⟩

end Go.Proofs.Ytecgjhnihagleaa
