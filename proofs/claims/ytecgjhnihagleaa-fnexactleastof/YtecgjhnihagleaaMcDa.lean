/- Classes as the program divides them: by Ends and the classes of Next alone. Where classes come from Ends by partings this tells the same. -/
import Derived.Test.YtecgjhnihagleaaMcCa
namespace Go.Proofs.Ytecgjhnihagleaa
open Plain Mch

/-- what a state's outlook is -/
def Mch.lo4 (M : List (List Int)) (E : List Bool) (c : List Nat) (x : Nat) : Bool × Nat × Nat × Nat := (en E x, cx c (nt M x 0), cx c (nt M x 1), cx c (nt M x 2))
def Mch.dv (M : List (List Int)) (E : List Bool) (c : List Nat) : List Nat := cl (lo4 M E c) c.length

theorem dv_len (M : List (List Int)) (E : List Bool) (c : List Nat) : (dv M E c).length = c.length := cl_len _ _

theorem fi_congr {α β : Type} [DecidableEq α] [DecidableEq β] {f : Nat → α} {g : Nat → β} {n : Nat} (h : ∀ a b, a < n → b < n → (f a = f b ↔ g a = g b)) {k : Nat} (hk : k < n) : fi f k = fi g k := by
  have h1 := fi_le f k
  have h2 := fi_le g k
  have e1 : g (fi f k) = g k := (h _ _ (by omega) hk).1 (fi_eq f k)
  have e2 : f (fi g k) = f k := (h _ _ (by omega) hk).2 (fi_eq g k)
  rcases Nat.lt_trichotomy (fi f k) (fi g k) with h3 | h3 | h3
  · exact absurd e1 (fi_first g h3)
  · exact h3
  · exact absurd e2 (fi_first f h3)

theorem cl_congr {α β : Type} [DecidableEq α] [DecidableEq β] {f : Nat → α} {g : Nat → β} {n : Nat} (h : ∀ a b, a < n → b < n → (f a = f b ↔ g a = g b)) : cl f n = cl g n := by
  apply cx_ext (by rw [cl_len, cl_len])
  intro x hx
  rw [cl_len] at hx
  rw [cl_at f hx, cl_at g hx]
  exact fi_congr h hx

/-- classes that come from Ends by partings -/
structure Iv (M : List (List Int)) (E : List Bool) (c : List Nat) : Prop where
  ends : ∀ x y, x < c.length → y < c.length → cx c x = cx c y → en E x = en E y
  back : ∀ x y, x < c.length → y < c.length → en E x = en E y → cx c (nt M x 0) = cx c (nt M y 0) → cx c (nt M x 1) = cx c (nt M y 1) → cx c (nt M x 2) = cx c (nt M y 2) → cx c x = cx c y

theorem lo4_iff {M : List (List Int)} {E : List Bool} {c : List Nat} {x y : Nat} : lo4 M E c x = lo4 M E c y ↔ en E x = en E y ∧ cx c (nt M x 0) = cx c (nt M y 0) ∧ cx c (nt M x 1) = cx c (nt M y 1) ∧ cx c (nt M x 2) = cx c (nt M y 2) := by
  unfold lo4
  simp only [Prod.mk.injEq]
theorem ky4_iff {M : List (List Int)} {c : List Nat} {x y : Nat} : ky M c x = ky M c y ↔ cx c x = cx c y ∧ cx c (nt M x 0) = cx c (nt M y 0) ∧ cx c (nt M x 1) = cx c (nt M y 1) ∧ cx c (nt M x 2) = cx c (nt M y 2) := by
  unfold ky
  simp only [Prod.mk.injEq]

theorem Iv.dv {M : List (List Int)} {E : List Bool} {c : List Nat} (h : Iv M E c) : Mch.dv M E c = sp M c := by
  unfold Mch.dv sp
  apply cl_congr
  intro a b ha hb
  rw [lo4_iff, ky4_iff]
  constructor
  · rintro ⟨h0, h1, h2, h3⟩
    exact ⟨h.back a b ha hb h0 h1 h2 h3, h1, h2, h3⟩
  · rintro ⟨h0, h1, h2, h3⟩
    exact ⟨h.ends a b ha hb h0, h1, h2, h3⟩

theorem sp_iff {M : List (List Int)} {c : List Nat} {x y : Nat} (hx : x < c.length) (hy : y < c.length) : cx (sp M c) x = cx (sp M c) y ↔ ky M c x = ky M c y := by
  unfold sp
  rw [cl_at _ hx, cl_at _ hy, fi_iff]

theorem Iv.next {M : List (List Int)} {E : List Bool} {c : List Nat} (h : Iv M E c) (hn : ∀ x k, x < c.length → k < 3 → nt M x k < c.length) : Iv M E (sp M c) := by
  refine ⟨fun x y hx hy e => ?_, fun x y hx hy e0 e1 e2 e3 => ?_⟩ <;> rw [sp_len] at hx hy
  · rw [sp_iff hx hy, ky4_iff] at e
    exact h.ends x y hx hy e.1
  · have k1 := (ky4_iff.1 ((sp_iff (hn x 0 hx (by omega)) (hn y 0 hy (by omega))).1 e1)).1
    have k2 := (ky4_iff.1 ((sp_iff (hn x 1 hx (by omega)) (hn y 1 hy (by omega))).1 e2)).1
    have k3 := (ky4_iff.1 ((sp_iff (hn x 2 hx (by omega)) (hn y 2 hy (by omega))).1 e3)).1
    rw [sp_iff hx hy, ky4_iff]
    exact ⟨h.back x y hx hy e0 k1 k2 k3, k1, k2, k3⟩

theorem c0_iff {E : List Bool} {x y : Nat} (hx : x < E.length) (hy : y < E.length) : cx (c0 E) x = cx (c0 E) y ↔ en E x = en E y := by
  unfold c0
  rw [cl_at _ hx, cl_at _ hy, fi_iff]

theorem Iv.start (M : List (List Int)) (E : List Bool) : Iv M E (c0 E) := by
  have hl : (c0 E).length = E.length := cl_len _ _
  refine ⟨fun x y hx hy e => ?_, fun x y hx hy e _ _ _ => ?_⟩ <;> rw [hl] at hx hy
  · exact (c0_iff hx hy).1 e
  · exact (c0_iff hx hy).2 e

theorem cx_rep (n x : Nat) : cx (List.replicate n 0) x = 0 := by
  unfold cx
  rw [List.getD, List.getElem?_replicate]
  split <;> rfl

theorem dv_zero (M : List (List Int)) (E : List Bool) : dv M E (List.replicate E.length 0) = c0 E := by
  unfold dv c0
  rw [List.length_replicate]
  apply cl_congr
  intro a b _ _
  rw [lo4_iff]
  simp only [cx_rep, and_self, and_true]

end Go.Proofs.Ytecgjhnihagleaa
