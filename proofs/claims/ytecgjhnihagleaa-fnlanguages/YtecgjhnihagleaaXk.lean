/- Classes as the program divides them: by Ends and the classes of Next alone. Where classes come from Ends by partings this tells the same. The least machine, in plain words: states go to the first states of classes; what is reached of that. -/
import Derived.Test.YtecgjhnihagleaaMcCa
import Derived.Test.YtecgjhnihagleaaXj
import Derived.Test.YtecgjhnihagleaaXi
namespace Go.Proofs.Ytecgjhnihagleaa
open Plain Mch

/-- what a state's outlook is -/
def Mch.lo4 (M : List (List Int)) (E : List Bool) (c : List Nat) (x : Nat) : Bool × Nat × Nat × Nat := (en E x, cx c (nt M x 0), cx c (nt M x 1), cx c (nt M x 2))
def Mch.dv (M : List (List Int)) (E : List Bool) (c : List Nat) : List Nat := cl (lo4 M E c) c.length

theorem dv_len (M : List (List Int)) (E : List Bool) (c : List Nat) : (dv M E c).length = c.length := cl_len _ _

theorem fi_congr {α β : Type} [DecidableEq α] [DecidableEq β] {f : Nat → α} {g : Nat → β} {n : Nat} (h : ∀ a b, a < n → b < n → (f a = f b ↔ g a = g b)) {k : Nat} (hk : k < n) : fi f k = fi g k := by
  have h1 := fi_le f k
  have h2 := fi_le g k
  have e1 : g (fi f k) = g k := (h _ _ (by omega) hk).1 (fi_eq f k)
  have e2 : f (fi g k) = f k := (h _ _ (by omega) hk).2 (fi_eq g k)
  rcases Nat.lt_trichotomy (fi f k) (fi g k) with h3 | h3 | h3
  · exact absurd e1 (fi_first g h3)
  · exact h3
  · exact absurd e2 (fi_first f h3)

theorem cl_congr {α β : Type} [DecidableEq α] [DecidableEq β] {f : Nat → α} {g : Nat → β} {n : Nat} (h : ∀ a b, a < n → b < n → (f a = f b ↔ g a = g b)) : cl f n = cl g n := by
  apply cx_ext (by rw [cl_len, cl_len])
  intro x hx
  rw [cl_len] at hx
  rw [cl_at f hx, cl_at g hx]
  exact fi_congr h hx

/-- classes that come from Ends by partings -/
structure Iv (M : List (List Int)) (E : List Bool) (c : List Nat) : Prop where
  ends : ∀ x y, x < c.length → y < c.length → cx c x = cx c y → en E x = en E y
  back : ∀ x y, x < c.length → y < c.length → en E x = en E y → cx c (nt M x 0) = cx c (nt M y 0) → cx c (nt M x 1) = cx c (nt M y 1) → cx c (nt M x 2) = cx c (nt M y 2) → cx c x = cx c y

theorem lo4_iff {M : List (List Int)} {E : List Bool} {c : List Nat} {x y : Nat} : lo4 M E c x = lo4 M E c y ↔ en E x = en E y ∧ cx c (nt M x 0) = cx c (nt M y 0) ∧ cx c (nt M x 1) = cx c (nt M y 1) ∧ cx c (nt M x 2) = cx c (nt M y 2) := by
  unfold lo4
  simp only [Prod.mk.injEq]
theorem ky4_iff {M : List (List Int)} {c : List Nat} {x y : Nat} : ky M c x = ky M c y ↔ cx c x = cx c y ∧ cx c (nt M x 0) = cx c (nt M y 0) ∧ cx c (nt M x 1) = cx c (nt M y 1) ∧ cx c (nt M x 2) = cx c (nt M y 2) := by
  unfold ky
  simp only [Prod.mk.injEq]

theorem Iv.dv {M : List (List Int)} {E : List Bool} {c : List Nat} (h : Iv M E c) : Mch.dv M E c = sp M c := by
  unfold Mch.dv sp
  apply cl_congr
  intro a b ha hb
  rw [lo4_iff, ky4_iff]
  constructor
  · rintro ⟨h0, h1, h2, h3⟩
    exact ⟨h.back a b ha hb h0 h1 h2 h3, h1, h2, h3⟩
  · rintro ⟨h0, h1, h2, h3⟩
    exact ⟨h.ends a b ha hb h0, h1, h2, h3⟩

theorem sp_iff {M : List (List Int)} {c : List Nat} {x y : Nat} (hx : x < c.length) (hy : y < c.length) : cx (sp M c) x = cx (sp M c) y ↔ ky M c x = ky M c y := by
  unfold sp
  rw [cl_at _ hx, cl_at _ hy, fi_iff]

theorem Iv.next {M : List (List Int)} {E : List Bool} {c : List Nat} (h : Iv M E c) (hn : ∀ x k, x < c.length → k < 3 → nt M x k < c.length) : Iv M E (sp M c) := by
  refine ⟨fun x y hx hy e => ?_, fun x y hx hy e0 e1 e2 e3 => ?_⟩ <;> rw [sp_len] at hx hy
  · rw [sp_iff hx hy, ky4_iff] at e
    exact h.ends x y hx hy e.1
  · have k1 := (ky4_iff.1 ((sp_iff (hn x 0 hx (by omega)) (hn y 0 hy (by omega))).1 e1)).1
    have k2 := (ky4_iff.1 ((sp_iff (hn x 1 hx (by omega)) (hn y 1 hy (by omega))).1 e2)).1
    have k3 := (ky4_iff.1 ((sp_iff (hn x 2 hx (by omega)) (hn y 2 hy (by omega))).1 e3)).1
    rw [sp_iff hx hy, ky4_iff]
    exact ⟨h.back x y hx hy e0 k1 k2 k3, k1, k2, k3⟩

theorem c0_iff {E : List Bool} {x y : Nat} (hx : x < E.length) (hy : y < E.length) : cx (c0 E) x = cx (c0 E) y ↔ en E x = en E y := by
  unfold c0
  rw [cl_at _ hx, cl_at _ hy, fi_iff]

theorem Iv.start (M : List (List Int)) (E : List Bool) : Iv M E (c0 E) := by
  have hl : (c0 E).length = E.length := cl_len _ _
  refine ⟨fun x y hx hy e => ?_, fun x y hx hy e _ _ _ => ?_⟩ <;> rw [hl] at hx hy
  · exact (c0_iff hx hy).1 e
  · exact (c0_iff hx hy).2 e

theorem cx_rep (n x : Nat) : cx (List.replicate n 0) x = 0 := by
  unfold cx
  rw [List.getD, List.getElem?_replicate]
  split <;> rfl

theorem dv_zero (M : List (List Int)) (E : List Bool) : dv M E (List.replicate E.length 0) = c0 E := by
  unfold dv c0
  rw [List.length_replicate]
  apply cl_congr
  intro a b _ _
  rw [lo4_iff]
  simp only [cx_rep, and_self, and_true]

end Go.Proofs.Ytecgjhnihagleaa

namespace Go.Proofs.Ytecgjhnihagleaa
open Go.RowKit Plain Mch Tpc

/-- a state's row by classes -/
def Mch.mgr (M : List (List Int)) (c : List Nat) (x : Nat) : List Nat := [cx c (nt M x 0), cx c (nt M x 1), cx c (nt M x 2)]
def Mch.mg (M : List (List Int)) (c : List Nat) : List (List Int) := (List.range c.length).map (fun x => zn (mgr M c x))

theorem mg_len (M : List (List Int)) (c : List Nat) : (mg M c).length = c.length := by simp [mg]
theorem rx_mg {M : List (List Int)} {c : List Nat} {x : Nat} (h : x < c.length) : rx (mg M c) x = zn (mgr M c x) := by
  unfold rx mg
  rw [List.getD, List.getElem?_map, List.getElem?_range h]
  rfl
theorem mgr_at {M : List (List Int)} {c : List Nat} {x k : Nat} (hk : k < 3) : (zn (mgr M c x))[k]? = some ((cx c (nt M x k) : Nat) : Int) := by
  match k, hk with
  | 0, _ => rfl
  | 1, _ => rfl
  | 2, _ => rfl
theorem nt_mg {M : List (List Int)} {c : List Nat} {x k : Nat} (h : x < c.length) (hk : k < 3) : nt (mg M c) x k = cx c (nt M x k) := by
  unfold nt
  rw [rx_mg h, List.getD, mgr_at hk]
  rfl

theorem clr_cf (M : List (List Int)) : ∀ f c r, CF c → CF (clr M f c r).1
  | 0, _, _, h => h
  | f + 1, c, r, h => by
    rw [clr]
    split
    · exact h
    · exact clr_cf M f _ _ (CF.cl _ _)
theorem cls_cf (M : List (List Int)) (E : List Bool) : CF (cls M E) := clr_cf M _ _ _ (CF.cl _ _)

theorem cls_lt {M : List (List Int)} {E : List Bool} {x : Nat} (h : x < E.length) : cx (cls M E) x < E.length := by
  have := (cls_cf M E).le x (by rw [cls_len]; exact h)
  omega

theorem gm_mg {M : List (List Int)} {E : List Bool} {c : List Nat} (hg : gm M E = true) (hl : c.length = M.length) (hc : ∀ x, x < M.length → cx c x < M.length) : gm (mg M c) E = true := by
  obtain ⟨⟨h1, h2, h3⟩, _⟩ := gm_iff.1 hg
  rw [gm_iff, mg_len, hl]
  refine ⟨⟨h1, h2, h3⟩, fun i hi => ?_⟩
  rw [rx_mg (by omega), okR_iff]
  refine ⟨rfl, fun y hy => ?_⟩
  simp only [zn, mgr, List.map_cons, List.map_nil, List.mem_cons, List.not_mem_nil, or_false] at hy
  have k0 := hc _ (gm_next hg hi (k := 0) (by omega)).2.1
  have k1 := hc _ (gm_next hg hi (k := 1) (by omega)).2.1
  have k2 := hc _ (gm_next hg hi (k := 2) (by omega)).2.1
  rcases hy with rfl | rfl | rfl <;> omega

/-- the machine of classes -/
def Mch.mgc (M : List (List Int)) (E : List Bool) : List (List Int) := mg M (cls M E)

theorem gm_mgc {M : List (List Int)} {E : List Bool} (hg : gm M E = true) : gm (mgc M E) E = true := by
  have h3 := (gm_iff.1 hg).1.2.2
  exact gm_mg hg (by rw [cls_len, h3]) (fun x hx => by rw [← h3] at hx ⊢; exact cls_lt hx)
theorem mgc_len {M : List (List Int)} {E : List Bool} : (mgc M E).length = E.length := by unfold mgc; rw [mg_len, cls_len]

theorem dia_few {A : List (List Int)} {E : List Bool} (hg : gm A E = true) : (prs A A).length ≤ A.length := by
  rw [← sts_len (prs A A)]
  exact few (met_nodup (prs_met hg hg) (dia_prs A)) (sts_low hg)

theorem mok_mgc {M : List (List Int)} {E : List Bool} (hg : gm M E = true) : mok (mgc M E) E (mgc M E) E = true := by
  have h := gm_mgc hg
  have h2 := dia_few h
  have h3 := (gm_iff.1 h).1.2.1
  unfold mok
  rw [h]
  simp
  omega

/-- what LeastOf tells -/
def Mch.leM (M : List (List Int)) (E : List Bool) : List (List Int) := if gm M E then NR (mgc M E) (mgc M E) (prs (mgc M E) (mgc M E)).length else []
def Mch.leE (M : List (List Int)) (E : List Bool) : List Bool := if gm M E then (prs (mgc M E) (mgc M E)).map (ben E E) else []

theorem le_me {M : List (List Int)} {E : List Bool} (hg : gm M E = true) : leM M E = meM (mgc M E) E (mgc M E) E ∧ leE M E = meE (mgc M E) E (mgc M E) E := by
  unfold leM leE meM meE
  rw [if_pos hg, if_pos hg, if_pos (mok_mgc hg), if_pos (mok_mgc hg)]
  exact ⟨rfl, rfl⟩

theorem le_len (M : List (List Int)) (E : List Bool) : (leM M E).length ≤ 12 ∧ (leE M E).length ≤ 12 ∧ ∀ i, i < (leM M E).length → (rx (leM M E) i).length ≤ 3 := by
  cases hg : gm M E with
  | false =>
    unfold leM leE
    rw [if_neg (by rw [hg]; simp), if_neg (by rw [hg]; simp)]
    exact ⟨by simp, by simp, fun i hi => by simp at hi⟩
  | true =>
    rw [(le_me hg).1, (le_me hg).2]
    exact me_len _ _ _ _

end Go.Proofs.Ytecgjhnihagleaa
