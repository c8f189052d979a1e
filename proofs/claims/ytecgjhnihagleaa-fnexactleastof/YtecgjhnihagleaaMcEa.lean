/- The least machine, in plain words: states go to the first states of classes; what is reached of that. -/
import Derived.Test.YtecgjhnihagleaaMcCe
import Derived.Test.YtecgjhnihagleaaMcMk
import Derived.Test.YtecgjhnihagleaaMcDa
namespace Go.Proofs.Ytecgjhnihagleaa
open Go.RowKit Plain Mch Tpc

/-- a state's row by classes -/
def Mch.mgr (M : List (List Int)) (c : List Nat) (x : Nat) : List Nat := [cx c (nt M x 0), cx c (nt M x 1), cx c (nt M x 2)]
def Mch.mg (M : List (List Int)) (c : List Nat) : List (List Int) := (List.range c.length).map (fun x => zn (mgr M c x))

theorem mg_len (M : List (List Int)) (c : List Nat) : (mg M c).length = c.length := by simp [mg]
theorem rx_mg {M : List (List Int)} {c : List Nat} {x : Nat} (h : x < c.length) : rx (mg M c) x = zn (mgr M c x) := by
  unfold rx mg
  rw [List.getD, List.getElem?_map, List.getElem?_range h]
  rfl
theorem mgr_at {M : List (List Int)} {c : List Nat} {x k : Nat} (hk : k < 3) : (zn (mgr M c x))[k]? = some ((cx c (nt M x k) : Nat) : Int) := by
  match k, hk with
  | 0, _ => rfl
  | 1, _ => rfl
  | 2, _ => rfl
theorem nt_mg {M : List (List Int)} {c : List Nat} {x k : Nat} (h : x < c.length) (hk : k < 3) : nt (mg M c) x k = cx c (nt M x k) := by
  unfold nt
  rw [rx_mg h, List.getD, mgr_at hk]
  rfl

theorem clr_cf (M : List (List Int)) : ∀ f c r, CF c → CF (clr M f c r).1
  | 0, _, _, h => h
  | f + 1, c, r, h => by
    rw [clr]
    split
    · exact h
    · exact clr_cf M f _ _ (CF.cl _ _)
theorem cls_cf (M : List (List Int)) (E : List Bool) : CF (cls M E) := clr_cf M _ _ _ (CF.cl _ _)

theorem cls_lt {M : List (List Int)} {E : List Bool} {x : Nat} (h : x < E.length) : cx (cls M E) x < E.length := by
  have := (cls_cf M E).le x (by rw [cls_len]; exact h)
  omega

theorem gm_mg {M : List (List Int)} {E : List Bool} {c : List Nat} (hg : gm M E = true) (hl : c.length = M.length) (hc : ∀ x, x < M.length → cx c x < M.length) : gm (mg M c) E = true := by
  obtain ⟨⟨h1, h2, h3⟩, _⟩ := gm_iff.1 hg
  rw [gm_iff, mg_len, hl]
  refine ⟨⟨h1, h2, h3⟩, fun i hi => ?_⟩
  rw [rx_mg (by omega), okR_iff]
  refine ⟨rfl, fun y hy => ?_⟩
  simp only [zn, mgr, List.map_cons, List.map_nil, List.mem_cons, List.not_mem_nil, or_false] at hy
  have k0 := hc _ (gm_next hg hi (k := 0) (by omega)).2.1
  have k1 := hc _ (gm_next hg hi (k := 1) (by omega)).2.1
  have k2 := hc _ (gm_next hg hi (k := 2) (by omega)).2.1
  rcases hy with rfl | rfl | rfl <;> omega

/-- the machine of classes -/
def Mch.mgc (M : List (List Int)) (E : List Bool) : List (List Int) := mg M (cls M E)

theorem gm_mgc {M : List (List Int)} {E : List Bool} (hg : gm M E = true) : gm (mgc M E) E = true := by
  have h3 := (gm_iff.1 hg).1.2.2
  exact gm_mg hg (by rw [cls_len, h3]) (fun x hx => by rw [← h3] at hx ⊢; exact cls_lt hx)
theorem mgc_len {M : List (List Int)} {E : List Bool} : (mgc M E).length = E.length := by unfold mgc; rw [mg_len, cls_len]

theorem dia_few {A : List (List Int)} {E : List Bool} (hg : gm A E = true) : (prs A A).length ≤ A.length := by
  rw [← sts_len (prs A A)]
  exact few (met_nodup (prs_met hg hg) (dia_prs A)) (sts_low hg)

theorem mok_mgc {M : List (List Int)} {E : List Bool} (hg : gm M E = true) : mok (mgc M E) E (mgc M E) E = true := by
  have h := gm_mgc hg
  have h2 := dia_few h
  have h3 := (gm_iff.1 h).1.2.1
  unfold mok
  rw [h]
  simp
  omega

/-- what LeastOf tells -/
def Mch.leM (M : List (List Int)) (E : List Bool) : List (List Int) := if gm M E then NR (mgc M E) (mgc M E) (prs (mgc M E) (mgc M E)).length else []
def Mch.leE (M : List (List Int)) (E : List Bool) : List Bool := if gm M E then (prs (mgc M E) (mgc M E)).map (ben E E) else []

theorem le_me {M : List (List Int)} {E : List Bool} (hg : gm M E = true) : leM M E = meM (mgc M E) E (mgc M E) E ∧ leE M E = meE (mgc M E) E (mgc M E) E := by
  unfold leM leE meM meE
  rw [if_pos hg, if_pos hg, if_pos (mok_mgc hg), if_pos (mok_mgc hg)]
  exact ⟨rfl, rfl⟩

theorem le_len (M : List (List Int)) (E : List Bool) : (leM M E).length ≤ 12 ∧ (leE M E).length ≤ 12 ∧ ∀ i, i < (leM M E).length → (rx (leM M E) i).length ≤ 3 := by
  cases hg : gm M E with
  | false =>
    unfold leM leE
    rw [if_neg (by rw [hg]; simp), if_neg (by rw [hg]; simp)]
    exact ⟨by simp, by simp, fun i hi => by simp at hi⟩
  | true =>
    rw [(le_me hg).1, (le_me hg).2]
    exact me_len _ _ _ _

end Go.Proofs.Ytecgjhnihagleaa
