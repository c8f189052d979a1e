/- Texts and states in plain words: what two states tell alike, and that classes are just this. The least machine tells the same as the machine; it is one for all that tell the same. The least machine is one for all that tell the same. The least text that parts two machines does part them. -/
import Derived.Test.YtecgjhnihagleaaXk
import Derived.Test.YtecgjhnihagleaaMcHa
import Derived.Test.YtecgjhnihagleaaMcSa
import Derived.Test.YtecgjhnihagleaaXj
namespace Go.Proofs.Ytecgjhnihagleaa
open Go.RowKit Plain Mch Tpc

/-- where letters lead from a state -/
def Mch.rn (M : List (List Int)) (x : Nat) (t : List Nat) : Nat := t.foldl (nt M) x
/-- letters -/
def Mch.Ltr (t : List Nat) : Prop := ∀ k ∈ t, k < 3
/-- two states, of two machines, tell the same of all texts -/
def Mch.Eqv (M : List (List Int)) (E : List Bool) (x : Nat) (N : List (List Int)) (F : List Bool) (y : Nat) : Prop := ∀ t, Ltr t → en E (rn M x t) = en F (rn N y t)

theorem eqv_symm {M N : List (List Int)} {E F : List Bool} {x y : Nat} (h : Eqv M E x N F y) : Eqv N F y M E x := fun t ht => (h t ht).symm
theorem eqv_trans {M N P : List (List Int)} {E F G : List Bool} {x y z : Nat} (h : Eqv M E x N F y) (h2 : Eqv N F y P G z) : Eqv M E x P G z := fun t ht => (h t ht).trans (h2 t ht)
theorem eqv_refl (M : List (List Int)) (E : List Bool) (x : Nat) : Eqv M E x M E x := fun _ _ => rfl
theorem eqv_next {M N : List (List Int)} {E F : List Bool} {x y : Nat} (h : Eqv M E x N F y) {k : Nat} (hk : k < 3) : Eqv M E (nt M x k) N F (nt N y k) := fun t ht => h (k :: t) (fun j hj => by
  rcases List.mem_cons.1 hj with rfl | hj
  · exact hk
  · exact ht j hj)
theorem eqv_end {M N : List (List Int)} {E F : List Bool} {x y : Nat} (h : Eqv M E x N F y) : en E x = en F y := h [] (fun j hj => by simp at hj)

theorem rn_lt {M : List (List Int)} {E : List Bool} (hg : gm M E = true) : ∀ (t : List Nat) x, x < M.length → Ltr t → rn M x t < M.length
  | [], x, hx, _ => hx
  | k :: t, x, hx, ht => rn_lt hg t (nt M x k) (gm_next hg hx (ht k (by simp))).2.1 (fun j hj => ht j (List.mem_cons_of_mem _ hj))

/-- classes that part only what differs -/
def Mch.Sep (M : List (List Int)) (E : List Bool) (c : List Nat) : Prop := ∀ x y, x < c.length → y < c.length → Eqv M E x M E y → cx c x = cx c y

theorem sep_c0 (M : List (List Int)) (E : List Bool) : Sep M E (c0 E) := fun x y hx hy h => by
  have hl : (c0 E).length = E.length := cl_len _ _
  rw [hl] at hx hy
  exact (c0_iff hx hy).2 (eqv_end h)
theorem sep_sp {M : List (List Int)} {E : List Bool} {c : List Nat} (hn : ∀ x k, x < c.length → k < 3 → nt M x k < c.length) (h : Sep M E c) : Sep M E (sp M c) := fun x y hx hy he => by
  rw [sp_len] at hx hy
  rw [sp_iff hx hy, ky4_iff]
  exact ⟨h x y hx hy he, h _ _ (hn x 0 hx (by omega)) (hn y 0 hy (by omega)) (eqv_next he (by omega)), h _ _ (hn x 1 hx (by omega)) (hn y 1 hy (by omega)) (eqv_next he (by omega)), h _ _ (hn x 2 hx (by omega)) (hn y 2 hy (by omega)) (eqv_next he (by omega))⟩

/-- what the rounds come to -/
structure Fin (M : List (List Int)) (E : List Bool) (c : List Nat) : Prop where
  len : c.length = E.length
  iv : Iv M E c
  sep : Sep M E c
  cf : CF c
  stay : sp M c = c

theorem rounds_end {M : List (List Int)} {E : List Bool} (hg : gm M E = true) : ∀ (n : Nat) (c : List Nat) (r : Nat), 13 - r = n → Rd M E c r → Iv M E c → Sep M E c → Fin M E (cls M E)
  | 0, c, r, hn, hR, _, _ => by
    have h12 : E.length ≤ 12 := by rw [(gm_iff.1 hg).1.2.2]; exact (gm_iff.1 hg).1.2.1
    have := hR.le h12
    omega
  | n + 1, c, r, hn, hR, hI, hS => by
    have hlE := (gm_iff.1 hg).1.2.2
    have h12 : E.length ≤ 12 := by rw [hlE]; exact (gm_iff.1 hg).1.2.1
    have hl : c.length = M.length := hR.len.trans hlE
    have hnx : ∀ x k, x < c.length → k < 3 → nt M x k < c.length := fun x k hx hk => by rw [hl] at hx ⊢; exact (gm_next hg hx hk).2.1
    by_cases he : sp M c = c
    · rw [(hR.done h12 he).1]
      exact ⟨hR.len, hI, hS, hR.cf, he⟩
    · exact rounds_end hg n (sp M c) (r + 1) (by omega) (hR.next h12 he) (hI.next hnx) (sep_sp hnx hS)

theorem cls_fin {M : List (List Int)} {E : List Bool} (hg : gm M E = true) : Fin M E (cls M E) :=
  rounds_end hg 13 (c0 E) 0 rfl (Rd.start (by rw [(gm_iff.1 hg).1.2.2]; exact (gm_iff.1 hg).1.1)) (Iv.start M E) (sep_c0 M E)

theorem Fin.next {M : List (List Int)} {E : List Bool} {c : List Nat} (h : Fin M E c) {x y k : Nat} (hx : x < c.length) (hy : y < c.length) (he : cx c x = cx c y) (hk : k < 3) : cx c (nt M x k) = cx c (nt M y k) := by
  have h1 : cx (sp M c) x = cx (sp M c) y := by rw [h.stay]; exact he
  obtain ⟨_, k0, k1, k2⟩ := ky4_iff.1 ((sp_iff hx hy).1 h1)
  match k, hk with
  | 0, _ => exact k0
  | 1, _ => exact k1
  | 2, _ => exact k2

theorem Fin.all {M : List (List Int)} {E : List Bool} {c : List Nat} (hg : gm M E = true) (h : Fin M E c) : ∀ (t : List Nat) x y, x < c.length → y < c.length → cx c x = cx c y → Ltr t → cx c (rn M x t) = cx c (rn M y t)
  | [], _, _, _, _, he, _ => he
  | k :: t, x, y, hx, hy, he, ht => by
    have hl : c.length = M.length := h.len.trans (gm_iff.1 hg).1.2.2
    have hk := ht k (by simp)
    have n1 : nt M x k < c.length := by rw [hl] at hx ⊢; exact (gm_next hg hx hk).2.1
    have n2 : nt M y k < c.length := by rw [hl] at hy ⊢; exact (gm_next hg hy hk).2.1
    exact Fin.all hg h t _ _ n1 n2 (h.next hx hy he hk) (fun j hj => ht j (List.mem_cons_of_mem _ hj))

/-- states are of one class just if they tell the same -/
theorem cls_iff {M : List (List Int)} {E : List Bool} (hg : gm M E = true) {x y : Nat} (hx : x < M.length) (hy : y < M.length) : cx (cls M E) x = cx (cls M E) y ↔ Eqv M E x M E y := by
  have h := cls_fin hg
  have hl : (cls M E).length = M.length := h.len.trans (gm_iff.1 hg).1.2.2
  constructor
  · intro he t ht
    have h1 := h.all hg t x y (by rw [hl]; exact hx) (by rw [hl]; exact hy) he ht
    exact h.iv.ends _ _ (by rw [hl]; exact rn_lt hg t x hx ht) (by rw [hl]; exact rn_lt hg t y hy ht) h1
  · exact h.sep x y (by rw [hl]; exact hx) (by rw [hl]; exact hy)

/-- the machine of classes tells the same -/
theorem mgc_eqv {M : List (List Int)} {E : List Bool} (hg : gm M E = true) : ∀ (t : List Nat) x, x < M.length → Ltr t → cx (cls M E) (rn (mgc M E) (cx (cls M E) x) t) = cx (cls M E) (rn M x t)
  | [], x, hx, _ => by
    have h := cls_fin hg
    exact h.cf.id x (by rw [h.len, (gm_iff.1 hg).1.2.2]; exact hx)
  | k :: t, x, hx, ht => by
    have h := cls_fin hg
    have hlE := (gm_iff.1 hg).1.2.2
    have hl : (cls M E).length = M.length := h.len.trans hlE
    have hk := ht k (by simp)
    have hcx : cx (cls M E) x < M.length := by rw [← hlE]; exact cls_lt (by rw [hlE]; exact hx)
    have e1 : nt (mgc M E) (cx (cls M E) x) k = cx (cls M E) (nt M x k) := by
      unfold mgc
      rw [nt_mg (by rw [hl]; exact hcx) hk]
      exact h.next (by rw [hl]; exact hcx) (by rw [hl]; exact hx) (h.cf.id x (by rw [hl]; exact hx)) hk
    show cx (cls M E) (rn (mgc M E) (nt (mgc M E) (cx (cls M E) x) k) t) = cx (cls M E) (rn M (nt M x k) t)
    rw [e1]
    exact mgc_eqv hg t (nt M x k) (gm_next hg hx hk).2.1 (fun j hj => ht j (List.mem_cons_of_mem _ hj))

theorem eqv_mgc {M : List (List Int)} {E : List Bool} (hg : gm M E = true) {x : Nat} (hx : x < M.length) : Eqv (mgc M E) E (cx (cls M E) x) M E x := fun t ht => by
  have h := cls_fin hg
  have hlE := (gm_iff.1 hg).1.2.2
  have hl : (cls M E).length = M.length := h.len.trans hlE
  have hgm := gm_mgc hg
  have hml : (mgc M E).length = M.length := mgc_len.trans hlE
  have hcx : cx (cls M E) x < M.length := by rw [← hlE]; exact cls_lt (by rw [hlE]; exact hx)
  have h1 := rn_lt hgm t (cx (cls M E) x) (by rw [hml]; exact hcx) ht
  rw [hml] at h1
  exact h.iv.ends _ _ (by rw [hl]; exact h1) (by rw [hl]; exact rn_lt hg t x hx ht) (mgc_eqv hg t x hx ht)

end Go.Proofs.Ytecgjhnihagleaa

namespace Go.Proofs.Ytecgjhnihagleaa
open Go.RowKit Plain Mch Tpc

/-- what holds of the first pair and is handed on holds of all pairs -/
theorem bfs_all {A B : List (List Int)} {Q : Pq → Prop} (hs : ∀ p, Q p → ∀ k, k < 3 → Q (qn A B p k)) : ∀ f i l, (∀ p ∈ l, Q p) → ∀ p ∈ bfs A B f i l, Q p
  | 0, _, _, h => h
  | f + 1, i, l, h => by
    rw [bfs]
    split
    · rename_i hi
      have hp : Q (pq l i) := h _ (List.mem_of_getElem? (pq_at hi))
      have pu1 : ∀ (l : List Pq) (q : Pq), (∀ p ∈ l, Q p) → Q q → ∀ p ∈ pu l q, Q p := fun l q h hq p hm => by
        unfold pu at hm
        split at hm
        · exact h p hm
        · rcases List.mem_append.1 hm with hm | hm
          · exact h p hm
          · simp at hm
            rw [hm]
            exact hq
      exact bfs_all hs f (i + 1) _ (pu1 _ _ (pu1 _ _ (pu1 _ _ h (hs _ hp 0 (by omega))) (hs _ hp 1 (by omega))) (hs _ hp 2 (by omega)))
    · exact h
theorem prs_all {A B : List (List Int)} {Q : Pq → Prop} (h0 : Q ⟨0, 0, ByteArray.empty⟩) (hs : ∀ p, Q p → ∀ k, k < 3 → Q (qn A B p k)) {i : Nat} (hi : i < (prs A B).length) : Q (pq (prs A B) i) :=
  bfs_all hs _ _ _ (fun p hp => by simp at hp; rw [hp]; exact h0) _ (List.mem_of_getElem? (pq_at hi))

/-- a list of pairs, that of all that are reached -/
structure All (A : List (List Int)) (E : List Bool) (B : List (List Int)) (F : List Bool) (P : List Pq) : Prop where
  zero : 0 < P.length ∧ (pq P 0).a = 0 ∧ (pq P 0).b = 0
  next : ∀ i k, i < P.length → k < 3 → ix P (nt A (pq P i).a k) (nt B (pq P i).b k) < P.length
  every : ∀ Q : Pq → Prop, Q ⟨0, 0, ByteArray.empty⟩ → (∀ p, Q p → ∀ k, k < 3 → Q (qn A B p k)) → ∀ i, i < P.length → Q (pq P i)
  own : ∀ i, i < P.length → ix P (pq P i).a (pq P i).b = i

theorem all_prs {A B : List (List Int)} {E F : List Bool} (hA : gm A E = true) (hB : gm B F = true) : ∃ P, P = prs A B ∧ All A E B F P :=
  ⟨_, rfl, prs_zero A B, fun _ _ hi hk => prs_closed hA hB hi hk, fun _ h0 hs _ hi => prs_all h0 hs hi, (prs_met hA hB).own⟩

theorem All.reach {A B : List (List Int)} {E F : List Bool} {P : List Pq} (h : All A E B F P) : ∀ (t : List Nat) i, i < P.length → Ltr t → ∃ j, j < P.length ∧ (pq P j).a = rn A (pq P i).a t ∧ (pq P j).b = rn B (pq P i).b t
  | [], i, hi, _ => ⟨i, hi, rfl, rfl⟩
  | k :: t, i, hi, ht => by
    have hc := h.next i k hi (ht k (by simp))
    obtain ⟨j, hj, e1, e2⟩ := h.reach t _ hc (fun j hj => ht j (List.mem_cons_of_mem _ hj))
    rw [(ix_some hc).1] at e1
    rw [(ix_some hc).2] at e2
    exact ⟨j, hj, e1, e2⟩

theorem All.ends {A B : List (List Int)} {E F : List Bool} {P : List Pq} (h : All A E B F P) : (∀ i, i < P.length → en E (pq P i).a = en F (pq P i).b) ↔ Eqv A E 0 B F 0 := by
  constructor
  · intro he t ht
    obtain ⟨z0, z1, z2⟩ := h.zero
    obtain ⟨j, hj, e1, e2⟩ := h.reach t 0 z0 ht
    have := he j hj
    rw [e1, e2, z1, z2] at this
    exact this
  · intro he i hi
    exact eqv_end (h.every (fun p => Eqv A E p.a B F p.b) he (fun p hp k hk => eqv_next hp hk) i hi)

theorem fdl_iff {P : List Pq} {E F : List Bool} : ¬ fdl P E F < P.length ↔ ∀ i, i < P.length → en E (pq P i).a = en F (pq P i).b := by
  constructor
  · intro h i hi
    by_cases hd : (en E (pq P i).a != en F (pq P i).b) = true
    · exfalso
      have := fdl_at hi (by omega) hd
      omega
    · simpa using hd
  · intro h hlt
    have h1 : (fun p : Pq => en E p.a != en F p.b) (P[fdl P E F]) = true := List.findIdx_getElem (p := fun p : Pq => en E p.a != en F p.b) (xs := P) (w := hlt)
    have e2 : P[fdl P E F] = pq P (fdl P E F) := by have := pq_at hlt; rw [List.getElem?_eq_getElem hlt] at this; simpa using this
    rw [e2] at h1
    have h2 := h _ hlt
    simp at h1
    exact h1 h2

/-- all pairs end alike just if the beginnings tell the same -/
theorem smb_iff {A B : List (List Int)} {E F : List Bool} (hA : gm A E = true) (hB : gm B F = true) : smb A E B F = true ↔ Eqv A E 0 B F 0 := by
  obtain ⟨P, hP, h⟩ := all_prs hA hB
  unfold smb fdx
  rw [← hP, hA, hB, Bool.and_self, Bool.true_and, decide_eq_true_eq, fdl_iff]
  exact h.ends

/-- the least machine, made of the pairs P -/
structure Lea (M : List (List Int)) (E : List Bool) (P : List Pq) : Prop where
  good : gm (leM M E) (leE M E) = true
  len : (leM M E).length = P.length
  all : All (mgc M E) E (mgc M E) E P
  dia : Dia P
  rep : ∀ j, j < P.length → (pq P j).a < M.length ∧ cx (cls M E) (pq P j).a = (pq P j).a
  eqv : ∀ j, j < P.length → Eqv (leM M E) (leE M E) j M E (pq P j).a
  one : ∀ i j, i < P.length → j < P.length → (pq P i).a = (pq P j).a → i = j
  nxt : ∀ j k, j < P.length → k < 3 → nt (leM M E) j k = ix P (nt (mgc M E) (pq P j).a k) (nt (mgc M E) (pq P j).b k)
  ends : ∀ j, j < P.length → en (leE M E) j = en E (pq P j).a

theorem nt_mgcI {M : List (List Int)} {E : List Bool} {x k : Nat} (hx : x < E.length) (hk : k < 3) : nt (mgc M E) x k = cx (cls M E) (nt M x k) := nt_mg (by rw [cls_len]; exact hx) hk

theorem lea {M : List (List Int)} {E : List Bool} (hg : gm M E = true) : ∃ P, P = prs (mgc M E) (mgc M E) ∧ Lea M E P := by
  have hF := cls_fin hg
  have hlE := (gm_iff.1 hg).1.2.2
  have hl : (cls M E).length = M.length := hF.len.trans hlE
  have hA := gm_mgc hg
  have hml : (mgc M E).length = M.length := mgc_len.trans hlE
  have hgl : gm (leM M E) (leE M E) = true := by rw [(le_me hg).1, (le_me hg).2]; exact gm_me (mok_mgc hg)
  obtain ⟨P, hP, hall⟩ := all_prs hA hA
  have hdia : Dia P := by rw [hP]; exact dia_prs _
  have hlen : (leM M E).length = P.length := by unfold leM; rw [if_pos hg, NR_len, hP]
  have hnx : ∀ j k, j < P.length → k < 3 → nt (leM M E) j k = ix P (nt (mgc M E) (pq P j).a k) (nt (mgc M E) (pq P j).b k) := fun j k hj hk => by
    rw [hP] at hj ⊢
    unfold leM
    rw [if_pos hg]
    exact nt_NR hj hk
  have hen : ∀ j, j < P.length → en (leE M E) j = en E (pq P j).a := fun j hj => by
    have e : leE M E = P.map (ben E E) := by unfold leE; rw [if_pos hg, hP]
    rw [e]
    have e3 : en (P.map (ben E E)) j = ben E E (pq P j) := by
      unfold en
      rw [List.getD, List.getElem?_map, pq_at hj]
      rfl
    rw [e3]
    unfold ben
    rw [hdia j hj, Bool.and_self]
  refine ⟨P, hP, ?_⟩
  clear hP
  have hrep : ∀ j, j < P.length → (pq P j).a < M.length ∧ cx (cls M E) (pq P j).a = (pq P j).a := fun j hj => by
    refine hall.every (fun p => p.a < M.length ∧ cx (cls M E) p.a = p.a) ⟨(gm_iff.1 hg).1.1, ?_⟩ (fun p hp k hk => ?_) j hj
    · exact Nat.le_zero.1 (hF.cf.le 0 (by rw [hl]; exact (gm_iff.1 hg).1.1))
    · have e : nt (mgc M E) p.a k = cx (cls M E) (nt M p.a k) := nt_mgcI (by rw [hlE]; exact hp.1) hk
      have hn := (gm_next hg hp.1 hk).2.1
      refine ⟨?_, ?_⟩
      · show nt (mgc M E) p.a k < _
        rw [e, ← hlE]
        exact cls_lt (by rw [hlE]; exact hn)
      · show cx (cls M E) (nt (mgc M E) p.a k) = nt (mgc M E) p.a k
        rw [e]
        exact hF.cf.id _ (by rw [hl]; exact hn)
  have hrn : ∀ (t : List Nat) j, j < P.length → Ltr t → rn (leM M E) j t < P.length ∧ (pq P (rn (leM M E) j t)).a = rn (mgc M E) (pq P j).a t := by
    intro t
    induction t with
    | nil => exact fun j hj _ => ⟨hj, rfl⟩
    | cons k t ih =>
      intro j hj ht
      have hk := ht k (by simp)
      have e := hnx j k hj hk
      have hc := hall.next j k hj hk
      have h2 := ih (nt (leM M E) j k) (by rw [e]; exact hc) (fun i hi => ht i (List.mem_cons_of_mem _ hi))
      have e2 : (pq P (nt (leM M E) j k)).a = nt (mgc M E) (pq P j).a k := by rw [e]; exact (ix_some hc).1
      rw [e2] at h2
      exact h2
  refine ⟨hgl, hlen, hall, hdia, hrep, fun j hj => ?_, fun i j hi hj e => ?_, hnx, hen⟩
  · have h1 : Eqv (leM M E) (leE M E) j (mgc M E) E (pq P j).a := fun t ht => by
      obtain ⟨k1, k2⟩ := hrn t j hj ht
      rw [hen _ k1, k2]
    obtain ⟨r1, r2⟩ := hrep j hj
    have h2 := eqv_mgc hg r1
    rw [r2] at h2
    exact eqv_trans h1 h2
  · have k1 := hall.own i hi
    have k2 := hall.own j hj
    rw [hdia i hi] at k1
    rw [hdia j hj, ← e] at k2
    omega

theorem lea_zero {M : List (List Int)} {E : List Bool} (hg : gm M E = true) : Eqv (leM M E) (leE M E) 0 M E 0 := by
  obtain ⟨P, _, h⟩ := lea hg
  have h1 := h.eqv 0 h.all.zero.1
  rw [h.all.zero.2.1] at h1
  exact h1

/-- states that stand for their classes and tell the same are one -/
theorem rep_one {M : List (List Int)} {E : List Bool} (hg : gm M E = true) {x y : Nat} (hx : x < M.length ∧ cx (cls M E) x = x) (hy : y < M.length ∧ cx (cls M E) y = y) (h : Eqv M E x M E y) : x = y := by
  have := (cls_iff hg hx.1 hy.1).2 h
  rw [hx.2, hy.2] at this
  exact this

end Go.Proofs.Ytecgjhnihagleaa

namespace Go.Proofs.Ytecgjhnihagleaa
open Go.RowKit Plain Mch Tpc

/-- a state that stands for its class -/
def Mch.Rep (M : List (List Int)) (E : List Bool) (x : Nat) : Prop := x < M.length ∧ cx (cls M E) x = x

theorem rep_next {M : List (List Int)} {E : List Bool} (hg : gm M E = true) {r k : Nat} (h : Rep M E r) (hk : k < 3) : Rep M E (nt (mgc M E) r k) ∧ Eqv M E (nt (mgc M E) r k) M E (nt M r k) := by
  have hF := cls_fin hg
  have hlE := (gm_iff.1 hg).1.2.2
  have hl : (cls M E).length = M.length := hF.len.trans hlE
  have e : nt (mgc M E) r k = cx (cls M E) (nt M r k) := nt_mgcI (by rw [hlE]; exact h.1) hk
  have hn := (gm_next hg h.1 hk).2.1
  have hc : cx (cls M E) (nt M r k) < M.length := by rw [← hlE]; exact cls_lt (by rw [hlE]; exact hn)
  have hi := hF.cf.id (nt M r k) (by rw [hl]; exact hn)
  rw [e]
  exact ⟨⟨hc, hi⟩, (cls_iff hg hc hn).1 hi⟩

/-- two lists of pairs, of two machines, that tell the same place by place -/
structure Mir (M : List (List Int)) (E : List Bool) (N : List (List Int)) (F : List Bool) (l l' : List Pq) : Prop where
  len : l.length = l'.length
  d : Dia l
  d' : Dia l'
  rep : ∀ j, j < l.length → Rep M E (pq l j).a
  rep' : ∀ j, j < l'.length → Rep N F (pq l' j).a
  eq : ∀ j, j < l.length → Eqv M E (pq l j).a N F (pq l' j).a

theorem Mir.flip {M N : List (List Int)} {E F : List Bool} {l l' : List Pq} (h : Mir M E N F l l') : Mir N F M E l' l :=
  ⟨h.len.symm, h.d', h.d, h.rep', h.rep, fun j hj => eqv_symm (h.eq j (by rw [h.len]; exact hj))⟩

theorem Mir.ix1 {M N : List (List Int)} {E F : List Bool} {l l' : List Pq} (hN : gm N F = true) (h : Mir M E N F l l') (ho' : ∀ i, i < l'.length → ix l' (pq l' i).a (pq l' i).b = i) {x x' : Nat} (hr' : Rep N F x') (he : Eqv M E x N F x') (hi : ix l x x < l.length) : ix l' x' x' = ix l x x := by
  have h1 := (ix_some hi).1
  have h2 := h.eq _ hi
  rw [h1] at h2
  have h3 := rep_one hN (h.rep' _ (by rw [← h.len]; exact hi)) hr' (eqv_trans (eqv_symm h2) he)
  have h4 := ho' (ix l x x) (by rw [← h.len]; exact hi)
  rw [h.d' _ (by rw [← h.len]; exact hi), h3] at h4
  exact h4

theorem Mir.ix {M N : List (List Int)} {E F : List Bool} {l l' : List Pq} (hM : gm M E = true) (hN : gm N F = true) (h : Mir M E N F l l') (ho : ∀ i, i < l.length → Mch.ix l (pq l i).a (pq l i).b = i) (ho' : ∀ i, i < l'.length → Mch.ix l' (pq l' i).a (pq l' i).b = i) {x x' : Nat} (hr : Rep M E x) (hr' : Rep N F x') (he : Eqv M E x N F x') : Mch.ix l x x = Mch.ix l' x' x' := by
  by_cases h1 : Mch.ix l x x < l.length
  · exact (h.ix1 hN ho' hr' he h1).symm
  · by_cases h2 : Mch.ix l' x' x' < l'.length
    · exact h.flip.ix1 hM ho hr (eqv_symm he) h2
    · have k1 := ix_le l x x
      have k2 := ix_le l' x' x'
      have := h.len
      omega

theorem Mir.pu {M N : List (List Int)} {E F : List Bool} {l l' : List Pq} (hM : gm M E = true) (hN : gm N F = true) (h : Mir M E N F l l') (ho : ∀ i, i < l.length → Mch.ix l (pq l i).a (pq l i).b = i) (ho' : ∀ i, i < l'.length → Mch.ix l' (pq l' i).a (pq l' i).b = i) {q q' : Pq} (hq : q.b = q.a) (hq' : q'.b = q'.a) (hr : Rep M E q.a) (hr' : Rep N F q'.a) (he : Eqv M E q.a N F q'.a) : Mir M E N F (Mch.pu l q) (Mch.pu l' q') := by
  have e := h.ix hM hN ho ho' hr hr' he
  unfold Mch.pu
  rw [hq, hq']
  by_cases h1 : Mch.ix l q.a q.a < l.length
  · rw [if_pos h1, if_pos (by rw [← e, ← h.len]; exact h1)]
    exact h
  · rw [if_neg h1, if_neg (by rw [← e, ← h.len]; exact h1)]
    have last : ∀ (l : List Pq) (q : Pq), pq (l ++ [q]) l.length = q := fun l q => by unfold pq; rw [List.getD, List.getElem?_append_right (Nat.le_refl _)]; simp
    have spl : ∀ (l : List Pq) (q : Pq) j, j < (l ++ [q]).length → (j < l.length ∧ pq (l ++ [q]) j = pq l j) ∨ (j = l.length ∧ pq (l ++ [q]) j = q) := fun l q j hj => by
      rw [List.length_append, List.length_singleton] at hj
      by_cases hl : j < l.length
      · exact .inl ⟨hl, pq_left hl _⟩
      · have : j = l.length := by omega
        subst this
        exact .inr ⟨rfl, last l q⟩
    refine ⟨by rw [List.length_append, List.length_append, h.len]; rfl, fun j hj => ?_, fun j hj => ?_, fun j hj => ?_, fun j hj => ?_, fun j hj => ?_⟩
    · rcases spl l q j hj with ⟨h1, h2⟩ | ⟨h1, h2⟩ <;> rw [h2]
      · exact h.d j h1
      · exact hq
    · rcases spl l' q' j hj with ⟨h1, h2⟩ | ⟨h1, h2⟩ <;> rw [h2]
      · exact h.d' j h1
      · exact hq'
    · rcases spl l q j hj with ⟨h1, h2⟩ | ⟨h1, h2⟩ <;> rw [h2]
      · exact h.rep j h1
      · exact hr
    · rcases spl l' q' j hj with ⟨h1, h2⟩ | ⟨h1, h2⟩ <;> rw [h2]
      · exact h.rep' j h1
      · exact hr'
    · rcases spl l q j hj with ⟨h1, h2⟩ | ⟨h1, h2⟩ <;> rw [h2]
      · rw [pq_left (by rw [← h.len]; exact h1)]
        exact h.eq j h1
      · rw [h1, h.len, last]
        exact he

theorem Mir.stk {M N : List (List Int)} {E F : List Bool} {l l' : List Pq} (hM : gm M E = true) (hN : gm N F = true) (h : Mir M E N F l l') (hm : Mch.Met (mgc M E).length (mgc M E).length l) (hm' : Mch.Met (mgc N F).length (mgc N F).length l') {i : Nat} (hi : i < l.length) : ∀ k, k ≤ 3 → Mir M E N F (Mch.stk (mgc M E) (mgc M E) l (pq l i) k) (Mch.stk (mgc N F) (mgc N F) l' (pq l' i) k)
  | 0, _ => h
  | k + 1, hk => by
    have ih := h.stk hM hN hm hm' hi k (by omega)
    have hi' : i < l'.length := by rw [← h.len]; exact hi
    have k1 := stk_met (gm_mgc hM) (gm_mgc hM) hm hi k (by omega)
    have k2 := stk_met (gm_mgc hN) (gm_mgc hN) hm' hi' k (by omega)
    obtain ⟨r1, r2⟩ := rep_next hM (h.rep i hi) (show k < 3 by omega)
    obtain ⟨r3, r4⟩ := rep_next hN (h.rep' i hi') (show k < 3 by omega)
    have he : Eqv M E (nt (mgc M E) (pq l i).a k) N F (nt (mgc N F) (pq l' i).a k) := eqv_trans r2 (eqv_trans (eqv_next (h.eq i hi) (by omega)) (eqv_symm r4))
    refine ih.pu hM hN k1.own k2.own (q := qn (mgc M E) (mgc M E) (pq l i) k) (q' := qn (mgc N F) (mgc N F) (pq l' i) k) ?_ ?_ r1 r3 he
    · show nt (mgc M E) (pq l i).b k = nt (mgc M E) (pq l i).a k
      rw [h.d i hi]
    · show nt (mgc N F) (pq l' i).b k = nt (mgc N F) (pq l' i).a k
      rw [h.d' i hi']

theorem rep_zero {M : List (List Int)} {E : List Bool} (hg : gm M E = true) : Rep M E 0 := by
  have hF := cls_fin hg
  have h1 := (gm_iff.1 hg).1.1
  exact ⟨h1, Nat.le_zero.1 (hF.cf.le 0 (by rw [hF.len, (gm_iff.1 hg).1.2.2]; exact h1))⟩

theorem mir_all {M N : List (List Int)} {E F : List Bool} (hM : gm M E = true) (hN : gm N F = true) (h : Eqv M E 0 N F 0) {n : Nat} (hn : n = (prs (mgc M E) (mgc M E)).length) : ∀ i, i ≤ n → ∃ l l', At (mgc M E) (mgc M E) i l ∧ At (mgc N F) (mgc N F) i l' ∧ Mir M E N F l l'
  | 0, _ => ⟨_, _, At.start (gm_mgc hM) (gm_mgc hM), At.start (gm_mgc hN) (gm_mgc hN), rfl, dia_one, dia_one, fun j hj => by simp at hj; subst hj; exact rep_zero hM, fun j hj => by simp at hj; subst hj; exact rep_zero hN, fun j hj => by simp at hj; subst hj; exact h⟩
  | i + 1, hi => by
    obtain ⟨l, l', a, a', m⟩ := mir_all hM hN h hn i (by omega)
    by_cases hil : i < l.length
    · have hil' : i < l'.length := by rw [← m.len]; exact hil
      exact ⟨_, _, a.next (gm_mgc hM) (gm_mgc hM) hil, a'.next (gm_mgc hN) (gm_mgc hN) hil', m.stk hM hN a.met a'.met hil 3 (by omega)⟩
    · exfalso
      have h1 := a.le
      have h2 := a.done (gm_mgc hM) (gm_mgc hM) (by omega)
      rw [← h2] at hn
      omega

theorem mir_prs {M N : List (List Int)} {E F : List Bool} (hM : gm M E = true) (hN : gm N F = true) (h : Eqv M E 0 N F 0) : ∃ P P', P = prs (mgc M E) (mgc M E) ∧ P' = prs (mgc N F) (mgc N F) ∧ Mir M E N F P P' := by
  obtain ⟨n, hn⟩ : ∃ n, n = (prs (mgc M E) (mgc M E)).length := ⟨_, rfl⟩
  obtain ⟨l, l', a, a', m⟩ := mir_all hM hN h hn n (Nat.le_refl _)
  have h1 := a.le
  obtain ⟨t, ht⟩ := a.ahead
  have h2 : l.length ≤ n := by rw [hn, ht, List.length_append]; omega
  have e1 := a.done (gm_mgc hM) (gm_mgc hM) (by omega)
  have e2 := a'.done (gm_mgc hN) (gm_mgc hN) (by have := m.len; omega)
  exact ⟨l, l', e1, e2, m⟩

theorem mach_ext {M N : List (List Int)} {E F : List Bool} (hM : gm M E = true) (hN : gm N F = true) (hl : M.length = N.length) (hn : ∀ j k, j < M.length → k < 3 → nt M j k = nt N j k) (he : ∀ j, j < M.length → en E j = en F j) : M = N ∧ E = F := by
  have l1 := (gm_iff.1 hM).1.2.2
  have l2 := (gm_iff.1 hN).1.2.2
  constructor
  · apply List.ext_getElem hl
    intro j j1 j2
    have e1 : M[j] = rx M j := by unfold rx; rw [List.getD, List.getElem?_eq_getElem j1]; rfl
    have e2 : N[j] = rx N j := by unfold rx; rw [List.getD, List.getElem?_eq_getElem j2]; rfl
    rw [e1, e2]
    apply List.ext_getElem?
    intro k
    by_cases hk : k < 3
    · rw [(gm_next hM j1 hk).1, (gm_next hN j2 hk).1, hn j k j1 hk]
    · rw [List.getElem?_eq_none (by rw [(gm_next hM j1 (k := 0) (by omega)).2.2]; omega), List.getElem?_eq_none (by rw [(gm_next hN j2 (k := 0) (by omega)).2.2]; omega)]
  · apply List.ext_getElem?
    intro j
    by_cases hj : j < M.length
    · rw [en_at (by omega), en_at (by omega), he j hj]
    · rw [List.getElem?_eq_none (by omega), List.getElem?_eq_none (by omega)]

/-- one least machine for all that tell the same -/
theorem le_one {M N : List (List Int)} {E F : List Bool} (hM : gm M E = true) (hN : gm N F = true) (h : Eqv M E 0 N F 0) : leM M E = leM N F ∧ leE M E = leE N F := by
  obtain ⟨P, P', e1, e2, m⟩ := mir_prs hM hN h
  obtain ⟨Q, q1, LA⟩ := lea hM
  obtain ⟨Q', q2, LB⟩ := lea hN
  rw [← e1] at q1
  rw [← e2] at q2
  subst q1 q2
  clear e1 e2
  refine mach_ext LA.good LB.good (by rw [LA.len, LB.len, m.len]) (fun j k hj hk => ?_) (fun j hj => ?_)
  · rw [LA.len] at hj
    have hj' : j < Q'.length := by rw [← m.len]; exact hj
    rw [LA.nxt j k hj hk, LB.nxt j k hj' hk, LA.dia j hj, LB.dia j hj']
    obtain ⟨r1, r2⟩ := rep_next hM (m.rep j hj) hk
    obtain ⟨r3, r4⟩ := rep_next hN (m.rep' j hj') hk
    exact m.ix hM hN LA.all.own LB.all.own r1 r3 (eqv_trans r2 (eqv_trans (eqv_next (m.eq j hj) hk) (eqv_symm r4)))
  · rw [LA.len] at hj
    rw [LA.ends j hj, LB.ends j (by rw [← m.len]; exact hj)]
    exact eqv_end (m.eq j hj)

theorem le_iff {M N : List (List Int)} {E F : List Bool} (hM : gm M E = true) (hN : gm N F = true) : (leM M E = leM N F ∧ leE M E = leE N F) ↔ Eqv M E 0 N F 0 := by
  refine ⟨fun h => ?_, le_one hM hN⟩
  have h1 := lea_zero hM
  rw [h.1, h.2] at h1
  exact eqv_trans (eqv_symm h1) (lea_zero hN)

/-- no two states of the least machine are of one class -/
theorem le_classes {M : List (List Int)} {E : List Bool} (hg : gm M E = true) {i : Nat} (hi : i < (leM M E).length) : cx (cls (leM M E) (leE M E)) i = i := by
  obtain ⟨P, _, L⟩ := lea hg
  have hF := cls_fin L.good
  have hlE := (gm_iff.1 L.good).1.2.2
  have hl : (cls (leM M E) (leE M E)).length = (leM M E).length := hF.len.trans hlE
  have hle := hF.cf.le i (by rw [hl]; exact hi)
  have hid := hF.cf.id i (by rw [hl]; exact hi)
  obtain ⟨j, hj⟩ : ∃ j, j = cx (cls (leM M E) (leE M E)) i := ⟨_, rfl⟩
  rw [← hj] at hle hid ⊢
  have hjl : j < (leM M E).length := by omega
  have he := (cls_iff L.good hjl hi).1 (hid.trans hj)
  rw [L.len] at hi hjl
  have h2 := rep_one hg (L.rep j hjl) (L.rep i hi) (eqv_trans (eqv_symm (L.eqv j hjl)) (eqv_trans he (L.eqv i hi)))
  exact L.one j i hjl hi h2

theorem le_mgc {M : List (List Int)} {E : List Bool} (hg : gm M E = true) : mgc (leM M E) (leE M E) = leM M E := by
  obtain ⟨P, _, L⟩ := lea hg
  have hlE := (gm_iff.1 L.good).1.2.2
  refine (mach_ext (gm_mgc L.good) L.good (mgc_len.trans hlE) (fun j k hj hk => ?_) (fun _ _ => rfl)).1
  rw [mgc_len] at hj
  rw [nt_mgcI hj hk]
  exact le_classes hg (gm_next L.good (by rw [← hlE]; exact hj) hk).2.1

theorem le_again {M : List (List Int)} {E : List Bool} (hg : gm M E = true) : leM (leM M E) (leE M E) = leM M E ∧ leE (leM M E) (leE M E) = leE M E := by
  obtain ⟨P, _, L⟩ := lea hg
  exact le_one L.good hg (lea_zero hg)

theorem le_reach {M : List (List Int)} {E : List Bool} (hg : gm M E = true) : (rch (leM M E) (leE M E)).length = (leM M E).length := by
  obtain ⟨P, _, L⟩ := lea hg
  obtain ⟨P2, hP2, L2⟩ := lea L.good
  rw [le_mgc hg] at hP2
  have hl : P2.length = (leM M E).length := by rw [← L2.len, (le_again hg).1]
  unfold rch
  rw [zn_len]
  unfold rcn
  rw [if_pos L.good, ← hP2]
  have hn : (sts P2).Nodup := by rw [hP2]; exact met_nodup (prs_met L.good L.good) (dia_prs _)
  have h1 := congrArg List.length (sort_once hn)
  rw [List.length_mergeSort, zn_len, zn_len, sts_len] at h1
  rw [← h1, hl]

theorem le_less {M : List (List Int)} {E : List Bool} (hg : gm M E = true) : (leM M E).length ≤ M.length := by
  obtain ⟨P, hP, L⟩ := lea hg
  rw [L.len, hP]
  refine Nat.le_trans (dia_few (gm_mgc hg)) ?_
  rw [mgc_len, (gm_iff.1 hg).1.2.2]
  exact Nat.le_refl _

end Go.Proofs.Ytecgjhnihagleaa

namespace Go.Proofs.Ytecgjhnihagleaa
open Go.RowKit Plain Mch Tpc

theorem bt_left {s t : ByteArray} {i : Nat} (h : i < s.size) : bt (s ++ t) i = bt s i := by
  unfold bt
  rw [dif_pos h, dif_pos (by rw [ByteArray.size_append]; omega), ByteArray.getElem_append_left h]

theorem bt_ch {s : ByteArray} {k : Nat} (hk : k < 3) : bt (s ++ ch k) s.size = 97 + k := by
  have h : s.size < (s ++ ch k).size := by rw [ByteArray.size_append, ch_size]; omega
  unfold bt
  rw [dif_pos h, ByteArray.getElem_append_right (Nat.le_refl _)]
  match k, hk with
  | 0, _ => simp only [Nat.sub_self]; rfl
  | 1, _ => simp only [Nat.sub_self]; rfl
  | 2, _ => simp only [Nat.sub_self]; rfl

theorem go_ext {M : List (List Int)} {s t : ByteArray} : ∀ i, (∀ j, j < i → bt s j = bt t j) → go M s i = go M t i
  | 0, _ => rfl
  | i + 1, h => by
    show nt M (go M s i) (lt (bt s i)) = nt M (go M t i) (lt (bt t i))
    rw [go_ext i (fun j hj => h j (by omega)), h i (by omega)]

/-- a pair's text leads to its states -/
def Mch.Led (A B : List (List Int)) (p : Pq) : Prop := abc p.s = true ∧ go A p.s p.s.size = p.a ∧ go B p.s p.s.size = p.b

theorem led_next {A B : List (List Int)} (p : Pq) (h : Led A B p) (k : Nat) (hk : k < 3) : Led A B (qn A B p k) := by
  obtain ⟨h1, h2, h3⟩ := h
  have hsz : (p.s ++ ch k).size = p.s.size + 1 := by rw [ByteArray.size_append, ch_size]
  have hl : lt (bt (p.s ++ ch k) p.s.size) = k := by rw [bt_ch hk]; unfold lt; omega
  refine ⟨?_, ?_, ?_⟩
  · show abc (p.s ++ ch k) = true
    rw [abc_iff]
    intro i hi
    rw [hsz] at hi
    by_cases hlt : i < p.s.size
    · rw [bt_left hlt]
      exact abc_iff.1 h1 i hlt
    · have : i = p.s.size := by omega
      rw [this, bt_ch hk]
      omega
  · show go A (p.s ++ ch k) (p.s ++ ch k).size = nt A p.a k
    rw [hsz]
    show nt A (go A (p.s ++ ch k) p.s.size) (lt (bt (p.s ++ ch k) p.s.size)) = _
    rw [hl, go_ext p.s.size (fun j hj => bt_left hj), h2]
  · show go B (p.s ++ ch k) (p.s ++ ch k).size = nt B p.b k
    rw [hsz]
    show nt B (go B (p.s ++ ch k) p.s.size) (lt (bt (p.s ++ ch k) p.s.size)) = _
    rw [hl, go_ext p.s.size (fun j hj => bt_left hj), h3]

theorem led_zero (A B : List (List Int)) : Led A B ⟨0, 0, ByteArray.empty⟩ := ⟨abc_iff.2 (fun i hi => absurd hi (Nat.not_lt_zero i)), rfl, rfl⟩

theorem smt_parts {A B : List (List Int)} {E F : List Bool} (hA : gm A E = true) (hB : gm B F = true) (h : smb A E B F = false) (hs : (smt A E B F).size ≤ 60) : (rok A E (smt A E B F) = true ∧ rok B F (smt A E B F) = true) ∧ rto A E (smt A E B F) ≠ rto B F (smt A E B F) := by
  obtain ⟨P, hP, hall⟩ := all_prs hA hB
  have hlt : fdl P E F < P.length := by
    unfold smb fdx at h
    rw [← hP, hA, hB, Bool.and_self, Bool.true_and] at h
    simpa using h
  have e : smt A E B F = (pq P (fdl P E F)).s := by
    unfold smt fdx
    rw [← hP, hA, hB, if_pos ⟨rfl, hlt⟩]
  rw [e] at hs ⊢
  obtain ⟨k1, k2, k3⟩ := hall.every (Led A B) (led_zero A B) led_next _ hlt
  have hd : en E (pq P (fdl P E F)).a ≠ en F (pq P (fdl P E F)).b := by
    have h1 : (fun p : Pq => en E p.a != en F p.b) (P[fdl P E F]) = true := List.findIdx_getElem (p := fun p : Pq => en E p.a != en F p.b) (xs := P) (w := hlt)
    have e2 : P[fdl P E F] = pq P (fdl P E F) := by have := pq_at hlt; rw [List.getElem?_eq_getElem hlt] at this; simpa using this
    rw [e2] at h1
    simpa using h1
  have r1 : rok A E (pq P (fdl P E F)).s = true := rok_iff.2 ⟨hA, hs, k1⟩
  have r2 : rok B F (pq P (fdl P E F)).s = true := rok_iff.2 ⟨hB, hs, k1⟩
  refine ⟨⟨r1, r2⟩, ?_⟩
  unfold rto
  rw [r1, r2, Bool.true_and, Bool.true_and, k2, k3]
  exact hd

theorem smt_bad {A B : List (List Int)} {E F : List Bool} (h : (gm A E && gm B F) = false) : smt A E B F = ByteArray.empty := by
  unfold smt
  rw [if_neg (fun e => by rw [h] at e; exact absurd e.1 (by simp))]

theorem same_of {A B : List (List Int)} {E F : List Bool} (h : (gm A E && gm B F) = true) : smb A E B F = decide (leM A E = leM B F ∧ leE A E = leE B F) := by
  rw [Bool.and_eq_true] at h
  have h1 := smb_iff h.1 h.2
  have h2 := le_iff h.1 h.2
  cases hs : smb A E B F with
  | true => exact (decide_eq_true (h2.2 (h1.1 hs))).symm
  | false =>
    refine (decide_eq_false (fun e => ?_)).symm
    have := h1.2 (h2.1 e)
    rw [hs] at this
    cases this

/-- what the law asks of the least machine -/
theorem le_law {M : List (List Int)} {E : List Bool} (hg : gm M E = true) : (gm (leM M E) (leE M E) = true ∧ smb M E (leM M E) (leE M E) = true) ∧ ((∀ i, i < (clo (leM M E) (leE M E)).length → (clo (leM M E) (leE M E))[i]? = some (i : Int)) ∧ (rch (leM M E) (leE M E)).length = (leM M E).length) ∧ (leM (leM M E) (leE M E) = leM M E ∧ leE (leM M E) (leE M E) = leE M E) ∧ (leM M E).length ≤ M.length := by
  obtain ⟨P, _, L⟩ := lea hg
  refine ⟨⟨L.good, (smb_iff hg L.good).2 (eqv_symm (lea_zero hg))⟩, ⟨fun i hi => ?_, le_reach hg⟩, le_again hg, le_less hg⟩
  have e : clo (leM M E) (leE M E) = zn (cls (leM M E) (leE M E)) := by unfold clo; rw [if_pos L.good]
  rw [e] at hi ⊢
  rw [zn_len] at hi
  rw [zn_get hi, le_classes hg (by rw [cls_len, (gm_iff.1 L.good).1.2.2] at hi; exact hi)]

end Go.Proofs.Ytecgjhnihagleaa
