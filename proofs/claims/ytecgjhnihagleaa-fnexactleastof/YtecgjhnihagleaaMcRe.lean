/- What is reached, in plain words: a machine beside itself; its states sorted. -/
import Derived.Test.YtecgjhnihagleaaMcYa
import Derived.Test.YtecgjhnihagleaaToE
namespace Go.Proofs.Ytecgjhnihagleaa
open Plain Mch Tpc

/-- pairs of one state twice -/
def Mch.Dia (l : List Pq) : Prop := ∀ i, i < l.length → (pq l i).b = (pq l i).a

theorem dia_pu {l : List Pq} {q : Pq} (h : Dia l) (hq : q.b = q.a) : Dia (pu l q) := by
  unfold pu
  split
  · exact h
  · intro i hi
    rw [List.length_append, List.length_singleton] at hi
    by_cases e : i = l.length
    · rw [e, show pq (l ++ [q]) l.length = q by unfold pq; rw [List.getD, List.getElem?_append_right (Nat.le_refl _)]; simp]
      exact hq
    · rw [pq_left (by omega)]
      exact h i (by omega)
theorem dia_stk {M : List (List Int)} {l : List Pq} {p : Pq} (h : Dia l) (hp : p.b = p.a) : ∀ k, Dia (stk M M l p k)
  | 0 => h
  | k + 1 => dia_pu (dia_stk h hp k) (by show nt M p.b k = nt M p.a k; rw [hp])
theorem dia_bfs (M : List (List Int)) : ∀ f i l, Dia l → Dia (bfs M M f i l)
  | 0, _, _, h => h
  | f + 1, i, l, h => by
    rw [bfs]
    split
    · rename_i hi
      exact dia_bfs M f (i + 1) _ (dia_stk h (h i hi) 3)
    · exact h
theorem dia_one : Dia [⟨0, 0, ByteArray.empty⟩] := fun i hi => by
  simp at hi
  subst hi
  rfl
theorem dia_prs (M : List (List Int)) : Dia (prs M M) := dia_bfs M _ _ _ dia_one

/-- the states, as they come -/
def Mch.sts (l : List Pq) : List Nat := l.map Pq.a
theorem sts_len (l : List Pq) : (sts l).length = l.length := by simp [sts]
theorem sts_at {l : List Pq} {i : Nat} (h : i < l.length) : (sts l)[i]? = some (pq l i).a := by
  unfold sts
  rw [List.getElem?_map, pq_at h]
  rfl
theorem sts_mem {l : List Pq} (h : Dia l) (x : Nat) : x ∈ sts l ↔ ix l x x < l.length := by
  constructor
  · intro hx
    obtain ⟨i, hi, e⟩ := List.getElem_of_mem hx
    rw [sts_len] at hi
    have e2 := sts_at hi
    rw [List.getElem?_eq_getElem (by rw [sts_len]; exact hi), e] at e2
    simp at e2
    by_cases hlt : ix l x x < l.length
    · exact hlt
    · exfalso
      have := ix_le l x x
      exact ix_first (l := l) (a := x) (b := x) (i := i) (by omega) ⟨e2.symm, by rw [h i hi]; exact e2.symm⟩
  · intro hx
    have h1 := (ix_some hx).1
    have h2 := sts_at hx
    rw [h1] at h2
    exact List.mem_of_getElem? h2
theorem sts_pu {l : List Pq} {q : Pq} (h : Dia l) (hq : q.b = q.a) : sts (pu l q) = if q.a ∈ sts l then sts l else sts l ++ [q.a] := by
  unfold pu
  by_cases hx : ix l q.a q.b < l.length
  · rw [if_pos hx, if_pos ((sts_mem h q.a).2 (by rw [hq] at hx; exact hx))]
  · rw [if_neg hx, if_neg (fun e => hx (by rw [hq]; exact (sts_mem h q.a).1 e))]
    simp [sts]

theorem met_nodup {n m : Nat} {l : List Pq} (h : Mch.Met n m l) (hd : Dia l) : (sts l).Nodup := by
  unfold List.Nodup
  rw [List.pairwise_iff_getElem]
  intro i j hi hj hij e
  rw [sts_len] at hi hj
  have e1 := sts_at hi
  have e2 := sts_at hj
  rw [List.getElem?_eq_getElem (by rw [sts_len]; exact hi)] at e1
  rw [List.getElem?_eq_getElem (by rw [sts_len]; exact hj)] at e2
  simp only [Option.some.injEq] at e1 e2
  rw [e1, e2] at e
  have k1 := h.own i hi
  have k2 := h.own j hj
  rw [hd i hi] at k1
  rw [hd j hj, ← e] at k2
  omega

/-- what ReachedOf tells -/
def Mch.rcn (M : List (List Int)) (E : List Bool) : List Nat := if gm M E then puts [] (sts (prs M M)) else []
def Mch.rch (M : List (List Int)) (E : List Bool) : List Int := zn (rcn M E)

theorem zn_len (l : List Nat) : (zn l).length = l.length := by unfold zn; rw [List.length_map]

theorem sts_low {M : List (List Int)} {E : List Bool} (h : gm M E = true) : ∀ x ∈ sts (prs M M), x < M.length := fun x hx => by
  obtain ⟨i, hi, e⟩ := List.getElem_of_mem hx
  rw [sts_len] at hi
  have e2 := sts_at hi
  rw [List.getElem?_eq_getElem (by rw [sts_len]; exact hi), e] at e2
  simp at e2
  rw [e2]
  exact ((prs_met h h).lo i hi).1

theorem reach_len (M : List (List Int)) (E : List Bool) : (rch M E).length ≤ 12 := by
  unfold rch
  rw [zn_len]
  unfold rcn
  cases h : gm M E with
  | false => simp
  | true =>
    rw [if_pos rfl]
    have h12 := (gm_iff.1 h).1.2.1
    refine Nat.le_trans (few (n := M.length) ?_ ?_) h12
    · exact (puts_sorted _ [] List.Pairwise.nil).imp (fun h => by omega)
    · intro x hx
      rcases (puts_mem x _ []).1 hx with h' | h'
      · simp at h'
      · exact sts_low h x h'

/-- what is sorted and has nothing twice -/
theorem sort_once {l : List Nat} (hn : l.Nodup) : ((zn l).mergeSort fun x y => decide (x ≤ y)) = zn (puts [] l) := by
  have hnz : (zn l).Nodup := by
    unfold zn List.Nodup
    rw [List.pairwise_map]
    exact hn.imp (fun h e => h (by omega))
  have hs : ((zn l).mergeSort fun x y => decide (x ≤ y)).Pairwise (fun a b => a ≤ b) := by
    refine (List.pairwise_mergeSort (le := fun x y => decide (x ≤ y)) (by intro a b c h1 h2; simp at h1 h2 ⊢; omega) (by intro a b; simp; omega) (zn l)).imp ?_
    intro a b h
    simpa using h
  have hp : ((zn l).mergeSort fun x y => decide (x ≤ y)).Nodup := (List.mergeSort_perm (zn l) _).nodup_iff.2 hnz
  refine Wan.sorted_ext _ _ ?_ ?_ (fun x => ?_)
  · have h3 := hs.and hp
    exact h3.imp (fun h => by obtain ⟨h1, h2⟩ := h; omega)
  · unfold zn
    rw [List.pairwise_map]
    exact (puts_sorted l [] List.Pairwise.nil).imp (fun h => by omega)
  · rw [List.mem_mergeSort]
    unfold zn
    rw [List.mem_map, List.mem_map]
    constructor
    · rintro ⟨n, hn, rfl⟩
      exact ⟨n, (puts_mem n l []).2 (.inr hn), rfl⟩
    · rintro ⟨n, hn, rfl⟩
      rcases (puts_mem n l []).1 hn with h | h
      · simp at h
      · exact ⟨n, h, rfl⟩

end Go.Proofs.Ytecgjhnihagleaa
