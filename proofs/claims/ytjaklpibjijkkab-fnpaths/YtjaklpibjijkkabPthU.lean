/- No two types of a good schema have one path. -/
import Derived.Test.YtjaklpibjijkkabPthA
namespace Go.Proofs.Ytjaklpibjijkkab.Sch
open Plain

theorem dot_split : ∀ (a a' n n' : List UInt8), 46 ∉ n → 46 ∉ n' → a ++ 46 :: n = a' ++ 46 :: n' → a = a' ∧ n = n'
  | [], [], n, n', _, _, h => by simpa using h
  | [], x :: a', n, n', hn, _, h => by
    rw [List.nil_append, List.cons_append] at h
    have := (List.cons.inj h).2
    rw [this] at hn
    simp at hn
  | x :: a, [], n, n', _, hn', h => by
    rw [List.nil_append, List.cons_append] at h
    have := (List.cons.inj h).2
    rw [← this] at hn'
    simp at hn'
  | x :: a, y :: a', n, n', hn, hn', h => by
    rw [List.cons_append, List.cons_append] at h
    obtain ⟨h1, h2⟩ := List.cons.inj h
    obtain ⟨h3, h4⟩ := dot_split a a' n n' hn hn' h2
    exact ⟨by rw [h1, h3], h4⟩

theorem name_nodot {n : ByteArray} (h : isName n = true) : (46 : UInt8) ∉ n.data.toList := by
  unfold isName at h
  rw [decide_eq_true_eq] at h
  intro hm
  obtain ⟨i, hi, he⟩ := List.getElem_of_mem hm
  have hi' : i < n.size := by rw [Array.length_toList] at hi; exact hi
  have := h.2.2 i hi'
  rw [← bt_get n i hi'] at this
  have e : (n[i]'hi') = 46 := by rw [← he]; rfl
  rw [e] at this
  have h46 : (46 : UInt8).toNat = 46 := rfl
  omega

/-- the name of a part of a message -/
theorem gs_name (T : List Ty) (h : gs T = true) (k u : Nat) (h0 : 0 < k) (hk : k < T.length) (hu : (ty T k).up = (u : Int)) (h5 : (ty T u).kind = 5) : isName (ty T k).name = true ∧ sis T k = true := by
  have hT := (gs_parts T h).2.2.1 k hk
  unfold typeOk partOk at hT
  rw [if_neg (by omega), hu, Int.toNat_natCast, if_neg (by omega)] at hT
  simp only [Bool.and_eq_true] at hT
  exact ⟨hT.2.2.1.1.1, hT.2.2.2⟩

theorem same_kid (T : List Ty) (h : gs T = true) (k k' u : Nat) (h0 : 0 < k) (h0' : 0 < k') (hk : k < T.length) (hk' : k' < T.length) (hu : (ty T k).up = (u : Int)) (hu' : (ty T k').up = (u : Int)) (h5 : (ty T u).kind = 5) (hn : (ty T k).name = (ty T k').name) : k = k' := by
  have s1 := (gs_name T h k u h0 hk hu h5).2
  have s2 := (gs_name T h k' u h0' hk' hu' h5).2
  unfold sis at s1 s2
  rw [decide_eq_true_eq] at s1 s2
  by_cases hlt : k < k'
  · have := s2 k hlt
    unfold sisBad at this
    rw [hu, hu', hn] at this
    simp at this
  · by_cases hgt : k' < k
    · have := s1 k' hgt
      unfold sisBad at this
      rw [hu, hu', hn] at this
      simp at this
    · omega

theorem path_unique (T : List Ty) (h : gs T = true) (k : Nat) : ∀ k' p, k < T.length → k' < T.length → path T k = some p → path T k' = some p → k = k' := by
  induction k using Nat.strongRecOn with
  | ind k ih =>
    intro k' p hk hk' hp hp'
    have hs := (path_size T h k hk p hp).2
    have hs' := (path_size T h k' hk' p hp').2
    by_cases h0 : k = 0
    · have : p.size = 0 := hs.2 h0
      have := hs'.1 this
      omega
    · by_cases h0' : k' = 0
      · have : p.size = 0 := hs'.2 h0'
        have := hs.1 this
        omega
      · obtain ⟨u, hu, huk, _, _⟩ := gs_up T h k (by omega) hk
        obtain ⟨u', hu', huk', _, _⟩ := gs_up T h k' (by omega) hk'
        by_cases h5 : (ty T u).kind = 5
        · by_cases h5' : (ty T u').kind = 5
          · cases hq : path T u with
            | none => rw [path_none T k u (by omega) hu huk h5 hq] at hp; cases hp
            | some q =>
              cases hq' : path T u' with
              | none => rw [path_none T k' u' (by omega) hu' huk' h5' hq'] at hp'; cases hp'
              | some q' =>
                rw [path_some T k u (by omega) hu huk h5 q hq] at hp
                rw [path_some T k' u' (by omega) hu' huk' h5' q' hq'] at hp'
                have hz := (path_size T h u (by omega) q hq).2
                have hz' := (path_size T h u' (by omega) q' hq').2
                have hn := name_nodot (gs_name T h k u (by omega) hk hu h5).1
                have hn' := name_nodot (gs_name T h k' u' (by omega) hk' hu' h5').1
                have heq : (if q.size = 0 then (ty T k).name else q ++ ⟨#[46]⟩ ++ (ty T k).name) = (if q'.size = 0 then (ty T k').name else q' ++ ⟨#[46]⟩ ++ (ty T k').name) := by
                  rw [← hp'] at hp
                  exact Option.some.inj hp
                have hl : ∀ (a n : ByteArray), (a ++ ⟨#[46]⟩ ++ n).data.toList = a.data.toList ++ 46 :: n.data.toList := fun a n => by simp
                by_cases hq0 : q.size = 0
                · rw [if_pos hq0] at heq
                  by_cases hq0' : q'.size = 0
                  · rw [if_pos hq0'] at heq
                    have e1 := hz.1 hq0
                    have e2 := hz'.1 hq0'
                    subst e1; subst e2
                    exact same_kid T h k k' 0 (by omega) (by omega) hk hk' hu hu' h5 heq
                  · rw [if_neg hq0'] at heq
                    have := congrArg (fun x : ByteArray => x.data.toList) heq
                    rw [hl] at this
                    rw [this] at hn
                    simp at hn
                · rw [if_neg hq0] at heq
                  by_cases hq0' : q'.size = 0
                  · rw [if_pos hq0'] at heq
                    have := congrArg (fun x : ByteArray => x.data.toList) heq
                    rw [hl] at this
                    rw [← this] at hn'
                    simp at hn'
                  · rw [if_neg hq0'] at heq
                    have := congrArg (fun x : ByteArray => x.data.toList) heq
                    rw [hl, hl] at this
                    obtain ⟨e1, e2⟩ := dot_split _ _ _ _ hn hn' this
                    have e1' : q = q' := ByteArray.ext (Array.toList_inj.1 e1)
                    have e2' : (ty T k).name = (ty T k').name := ByteArray.ext (Array.toList_inj.1 e2)
                    subst e1'
                    have e3 := ih u huk u' q (by omega) (by omega) hq hq'
                    subst e3
                    exact same_kid T h k k' u (by omega) (by omega) hk hk' hu hu' h5 e2'
          · rw [path_list T k' u' (by omega) hu' huk' h5'] at hp'; cases hp'
        · rw [path_list T k u (by omega) hu huk h5] at hp; cases hp

/-- each path leads to its type -/
theorem tat_of_pof (T : List Ty) (k : Int) (p : ByteArray) (h : pof T k = (p, true)) : ((tat T p).1 : Int) = k ∧ (tat T p).2 = true := by
  unfold pof at h
  split at h
  · rename_i hc
    cases hq : path T k.toNat with
    | none => rw [hq] at h; simp [po] at h
    | some q =>
      rw [hq] at h
      simp only [po, Prod.mk.injEq, and_true] at h
      subst h
      have := tat_found T q hc.1 k.toNat (by omega) hq (fun j hj hjp => by
        have := path_unique T hc.1 j k.toNat q (by omega) (by omega) hjp hq
        omega)
      rw [this]
      exact ⟨by show ((k.toNat : Nat) : Int) = k; omega, rfl⟩
  · simp at h

theorem pof_of_tat (T : List Ty) (p : ByteArray) (h : (tat T p).2 = true) : pof T ((tat T p).1 : Int) = (p, true) := by
  by_cases hg : gs T = true
  · unfold tat at h ⊢
    rw [if_pos hg] at h ⊢
    cases hf : (List.range T.length).find? (fun k => decide (path T k = some p)) with
    | none => rw [hf] at h; simp at h
    | some k =>
      have h1 := List.find?_some hf
      have h2 := List.mem_of_find?_eq_some hf
      rw [decide_eq_true_eq] at h1
      show pof T (k : Int) = _
      rw [pof_yes T k hg (List.mem_range.1 h2), h1]
      rfl
  · rw [tat_no T p (by simpa using hg)] at h; simp at h

theorem tat_zero (T : List Ty) (p : ByteArray) (h : (tat T p).2 = false) : (tat T p).1 = 0 := by
  unfold tat at h ⊢
  split
  · rename_i hg
    rw [if_pos hg] at h
    split
    · rfl
    · rename_i k hf
      rw [hf] at h
      simp at h
  · rfl

end Go.Proofs.Ytjaklpibjijkkab.Sch
