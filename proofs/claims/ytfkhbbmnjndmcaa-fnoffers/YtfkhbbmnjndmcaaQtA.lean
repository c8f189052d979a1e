/- Plays: what is told, against the queue in the end. -/
import Derived.Test.YtfkhbbmnjndmcaaQuD
namespace Go.Proofs.Ytfkhbbmnjndmcaa

namespace Qus
theorem ofM_step {c r : Int} {M : List Int} (hc : 1 ≤ c) : (∀ j, j < M.length → M.getD j 0 ≠ 1 → (ofM c r M).1.getD j 0 = M.getD j 0) ∧ M.length ≤ (ofM c r M).1.length ∧
    ((ofM c r M).2.2 = true → 0 ≤ (ofM c r M).2.1 → (ofM c r M).2.1.toNat < (ofM c r M).1.length ∧ (ofM c r M).1.getD (ofM c r M).2.1.toNat 0 = 3 ∧ (al (ofM c r M).1 3).length = (al M 3).length + 1) ∧
    (¬ ((ofM c r M).2.2 = true ∧ 0 ≤ (ofM c r M).2.1) → (al (ofM c r M).1 3).length = (al M 3).length) := by
  unfold ofM
  by_cases h1 : M.length = 100
  · rw [if_pos h1]
    exact ⟨fun j _ _ => rfl, Nat.le_refl _, fun h => by simp at h, fun _ => rfl⟩
  · rw [if_neg h1]
    by_cases h2 : ((al M 1).length : Int) < c
    · rw [if_pos h2]
      refine ⟨fun j hj _ => app_getD M 1 j hj, by simp, fun _ h => ?_, fun _ => ?_⟩
      · simp at h
      · show (al (M ++ [1]) 3).length = _
        rw [al_app, if_neg (by decide), List.append_nil]
    · rw [if_neg h2]
      obtain ⟨k, hk, hkl, hk1⟩ := dropN_is (r := r) hc h2
      rw [hk, Int.toNat_natCast]
      have e3 : (al ((M ++ [1]).set k 3) 3).length = (al M 3).length + 1 := by
        rw [al_set_in hkl, al_app, if_neg (by decide), List.append_nil]
        have key : ∀ l : List Int, (k : Int) ∉ l → (putZ (k : Int) l).length = l.length + 1 := by
          intro l
          induction l with
          | nil => intro _; rfl
          | cons x l ih =>
            intro hm
            unfold putZ
            split
            · rw [List.length_cons, ih (fun h => hm (List.mem_cons_of_mem _ h))]
              rfl
            · split
              · rename_i e
                exact absurd (by rw [e]; simp) hm
              · rfl
        refine key _ fun hm => ?_
        obtain ⟨_, hlt, e⟩ := al_lt hm
        rw [Int.toNat_natCast] at e
        rw [app_getD M 1 k (by omega), e] at hk1
        simp at hk1
      refine ⟨fun j hj hne => ?_, by simp, fun _ _ => ⟨by simpa using hkl, ?_, e3⟩, fun h => ?_⟩
      · show ((M ++ [1]).set k 3).getD j 0 = _
        rw [getD_set _ _ _ _ hkl]
        by_cases e : j = k
        · subst e
          rw [app_getD M 1 j hj] at hk1
          exact absurd hk1 hne
        · rw [if_neg e, app_getD M 1 j hj]
      · show ((M ++ [1]).set k 3).getD k 0 = 3
        rw [getD_set _ _ _ _ hkl, if_pos rfl]
      · exact absurd ⟨rfl, by simp⟩ h

theorem hnM_step {M : List Int} : (∀ j, j < M.length → M.getD j 0 ≠ 1 → (hnM M).1.getD j 0 = M.getD j 0) ∧ M.length = (hnM M).1.length ∧ (al (hnM M).1 3).length = (al M 3).length ∧
    ((hnM M).2.2 = true → ∃ i : Nat, (hnM M).2.1 = (i : Int) ∧ i < M.length ∧ (hnM M).1.getD i 0 = 2 ∧ ∀ j, j < i → M.getD j 0 ≠ 1) := by
  rcases fstM_nat M 1 with ⟨h1, _⟩ | ⟨i, hi, h1, h3, l, h5⟩
  · have hn : hnM M = (M, 0, false) := by unfold hnM; rw [h1, if_pos (show (-1 : Int) < 0 by decide)]
    rw [hn]
    exact ⟨fun j _ _ => rfl, rfl, rfl, fun h => by simp at h⟩
  · have hn : hnM M = (M.set i 2, (i : Int), true) := by unfold hnM; rw [h1, if_neg (show ¬ (i : Int) < 0 by omega), Int.toNat_natCast]
    rw [hn]
    refine ⟨fun j hj hne => ?_, by simp, ?_, fun _ => ⟨i, rfl, hi, ?_, fun j hj e => ?_⟩⟩
    · show (M.set i 2).getD j 0 = _
      rw [getD_set M i j 2 hi]
      by_cases e : j = i
      · subst e; exact absurd h3 hne
      · rw [if_neg e]
    · show (al (M.set i 2) 3).length = _
      rw [al_set_out hi (by decide), filter_not_mem (fun hm => by
        obtain ⟨_, _, e⟩ := al_lt hm
        rw [Int.toNat_natCast, h3] at e
        simp at e)]
    · show (M.set i 2).getD i 0 = 2
      rw [getD_set M i i 2 hi, if_pos rfl]
    · have hm : (j : Int) ∈ al M 1 := mem_al.2 ⟨j, by omega, rfl, e⟩
      have hs := al_sorted M 1
      rw [h5] at hm hs
      rcases List.mem_cons.1 hm with h | h
      · omega
      · have := (List.pairwise_cons.1 hs).1 _ h; omega

theorem stepP_mono {c r : Int} (hc : 1 ≤ c) (s : List Int × List Int) (b : Bool) : (∀ j, j < s.1.length → s.1.getD j 0 ≠ 1 → (stepP c r s b).1.getD j 0 = s.1.getD j 0) ∧ s.1.length ≤ (stepP c r s b).1.length := by
  unfold stepP
  cases b
  · exact ⟨(hnM_step (M := s.1)).1, Nat.le_of_eq (hnM_step (M := s.1)).2.1⟩
  · exact ⟨(ofM_step (M := s.1) (r := r) hc).1, (ofM_step (M := s.1) (r := r) hc).2.1⟩
theorem fold_mono {c r : Int} (hc : 1 ≤ c) : ∀ (l : List Bool) (s : List Int × List Int), (∀ j, j < s.1.length → s.1.getD j 0 ≠ 1 → (l.foldl (stepP c r) s).1.getD j 0 = s.1.getD j 0) ∧ s.1.length ≤ (l.foldl (stepP c r) s).1.length ∧ ∃ T, (l.foldl (stepP c r) s).2 = s.2 ++ T
  | [], s => ⟨fun _ _ _ => rfl, Nat.le_refl _, [], by simp⟩
  | b :: l, s => by
    obtain ⟨h1, h2⟩ := stepP_mono (r := r) hc s b
    obtain ⟨i1, i2, T, i3⟩ := fold_mono hc l (stepP c r s b)
    rw [List.foldl_cons]
    obtain ⟨x, hx⟩ : ∃ x, (stepP c r s b).2 = s.2 ++ [x] := ⟨_, rfl⟩
    refine ⟨fun j hj hne => ?_, Nat.le_trans h2 i2, x :: T, ?_⟩
    · rw [i1 j (by omega) (by rw [h1 j hj hne]; exact hne), h1 j hj hne]
    · rw [i3]
      rw [hx, List.append_assoc]
      rfl

/-- all up to the last one that was handed on wait no more -/
structure HIn (h : Int) (M : List Int) : Prop where
  lo : -1 ≤ h
  hi : h < M.length
  no : ∀ j : Nat, (j : Int) ≤ h → M.getD j 0 ≠ 1

theorem HIn.nil : HIn (-1) [] := ⟨by omega, by simp, fun j hj => by omega⟩

/-- one step of a play, told against its end -/
theorem play_at {c r : Int} {l : List Bool} (hc : 1 ≤ c) {k : Nat} {b : Bool} (hk : l[k]? = some b) {h : Int} (hh : HIn h (plP c r (l.take k)).1) :
    ∃ t : Int, (plP c r l).2[k]? = some t ∧ -2 ≤ t ∧ t ≤ (plP c r l).1.length ∧
      (b = true → ((0 ≤ t → t ∈ al (plP c r l).1 3 ∧ (al (plP c r (l.take (k + 1))).1 3).length = (al (plP c r (l.take k)).1 3).length + 1) ∧ (t < 0 → (al (plP c r (l.take (k + 1))).1 3).length = (al (plP c r (l.take k)).1 3).length) ∧ HIn h (plP c r (l.take (k + 1))).1)) ∧
      (b = false → ((al (plP c r (l.take (k + 1))).1 3).length = (al (plP c r (l.take k)).1 3).length ∧ (0 ≤ t → h < t ∧ t ∈ al (plP c r l).1 2 ∧ HIn t (plP c r (l.take (k + 1))).1) ∧ (t < 0 → HIn h (plP c r (l.take (k + 1))).1))) := by
  have hkl := (List.getElem?_eq_some_iff.1 hk).1
  have hst := plP_step c r l k b hk
  have hlen : (plP c r (l.take k)).2.length = k := by rw [plP_len, List.length_take]; omega
  obtain ⟨f1, f2, T, f3⟩ := fold_mono (r := r) hc (l.drop (k + 1)) (plP c r (l.take (k + 1)))
  have hall : (l.drop (k + 1)).foldl (stepP c r) (plP c r (l.take (k + 1))) = plP c r l := by
    unfold plP
    rw [← List.foldl_append, List.take_append_drop]
  rw [hall] at f1 f2 f3
  generalize plP c r (l.take k) = S at hst hlen hh ⊢
  generalize plP c r (l.take (k + 1)) = S1 at hst f1 f2 f3 ⊢
  generalize plP c r l = E at f1 f2 f3 ⊢
  obtain ⟨M, T0⟩ := S
  dsimp only at hlen hh ⊢
  have hT : ∀ t : Int, S1.2 = T0 ++ [t] → E.2[k]? = some t := fun t ht => by
    rw [f3, ht, List.append_assoc, List.getElem?_append_right (by omega), hlen]
    simp
  have hin : ∀ (a : Int) (i : Nat), i < S1.1.length → S1.1.getD i 0 = a → a ≠ 1 → (i : Int) ∈ al E.1 a := fun a i hi ha hne => mem_al.2 ⟨i, by omega, rfl, by rw [f1 i hi (by rw [ha]; exact hne)]; exact ha⟩
  cases b with
  | true =>
    obtain ⟨o1, o2, o3, o4⟩ := ofM_step (M := M) (r := r) hc
    have e1 : S1 = ((ofM c r M).1, T0 ++ [if (ofM c r M).2.2 then (ofM c r M).2.1 else -2]) := hst
    have hH : HIn h S1.1 := by
      rw [e1]
      have h2 := hh.hi
      exact ⟨hh.lo, by show h < ((ofM c r M).1.length : Int); omega, fun j hj => by show (ofM c r M).1.getD j 0 ≠ 1; rw [o1 j (by omega) (hh.no j hj)]; exact hh.no j hj⟩
    refine ⟨_, hT _ (by rw [e1]), ?_, ?_, fun _ => ⟨fun h0 => ?_, fun h0 => ?_, hH⟩, fun h => by simp at h⟩
    · split
      · rename_i hx
        by_cases h0 : 0 ≤ (ofM c r M).2.1
        · omega
        · unfold ofM at h0 hx ⊢
          split at hx
          · simp at hx
          · split at hx
            · rename_i n1 n2
              rw [if_neg n1, if_pos n2]
              show (-2 : Int) ≤ -1
              decide
            · rename_i n1 n2
              rw [if_neg n1, if_neg n2] at h0
              obtain ⟨k', hk', _⟩ := dropN_is (r := r) hc n2
              rw [hk'] at h0
              simp at h0
      · decide
    · split
      · rename_i hx
        by_cases h0 : 0 ≤ (ofM c r M).2.1
        · have := (o3 hx h0).1
          rw [e1] at f2
          dsimp only at f2
          omega
        · omega
      · omega
    · split at h0
      · rename_i hx
        rw [if_pos hx]
        obtain ⟨p1, p2, p3⟩ := o3 hx h0
        have e : (((ofM c r M).2.1.toNat : Nat) : Int) = (ofM c r M).2.1 := by omega
        have := hin 3 (ofM c r M).2.1.toNat (by rw [e1]; exact p1) (by rw [e1]; exact p2) (by decide)
        rw [e] at this
        exact ⟨this, by rw [e1]; exact p3⟩
      · simp at h0
    · rw [e1]
      refine o4 fun hx => ?_
      rw [if_pos hx.1] at h0
      omega
  | false =>
    obtain ⟨o1, o2, o3, o4⟩ := hnM_step (M := M)
    have e1 : S1 = ((hnM M).1, T0 ++ [if (hnM M).2.2 then (hnM M).2.1 else -2]) := hst
    have hH : HIn h S1.1 := by
      rw [e1]
      have h2 := hh.hi
      exact ⟨hh.lo, by show h < ((hnM M).1.length : Int); omega, fun j hj => by show (hnM M).1.getD j 0 ≠ 1; rw [o1 j (by omega) (hh.no j hj)]; exact hh.no j hj⟩
    cases hx : (hnM M).2.2 with
    | false =>
      rw [hx] at e1
      exact ⟨-2, hT _ (by rw [e1]; rfl), by decide, by omega, fun h => by simp at h, fun _ => ⟨by rw [e1]; exact o3, fun h0 => by simp at h0, fun _ => hH⟩⟩
    | true =>
      obtain ⟨i, hi, hil, hi2, hno⟩ := o4 hx
      rw [hx, hi] at e1
      have hS : S1.1 = (hnM M).1 := by rw [e1]
      refine ⟨(i : Int), hT _ (by rw [e1]; rfl), by omega, by rw [hS] at f2; omega, fun h => by simp at h, fun _ => ⟨by rw [hS]; exact o3, fun _ => ⟨?_, hin 2 i (by rw [hS]; omega) (by rw [hS]; exact hi2) (by decide), ?_⟩, fun h0 => by omega⟩⟩
      · by_cases hlt : h < (i : Int)
        · exact hlt
        · have hone : M.getD i 0 = 1 := by
            rcases fstM_nat M 1 with ⟨h1, _⟩ | ⟨i', _, h1, h3, _⟩
            · unfold hnM at hx
              rw [h1, if_pos (show (-1 : Int) < 0 by decide)] at hx
              simp at hx
            · unfold hnM at hi
              rw [h1, if_neg (show ¬ (i' : Int) < 0 by omega)] at hi
              have : i' = i := by have : (i' : Int) = i := hi; omega
              rw [← this]
              exact h3
          exact absurd hone (hh.no i (by omega))
      · rw [hS]
        refine ⟨by omega, by omega, fun j hj => ?_⟩
        by_cases e : j = i
        · subst e; rw [hi2]; decide
        · rw [o1 j (by omega) (hno j (by omega))]
          exact hno j (by omega)
end Qus

end Go.Proofs.Ytfkhbbmnjndmcaa
