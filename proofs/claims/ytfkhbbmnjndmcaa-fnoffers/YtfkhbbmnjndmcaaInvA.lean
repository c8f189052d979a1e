/- A region that draws its order, by one condition on what has come up. -/
import Derived.Test.YtfkhbbmnjndmcaaZnA
import Derived.Deep.RegionHeld3
import Derived.Deep.DeepCutAuto
namespace Go.Proofs.Ytfkhbbmnjndmcaa
open Go.RowKit

/-! ### a region that draws its order, by one condition on what has come up -/

theorem count_set {l : Array Bool} {i : Nat} (h : l.getD i true = false) : (l.setIfInBounds i true).toList.count false + 1 = l.toList.count false := by
  obtain ⟨l⟩ := l
  simp only [Array.getD] at h
  by_cases hi : i < l.length
  · have hv : l[i] = false := by simpa [hi] using h
    simp only [List.setIfInBounds_toArray]
    clear h
    induction l generalizing i with
    | nil => simp at hi
    | cons a l ih =>
      cases i with
      | zero =>
        simp at hv
        subst hv
        simp
      | succ i =>
        simp at hv hi
        have := ih (i := i) hi hv
        simp only [List.set_cons_succ, List.count_cons]
        omega
  · simp [hi] at h

theorem wpAnyH_inv {P : Program} {ops : Array Oper} {Q : Exit → Act → World → Prop} {md : Region.Mode} (I : Array Bool → Act → World → Prop)
    (step : ∀ l a w i, I l a w → i ∈ Region.ready md ops l → ∀ K : Act → World → Prop, (∀ a' w', I (l.setIfInBounds i true) a' w' → K a' w') → wpOp P ops Q i K a w)
    (fin : ∀ l a w, I l a w → Region.ready md ops l = [] → Q .normal a w) :
    ∀ (fuel : Nat) (l : Array Bool) (a : Act) (w : World), I l a w → l.toList.count false ≤ fuel → wpAnyH P md ops Q (fun _ => True) fuel l a w
  | 0, l, a, w, hI, hc => by
    have h0 : Region.ready md ops l = [] := by
      rw [List.eq_nil_iff_forall_not_mem]
      intro i hi
      have := count_set (mem_ready.1 hi).1
      omega
    exact ⟨h0, fin l a w hI h0⟩
  | fuel + 1, l, a, w, hI, hc => by
    refine ⟨fun h0 => fin l a w hI h0, fun i hi => ?_⟩
    have := count_set (mem_ready.1 hi).1
    exact step l a w i hI hi _ (fun a' w' h' => ⟨trivial, wpAnyH_inv I step fin fuel _ a' w' h' (by omega)⟩)

theorem getD_ne {l : Array Bool} {i j : Nat} (h : (l.setIfInBounds i true).getD j false = true) (hne : i ≠ j) : l.getD j false = true := by
  rwa [getD_set_ne false hne] at h

theorem ready_deps {md : Region.Mode} {ops : Array Oper} {l : Array Bool} {i : Nat} {o : Oper} (h : i ∈ Region.ready md ops l) (ho : ops[i]? = some o) : ∀ e ∈ o.after, Region.binds md e = true → l.getD e.on false = true := by
  obtain ⟨_, o', ho', hd⟩ := mem_ready.1 h
  rw [ho] at ho'
  cases ho'
  exact hd

theorem ready_lt {md : Region.Mode} {ops : Array Oper} {l : Array Bool} {i : Nat} (h : i ∈ Region.ready md ops l) : i < ops.size := by
  obtain ⟨_, o', ho', _⟩ := mem_ready.1 h
  exact (Array.getElem?_eq_some_iff.1 ho').1

theorem getD_off {l : Array Bool} {i j : Nat} (h : (l.setIfInBounds i true).getD j false = false) (hne : i ≠ j) : l.getD j false = false := by
  rwa [getD_set_ne false hne] at h

theorem getD_on {l : Array Bool} {i : Nat} (hi : i < l.size) : (l.setIfInBounds i true).getD i false = true := by simp [hi]

theorem ready_off {md : Region.Mode} {ops : Array Oper} {l : Array Bool} {i : Nat} (h : i ∈ Region.ready md ops l) (hs : i < l.size) : l.getD i false = false := by
  have := (mem_ready.1 h).1
  simpa [hs] using this

/-- one that has not come up though all ahead of it have may come up -/
theorem listed_of {md : Region.Mode} {ops : Array Oper} {l : Array Bool} (h0 : Region.ready md ops l = []) (i : Nat) (o : Oper) (hs : i < l.size) (ho : ops[i]? = some o) (hd : ∀ e ∈ o.after, l.getD e.on false = true) : l.getD i false = true := by
  rcases Bool.eq_false_or_eq_true (l.getD i false) with h | h
  · exact h
  · have hi : i ∈ Region.ready md ops l := mem_ready.2 ⟨by
      simp only [Array.getD, dif_pos hs] at h ⊢
      exact h, o, ho, fun e he _ => hd e he⟩
    rw [h0] at hi
    cases hi

theorem diff_ty {w : World} {B B' e e' c c' n n' : Nat} {u v : Value} {xs ys : List Value} (h : w.ownsRow B e c u n xs) (h' : w.ownsRow B' e' c' v n' ys) (hne : e ≠ e') : ∀ g, u.ownBlock = some g → v.ownBlock ≠ some g := fun g hg hv => by
  rcases h.2 with ⟨rfl, _⟩ | ⟨g1, c1, cur1, rfl, _, hh1, _⟩
  · simp [Value.ownBlock] at hg
  · rcases h'.2 with ⟨rfl, _⟩ | ⟨g2, c2, cur2, rfl, _, hh2, _⟩
    · simp [Value.ownBlock] at hv
    · simp [Value.ownBlock] at hg hv
      subst hg hv
      rw [hh1] at hh2
      simp at hh2
      exact hne hh2.2

end Go.Proofs.Ytfkhbbmnjndmcaa
