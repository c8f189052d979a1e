/- What a piece has to be to fit a type, kind by kind. -/
import Derived.Test.YtpajdmhakdbkjaaGv
namespace Go.Proofs.Ytpajdmhakdbkjaa
open Plain Sch

theorem fp_open (d : Nat) (up : Int) (s : Nat) (h : Ty) (M : List Ty) (t : Tr) :
    Fp d up (s, h :: M) t ↔ ∃ vs, M = flatL vs s (s + 1) ∧ h.up = up ∧ h.no = t.no ∧ vfits d (.mk h.kind h.name h.no h.must h.most vs) t = true := by
  unfold Fp
  dsimp only
  constructor
  · rintro ⟨v, hv, hn, hf⟩
    cases v with
    | mk k n no m mo vs =>
      rw [flat] at hv
      simp only [List.cons.injEq] at hv
      obtain ⟨rfl, hM⟩ := hv
      exact ⟨vs, hM, rfl, hn, hf⟩
  · rintro ⟨vs, hM, hu, hn, hf⟩
    refine ⟨.mk h.kind h.name h.no h.must h.most vs, ?_, hn, hf⟩
    rw [flat, ← hM, ← hu]

theorem headOk_iff (v t : Tr) : headOk v t = true ↔ v.must = holds t.kind ∧ (t.kind ≠ 2 → v.name = ⟨#[]⟩) ∧ ((t.kind = 2 ∨ v.must = true) → v.most = 0) := by
  have d0 : ∀ (P : Prop) (i : Decidable P), @decide P i = true ↔ P := fun P i => by cases i <;> simp [*]
  have d1 : ∀ (P : Prop) (i : Decidable P), @decide P i = false ↔ ¬ P := fun P i => by cases i <;> simp [*]
  unfold headOk
  rw [Bool.not_eq_true', Bool.or_eq_false_iff, Bool.or_eq_false_iff, Bool.and_eq_false_iff, Bool.and_eq_false_iff, Bool.or_eq_false_iff, d1, d1, d1, d1]
  constructor
  · rintro ⟨⟨h1, h2⟩, h3⟩
    refine ⟨by simpa using h1, fun h => ?_, fun h => ?_⟩
    · rcases h2 with h2 | h2
      · exact absurd h h2
      · exact Classical.not_not.1 h2
    · rcases h3 with ⟨h3, h4⟩ | h3
      · rcases h with h | h
        · exact absurd h h3
        · rw [h4] at h; cases h
      · exact Classical.not_not.1 h3
  · rintro ⟨h1, h2, h3⟩
    refine ⟨⟨by simpa using h1, ?_⟩, ?_⟩
    · by_cases h : t.kind = 2
      · exact .inl (fun e => e h)
      · exact .inr (fun e => e (h2 h))
    · by_cases h : t.kind = 2
      · exact .inr (fun e => e (h3 (.inl h)))
      · cases hm : v.must with
        | false => exact .inl ⟨h, rfl⟩
        | true => exact .inr (fun e => e (h3 (.inr hm)))

theorem vfits_leaf (d : Nat) (v t : Tr) (h : isLeaf t = true) : vfits d v t = true ↔ headOk v t = true ∧ leafOk v t = true ∧ v.kids = [] := by
  cases d <;> rw [vfits, if_pos h, Bool.and_eq_true, Bool.and_eq_true, List.isEmpty_iff]

theorem vfits_num (d : Nat) (k : Int) (n : ByteArray) (no : Int) (m : Bool) (mo : Int) (vs : List Tr) (t : Tr) (hk : t.kind = 1) :
    vfits d (.mk k n no m mo vs) t = true ↔ m = false ∧ n = ⟨#[]⟩ ∧ numOk mo = true ∧ vs = [] := by
  rw [vfits_leaf d _ t (by unfold isLeaf; rw [hk]; decide), headOk_iff, hk]
  have e : leafOk (.mk k n no m mo vs) t = numOk mo := by unfold leafOk; rw [if_pos hk]; rfl
  rw [e]
  constructor
  · rintro ⟨⟨h1, h2, h3⟩, h4, h5⟩; exact ⟨h1, h2 (by decide), h4, h5⟩
  · rintro ⟨h1, h2, h4, h5⟩
    refine ⟨⟨h1, fun _ => h2, fun h => ?_⟩, h4, h5⟩
    rcases h with h | h
    · cases h
    · have h' : m = true := h
      rw [h1] at h'; cases h'

theorem vfits_enum (d : Nat) (k : Int) (n : ByteArray) (no : Int) (m : Bool) (mo : Int) (vs : List Tr) (t : Tr) (hk : t.kind = 3) :
    vfits d (.mk k n no m mo vs) t = true ↔ m = false ∧ n = ⟨#[]⟩ ∧ (0 ≤ mo ∧ mo ≤ t.most) ∧ vs = [] := by
  rw [vfits_leaf d _ t (by unfold isLeaf; rw [hk]; decide), headOk_iff, hk]
  have e : leafOk (.mk k n no m mo vs) t = (decide (0 ≤ mo) && decide (mo ≤ t.most)) := by unfold leafOk; rw [if_neg (by omega), if_pos hk]; rfl
  rw [e, Bool.and_eq_true, decide_eq_true_eq, decide_eq_true_eq]
  constructor
  · rintro ⟨⟨h1, h2, h3⟩, h4, h5⟩; exact ⟨h1, h2 (by decide), h4, h5⟩
  · rintro ⟨h1, h2, h4, h5⟩
    refine ⟨⟨h1, fun _ => h2, fun h => ?_⟩, h4, h5⟩
    rcases h with h | h
    · cases h
    · have h' : m = true := h
      rw [h1] at h'; cases h'

theorem vfits_text (d : Nat) (k : Int) (n : ByteArray) (no : Int) (m : Bool) (mo : Int) (vs : List Tr) (t : Tr) (hk : t.kind = 2) :
    vfits d (.mk k n no m mo vs) t = true ↔ m = false ∧ mo = 0 ∧ n.size ≤ 30 ∧ vs = [] := by
  rw [vfits_leaf d _ t (by unfold isLeaf; rw [hk]; decide), headOk_iff, hk]
  have e : leafOk (.mk k n no m mo vs) t = decide (n.size ≤ 30) := by unfold leafOk; rw [if_neg (by omega), if_neg (by omega)]; rfl
  rw [e, decide_eq_true_eq]
  constructor
  · rintro ⟨⟨h1, h2, h3⟩, h4, h5⟩; exact ⟨h1, h3 (.inl rfl), h4, h5⟩
  · rintro ⟨h1, h2, h4, h5⟩
    exact ⟨⟨h1, fun h => absurd rfl h, fun _ => h2⟩, h4, h5⟩

theorem head_holds (k : Int) (n : ByteArray) (no : Int) (m : Bool) (mo : Int) (vs : List Tr) (t : Tr) (hk : holds t.kind = true) :
    headOk (.mk k n no m mo vs) t = true ↔ m = true ∧ n = ⟨#[]⟩ ∧ mo = 0 := by
  have h2 : t.kind ≠ 2 := by unfold holds at hk; simp at hk; omega
  rw [headOk_iff, hk]
  constructor
  · rintro ⟨h1, h3, h4⟩; exact ⟨h1, h3 h2, h4 (.inr h1)⟩
  · rintro ⟨h1, h3, h4⟩; exact ⟨h1, fun _ => h3, fun _ => h4⟩

theorem vfits_list (d : Nat) (k : Int) (n : ByteArray) (no : Int) (m : Bool) (mo : Int) (vs : List Tr) (t it : Tr) (l : List Tr) (hk : t.kind = 4) (hi : t.kids = it :: l) :
    vfits (d + 1) (.mk k n no m mo vs) t = true ↔ (m = true ∧ n = ⟨#[]⟩ ∧ mo = 0) ∧ (vs.all fun x => decide (x.no = 0) && vfits d x it) = true := by
  rw [vfits, Bool.and_eq_true, head_holds _ _ _ _ _ _ _ (by rw [hk]; rfl), if_neg (by unfold isLeaf; rw [hk]; decide), if_pos hk, hi]
  rfl

theorem vfits_msg (d : Nat) (k : Int) (n : ByteArray) (no : Int) (m : Bool) (mo : Int) (vs : List Tr) (t : Tr) (hk : t.kind = 5) :
    vfits (d + 1) (.mk k n no m mo vs) t = true ↔ (m = true ∧ n = ⟨#[]⟩ ∧ mo = 0) ∧ KidsFit d vs t.kids := by
  rw [vfits, Bool.and_eq_true, head_holds _ _ _ _ _ _ _ (by rw [hk]; rfl), if_neg (by unfold isLeaf; rw [hk]; decide), if_neg (by omega)]
  show _ ∧ ((vs.all fun x => match byNo t.kids x.no with | some y => vfits d x y | none => false) && riseL vs && musts vs t.kids) = true ↔ _
  rw [Bool.and_eq_true, Bool.and_eq_true]
  have e1 : (vs.all fun x => match byNo t.kids x.no with | some y => vfits d x y | none => false) = true ↔ ∀ x ∈ vs, ∃ y, byNo t.kids x.no = some y ∧ vfits d x y = true := by
    rw [List.all_eq_true]
    constructor
    · intro h x hx
      have := h x hx
      cases hb : byNo t.kids x.no with
      | none => rw [hb] at this; simp at this
      | some y => rw [hb] at this; exact ⟨y, rfl, this⟩
    · intro h x hx
      obtain ⟨y, hy, hf⟩ := h x hx
      rw [hy]
      exact hf
  have e2 : musts vs t.kids = true ↔ ∀ y ∈ t.kids, y.must = true → ∃ x ∈ vs, x.no = y.no := by
    unfold musts
    rw [List.all_eq_true]
    constructor
    · intro h y hy hm
      have := h y hy
      rw [hm] at this
      simpa using this
    · intro h y hy
      cases hm : y.must with
      | false => rfl
      | true => obtain ⟨x, hx, hn⟩ := h y hy hm; simp; exact ⟨x, hx, hn⟩
  rw [e1, e2]
  unfold KidsFit
  constructor
  · rintro ⟨a, ⟨b, c⟩, e⟩; exact ⟨a, b, c, e⟩
  · rintro ⟨a, b, c, e⟩; exact ⟨a, ⟨b, c⟩, e⟩

theorem flatL_nil {vs : List Tr} {p s : Nat} : flatL vs p s = [] ↔ vs = [] := by
  cases vs with
  | nil => simp [flatL]
  | cons x l => rw [flatL, flat_eq]; simp

theorem fp_num (d : Nat) (up : Int) (s : Nat) (h : Ty) (M : List Ty) (t : Tr) (hk : t.kind = 1) :
    Fp d up (s, h :: M) t ↔ M = [] ∧ numOk h.most = true ∧ h.name = ⟨#[]⟩ ∧ h.no = t.no ∧ h.up = up ∧ h.must = false := by
  rw [fp_open]
  constructor
  · rintro ⟨vs, hM, hu, hn, hf⟩
    obtain ⟨h1, h2, h3, rfl⟩ := (vfits_num d _ _ _ _ _ vs t hk).1 hf
    exact ⟨hM, h3, h2, hn, hu, h1⟩
  · rintro ⟨rfl, h3, h2, hn, hu, h1⟩
    exact ⟨[], rfl, hu, hn, (vfits_num d _ _ _ _ _ [] t hk).2 ⟨h1, h2, h3, rfl⟩⟩

theorem fp_enum (d : Nat) (up : Int) (s : Nat) (h : Ty) (M : List Ty) (t : Tr) (hk : t.kind = 3) :
    Fp d up (s, h :: M) t ↔ M = [] ∧ (0 ≤ h.most ∧ h.most ≤ t.most) ∧ h.name = ⟨#[]⟩ ∧ h.no = t.no ∧ h.up = up ∧ h.must = false := by
  rw [fp_open]
  constructor
  · rintro ⟨vs, hM, hu, hn, hf⟩
    obtain ⟨h1, h2, h3, rfl⟩ := (vfits_enum d _ _ _ _ _ vs t hk).1 hf
    exact ⟨hM, h3, h2, hn, hu, h1⟩
  · rintro ⟨rfl, h3, h2, hn, hu, h1⟩
    exact ⟨[], rfl, hu, hn, (vfits_enum d _ _ _ _ _ [] t hk).2 ⟨h1, h2, h3, rfl⟩⟩

theorem fp_text (d : Nat) (up : Int) (s : Nat) (h : Ty) (M : List Ty) (t : Tr) (hk : t.kind = 2) :
    Fp d up (s, h :: M) t ↔ M = [] ∧ h.name.size ≤ 30 ∧ h.most = 0 ∧ h.no = t.no ∧ h.up = up ∧ h.must = false := by
  rw [fp_open]
  constructor
  · rintro ⟨vs, hM, hu, hn, hf⟩
    obtain ⟨h1, h2, h3, rfl⟩ := (vfits_text d _ _ _ _ _ vs t hk).1 hf
    exact ⟨hM, h3, h2, hn, hu, h1⟩
  · rintro ⟨rfl, h3, h2, hn, hu, h1⟩
    exact ⟨[], rfl, hu, hn, (vfits_text d _ _ _ _ _ [] t hk).2 ⟨h1, h2, h3, rfl⟩⟩

theorem fp_list (d : Nat) (up : Int) (s : Nat) (h : Ty) (M : List Ty) (t it : Tr) (l : List Tr) (hk : t.kind = 4) (hi : t.kids = it :: l) (hit : it.no = 0) :
    Fp (d + 1) up (s, h :: M) t ↔ (∀ q ∈ own s (s + 1) M, Fp d s q it) ∧ h.name = ⟨#[]⟩ ∧ h.most = 0 ∧ h.no = t.no ∧ h.up = up ∧ h.must = true := by
  rw [fp_open, run_list d s it hit _ _ (own_run s (s + 1) M)]
  constructor
  · rintro ⟨vs, hM, hu, hn, hf⟩
    obtain ⟨⟨h1, h2, h3⟩, h4⟩ := (vfits_list d _ _ _ _ _ vs t it l hk hi).1 hf
    exact ⟨⟨vs, by rw [hM, own_flat s vs (s + 1) (by omega)], h4⟩, h2, h3, hn, hu, h1⟩
  · rintro ⟨⟨vs, hvs, h4⟩, h2, h3, hn, hu, h1⟩
    exact ⟨vs, own_segs hvs, hu, hn, (vfits_list d _ _ _ _ _ vs t it l hk hi).2 ⟨⟨h1, h2, h3⟩, h4⟩⟩

theorem fp_msg (d : Nat) (up : Int) (s : Nat) (h : Ty) (M : List Ty) (t : Tr) (hk : t.kind = 5) (hp : t.kids.Pairwise fun a b => a.no < b.no) :
    Fp (d + 1) up (s, h :: M) t ↔ GoP (Fp d s) t.kids (own s (s + 1) M) ∧ h.name = ⟨#[]⟩ ∧ h.most = 0 ∧ h.no = t.no ∧ h.up = up ∧ h.must = true := by
  rw [fp_open, run_parts d s t.kids _ _ hp (own_run s (s + 1) M)]
  constructor
  · rintro ⟨vs, hM, hu, hn, hf⟩
    obtain ⟨⟨h1, h2, h3⟩, h4⟩ := (vfits_msg d _ _ _ _ _ vs t hk).1 hf
    exact ⟨⟨vs, by rw [hM, own_flat s vs (s + 1) (by omega)], h4⟩, h2, h3, hn, hu, h1⟩
  · rintro ⟨⟨vs, hvs, h4⟩, h2, h3, hn, hu, h1⟩
    exact ⟨vs, own_segs hvs, hu, hn, (vfits_msg d _ _ _ _ _ vs t hk).2 ⟨⟨h1, h2, h3⟩, h4⟩⟩

theorem gt_kt : ∀ (t : Tr), GT t → KT t := by
  intro t
  have key : ∀ (n : Nat) (t : Tr), t.size ≤ n → GT t → KT t := by
    intro n
    induction n with
    | zero => intro t h; have := t.size_pos; omega
    | succ n ih =>
      intro t h hg
      obtain ⟨h1, _, h3⟩ := (GT_iff t).1 hg
      rw [KT_iff]
      refine ⟨?_, fun x hx => ih x ?_ (h3 x hx)⟩
      · unfold okKind at h1
        simp only [Bool.and_eq_true, decide_eq_true_eq] at h1
        exact h1.1
      · have := sizeL_mem t.kids x hx
        rw [t.size_eq] at h
        omega
  exact key t.size t (Nat.le_refl _)

end Go.Proofs.Ytpajdmhakdbkjaa
