/- Types take in themselves, and what they take in takes in. -/
import Derived.Test.YtjaklpibjijkkaaSpG
import Derived.Test.YtjaklpibjijkkaaFlI
namespace Go.Proofs.Ytjaklpibjijkkaa
open Go.RowKit Plain Sch

theorem byNo_no : ∀ (l : List Tr) (no : Int) (x : Tr), byNo l no = some x → x.no = no
  | [], _, _, h => by simp [byNo] at h
  | a :: l, no, x, h => by
    rw [byNo] at h
    split at h
    · rename_i he; cases h; exact he
    · exact byNo_no l no x h

theorem byNo_own : ∀ (l : List Tr), (l.Pairwise fun a b => a.no < b.no ∧ a.name ≠ b.name) → ∀ x ∈ l, byNo l x.no = some x
  | [], _, x, hx => by simp at hx
  | a :: l, hp, x, hx => by
    rw [List.pairwise_cons] at hp
    rw [byNo]
    rcases List.mem_cons.1 hx with rfl | hx
    · rw [if_pos rfl]
    · have := (hp.1 x hx).1
      rw [if_neg (by omega)]
      exact byNo_own l hp.2 x hx

theorem unlike_trans {a b c : Tr} (h1 : unlike a b = false) (h2 : unlike b c = false) : unlike a c = false := by
  have e1 := like_cases h1
  have e2 := like_cases h2
  refine like_of (e1.1.trans e2.1) (fun h => ?_)
  rcases e1.2 with h3 | h3
  · exact h3 h.1
  · rcases e2.2 with h4 | h4
    · exact h4 (e1.1 ▸ h.1)
    · omega

theorem unlike_self (a : Tr) : unlike a a = false := like_of rfl (fun h => by omega)

theorem subT_trans : ∀ (d : Nat) (a b c : Tr), subT d a b = true → subT d b c = true → subT d a c = true
  | 0, a, b, c, h1, h2 => by
    rw [subT] at h1 h2 ⊢
    rw [unlike_trans (by simpa using h1) (by simpa using h2)]
    rfl
  | d + 1, a, b, c, h1, h2 => by
    rw [subT] at h1 h2 ⊢
    have u1 : unlike a b = false := by
      cases hu : unlike a b with
      | false => rfl
      | true => rw [hu, if_pos rfl] at h1; exact absurd h1 (by decide)
    have u2 : unlike b c = false := by
      cases hu : unlike b c with
      | false => rfl
      | true => rw [hu, if_pos rfl] at h2; exact absurd h2 (by decide)
    rw [u1, if_neg (by decide)] at h1
    rw [u2, if_neg (by decide)] at h2
    rw [unlike_trans u1 u2, if_neg (by decide)]
    have k1 := (like_cases u1).1
    by_cases h4 : a.kind = 4
    · rw [if_pos h4] at h1 ⊢
      rw [if_pos (k1 ▸ h4)] at h2
      cases ha : a.kids with
      | nil => rw [ha] at h1; simp at h1
      | cons x l =>
        cases hb : b.kids with
        | nil => rw [ha, hb] at h1; simp at h1
        | cons y m =>
          cases hc : c.kids with
          | nil => rw [hb, hc] at h2; simp at h2
          | cons z n =>
            rw [ha, hb] at h1
            rw [hb, hc] at h2
            exact subT_trans d x y z h1 h2
    · rw [if_neg h4] at h1 ⊢
      rw [if_neg (fun h => h4 (k1.trans h))] at h2
      rw [List.all_eq_true] at h1 h2 ⊢
      intro z hz
      have g2 := h2 z hz
      cases hy : byNo b.kids z.no with
      | none => rw [hy] at g2; simp at g2
      | some y =>
        rw [hy] at g2
        have g1 := h1 y (byNo_mem _ _ _ hy)
        rw [byNo_no _ _ _ hy] at g1
        cases hx : byNo a.kids z.no with
        | none => rw [hx] at g1; simp at g1
        | some x =>
          rw [hx] at g1
          have t1 : (!(y.must && !x.must)) = true ∧ subT d x y = true := by simpa using g1
          have t2 : (!(z.must && !y.must)) = true ∧ subT d y z = true := by simpa using g2
          have t3 := subT_trans d x y z t1.2 t2.2
          show (!(z.must && !x.must) && subT d x z) = true
          rw [t3, Bool.and_true]
          have m1 := t1.1
          have m2 := t2.1
          revert m1 m2
          cases z.must <;> cases y.must <;> cases x.must <;> decide

theorem subT_self : ∀ (d : Nat) (a : Tr), LG d a → GT a → subT d a a = true
  | 0, a, _, _ => by rw [subT, unlike_self]; rfl
  | d + 1, a, hl, hg => by
    rw [GT_iff] at hg
    obtain ⟨_, hk, hks⟩ := hg
    rw [subT, unlike_self, if_neg (by decide)]
    by_cases h4 : a.kind = 4
    · rw [if_pos h4]
      obtain ⟨x, hx, _⟩ := hk.2.1 h4
      rw [hx]
      exact subT_self d x (hl.2 x (by rw [hx]; simp)) (hks x (by rw [hx]; simp))
    · rw [if_neg h4, List.all_eq_true]
      intro y hy
      have h5 : a.kind = 5 := by
        have := hk.1 (List.ne_nil_of_mem hy)
        unfold holds at this
        simp at this
        omega
      rw [byNo_own _ (hk.2.2 h5).2 y hy]
      show (!(y.must && !y.must) && subT d y y) = true
      rw [subT_self d y (hl.2 y hy) (hks y hy)]
      cases y.must <;> rfl

theorem sof_self (A : List Ty) (h : gs A = true) : sof A A = (true, true) := by
  have h1 := gs_types A h
  rw [sof_sub A A h h, subT_self 41 _ (tree_lg h 41 0 (by omega) (by omega)) (tree_good A h 41 0 (by omega) (by omega))]

theorem sof_trans (A B C : List Ty) (h1 : sof A B = (true, true)) (h2 : sof B C = (true, true)) : (sof A C).1 = true := by
  have two : ∀ (X Y : List Ty), (sof X Y).2 = true → gs X = true ∧ gs Y = true := fun X Y h => by
    by_cases hg : gs X = true ∧ gs Y = true
    · exact hg
    · rw [sof_no X Y hg] at h; exact absurd h (by decide)
  have g1 := two A B (by rw [h1])
  have g2 := two B C (by rw [h2])
  rw [sof_sub A B g1.1 g1.2] at h1
  rw [sof_sub B C g2.1 g2.2] at h2
  rw [sof_sub A C g1.1 g2.2]
  exact subT_trans 41 _ _ _ (by simpa using h1) (by simpa using h2)

theorem sof_ok (A B : List Ty) : (sof A B).2 = (gs A && gs B) := by
  by_cases hg : gs A = true ∧ gs B = true
  · rw [sof_yes A B hg.1 hg.2, hg.1, hg.2]; rfl
  · rw [sof_no A B hg]
    cases ha : gs A <;> cases hb : gs B <;> first | rfl | exact absurd ⟨ha, hb⟩ hg

theorem ssof_good (T : List Ty) (k : Int) (h : (ssof T k).2 = true) : gs (ssof T k).1 = true := by
  unfold ssof at h ⊢
  split at h
  · rename_i hc
    rw [if_pos hc]
    exact sub_good T hc.1 41 k.toNat (by omega) (by have := (gs_types T hc.1).2.1; omega) hc.2.2.2
  · exact absurd h (by decide)

end Go.Proofs.Ytjaklpibjijkkaa
