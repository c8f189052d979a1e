/- Types take in themselves, and what they take in takes in. The join of two trees. What JoinOf answers: the join of two good schemas is good. -/
import Derived.Test.YtnhmleelhopjmaaGi
import Derived.Test.YtnhmleelhopjmaaGl
import Derived.Test.YtnhmleelhopjmaaGa
namespace Go.Proofs.Ytnhmleelhopjmaa
open Go.RowKit Plain Sch

theorem byNo_no : ∀ (l : List Tr) (no : Int) (x : Tr), byNo l no = some x → x.no = no
  | [], _, _, h => by simp [byNo] at h
  | a :: l, no, x, h => by
    rw [byNo] at h
    split at h
    · rename_i he; cases h; exact he
    · exact byNo_no l no x h

theorem byNo_own : ∀ (l : List Tr), (l.Pairwise fun a b => a.no < b.no ∧ a.name ≠ b.name) → ∀ x ∈ l, byNo l x.no = some x
  | [], _, x, hx => by simp at hx
  | a :: l, hp, x, hx => by
    rw [List.pairwise_cons] at hp
    rw [byNo]
    rcases List.mem_cons.1 hx with rfl | hx
    · rw [if_pos rfl]
    · have := (hp.1 x hx).1
      rw [if_neg (by omega)]
      exact byNo_own l hp.2 x hx

theorem unlike_trans {a b c : Tr} (h1 : unlike a b = false) (h2 : unlike b c = false) : unlike a c = false := by
  have e1 := like_cases h1
  have e2 := like_cases h2
  refine like_of (e1.1.trans e2.1) (fun h => ?_)
  rcases e1.2 with h3 | h3
  · exact h3 h.1
  · rcases e2.2 with h4 | h4
    · exact h4 (e1.1 ▸ h.1)
    · omega

theorem unlike_self (a : Tr) : unlike a a = false := like_of rfl (fun h => by omega)

theorem subT_trans : ∀ (d : Nat) (a b c : Tr), subT d a b = true → subT d b c = true → subT d a c = true
  | 0, a, b, c, h1, h2 => by
    rw [subT] at h1 h2 ⊢
    rw [unlike_trans (by simpa using h1) (by simpa using h2)]
    rfl
  | d + 1, a, b, c, h1, h2 => by
    rw [subT] at h1 h2 ⊢
    have u1 : unlike a b = false := by
      cases hu : unlike a b with
      | false => rfl
      | true => rw [hu, if_pos rfl] at h1; exact absurd h1 (by decide)
    have u2 : unlike b c = false := by
      cases hu : unlike b c with
      | false => rfl
      | true => rw [hu, if_pos rfl] at h2; exact absurd h2 (by decide)
    rw [u1, if_neg (by decide)] at h1
    rw [u2, if_neg (by decide)] at h2
    rw [unlike_trans u1 u2, if_neg (by decide)]
    have k1 := (like_cases u1).1
    by_cases h4 : a.kind = 4
    · rw [if_pos h4] at h1 ⊢
      rw [if_pos (k1 ▸ h4)] at h2
      cases ha : a.kids with
      | nil => rw [ha] at h1; simp at h1
      | cons x l =>
        cases hb : b.kids with
        | nil => rw [ha, hb] at h1; simp at h1
        | cons y m =>
          cases hc : c.kids with
          | nil => rw [hb, hc] at h2; simp at h2
          | cons z n =>
            rw [ha, hb] at h1
            rw [hb, hc] at h2
            exact subT_trans d x y z h1 h2
    · rw [if_neg h4] at h1 ⊢
      rw [if_neg (fun h => h4 (k1.trans h))] at h2
      rw [List.all_eq_true] at h1 h2 ⊢
      intro z hz
      have g2 := h2 z hz
      cases hy : byNo b.kids z.no with
      | none => rw [hy] at g2; simp at g2
      | some y =>
        rw [hy] at g2
        have g1 := h1 y (byNo_mem _ _ _ hy)
        rw [byNo_no _ _ _ hy] at g1
        cases hx : byNo a.kids z.no with
        | none => rw [hx] at g1; simp at g1
        | some x =>
          rw [hx] at g1
          have t1 : (!(y.must && !x.must)) = true ∧ subT d x y = true := by simpa using g1
          have t2 : (!(z.must && !y.must)) = true ∧ subT d y z = true := by simpa using g2
          have t3 := subT_trans d x y z t1.2 t2.2
          show (!(z.must && !x.must) && subT d x z) = true
          rw [t3, Bool.and_true]
          have m1 := t1.1
          have m2 := t2.1
          revert m1 m2
          cases z.must <;> cases y.must <;> cases x.must <;> decide

theorem subT_self : ∀ (d : Nat) (a : Tr), LG d a → GT a → subT d a a = true
  | 0, a, _, _ => by rw [subT, unlike_self]; rfl
  | d + 1, a, hl, hg => by
    rw [GT_iff] at hg
    obtain ⟨_, hk, hks⟩ := hg
    rw [subT, unlike_self, if_neg (by decide)]
    by_cases h4 : a.kind = 4
    · rw [if_pos h4]
      obtain ⟨x, hx, _⟩ := hk.2.1 h4
      rw [hx]
      exact subT_self d x (hl.2 x (by rw [hx]; simp)) (hks x (by rw [hx]; simp))
    · rw [if_neg h4, List.all_eq_true]
      intro y hy
      have h5 : a.kind = 5 := by
        have := hk.1 (List.ne_nil_of_mem hy)
        unfold holds at this
        simp at this
        omega
      rw [byNo_own _ (hk.2.2 h5).2 y hy]
      show (!(y.must && !y.must) && subT d y y) = true
      rw [subT_self d y (hl.2 y hy) (hks y hy)]
      cases y.must <;> rfl

theorem sof_self (A : List Ty) (h : gs A = true) : sof A A = (true, true) := by
  have h1 := gs_types A h
  rw [sof_sub A A h h, subT_self 41 _ (tree_lg h 41 0 (by omega) (by omega)) (tree_good A h 41 0 (by omega) (by omega))]

theorem sof_trans (A B C : List Ty) (h1 : sof A B = (true, true)) (h2 : sof B C = (true, true)) : (sof A C).1 = true := by
  have two : ∀ (X Y : List Ty), (sof X Y).2 = true → gs X = true ∧ gs Y = true := fun X Y h => by
    by_cases hg : gs X = true ∧ gs Y = true
    · exact hg
    · rw [sof_no X Y hg] at h; exact absurd h (by decide)
  have g1 := two A B (by rw [h1])
  have g2 := two B C (by rw [h2])
  rw [sof_sub A B g1.1 g1.2] at h1
  rw [sof_sub B C g2.1 g2.2] at h2
  rw [sof_sub A C g1.1 g2.2]
  exact subT_trans 41 _ _ _ (by simpa using h1) (by simpa using h2)

theorem sof_ok (A B : List Ty) : (sof A B).2 = (gs A && gs B) := by
  by_cases hg : gs A = true ∧ gs B = true
  · rw [sof_yes A B hg.1 hg.2, hg.1, hg.2]; rfl
  · rw [sof_no A B hg]
    cases ha : gs A <;> cases hb : gs B <;> first | rfl | exact absurd ⟨ha, hb⟩ hg

theorem ssof_good (T : List Ty) (k : Int) (h : (ssof T k).2 = true) : gs (ssof T k).1 = true := by
  unfold ssof at h ⊢
  split at h
  · rename_i hc
    rw [if_pos hc]
    exact sub_good T hc.1 41 k.toNat (by omega) (by have := (gs_types T hc.1).2.1; omega) hc.2.2.2
  · exact absurd h (by decide)

end Go.Proofs.Ytnhmleelhopjmaa

namespace Go.Proofs.Ytnhmleelhopjmaa
open Plain Sch

def jn (a b : Tr) (ks : List Tr) : Tr := .mk a.kind a.name a.no (a.must && b.must) (if a.most < b.most then b.most else a.most) ks

def joinT : Nat → Tr → Tr → Option Tr
  | 0, a, b => if a.kind ≠ b.kind then none else some (jn a b [])
  | d + 1, a, b =>
    if a.kind ≠ b.kind then none
    else if a.kind = 4 then (match a.kids, b.kids with | x :: _, y :: _ => (joinT d x y).map fun z => jn a b [z] | _, _ => none)
    else some (jn a b (a.kids.filterMap fun x => (byNo b.kids x.no).bind (joinT d x)))

/-- the parts of a join -/
def joinL (d : Nat) (la lb : List Tr) : List Tr := la.filterMap fun x => (byNo lb x.no).bind (joinT d x)

structure Like (t a : Tr) : Prop where
  good : GT t
  kind : t.kind = a.kind
  name : t.name = a.name
  no : t.no = a.no
  must : t.must = true → a.must = true
  size : t.size ≤ a.size
  deep : ∀ g, deep g t ≤ deep g a

theorem jn_ok {a b : Tr} (ha : GT a) (hb : GT b) (hk : a.kind = b.kind) : okKind ⟨a.kind, a.name, a.no, a.must && b.must, 0, if a.most < b.most then b.most else a.most⟩ = true := by
  rw [GT_iff] at ha hb
  have h1 := ha.1
  have h2 := hb.1
  rw [← hk] at h2
  unfold okKind at h1 h2 ⊢
  dsimp only at h1 h2 ⊢
  by_cases h3 : a.kind = 3
  · simp [h3] at h1 h2 ⊢
    split <;> omega
  · simp [h3] at h1 h2 ⊢
    split <;> omega

theorem join_parts {d : Nat} (ih : ∀ a b t, GT a → GT b → LG d a → joinT d a b = some t → Like t a) : ∀ (la lb : List Tr), (∀ x ∈ la, GT x ∧ LG d x) → (∀ y ∈ lb, GT y) →
    (∀ t ∈ joinL d la lb, ∃ x ∈ la, Like t x) ∧ sizeL (joinL d la lb) ≤ sizeL la ∧ ((la.Pairwise fun a b => a.no < b.no ∧ a.name ≠ b.name) → (joinL d la lb).Pairwise fun a b => a.no < b.no ∧ a.name ≠ b.name)
  | [], lb, _, _ => ⟨fun t ht => by simp [joinL] at ht, by simp [joinL, sizeL], fun _ => by simp [joinL]⟩
  | x :: la, lb, ha, hb => by
    obtain ⟨h1, h2, h3⟩ := join_parts ih la lb (fun y hy => ha y (List.mem_cons_of_mem _ hy)) hb
    cases hj : (byNo lb x.no).bind (joinT d x) with
    | none =>
      have he : joinL d (x :: la) lb = joinL d la lb := by simp only [joinL, List.filterMap_cons, hj]
      rw [he]
      refine ⟨fun t ht => ?_, by rw [sizeL]; omega, fun hp => h3 (List.pairwise_cons.1 hp).2⟩
      obtain ⟨y, hy, hl⟩ := h1 t ht
      exact ⟨y, List.mem_cons_of_mem _ hy, hl⟩
    | some z =>
      have he : joinL d (x :: la) lb = z :: joinL d la lb := by simp only [joinL, List.filterMap_cons, hj]
      have hz : Like z x := by
        cases hy : byNo lb x.no with
        | none => rw [hy] at hj; simp at hj
        | some y =>
          rw [hy] at hj
          exact ih x y z (ha x (by simp)).1 (hb y (byNo_mem _ _ _ hy)) (ha x (by simp)).2 hj
      rw [he]
      refine ⟨fun t ht => ?_, by rw [sizeL, sizeL]; have := hz.size; omega, fun hp => ?_⟩
      · rcases List.mem_cons.1 ht with rfl | ht
        · exact ⟨x, by simp, hz⟩
        · obtain ⟨y, hy, hl⟩ := h1 t ht
          exact ⟨y, List.mem_cons_of_mem _ hy, hl⟩
      · rw [List.pairwise_cons] at hp ⊢
        refine ⟨fun t ht => ?_, h3 hp.2⟩
        obtain ⟨y, hy, hl⟩ := h1 t ht
        rw [hz.no, hz.name, hl.no, hl.name]
        exact hp.1 y hy

theorem deep_kids {t a : Tr} (hk : t.kind = a.kind) (h : ∀ g, ∀ x ∈ t.kids, ∃ y ∈ a.kids, deep g x ≤ deep g y) : ∀ g, deep g t ≤ deep g a
  | 0 => by rw [deep, deep, hk]; exact Nat.le_refl _
  | g + 1 => by
    rw [deep, deep, hk]
    refine Nat.add_le_add_right ((maxL_le _ _).2 fun n hn => ?_) _
    obtain ⟨x, hx, rfl⟩ := List.mem_map.1 hn
    obtain ⟨y, hy, hxy⟩ := h g x hx
    exact Nat.le_trans hxy ((maxL_le _ _).1 (Nat.le_refl _) _ (List.mem_map.2 ⟨y, hy, rfl⟩))

theorem join_like : ∀ (d : Nat) (a b t : Tr), GT a → GT b → LG d a → joinT d a b = some t → Like t a
  | 0, a, b, t, ha, hb, hlg, h => by
    rw [joinT] at h
    split at h
    · cases h
    · rename_i hk
      have hk : a.kind = b.kind := by omega
      cases h
      have h4 : a.kind ≠ 4 := hlg
      refine ⟨?_, rfl, rfl, rfl, fun h => by revert h; show (a.must && b.must) = true → _; simp; intro h _; exact h, ?_, deep_kids rfl (fun g w hw => by simp [jn, Tr.kids] at hw)⟩
      · rw [GT_iff]
        refine ⟨jn_ok ha hb hk, ⟨fun hne => absurd rfl hne, fun h => absurd h h4, fun _ => ⟨fun w hw => by simp [jn, Tr.kids] at hw, List.Pairwise.nil⟩⟩, fun w hw => by simp [jn, Tr.kids] at hw⟩
      · rw [Tr.size_eq, Tr.size_eq a]
        simp [jn, Tr.kids, sizeL]
  | d + 1, a, b, t, ha, hb, hlg, h => by
    have ih := join_like d
    rw [joinT] at h
    split at h
    · cases h
    rename_i hk
    have hk : a.kind = b.kind := by omega
    have hga := (GT_iff a).1 ha
    have hgb := (GT_iff b).1 hb
    split at h
    · rename_i h4
      obtain ⟨x, hx, hx1, hx2, hx3⟩ := hga.2.1.2.1 h4
      obtain ⟨y, hy, _⟩ := hgb.2.1.2.1 (hk ▸ h4)
      rw [hx, hy] at h
      cases hz : joinT d x y with
      | none => simp [hz] at h
      | some z =>
        simp [hz] at h
        subst h
        have hl := ih x y z (hga.2.2 x (by rw [hx]; simp)) (hgb.2.2 y (by rw [hy]; simp)) (hlg.2 x (by rw [hx]; simp)) hz
        refine ⟨?_, rfl, rfl, rfl, fun h => by revert h; show (a.must && b.must) = true → _; simp; intro h _; exact h, ?_, deep_kids rfl (fun g w hw => ?_)⟩
        · rw [GT_iff]
          refine ⟨jn_ok ha hb hk, ⟨fun _ => hga.2.1.1 (by rw [hx]; simp), fun _ => ⟨z, rfl, by rw [hl.name, hx1], by rw [hl.no, hx2], ?_⟩, fun h5 => ?_⟩, fun w hw => ?_⟩
          · cases hm : z.must with
            | false => rfl
            | true => have := hl.must hm; rw [hx3] at this; cases this
          · have h5 : a.kind = 5 := h5
            omega
          · have : w = z := by simpa [jn, Tr.kids] using hw
            rw [this]; exact hl.good
        · rw [Tr.size_eq, Tr.size_eq a, hx]
          have := hl.size
          simp [jn, Tr.kids, sizeL]
          omega
        · have : w = z := by simpa [jn, Tr.kids] using hw
          rw [this]
          exact ⟨x, by rw [hx]; simp, hl.deep g⟩
    · rename_i h4
      cases h
      obtain ⟨p1, p2, p3⟩ := join_parts ih a.kids b.kids (fun x hx => ⟨hga.2.2 x hx, hlg.2 x hx⟩) hgb.2.2
      refine ⟨?_, rfl, rfl, rfl, fun h => by revert h; show (a.must && b.must) = true → _; simp; intro h _; exact h, ?_, deep_kids rfl (fun g w hw => ?_)⟩
      · rw [GT_iff]
        refine ⟨jn_ok ha hb hk, ⟨fun hne => ?_, fun h => absurd h h4, fun h5 => ⟨fun w hw => ?_, p3 (hga.2.1.2.2 h5).2⟩⟩, fun w hw => ?_⟩
        · obtain ⟨w, hw⟩ := List.exists_mem_of_ne_nil _ hne
          obtain ⟨x, hx, _⟩ := p1 w hw
          exact hga.2.1.1 (List.ne_nil_of_mem hx)
        · obtain ⟨x, hx, hl⟩ := p1 w hw
          rw [hl.name, hl.no]
          exact (hga.2.1.2.2 h5).1 x hx
        · obtain ⟨x, hx, hl⟩ := p1 w hw
          exact hl.good
      · rw [Tr.size_eq, Tr.size_eq a]
        exact Nat.succ_le_succ p2
      · obtain ⟨x, hx, hl⟩ := p1 w hw
        exact ⟨x, hx, hl.deep g⟩

end Go.Proofs.Ytnhmleelhopjmaa

namespace Go.Proofs.Ytnhmleelhopjmaa
open Go.RowKit Plain Sch

/-- the join's parts as a whole schema's tree -/
def joinRoot (A B : List Ty) : Tr := .mk 5 ⟨#[]⟩ 0 false 0 (joinL 40 (tree A 41 0).kids (tree B 41 0).kids)

def jof (A B : List Ty) : List Ty × Bool := if gs A = true ∧ gs B = true then (flat (joinRoot A B) (-1) 0, true) else ([], false)

theorem jof_no (A B : List Ty) (h : ¬ (gs A = true ∧ gs B = true)) : jof A B = ([], false) := by unfold jof; rw [if_neg h]
theorem jof_yes (A B : List Ty) (ha : gs A = true) (hb : gs B = true) : jof A B = (flat (joinRoot A B) (-1) 0, true) := by unfold jof; rw [if_pos ⟨ha, hb⟩]

theorem top_most {t : Tr} (h : GT t) (h5 : t.kind = 5) : t.most = 0 := by
  have h1 := ((GT_iff t).1 h).1
  unfold okKind at h1
  simp [h5] at h1
  exact h1

theorem join_root (A B : List Ty) (ha : gs A = true) (hb : gs B = true) : joinT 41 (tree A 41 0) (tree B 41 0) = some (joinRoot A B) := by
  have a1 := gs_types A ha
  have b1 := gs_types B hb
  obtain ⟨k1, n1, o1, m1⟩ := tree_top A ha 41
  obtain ⟨k2, n2, o2, m2⟩ := tree_top B hb 41
  have g1 := tree_good A ha 41 0 (by omega) (by omega)
  have g2 := tree_good B hb 41 0 (by omega) (by omega)
  rw [joinT, if_neg (by omega), if_neg (by omega)]
  show some (jn _ _ (joinL 40 _ _)) = _
  unfold jn joinRoot
  rw [k1, n1, o1, m1, top_most g1 k1, top_most g2 k2]
  rfl

theorem join_root_like (A B : List Ty) (ha : gs A = true) (hb : gs B = true) : Like (joinRoot A B) (tree A 41 0) := by
  have a1 := gs_types A ha
  have b1 := gs_types B hb
  exact join_like 41 _ _ _ (tree_good A ha 41 0 (by omega) (by omega)) (tree_good B hb 41 0 (by omega) (by omega)) (tree_lg ha 41 0 (by omega) (by omega)) (join_root A B ha hb)

theorem join_root_good (A B : List Ty) (ha : gs A = true) (hb : gs B = true) : gs (flat (joinRoot A B) (-1) 0) = true := by
  have a1 := gs_types A ha
  have hl := join_root_like A B ha hb
  have hs := tree_size A ha 41 0 (by omega) (by omega)
  have hz := hl.size
  refine gs_flat _ hl.good ⟨rfl, rfl, rfl, rfl⟩ (by omega) ?_
  exact Nat.le_trans (hl.deep _) (tree_deep A ha 41 _ 0 (by omega) (by omega))

theorem join_tell (A B : List Ty) (ha : gs A = true) (hb : gs B = true) : tell (joinRoot A B) = jof A B := by
  rw [tell_yes _ (join_root_good A B ha hb), jof_yes A B ha hb]

theorem join_names (A B : List Ty) (ha : gs A = true) (hb : gs B = true) : NmT (joinRoot A B) :=
  gt_names _ (by show ByteArray.size ⟨#[]⟩ ≤ 10; simp [ByteArray.size]) (join_root_like A B ha hb).good

theorem jof_ok (A B : List Ty) : (jof A B).1.length ≤ 1000 ∧ ∀ x ∈ (jof A B).1, x.name.size ≤ 10 := by
  by_cases h : gs A = true ∧ gs B = true
  · rw [jof_yes A B h.1 h.2]
    have a1 := gs_types A h.1
    have hs := tree_size A h.1 41 0 (by omega) (by omega)
    have hz := (join_root_like A B h.1 h.2).size
    refine ⟨?_, flat_names _ _ _ (join_names A B h.1 h.2)⟩
    show (flat (joinRoot A B) (-1) 0).length ≤ 1000
    rw [flat_len]
    omega
  · rw [jof_no A B h]
    exact ⟨by simp, fun x hx => by simp at hx⟩

end Go.Proofs.Ytnhmleelhopjmaa
