/- What MeetOf answers. -/
import Derived.Test.YtbkdpcfghaiimaaMeA
import Derived.Test.YtbkdpcfghaiimaaGm
import Derived.Test.YtbkdpcfghaiimaaGl
import Derived.Test.YtbkdpcfghaiimaaGi
namespace Go.Proofs.Ytbkdpcfghaiimaa
open Go.RowKit Plain Sch

theorem sz_mono (la : List Tr) (n : Int) : sizeL (la.filter fun y => decide (y.no ≤ n)) ≤ sizeL (la.filter fun y => decide (y.no ≤ n + 1)) := by
  induction la with
  | nil => simp
  | cons a l ih =>
    rw [List.filter_cons, List.filter_cons]
    by_cases h : a.no ≤ n
    · rw [if_pos (by simpa using h), if_pos (by simp; omega), sizeL, sizeL]; omega
    · rw [if_neg (by simpa using h)]
      split
      · rw [sizeL]; omega
      · exact ih

theorem sz_step (la : List Tr) (n : Int) (x : Tr) (h : byNo la (n + 1) = some x) : sizeL (la.filter fun y => decide (y.no ≤ n)) + x.size ≤ sizeL (la.filter fun y => decide (y.no ≤ n + 1)) := by
  induction la with
  | nil => simp [byNo] at h
  | cons a l ih =>
    rw [byNo] at h
    rw [List.filter_cons, List.filter_cons]
    by_cases ha : a.no = n + 1
    · rw [if_pos ha] at h
      cases h
      rw [if_neg (by simp; omega), if_pos (by simp; omega), sizeL]
      have := sz_mono l n
      omega
    · rw [if_neg ha] at h
      have := ih h
      by_cases h1 : a.no ≤ n
      · rw [if_pos (by simpa using h1), if_pos (by simp; omega), sizeL, sizeL]; omega
      · rw [if_neg (by simpa using h1)]
        split
        · rw [sizeL]; omega
        · exact this

theorem sz_all (la : List Tr) (n : Int) : sizeL (la.filter fun y => decide (y.no ≤ n)) ≤ sizeL la := by
  induction la with
  | nil => simp
  | cons a l ih =>
    rw [List.filter_cons, sizeL]
    split
    · rw [sizeL]; omega
    · omega

structure Keeps (t a b : Tr) : Prop where
  nm : NmT t
  fg : FG t
  size : t.size ≤ a.size + b.size

theorem meetTo_keeps {F : Tr → Tr → Option Tr} {la lb : List Tr} (ha : ∀ x ∈ la, NmT x ∧ FG x) (hb : ∀ y ∈ lb, NmT y ∧ FG y) (hF : ∀ x y z, x ∈ la → y ∈ lb → F x y = some z → Keeps z x y) : ∀ (n : Nat) (l : List Tr), meetTo F la lb n = some l →
    (∀ z ∈ l, NmT z ∧ FG z) ∧ sizeL l ≤ sizeL (la.filter fun y => decide (y.no ≤ (n : Int))) + sizeL (lb.filter fun y => decide (y.no ≤ (n : Int)))
  | 0, l, h => by rw [meetTo] at h; cases h; exact ⟨fun z hz => by simp at hz, by simp [sizeL]⟩
  | n + 1, l, h => by
    rw [meetTo] at h
    obtain ⟨l0, hl0, hl⟩ := Option.bind_eq_some_iff.1 h
    obtain ⟨s, hs, rfl⟩ := Option.map_eq_some_iff.1 hl
    obtain ⟨h1, h2⟩ := meetTo_keeps ha hb hF n l0 hl0
    have key : (∀ z ∈ s, NmT z ∧ FG z) ∧ sizeL s + sizeL (la.filter fun y => decide (y.no ≤ (n : Int))) + sizeL (lb.filter fun y => decide (y.no ≤ (n : Int))) ≤ sizeL (la.filter fun y => decide (y.no ≤ (n : Int) + 1)) + sizeL (lb.filter fun y => decide (y.no ≤ (n : Int) + 1)) := by
      have ma := sz_mono la n
      have mb := sz_mono lb n
      unfold stepL at hs
      split at hs
      · rename_i x y hx hy
        obtain ⟨z, hz, rfl⟩ := Option.map_eq_some_iff.1 hs
        have k := hF x y z (byNo_hit hx).2 (byNo_hit hy).2 hz
        have sa := sz_step la n x hx
        have sb := sz_step lb n y hy
        have ks := k.size
        exact ⟨fun u hu => by simp at hu; subst hu; exact ⟨k.nm, k.fg⟩, by simp [sizeL]; omega⟩
      · rename_i x hx hy
        cases hs
        have sa := sz_step la n x hx
        exact ⟨fun u hu => by simp at hu; subst hu; exact ha _ (byNo_hit hx).2, by simp [sizeL]; omega⟩
      · rename_i y hx hy
        cases hs
        have sb := sz_step lb n y hy
        exact ⟨fun u hu => by simp at hu; subst hu; exact hb _ (byNo_hit hy).2, by simp [sizeL]; omega⟩
      · cases hs
        exact ⟨fun u hu => by simp at hu, by simp [sizeL]; omega⟩
    refine ⟨fun z hz => ?_, ?_⟩
    · rcases List.mem_append.1 hz with hz | hz
      · exact h1 z hz
      · exact key.1 z hz
    · have e : ∀ (a b : List Tr), sizeL (a ++ b) = sizeL a + sizeL b := fun a b => by
        induction a with
        | nil => simp [sizeL]
        | cons x a ih => rw [List.cons_append, sizeL, sizeL, ih]; omega
      rw [e]
      have := key.2
      show _ ≤ sizeL (la.filter fun y => decide (y.no ≤ ((n + 1 : Nat) : Int))) + sizeL (lb.filter fun y => decide (y.no ≤ ((n + 1 : Nat) : Int)))
      rw [show ((n + 1 : Nat) : Int) = (n : Int) + 1 by omega]
      omega

theorem mn_most {a b : Tr} (fa : FG a) (fb : FG b) (hk : a.kind = b.kind) (h3 : a.kind ≠ 3) (ks : List Tr) : (mn a b ks).most = 0 := by
  have h1 := ((FG_iff a).1 fa).1 h3
  have h2 := ((FG_iff b).1 fb).1 (by omega)
  show (if b.most < a.most then b.most else a.most) = 0
  split <;> omega

theorem meet_keeps : ∀ (d : Nat) (a b t : Tr), NmT a → FG a → NmT b → FG b → LG d a → meetT d a b = some t → Keeps t a b
  | 0, a, b, t, ha, fa, _, fb, hl, h => by
    rw [meetT] at h
    split at h
    · cases h
    · rename_i hk
      have hk : a.kind = b.kind := by omega
      cases h
      refine ⟨?_, ?_, ?_⟩
      · rw [NmT_iff]; exact ⟨((NmT_iff a).1 ha).1, fun x hx => by simp [mn, Tr.kids] at hx⟩
      · rw [FG_iff]
        exact ⟨fun h3 => mn_most fa fb hk h3 [], fun h4 => absurd h4 hl, fun x hx => by simp [mn, Tr.kids] at hx⟩
      · rw [Tr.size_eq]; have := a.size_pos; simp [mn, Tr.kids, sizeL]; omega
  | d + 1, a, b, t, ha, fa, hb, fb, hl, h => by
    have ih := meet_keeps d
    rw [meetT] at h
    split at h
    · cases h
    rename_i hk
    have hk : a.kind = b.kind := by omega
    have na := (NmT_iff a).1 ha
    have nb := (NmT_iff b).1 hb
    have ga := (FG_iff a).1 fa
    have gb := (FG_iff b).1 fb
    split at h
    · rename_i h4
      obtain ⟨x, hx, x1, x2, x3⟩ := ga.2.1 h4
      obtain ⟨y, hy, y1, y2, y3⟩ := gb.2.1 (hk ▸ h4)
      rw [hx, hy] at h
      obtain ⟨z, hz, rfl⟩ := Option.map_eq_some_iff.1 h
      have k := ih x y z (na.2 x (by rw [hx]; simp)) (ga.2.2 x (by rw [hx]; simp)) (nb.2 y (by rw [hy]; simp)) (gb.2.2 y (by rw [hy]; simp)) (hl.2 x (by rw [hx]; simp)) hz
      have f := meetT_form hz
      refine ⟨?_, ?_, ?_⟩
      · rw [NmT_iff]
        refine ⟨na.1, fun u hu => ?_⟩
        have : u = z := by simpa [mn, Tr.kids] using hu
        rw [this]; exact k.nm
      · rw [FG_iff]
        refine ⟨fun h3 => mn_most fa fb hk h3 _, fun _ => ⟨z, rfl, by rw [f.1, x1], by rw [f.2.1, x2], by rw [f.2.2, x3, y3]; rfl⟩, fun u hu => ?_⟩
        have : u = z := by simpa [mn, Tr.kids] using hu
        rw [this]; exact k.fg
      · have := k.size
        rw [Tr.size_eq, Tr.size_eq a, Tr.size_eq b, hx, hy]
        simp [mn, Tr.kids, sizeL]
        omega
    · rename_i h4
      obtain ⟨l, hlL, rfl⟩ := Option.map_eq_some_iff.1 h
      obtain ⟨k1, k2⟩ := meetTo_keeps (fun x hx => ⟨na.2 x hx, ga.2.2 x hx⟩) (fun y hy => ⟨nb.2 y hy, gb.2.2 y hy⟩) (fun x y z hx hy hz => ih x y z (na.2 x hx) (ga.2.2 x hx) (nb.2 y hy) (gb.2.2 y hy) (hl.2 x hx) hz) 30 l hlL
      have sa := sz_all a.kids ((30 : Nat) : Int)
      have sb := sz_all b.kids ((30 : Nat) : Int)
      refine ⟨?_, ?_, ?_⟩
      · rw [NmT_iff]; exact ⟨na.1, fun u hu => (k1 u hu).1⟩
      · rw [FG_iff]; exact ⟨fun h3 => mn_most fa fb hk h3 _, fun h => absurd h h4, fun u hu => (k1 u hu).2⟩
      · rw [Tr.size_eq, Tr.size_eq a, Tr.size_eq b]
        show sizeL l + 1 ≤ _
        omega

/-- the meet's parts as a whole schema's tree -/
def mkRoot (ks : List Tr) : Tr := .mk 5 ⟨#[]⟩ 0 false 0 ks

def meetRoot (A B : List Ty) : Option Tr := (meetTo (meetT 40) (tree A 41 0).kids (tree B 41 0).kids 30).map mkRoot

def mof (A B : List Ty) : List Ty × Bool := if gs A = true ∧ gs B = true then (match meetRoot A B with | some t => tell t | none => ([], false)) else ([], false)

theorem mof_no (A B : List Ty) (h : ¬ (gs A = true ∧ gs B = true)) : mof A B = ([], false) := by unfold mof; rw [if_neg h]
theorem mof_none (A B : List Ty) (h : meetRoot A B = none) : mof A B = ([], false) := by unfold mof; rw [h]; split <;> rfl
theorem mof_some (A B : List Ty) (ha : gs A = true) (hb : gs B = true) {t : Tr} (h : meetRoot A B = some t) : mof A B = tell t := by unfold mof; rw [if_pos ⟨ha, hb⟩, h]

theorem meet_root (A B : List Ty) (ha : gs A = true) (hb : gs B = true) : meetT 41 (tree A 41 0) (tree B 41 0) = meetRoot A B := by
  have a1 := gs_types A ha
  have b1 := gs_types B hb
  obtain ⟨k1, n1, o1, m1⟩ := tree_top A ha 41
  obtain ⟨k2, n2, o2, m2⟩ := tree_top B hb 41
  have g1 := tree_good A ha 41 0 (by omega) (by omega)
  have g2 := tree_good B hb 41 0 (by omega) (by omega)
  rw [meetT, if_neg (by omega), if_neg (by omega)]
  unfold meetRoot
  congr 1
  funext ks
  unfold mn mkRoot
  rw [k1, n1, o1, m1, m2, top_most g1 k1, top_most g2 k2]
  rfl

theorem tree_nm (A : List Ty) (ha : gs A = true) : NmT (tree A 41 0) := by
  have a1 := gs_types A ha
  obtain ⟨k1, n1, o1, m1⟩ := tree_top A ha 41
  exact gt_names _ (by rw [n1]; simp [ByteArray.size]) (tree_good A ha 41 0 (by omega) (by omega))

theorem meet_root_keeps (A B : List Ty) (ha : gs A = true) (hb : gs B = true) {t : Tr} (h : meetRoot A B = some t) : Keeps t (tree A 41 0) (tree B 41 0) := by
  have a1 := gs_types A ha
  have b1 := gs_types B hb
  rw [← meet_root A B ha hb] at h
  exact meet_keeps 41 _ _ t (tree_nm A ha) (gt_fg _ (tree_good A ha 41 0 (by omega) (by omega))) (tree_nm B hb) (gt_fg _ (tree_good B hb 41 0 (by omega) (by omega))) (tree_lg ha 41 0 (by omega) (by omega)) h

theorem meet_root_size (A B : List Ty) (ha : gs A = true) (hb : gs B = true) {t : Tr} (h : meetRoot A B = some t) : t.size ≤ 60 := by
  have a1 := gs_types A ha
  have b1 := gs_types B hb
  have k := (meet_root_keeps A B ha hb h).size
  have sa := tree_size A ha 41 0 (by omega) (by omega)
  have sb := tree_size B hb 41 0 (by omega) (by omega)
  omega

theorem mof_ok (A B : List Ty) : (mof A B).1.length ≤ 1000 ∧ ∀ x ∈ (mof A B).1, x.name.size ≤ 10 := by
  by_cases h : gs A = true ∧ gs B = true
  · cases hr : meetRoot A B with
    | none => rw [mof_none A B hr]; exact ⟨by simp, fun x hx => by simp at hx⟩
    | some t =>
      rw [mof_some A B h.1 h.2 hr]
      have hs := meet_root_size A B h.1 h.2 hr
      have hn := (meet_root_keeps A B h.1 h.2 hr).nm
      cases hg : gs (flat t (-1) 0) with
      | true =>
        rw [tell_yes t hg]
        refine ⟨?_, flat_names _ _ _ hn⟩
        show (flat t (-1) 0).length ≤ 1000
        rw [flat_len]; omega
      | false => rw [tell_no t hg]; exact ⟨by simp, fun x hx => by simp at hx⟩
  · rw [mof_no A B h]
    exact ⟨by simp, fun x hx => by simp at hx⟩

end Go.Proofs.Ytbkdpcfghaiimaa
