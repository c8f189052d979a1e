/- Joins take in both, meets are taken in by both. -/
import Derived.Test.YtbkdpcfghaiimaaMeD
import Derived.Test.YtbkdpcfghaiimaaJoJ
import Derived.Test.YtbkdpcfghaiimaaJoB
import Derived.Test.YtbkdpcfghaiimaaGm
namespace Go.Proofs.Ytbkdpcfghaiimaa
open Go.RowKit Plain Sch

theorem inno_ofL {a : Tr} (h : GT a) (h4 : a.kind ≠ 4) : InNo a.kids := fun y hy => by
  have hk := ((GT_iff a).1 h).2.1
  have hh := hk.1 (fun e => by rw [e] at hy; simp at hy)
  have h5 : a.kind = 5 := by unfold holds at hh; simp at hh; omega
  exact ((hk.2.2 h5).1 y hy).2

theorem not_unlike {a t : Tr} (hk : a.kind = t.kind) (hm : a.most ≤ t.most) : unlike a t = false := like_of hk (fun h => by omega)

theorem must_ok {z x : Bool} (h : z = true → x = true) : (!(z && !x)) = true := by
  cases z <;> cases x <;> simp_all

theorem join_up : ∀ (d : Nat) (a b t : Tr), GT a → GT b → joinT d a b = some t → subT d a t = true ∧ subT d b t = true
  | 0, a, b, t, _, _, h => by
    rw [joinT] at h
    split at h
    · cases h
    · rename_i hk
      have hk : a.kind = b.kind := by omega
      cases h
      have u1 : ∀ ks, unlike a (jn a b ks) = false := fun ks => not_unlike (a := a) (t := jn a b ks) rfl (by show a.most ≤ if a.most < b.most then b.most else a.most; split <;> omega)
      have u2 : ∀ ks, unlike b (jn a b ks) = false := fun ks => not_unlike (a := b) (t := jn a b ks) hk.symm (by show b.most ≤ if a.most < b.most then b.most else a.most; split <;> omega)
      rw [subT, subT, u1, u2]
      exact ⟨rfl, rfl⟩
  | d + 1, a, b, t, ha, hb, h => by
    have ih := join_up d
    rw [joinT] at h
    split at h
    · cases h
    rename_i hk
    have hk : a.kind = b.kind := by omega
    have hga := (GT_iff a).1 ha
    have hgb := (GT_iff b).1 hb
    have u1 : ∀ ks, unlike a (jn a b ks) = false := fun ks => not_unlike (a := a) (t := jn a b ks) rfl (by show a.most ≤ if a.most < b.most then b.most else a.most; split <;> omega)
    have u2 : ∀ ks, unlike b (jn a b ks) = false := fun ks => not_unlike (a := b) (t := jn a b ks) hk.symm (by show b.most ≤ if a.most < b.most then b.most else a.most; split <;> omega)
    split at h
    · rename_i h4
      obtain ⟨x, hx, _⟩ := hga.2.1.2.1 h4
      obtain ⟨y, hy, _⟩ := hgb.2.1.2.1 (hk ▸ h4)
      rw [hx, hy] at h
      obtain ⟨z, hz, rfl⟩ := Option.map_eq_some_iff.1 h
      have k := ih x y z (hga.2.2 x (by rw [hx]; simp)) (hgb.2.2 y (by rw [hy]; simp)) hz
      rw [subT, subT, u1, u2, if_neg (by decide), if_pos h4, if_neg (by decide), if_pos (hk ▸ h4), hx, hy]
      exact k
    · rename_i h4
      cases h
      rw [subT, subT, u1, u2, if_neg (by decide), if_neg h4, if_neg (by decide), if_neg (hk ▸ h4), List.all_eq_true, List.all_eq_true]
      have key : ∀ z ∈ joinL d a.kids b.kids, ∃ x y, x ∈ a.kids ∧ y ∈ b.kids ∧ byNo a.kids z.no = some x ∧ byNo b.kids z.no = some y ∧ joinT d x y = some z := fun z hz => by
        unfold joinL at hz
        obtain ⟨x, hx, he⟩ := List.mem_filterMap.1 hz
        cases hby : byNo b.kids x.no with
        | none => rw [hby] at he; simp at he
        | some y =>
          rw [hby] at he
          have hzn := joinT_no he
          exact ⟨x, y, hx, byNo_mem _ _ _ hby, by rw [hzn]; exact byNo_of (rise_of ha h4) hx, by rw [hzn]; exact hby, he⟩
      refine ⟨fun z hz => ?_, fun z hz => ?_⟩
      · obtain ⟨x, y, hx, hy, h1, h2, h3⟩ := key z hz
        rw [h1]
        have k := ih x y z (hga.2.2 x hx) (hgb.2.2 y hy) h3
        have f := joinT_form h3
        show (!(z.must && !x.must) && subT d x z) = true
        rw [k.1, must_ok (fun h => by rw [f.2.2] at h; simp at h; exact h.1)]
        rfl
      · obtain ⟨x, y, hx, hy, h1, h2, h3⟩ := key z hz
        rw [h2]
        have k := ih x y z (hga.2.2 x hx) (hgb.2.2 y hy) h3
        have f := joinT_form h3
        show (!(z.must && !y.must) && subT d y z) = true
        rw [k.2, must_ok (fun h => by rw [f.2.2] at h; simp at h; exact h.2)]
        rfl

theorem sub_like {d : Nat} {a b : Tr} (h : subT d a b = true) : unlike a b = false := by
  cases hu : unlike a b with
  | false => rfl
  | true =>
    cases d with
    | zero => rw [subT, hu] at h; cases h
    | succ d => rw [subT, hu, if_pos rfl] at h; cases h

theorem join_same : ∀ (d : Nat) (a b : Tr), GT a → GT b → LG d a → subT d a b = true → ∃ t, joinT d a b = some t ∧ subT d t b = true
  | 0, a, b, ha, hb, _, h => by
    have hl := like_cases (sub_like h)
    refine ⟨jn a b [], by rw [joinT, if_neg (by simpa using hl.1)], ?_⟩
    have hu : unlike (jn a b []) b = false := like_of hl.1 (fun h3 => by
      have h4 : a.kind = 3 := h3.1
      have e : (jn a b []).most = if a.most < b.most then b.most else a.most := rfl
      have h5 := h3.2
      rw [e] at h5
      rcases hl.2 with h6 | h6
      · exact h6 h4
      · split at h5 <;> omega)
    rw [subT, hu]
    rfl
  | d + 1, a, b, ha, hb, hlg, h => by
    have ih := join_same d
    have hl := like_cases (sub_like h)
    have hga := (GT_iff a).1 ha
    have hgb := (GT_iff b).1 hb
    have hu : ∀ ks, unlike (jn a b ks) b = false := fun ks => like_of hl.1 (fun h3 => by
      have h4 : a.kind = 3 := h3.1
      have e : (jn a b ks).most = if a.most < b.most then b.most else a.most := rfl
      have h5 := h3.2
      rw [e] at h5
      rcases hl.2 with h6 | h6
      · exact h6 h4
      · split at h5 <;> omega)
    have hun := sub_like h
    rw [subT, hun, if_neg (by decide)] at h
    by_cases h4 : a.kind = 4
    · rw [if_pos h4] at h
      obtain ⟨x, hx, _⟩ := hga.2.1.2.1 h4
      obtain ⟨y, hy, _⟩ := hgb.2.1.2.1 (hl.1 ▸ h4)
      rw [hx, hy] at h
      obtain ⟨z, hz, hs⟩ := ih x y (hga.2.2 x (by rw [hx]; simp)) (hgb.2.2 y (by rw [hy]; simp)) (hlg.2 x (by rw [hx]; simp)) h
      refine ⟨jn a b [z], ?_, ?_⟩
      · rw [joinT, if_neg (by simpa using hl.1), if_pos h4, hx, hy]
        show (joinT d x y).map _ = _
        rw [hz]; rfl
      · rw [subT, hu, if_neg (by decide), if_pos (show (jn a b [z]).kind = 4 from h4), hy]
        exact hs
    · rw [if_neg h4, List.all_eq_true] at h
      have hj : joinT (d + 1) a b = some (jn a b (joinL d a.kids b.kids)) := by rw [joinT, if_neg (by simpa using hl.1), if_neg h4]; rfl
      refine ⟨_, hj, ?_⟩
      have hgt := (join_like (d + 1) a b _ ha hb hlg hj).good
      have hrt : Rise (joinL d a.kids b.kids) := rise_of hgt h4
      have h4b : b.kind ≠ 4 := fun e => h4 (hl.1.trans e)
      rw [subT, hu, if_neg (by decide), if_neg (show ¬ (jn a b _).kind = 4 from h4), List.all_eq_true]
      intro y hy
      have g := h y hy
      cases hx : byNo a.kids y.no with
      | none => rw [hx] at g; simp at g
      | some x =>
        rw [hx] at g
        have g' : (!(y.must && !x.must)) = true ∧ subT d x y = true := by simpa using g
        have hxn := byNo_hit hx
        obtain ⟨z, hz, hs⟩ := ih x y (hga.2.2 x hxn.2) (hgb.2.2 y hy) (hlg.2 x hxn.2) g'.2
        have f := joinT_form hz
        have hzm : z ∈ joinL d a.kids b.kids := by
          unfold joinL
          refine List.mem_filterMap.2 ⟨x, hxn.2, ?_⟩
          rw [hxn.1, byNo_of (rise_of hb h4b) hy]
          exact hz
        have hbz : byNo (joinL d a.kids b.kids) y.no = some z := by
          have := byNo_of hrt hzm
          rwa [f.2.1, hxn.1] at this
        show (match byNo (joinL d a.kids b.kids) y.no with | none => false | some x => !(y.must && !x.must) && subT d x y) = true
        rw [hbz]
        show (!(y.must && !z.must) && subT d z y) = true
        rw [hs, must_ok (fun h => ?_)]
        · rfl
        · rw [f.2.2, h]
          have := g'.1
          rw [h] at this
          simpa using this

theorem meet_down : ∀ (d : Nat) (a b t : Tr), GT a → GT b → LG d a → LG d b → meetT d a b = some t → subT d t a = true ∧ subT d t b = true
  | 0, a, b, t, _, _, _, _, h => by
    rw [meetT] at h
    split at h
    · cases h
    · rename_i hk
      have hk : a.kind = b.kind := by omega
      cases h
      have e : (mn a b []).most = if b.most < a.most then b.most else a.most := rfl
      rw [subT, subT, not_unlike (a := mn a b []) (t := a) rfl (by rw [e]; split <;> omega), not_unlike (a := mn a b []) (t := b) hk (by rw [e]; split <;> omega)]
      exact ⟨rfl, rfl⟩
  | d + 1, a, b, t, ha, hb, hla, hlb, h => by
    have ih := meet_down d
    rw [meetT] at h
    split at h
    · cases h
    rename_i hk
    have hk : a.kind = b.kind := by omega
    have hga := (GT_iff a).1 ha
    have hgb := (GT_iff b).1 hb
    have e : ∀ ks, (mn a b ks).most = if b.most < a.most then b.most else a.most := fun _ => rfl
    have u1 : ∀ ks, unlike (mn a b ks) a = false := fun ks => not_unlike (a := mn a b ks) (t := a) rfl (by rw [e]; split <;> omega)
    have u2 : ∀ ks, unlike (mn a b ks) b = false := fun ks => not_unlike (a := mn a b ks) (t := b) hk (by rw [e]; split <;> omega)
    split at h
    · rename_i h4
      obtain ⟨x, hx, _⟩ := hga.2.1.2.1 h4
      obtain ⟨y, hy, _⟩ := hgb.2.1.2.1 (hk ▸ h4)
      rw [hx, hy] at h
      obtain ⟨z, hz, rfl⟩ := Option.map_eq_some_iff.1 h
      have k := ih x y z (hga.2.2 x (by rw [hx]; simp)) (hgb.2.2 y (by rw [hy]; simp)) (hla.2 x (by rw [hx]; simp)) (hlb.2 y (by rw [hy]; simp)) hz
      rw [subT, subT, u1, u2, if_neg (by decide), if_pos (show (mn a b [z]).kind = 4 from h4), if_neg (by decide), if_pos (show (mn a b [z]).kind = 4 from h4), hx, hy]
      exact k
    · rename_i h4
      obtain ⟨L, hL, rfl⟩ := Option.map_eq_some_iff.1 h
      have h4b : b.kind ≠ 4 := fun e => h4 (hk.trans e)
      obtain ⟨m1, m2⟩ := meetTo_spec (F := meetT d) (fun x y z h => (meetT_form h).2.1) a.kids b.kids 30
      obtain ⟨_, _, bm⟩ := m1 L hL
      have ra := rise_of ha h4
      have rb := rise_of hb h4b
      have na := inno_ofL ha h4
      have nb := inno_ofL hb h4b
      have hboth : ∀ x y, x ∈ a.kids → y ∈ b.kids → x.no = y.no → ∃ z, meetT d x y = some z := fun x y hx hy hxy => by
        cases hz : meetT d x y with
        | some z => exact ⟨z, rfl⟩
        | none =>
          exfalso
          have hn := na x hx
          have e : ((x.no.toNat - 1 : Nat) : Int) + 1 = x.no := by omega
          have : meetTo (meetT d) a.kids b.kids 30 = none := m2.2 ⟨x.no.toNat - 1, by omega, x, y, by rw [e]; exact byNo_of ra hx, by rw [e, hxy]; exact byNo_of rb hy, hz⟩
          rw [hL] at this; cases this
      rw [subT, subT, u1, u2, if_neg (by decide), if_neg (show ¬ (mn a b L).kind = 4 from h4), if_neg (by decide), if_neg (show ¬ (mn a b L).kind = 4 from h4), List.all_eq_true, List.all_eq_true]
      refine ⟨fun y hy => ?_, fun y hy => ?_⟩
      · show (match byNo L y.no with | none => false | some x => !(y.must && !x.must) && subT d x y) = true
        rw [bm y.no (na y hy).1 (na y hy).2, byNo_of ra hy]
        show (match mg (meetT d) b.kids y with | none => false | some x => !(y.must && !x.must) && subT d x y) = true
        unfold mg
        cases hy2 : byNo b.kids y.no with
        | none =>
          show (!(y.must && !y.must) && subT d y y) = true
          rw [subT_self d y (hla.2 y hy) (hga.2.2 y hy), must_ok (fun h => h)]
          rfl
        | some u =>
          have hu := byNo_hit hy2
          obtain ⟨z, hz⟩ := hboth y u hy hu.2 hu.1.symm
          show (match meetT d y u with | none => false | some x => !(y.must && !x.must) && subT d x y) = true
          rw [hz]
          have k := ih y u z (hga.2.2 y hy) (hgb.2.2 u hu.2) (hla.2 y hy) (hlb.2 u hu.2) hz
          show (!(y.must && !z.must) && subT d z y) = true
          rw [k.1, must_ok (fun h => by rw [(meetT_form hz).2.2, h]; rfl)]
          rfl
      · show (match byNo L y.no with | none => false | some x => !(y.must && !x.must) && subT d x y) = true
        rw [bm y.no (nb y hy).1 (nb y hy).2]
        cases hx : byNo a.kids y.no with
        | none =>
          show (match byNo b.kids y.no with | none => false | some x => !(y.must && !x.must) && subT d x y) = true
          rw [byNo_of rb hy]
          show (!(y.must && !y.must) && subT d y y) = true
          rw [subT_self d y (hlb.2 y hy) (hgb.2.2 y hy), must_ok (fun h => h)]
          rfl
        | some x =>
          have hxn := byNo_hit hx
          obtain ⟨z, hz⟩ := hboth x y hxn.2 hy hxn.1
          show (match mg (meetT d) b.kids x with | none => false | some x => !(y.must && !x.must) && subT d x y) = true
          unfold mg
          rw [hxn.1, byNo_of rb hy]
          show (match meetT d x y with | none => false | some x => !(y.must && !x.must) && subT d x y) = true
          rw [hz]
          have k := ih x y z (hga.2.2 x hxn.2) (hgb.2.2 y hy) (hla.2 x hxn.2) (hlb.2 y hy) hz
          show (!(y.must && !z.must) && subT d z y) = true
          rw [k.2, must_ok (fun h => by rw [(meetT_form hz).2.2, h]; simp)]
          rfl

/-- what the law asks of a meet -/
theorem mof_sub (A B M : List Ty) (h : mof A B = (M, true)) : gs A = true ∧ gs B = true ∧ gs M = true ∧ sof M A = (true, true) ∧ sof M B = (true, true) := by
  by_cases hg : gs A = true ∧ gs B = true
  · obtain ⟨ha, hb⟩ := hg
    have a1 := gs_types A ha
    have b1 := gs_types B hb
    cases hr : meetRoot A B with
    | none => rw [mof_none A B hr] at h; cases h
    | some t =>
      rw [mof_some A B ha hb hr] at h
      cases hgt : gs (flat t (-1) 0) with
      | false => rw [tell_no t hgt] at h; cases h
      | true =>
        rw [tell_yes t hgt] at h
        obtain ⟨rfl, _⟩ := Prod.mk.inj h
        have m1 := gs_types _ hgt
        have hz : t.size ≤ 30 := by have := m1.2.1; rwa [flat_len] at this
        have ht : tree (flat t (-1) 0) 41 0 = t := tree_flat t 41 (by omega)
        have k := meet_down 41 _ _ t (tree_good A ha 41 0 (by omega) (by omega)) (tree_good B hb 41 0 (by omega) (by omega)) (tree_lg ha 41 0 (by omega) (by omega)) (tree_lg hb 41 0 (by omega) (by omega)) (by rw [meet_root A B ha hb]; exact hr)
        refine ⟨ha, hb, hgt, ?_, ?_⟩
        · rw [sof_sub _ _ hgt ha, ht, k.1]
        · rw [sof_sub _ _ hgt hb, ht, k.2]
  · rw [mof_no A B hg] at h; cases h

/-- and of a join -/
theorem jof_sub (A B J : List Ty) (h : jof A B = (J, true)) : gs A = true ∧ gs B = true ∧ gs J = true ∧ sof A J = (true, true) ∧ sof B J = (true, true) ∧ (sof A B = (true, true) → sof J B = (true, true)) := by
  by_cases hg : gs A = true ∧ gs B = true
  · obtain ⟨ha, hb⟩ := hg
    have a1 := gs_types A ha
    have b1 := gs_types B hb
    rw [jof_yes A B ha hb] at h
    obtain ⟨rfl, _⟩ := Prod.mk.inj h
    have hgj := join_root_good A B ha hb
    have m1 := gs_types _ hgj
    have hz : (joinRoot A B).size ≤ 30 := by have := m1.2.1; rwa [flat_len] at this
    have ht : tree (flat (joinRoot A B) (-1) 0) 41 0 = joinRoot A B := tree_flat _ 41 (by omega)
    have ga := tree_good A ha 41 0 (by omega) (by omega)
    have gb := tree_good B hb 41 0 (by omega) (by omega)
    have k := join_up 41 _ _ _ ga gb (join_root A B ha hb)
    refine ⟨ha, hb, hgj, ?_, ?_, fun hs => ?_⟩
    · rw [sof_sub _ _ ha hgj, ht, k.1]
    · rw [sof_sub _ _ hb hgj, ht, k.2]
    · rw [sof_sub _ _ ha hb] at hs
      obtain ⟨t, h1, h2⟩ := join_same 41 _ _ ga gb (tree_lg ha 41 0 (by omega) (by omega)) (by simpa using hs)
      rw [join_root A B ha hb] at h1
      cases h1
      rw [sof_sub _ _ hgj hb, ht, h2]
  · rw [jof_no A B hg] at h; cases h

end Go.Proofs.Ytbkdpcfghaiimaa
