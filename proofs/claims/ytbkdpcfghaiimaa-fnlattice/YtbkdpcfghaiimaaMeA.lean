/- The meet of two trees, told by numbers and told by putting parts to their places. -/
import Derived.Test.YtbkdpcfghaiimaaGm
import Derived.Test.YtbkdpcfghaiimaaJoH
namespace Go.Proofs.Ytbkdpcfghaiimaa
open Plain Sch

def mn (a b : Tr) (ks : List Tr) : Tr := .mk a.kind a.name a.no (a.must || b.must) (if b.most < a.most then b.most else a.most) ks

/-- what stands at the number n and 1 -/
def stepL (F : Tr → Tr → Option Tr) (la lb : List Tr) (n : Nat) : Option (List Tr) :=
  match byNo la ((n : Int) + 1), byNo lb ((n : Int) + 1) with
  | some x, some y => (F x y).map fun z => [z]
  | some x, none => some [x]
  | none, some y => some [y]
  | none, none => some []

def meetTo (F : Tr → Tr → Option Tr) (la lb : List Tr) : Nat → Option (List Tr)
  | 0 => some []
  | n + 1 => (meetTo F la lb n).bind fun l => (stepL F la lb n).map fun s => l ++ s

def meetT : Nat → Tr → Tr → Option Tr
  | 0, a, b => if a.kind ≠ b.kind then none else some (mn a b [])
  | d + 1, a, b =>
    if a.kind ≠ b.kind then none
    else if a.kind = 4 then (match a.kids, b.kids with | x :: _, y :: _ => (meetT d x y).map fun z => mn a b [z] | _, _ => none)
    else (meetTo (meetT d) a.kids b.kids 30).map (mn a b)

def meetL (d : Nat) (la lb : List Tr) : Option (List Tr) := meetTo (meetT d) la lb 30

theorem meetT_form {d : Nat} {a b t : Tr} (h : meetT d a b = some t) : t.name = a.name ∧ t.no = a.no ∧ t.must = (a.must || b.must) := by
  cases d with
  | zero =>
    rw [meetT] at h
    split at h
    · cases h
    · cases h; exact ⟨rfl, rfl, rfl⟩
  | succ d =>
    rw [meetT] at h
    split at h
    · cases h
    · split at h
      · split at h
        · rw [Option.map_eq_some_iff] at h
          obtain ⟨z, _, rfl⟩ := h
          exact ⟨rfl, rfl, rfl⟩
        · cases h
      · rw [Option.map_eq_some_iff] at h
        obtain ⟨z, _, rfl⟩ := h
        exact ⟨rfl, rfl, rfl⟩

def Rise (l : List Tr) : Prop := l.Pairwise fun a b => a.no < b.no

theorem byNo_hit : ∀ {l : List Tr} {n : Int} {y : Tr}, byNo l n = some y → y.no = n ∧ y ∈ l
  | a :: l, n, y, h => by
    rw [byNo] at h
    split at h
    · cases h; exact ⟨by assumption, by simp⟩
    · have := byNo_hit h; exact ⟨this.1, List.mem_cons_of_mem _ this.2⟩

theorem byNo_miss {l : List Tr} {n : Int} (h : ∀ y ∈ l, y.no ≠ n) : byNo l n = none :=
  byNo_none l n (fun _ y _ hy => h y (List.mem_of_getElem? hy))

theorem byNo_of : ∀ {l : List Tr} {y : Tr}, Rise l → y ∈ l → byNo l y.no = some y
  | a :: l, y, hr, hy => by
    have hr' := List.pairwise_cons.1 hr
    rw [byNo]
    rcases List.mem_cons.1 hy with rfl | hy
    · rw [if_pos rfl]
    · have := hr'.1 y hy
      rw [if_neg (by omega)]
      exact byNo_of hr'.2 hy

/-- rising lists are told by what stands at each number -/
theorem rise_ext : ∀ (l m : List Tr), Rise l → Rise m → (∀ n, byNo l n = byNo m n) → l = m
  | [], [], _, _, _ => rfl
  | [], y :: m, _, _, h => by have := h y.no; rw [byNo, byNo, if_pos rfl] at this; cases this
  | x :: l, [], _, _, h => by have := h x.no; rw [byNo, byNo, if_pos rfl] at this; cases this
  | x :: l, y :: m, hl, hm, h => by
    have hl' := List.pairwise_cons.1 hl
    have hm' := List.pairwise_cons.1 hm
    have e1 := byNo_of (y := x) hl (by simp)
    have e2 := byNo_of (y := y) hm (by simp)
    have m1 := byNo_hit ((h x.no) ▸ e1)
    have m2 := byNo_hit ((h y.no).symm ▸ e2)
    have hxy : x.no = y.no := by
      rcases List.mem_cons.1 m1.2 with h1 | h1
      · rw [h1]
      · rcases List.mem_cons.1 m2.2 with h2 | h2
        · rw [h2]
        · have := hm'.1 x h1; have := hl'.1 y h2; omega
    have hx : x = y := by
      rw [h x.no, hxy, e2] at e1
      cases e1; rfl
    subst hx
    rw [rise_ext l m hl'.2 hm'.2 (fun n => ?_)]
    by_cases hn : x.no = n
    · rw [byNo_miss (fun z hz => by have := hl'.1 z hz; omega), byNo_miss (fun z hz => by have := hm'.1 z hz; omega)]
    · have := h n
      rwa [byNo, if_neg hn, byNo, if_neg hn] at this

theorem byNo_append : ∀ (l m : List Tr) (n : Int), byNo (l ++ m) n = (byNo l n).or (byNo m n)
  | [], m, n => by simp [byNo]
  | a :: l, m, n => by
    rw [List.cons_append, byNo, byNo, byNo_append l m n]
    split <;> rfl

theorem putL_rise {l : List Tr} {x : Tr} (hr : Rise l) (hx : ∀ y ∈ l, y.no ≠ x.no) : Rise (putL l x) := by
  unfold putL Rise
  have hd : ∀ y ∈ l.dropWhile (fun y => decide (y.no < x.no)), x.no < y.no := by
    intro y hy
    have hsub := List.dropWhile_sublist (l := l) (fun y => decide (y.no < x.no))
    have hr2 : Rise (l.dropWhile fun y => decide (y.no < x.no)) := List.Pairwise.sublist hsub hr
    cases hc : l.dropWhile (fun y => decide (y.no < x.no)) with
    | nil => rw [hc] at hy; simp at hy
    | cons z m =>
      have hz : ¬ z.no < x.no := by
        have := List.head_dropWhile_not (l := l) (fun y : Tr => decide (y.no < x.no)) (by rw [hc]; simp)
        simp only [hc, List.head_cons, decide_eq_false_iff_not] at this
        exact this
      have hzm : z ∈ l := hsub.subset (by rw [hc]; simp)
      have hzn := hx z hzm
      rw [hc] at hy hr2
      rcases List.mem_cons.1 hy with rfl | hy
      · omega
      · have := (List.pairwise_cons.1 hr2).1 y hy; omega
  have ht : ∀ y ∈ l.takeWhile (fun y => decide (y.no < x.no)), y.no < x.no := fun y hy => by
    have := List.all_takeWhile (l := l) (p := fun y => decide (y.no < x.no))
    rw [List.all_eq_true] at this
    simpa using this y hy
  rw [List.pairwise_append]
  refine ⟨List.Pairwise.sublist (List.takeWhile_sublist _) hr, ?_, fun a ha b hb => ?_⟩
  · rw [List.pairwise_cons]
    exact ⟨hd, List.Pairwise.sublist (List.dropWhile_sublist _) hr⟩
  · have h1 := ht a ha
    rcases List.mem_cons.1 hb with rfl | hb
    · exact h1
    · have := hd b hb; omega

theorem putL_by {l : List Tr} {x : Tr} (hx : ∀ y ∈ l, y.no ≠ x.no) (n : Int) : byNo (putL l x) n = if x.no = n then some x else byNo l n := by
  unfold putL
  rw [byNo_append, byNo]
  have e : byNo l n = (byNo (l.takeWhile fun y => decide (y.no < x.no)) n).or (byNo (l.dropWhile fun y => decide (y.no < x.no)) n) := by
    rw [← byNo_append, List.takeWhile_append_dropWhile]
  split
  · rename_i h
    rw [byNo_miss (fun y hy => ?_)]
    · rfl
    · rw [← h]; exact hx y ((List.takeWhile_sublist _).subset hy)
  · rw [e]

theorem putL_mem {l : List Tr} {x y : Tr} (h : y ∈ putL l x) : y = x ∨ y ∈ l := by
  unfold putL at h
  rcases List.mem_append.1 h with h | h
  · exact .inr ((List.takeWhile_sublist _).subset h)
  · rcases List.mem_cons.1 h with h | h
    · exact .inl h
    · exact .inr ((List.dropWhile_sublist _).subset h)

/-- what a part of the first becomes -/
def mg (F : Tr → Tr → Option Tr) (lb : List Tr) (x : Tr) : Option Tr := match byNo lb x.no with | none => some x | some y => F x y

/-- as the model goes through the first's parts -/
def spA (F : Tr → Tr → Option Tr) (la lb : List Tr) : Nat → Option (List Tr)
  | 0 => some []
  | i + 1 => match la[i]? with | none => spA F la lb i | some x => (spA F la lb i).bind fun l => (mg F lb x).map (putL l)

/-- and through the second's -/
def spB (la lb l : List Tr) : Nat → List Tr
  | 0 => l
  | j + 1 => match lb[j]? with | none => spB la lb l j | some y => if byNo la y.no = none then putL (spB la lb l j) y else spB la lb l j

theorem take_snoc {l : List Tr} {i : Nat} {x : Tr} (h : l[i]? = some x) : l.take (i + 1) = l.take i ++ [x] := by
  rw [List.take_add_one, h]; rfl

theorem rise_take {l : List Tr} (hr : Rise l) {i : Nat} {x : Tr} (h : l[i]? = some x) : ∀ y ∈ l.take i, y.no < x.no := fun y hy => by
  obtain ⟨j, hj, rfl⟩ := List.getElem_of_mem hy
  rw [List.length_take] at hj
  rw [List.getElem_take]
  obtain ⟨hi, rfl⟩ := List.getElem?_eq_some_iff.1 h
  exact List.pairwise_iff_getElem.1 hr j i (by omega) hi (by omega)

theorem spA_spec {F : Tr → Tr → Option Tr} (hF : ∀ x y z, F x y = some z → z.no = x.no) {la lb : List Tr} (hr : Rise la) : ∀ (i : Nat), i ≤ la.length →
    (∀ l, spA F la lb i = some l → Rise l ∧ ∀ n, byNo l n = (byNo (la.take i) n).bind (mg F lb)) ∧ (spA F la lb i = none ↔ ∃ x ∈ la.take i, mg F lb x = none)
  | 0, _ => ⟨fun l h => by rw [spA] at h; cases h; exact ⟨List.Pairwise.nil, fun n => by simp [byNo]⟩, by simp [spA]⟩
  | i + 1, hi => by
    obtain ⟨x, hx⟩ : ∃ x, la[i]? = some x := ⟨_, List.getElem?_eq_getElem (by omega)⟩
    obtain ⟨h1, h2⟩ := spA_spec hF (lb := lb) hr i (by omega)
    have hlt := rise_take hr hx
    have hz : ∀ z, mg F lb x = some z → z.no = x.no := fun z h => by
      unfold mg at h
      split at h
      · cases h; rfl
      · exact hF _ _ _ h
    rw [spA, hx]
    dsimp only
    rw [take_snoc hx]
    constructor
    · intro l hl
      obtain ⟨l0, hl0, hl⟩ := Option.bind_eq_some_iff.1 hl
      obtain ⟨z, hmz, rfl⟩ := Option.map_eq_some_iff.1 hl
      obtain ⟨r0, b0⟩ := h1 l0 hl0
      have hne : ∀ y ∈ l0, y.no ≠ z.no := fun y hy => by
        have hb := byNo_of r0 hy
        rw [b0] at hb
        obtain ⟨u, hu, _⟩ := Option.bind_eq_some_iff.1 hb
        have h3 := byNo_hit hu
        have h4 := hlt u h3.2
        rw [hz z hmz]
        omega
      refine ⟨putL_rise r0 hne, fun n => ?_⟩
      rw [putL_by hne, byNo_append, b0, hz z hmz]
      by_cases hn : x.no = n
      · rw [if_pos hn, byNo_miss (fun y hy => by have := hlt y hy; omega), byNo, if_pos hn]
        show _ = mg F lb x
        exact hmz.symm
      · rw [if_neg hn, byNo, if_neg hn, byNo, Option.or_none]
    · rw [Option.bind_eq_none_iff]
      constructor
      · intro h
        cases hl0 : spA F la lb i with
        | none =>
          obtain ⟨y, hy, hm⟩ := h2.1 hl0
          exact ⟨y, by simp [hy], hm⟩
        | some l0 =>
          have := h l0 hl0
          rw [Option.map_eq_none_iff] at this
          exact ⟨x, by simp, this⟩
      · rintro ⟨y, hy, hm⟩ l0 hl0
        rcases List.mem_append.1 hy with hy | hy
        · rw [h2.2 ⟨y, hy, hm⟩] at hl0; cases hl0
        · simp at hy; subst hy
          rw [hm]; rfl

theorem spB_spec {la lb l : List Tr} (hr : Rise lb) (hl : Rise l) (hla : ∀ n, byNo la n = none → byNo l n = none) : ∀ (j : Nat), j ≤ lb.length →
    Rise (spB la lb l j) ∧ ∀ n, byNo (spB la lb l j) n = match byNo la n with | some _ => byNo l n | none => byNo (lb.take j) n
  | 0, _ => ⟨hl, fun n => by
    rw [spB]
    split
    · rfl
    · rename_i h; rw [hla n h]; rfl⟩
  | j + 1, hj => by
    obtain ⟨y, hy⟩ : ∃ y, lb[j]? = some y := ⟨_, List.getElem?_eq_getElem (by omega)⟩
    obtain ⟨h1, h2⟩ := spB_spec hr hl hla j (by omega)
    have hlt := rise_take hr hy
    rw [spB, hy]
    dsimp only
    rw [take_snoc hy]
    by_cases hb : byNo la y.no = none
    · rw [if_pos hb]
      have hne : ∀ u ∈ spB la lb l j, u.no ≠ y.no := fun u hu e => by
        have h3 := byNo_of h1 hu
        rw [h2, e, hb] at h3
        have h4 := byNo_hit h3
        have := hlt u h4.2
        omega
      refine ⟨putL_rise h1 hne, fun n => ?_⟩
      rw [putL_by hne, byNo_append, h2]
      by_cases hn : y.no = n
      · subst hn
        rw [if_pos rfl, hb]
        dsimp only
        rw [byNo_miss (l := lb.take j) (fun u hu => by have := hlt u hu; omega), byNo, if_pos rfl]
        rfl
      · rw [if_neg hn, byNo, if_neg hn, byNo, Option.or_none]
    · rw [if_neg hb]
      refine ⟨h1, fun n => ?_⟩
      rw [h2, byNo_append]
      split
      · rfl
      · rename_i h
        rw [byNo, if_neg (fun e => hb (by rw [e]; exact h)), byNo, Option.or_none]

theorem meetTo_spec {F : Tr → Tr → Option Tr} (hF : ∀ x y z, F x y = some z → z.no = x.no) (la lb : List Tr) : ∀ (n : Nat),
    (∀ l, meetTo F la lb n = some l → Rise l ∧ (∀ y ∈ l, 1 ≤ y.no ∧ y.no ≤ n) ∧ ∀ k : Int, 1 ≤ k → k ≤ n → byNo l k = match byNo la k with | some x => mg F lb x | none => byNo lb k) ∧
    (meetTo F la lb n = none ↔ ∃ k : Nat, k < n ∧ ∃ x y, byNo la ((k : Int) + 1) = some x ∧ byNo lb ((k : Int) + 1) = some y ∧ F x y = none)
  | 0 => ⟨fun l h => by rw [meetTo] at h; cases h; exact ⟨List.Pairwise.nil, fun y hy => by simp at hy, fun k h1 h2 => by omega⟩, by simp [meetTo]⟩
  | n + 1 => by
    obtain ⟨h1, h2⟩ := meetTo_spec hF la lb n
    rw [meetTo]
    have key : ∀ s, stepL F la lb n = some s → (∀ y ∈ s, y.no = (n : Int) + 1) ∧ Rise s ∧ byNo s ((n : Int) + 1) = match byNo la ((n : Int) + 1) with | some x => mg F lb x | none => byNo lb ((n : Int) + 1) := by
      intro s hs
      unfold stepL at hs
      cases ha : byNo la ((n : Int) + 1) with
      | none =>
        cases hb : byNo lb ((n : Int) + 1) with
        | none => rw [ha, hb] at hs; cases hs; exact ⟨fun y hy => by simp at hy, List.Pairwise.nil, rfl⟩
        | some y =>
          rw [ha, hb] at hs; cases hs
          have := (byNo_hit hb).1
          exact ⟨fun u hu => by simp at hu; subst hu; exact this, by simp [Rise], by rw [byNo, if_pos this]⟩
      | some x =>
        have hxn := (byNo_hit ha).1
        cases hb : byNo lb ((n : Int) + 1) with
        | none =>
          rw [ha, hb] at hs; cases hs
          refine ⟨fun u hu => by simp at hu; subst hu; exact hxn, by simp [Rise], ?_⟩
          rw [byNo, if_pos hxn]
          show _ = mg F lb x
          unfold mg
          rw [hxn, hb]
        | some y =>
          rw [ha, hb] at hs
          obtain ⟨z, hz, rfl⟩ := Option.map_eq_some_iff.1 hs
          have hzn := hF _ _ _ hz
          refine ⟨fun u hu => by simp at hu; subst hu; omega, by simp [Rise], ?_⟩
          rw [byNo, if_pos (by omega)]
          show _ = mg F lb x
          unfold mg
          rw [hxn, hb]
          exact hz.symm
    constructor
    · intro l hl
      obtain ⟨l0, hl0, hl⟩ := Option.bind_eq_some_iff.1 hl
      obtain ⟨s, hs, rfl⟩ := Option.map_eq_some_iff.1 hl
      obtain ⟨r0, m0, b0⟩ := h1 l0 hl0
      obtain ⟨k1, k2, k3⟩ := key s hs
      refine ⟨?_, ?_, ?_⟩
      · unfold Rise
        rw [List.pairwise_append]
        exact ⟨r0, k2, fun a ha b hb => by have := m0 a ha; have := k1 b hb; omega⟩
      · intro y hy
        rcases List.mem_append.1 hy with hy | hy
        · have := m0 y hy; omega
        · have := k1 y hy; omega
      · intro k hk1 hk2
        rw [byNo_append]
        by_cases hk : k = (n : Int) + 1
        · subst hk
          rw [byNo_miss (fun y hy => by have := m0 y hy; omega), k3]
          rfl
        · rw [b0 k hk1 (by omega), byNo_miss (l := s) (fun y hy => by have := k1 y hy; omega), Option.or_none]
    · rw [Option.bind_eq_none_iff]
      constructor
      · intro h
        cases hl0 : meetTo F la lb n with
        | none =>
          obtain ⟨k, hk, r⟩ := h2.1 hl0
          exact ⟨k, by omega, r⟩
        | some l0 =>
          have h3 := h l0 hl0
          rw [Option.map_eq_none_iff] at h3
          unfold stepL at h3
          split at h3
          · rename_i x y ha hb
            rw [Option.map_eq_none_iff] at h3
            exact ⟨n, by omega, x, y, ha, hb, h3⟩
          · cases h3
          · cases h3
          · cases h3
      · rintro ⟨k, hk, x, y, ha, hb, hf⟩ l0 hl0
        by_cases hkn : k = n
        · subst hkn
          unfold stepL
          rw [ha, hb]
          dsimp only
          rw [hf]; rfl
        · rw [h2.2 ⟨k, by omega, x, y, ha, hb, hf⟩] at hl0; cases hl0

/-- the parts' numbers are numbers of parts -/
def InNo (l : List Tr) : Prop := ∀ y ∈ l, 1 ≤ y.no ∧ y.no ≤ 30

theorem meet_both {F : Tr → Tr → Option Tr} (hF : ∀ x y z, F x y = some z → z.no = x.no) {la lb : List Tr} (ra : Rise la) (rb : Rise lb) (na : InNo la) (nb : InNo lb) :
    meetTo F la lb 30 = (spA F la lb la.length).map fun l => spB la lb l lb.length := by
  obtain ⟨a1, a2⟩ := spA_spec hF (lb := lb) ra la.length (Nat.le_refl _)
  obtain ⟨m1, m2⟩ := meetTo_spec hF la lb 30
  rw [List.take_length] at a1 a2
  cases hs : spA F la lb la.length with
  | none =>
    obtain ⟨x, hx, hm⟩ := a2.1 hs
    have hxb := byNo_of ra hx
    have hxn := na x hx
    refine m2.2 ⟨x.no.toNat - 1, by omega, x, ?_⟩
    have e : ((x.no.toNat - 1 : Nat) : Int) + 1 = x.no := by omega
    rw [e]
    unfold mg at hm
    split at hm
    · cases hm
    · rename_i y hy
      exact ⟨y, hxb, hy, hm⟩
  | some l =>
    obtain ⟨rl, bl⟩ := a1 l hs
    have hla : ∀ n, byNo la n = none → byNo l n = none := fun n h => by rw [bl, h]; rfl
    obtain ⟨rs, bs⟩ := spB_spec rb rl hla lb.length (Nat.le_refl _)
    rw [List.take_length] at bs
    cases ht : meetTo F la lb 30 with
    | none =>
      obtain ⟨k, hk, x, y, ha, hb, hf⟩ := m2.1 ht
      exfalso
      have hx := byNo_hit ha
      have : spA F la lb la.length = none := a2.2 ⟨x, hx.2, by unfold mg; rw [hx.1, hb]; exact hf⟩
      rw [hs] at this; cases this
    | some m =>
      obtain ⟨rm, nm, bm⟩ := m1 m ht
      show some m = some _
      congr 1
      refine rise_ext _ _ rm rs (fun n => ?_)
      rw [bs]
      by_cases hn : 1 ≤ n ∧ n ≤ 30
      · rw [bm n hn.1 hn.2]
        split
        · rename_i x hx; rw [bl, hx]; rfl
        · rfl
      · rw [byNo_miss (fun y hy => by have := nm y hy; omega)]
        have h1 : byNo la n = none := byNo_miss (fun y hy => by have := na y hy; omega)
        have h2 : byNo lb n = none := byNo_miss (fun y hy => by have := nb y hy; omega)
        rw [h1, h2]

end Go.Proofs.Ytbkdpcfghaiimaa
