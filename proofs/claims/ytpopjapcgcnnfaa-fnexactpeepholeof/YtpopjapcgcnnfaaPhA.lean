/- A program made better, in plain words. -/
import Derived.Test.YtpopjapcgcnnfaaPgA
namespace Go.Proofs.Ytpopjapcgcnnfaa.Prg
open Plain Sch Wan

/-- does a jump lead there -/
def led (T : List Ins) (k : Int) : Bool := T.any fun x => decide (x.code = 3) && decide (x.dst = k)

def dwn (frm many : Nat) (x : Ins) : Ins := if x.code = 3 ∧ (frm : Int) < x.dst then ⟨x.code, x.kind, x.no, x.num, x.text, x.dst - many⟩ else x

def cutP (T : List Ins) (frm many : Nat) : List Ins := (T.take frm ++ T.drop (frm + many)).map (dwn frm many)

def ledOn (T : List Ins) (i : Nat) : List Ins := T.set i ⟨(ins T i).code, (ins T i).kind, (ins T i).no, (ins T i).num, (ins T i).text, (ins T (ins T i).dst.toNat).dst⟩

def isA (T : List Ins) (i : Nat) : Prop := (ins T i).code = 4 ∧ i + 1 < T.length ∧ (ins T (i + 1)).code = 4 ∧ led T ((i : Int) + 1) = false
def isB (T : List Ins) (i : Nat) : Prop := (ins T i).code = 3 ∧ (ins T (ins T i).dst.toNat).code = 3 ∧ (ins T (ins T i).dst.toNat).num = (ins T i).num
def isC (T : List Ins) (i : Nat) : Prop := (ins T i).code = 1 ∧ i + 2 < T.length ∧ (ins T (i + 1)).code = 2 ∧ (ins T (i + 2)).code = 1 ∧ (ins T (i + 2)).no = (ins T i).no ∧ led T ((i : Int) + 1) = false ∧ led T ((i : Int) + 2) = false

instance (T : List Ins) (i : Nat) : Decidable (isA T i) := by unfold isA; infer_instance
instance (T : List Ins) (i : Nat) : Decidable (isB T i) := by unfold isB; infer_instance
instance (T : List Ins) (i : Nat) : Decidable (isC T i) := by unfold isC; infer_instance

/-- made better at an instruction -/
def bet (T : List Ins) (i : Nat) : Option (List Ins) :=
  if isA T i then some (cutP T i 2) else if isB T i then some (ledOn T i) else if isC T i then some (cutP T (i + 2) 1) else none

/-- made better at the first one -/
def fstB (T : List Ins) : Nat → Nat → Option (List Ins)
  | 0, _ => none
  | f + 1, i => match bet T i with | some U => some U | none => fstB T f (i + 1)

def peep : Nat → List Ins → List Ins
  | 0, T => T
  | f + 1, T => match fstB T T.length 0 with | some U => peep f U | none => T

def tms (n : Nat) (x : Ins) : Nat := if x.code = 3 then n - x.dst.toNat else 0
def mea (T : List Ins) : Nat := T.length + (T.map (tms T.length)).sum

def peo (T : List Ins) : List Ins × Bool := if gp T then (peep (mea T) T, true) else ([], false)

theorem fstB_found (T : List Ins) (U : List Ins) : ∀ (f i j : Nat), i + j < i + f → (∀ q, q < j → bet T (i + q) = none) → bet T (i + j) = some U → fstB T f i = some U := by
  intro f
  induction f with
  | zero => intro i j h; omega
  | succ f ih =>
    intro i j h hn hs
    rw [fstB]
    cases j with
    | zero => rw [Nat.add_zero] at hs; rw [hs]
    | succ j =>
      have h0 := hn 0 (by omega)
      rw [Nat.add_zero] at h0
      rw [h0]
      exact ih (i + 1) j (by omega) (fun q hq => by have := hn (q + 1) (by omega); rwa [show i + (q + 1) = i + 1 + q by omega] at this) (by rwa [show i + (j + 1) = i + 1 + j by omega] at hs)

theorem fstB_none (T : List Ins) : ∀ (f i : Nat), (∀ q, q < f → bet T (i + q) = none) → fstB T f i = none := by
  intro f
  induction f with
  | zero => intro i _; rfl
  | succ f ih =>
    intro i hn
    rw [fstB]
    have h0 := hn 0 (by omega)
    rw [Nat.add_zero] at h0
    rw [h0]
    exact ih (i + 1) (fun q hq => by have := hn (q + 1) (by omega); rwa [show i + (q + 1) = i + 1 + q by omega] at this)

theorem fstB_some (T : List Ins) (U : List Ins) : ∀ (f i : Nat), fstB T f i = some U → ∃ j, i ≤ j ∧ j < i + f ∧ bet T j = some U := by
  intro f
  induction f with
  | zero => intro i h; cases h
  | succ f ih =>
    intro i h
    rw [fstB] at h
    cases hb : bet T i with
    | some V => rw [hb] at h; exact ⟨i, by omega, by omega, by rw [hb]; exact h⟩
    | none =>
      rw [hb] at h
      obtain ⟨j, h1, h2, h3⟩ := ih (i + 1) h
      exact ⟨j, by omega, by omega, h3⟩

theorem peep_some {T U : List Ins} {f : Nat} (h : fstB T T.length 0 = some U) : peep (f + 1) T = peep f U := by rw [peep, h]
theorem peep_none {T : List Ins} {f : Nat} (h : fstB T T.length 0 = none) : peep f T = T := by
  cases f with
  | zero => rfl
  | succ f => rw [peep, h]

theorem ins_get {T : List Ins} {i : Nat} (h : i < T.length) : T[i]? = some (ins T i) := by
  unfold ins; rw [List.getD, List.getElem?_eq_getElem h]; rfl
theorem ins_of {T : List Ins} {i : Nat} {x : Ins} (h : T[i]? = some x) : ins T i = x := by
  unfold ins; rw [List.getD, h]; rfl

theorem led_no {T : List Ins} {k : Int} (h : led T k = false) {i : Nat} (hi : i < T.length) (hc : (ins T i).code = 3) : (ins T i).dst ≠ k := by
  intro e
  have hm : ins T i ∈ T := List.mem_of_getElem? (ins_get hi)
  unfold led at h
  rw [List.any_eq_false] at h
  have := h _ hm
  simp [hc, e] at this

theorem okI_jump {x : Ins} {i : Nat} {last : Int} (h : okI x i last = true) (hc : x.code = 3) : (x.num = 0 ∨ x.num = 1) ∧ (i : Int) < x.dst ∧ x.dst ≤ last ∧ x = ⟨x.code, 0, 0, x.num, ⟨#[]⟩, x.dst⟩ := by
  unfold okI at h
  rw [if_neg (by omega), if_neg (by omega), if_pos hc] at h
  simp only [Bool.and_eq_true, Bool.or_eq_true, decide_eq_true_eq] at h
  exact ⟨h.1.1.1, h.1.1.2, h.1.2, h.2⟩

theorem okI_codes {x : Ins} {i : Nat} {last : Int} (h : okI x i last = true) : 1 ≤ x.code ∧ x.code ≤ 5 := by
  unfold okI at h
  by_cases c1 : x.code = 1
  · omega
  · by_cases c2 : x.code = 2
    · omega
    · by_cases c3 : x.code = 3
      · omega
      · by_cases c4 : x.code = 4 ∨ x.code = 5
        · omega
        · rw [if_neg c1, if_neg c2, if_neg c3, if_neg c4] at h; cases h

theorem okI_move {x : Ins} {i j : Nat} {last last' : Int} (h : okI x i last = true) (hc : x.code ≠ 3) : okI x j last' = true := by
  unfold okI at h ⊢
  by_cases c1 : x.code = 1
  · rw [if_pos c1] at h ⊢; exact h
  · by_cases c2 : x.code = 2
    · rw [if_neg c1, if_pos c2] at h ⊢; exact h
    · rw [if_neg c1, if_neg c2, if_neg hc] at h ⊢; exact h

theorem okI_to {x : Ins} {i j : Nat} {last last' t : Int} (h : okI x i last = true) (hc : x.code = 3) (h1 : (j : Int) < t) (h2 : t ≤ last') : okI ⟨x.code, x.kind, x.no, x.num, x.text, t⟩ j last' = true := by
  obtain ⟨a, _, _, d⟩ := okI_jump h hc
  have e1 : x.kind = 0 := by rw [d]
  have e2 : x.no = 0 := by rw [d]
  have e3 : x.text = ⟨#[]⟩ := by rw [d]
  unfold okI
  dsimp only
  rw [if_neg (by omega), if_neg (by omega), if_pos hc, e1, e2, e3]
  simp only [Bool.and_eq_true, Bool.or_eq_true, decide_eq_true_eq]
  exact ⟨⟨⟨a, h1⟩, h2⟩, trivial⟩

theorem okP_of {x : Ins} {i : Nat} {last : Int} (h1 : x.code = 5 ↔ (i : Int) = last) (h2 : okI x i last = true) : okP x i last = true := by
  simp only [okP, Bool.and_eq_true, beq_iff_eq, decide_eq_decide]; exact ⟨h1, h2⟩

theorem dwn_code (f m : Nat) (x : Ins) : (dwn f m x).code = x.code := by unfold dwn; split <;> rfl

theorem cutP_len (T : List Ins) (f m : Nat) (h : f + m ≤ T.length) : (cutP T f m).length = T.length - m := by
  unfold cutP; simp; omega

theorem cutP_lo (T : List Ins) (f m i : Nat) (h : f + m ≤ T.length) (hi : i < f) : ins (cutP T f m) i = dwn f m (ins T i) := by
  refine ins_of ?_
  unfold cutP
  rw [List.getElem?_map, List.getElem?_append_left (by simp; omega), List.getElem?_take, if_pos hi, ins_get (by omega)]
  rfl

theorem cutP_hi (T : List Ins) (f m i : Nat) (h : f + m ≤ T.length) (hi : f ≤ i) (hi2 : i + m < T.length) : ins (cutP T f m) i = dwn f m (ins T (i + m)) := by
  refine ins_of ?_
  unfold cutP
  rw [List.getElem?_map, List.getElem?_append_right (by simp; omega), List.getElem?_drop]
  have e : f + m + (i - (T.take f).length) = i + m := by simp; omega
  rw [e, ins_get hi2]
  rfl

/-- what is cut out of a good program leaves one, where no jump leads into it but to its first -/
theorem gp_cut {T : List Ins} (hg : gp T = true) {f m : Nat} (hfm : f + m < T.length) (hled : ∀ i, i < T.length → (ins T i).code = 3 → (f : Int) < (ins T i).dst → (f : Int) + m ≤ (ins T i).dst) : gp (cutP T f m) = true := by
  have hl := gp_len hg
  have hcl := cutP_len T f m (by omega)
  have hok := gp_ok hg
  refine gp_all (by omega) (by omega) fun i hi => ?_
  rw [hcl] at hi
  have key : ∀ p, p < T.length → (i < f ∧ p = i ∨ f ≤ i ∧ p = i + m) → okP (dwn f m (ins T p)) i (((cutP T f m).length : Int) - 1) = true := by
    intro p hp hpi
    have h0 := hok p hp
    have hI := okP_ok h0
    have hE := okP_end h0
    have hL := hled p hp
    rw [hcl]
    refine okP_of ?_ ?_
    · rw [dwn_code, hE]
      omega
    · unfold dwn
      by_cases hc : (ins T p).code = 3
      · obtain ⟨_, j1, j2, _⟩ := okI_jump hI hc
        have hL := hL hc
        by_cases ht : (f : Int) < (ins T p).dst
        · have hL := hL ht
          rw [if_pos ⟨hc, ht⟩]
          exact okI_to hI hc (by omega) (by omega)
        · rw [if_neg (fun e => ht e.2)]
          have := okI_to (j := i) (last' := ((T.length - m : Nat) : Int) - 1) (t := (ins T p).dst) hI hc (by omega) (by omega)
          exact this
      · rw [if_neg (fun e => hc e.1)]
        exact okI_move hI hc
  by_cases hif : i < f
  · rw [cutP_lo T f m i (by omega) hif]
    exact key i (by omega) (.inl ⟨hif, rfl⟩)
  · rw [cutP_hi T f m i (by omega) (by omega) (by omega)]
    exact key (i + m) (by omega) (.inr ⟨by omega, rfl⟩)

theorem sum_le {α : Type} (l : List α) (f g : α → Nat) (h : ∀ x ∈ l, f x ≤ g x) : (l.map f).sum ≤ (l.map g).sum := by
  induction l with
  | nil => simp
  | cons a l ih =>
    simp only [List.map_cons, List.sum_cons]
    have := h a (by simp)
    have := ih (fun x hx => h x (by simp [hx]))
    omega

theorem mea_cut {T : List Ins} {f m : Nat} (hfm : f + m ≤ T.length) (hm : 0 < m) : mea (cutP T f m) < mea T := by
  unfold mea
  rw [cutP_len T f m hfm]
  unfold cutP
  rw [List.map_map]
  have h1 : ((T.take f ++ T.drop (f + m)).map (tms (T.length - m) ∘ dwn f m)).sum ≤ ((T.take f ++ T.drop (f + m)).map (tms T.length)).sum := by
    refine sum_le _ _ _ fun x _ => ?_
    simp only [Function.comp, tms, dwn_code]
    by_cases hc : x.code = 3
    · rw [if_pos hc, if_pos hc]
      unfold dwn
      split
      · dsimp only; omega
      · omega
    · rw [if_neg hc, if_neg hc]; omega
  have h2 : ((T.take f ++ T.drop (f + m)).map (tms T.length)).sum ≤ (T.map (tms T.length)).sum := by
    have e : T = T.take f ++ ((T.drop f).take m ++ T.drop (f + m)) := by
      rw [← List.drop_drop, List.take_append_drop, List.take_append_drop]
    conv => rhs; rw [e]
    simp only [List.map_append, List.sum_append]
    have : T.length = (T.take f ++ ((T.drop f).take m ++ T.drop (f + m))).length := by rw [← e]
    rw [← this]
    omega
  omega

theorem ledOn_len (T : List Ins) (i : Nat) : (ledOn T i).length = T.length := by unfold ledOn; simp

theorem gp_led {T : List Ins} (hg : gp T = true) {i : Nat} (hi : i < T.length) (h : isB T i) : gp (ledOn T i) = true ∧ mea (ledOn T i) < mea T := by
  obtain ⟨h1, h2, _⟩ := h
  have hl := gp_len hg
  have hok := gp_ok hg
  obtain ⟨_, j1, j2, _⟩ := okI_jump (okP_ok (hok i hi)) h1
  have ht : (ins T i).dst.toNat < T.length := by omega
  obtain ⟨_, q1, q2, _⟩ := okI_jump (okP_ok (hok _ ht)) h2
  have hsame : ∀ p, p < T.length → p ≠ i → ins (ledOn T i) p = ins T p := by
    intro p hp hne
    refine ins_of ?_
    unfold ledOn
    rw [List.getElem?_set_ne (by omega), ins_get hp]
  have hat : ins (ledOn T i) i = ⟨(ins T i).code, (ins T i).kind, (ins T i).no, (ins T i).num, (ins T i).text, (ins T (ins T i).dst.toNat).dst⟩ := by
    refine ins_of ?_
    unfold ledOn
    rw [List.getElem?_set_self hi]
  constructor
  · refine gp_all (by rw [ledOn_len]; omega) (by rw [ledOn_len]; omega) fun p hp => ?_
    rw [ledOn_len] at hp ⊢
    by_cases hpi : p = i
    · subst hpi
      rw [hat]
      have hE := okP_end (hok p hp)
      exact okP_of (by exact hE) (okI_to (okP_ok (hok p hp)) h1 (by omega) (by omega))
    · rw [hsame p hp hpi]
      exact hok p hp
  · unfold mea
    rw [ledOn_len]
    have e : T = T.take i ++ (ins T i :: T.drop (i + 1)) := by
      have := List.getElem?_eq_getElem hi
      rw [ins_get hi] at this
      simp only [Option.some.injEq] at this
      rw [this, List.getElem_cons_drop, List.take_append_drop]
    have e2 : ledOn T i = T.take i ++ (⟨(ins T i).code, (ins T i).kind, (ins T i).no, (ins T i).num, (ins T i).text, (ins T (ins T i).dst.toNat).dst⟩ :: T.drop (i + 1)) := by
      unfold ledOn
      rw [List.set_eq_take_append_cons_drop, if_pos hi]
    obtain ⟨n, hn⟩ : ∃ n, n = T.length := ⟨_, rfl⟩
    rw [← hn] at hi j2 ht q2 ⊢
    have e3 : (T.map (tms n)).sum = ((T.take i).map (tms n)).sum + (tms n (ins T i) + ((T.drop (i + 1)).map (tms n)).sum) := by
      conv => lhs; rw [e]
      simp
    rw [e3, e2]
    simp only [List.map_append, List.map_cons, List.sum_append, List.sum_cons]
    simp only [tms, if_pos h1]
    omega

theorem bet_good {T U : List Ins} (hg : gp T = true) {i : Nat} (hi : i < T.length) (h : bet T i = some U) : gp U = true ∧ mea U < mea T := by
  have hok := gp_ok hg
  have hend : ∀ p, p < T.length → (ins T p).code ≠ 5 → p + 1 < T.length := fun p hp hc => by
    have := okP_end (hok p hp)
    by_cases q : (p : Int) = (T.length : Int) - 1
    · exact absurd (this.2 q) hc
    · omega
  unfold bet at h
  split at h
  · rename_i hA
    obtain ⟨a1, a2, a3, a4⟩ := hA
    cases h
    have := hend (i + 1) a2 (by omega)
    exact ⟨gp_cut hg (by omega) fun p hp hc hto => by have := led_no a4 hp hc; omega, mea_cut (by omega) (by omega)⟩
  · split at h
    · rename_i _ hB
      cases h
      exact gp_led hg hi hB
    · split at h
      · rename_i _ _ hC
        obtain ⟨c1, c2, c3, c4, c5, c6, c7⟩ := hC
        cases h
        have := hend (i + 2) c2 (by omega)
        exact ⟨gp_cut hg (by omega) fun p hp hc hto => by omega, mea_cut (by omega) (by omega)⟩
      · cases h

theorem gp_next {T : List Ins} (hg : gp T = true) {p : Nat} (hp : p < T.length) (hc : (ins T p).code ≠ 5) : p + 1 < T.length := by
  have := okP_end (gp_ok hg p hp)
  by_cases q : (p : Int) = (T.length : Int) - 1
  · exact absurd (this.2 q) hc
  · omega
theorem gp_jump {T : List Ins} (hg : gp T = true) {p : Nat} (hp : p < T.length) (hc : (ins T p).code = 3) : (p : Int) < (ins T p).dst ∧ (ins T p).dst < T.length ∧ ((ins T p).num = 0 ∨ (ins T p).num = 1) := by
  obtain ⟨a, b, c, _⟩ := okI_jump (okP_ok (gp_ok hg p hp)) hc
  exact ⟨b, by omega, a⟩
theorem gp_codes {T : List Ins} (hg : gp T = true) {p : Nat} (hp : p < T.length) : (ins T p).code = 1 ∨ (ins T p).code = 2 ∨ (ins T p).code = 3 ∨ (ins T p).code = 4 ∨ (ins T p).code = 5 := by
  have := okI_codes (okP_ok (gp_ok hg p hp)); omega
theorem gp_test {T : List Ins} (hg : gp T = true) {p : Nat} (hp : p < T.length) (hc : (ins T p).code = 2) : isAsk (ins T p).kind = true ∧ (ins T p).text.size ≤ 30 := by
  have h := okP_ok (gp_ok hg p hp)
  unfold okI at h
  rw [if_neg (by omega), if_pos hc] at h
  simp only [askedOk, Bool.and_eq_true, decide_eq_true_eq] at h
  exact ⟨h.1.1, h.1.2.2⟩
theorem gp_text {T : List Ins} (hg : gp T = true) {p : Nat} (hp : p < T.length) : (ins T p).text.size ≤ 30 := by
  have h := okP_ok (gp_ok hg p hp)
  have z : (ByteArray.mk #[]).size ≤ 30 := by decide
  rcases gp_codes hg hp with hc | hc | hc | hc | hc
  · unfold okI at h
    rw [if_pos hc] at h
    simp only [Bool.and_eq_true, decide_eq_true_eq] at h
    rw [h.2]; exact z
  · exact (gp_test hg hp hc).2
  · obtain ⟨_, _, _, d⟩ := okI_jump h hc
    rw [d]; exact z
  · unfold okI at h
    rw [if_neg (by omega), if_neg (by omega), if_neg (by omega), if_pos (.inl hc)] at h
    simp only [decide_eq_true_eq] at h
    rw [h]; exact z
  · unfold okI at h
    rw [if_neg (by omega), if_neg (by omega), if_neg (by omega), if_pos (.inr hc)] at h
    simp only [decide_eq_true_eq] at h
    rw [h]; exact z

end Go.Proofs.Ytpopjapcgcnnfaa.Prg
