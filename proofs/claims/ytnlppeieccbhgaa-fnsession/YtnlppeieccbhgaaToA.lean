/- Levels of topics in plain words: a text cut at each '/', what a good level is, what fits, what takes in what, what meets. -/
import Derived.Test.YtnlppeieccbhgaaGa
import Derived.Lib.Split
import Derived.Lib.SplitLaws
import Derived.Lib.IndexBytes
import Derived.Laws.Strings
namespace Go.Proofs.Ytnlppeieccbhgaa
open Plain

namespace Tpc

/-- a text cut at each '/' -/
def splL : List UInt8 → List (List UInt8)
  | [] => [[]]
  | c :: cs => if c = 47 then [] :: splL cs else match splL cs with
    | h :: t => (c :: h) :: t
    | [] => [[c]]

theorem splL_ne : ∀ l, splL l ≠ []
  | [] => by simp [splL]
  | c :: cs => by
    unfold splL
    split
    · simp
    · split <;> simp

theorem splL_one (c : UInt8) (cs : List UInt8) (h : ¬ c = 47) (a : List UInt8) (b : List (List UInt8)) (e : splL cs = a :: b) : splL (c :: cs) = (c :: a) :: b := by
  rw [splL, if_neg h, e]

theorem splitK_eq : ∀ l : List UInt8, Lib.splitK [47] 0 (Lib.count l [47]) l = splL l
  | [] => by
    have h : Lib.count [] [47] = 0 := by rw [Lib.count_one]; rfl
    rw [h]; rfl
  | c :: cs => by
    by_cases h : c = 47
    · subst h
      have hix : Lib.index (47 :: cs) [47] = 0 := by rw [Lib.index]; simp [List.isPrefixOf]
      rw [Lib.count_cons_eq, Nat.add_comm, Lib.splitK, hix, if_neg (by decide)]
      simp only [Int.toNat_zero, Nat.zero_add, List.take_zero, List.length_singleton, List.drop_succ_cons, List.drop_zero]
      rw [splitK_eq cs, splL, if_pos rfl]
    · have hp : List.isPrefixOf [47] (c :: cs) = false := by simp [List.isPrefixOf]; exact fun e => h e.symm
      have hix : Lib.index (c :: cs) [47] = if Lib.index cs [47] == -1 then -1 else Lib.index cs [47] + 1 := by rw [Lib.index, hp]; simp
      have ih := splitK_eq cs
      rw [Lib.count_cons_ne c 47 cs h]
      cases hk : Lib.count cs [47] with
      | zero =>
        rw [hk] at ih
        rw [splL_one c cs h cs [] ih.symm]
        rfl
      | succ k =>
        have hne : ¬ Lib.index cs [47] = -1 := fun e => by rw [Lib.count_miss e] at hk; omega
        have hge := Lib.index_ge cs [47]
        obtain ⟨j, hj⟩ : ∃ j : Nat, Lib.index cs [47] = j := ⟨(Lib.index cs [47]).toNat, by omega⟩
        have hb : ¬ ((j : Int) == -1) = true := fun e => by have := beq_iff_eq.1 e; omega
        rw [hj, if_neg hb] at hix
        have hb2 : ¬ (((j : Int) + 1) == -1) = true := fun e => by have := beq_iff_eq.1 e; omega
        rw [hk, Lib.splitK, hj, if_neg hb] at ih
        rw [Lib.splitK, hix, if_neg hb2]
        simp only [Int.toNat_natCast, Nat.add_zero, List.length_singleton] at ih ⊢
        have e1 : ((j : Int) + 1).toNat = j + 1 := by omega
        rw [splL_one c cs h _ _ ih.symm, e1]
        simp only [List.take_succ_cons, List.drop_succ_cons]

theorem ba_inj {a b : ByteArray} (h : a.data.toList = b.data.toList) : a = b := ByteArray.ext (Array.toList_inj.1 h)

theorem map_data_inj : ∀ {a b : List ByteArray}, a.map (·.data.toList) = b.map (·.data.toList) → a = b
  | [], [], _ => rfl
  | [], _ :: _, h => by simp at h
  | _ :: _, [], h => by simp at h
  | x :: xs, y :: ys, h => by
    simp only [List.map_cons, List.cons.injEq] at h
    rw [ba_inj h.1, map_data_inj h.2]

/-- the levels of a text -/
def spl (s : ByteArray) : List ByteArray := (splL s.data.toList).map fun l => ⟨l.toArray⟩

theorem spl_data (s : ByteArray) : (spl s).map (·.data.toList) = splL s.data.toList := by
  unfold spl
  rw [List.map_map]
  exact List.map_id' _

theorem splitB_spl (s : ByteArray) : Lib.splitB ⟨#[47]⟩ 0 (Lib.countB s ⟨#[47]⟩) s = spl s := by
  apply map_data_inj
  rw [spl_data, Lib.splitB_data]
  exact splitK_eq _

theorem spl_len (s : ByteArray) : (spl s).length = Lib.countB s ⟨#[47]⟩ + 1 := by
  rw [← splitB_spl]
  exact Lib.splitB_all _ (by decide) 0 _ s rfl

/-- the model's loop: from the last cut on, at a place, with so many bytes to go -/
def mspl (s : ByteArray) (frm i : Nat) : Nat → List ByteArray
  | 0 => [s.extract frm s.size]
  | f + 1 => if bt s i = 47 then s.extract frm i :: mspl s (i + 1) (i + 1) f else mspl s frm (i + 1) f

theorem drop_bt (s : ByteArray) (i : Nat) (h : i < s.size) : s.data.toList.drop i = s[i] :: s.data.toList.drop (i + 1) := by
  have h' : i < s.data.toList.length := by rw [Array.length_toList]; exact h
  rw [List.drop_eq_getElem_cons h']
  rfl

theorem ext_snoc (s : ByteArray) (frm i : Nat) (h : i < s.size) (hf : frm ≤ i) : (s.extract frm (i + 1)).data.toList = (s.extract frm i).data.toList ++ [s[i]] := by
  rw [Lib.extract_data, Lib.extract_data]
  have h' : i - frm < (s.data.toList.drop frm).length := by rw [List.length_drop, Array.length_toList]; show i - frm < s.size - frm; omega
  rw [show i + 1 - frm = (i - frm) + 1 by omega, List.take_succ_eq_append_getElem h']
  congr 2
  rw [List.getElem_drop]
  have : frm + (i - frm) = i := by omega
  simp only [this]
  rfl

theorem mspl_eq (s : ByteArray) : ∀ (f frm i : Nat), i ≤ s.size → f = s.size - i → frm ≤ i → ∀ a b, splL (s.data.toList.drop i) = a :: b → (mspl s frm i f).map (·.data.toList) = ((s.extract frm i).data.toList ++ a) :: b
  | 0, frm, i, h, hf, hfi, a, b, e => by
    obtain rfl : i = s.size := by omega
    have : s.data.toList.drop s.size = [] := List.drop_eq_nil_of_le (by rw [Array.length_toList]; exact Nat.le_refl _)
    rw [this, splL] at e
    simp only [List.cons.injEq] at e
    rw [← e.1, ← e.2]
    simp [mspl]
  | f + 1, frm, i, h, hf, hfi, a, b, e => by
    have hi : i < s.size := by omega
    have hbt := bt_get s i hi
    rw [drop_bt s i hi] at e
    obtain ⟨a', b', e'⟩ : ∃ a' b', splL (s.data.toList.drop (i + 1)) = a' :: b' := by
      cases hh : splL (s.data.toList.drop (i + 1)) with
      | nil => exact absurd hh (splL_ne _)
      | cons x y => exact ⟨x, y, rfl⟩
    unfold mspl
    by_cases hc : bt s i = 47
    · have hc' : s[i] = 47 := UInt8.toNat_inj.1 (by rw [hbt, hc]; rfl)
      rw [if_pos hc, List.map_cons, mspl_eq s f (i + 1) (i + 1) hi (by omega) (Nat.le_refl _) a' b' e']
      rw [splL, if_pos hc', e'] at e
      simp only [List.cons.injEq] at e
      rw [← e.1, ← e.2]
      have : (s.extract (i + 1) (i + 1)).data.toList = [] := by simp
      rw [this]
      simp
    · have hc' : ¬ s[i] = 47 := fun e => hc (by rw [← hbt, e]; rfl)
      rw [if_neg hc, mspl_eq s f frm (i + 1) hi (by omega) (by omega) a' b' e']
      rw [splL_one _ _ hc' _ _ e'] at e
      simp only [List.cons.injEq] at e
      rw [← e.1, ← e.2, ext_snoc s frm i hi hfi]
      simp

theorem mspl_spl (s : ByteArray) : mspl s 0 0 s.size = spl s := by
  apply map_data_inj
  rw [spl_data]
  obtain ⟨a, b, e⟩ : ∃ a b, splL s.data.toList = a :: b := by
    cases hh : splL s.data.toList with
    | nil => exact absurd hh (splL_ne _)
    | cons x y => exact ⟨x, y, rfl⟩
  rw [e, mspl_eq s s.size 0 0 (Nat.zero_le _) rfl (Nat.le_refl _) a b (by simpa using e)]
  simp

theorem mspl_len (s : ByteArray) : ∀ f frm i, (mspl s frm i f).length ≤ f + 1
  | 0, _, _ => by simp [mspl]
  | f + 1, frm, i => by
    unfold mspl
    split
    · have := mspl_len s f (i + 1) (i + 1)
      simp only [List.length_cons]; omega
    · have := mspl_len s f frm (i + 1)
      omega

theorem spl_le (s : ByteArray) : (spl s).length ≤ s.size + 1 := by rw [← mspl_spl]; exact mspl_len s _ _ _

theorem spl_pos (s : ByteArray) : 0 < (spl s).length := by rw [spl_len]; omega

/-- how long the levels are together -/
theorem splL_sum : ∀ l : List UInt8, ((splL l).map List.length).sum + (splL l).length = l.length + 1
  | [] => by simp [splL]
  | c :: cs => by
    have ih := splL_sum cs
    by_cases h : c = 47
    · rw [splL, if_pos h]
      simp only [List.map_cons, List.sum_cons, List.length_cons, List.length_nil]
      omega
    · obtain ⟨a, b, e⟩ : ∃ a b, splL cs = a :: b := by
        cases hh : splL cs with
        | nil => exact absurd hh (splL_ne _)
        | cons x y => exact ⟨x, y, rfl⟩
      rw [splL_one c cs h a b e]
      rw [e] at ih
      simp only [List.map_cons, List.sum_cons, List.length_cons] at ih ⊢
      omega

theorem sum_le (l : List Nat) (m : Nat) (h : ∀ x, x ∈ l → x ≤ m) : l.sum ≤ m * l.length := by
  induction l with
  | nil => simp
  | cons x xs ih =>
    have h1 := h x (by simp)
    have h2 := ih fun y hy => h y (by simp [hy])
    simp only [List.sum_cons, List.length_cons, Nat.mul_add, Nat.mul_one]
    omega

theorem spl_short (s : ByteArray) (h : ∀ x, x ∈ spl s → x.size ≤ 6) (hl : (spl s).length ≤ 6) : s.size ≤ 41 := by
  have h1 := splL_sum s.data.toList
  have h2 := sum_le ((splL s.data.toList).map List.length) 6 (fun x hx => by
    rw [← spl_data, List.map_map, List.mem_map] at hx
    obtain ⟨y, hy, rfl⟩ := hx
    exact h y hy)
  have h3 : (splL s.data.toList).length = (spl s).length := by rw [← spl_data, List.length_map]
  rw [List.length_map] at h2
  have h4 : s.data.toList.length = s.size := Array.length_toList
  omega

/-- a small letter or a digit -/
def okB (b : Nat) : Bool := (decide (97 ≤ b) && decide (b ≤ 122)) || (decide (48 ≤ b) && decide (b ≤ 57))

/-- a plain level -/
def lv (x : ByteArray) : Bool := decide (1 ≤ x.size) && decide (x.size ≤ 6) && (List.range x.size).all fun i => okB (bt x i)

def isP (x : ByteArray) : Bool := x.toList == [43]
def isH (x : ByteArray) : Bool := x.toList == [35]
def eqT (x y : ByteArray) : Bool := x.toList == y.toList

theorem eqT_iff (x y : ByteArray) : eqT x y = true ↔ x = y := by
  unfold eqT
  rw [beq_iff_eq, ByteArray.toList_eq, ByteArray.toList_eq]
  exact ⟨ba_inj, fun e => by rw [e]⟩

theorem isP_iff (x : ByteArray) : isP x = true ↔ x = ⟨#[43]⟩ := by
  unfold isP
  rw [beq_iff_eq, ByteArray.toList_eq]
  exact ⟨fun h => ba_inj h, fun e => by rw [e]⟩

theorem isH_iff (x : ByteArray) : isH x = true ↔ x = ⟨#[35]⟩ := by
  unfold isH
  rw [beq_iff_eq, ByteArray.toList_eq]
  exact ⟨fun h => ba_inj h, fun e => by rw [e]⟩

theorem lv_size {x : ByteArray} (h : lv x = true) : 1 ≤ x.size ∧ x.size ≤ 6 := by
  unfold lv at h
  simp only [Bool.and_eq_true, decide_eq_true_eq] at h
  exact h.1

theorem lv_at {x : ByteArray} (h : lv x = true) (i : Nat) (hi : i < x.size) : okB (bt x i) = true := by
  unfold lv at h
  simp only [Bool.and_eq_true, decide_eq_true_eq, List.all_eq_true] at h
  exact h.2 i (by simpa using hi)

theorem lv_no {x : ByteArray} {i : Nat} (hi : i < x.size) (h : okB (bt x i) = false) : lv x = false := by
  rw [Bool.eq_false_iff]
  intro hh
  rw [lv_at hh i hi] at h
  cases h

theorem lv_yes {x : ByteArray} (h1 : 1 ≤ x.size) (h2 : x.size ≤ 6) (h : ∀ i, i < x.size → okB (bt x i) = true) : lv x = true := by
  unfold lv
  simp only [Bool.and_eq_true, decide_eq_true_eq, List.all_eq_true]
  exact ⟨⟨h1, h2⟩, fun i hi => h i (by simpa using hi)⟩

theorem lv_out {x : ByteArray} (h : ¬ (1 ≤ x.size ∧ x.size ≤ 6)) : lv x = false := by
  rw [Bool.eq_false_iff]
  exact fun hh => h (lv_size hh)

theorem lv_P {x : ByteArray} (h : lv x = true) : isP x = false := by
  rw [Bool.eq_false_iff]
  intro hp
  rw [isP_iff] at hp
  subst hp
  exact absurd h (by decide)

theorem lv_H {x : ByteArray} (h : lv x = true) : isH x = false := by
  rw [Bool.eq_false_iff]
  intro hp
  rw [isH_iff] at hp
  subst hp
  exact absurd h (by decide)

/-- the level at a place -/
def lq (L : List ByteArray) (i : Nat) : ByteArray := L.getD i ⟨#[]⟩

theorem lq_at {L : List ByteArray} {i : Nat} (h : i < L.length) : L[i]? = some (lq L i) := by
  unfold lq
  rw [List.getD_eq_getElem?_getD, List.getElem?_eq_getElem h]
  rfl

theorem lq_mem {L : List ByteArray} {i : Nat} (h : i < L.length) : lq L i ∈ L := List.mem_of_getElem? (lq_at h)

theorem lq_of_mem {L : List ByteArray} {x : ByteArray} (h : x ∈ L) : ∃ i, i < L.length ∧ lq L i = x := by
  obtain ⟨i, hi, e⟩ := List.getElem_of_mem h
  refine ⟨i, hi, ?_⟩
  have := lq_at hi
  rw [List.getElem?_eq_getElem hi, e] at this
  exact (Option.some.inj this).symm

theorem lq_drop (L : List ByteArray) (i : Nat) (h : i < L.length) : L.drop i = lq L i :: L.drop (i + 1) := by
  rw [List.drop_eq_getElem_cons h]
  congr 1
  have := lq_at h
  rw [List.getElem?_eq_getElem h] at this
  exact Option.some.inj this

def isS (x : ByteArray) : Bool := isP x || isH x

/-- a level of a pattern at its place -/
def okP (L : List ByteArray) (i : Nat) : Bool := lv (lq L i) || isP (lq L i) || (isH (lq L i) && decide (i + 1 = L.length))

def gpL (L : List ByteArray) : Bool := (List.range L.length).all (okP L) && decide (L.length ≤ 6)
def gtL (L : List ByteArray) : Bool := (List.range L.length).all (fun i => lv (lq L i)) && decide (L.length ≤ 6)

/-- a good pattern, a good topic -/
def gp (s : ByteArray) : Bool := gpL (spl s)
def gt (s : ByteArray) : Bool := gtL (spl s)

theorem gpL_no {L : List ByteArray} {i : Nat} (hi : i < L.length) (h : okP L i = false) : gpL L = false := by
  rw [Bool.eq_false_iff]
  intro hh
  unfold gpL at hh
  simp only [Bool.and_eq_true, List.all_eq_true] at hh
  rw [hh.1 i (by simpa using hi)] at h
  cases h

theorem gpL_end {L : List ByteArray} (h : ∀ i, i < L.length → okP L i = true) : gpL L = decide (L.length ≤ 6) := by
  unfold gpL
  rw [List.all_eq_true.2 (fun i hi => h i (by simpa using hi))]
  rfl

theorem gpL_at {L : List ByteArray} (h : gpL L = true) : (∀ i, i < L.length → okP L i = true) ∧ L.length ≤ 6 := by
  unfold gpL at h
  simp only [Bool.and_eq_true, List.all_eq_true, decide_eq_true_eq] at h
  exact ⟨fun i hi => h.1 i (by simpa using hi), h.2⟩

theorem gtL_no {L : List ByteArray} {i : Nat} (hi : i < L.length) (h : lv (lq L i) = false) : gtL L = false := by
  rw [Bool.eq_false_iff]
  intro hh
  unfold gtL at hh
  simp only [Bool.and_eq_true, List.all_eq_true] at hh
  rw [hh.1 i (by simpa using hi)] at h
  cases h

theorem gtL_end {L : List ByteArray} (h : ∀ i, i < L.length → lv (lq L i) = true) : gtL L = decide (L.length ≤ 6) := by
  unfold gtL
  rw [List.all_eq_true.2 (fun i hi => h i (by simpa using hi))]
  rfl

theorem gtL_at {L : List ByteArray} (h : gtL L = true) : (∀ i, i < L.length → lv (lq L i) = true) ∧ L.length ≤ 6 := by
  unfold gtL at h
  simp only [Bool.and_eq_true, List.all_eq_true, decide_eq_true_eq] at h
  exact ⟨fun i hi => h.1 i (by simpa using hi), h.2⟩

theorem gp_short {s : ByteArray} (h : gp s = true) : s.size ≤ 41 := by
  obtain ⟨h1, h2⟩ := gpL_at h
  refine spl_short s (fun x hx => ?_) h2
  obtain ⟨i, hi, rfl⟩ := lq_of_mem hx
  have h3 := h1 i hi
  unfold okP at h3
  simp only [Bool.or_eq_true, Bool.and_eq_true] at h3
  rcases h3 with (h3 | h3) | h3
  · exact (lv_size h3).2
  · rw [(isP_iff _).1 h3]; exact Nat.le_of_ble_eq_true rfl
  · rw [(isH_iff _).1 h3.1]; exact Nat.le_of_ble_eq_true rfl

theorem gp_long {s : ByteArray} (h : 41 < s.size) : gp s = false := by
  rw [Bool.eq_false_iff]
  intro hh
  have := gp_short hh
  omega

/-- a topic is a pattern without signs -/
theorem gt_gp (L : List ByteArray) : gtL L = (gpL L && !L.any isS) := by
  rw [Bool.eq_iff_iff]
  simp only [Bool.and_eq_true, Bool.not_eq_true', List.any_eq_false]
  constructor
  · intro h
    obtain ⟨h1, h2⟩ := gtL_at h
    refine ⟨?_, fun x hx => ?_⟩
    · rw [gpL_end (fun i hi => by unfold okP; rw [h1 i hi]; rfl)]
      simpa using h2
    · obtain ⟨i, hi, rfl⟩ := lq_of_mem hx
      unfold isS
      rw [lv_P (h1 i hi), lv_H (h1 i hi)]
      decide
  · rintro ⟨h, hs⟩
    obtain ⟨h1, h2⟩ := gpL_at h
    rw [gtL_end (fun i hi => ?_)]
    · simpa using h2
    · have h3 := h1 i hi
      have h4 := hs _ (lq_mem hi)
      unfold isS at h4
      simp only [Bool.or_eq_true, not_or] at h4
      unfold okP at h3
      simp only [Bool.or_eq_true, Bool.and_eq_true] at h3
      rcases h3 with (h3 | h3) | h3
      · exact h3
      · exact absurd h3 h4.1
      · exact absurd h3.1 h4.2

/-- a topic fits a pattern -/
def fts : List ByteArray → List ByteArray → Bool
  | [], [] => true
  | [], _ :: _ => false
  | p :: ps, t => if isH p then true else match t with
    | [] => false
    | x :: xs => (isP p || eqT p x) && fts ps xs

/-- a pattern takes in another one -/
def cvs : List ByteArray → List ByteArray → Bool
  | [], [] => true
  | [], _ :: _ => false
  | p :: ps, t => if isH p then true else match t with
    | [] => false
    | x :: xs => (!isH x && (isP p || eqT p x)) && cvs ps xs

/-- two patterns meet -/
def mts : List ByteArray → List ByteArray → Bool
  | [], [] => true
  | [], q :: _ => isH q
  | p :: _, [] => isH p
  | p :: ps, q :: qs => if isH p || isH q then true else (isP p || isP q || eqT p q) && mts ps qs

theorem fts_cvs : ∀ (P T : List ByteArray), (∀ x, x ∈ T → isH x = false) → cvs P T = fts P T
  | [], [], _ => rfl
  | [], _ :: _, _ => rfl
  | p :: ps, [], _ => by unfold cvs fts; rfl
  | p :: ps, x :: xs, h => by
    unfold cvs fts
    dsimp only
    rw [h x (by simp), fts_cvs ps xs (fun y hy => h y (by simp [hy]))]
    rfl

theorem gt_noH {L : List ByteArray} (h : gtL L = true) : ∀ x, x ∈ L → isH x = false := fun x hx => by
  obtain ⟨i, hi, rfl⟩ := lq_of_mem hx
  exact lv_H ((gtL_at h).1 i hi)

theorem len_drop (P T : List ByteArray) (i : Nat) (h : ¬ i < P.length) (hT : i ≤ T.length) (hP : i ≤ P.length) : fts (P.drop i) (T.drop i) = decide (P.length = T.length) ∧ cvs (P.drop i) (T.drop i) = decide (P.length = T.length) := by
  have e : P.drop i = [] := List.drop_eq_nil_of_le (by omega)
  rw [e]
  by_cases hl : i < T.length
  · rw [lq_drop T i hl]
    have : decide (P.length = T.length) = false := by simp; omega
    rw [this]
    exact ⟨rfl, rfl⟩
  · have e2 : T.drop i = [] := List.drop_eq_nil_of_le (by omega)
    have : decide (P.length = T.length) = true := by simp; omega
    rw [e2, this]
    exact ⟨rfl, rfl⟩

/-- what the four functions of two texts tell -/
def tfo (p t : ByteArray) : Bool := gp p && gt t && fts (spl p) (spl t)
def pco (p q : ByteArray) : Bool := gp p && gp q && cvs (spl p) (spl q)
def pmo (p q : ByteArray) : Bool := gp p && gp q && mts (spl p) (spl q)

end Tpc
end Go.Proofs.Ytnlppeieccbhgaa
