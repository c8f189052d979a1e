/- What a filter tells of fields: the plain words. -/
import Derived.Test.YtpopjapcgcnnfabDoorWnB
import Derived.Test.YtpopjapcgcnnfabDoorRdA
namespace Go.Proofs.YtpopjapcgcnnfabDoor
open Plain Sch Wan

/-- fields that rise by No -/
def riseF : List Fld → Bool
  | [] => true
  | [_] => true
  | x :: y :: l => decide (x.no < y.no) && riseF (y :: l)

def rr (s : ByteArray) : List Fld × Bool := if (rf s).2 && riseF (rf s).1 then ((rf s).1, true) else ([], false)

theorem rise_iffF : ∀ (l : List Fld), riseF l = true ↔ ∀ j x z, l[j]? = some z → l[j + 1]? = some x → z.no < x.no
  | [] => by simp [riseF]
  | [a] => by simp [riseF]
  | a :: b :: l => by
    have e : riseF (a :: b :: l) = (decide (a.no < b.no) && riseF (b :: l)) := rfl
    rw [e, Bool.and_eq_true, decide_eq_true_eq, rise_iffF (b :: l)]
    constructor
    · rintro ⟨h1, h2⟩ j x z hz hx
      cases j with
      | zero => simp at hz hx; rw [← hz, ← hx]; exact h1
      | succ j => exact h2 j x z (by simpa using hz) (by simpa using hx)
    · intro h
      exact ⟨h 0 b a rfl rfl, fun j x z hz hx => h (j + 1) x z (by simpa using hz) (by simpa using hx)⟩

theorem rise_noF {l : List Fld} {j : Nat} {x z : Fld} (hz : l[j]? = some z) (hx : l[j + 1]? = some x) (h : x.no ≤ z.no) : riseF l = false := by
  rw [Bool.eq_false_iff]
  intro hr
  have := (rise_iffF l).1 hr j x z hz hx
  omega

/-- the first field with a No -/
def fby : List Fld → Int → Option Fld
  | [], _ => none
  | x :: l, no => if x.no = no then some x else fby l no

theorem fby_at : ∀ (l : List Fld) (no : Int) (i : Nat) (x : Fld), (∀ j y, j < i → l[j]? = some y → y.no ≠ no) → l[i]? = some x → x.no = no → fby l no = some x
  | [], _, i, x, _, h, _ => by simp at h
  | a :: l, no, 0, x, _, h, hx => by simp at h; subst h; simp [fby, hx]
  | a :: l, no, i + 1, x, hall, h, hx => by
    rw [fby, if_neg (hall 0 a (by omega) rfl)]
    exact fby_at l no i x (fun j y hj hy => hall (j + 1) y (by omega) (by simpa using hy)) (by simpa using h) hx

theorem fby_none : ∀ (l : List Fld) (no : Int), (∀ (j : Nat) (y : Fld), l[j]? = some y → y.no ≠ no) → fby l no = none
  | [], _, _ => rfl
  | a :: l, no, hall => by
    rw [fby, if_neg (hall 0 a rfl)]
    exact fby_none l no (fun j y hy => hall (j + 1) y (by simpa using hy))

theorem fby_mem : ∀ (l : List Fld) (no : Int) (x : Fld), fby l no = some x → x ∈ l
  | [], _, x, h => by simp [fby] at h
  | a :: l, no, x, h => by
    rw [fby] at h
    split at h
    · simp at h; simp [h]
    · exact List.mem_cons_of_mem _ (fby_mem l no x h)

def preB (d t : ByteArray) : Bool := decide (t.size ≤ d.size) && decide (d.extract 0 t.size = t)

def cmpN (k n m : Int) : Bool := if k = 1 then decide (n = m) else if k = 2 then decide (n < m) else decide (m < n)

/-- is a field as a want says -/
def isSo (x : Wa) (f : Fld) : Bool :=
  if x.kind ≤ 3 then decide (f.kind = 0) && cmpN x.kind f.num x.num else if x.kind = 4 then true else decide (f.kind = 2) && preB f.data x.text

def askF (l : List Fld) (x : Wa) : Bool := match fby l x.no with | some f => isSo x f | none => false

def tlS (l : List Fld) (acc : List Bool) (x : Wa) : Bool :=
  if x.kind = 6 then acc.getD x.a.toNat false && acc.getD x.b.toNat false
  else if x.kind = 7 then acc.getD x.a.toNat false || acc.getD x.b.toNat false
  else if x.kind = 8 then !acc.getD x.a.toNat false
  else askF l x

def tl (l : List Fld) (T : List Wa) (k : Nat) : Bool := (fld (tlS l) T).getD k false
def mto (T : List Wa) (s : ByteArray) : Bool × Bool := if gf T && (rr s).2 then (tl (rr s).1 T (T.length - 1), true) else (false, false)

theorem fldB_get {s : List Bool → Wa → Bool} {T : List Wa} {k j : Nat} (hk : k ≤ T.length) (hj : j < k) : (fld s (T.take k)).getD j false = (fld s T).getD j false := by
  have h1 := fld_prefix s T k T.length hk (Nat.le_refl _) j hj
  rw [List.take_length] at h1
  simp only [List.getD, h1]

theorem tl_eq (l : List Fld) (T : List Wa) (k : Nat) (hk : k < T.length) : tl l T k = tlS l (fld (tlS l) (T.take k)) (wa T k) := by
  unfold tl
  rw [List.getD, fld_get (tlS l) T k hk]
  rfl

theorem tl_and {l : List Fld} {T : List Wa} {k : Nat} (hg : gf T = true) (hk : k < T.length) (h : (wa T k).kind = 6) : tl l T k = (tl l T (wa T k).a.toNat && tl l T (wa T k).b.toNat) := by
  have hb : isBin (wa T k).kind = true := by simp [isBin, h]
  have hx := gf_own hg k hk
  rw [own_bin hb] at hx
  have ha := hx (wa T k).a (by simp)
  have hbb := hx (wa T k).b (by simp)
  rw [tl_eq l T k hk, tlS, if_pos h, fldB_get (by omega) (by omega), fldB_get (by omega) (by omega)]
  rfl

theorem tl_or {l : List Fld} {T : List Wa} {k : Nat} (hg : gf T = true) (hk : k < T.length) (h : (wa T k).kind = 7) : tl l T k = (tl l T (wa T k).a.toNat || tl l T (wa T k).b.toNat) := by
  have hb : isBin (wa T k).kind = true := by simp [isBin, h]
  have hx := gf_own hg k hk
  rw [own_bin hb] at hx
  have ha := hx (wa T k).a (by simp)
  have hbb := hx (wa T k).b (by simp)
  rw [tl_eq l T k hk, tlS, if_neg (by omega), if_pos h, fldB_get (by omega) (by omega), fldB_get (by omega) (by omega)]
  rfl

theorem tl_not {l : List Fld} {T : List Wa} {k : Nat} (hg : gf T = true) (hk : k < T.length) (h : (wa T k).kind = 8) : tl l T k = !tl l T (wa T k).a.toNat := by
  have hb : isNot (wa T k).kind = true := by simp [isNot, h]
  have hx := gf_own hg k hk
  rw [own_not hb] at hx
  have ha := hx (wa T k).a (by simp)
  rw [tl_eq l T k hk, tlS, if_neg (by omega), if_neg (by omega), if_pos h, fldB_get (by omega) (by omega)]
  rfl

theorem tl_ask {l : List Fld} {T : List Wa} {k : Nat} (hk : k < T.length) (h : isAsk (wa T k).kind = true) : tl l T k = askF l (wa T k) := by
  have hb := ask_bounds h
  rw [tl_eq l T k hk, tlS, if_neg (by omega), if_neg (by omega), if_neg (by omega)]

theorem rf1_kind {s : ByteArray} {a : Nat} {x : Fld} {b : Nat} (h : rf1 s a = some (x, b)) : (x.kind = 0 ∨ x.kind = 2) ∧ x.data.size ≤ s.size := by
  unfold rf1 at h
  split at h
  · split at h
    · split at h
      · split at h
        · simp only [Option.some.injEq, Prod.mk.injEq] at h
          obtain ⟨rfl, _⟩ := h
          exact ⟨.inl rfl, by show (ByteArray.mk #[]).size ≤ _; exact Nat.zero_le _⟩
        · cases h
      · split at h
        · simp only [Option.some.injEq, Prod.mk.injEq] at h
          obtain ⟨rfl, _⟩ := h
          refine ⟨.inr rfl, ?_⟩
          show (s.extract _ _).size ≤ _
          rw [ByteArray.size_extract]
          omega
        · cases h
    · cases h
  · cases h

def okF (x : Fld) : Prop := (x.kind = 0 ∨ x.kind = 2) ∧ x.data.size ≤ 400

theorem rfs_all (s : ByteArray) (hs : s.size ≤ 400) : ∀ (f a : Nat) (l : List Fld), (∀ x ∈ l, okF x) → ∀ x ∈ (rfs s f a l).1, okF x := by
  intro f
  induction f with
  | zero => intro a l _ x hx; simp [rfs] at hx
  | succ f ih =>
    intro a l hl x hx
    rw [rfs] at hx
    split at hx
    · split at hx
      · simp at hx
      · rename_i y b he
        split at hx
        · simp at hx
        · refine ih _ _ ?_ x hx
          intro z hz
          rw [List.mem_append, List.mem_singleton] at hz
          rcases hz with hz | rfl
          · exact hl z hz
          · have := rf1_kind he
            exact ⟨this.1, by omega⟩
    · exact hl x hx

theorem rf_all (s : ByteArray) : ∀ x ∈ (rf s).1, okF x := by
  unfold rf
  split
  · rename_i hs
    exact rfs_all s hs _ _ _ (by simp)
  · simp

theorem rr_all (s : ByteArray) : ∀ x ∈ (rr s).1, okF x := by
  unfold rr
  split
  · exact rf_all s
  · simp

end Go.Proofs.YtpopjapcgcnnfabDoor
