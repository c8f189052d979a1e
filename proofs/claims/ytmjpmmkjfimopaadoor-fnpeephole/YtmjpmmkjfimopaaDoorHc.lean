/- Fields: what the model holds for good, and their bytes. What ReadFields finds, as a function of the bytes. What a filter tells of fields: the plain words. What a program tells of fields, in plain words; where a field lies in the bytes. A filter's program: how long it is, that it is good, and that it tells what the filter tells. A filter's program is good, and tells what the filter tells. -/
import Derived.Test.YtmjpmmkjfimopaaDoorRows
import Derived.Lib.Slices
import Derived.OwnWalk
import Derived.WalkKit
import Derived.ProofKit
import Derived.Deep.QuietTactic
import Derived.BigQuiet
import Derived.Test.YtmjpmmkjfimopaaDoorGa
import Derived.Test.YtmjpmmkjfimopaaDoorHb
namespace Go.Proofs.YtmjpmmkjfimopaaDoor
open Go.RowKit

structure Fld where
  no : Int
  kind : Int
  num : Int
  data : ByteArray

def Fld.val (f : Fld) : Value := .agg #[.int .i64 f.no, .int .i64 f.kind, .int .i64 f.num, .string f.data]

def Fld.good (f : Fld) : Bool :=
  decide (1 ≤ f.no) && decide (f.no ≤ 30) && (if f.kind = 0 then decide (-1000000000 ≤ f.num) && decide (f.num ≤ 1000000000) && f.data.toList.isEmpty else if f.kind = 2 then f.num == 0 else false)

set_option maxRecDepth 100000 in
set_option maxHeartbeats 4000000 in
theorem l1Field_any (f : Fld) (w : World) :
    Calls Tryd.prog 72 #[f.val] w fun e w' => e = .returned (.bool f.good) ∧ Below w.heap.size w w' := by
  obtain ⟨no, kind, num, data⟩ := f
  unfold Fld.val Fld.good
  dsimp only
  have hbel : ∀ o : Obj, Below w.heap.size w (w.alloc o) := fun o => (Below.refl _ _).alloc (Nat.le_refl _) o
  by_cases h1 : 1 ≤ no
  · by_cases h2 : no ≤ 30
    · have d1 : decide (1 ≤ no) = true := by simpa using h1
      have d2 : decide (no ≤ 30) = true := by simpa using h2
      rw [d1, d2]
      by_cases hk0 : kind = 0
      · subst hk0
        by_cases h3 : -1000000000 ≤ num
        · by_cases h4 : num ≤ 1000000000
          · have d3 : decide (-1000000000 ≤ num) = true := by simpa using h3
            have d4 : decide (num ≤ 1000000000) = true := by simpa using h4
            rw [d3, d4]
            go_enter Tryd.func72, Tryd.ntmps72
            go_wp2
            go_ret
            exact ⟨rfl, hbel _⟩
          · have d4 : decide (num ≤ 1000000000) = false := by simpa using h4
            have h4' : 1000000000 < num := by omega
            rw [d4]
            clear h4
            go_enter Tryd.func72, Tryd.ntmps72
            go_wp2
            go_ret
            exact ⟨by simp, hbel _⟩
        · have d3 : decide (-1000000000 ≤ num) = false := by simpa using h3
          have h3' : num < -1000000000 := by omega
          rw [d3]
          clear h3
          go_enter Tryd.func72, Tryd.ntmps72
          go_wp2
          go_ret
          exact ⟨by simp, hbel _⟩
      · have k0 : (kind == 0) = false := by simpa using hk0
        rw [if_neg hk0]
        by_cases hk2 : kind = 2
        · subst hk2
          go_enter Tryd.func72, Tryd.ntmps72
          go_wp2
          go_ret
          exact ⟨by simp, hbel _⟩
        · have k2 : (kind == 2) = false := by simpa using hk2
          rw [if_neg hk2]
          clear hk0 hk2
          go_enter Tryd.func72, Tryd.ntmps72
          go_wp2
          go_ret
          exact ⟨rfl, hbel _⟩
    · have d2 : decide (no ≤ 30) = false := by simpa using h2
      have h2' : 30 < no := by omega
      rw [d2]
      simp only [Bool.and_false, Bool.false_and]
      clear h2
      go_enter Tryd.func72, Tryd.ntmps72
      go_wp2
      go_ret
      exact ⟨rfl, hbel _⟩
  · have d1 : decide (1 ≤ no) = false := by simpa using h1
    have h1' : no < 1 := by omega
    rw [d1]
    simp only [Bool.false_and]
    clear h1
    go_enter Tryd.func72, Tryd.ntmps72
    go_wp2
    go_ret
    exact ⟨rfl, hbel _⟩

end Go.Proofs.YtmjpmmkjfimopaaDoor

namespace Go.Proofs.YtmjpmmkjfimopaaDoor
open Go.RowKit Plain

/-- the number that was folded -/
def unf (a : Int) : Int := if a % 2 = 0 then a / 2 else -((a + 1) / 2)

/-- one field at a place, and the place behind it -/
def rf1 (s : ByteArray) (a : Nat) : Option (Fld × Nat) :=
  if (tk s a 5 0 0).2.2 = true then
    if (tk s (tk s a 5 0 0).2.1.toNat 5 0 0).2.2 = true then
      if (tk s a 5 0 0).1 % 8 = 0 then
        if 1 ≤ (tk s a 5 0 0).1 / 8 ∧ (tk s a 5 0 0).1 / 8 ≤ 30 ∧ (tk s (tk s a 5 0 0).2.1.toNat 5 0 0).1 ≤ 2000000000 then
          some (⟨(tk s a 5 0 0).1 / 8, 0, unf (tk s (tk s a 5 0 0).2.1.toNat 5 0 0).1, ⟨#[]⟩⟩, (tk s (tk s a 5 0 0).2.1.toNat 5 0 0).2.1.toNat)
        else none
      else if (tk s a 5 0 0).1 % 8 = 2 ∧ 1 ≤ (tk s a 5 0 0).1 / 8 ∧ (tk s a 5 0 0).1 / 8 ≤ 30 ∧ (tk s (tk s a 5 0 0).2.1.toNat 5 0 0).1 ≤ (s.size : Int) - (tk s (tk s a 5 0 0).2.1.toNat 5 0 0).2.1 then
        some (⟨(tk s a 5 0 0).1 / 8, 2, 0, s.extract (tk s (tk s a 5 0 0).2.1.toNat 5 0 0).2.1.toNat ((tk s (tk s a 5 0 0).2.1.toNat 5 0 0).2.1 + (tk s (tk s a 5 0 0).2.1.toNat 5 0 0).1).toNat⟩, ((tk s (tk s a 5 0 0).2.1.toNat 5 0 0).2.1 + (tk s (tk s a 5 0 0).2.1.toNat 5 0 0).1).toNat)
      else none
    else none
  else none

/-- the fields from a place on -/
def rfs (s : ByteArray) : Nat → Nat → List Fld → List Fld × Bool
  | 0, _, _ => ([], false)
  | f + 1, a, acc =>
    if a < s.size then
      match rf1 s a with
      | none => ([], false)
      | some (x, b) => if acc.length = 40 then ([], false) else rfs s f b (acc ++ [x])
    else (acc, true)

def rf (s : ByteArray) : List Fld × Bool := if s.size ≤ 400 then rfs s (s.size + 1) 0 [] else ([], false)

/-- what is found lies behind the place, within the text, and is within bounds -/
theorem tk_place (s : ByteArray) (a : Nat) : ∀ (f k n : Nat), (tk s a f k n).2.2 = true → 0 ≤ (tk s a f k n).1 ∧ (tk s a f k n).1 ≤ 2000000001 ∧ (a : Int) + k < (tk s a f k n).2.1 ∧ (tk s a f k n).2.1 ≤ s.size := by
  intro f
  induction f with
  | zero => intro k n h; simp [tk] at h
  | succ f ih =>
    intro k n h
    by_cases h1 : a + k < s.size
    · by_cases h2 : bt s (a + k) < 128
      · by_cases h3 : (0 < k ∧ bt s (a + k) = 0) ∨ 2000000001 < n + bt s (a + k) % 128 * 128 ^ k
        · rw [tk_bad s a f k n h1 h2 h3] at h; simp at h
        · rw [tk_good s a f k n h1 h2 h3]
          have : ¬ 2000000001 < n + bt s (a + k) % 128 * 128 ^ k := fun e => h3 (.inr e)
          dsimp only
          omega
      · rw [tk_more s a f k n h1 (by omega)] at h ⊢
        have := ih _ _ h
        omega
    · rw [tk_out s a _ k n h1] at h; simp at h

theorem rfs_out (s : ByteArray) (f a : Nat) (acc : List Fld) (h : ¬ a < s.size) : rfs s (f + 1) a acc = (acc, true) := by
  rw [rfs, if_neg h]

theorem rfs_none (s : ByteArray) (f a : Nat) (acc : List Fld) (h : a < s.size) (h1 : rf1 s a = none) : rfs s (f + 1) a acc = ([], false) := by
  rw [rfs, if_pos h, h1]

theorem rfs_full (s : ByteArray) (f a b : Nat) (x : Fld) (acc : List Fld) (h : a < s.size) (h1 : rf1 s a = some (x, b)) (h2 : acc.length = 40) : rfs s (f + 1) a acc = ([], false) := by
  rw [rfs, if_pos h, h1]; dsimp only; rw [if_pos h2]

theorem rfs_more (s : ByteArray) (f a b : Nat) (x : Fld) (acc : List Fld) (h : a < s.size) (h1 : rf1 s a = some (x, b)) (h2 : acc.length ≠ 40) : rfs s (f + 1) a acc = rfs s f b (acc ++ [x]) := by
  rw [rfs, if_pos h, h1]; dsimp only; rw [if_neg h2]

section
variable (s : ByteArray) (a : Nat) (tag nx n en : Int)

theorem rf1_no1 (h : (tk s a 5 0 0).2.2 = false) : rf1 s a = none := by unfold rf1; rw [if_neg (by simp [h])]
theorem rf1_no2 (h : tk s a 5 0 0 = (tag, nx, true)) (h2 : (tk s nx.toNat 5 0 0).2.2 = false) : rf1 s a = none := by
  unfold rf1; rw [h]; dsimp only; rw [if_pos rfl, if_neg (by simp [h2])]
theorem rf1_num (h : tk s a 5 0 0 = (tag, nx, true)) (h2 : tk s nx.toNat 5 0 0 = (n, en, true)) (h3 : tag % 8 = 0) (h4 : 1 ≤ tag / 8 ∧ tag / 8 ≤ 30 ∧ n ≤ 2000000000) :
    rf1 s a = some (⟨tag / 8, 0, unf n, ⟨#[]⟩⟩, en.toNat) := by
  unfold rf1; rw [h]; dsimp only; rw [h2]; dsimp only; rw [if_pos rfl, if_pos rfl, if_pos h3, if_pos h4]
theorem rf1_nonum (h : tk s a 5 0 0 = (tag, nx, true)) (h2 : tk s nx.toNat 5 0 0 = (n, en, true)) (h3 : tag % 8 = 0) (h4 : ¬ (1 ≤ tag / 8 ∧ tag / 8 ≤ 30 ∧ n ≤ 2000000000)) :
    rf1 s a = none := by
  unfold rf1; rw [h]; dsimp only; rw [h2]; dsimp only; rw [if_pos rfl, if_pos rfl, if_pos h3, if_neg h4]
theorem rf1_data (h : tk s a 5 0 0 = (tag, nx, true)) (h2 : tk s nx.toNat 5 0 0 = (n, en, true)) (h4 : tag % 8 = 2 ∧ 1 ≤ tag / 8 ∧ tag / 8 ≤ 30 ∧ n ≤ (s.size : Int) - en) :
    rf1 s a = some (⟨tag / 8, 2, 0, s.extract en.toNat (en + n).toNat⟩, (en + n).toNat) := by
  unfold rf1; rw [h]; dsimp only; rw [h2]; dsimp only; rw [if_pos rfl, if_pos rfl, if_neg (by omega), if_pos h4]
theorem rf1_nodata (h : tk s a 5 0 0 = (tag, nx, true)) (h2 : tk s nx.toNat 5 0 0 = (n, en, true)) (h3 : tag % 8 ≠ 0) (h4 : ¬ (tag % 8 = 2 ∧ 1 ≤ tag / 8 ∧ tag / 8 ≤ 30 ∧ n ≤ (s.size : Int) - en)) :
    rf1 s a = none := by
  unfold rf1; rw [h]; dsimp only; rw [h2]; dsimp only; rw [if_pos rfl, if_pos rfl, if_neg h3, if_neg h4]
/-- a tag that no field has: whatever follows -/
theorem rf1_tag (h : tk s a 5 0 0 = (tag, nx, true)) (h3 : ¬ ((tag % 8 = 0 ∨ tag % 8 = 2) ∧ 1 ≤ tag / 8 ∧ tag / 8 ≤ 30)) : rf1 s a = none := by
  by_cases h2 : (tk s nx.toNat 5 0 0).2.2 = true
  · obtain ⟨⟨n, en, b⟩, he⟩ : ∃ r, tk s nx.toNat 5 0 0 = r := ⟨_, rfl⟩
    rw [he] at h2
    dsimp only at h2
    subst h2
    by_cases h0 : tag % 8 = 0
    · exact rf1_nonum s a tag nx n en h he h0 (fun k => h3 ⟨.inl h0, k.1, k.2.1⟩)
    · exact rf1_nodata s a tag nx n en h he h0 (fun k => h3 ⟨.inr k.1, k.2.1, k.2.2.1⟩)
  · exact rf1_no2 s a tag nx h (by simpa using h2)
end

end Go.Proofs.YtmjpmmkjfimopaaDoor

namespace Go.Proofs.YtmjpmmkjfimopaaDoor
open Plain Sch Wan

/-- fields that rise by No -/
def riseF : List Fld → Bool
  | [] => true
  | [_] => true
  | x :: y :: l => decide (x.no < y.no) && riseF (y :: l)

def rr (s : ByteArray) : List Fld × Bool := if (rf s).2 && riseF (rf s).1 then ((rf s).1, true) else ([], false)

theorem rise_iffF : ∀ (l : List Fld), riseF l = true ↔ ∀ j x z, l[j]? = some z → l[j + 1]? = some x → z.no < x.no
  | [] => by simp [riseF]
  | [a] => by simp [riseF]
  | a :: b :: l => by
    have e : riseF (a :: b :: l) = (decide (a.no < b.no) && riseF (b :: l)) := rfl
    rw [e, Bool.and_eq_true, decide_eq_true_eq, rise_iffF (b :: l)]
    constructor
    · rintro ⟨h1, h2⟩ j x z hz hx
      cases j with
      | zero => simp at hz hx; rw [← hz, ← hx]; exact h1
      | succ j => exact h2 j x z (by simpa using hz) (by simpa using hx)
    · intro h
      exact ⟨h 0 b a rfl rfl, fun j x z hz hx => h (j + 1) x z (by simpa using hz) (by simpa using hx)⟩

theorem rise_noF {l : List Fld} {j : Nat} {x z : Fld} (hz : l[j]? = some z) (hx : l[j + 1]? = some x) (h : x.no ≤ z.no) : riseF l = false := by
  rw [Bool.eq_false_iff]
  intro hr
  have := (rise_iffF l).1 hr j x z hz hx
  omega

/-- the first field with a No -/
def fby : List Fld → Int → Option Fld
  | [], _ => none
  | x :: l, no => if x.no = no then some x else fby l no

theorem fby_at : ∀ (l : List Fld) (no : Int) (i : Nat) (x : Fld), (∀ j y, j < i → l[j]? = some y → y.no ≠ no) → l[i]? = some x → x.no = no → fby l no = some x
  | [], _, i, x, _, h, _ => by simp at h
  | a :: l, no, 0, x, _, h, hx => by simp at h; subst h; simp [fby, hx]
  | a :: l, no, i + 1, x, hall, h, hx => by
    rw [fby, if_neg (hall 0 a (by omega) rfl)]
    exact fby_at l no i x (fun j y hj hy => hall (j + 1) y (by omega) (by simpa using hy)) (by simpa using h) hx

theorem fby_none : ∀ (l : List Fld) (no : Int), (∀ (j : Nat) (y : Fld), l[j]? = some y → y.no ≠ no) → fby l no = none
  | [], _, _ => rfl
  | a :: l, no, hall => by
    rw [fby, if_neg (hall 0 a rfl)]
    exact fby_none l no (fun j y hy => hall (j + 1) y (by simpa using hy))

theorem fby_mem : ∀ (l : List Fld) (no : Int) (x : Fld), fby l no = some x → x ∈ l
  | [], _, x, h => by simp [fby] at h
  | a :: l, no, x, h => by
    rw [fby] at h
    split at h
    · simp at h; simp [h]
    · exact List.mem_cons_of_mem _ (fby_mem l no x h)

def preB (d t : ByteArray) : Bool := decide (t.size ≤ d.size) && decide (d.extract 0 t.size = t)

def cmpN (k n m : Int) : Bool := if k = 1 then decide (n = m) else if k = 2 then decide (n < m) else decide (m < n)

/-- is a field as a want says -/
def isSo (x : Wa) (f : Fld) : Bool :=
  if x.kind ≤ 3 then decide (f.kind = 0) && cmpN x.kind f.num x.num else if x.kind = 4 then true else decide (f.kind = 2) && preB f.data x.text

def askF (l : List Fld) (x : Wa) : Bool := match fby l x.no with | some f => isSo x f | none => false

def tlS (l : List Fld) (acc : List Bool) (x : Wa) : Bool :=
  if x.kind = 6 then acc.getD x.a.toNat false && acc.getD x.b.toNat false
  else if x.kind = 7 then acc.getD x.a.toNat false || acc.getD x.b.toNat false
  else if x.kind = 8 then !acc.getD x.a.toNat false
  else askF l x

def tl (l : List Fld) (T : List Wa) (k : Nat) : Bool := (fld (tlS l) T).getD k false
def mto (T : List Wa) (s : ByteArray) : Bool × Bool := if gf T && (rr s).2 then (tl (rr s).1 T (T.length - 1), true) else (false, false)

theorem fldB_get {s : List Bool → Wa → Bool} {T : List Wa} {k j : Nat} (hk : k ≤ T.length) (hj : j < k) : (fld s (T.take k)).getD j false = (fld s T).getD j false := by
  have h1 := fld_prefix s T k T.length hk (Nat.le_refl _) j hj
  rw [List.take_length] at h1
  simp only [List.getD, h1]

theorem tl_eq (l : List Fld) (T : List Wa) (k : Nat) (hk : k < T.length) : tl l T k = tlS l (fld (tlS l) (T.take k)) (wa T k) := by
  unfold tl
  rw [List.getD, fld_get (tlS l) T k hk]
  rfl

theorem tl_and {l : List Fld} {T : List Wa} {k : Nat} (hg : gf T = true) (hk : k < T.length) (h : (wa T k).kind = 6) : tl l T k = (tl l T (wa T k).a.toNat && tl l T (wa T k).b.toNat) := by
  have hb : isBin (wa T k).kind = true := by simp [isBin, h]
  have hx := gf_own hg k hk
  rw [own_bin hb] at hx
  have ha := hx (wa T k).a (by simp)
  have hbb := hx (wa T k).b (by simp)
  rw [tl_eq l T k hk, tlS, if_pos h, fldB_get (by omega) (by omega), fldB_get (by omega) (by omega)]
  rfl

theorem tl_or {l : List Fld} {T : List Wa} {k : Nat} (hg : gf T = true) (hk : k < T.length) (h : (wa T k).kind = 7) : tl l T k = (tl l T (wa T k).a.toNat || tl l T (wa T k).b.toNat) := by
  have hb : isBin (wa T k).kind = true := by simp [isBin, h]
  have hx := gf_own hg k hk
  rw [own_bin hb] at hx
  have ha := hx (wa T k).a (by simp)
  have hbb := hx (wa T k).b (by simp)
  rw [tl_eq l T k hk, tlS, if_neg (by omega), if_pos h, fldB_get (by omega) (by omega), fldB_get (by omega) (by omega)]
  rfl

theorem tl_not {l : List Fld} {T : List Wa} {k : Nat} (hg : gf T = true) (hk : k < T.length) (h : (wa T k).kind = 8) : tl l T k = !tl l T (wa T k).a.toNat := by
  have hb : isNot (wa T k).kind = true := by simp [isNot, h]
  have hx := gf_own hg k hk
  rw [own_not hb] at hx
  have ha := hx (wa T k).a (by simp)
  rw [tl_eq l T k hk, tlS, if_neg (by omega), if_neg (by omega), if_pos h, fldB_get (by omega) (by omega)]
  rfl

theorem tl_ask {l : List Fld} {T : List Wa} {k : Nat} (hk : k < T.length) (h : isAsk (wa T k).kind = true) : tl l T k = askF l (wa T k) := by
  have hb := ask_bounds h
  rw [tl_eq l T k hk, tlS, if_neg (by omega), if_neg (by omega), if_neg (by omega)]

theorem rf1_kind {s : ByteArray} {a : Nat} {x : Fld} {b : Nat} (h : rf1 s a = some (x, b)) : (x.kind = 0 ∨ x.kind = 2) ∧ x.data.size ≤ s.size := by
  unfold rf1 at h
  split at h
  · split at h
    · split at h
      · split at h
        · simp only [Option.some.injEq, Prod.mk.injEq] at h
          obtain ⟨rfl, _⟩ := h
          exact ⟨.inl rfl, by show (ByteArray.mk #[]).size ≤ _; exact Nat.zero_le _⟩
        · cases h
      · split at h
        · simp only [Option.some.injEq, Prod.mk.injEq] at h
          obtain ⟨rfl, _⟩ := h
          refine ⟨.inr rfl, ?_⟩
          show (s.extract _ _).size ≤ _
          rw [ByteArray.size_extract]
          omega
        · cases h
    · cases h
  · cases h

def okF (x : Fld) : Prop := (x.kind = 0 ∨ x.kind = 2) ∧ x.data.size ≤ 400

theorem rfs_all (s : ByteArray) (hs : s.size ≤ 400) : ∀ (f a : Nat) (l : List Fld), (∀ x ∈ l, okF x) → ∀ x ∈ (rfs s f a l).1, okF x := by
  intro f
  induction f with
  | zero => intro a l _ x hx; simp [rfs] at hx
  | succ f ih =>
    intro a l hl x hx
    rw [rfs] at hx
    split at hx
    · split at hx
      · simp at hx
      · rename_i y b he
        split at hx
        · simp at hx
        · refine ih _ _ ?_ x hx
          intro z hz
          rw [List.mem_append, List.mem_singleton] at hz
          rcases hz with hz | rfl
          · exact hl z hz
          · have := rf1_kind he
            exact ⟨this.1, by omega⟩
    · exact hl x hx

theorem rf_all (s : ByteArray) : ∀ x ∈ (rf s).1, okF x := by
  unfold rf
  split
  · rename_i hs
    exact rfs_all s hs _ _ _ (by simp)
  · simp

theorem rr_all (s : ByteArray) : ∀ x ∈ (rr s).1, okF x := by
  unfold rr
  split
  · exact rf_all s
  · simp

end Go.Proofs.YtmjpmmkjfimopaaDoor

namespace Go.Proofs.YtmjpmmkjfimopaaDoor
open Plain Sch Wan Prg

def askI (x : Ins) (f : Fld) : Bool := isSo ⟨x.kind, f.no, x.num, x.text, 0, 0⟩ f
def tstI (x : Ins) (pl : Option Fld) : Bool := match pl with | some q => askI x q | none => false
def jmpI (x : Ins) (fl : Bool) (p : Nat) : Nat := if fl = decide (x.num = 1) then x.dst.toNat else p + 1

def rn (T : List Ins) (l : List Fld) : Nat → Bool → Option Fld → Nat → Nat → Bool × Nat
  | 0, fl, _, _, k => (fl, k)
  | f + 1, fl, pl, p, k =>
    if (ins T p).code = 1 then rn T l f fl (fby l (ins T p).no) (p + 1) (k + 1)
    else if (ins T p).code = 2 then rn T l f (tstI (ins T p) pl) pl (p + 1) (k + 1)
    else if (ins T p).code = 3 then rn T l f fl pl (jmpI (ins T p) fl p) (k + 1)
    else if (ins T p).code = 4 then rn T l f (!fl) pl (p + 1) (k + 1)
    else (fl, k + 1)

def rpo (T : List Ins) (s : ByteArray) : Bool × Int × Bool := if gp T && (rr s).2 then ((rn T (rr s).1 T.length false none 0 0).1, ((rn T (rr s).1 T.length false none 0 0).2 : Int), true) else (false, 0, false)

theorem rn_seek {T : List Ins} {l : List Fld} {f p k : Nat} {fl : Bool} {pl : Option Fld} (h : (ins T p).code = 1) : rn T l (f + 1) fl pl p k = rn T l f fl (fby l (ins T p).no) (p + 1) (k + 1) := by rw [rn, if_pos h]
theorem rn_test {T : List Ins} {l : List Fld} {f p k : Nat} {fl : Bool} {pl : Option Fld} (h : (ins T p).code = 2) : rn T l (f + 1) fl pl p k = rn T l f (tstI (ins T p) pl) pl (p + 1) (k + 1) := by rw [rn, if_neg (by omega), if_pos h]
theorem rn_jump {T : List Ins} {l : List Fld} {f p k : Nat} {fl : Bool} {pl : Option Fld} (h : (ins T p).code = 3) : rn T l (f + 1) fl pl p k = rn T l f fl pl (jmpI (ins T p) fl p) (k + 1) := by rw [rn, if_neg (by omega), if_neg (by omega), if_pos h]
theorem rn_flip {T : List Ins} {l : List Fld} {f p k : Nat} {fl : Bool} {pl : Option Fld} (h : (ins T p).code = 4) : rn T l (f + 1) fl pl p k = rn T l f (!fl) pl (p + 1) (k + 1) := by rw [rn, if_neg (by omega), if_neg (by omega), if_neg (by omega), if_pos h]
theorem rn_end {T : List Ins} {l : List Fld} {f p k : Nat} {fl : Bool} {pl : Option Fld} (h : (ins T p).code = 5) : rn T l (f + 1) fl pl p k = (fl, k + 1) := by rw [rn, if_neg (by omega), if_neg (by omega), if_neg (by omega), if_neg (by omega)]

theorem rn_le (T : List Ins) (l : List Fld) : ∀ (f : Nat) (fl : Bool) (pl : Option Fld) (p k : Nat), (rn T l f fl pl p k).2 ≤ f + k := by
  intro f
  induction f with
  | zero => intro fl pl p k; simp [rn]
  | succ f ih =>
    intro fl pl p k
    rw [rn]
    split
    · have := ih fl (fby l (ins T p).no) (p + 1) (k + 1); omega
    · split
      · have := ih (tstI (ins T p) pl) pl (p + 1) (k + 1); omega
      · split
        · have := ih fl pl (jmpI (ins T p) fl p) (k + 1); omega
        · split
          · have := ih (!fl) pl (p + 1) (k + 1); omega
          · simp; omega

/-- a place in the bytes, and the field that lies there -/
def PlR (s : ByteArray) (pv : Int) (pl : Option Fld) : Prop := (pv = -1 ∧ pl = none) ∨ ∃ (a : Nat) (x : Fld) (b : Nat), pv = (a : Int) ∧ rf1 s a = some (x, b) ∧ pl = some x ∧ a < s.size ∧ okF x

theorem fby_take (l acc : List Fld) (no : Int) (x : Fld) (rest : List Fld) (h : ∀ y ∈ acc, y.no ≠ no) (he : l = acc ++ x :: rest) : fby l no = if x.no = no then some x else fby rest no := by
  subst he
  induction acc with
  | nil => rw [List.nil_append, fby]
  | cons a acc ih =>
    rw [List.cons_append, fby, if_neg (h a (by simp))]
    exact ih (fun y hy => h y (by simp [hy]))

theorem rfs_pre (s : ByteArray) : ∀ (f a : Nat) (acc l : List Fld), rfs s f a acc = (l, true) → ∃ rest, l = acc ++ rest := by
  intro f
  induction f with
  | zero => intro a acc l h; simp [rfs] at h
  | succ f ih =>
    intro a acc l h
    rw [rfs] at h
    split at h
    · split at h
      · simp at h
      · split at h
        · simp at h
        · obtain ⟨rest, hr⟩ := ih _ _ _ h
          exact ⟨_, by rw [hr, List.append_assoc]⟩
    · simp at h
      exact ⟨[], by simp [h]⟩

theorem rfs_in {s : ByteArray} {f a : Nat} {acc l : List Fld} (h : rfs s f a acc = (l, true)) (ha : a < s.size) : ∃ (f' : Nat) (x : Fld) (b : Nat), f = f' + 1 ∧ rf1 s a = some (x, b) ∧ rfs s f' b (acc ++ [x]) = (l, true) := by
  cases f with
  | zero => simp [rfs] at h
  | succ f =>
    rw [rfs, if_pos ha] at h
    split at h
    · simp at h
    · rename_i x b he
      split at h
      · simp at h
      · exact ⟨f, x, b, rfl, he, h⟩

theorem rfs_out2 {s : ByteArray} {f a : Nat} {acc l : List Fld} (h : rfs s f a acc = (l, true)) (ha : ¬ a < s.size) : l = acc := by
  cases f with
  | zero => simp [rfs] at h
  | succ f =>
    rw [rfs, if_neg ha] at h
    simp at h
    exact h.symm

theorem rr_rfs {s : ByteArray} (h : (rr s).2 = true) : s.size ≤ 400 ∧ rfs s (s.size + 1) 0 [] = ((rr s).1, true) := by
  unfold rr at h ⊢
  by_cases hc : ((rf s).2 && riseF (rf s).1) = true
  · rw [if_pos hc]
    simp only [Bool.and_eq_true] at hc
    have h2 := hc.1
    unfold rf at h2 ⊢
    by_cases hs : s.size ≤ 400
    · rw [if_pos hs] at h2 ⊢
      exact ⟨hs, by dsimp only; rw [← h2]⟩
    · rw [if_neg hs] at h2; cases h2
  · rw [if_neg hc] at h; cases h

end Go.Proofs.YtmjpmmkjfimopaaDoor

namespace Go.Proofs.YtmjpmmkjfimopaaDoor
open Plain Sch Wan Prg

/-- a good want is one of three -/
theorem want_kinds {T : List Wa} (hg : gf T = true) {k : Nat} (hk : k < T.length) : (isAsk (wa T k).kind = true ∧ okAsk (wa T k) = true) ∨ (isNot (wa T k).kind = true ∧ (wa T k).a.toNat < k) ∨ (isBin (wa T k).kind = true ∧ (wa T k).a.toNat < k ∧ (wa T k).b.toNat < k) := by
  have h := gf_ok hg k hk
  have ho := gf_own hg k hk
  unfold okW at h
  by_cases h1 : isAsk (wa T k).kind = true
  · rw [if_pos h1] at h
    exact .inl ⟨h1, h⟩
  · rw [if_neg h1] at h
    by_cases h2 : isBin (wa T k).kind = true
    · rw [own_bin h2] at ho
      have a1 := ho (wa T k).a (by simp)
      have a2 := ho (wa T k).b (by simp)
      exact .inr (.inr ⟨h2, by omega, by omega⟩)
    · rw [if_neg h2] at h
      by_cases h3 : isNot (wa T k).kind = true
      · rw [own_not h3] at ho
        have a1 := ho (wa T k).a (by simp)
        exact .inr (.inl ⟨h3, by omega⟩)
      · rw [if_neg h3] at h; cases h

/-- how long a want's program is -/
def cl (T : List Wa) (k : Nat) : Nat := (cmp T k 0).length

theorem cmp_base {T : List Wa} (hg : gf T = true) : ∀ k, k < T.length → ∀ base, (cmp T k base).length = cl T k := by
  intro k
  induction k using Nat.strongRecOn with
  | ind k ih =>
    intro hk base
    unfold cl
    rcases want_kinds hg hk with ⟨h, _⟩ | ⟨h, h1⟩ | ⟨h, h1, h2⟩
    · rw [cmp_ask h, cmp_ask h]
    · rw [cmp_not h h1, cmp_not h h1, List.length_append, List.length_append, ih _ h1 (by omega) base]
      rfl
    · rw [cmp_bin h h1 h2, cmp_bin h h1 h2]
      simp only [List.length_append, List.length_singleton]
      rw [ih _ h1 (by omega) base, ih _ h2 (by omega)]
      rw [ih _ h2 (by omega)]
      rfl

/-- what a want adds of its own -/
def co (T : List Wa) (k : Nat) : Nat := if isAsk (wa T k).kind then 2 else 1

def sumC (T : List Wa) (l : List Int) : Nat := (l.map fun x => cl T x.toNat).sum

theorem cl_step {T : List Wa} (hg : gf T = true) {k : Nat} (hk : k < T.length) : cl T k = co T k + sumC T (own (wa T k)) := by
  rcases want_kinds hg hk with ⟨h, _⟩ | ⟨h, h1⟩ | ⟨h, h1, h2⟩
  · unfold cl co sumC
    rw [cmp_ask h, own_ask h, if_pos h]
    rfl
  · have hn : ¬ isAsk (wa T k).kind = true := by intro e; have := ask_bounds e; have := not_bounds h; omega
    unfold cl co sumC
    rw [cmp_not h h1, own_not h, if_neg hn]
    simp [cl]
    omega
  · have hn : ¬ isAsk (wa T k).kind = true := by intro e; have := ask_bounds e; have := bin_bounds h; omega
    unfold co sumC
    rw [own_bin h, if_neg hn]
    conv => lhs; unfold cl; rw [cmp_bin h h1 h2]
    simp only [List.length_append, List.length_singleton, List.map_cons, List.map_nil, List.sum_cons, List.sum_nil]
    rw [cmp_base hg _ (by omega) 0, cmp_base hg _ (by omega)]
    omega

theorem take_wa {T : List Wa} {i : Nat} (h : i < T.length) : T.take (i + 1) = T.take i ++ [wa T i] := by
  rw [List.take_add_one]
  congr 1
  simp [wa, List.getD, List.getElem?_eq_getElem h]

theorem cl_sum {T : List Wa} (hg : gf T = true) : ∀ i, i ≤ T.length → ((List.range i).map (cl T)).sum = ((List.range i).map (co T)).sum + sumC T ((T.take i).flatMap own)
  | 0, _ => by simp [sumC]
  | i + 1, hi => by
    have ih := cl_sum hg i (by omega)
    have hs := cl_step hg (k := i) (by omega)
    rw [List.range_succ, List.map_append, List.map_append, List.sum_append_nat, List.sum_append_nat, ih, take_wa (by omega), List.flatMap_append]
    have e : sumC T ((T.take i).flatMap own ++ [wa T i].flatMap own) = sumC T ((T.take i).flatMap own) + sumC T (own (wa T i)) := by
      unfold sumC
      rw [List.map_append, List.sum_append_nat]
      simp
    rw [e]
    simp only [List.map_cons, List.map_nil, List.sum_cons, List.sum_nil]
    omega

theorem co_sum (T : List Wa) : ∀ i, ((List.range i).map (co T)).sum ≤ 2 * i
  | 0 => by simp
  | i + 1 => by
    have ih := co_sum T i
    rw [List.range_succ, List.map_append, List.sum_append_nat]
    have : co T i ≤ 2 := by unfold co; split <;> omega
    simp only [List.map_cons, List.map_nil, List.sum_cons, List.sum_nil]
    omega

/-- each want but the last one is asked just once -/
theorem own_perm {T : List Wa} (hg : gf T = true) : (T.flatMap own).Perm ((List.range (T.length - 1)).map fun (n : Nat) => (n : Int)) := by
  rw [List.perm_iff_count]
  intro x
  have hlen := gf_len hg
  have hu : ∀ j, j < T.length - 1 → use T j = 1 := by
    simp only [gf, Bool.and_eq_true, decide_eq_true_eq] at hg; exact hg.2
  by_cases hx : 0 ≤ x ∧ x.toNat < T.length - 1
  · obtain ⟨n, rfl⟩ : ∃ n : Nat, x = (n : Int) := ⟨x.toNat, by omega⟩
    have h1 : (T.flatMap own).count (n : Int) = 1 := hu n (by simpa using hx.2)
    rw [h1]
    have h2 : ((List.range (T.length - 1)).map fun (n : Nat) => (n : Int)).count (n : Int) = (List.range (T.length - 1)).count n := by
      have : ∀ l : List Nat, (l.map fun (n : Nat) => (n : Int)).count (n : Int) = l.count n := by
        intro l
        induction l with
        | nil => rfl
        | cons a l ih =>
          rw [List.map_cons, List.count_cons, List.count_cons, ih]
          congr 1
          by_cases h : a = n
          · subst h; simp
          · have h' : ¬ ((a : Int) = (n : Int)) := by omega
            simp [h, h']
      exact this _
    rw [h2, List.count_range, if_pos (by simpa using hx.2)]
  · have h1 : (T.flatMap own).count x = 0 := by
      rw [List.count_eq_zero]
      intro hm
      rw [List.mem_flatMap] at hm
      obtain ⟨y, hy, hxy⟩ := hm
      obtain ⟨i, hi, he⟩ := List.getElem_of_mem hy
      have hw : wa T i = y := by unfold wa; rw [List.getD, List.getElem?_eq_getElem hi, he]; rfl
      have := gf_own hg i hi x (by rw [hw]; exact hxy)
      apply hx
      omega
    rw [h1, eq_comm, List.count_eq_zero]
    intro hm
    rw [List.mem_map] at hm
    obtain ⟨n, hn, rfl⟩ := hm
    rw [List.mem_range] at hn
    apply hx
    omega

theorem cl_root {T : List Wa} (hg : gf T = true) : cl T (T.length - 1) ≤ 40 := by
  have hlen := gf_len hg
  have h1 := cl_sum hg T.length (Nat.le_refl _)
  have h2 := co_sum T T.length
  rw [List.take_length] at h1
  have h3 : sumC T (T.flatMap own) = ((List.range (T.length - 1)).map (cl T)).sum := by
    unfold sumC
    rw [List.Perm.sum_nat ((own_perm hg).map _), List.map_map]
    rfl
  rw [h3] at h1
  obtain ⟨n, hn⟩ : ∃ n, T.length = n + 1 := ⟨T.length - 1, by omega⟩
  rw [hn] at h1 h2 ⊢
  rw [Nat.add_sub_cancel] at h1 ⊢
  rw [List.range_succ, List.map_append, List.sum_append_nat] at h1
  simp only [List.map_cons, List.map_nil, List.sum_cons, List.sum_nil] at h1
  rw [List.range_succ, List.map_append, List.sum_append_nat] at h2
  simp only [List.map_cons, List.map_nil, List.sum_cons, List.sum_nil] at h1 h2
  rw [List.map_append, List.sum_append_nat] at h1
  simp only [List.map_cons, List.map_nil, List.sum_cons, List.sum_nil] at h1
  omega

end Go.Proofs.YtmjpmmkjfimopaaDoor

namespace Go.Proofs.YtmjpmmkjfimopaaDoor
open Plain Sch Wan Prg

theorem ins_left (A B : List Ins) (i : Nat) (h : i < A.length) : ins (A ++ B) i = ins A i := by
  unfold ins
  rw [List.getD, List.getD, List.getElem?_append_left h]

theorem ins_right (A B : List Ins) (i : Nat) : ins (A ++ B) (A.length + i) = ins B i := by
  unfold ins
  rw [List.getD, List.getD, List.getElem?_append_right (by omega), Nat.add_sub_cancel_left]

/-- a list of instructions stands in a program from a place on -/
def Seg (P : List Ins) (base : Nat) (L : List Ins) : Prop := ∀ i, i < L.length → ins P (base + i) = ins L i

theorem Seg.left {P A B : List Ins} {base : Nat} (h : Seg P base (A ++ B)) : Seg P base A := fun i hi => by
  rw [h i (by rw [List.length_append]; omega), ins_left A B i hi]

theorem Seg.right {P A B : List Ins} {base : Nat} (h : Seg P base (A ++ B)) : Seg P (base + A.length) B := fun i hi => by
  rw [Nat.add_assoc, h (A.length + i) (by rw [List.length_append]; omega), ins_right A B i]

theorem test_ask (l : List Fld) (x : Wa) : tstI (iTest x.kind x.num x.text) (fby l x.no) = askF l x := by
  unfold tstI askF
  cases fby l x.no with
  | none => rfl
  | some q => rfl

theorem run_cmp {T : List Wa} (hg : gf T = true) (P : List Ins) (l : List Fld) : ∀ k, k < T.length → ∀ base, Seg P base (cmp T k base) → ∀ fl pl, ∃ m pl', m ≤ (cmp T k base).length ∧ ∀ f s, rn P l (f + m) fl pl base s = rn P l f (tl l T k) pl' (base + (cmp T k base).length) (s + m) := by
  intro k
  induction k using Nat.strongRecOn with
  | ind k ih =>
    intro hk base hseg fl pl
    rcases want_kinds hg hk with ⟨h, _⟩ | ⟨h, h1⟩ | ⟨h, h1, h2⟩
    · rw [cmp_ask h] at hseg ⊢
      have e0 := hseg 0 (by simp)
      have e1 := hseg 1 (by simp)
      rw [Nat.add_zero] at e0
      have e0' : ins P base = iSeek (wa T k).no := e0
      have e1' : ins P (base + 1) = iTest (wa T k).kind (wa T k).num (wa T k).text := e1
      refine ⟨2, fby l (wa T k).no, by simp, fun f s => ?_⟩
      rw [show f + 2 = (f + 1) + 1 by omega, rn_seek (by rw [e0']; rfl), rn_test (by rw [e1']; rfl), e0', e1', tl_ask hk h]
      have e2 : (iSeek (wa T k).no).no = (wa T k).no := rfl
      rw [e2, test_ask]
      rfl
    · rw [cmp_not h h1] at hseg ⊢
      obtain ⟨m1, pl1, hm1, hr1⟩ := ih _ h1 (by omega) base hseg.left fl pl
      have e1 := hseg.right 0 (by simp)
      rw [Nat.add_zero] at e1
      have e1' : ins P (base + (cmp T (wa T k).a.toNat base).length) = iFlip := e1
      refine ⟨m1 + 1, pl1, by simp; omega, fun f s => ?_⟩
      rw [show f + (m1 + 1) = f + 1 + m1 by omega, hr1 (f + 1) s, rn_flip (by rw [e1']; rfl), tl_not hg hk (not_bounds h)]
      simp only [List.length_append, List.length_singleton]
      rfl
    · rw [cmp_bin h h1 h2] at hseg ⊢
      have hsa := hseg.left.left
      have hsj := hseg.left.right
      have hsb := hseg.right
      rw [List.length_append, List.length_singleton] at hsb
      have e1 := hsj 0 (by simp)
      rw [Nat.add_zero] at e1
      generalize hA : cmp T (wa T k).a.toNat base = A at *
      have hb' : base + (A.length + 1) = base + A.length + 1 := by omega
      rw [hb'] at hsb
      generalize hBB : cmp T (wa T k).b.toNat (base + A.length + 1) = B at *
      have e1' : ins P (base + A.length) = iJump ((wa T k).kind - 6) (((base + A.length + 1 + B.length : Nat)) : Int) := e1
      have hlen : (A ++ [iJump ((wa T k).kind - 6) (((base + A.length + 1 + B.length : Nat)) : Int)] ++ B).length = A.length + 1 + B.length := by simp; omega
      rw [hlen]
      have hk67 := bin_bounds h
      have run_b : ∀ fl pl, ∃ m pl', m ≤ B.length ∧ ∀ f s, rn P l (f + m) fl pl (base + A.length + 1) s = rn P l f (tl l T (wa T k).b.toNat) pl' (base + A.length + 1 + B.length) (s + m) := by
        intro fl pl
        have := ih _ h2 (by omega) (base + A.length + 1) (by rw [hBB]; exact hsb) fl pl
        rwa [hBB] at this
      have run_a : ∀ fl pl, ∃ m pl', m ≤ A.length ∧ ∀ f s, rn P l (f + m) fl pl base s = rn P l f (tl l T (wa T k).a.toNat) pl' (base + A.length) (s + m) := by
        intro fl pl
        have := ih _ h1 (by omega) base (by rw [hA]; exact hsa) fl pl
        rwa [hA] at this
      have hdst : (iJump ((wa T k).kind - 6) (((base + A.length + 1 + B.length : Nat)) : Int)).dst.toNat = base + A.length + 1 + B.length := by
        show (((base + A.length + 1 + B.length : Nat)) : Int).toNat = _
        omega
      have hnum : (iJump ((wa T k).kind - 6) (((base + A.length + 1 + B.length : Nat)) : Int)).num = (wa T k).kind - 6 := rfl
      obtain ⟨m1, pl1, hm1, hr1⟩ := run_a fl pl
      by_cases hjump : tl l T (wa T k).a.toNat = decide ((wa T k).kind - 6 = 1)
      · refine ⟨m1 + 1, pl1, by omega, fun f s => ?_⟩
        rw [show f + (m1 + 1) = f + 1 + m1 by omega, hr1 (f + 1) s, rn_jump (by rw [e1']; rfl), e1']
        unfold jmpI
        rw [hnum, if_pos hjump, hdst]
        have ht : tl l T k = tl l T (wa T k).a.toNat := by
          rcases (by omega : (wa T k).kind < 7 ∨ 7 ≤ (wa T k).kind) with h6 | h7
          · have hk6 : (wa T k).kind = 6 := by omega
            rw [tl_and hg hk hk6, hjump]
            have : decide ((wa T k).kind - 6 = 1) = false := by simp; omega
            rw [this]
            rfl
          · have hk7 : (wa T k).kind = 7 := by omega
            rw [tl_or hg hk hk7, hjump]
            have : decide ((wa T k).kind - 6 = 1) = true := by simp; omega
            rw [this]
            rfl
        rw [ht]
        have e9 : base + A.length + 1 + B.length = base + (A.length + 1 + B.length) := by omega
        rw [e9]
        rfl
      · obtain ⟨m2, pl2, hm2, hr2⟩ := run_b (tl l T (wa T k).a.toNat) pl1
        refine ⟨m1 + 1 + m2, pl2, by omega, fun f s => ?_⟩
        rw [show f + (m1 + 1 + m2) = f + m2 + 1 + m1 by omega, hr1 (f + m2 + 1) s, rn_jump (by rw [e1']; rfl), e1']
        unfold jmpI
        rw [hnum, if_neg hjump, hr2 f (s + m1 + 1)]
        have ht : tl l T k = tl l T (wa T k).b.toNat := by
          rcases (by omega : (wa T k).kind < 7 ∨ 7 ≤ (wa T k).kind) with h6 | h7
          · have hk6 : (wa T k).kind = 6 := by omega
            have hd : decide ((wa T k).kind - 6 = 1) = false := by simp; omega
            rw [hd] at hjump
            rw [tl_and hg hk hk6]
            cases hta : tl l T (wa T k).a.toNat with
            | true => rfl
            | false => exact absurd hta hjump
          · have hk7 : (wa T k).kind = 7 := by omega
            have hd : decide ((wa T k).kind - 6 = 1) = true := by simp; omega
            rw [hd] at hjump
            rw [tl_or hg hk hk7]
            cases hta : tl l T (wa T k).a.toNat with
            | true => exact absurd hta hjump
            | false => rfl
        rw [ht, show base + A.length + 1 + B.length = base + (A.length + 1 + B.length) by omega, show s + m1 + 1 + m2 = s + (m1 + 1 + m2) by omega]

theorem okI_ask {x : Wa} (h : isAsk x.kind = true) (hok : okAsk x = true) (i : Nat) (last : Int) : okI (iSeek x.no) i last = true ∧ okI (iTest x.kind x.num x.text) i last = true := by
  unfold okAsk at hok
  simp only [Bool.and_eq_true, decide_eq_true_eq] at hok
  obtain ⟨⟨⟨⟨he, h1⟩, h2⟩, h3⟩, h4⟩ := hok
  have hk := ask_bounds h
  constructor
  · unfold okI iSeek
    simp [h1, h2]
  · unfold okI iTest askedOk askN askT
    have e1 : x.num = if x.kind ≤ 3 then x.num else 0 := congrArg Wa.num he
    have e2 : x.text = if x.kind = 5 then x.text else ⟨#[]⟩ := congrArg Wa.text he
    have a1 : (decide (1 ≤ x.kind) && decide (x.kind ≤ 3) || decide (x.num = 0)) = true := by
      by_cases h : x.kind ≤ 3
      · simp [h, hk.1]
      · rw [if_neg h] at e1
        simp [e1]
    have a2 : (decide (x.kind = 5) || decide (x.text = ⟨#[]⟩)) = true := by
      by_cases h : x.kind = 5
      · simp [h]
      · rw [if_neg h] at e2
        simp [e2]
    rw [if_neg (by show ¬ (2 : Int) = 1; omega), if_pos rfl]
    simp only [a1, a2, h, h3, h4]
    simp

theorem ok_cmp {T : List Wa} (hg : gf T = true) : ∀ k, k < T.length → ∀ (base : Nat) (last : Int), ((base + (cmp T k base).length : Nat) : Int) ≤ last → ∀ i, i < (cmp T k base).length → okI (ins (cmp T k base) i) (base + i) last = true ∧ (ins (cmp T k base) i).code ≠ 5 := by
  intro k
  induction k using Nat.strongRecOn with
  | ind k ih =>
    intro hk base last hlast i hi
    rcases want_kinds hg hk with ⟨h, hok⟩ | ⟨h, h1⟩ | ⟨h, h1, h2⟩
    · rw [cmp_ask h] at hi ⊢
      have := okI_ask h hok (base + i) last
      match i, hi with
      | 0, _ => exact ⟨this.1, by show (1 : Int) ≠ 5; omega⟩
      | 1, _ => exact ⟨this.2, by show (2 : Int) ≠ 5; omega⟩
      | n + 2, hi => exact absurd hi (by simp)
    · rw [cmp_not h h1] at hi hlast ⊢
      by_cases hl : i < (cmp T (wa T k).a.toNat base).length
      · rw [ins_left _ _ _ hl]
        refine ih _ h1 (by omega) base last ?_ i hl
        rw [List.length_append] at hlast
        omega
      · obtain ⟨j, rfl⟩ : ∃ j, i = (cmp T (wa T k).a.toNat base).length + j := ⟨i - (cmp T (wa T k).a.toNat base).length, by omega⟩
        rw [ins_right]
        have : j = 0 := by rw [List.length_append, List.length_singleton] at hi; omega
        subst this
        refine ⟨?_, by show (4 : Int) ≠ 5; omega⟩
        show okI iFlip _ _ = true
        unfold okI iFlip
        simp
    · rw [cmp_bin h h1 h2] at hi hlast ⊢
      have ha := ih _ h1 (by omega) base last
      have hb := ih _ h2 (by omega) (base + (cmp T (wa T k).a.toNat base).length + 1) last
      generalize cmp T (wa T k).a.toNat base = A at *
      generalize cmp T (wa T k).b.toNat (base + A.length + 1) = B at *
      simp only [List.length_append, List.length_singleton] at hi hlast
      have hk67 := bin_bounds h
      by_cases hl : i < A.length
      · rw [ins_left _ _ _ (by simp; omega), ins_left _ _ _ hl]
        exact ha (by omega) i hl
      · by_cases hj : i = A.length
        · subst hj
          rw [ins_left _ _ _ (by simp)]
          have e : ins (A ++ [iJump ((wa T k).kind - 6) (((base + A.length + 1 + B.length : Nat)) : Int)]) (A.length + 0) = _ := ins_right A [iJump ((wa T k).kind - 6) (((base + A.length + 1 + B.length : Nat)) : Int)] 0
          simp only [Nat.add_zero] at e
          rw [e]
          refine ⟨?_, by show (3 : Int) ≠ 5; omega⟩
          show okI (iJump ((wa T k).kind - 6) (((base + A.length + 1 + B.length : Nat)) : Int)) _ _ = true
          unfold okI iJump
          rw [if_neg (by show ¬ (3 : Int) = 1; omega), if_neg (by show ¬ (3 : Int) = 2; omega), if_pos rfl]
          have d1 : (decide ((wa T k).kind - 6 = 0) || decide ((wa T k).kind - 6 = 1)) = true := by simp; omega
          have d2 : decide (((base + A.length : Nat) : Int) < ((base + A.length + 1 + B.length : Nat) : Int)) = true := by simp; omega
          have d3 : decide (((base + A.length + 1 + B.length : Nat) : Int) ≤ last) = true := by rw [decide_eq_true_eq]; omega
          simp only [d1, d2, d3]
          simp
        · obtain ⟨j, rfl⟩ : ∃ j, i = (A ++ [iJump ((wa T k).kind - 6) (((base + A.length + 1 + B.length : Nat)) : Int)]).length + j := ⟨i - (A.length + 1), by simp; omega⟩
          rw [ins_right]
          simp only [List.length_append, List.length_singleton] at hi ⊢
          have := hb (by omega) j (by omega)
          rw [show base + A.length + 1 + j = base + (A.length + 1 + j) by omega] at this
          exact this

/-- a filter's program -/
theorem cpo_good {T : List Wa} (hg : gf T = true) : gp (cmp T (T.length - 1) 0 ++ [iEnd]) = true := by
  have hlen := gf_len hg
  have hcl : (cmp T (T.length - 1) 0).length ≤ 40 := cl_root hg
  have hok := ok_cmp hg (T.length - 1) (by omega) 0 ((cmp T (T.length - 1) 0).length : Int) (by omega)
  generalize cmp T (T.length - 1) 0 = L at *
  refine gp_all (by simp) (by simp; omega) (fun i hi => ?_)
  rw [List.length_append, List.length_singleton] at hi ⊢
  have hlast : (((L.length + 1 : Nat) : Int) - 1) = (L.length : Int) := by omega
  rw [hlast]
  by_cases hl : i < L.length
  · rw [ins_left _ _ _ hl]
    obtain ⟨h1, h2⟩ := hok i hl
    rw [Nat.zero_add] at h1
    unfold okP
    have d1 : decide ((ins L i).code = 5) = false := by simpa using h2
    have d2 : decide ((i : Int) = (L.length : Int)) = false := by simp; omega
    rw [d1, d2, h1]
    rfl
  · have e : i = L.length := by omega
    subst e
    have e := ins_right L [iEnd] 0
    rw [Nat.add_zero] at e
    rw [e]
    show okP iEnd _ _ = true
    unfold okP okI iEnd
    simp

theorem cpo_tells {T : List Wa} (hg : gf T = true) (l : List Fld) : ∃ n, n ≤ (cmp T (T.length - 1) 0 ++ [iEnd]).length ∧ rn (cmp T (T.length - 1) 0 ++ [iEnd]) l (cmp T (T.length - 1) 0 ++ [iEnd]).length false none 0 0 = (tl l T (T.length - 1), n) := by
  have hlen := gf_len hg
  obtain ⟨m, pl', hm, hr⟩ := run_cmp hg (cmp T (T.length - 1) 0 ++ [iEnd]) l (T.length - 1) (by omega) 0 (fun i hi => by rw [Nat.zero_add, ins_left _ _ _ hi]) false none
  have e := ins_right (cmp T (T.length - 1) 0) [iEnd] 0
  rw [Nat.add_zero] at e
  have hl : (cmp T (T.length - 1) 0 ++ [iEnd]).length = ((cmp T (T.length - 1) 0).length - m + 1) + m := by rw [List.length_append, List.length_singleton]; omega
  refine ⟨m + 1, by rw [List.length_append, List.length_singleton]; omega, ?_⟩
  rw [hl, hr, Nat.zero_add, rn_end (by rw [e]; rfl), Nat.zero_add]

/-- what a filter's program tells is what the filter tells, in no more steps than it has -/
theorem cpo_runs {T : List Wa} (hg : gf T = true) (s : ByteArray) : (rpo (cpo T).1 s).1 = (mto T s).1 ∧ (rpo (cpo T).1 s).2.2 = (mto T s).2 ∧ (rpo (cpo T).1 s).2.1 ≤ ((cpo T).1.length : Int) ∧ gp (cpo T).1 = true := by
  have e : (cpo T).1 = cmp T (T.length - 1) 0 ++ [iEnd] := by unfold cpo; rw [hg]; rfl
  have hgp := cpo_good hg
  obtain ⟨n, hn, hr⟩ := cpo_tells hg (rr s).1
  rw [e]
  unfold rpo mto
  rw [hgp, hg]
  cases hs : (rr s).2 with
  | false => exact ⟨rfl, rfl, by show (0 : Int) ≤ _; omega, rfl⟩
  | true =>
    show (rn _ _ _ _ _ _ _).1 = _ ∧ true = true ∧ ((rn _ _ _ _ _ _ _).2 : Int) ≤ _ ∧ true = true
    rw [hr]
    exact ⟨rfl, rfl, by show (n : Int) ≤ _; omega, rfl⟩

end Go.Proofs.YtmjpmmkjfimopaaDoor
