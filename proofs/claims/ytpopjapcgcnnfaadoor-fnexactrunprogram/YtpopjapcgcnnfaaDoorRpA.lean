/- What a program tells of fields, in plain words; where a field lies in the bytes. -/
import Derived.Test.YtpopjapcgcnnfaaDoorPhA
import Derived.Test.YtpopjapcgcnnfaaDoorMtA
namespace Go.Proofs.YtpopjapcgcnnfaaDoor
open Plain Sch Wan Prg

def askI (x : Ins) (f : Fld) : Bool := isSo ⟨x.kind, f.no, x.num, x.text, 0, 0⟩ f
def tstI (x : Ins) (pl : Option Fld) : Bool := match pl with | some q => askI x q | none => false
def jmpI (x : Ins) (fl : Bool) (p : Nat) : Nat := if fl = decide (x.num = 1) then x.dst.toNat else p + 1

def rn (T : List Ins) (l : List Fld) : Nat → Bool → Option Fld → Nat → Nat → Bool × Nat
  | 0, fl, _, _, k => (fl, k)
  | f + 1, fl, pl, p, k =>
    if (ins T p).code = 1 then rn T l f fl (fby l (ins T p).no) (p + 1) (k + 1)
    else if (ins T p).code = 2 then rn T l f (tstI (ins T p) pl) pl (p + 1) (k + 1)
    else if (ins T p).code = 3 then rn T l f fl pl (jmpI (ins T p) fl p) (k + 1)
    else if (ins T p).code = 4 then rn T l f (!fl) pl (p + 1) (k + 1)
    else (fl, k + 1)

def rpo (T : List Ins) (s : ByteArray) : Bool × Int × Bool := if gp T && (rr s).2 then ((rn T (rr s).1 T.length false none 0 0).1, ((rn T (rr s).1 T.length false none 0 0).2 : Int), true) else (false, 0, false)

theorem rn_seek {T : List Ins} {l : List Fld} {f p k : Nat} {fl : Bool} {pl : Option Fld} (h : (ins T p).code = 1) : rn T l (f + 1) fl pl p k = rn T l f fl (fby l (ins T p).no) (p + 1) (k + 1) := by rw [rn, if_pos h]
theorem rn_test {T : List Ins} {l : List Fld} {f p k : Nat} {fl : Bool} {pl : Option Fld} (h : (ins T p).code = 2) : rn T l (f + 1) fl pl p k = rn T l f (tstI (ins T p) pl) pl (p + 1) (k + 1) := by rw [rn, if_neg (by omega), if_pos h]
theorem rn_jump {T : List Ins} {l : List Fld} {f p k : Nat} {fl : Bool} {pl : Option Fld} (h : (ins T p).code = 3) : rn T l (f + 1) fl pl p k = rn T l f fl pl (jmpI (ins T p) fl p) (k + 1) := by rw [rn, if_neg (by omega), if_neg (by omega), if_pos h]
theorem rn_flip {T : List Ins} {l : List Fld} {f p k : Nat} {fl : Bool} {pl : Option Fld} (h : (ins T p).code = 4) : rn T l (f + 1) fl pl p k = rn T l f (!fl) pl (p + 1) (k + 1) := by rw [rn, if_neg (by omega), if_neg (by omega), if_neg (by omega), if_pos h]
theorem rn_end {T : List Ins} {l : List Fld} {f p k : Nat} {fl : Bool} {pl : Option Fld} (h : (ins T p).code = 5) : rn T l (f + 1) fl pl p k = (fl, k + 1) := by rw [rn, if_neg (by omega), if_neg (by omega), if_neg (by omega), if_neg (by omega)]

theorem rn_le (T : List Ins) (l : List Fld) : ∀ (f : Nat) (fl : Bool) (pl : Option Fld) (p k : Nat), (rn T l f fl pl p k).2 ≤ f + k := by
  intro f
  induction f with
  | zero => intro fl pl p k; simp [rn]
  | succ f ih =>
    intro fl pl p k
    rw [rn]
    split
    · have := ih fl (fby l (ins T p).no) (p + 1) (k + 1); omega
    · split
      · have := ih (tstI (ins T p) pl) pl (p + 1) (k + 1); omega
      · split
        · have := ih fl pl (jmpI (ins T p) fl p) (k + 1); omega
        · split
          · have := ih (!fl) pl (p + 1) (k + 1); omega
          · simp; omega

theorem gp_next {T : List Ins} (hg : gp T = true) {p : Nat} (hp : p < T.length) (hc : (ins T p).code ≠ 5) : p + 1 < T.length := by
  have := okP_end (gp_ok hg p hp)
  by_cases q : (p : Int) = (T.length : Int) - 1
  · exact absurd (this.2 q) hc
  · omega
theorem gp_jump {T : List Ins} (hg : gp T = true) {p : Nat} (hp : p < T.length) (hc : (ins T p).code = 3) : (p : Int) < (ins T p).dst ∧ (ins T p).dst < T.length ∧ ((ins T p).num = 0 ∨ (ins T p).num = 1) := by
  obtain ⟨a, b, c, _⟩ := okI_jump (okP_ok (gp_ok hg p hp)) hc
  exact ⟨b, by omega, a⟩
theorem gp_codes {T : List Ins} (hg : gp T = true) {p : Nat} (hp : p < T.length) : (ins T p).code = 1 ∨ (ins T p).code = 2 ∨ (ins T p).code = 3 ∨ (ins T p).code = 4 ∨ (ins T p).code = 5 := by
  have := okI_codes (okP_ok (gp_ok hg p hp)); omega
theorem gp_test {T : List Ins} (hg : gp T = true) {p : Nat} (hp : p < T.length) (hc : (ins T p).code = 2) : isAsk (ins T p).kind = true ∧ (ins T p).text.size ≤ 30 := by
  have h := okP_ok (gp_ok hg p hp)
  unfold okI at h
  rw [if_neg (by omega), if_pos hc] at h
  simp only [askedOk, Bool.and_eq_true, decide_eq_true_eq] at h
  exact ⟨h.1.1, h.1.2.2⟩
theorem gp_text {T : List Ins} (hg : gp T = true) {p : Nat} (hp : p < T.length) : (ins T p).text.size ≤ 30 := by
  have h := okP_ok (gp_ok hg p hp)
  have z : (ByteArray.mk #[]).size ≤ 30 := by decide
  rcases gp_codes hg hp with hc | hc | hc | hc | hc
  · unfold okI at h
    rw [if_pos hc] at h
    simp only [Bool.and_eq_true, decide_eq_true_eq] at h
    rw [h.2]; exact z
  · exact (gp_test hg hp hc).2
  · obtain ⟨_, _, _, d⟩ := okI_jump h hc
    rw [d]; exact z
  · unfold okI at h
    rw [if_neg (by omega), if_neg (by omega), if_neg (by omega), if_pos (.inl hc)] at h
    simp only [decide_eq_true_eq] at h
    rw [h]; exact z
  · unfold okI at h
    rw [if_neg (by omega), if_neg (by omega), if_neg (by omega), if_pos (.inr hc)] at h
    simp only [decide_eq_true_eq] at h
    rw [h]; exact z

/-- a place in the bytes, and the field that lies there -/
def PlR (s : ByteArray) (pv : Int) (pl : Option Fld) : Prop := (pv = -1 ∧ pl = none) ∨ ∃ (a : Nat) (x : Fld) (b : Nat), pv = (a : Int) ∧ rf1 s a = some (x, b) ∧ pl = some x ∧ a < s.size ∧ okF x

theorem fby_take (l acc : List Fld) (no : Int) (x : Fld) (rest : List Fld) (h : ∀ y ∈ acc, y.no ≠ no) (he : l = acc ++ x :: rest) : fby l no = if x.no = no then some x else fby rest no := by
  subst he
  induction acc with
  | nil => rw [List.nil_append, fby]
  | cons a acc ih =>
    rw [List.cons_append, fby, if_neg (h a (by simp))]
    exact ih (fun y hy => h y (by simp [hy]))

theorem rfs_pre (s : ByteArray) : ∀ (f a : Nat) (acc l : List Fld), rfs s f a acc = (l, true) → ∃ rest, l = acc ++ rest := by
  intro f
  induction f with
  | zero => intro a acc l h; simp [rfs] at h
  | succ f ih =>
    intro a acc l h
    rw [rfs] at h
    split at h
    · split at h
      · simp at h
      · split at h
        · simp at h
        · obtain ⟨rest, hr⟩ := ih _ _ _ h
          exact ⟨_, by rw [hr, List.append_assoc]⟩
    · simp at h
      exact ⟨[], by simp [h]⟩

theorem rfs_in {s : ByteArray} {f a : Nat} {acc l : List Fld} (h : rfs s f a acc = (l, true)) (ha : a < s.size) : ∃ (f' : Nat) (x : Fld) (b : Nat), f = f' + 1 ∧ rf1 s a = some (x, b) ∧ rfs s f' b (acc ++ [x]) = (l, true) := by
  cases f with
  | zero => simp [rfs] at h
  | succ f =>
    rw [rfs, if_pos ha] at h
    split at h
    · simp at h
    · rename_i x b he
      split at h
      · simp at h
      · exact ⟨f, x, b, rfl, he, h⟩

theorem rfs_out2 {s : ByteArray} {f a : Nat} {acc l : List Fld} (h : rfs s f a acc = (l, true)) (ha : ¬ a < s.size) : l = acc := by
  cases f with
  | zero => simp [rfs] at h
  | succ f =>
    rw [rfs, if_neg ha] at h
    simp at h
    exact h.symm

theorem rr_rfs {s : ByteArray} (h : (rr s).2 = true) : s.size ≤ 400 ∧ rfs s (s.size + 1) 0 [] = ((rr s).1, true) := by
  unfold rr at h ⊢
  by_cases hc : ((rf s).2 && riseF (rf s).1) = true
  · rw [if_pos hc]
    simp only [Bool.and_eq_true] at hc
    have h2 := hc.1
    unfold rf at h2 ⊢
    by_cases hs : s.size ≤ 400
    · rw [if_pos hs] at h2 ⊢
      exact ⟨hs, by dsimp only; rw [← h2]⟩
    · rw [if_neg hs] at h2; cases h2
  · rw [if_neg hc] at h; cases h

end Go.Proofs.YtpopjapcgcnnfaaDoor
