/- Machines in plain words: which are good, where a text leads, all pairs of states that are reached, as they come. -/
import Derived.Test.YtfkhbbmnjndmcaaGa
namespace Go.Proofs.Ytfkhbbmnjndmcaa.Mch
open Plain

/-- the row of a state -/
def rx (M : List (List Int)) (i : Nat) : List Int := M.getD i []
/-- whether a state ends -/
def en (E : List Bool) (i : Nat) : Bool := E.getD i false
/-- where a state goes by a letter -/
def nt (M : List (List Int)) (i k : Nat) : Nat := ((rx M i).getD k 0).toNat

/-- a row that is good among n states -/
def okR (n : Nat) (l : List Int) : Bool := decide (l.length = 3) && l.all (fun x => decide (0 ≤ x ∧ x < (n : Int)))

/-- a good machine -/
def gm (M : List (List Int)) (E : List Bool) : Bool := decide (1 ≤ M.length ∧ M.length ≤ 12 ∧ E.length = M.length) && M.all (okR M.length)

theorem okR_iff {n : Nat} {l : List Int} : okR n l = true ↔ l.length = 3 ∧ ∀ x ∈ l, 0 ≤ x ∧ x < (n : Int) := by
  unfold okR
  simp [List.all_eq_true]

theorem gm_iff {M : List (List Int)} {E : List Bool} : gm M E = true ↔ (1 ≤ M.length ∧ M.length ≤ 12 ∧ E.length = M.length) ∧ ∀ i, i < M.length → okR M.length (rx M i) = true := by
  unfold gm
  rw [Bool.and_eq_true, decide_eq_true_eq, List.all_eq_true]
  refine and_congr Iff.rfl ⟨fun h i hi => ?_, fun h l hl => ?_⟩
  · have e : rx M i = M[i] := by unfold rx; rw [List.getD, List.getElem?_eq_getElem hi]; rfl
    rw [e]
    exact h _ (List.getElem_mem hi)
  · obtain ⟨i, hi, rfl⟩ := List.getElem_of_mem hl
    have e : rx M i = M[i] := by unfold rx; rw [List.getD, List.getElem?_eq_getElem hi]; rfl
    rw [← e]
    exact h i hi

theorem gm_row {M : List (List Int)} {E : List Bool} (h : gm M E = true) {i : Nat} (hi : i < M.length) : ∃ a b c : Int, rx M i = [a, b, c] ∧ (0 ≤ a ∧ a < (M.length : Int)) ∧ (0 ≤ b ∧ b < (M.length : Int)) ∧ 0 ≤ c ∧ c < (M.length : Int) := by
  have h1 := okR_iff.1 ((gm_iff.1 h).2 i hi)
  obtain ⟨hl, hx⟩ := h1
  match e : rx M i, hl with
  | [a, b, c], _ =>
    rw [e] at hx
    exact ⟨a, b, c, rfl, hx a (by simp), hx b (by simp), hx c (by simp)⟩

theorem gm_next {M : List (List Int)} {E : List Bool} (h : gm M E = true) {i k : Nat} (hi : i < M.length) (hk : k < 3) : (rx M i)[k]? = some ((nt M i k : Nat) : Int) ∧ nt M i k < M.length ∧ (rx M i).length = 3 := by
  obtain ⟨a, b, c, e, ha, hb, hc⟩ := gm_row h hi
  unfold nt
  rw [e]
  match k, hk with
  | 0, _ => exact ⟨by simp; omega, by simp; omega, rfl⟩
  | 1, _ => exact ⟨by simp; omega, by simp; omega, rfl⟩
  | 2, _ => exact ⟨by simp; omega, by simp; omega, rfl⟩

/-- the letter of a byte -/
def lt (b : Nat) : Nat := b - 97
/-- where the first i bytes of a text lead -/
def go (M : List (List Int)) (s : ByteArray) : Nat → Nat
  | 0 => 0
  | i + 1 => nt M (go M s i) (lt (bt s i))
/-- whether all bytes are letters -/
def abc (s : ByteArray) : Bool := (List.range s.size).all (fun i => decide (97 ≤ bt s i ∧ bt s i ≤ 99))
theorem abc_iff {s : ByteArray} : abc s = true ↔ ∀ i, i < s.size → 97 ≤ bt s i ∧ bt s i ≤ 99 := by
  unfold abc
  simp [List.all_eq_true]
/-- what RunMachine tells -/
def rok (M : List (List Int)) (E : List Bool) (s : ByteArray) : Bool := gm M E && decide (s.size ≤ 60) && abc s
def rto (M : List (List Int)) (E : List Bool) (s : ByteArray) : Bool := rok M E s && en E (go M s s.size)

theorem go_lt {M : List (List Int)} {E : List Bool} (h : gm M E = true) {s : ByteArray} : ∀ i, (∀ j, j < i → 97 ≤ bt s j ∧ bt s j ≤ 99) → go M s i < M.length
  | 0, _ => by have := (gm_iff.1 h).1; show 0 < _; omega
  | i + 1, hs => by
    have h1 := go_lt h i (fun j hj => hs j (by omega))
    have h2 := hs i (by omega)
    exact (gm_next h h1 (by unfold lt; omega)).2.1

/-- a pair of states and the text that leads there -/
structure Pq where
  a : Nat
  b : Nat
  s : ByteArray

instance : Inhabited Pq := ⟨⟨0, 0, ByteArray.empty⟩⟩

def pq (l : List Pq) (i : Nat) : Pq := l.getD i ⟨0, 0, ByteArray.empty⟩
/-- where a pair is first, or how many there are -/
def ix (l : List Pq) (a b : Nat) : Nat := l.findIdx (fun p => decide (p.a = a) && decide (p.b = b))
def pu (l : List Pq) (q : Pq) : List Pq := if ix l q.a q.b < l.length then l else l ++ [q]
def ch (k : Nat) : ByteArray := ⟨#[UInt8.ofNat (97 + k)]⟩
/-- where the pair i goes by the letter k -/
def qn (A B : List (List Int)) (p : Pq) (k : Nat) : Pq := ⟨nt A p.a k, nt B p.b k, p.s ++ ch k⟩
def st3 (A B : List (List Int)) (l : List Pq) (p : Pq) : List Pq := pu (pu (pu l (qn A B p 0)) (qn A B p 1)) (qn A B p 2)
def bfs (A B : List (List Int)) : Nat → Nat → List Pq → List Pq
  | 0, _, l => l
  | f + 1, i, l => if i < l.length then bfs A B f (i + 1) (st3 A B l (pq l i)) else l
/-- all pairs that are reached, as they come -/
def prs (A B : List (List Int)) : List Pq := bfs A B 145 0 [⟨0, 0, ByteArray.empty⟩]

theorem pq_at {l : List Pq} {i : Nat} (h : i < l.length) : l[i]? = some (pq l i) := by
  unfold pq
  rw [List.getD, List.getElem?_eq_getElem h]
  rfl
theorem pq_left {l : List Pq} {i : Nat} (h : i < l.length) (m : List Pq) : pq (l ++ m) i = pq l i := by
  unfold pq
  rw [List.getD, List.getD, List.getElem?_append_left h]

theorem ix_le (l : List Pq) (a b : Nat) : ix l a b ≤ l.length := List.findIdx_le_length
theorem ix_some {l : List Pq} {a b : Nat} (h : ix l a b < l.length) : (pq l (ix l a b)).a = a ∧ (pq l (ix l a b)).b = b := by
  have h1 := List.findIdx_getElem (w := h)
  have e : pq l (ix l a b) = l[ix l a b] := by unfold pq; rw [List.getD, List.getElem?_eq_getElem h]; rfl
  rw [e]
  unfold ix
  simpa using h1
theorem ix_first {l : List Pq} {a b i : Nat} (h : i < ix l a b) : ¬ ((pq l i).a = a ∧ (pq l i).b = b) := by
  have hl := ix_le l a b
  have h1 := List.not_of_lt_findIdx h
  have e : pq l i = l[i]'(by omega) := by unfold pq; rw [List.getD, List.getElem?_eq_getElem (by omega)]; rfl
  rw [e]
  simpa using h1
theorem ix_app {l : List Pq} {a b : Nat} (h : ix l a b < l.length) (m : List Pq) : ix (l ++ m) a b = ix l a b := by
  unfold ix at h ⊢
  rw [List.findIdx_append, if_pos h]
theorem ix_new {l : List Pq} {q : Pq} (h : ¬ ix l q.a q.b < l.length) : ix (l ++ [q]) q.a q.b = l.length := by
  unfold ix at h ⊢
  rw [List.findIdx_append, if_neg h]
  simp [List.findIdx_cons]
theorem ix_pu (l : List Pq) (q : Pq) : ix (pu l q) q.a q.b = ix l q.a q.b ∧ ix l q.a q.b < (pu l q).length := by
  unfold pu
  by_cases h : ix l q.a q.b < l.length
  · rw [if_pos h]; exact ⟨rfl, h⟩
  · rw [if_neg h, ix_new h]
    have := ix_le l q.a q.b
    have e : ix l q.a q.b = l.length := by omega
    exact ⟨e.symm, by rw [e]; simp⟩
theorem pu_grows (l : List Pq) (q : Pq) : ∃ m, pu l q = l ++ m := by
  unfold pu
  split
  · exact ⟨[], by simp⟩
  · exact ⟨[q], rfl⟩
theorem st3_grows (A B : List (List Int)) (l : List Pq) (p : Pq) : ∃ m, st3 A B l p = l ++ m := by
  obtain ⟨m1, e1⟩ := pu_grows l (qn A B p 0)
  obtain ⟨m2, e2⟩ := pu_grows (l ++ m1) (qn A B p 1)
  obtain ⟨m3, e3⟩ := pu_grows (l ++ m1 ++ m2) (qn A B p 2)
  exact ⟨m1 ++ m2 ++ m3, by unfold st3; rw [e1, e2, e3]; simp⟩
theorem bfs_grows (A B : List (List Int)) : ∀ f i l, ∃ m, bfs A B f i l = l ++ m
  | 0, _, l => ⟨[], by simp [bfs]⟩
  | f + 1, i, l => by
    rw [bfs]
    split
    · obtain ⟨m1, e1⟩ := st3_grows A B l (pq l i)
      obtain ⟨m2, e2⟩ := bfs_grows A B f (i + 1) (st3 A B l (pq l i))
      exact ⟨m1 ++ m2, by rw [e2, e1]; simp⟩
    · exact ⟨[], by simp⟩

/-- what holds of all pairs that were met: none twice, states that there are, texts no longer than their place -/
structure Met (n m : Nat) (l : List Pq) : Prop where
  own : ∀ i, i < l.length → ix l (pq l i).a (pq l i).b = i
  lo : ∀ i, i < l.length → (pq l i).a < n ∧ (pq l i).b < m
  txt : ∀ i, i < l.length → (pq l i).s.size ≤ i

theorem few {n : Nat} {l : List Nat} (hn : l.Nodup) (hl : ∀ x ∈ l, x < n) : l.length ≤ n := by
  induction n generalizing l with
  | zero =>
    match l with
    | [] => simp
    | a :: l => exact absurd (hl a (by simp)) (by omega)
  | succ n ih =>
    have h1 := ih (l := l.erase n) (hn.erase n) (fun x hx => by
      have h2 := hl x (List.mem_of_mem_erase hx)
      have h3 : x ≠ n := fun e => by
        subst e
        exact (hn.mem_erase_iff.1 hx).1 rfl
      omega)
    by_cases hm : n ∈ l
    · rw [List.length_erase_of_mem hm] at h1
      omega
    · rw [List.erase_of_not_mem hm] at h1
      omega

theorem Met.len {n m : Nat} {l : List Pq} (h : Met n m l) : l.length ≤ n * m := by
  have h1 : (l.map (fun p => p.a * m + p.b)).length ≤ n * m := by
    refine few ?_ ?_
    · unfold List.Nodup
      rw [List.pairwise_iff_getElem]
      intro i j hi hj hij e
      rw [List.length_map] at hi hj
      have ei : l[i] = pq l i := by have := pq_at hi; rw [List.getElem?_eq_getElem hi] at this; simpa using this
      have ej : l[j] = pq l j := by have := pq_at hj; rw [List.getElem?_eq_getElem hj] at this; simpa using this
      rw [List.getElem_map, List.getElem_map, ei, ej] at e
      have hi2 := (h.lo i (by omega)).2
      have hj2 := (h.lo j hj).2
      have e1 : (pq l i).b = (pq l j).b := by
        have := congrArg (· % m) e
        simpa [Nat.mod_eq_of_lt hi2, Nat.mod_eq_of_lt hj2] using this
      have e2 : (pq l i).a = (pq l j).a := by
        rw [e1] at e
        have : (pq l i).a * m = (pq l j).a * m := by omega
        exact Nat.eq_of_mul_eq_mul_right (by omega) this
      have k1 := h.own i (by omega)
      have k2 := h.own j hj
      rw [e1, e2] at k1
      omega
    · intro x hx
      rw [List.mem_map] at hx
      obtain ⟨p, hp, rfl⟩ := hx
      obtain ⟨i, hi, rfl⟩ := List.getElem_of_mem hp
      have e : l[i] = pq l i := by have := pq_at hi; rw [List.getElem?_eq_getElem hi] at this; simpa using this
      rw [e]
      have h2 := h.lo i hi
      calc (pq l i).a * m + (pq l i).b < (pq l i).a * m + m := by omega
        _ = ((pq l i).a + 1) * m := by rw [Nat.add_mul]; omega
        _ ≤ n * m := Nat.mul_le_mul_right m (by omega)
  simpa using h1

theorem Met.pu {n m : Nat} {l : List Pq} {q : Pq} (h : Met n m l) (ha : q.a < n) (hb : q.b < m) (hs : q.s.size ≤ l.length) : Met n m (pu l q) := by
  unfold Mch.pu
  by_cases hi : ix l q.a q.b < l.length
  · rw [if_pos hi]; exact h
  · rw [if_neg hi]
    have last : pq (l ++ [q]) l.length = q := by unfold pq; rw [List.getD, List.getElem?_append_right (Nat.le_refl _)]; simp
    refine ⟨fun i hil => ?_, fun i hil => ?_, fun i hil => ?_⟩
    · rw [List.length_append, List.length_singleton] at hil
      by_cases e : i = l.length
      · rw [e, last, ix_new hi]
      · rw [pq_left (by omega), ix_app (by rw [h.own i (by omega)]; omega), h.own i (by omega)]
    · rw [List.length_append, List.length_singleton] at hil
      by_cases e : i = l.length
      · rw [e, last]; exact ⟨ha, hb⟩
      · rw [pq_left (by omega)]; exact h.lo i (by omega)
    · rw [List.length_append, List.length_singleton] at hil
      by_cases e : i = l.length
      · rw [e, last]; exact hs
      · rw [pq_left (by omega)]; exact h.txt i (by omega)

theorem pu_len (l : List Pq) (q : Pq) : l.length ≤ (pu l q).length := by
  obtain ⟨m, e⟩ := pu_grows l q
  rw [e, List.length_append]
  omega
theorem ch_size (k : Nat) : (ch k).size = 1 := rfl
theorem pu_pq {l : List Pq} {i : Nat} (h : i < l.length) (q : Pq) : pq (pu l q) i = pq l i := by
  obtain ⟨m, e⟩ := pu_grows l q
  rw [e, pq_left h]

/-- a pair goes on to pairs of states that there are -/
theorem Met.step {A B : List (List Int)} {E F : List Bool} (hA : gm A E = true) (hB : gm B F = true) {l : List Pq} {i k : Nat} {p : Pq} (h : Met A.length B.length l) (hi : i < l.length) (hp : pq l i = p) (hk : k < 3) : Met A.length B.length (Mch.pu l (qn A B p k)) := by
  subst hp
  have h1 := h.lo i hi
  refine h.pu (gm_next hA h1.1 hk).2.1 (gm_next hB h1.2 hk).2.1 ?_
  show ((pq l i).s ++ ch k).size ≤ _
  rw [ByteArray.size_append, ch_size]
  have := h.txt i hi
  omega

theorem Met.all {A B : List (List Int)} {E F : List Bool} (hA : gm A E = true) (hB : gm B F = true) {l : List Pq} {i : Nat} (h : Met A.length B.length l) (hi : i < l.length) : Met A.length B.length (st3 A B l (pq l i)) := by
  have h1 := h.step hA hB hi rfl (k := 0) (by omega)
  have g1 := pu_len l (qn A B (pq l i) 0)
  have h2 := h1.step hA hB (i := i) (p := pq l i) (by omega) (pu_pq hi _) (k := 1) (by omega)
  have g2 := pu_len (Mch.pu l (qn A B (pq l i) 0)) (qn A B (pq l i) 1)
  exact h2.step hA hB (i := i) (p := pq l i) (by omega) (by rw [pu_pq (by omega), pu_pq hi]) (k := 2) (by omega)

theorem Met.one {n m : Nat} (hn : 1 ≤ n) (hm : 1 ≤ m) : Met n m [⟨0, 0, ByteArray.empty⟩] := by
  refine ⟨fun i hi => ?_, fun i hi => ?_, fun i hi => ?_⟩ <;> simp at hi <;> subst hi
  · rfl
  · exact ⟨hn, hm⟩
  · exact Nat.le_refl _

theorem Met.le {A B : List (List Int)} {E F : List Bool} (hA : gm A E = true) (hB : gm B F = true) {l : List Pq} (h : Met A.length B.length l) : l.length ≤ 144 := by
  have h1 := (gm_iff.1 hA).1
  have h2 := (gm_iff.1 hB).1
  have := h.len
  have : A.length * B.length ≤ 12 * 12 := Nat.mul_le_mul h1.2.1 h2.2.1
  omega

theorem bfs_met {A B : List (List Int)} {E F : List Bool} (hA : gm A E = true) (hB : gm B F = true) : ∀ f i l, Met A.length B.length l → Met A.length B.length (bfs A B f i l)
  | 0, _, l, h => h
  | f + 1, i, l, h => by
    rw [bfs]
    split
    · rename_i hi
      exact bfs_met hA hB f (i + 1) _ (h.all hA hB hi)
    · exact h

theorem prs_met {A B : List (List Int)} {E F : List Bool} (hA : gm A E = true) (hB : gm B F = true) : Met A.length B.length (prs A B) :=
  bfs_met hA hB _ _ _ (Met.one (gm_iff.1 hA).1.1 (gm_iff.1 hB).1.1)

/-- how far the search is: i pairs are done, l are known -/
structure At (A B : List (List Int)) (i : Nat) (l : List Pq) : Prop where
  met : Met A.length B.length l
  le : i ≤ l.length
  rest : bfs A B (145 - i) i l = prs A B

theorem At.start {A B : List (List Int)} {E F : List Bool} (hA : gm A E = true) (hB : gm B F = true) : At A B 0 [⟨0, 0, ByteArray.empty⟩] :=
  ⟨Met.one (gm_iff.1 hA).1.1 (gm_iff.1 hB).1.1, by simp, rfl⟩

theorem At.next {A B : List (List Int)} {E F : List Bool} (hA : gm A E = true) (hB : gm B F = true) {i : Nat} {l : List Pq} (h : At A B i l) (hi : i < l.length) : At A B (i + 1) (st3 A B l (pq l i)) := by
  refine ⟨h.met.all hA hB hi, ?_, ?_⟩
  · obtain ⟨m, e⟩ := st3_grows A B l (pq l i)
    rw [e, List.length_append]
    omega
  · rw [← h.rest]
    have := h.met.le hA hB
    rw [show 145 - i = (145 - (i + 1)) + 1 by omega, bfs, if_pos hi]

theorem At.done {A B : List (List Int)} {E F : List Bool} (hA : gm A E = true) (hB : gm B F = true) {i : Nat} {l : List Pq} (h : At A B i l) (hi : i = l.length) : l = prs A B := by
  rw [← h.rest]
  have := h.met.le hA hB
  rw [show 145 - i = (145 - (i + 1)) + 1 by omega, bfs, if_neg (by omega)]

/-- what is known stays ahead in all -/
theorem At.ahead {A B : List (List Int)} {i : Nat} {l : List Pq} (h : At A B i l) : ∃ m, prs A B = l ++ m := by
  rw [← h.rest]
  exact bfs_grows A B _ _ _

/-- the numbers that the pair j goes to -/
def nr (A B : List (List Int)) (j : Nat) : List Nat := (List.range 3).map (fun k => ix (prs A B) (nt A (pq (prs A B) j).a k) (nt B (pq (prs A B) j).b k))

end Go.Proofs.Ytfkhbbmnjndmcaa.Mch
