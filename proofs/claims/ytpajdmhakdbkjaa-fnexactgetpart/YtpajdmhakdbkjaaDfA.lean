/- The least value of a type, plain. -/
import Derived.Test.YtpajdmhakdbkjaaGj
namespace Go.Proofs.Ytpajdmhakdbkjaa.Sch
open Plain

mutual
/-- the least value of a type, with the type's no -/
def dflt : Tr → Tr
  | .mk k _ no _ _ ks => .mk 0 ⟨#[]⟩ no (k == 4 || k == 5) 0 (if k = 5 then dfltL ks else [])
def dfltL : List Tr → List Tr
  | [] => []
  | x :: l => (if x.must = true then [dflt x] else []) ++ dfltL l
end

theorem dflt_eq (t : Tr) : dflt t = .mk 0 ⟨#[]⟩ t.no (t.kind == 4 || t.kind == 5) 0 (if t.kind = 5 then dfltL t.kids else []) := by
  cases t; rw [dflt]; rfl

theorem dfltL_append : ∀ (a b : List Tr), dfltL (a ++ b) = dfltL a ++ dfltL b
  | [], b => by rw [dfltL]; rfl
  | x :: a, b => by rw [List.cons_append, dfltL, dfltL, dfltL_append a b, List.append_assoc]

mutual
theorem dflt_size (t : Tr) : (dflt t).size ≤ t.size := by
  cases t with
  | mk k n no mu mo ks =>
    rw [dflt, Tr.size_eq, Tr.size_eq]
    show sizeL (if k = 5 then dfltL ks else []) + 1 ≤ sizeL ks + 1
    have := dfltL_size ks
    split
    · omega
    · simp [sizeL]
theorem dfltL_size (l : List Tr) : sizeL (dfltL l) ≤ sizeL l := by
  cases l with
  | nil => rw [dfltL]; exact Nat.le_refl _
  | cons x l =>
    rw [dfltL, sizeL_append, sizeL]
    have h1 := dflt_size x
    have h2 := dfltL_size l
    split
    · simp only [sizeL]; omega
    · simp only [sizeL]; omega
end

/-- the nodes when i parts have been gone by -/
def dlaid (L : List Ty) (no up : Int) (ks : List Tr) (i : Nat) : List Ty := L ++ [⟨0, ⟨#[]⟩, no, true, up, 0⟩] ++ flatL (dfltL (ks.take i)) L.length (L.length + 1)

theorem dlaid_len (L : List Ty) (no up : Int) (ks : List Tr) (i : Nat) : (dlaid L no up ks i).length = L.length + 1 + sizeL (dfltL (ks.take i)) := by
  unfold dlaid; simp [flatL_len]; omega

theorem dlaid_small (L : List Ty) (no up : Int) (ks : List Tr) (i : Nat) (x : Tr) (h : ks[i]? = some x) : (dlaid L no up ks i).length + x.size ≤ L.length + 1 + sizeL ks := by
  rw [dlaid_len]
  have h1 := dfltL_size (ks.take i)
  have h2 := sizeL_step ks i x h
  omega

theorem dlaid_must (L : List Ty) (no up : Int) (ks : List Tr) (i : Nat) (x : Tr) (h : ks[i]? = some x) (hm : x.must = true) : dlaid L no up ks (i + 1) = dlaid L no up ks i ++ flat (dflt x) L.length (dlaid L no up ks i).length := by
  rw [dlaid_len]
  unfold dlaid
  rw [List.take_add_one, h, dfltL_append]
  simp only [Option.toList, dfltL, hm, if_true, List.append_nil]
  rw [flatL_append]
  simp [flatL]

theorem dlaid_skip (L : List Ty) (no up : Int) (ks : List Tr) (i : Nat) (x : Tr) (h : ks[i]? = some x) (hm : x.must = false) : dlaid L no up ks (i + 1) = dlaid L no up ks i := by
  unfold dlaid
  rw [List.take_add_one, h, dfltL_append]
  simp [dfltL, hm]

theorem dlaid_start (L : List Ty) (no up : Int) (ks : List Tr) : dlaid L no up ks 0 = L ++ [⟨0, ⟨#[]⟩, no, true, up, 0⟩] := by
  unfold dlaid; simp [dfltL, flatL]

theorem dlaid_end (L : List Ty) (t : Tr) (up : Int) (hk : t.kind = 5) : dlaid L t.no up t.kids t.kids.length = L ++ flat (dflt t) up L.length := by
  unfold dlaid
  rw [List.take_length, flat_eq, dflt_eq, hk]
  simp [Tr.kind, Tr.name, Tr.no, Tr.must, Tr.most, Tr.kids]

theorem flat_leafD (t : Tr) (up : Int) (p : Nat) (hk : t.kind ≠ 5) : flat (dflt t) up p = [⟨0, ⟨#[]⟩, t.no, t.kind == 4, up, 0⟩] := by
  cases t with
  | mk k n no mu mo ks =>
    have hk' : k ≠ 5 := hk
    have h5 : (k == 5) = false := by simpa using hk'
    rw [flat_eq, dflt, if_neg hk', h5, Bool.or_false]
    rfl

end Go.Proofs.Ytpajdmhakdbkjaa.Sch
