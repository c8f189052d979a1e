/- The text of a schema's tree, as bytes. -/
import Derived.Test.YtneaikkbpmeebaaDoorSxC
import Derived.Test.YtneaikkbpmeebaaDoorGa
namespace Go.Proofs.YtneaikkbpmeebaaDoor
open Plain Sch

/-- a part's text ahead of its type -/
def hdx (t : Tr) : List UInt8 := t.name.data.toList ++ ([58] ++ (dec t.no.toNat ++ ((if t.must then [33] else []) ++ [32])))

mutual
/-- the text of a type -/
def sx : Tr → List UInt8
  | .mk k _ _ _ mo ks => if k = 1 then [110, 117, 109] else if k = 2 then [116, 101, 120, 116] else if k = 3 then [101, 110, 117, 109, 40] ++ dec mo.toNat ++ [41] else if k = 4 then [91] ++ sxH ks ++ [93] else [123] ++ sxL ks ++ [125]
/-- the first one's text -/
def sxH : List Tr → List UInt8
  | [] => []
  | x :: _ => sx x
/-- the texts of parts, ',' between -/
def sxL : List Tr → List UInt8
  | [] => []
  | x :: xs => hdx x ++ sx x ++ sxM xs
/-- the texts of further parts -/
def sxM : List Tr → List UInt8
  | [] => []
  | x :: xs => [44] ++ (hdx x ++ sx x) ++ sxM xs
end

theorem sx_num (t : Tr) (h : t.kind = 1) : sx t = [110, 117, 109] := by cases t; simp only [Tr.kind] at h; rw [sx, if_pos h]
theorem sx_txt (t : Tr) (h : t.kind = 2) : sx t = [116, 101, 120, 116] := by cases t; simp only [Tr.kind] at h; rw [sx, if_neg (by omega), if_pos h]
theorem sx_enu (t : Tr) (h : t.kind = 3) : sx t = [101, 110, 117, 109, 40] ++ dec t.most.toNat ++ [41] := by cases t; simp only [Tr.kind] at h; rw [sx, if_neg (by omega), if_neg (by omega), if_pos h]; rfl
theorem sx_lst (t : Tr) (x : Tr) (h : t.kind = 4) (hk : t.kids = [x]) : sx t = [91] ++ sx x ++ [93] := by
  cases t; simp only [Tr.kind] at h; simp only [Tr.kids] at hk; subst hk; rw [sx, if_neg (by omega), if_neg (by omega), if_neg (by omega), if_pos h, sxH]
theorem sx_msg (t : Tr) (h : t.kind = 5) : sx t = [123] ++ sxL t.kids ++ [125] := by cases t; simp only [Tr.kind] at h; rw [sx, if_neg (by omega), if_neg (by omega), if_neg (by omega), if_neg (by omega)]; rfl

theorem sxM_snoc : ∀ (xs : List Tr) (y : Tr), sxM (xs ++ [y]) = sxM xs ++ ([44] ++ (hdx y ++ sx y))
  | [], y => by simp [sxM]
  | x :: xs, y => by rw [List.cons_append, sxM, sxM, sxM_snoc xs y]; simp

theorem sxL_snoc (xs : List Tr) (y : Tr) : sxL (xs ++ [y]) = sxL xs ++ ((if xs.isEmpty then [] else [44]) ++ (hdx y ++ sx y)) := by
  cases xs with
  | nil => simp [sxL, sxM]
  | cons x xs => rw [List.cons_append, sxL, sxL, sxM_snoc]; simp

theorem sxL_take (ks : List Tr) (i : Nat) (t : Tr) (h : ks[i]? = some t) : sxL (ks.take (i + 1)) = sxL (ks.take i) ++ ((if i = 0 then [] else [44]) ++ (hdx t ++ sx t)) := by
  rw [List.take_add_one, h, Option.toList_some, sxL_snoc]
  have hlt : i < ks.length := (List.getElem?_eq_some_iff.1 h).1
  cases i with
  | zero => simp
  | succ i =>
    cases ks with
    | nil => simp at hlt
    | cons _ _ => simp

theorem hdx_len {t : Tr} (h : t.name.size ≤ 10) : (hdx t).length ≤ 15 := by
  unfold hdx
  have h1 := dec_len t.no.toNat
  have h3 : t.name.data.toList.length = t.name.size := Array.length_toList
  simp only [List.length_append, h3, List.length_singleton]
  have h2 : (if t.must then [(33 : UInt8)] else []).length ≤ 1 := by split <;> simp
  omega

mutual
theorem sx_len : ∀ (t : Tr), NmT t → (sx t).length + 16 ≤ 25 * t.size
  | .mk k n no mu mo ks, h => by
    have hk : NmL ks := by rw [NmT] at h; exact h.2
    have h1 := sxL_len ks hk
    have h2 := sxH_len ks hk
    have h3 := dec_len mo.toNat
    rw [sx, Tr.size]
    split
    · simp; omega
    · split
      · simp; omega
      · split
        · simp only [List.length_append, List.length_cons, List.length_nil]; omega
        · split
          · simp only [List.length_append, List.length_cons, List.length_nil]; omega
          · simp only [List.length_append, List.length_cons, List.length_nil]; omega
theorem sxH_len : ∀ (l : List Tr), NmL l → (sxH l).length ≤ 25 * sizeL l
  | [], _ => by simp [sxH]
  | x :: xs, h => by
    rw [NmL] at h
    have h1 := sx_len x h.1
    rw [sxH, sizeL]
    omega
theorem sxL_len : ∀ (l : List Tr), NmL l → (sxL l).length ≤ 25 * sizeL l
  | [], _ => by simp [sxL]
  | x :: xs, h => by
    rw [NmL] at h
    have h1 := sx_len x h.1
    have h2 := sxM_len xs h.2
    have h3 := hdx_len ((NmT_iff x).1 h.1).1
    rw [sxL, sizeL, List.length_append, List.length_append]
    omega
theorem sxM_len : ∀ (l : List Tr), NmL l → (sxM l).length ≤ 25 * sizeL l
  | [], _ => by simp [sxM]
  | x :: xs, h => by
    rw [NmL] at h
    have h1 := sx_len x h.1
    have h2 := sxM_len xs h.2
    have h3 := hdx_len ((NmT_iff x).1 h.1).1
    rw [sxM, sizeL, List.length_append, List.length_append, List.length_append]
    simp only [List.length_singleton]
    omega
end

end Go.Proofs.YtneaikkbpmeebaaDoor
