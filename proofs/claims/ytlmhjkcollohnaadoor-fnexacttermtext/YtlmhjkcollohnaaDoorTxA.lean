/- The text of a term, as bytes. -/
import Derived.Test.YtlmhjkcollohnaaDoorVrA
namespace Go.Proofs.YtlmhjkcollohnaaDoor.Trm
open Plain Sch

mutual
/-- the text of a tree -/
def txt : TT → List UInt8
  | .mk v n ks => if 0 < v then [36, (48 + v.toNat).toUInt8] else n.data.toList ++ txL 40 ks ++ (if ks.isEmpty then [] else [41])
/-- the texts of trees, a sign ahead of each -/
def txL : UInt8 → List TT → List UInt8
  | _, [] => []
  | m, x :: xs => m :: txt x ++ txL 44 xs
end

theorem txt_var (v : Int) (n : ByteArray) (ks : List TT) (h : 0 < v) : txt (.mk v n ks) = [36, (48 + v.toNat).toUInt8] := by rw [txt, if_pos h]
theorem txt_fn (v : Int) (n : ByteArray) (ks : List TT) (h : ¬ 0 < v) : txt (.mk v n ks) = n.data.toList ++ txL 40 ks ++ (if ks.isEmpty then [] else [41]) := by rw [txt, if_neg h]
theorem txL_cons (m : UInt8) (x : TT) (xs : List TT) : txL m (x :: xs) = m :: txt x ++ txL 44 xs := by rw [txL]

theorem okCe_name {c : Ce} (h : okCe c = true) : c.name.size ≤ 4 := by
  unfold okCe at h
  split at h
  · simp [okFn, okName] at h; exact h.1.2
  · simp [okVar] at h
    rw [h.1.2]
    decide

mutual
theorem txt_len : ∀ (x : TT), (∀ c ∈ fl x, okCe c = true) → (txt x).length + 1 ≤ 7 * (fl x).length
  | .mk v n ks, h => by
    have hc := okCe_name (h ⟨v, n, (ks.length : Int)⟩ (by simp [fl]))
    dsimp only at hc
    by_cases hv : 0 < v
    · rw [txt_var v n ks hv, fl]; simp; omega
    · rw [txt_fn v n ks hv, fl]
      have h2 := txL_len 40 ks (fun c hc => h c (by rw [fl]; exact List.mem_cons_of_mem _ hc))
      have h3 : n.data.toList.length = n.size := Array.length_toList
      rw [List.length_append, List.length_append, h3, List.length_cons]
      have h5 : (if ks.isEmpty then ([] : List UInt8) else [41]).length ≤ 1 := by split <;> simp
      omega
theorem txL_len : ∀ (m : UInt8) (xs : List TT), (∀ c ∈ flL xs, okCe c = true) → (txL m xs).length ≤ 7 * (flL xs).length
  | _, [], _ => by simp [txL]
  | m, x :: xs, h => by
    have h1 := txt_len x (fun c hc => h c (by rw [flL]; exact List.mem_append_left _ hc))
    have h2 := txL_len 44 xs (fun c hc => h c (by rw [flL]; exact List.mem_append_right _ hc))
    have h3 : 0 < (fl x).length := by obtain ⟨v, n, ks⟩ := x; simp [fl]
    rw [txL_cons, flL, List.length_append, List.length_append, List.length_cons]
    omega
end

end Go.Proofs.YtlmhjkcollohnaaDoor.Trm
