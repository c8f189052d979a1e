/- What VarintOf writes TakeVarint reads, whatever stands behind it. -/
import Derived.Test.YtegeapodhecjcaaTakeC
import Derived.Test.YtegeapodhecjcaaVarC
namespace Go.Proofs.Ytegeapodhecjcaa
open Go.RowKit Plain

theorem uvarint_len5 (x : Nat) (h : x ≤ 2000000001) : (Lib.uvarint x).length ≤ 5 := Lib.uvarint_length 4 x (by omega)

theorem bt_list (l : List UInt8) (i : Nat) (h : i < l.length) : bt ⟨l.toArray⟩ i = (l[i]).toNat := by
  have hs : i < (⟨l.toArray⟩ : ByteArray).size := by simpa [ByteArray.size] using h
  rw [← bt_get _ i hs]
  rfl

/-- the sevens of y, from place k on, behind what has been read -/
theorem tk_read (x : Nat) (hx : x ≤ 2000000001) (rest : List UInt8) : ∀ (f k y n : Nat) (pre : List UInt8), pre.length = k → k + f = 5 → y < 128 ^ f → n < 128 ^ k → n + y * 128 ^ k = x → (k = 0 ∨ 0 < y) →
    tk ⟨(pre ++ Lib.uvarint y ++ rest).toArray⟩ 0 f k n = ((x : Int), ((pre.length + (Lib.uvarint y).length : Nat) : Int), true) := by
  intro f
  induction f with
  | zero => intro k y n pre hp hk hy; intro hn hxy h0; exfalso; have : y = 0 := by omega
            subst this
            rcases h0 with h0 | h0 <;> omega
  | succ f ih =>
    intro k y n pre hp hkf hy hn hxy h0
    have hsz : (⟨(pre ++ Lib.uvarint y ++ rest).toArray⟩ : ByteArray).size = pre.length + (Lib.uvarint y).length + rest.length := by simp [ByteArray.size, Nat.add_assoc]
    have hpos := Lib.uvarint_pos y
    have hin : 0 + k < (⟨(pre ++ Lib.uvarint y ++ rest).toArray⟩ : ByteArray).size := by rw [hsz]; omega
    by_cases hs : y < 128
    · have hu := Lib.uvarint_small hs
      have hb : bt ⟨(pre ++ Lib.uvarint y ++ rest).toArray⟩ (0 + k) = y := by
        rw [Nat.zero_add, bt_list _ _ (by rw [hu]; simp; omega)]
        subst hp
        simp [hu]
        omega
      have hym : y % 128 = y := Nat.mod_eq_of_lt hs
      rw [tk_good _ 0 f k n hin (by rw [hb]; exact hs) (by
        rw [hb, hym, hxy]
        rintro (⟨h1, h2⟩ | h)
        · rcases h0 with h0 | h0 <;> omega
        · omega)]
      rw [hb, hym, hxy, hu]
      subst hp
      simp
    · have hu := Lib.uvarint_big (x := y) (by omega)
      have hb : bt ⟨(pre ++ Lib.uvarint y ++ rest).toArray⟩ (0 + k) = y % 128 + 128 := by
        rw [Nat.zero_add, bt_list _ _ (by rw [hu]; simp; omega)]
        subst hp
        simp [hu]
        omega
      rw [tk_more _ 0 f k n hin (by rw [hb]; omega), hb]
      have e1 : pre ++ Lib.uvarint y ++ rest = (pre ++ [(y % 128 + 128).toUInt8]) ++ Lib.uvarint (y / 128) ++ rest := by rw [hu]; simp
      have hm : (y % 128 + 128) % 128 = y % 128 := by omega
      have hp2 : (128 : Nat) ^ (k + 1) = 128 * 128 ^ k := by rw [Nat.pow_succ, Nat.mul_comm]
      have hpp : 0 < (128 : Nat) ^ k := Nat.pow_pos (by omega)
      have hdm : y % 128 * 128 ^ k + y / 128 * (128 * 128 ^ k) = y * 128 ^ k := by
        rw [← Nat.mul_assoc, ← Nat.add_mul]
        congr 1
        omega
      have hlt : n + y % 128 * 128 ^ k < 128 ^ (k + 1) := by
        have h1 : y % 128 * 128 ^ k ≤ 127 * 128 ^ k := Nat.mul_le_mul_right _ (by omega)
        rw [hp2]; omega
      rw [e1, hm, ih (k + 1) (y / 128) (n + y % 128 * 128 ^ k) (pre ++ [(y % 128 + 128).toUInt8]) (by simp; omega) (by omega) (by rw [Nat.pow_succ] at hy; omega) hlt (by rw [hp2]; omega) (by omega)]
      rw [hu]
      simp
      omega

theorem tv_read (x : Nat) (hx : x ≤ 2000000001) (rest : List UInt8) (hr : rest.length ≤ 100) (hr0 : 0 < rest.length) : tv ⟨(Lib.uvarint x ++ rest).toArray⟩ 0 = ((x : Int), ((Lib.uvarint x).length : Int), true) := by
  have h5 := uvarint_len5 x hx
  have hsz : (⟨(Lib.uvarint x ++ rest).toArray⟩ : ByteArray).size = (Lib.uvarint x).length + rest.length := by simp [ByteArray.size]
  have := tv_in ⟨(Lib.uvarint x ++ rest).toArray⟩ 0 (by rw [hsz]; omega) (by rw [hsz]; omega)
  rw [show ((0 : Nat) : Int) = 0 from rfl] at this
  rw [this]
  have h := tk_read x hx rest 5 0 x 0 [] rfl rfl (by omega) (by decide) (by simp) (.inl rfl)
  simpa using h

end Go.Proofs.Ytegeapodhecjcaa
