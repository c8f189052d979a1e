/- Plain facts on numbers in sevens: what TakeVarint finds, written as a function of the bytes. -/
import Derived.Laws.Bits128
import Derived.Laws.BitsAllLaws
namespace Go.Proofs.YtfcfgdcofndjdaaDoor.Plain
open Go

/-- the byte at a place, 0 behind the end -/
def bt (s : ByteArray) (i : Nat) : Nat := if h : i < s.size then (s[i]'h).toNat else 0

theorem bt_lt (s : ByteArray) (i : Nat) : bt s i < 256 := by
  unfold bt; split
  · exact UInt8.toNat_lt _
  · omega

theorem bt_get (s : ByteArray) (i : Nat) (h : i < s.size) : (s[i]'h).toNat = bt s i := by
  unfold bt; rw [dif_pos h]

/-- from place a on, with k sevens read that make n, and f more to be looked at -/
def tk (s : ByteArray) (a : Nat) : Nat → Nat → Nat → Int × Int × Bool
  | 0, _, _ => (0, 0, false)
  | f + 1, k, n =>
    if a + k < s.size then
      if bt s (a + k) < 128 then
        if (0 < k ∧ bt s (a + k) = 0) ∨ 2000000001 < n + bt s (a + k) % 128 * 128 ^ k then (0, 0, false)
        else (((n + bt s (a + k) % 128 * 128 ^ k : Nat) : Int), ((a + k + 1 : Nat) : Int), true)
      else tk s a f (k + 1) (n + bt s (a + k) % 128 * 128 ^ k)
    else (0, 0, false)

theorem tk_out (s : ByteArray) (a f k n : Nat) (h : ¬ a + k < s.size) : tk s a f k n = (0, 0, false) := by
  cases f <;> simp [tk, h]

theorem tk_more (s : ByteArray) (a f k n : Nat) (h : a + k < s.size) (hb : 128 ≤ bt s (a + k)) :
    tk s a (f + 1) k n = tk s a f (k + 1) (n + bt s (a + k) % 128 * 128 ^ k) := by
  rw [tk, if_pos h, if_neg (by omega)]

theorem tk_bad (s : ByteArray) (a f k n : Nat) (h : a + k < s.size) (hb : bt s (a + k) < 128)
    (hx : (0 < k ∧ bt s (a + k) = 0) ∨ 2000000001 < n + bt s (a + k) % 128 * 128 ^ k) : tk s a (f + 1) k n = (0, 0, false) := by
  rw [tk, if_pos h, if_pos hb, if_pos hx]

theorem tk_good (s : ByteArray) (a f k n : Nat) (h : a + k < s.size) (hb : bt s (a + k) < 128)
    (hx : ¬ ((0 < k ∧ bt s (a + k) = 0) ∨ 2000000001 < n + bt s (a + k) % 128 * 128 ^ k)) :
    tk s a (f + 1) k n = (((n + bt s (a + k) % 128 * 128 ^ k : Nat) : Int), ((a + k + 1 : Nat) : Int), true) := by
  rw [tk, if_pos h, if_pos hb, if_neg hx]


theorem and127 (x : Nat) : bits .and .i64 (x : Int) 127 = ((x % 128 : Nat) : Int) := by
  rw [i64_and127]; omega

theorem ofInt_i64 (a : Nat) (ha : a < 18446744073709551616) : (BitVec.ofInt 64 (a : Int)).toNat = a := ofInt_u64 a ha

theorem or_i64_nat (a b : Nat) (ha : a < 9223372036854775808) (hb : b < 9223372036854775808) : bits .or .i64 (a : Int) (b : Int) = ((a ||| b : Nat) : Int) := by
  have hx : a ||| b < 2 ^ 63 := Nat.or_lt_two_pow (by omega) (by omega)
  show IntKind.i64.wrap ((BitVec.ofInt 64 (a : Int) ||| BitVec.ofInt 64 (b : Int)).toNat : Int) = _
  rw [BitVec.toNat_or, ofInt_i64 a (by omega), ofInt_i64 b (by omega), IntKind.wrap_i64]
  omega

/-- what is joined by 'or' is added where no bit is met twice -/
theorem or_join (i m y : Nat) (hi : i ≤ 28) (hm : m < 2 ^ i) (hy : y < 128) : bits .or .i64 (m : Int) ((y * 2 ^ i : Nat) : Int) = ((m + y * 2 ^ i : Nat) : Int) := by
  have h28 : (2 : Nat) ^ i ≤ 2 ^ 28 := Nat.pow_le_pow_right (by omega) hi
  have hy2 : y * 2 ^ i ≤ 127 * 2 ^ 28 := Nat.mul_le_mul (by omega) h28
  have e28 : (2 : Nat) ^ 28 = 268435456 := by decide
  rw [e28] at h28 hy2
  rw [or_i64_nat _ _ (by omega) (by omega)]
  rw [Nat.or_comm, nat_join i (y * 2 ^ i) m (by simp) hm, Nat.add_comm]

end Go.Proofs.YtfcfgdcofndjdaaDoor.Plain
