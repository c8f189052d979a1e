/- The contracts of the two VarintOf at every int: both answer the text of the number's sevens, within the bounds alone. -/
import Derived.Test.YtegeapodhecjcaaVarB
import Derived.Lib.SmallJoins
namespace Go.Proofs.Ytegeapodhecjcaa
open Go.RowKit

/-- what VarintOf answers -/
def vo (a : Int) : ByteArray × Bool := if 0 ≤ a ∧ a ≤ 2000000001 then (⟨(Lib.uvarint a.toNat).toArray⟩, true) else (⟨#[]⟩, false)

theorem vo_in (x : Nat) (h : x ≤ 2000000001) : vo (x : Int) = (⟨(Lib.uvarint x).toArray⟩, true) := by
  unfold vo; rw [if_pos ⟨by omega, by omega⟩, Int.toNat_natCast]

theorem vo_out (a : Int) (h : ¬ (0 ≤ a ∧ a ≤ 2000000001)) : vo a = (⟨#[]⟩, false) := by
  unfold vo; rw [if_neg h]

set_option maxRecDepth 100000 in
set_option maxHeartbeats 4000000 in
theorem var8 (a : Int) (w : World) :
    Calls Try.prog 5 #[.int .i64 a] w fun e w' => e = .returned (.tuple #[.string (vo a).1, .bool (vo a).2]) ∧ Below w.heap.size w w' := by
  by_cases h : 0 ≤ a ∧ a ≤ 2000000001
  · obtain ⟨x, rfl⟩ := Int.eq_ofNat_of_zero_le h.1
    have hx : x ≤ 2000000001 := by omega
    rw [vo_in x hx]
    clear h
    have hpos := Lib.uvarint_pos x
    go_enter Try.func5, Try.ntmps5
    go_wp2_with fail
    refine (appendVarint_any w.heap.size 0 x hx _ [] w (World.ownsRow_nil _ _ _ _) (Nat.le_refl _) (by omega)).mono ?_
    rintro e w1 ⟨v, rfl, hown, hb⟩
    rw [Nat.zero_add, List.nil_append] at hown
    obtain ⟨g, cap, rfl⟩ := Joins.ownsRow_form hown (by omega)
    have hc := convert_own w1 w.heap.size g cap _ hown
    clear hown hpos
    go_wp2
    go_ret2
    exact ⟨rfl, hb⟩
  · rw [vo_out a h]
    by_cases hn : a < 0
    · clear h
      go_enter Try.func5, Try.ntmps5
      go_wp2
      go_ret2
      exact ⟨rfl, Below.refl _ _⟩
    · have h1 : 0 ≤ a := by omega
      have h2 : 2000000001 < a := by omega
      clear h hn
      go_enter Try.func5, Try.ntmps5
      go_wp2
      go_ret2
      exact ⟨rfl, Below.refl _ _⟩

set_option maxRecDepth 100000 in
set_option maxHeartbeats 4000000 in
theorem var7 (a : Int) (w : World) :
    Calls Try.prog 6 #[.int .i64 a] w fun e w' => e = .returned (.tuple #[.string (vo a).1, .bool (vo a).2]) ∧ Below w.heap.size w w' := by
  by_cases h : 0 ≤ a ∧ a ≤ 2000000001
  · obtain ⟨x, rfl⟩ := Int.eq_ofNat_of_zero_le h.1
    have hx : x ≤ 2000000001 := by omega
    have hx' : (x : Int) ≤ 2000000001 := by omega
    rw [vo_in x hx]
    clear h
    go_enter Try.func6, Try.ntmps6
    go_wp2_with (first | (go_at_call 20; refine (l1Varint_any x hx _).mono ?_; rintro e w1 ⟨rfl, hb⟩) | go_in)
    go_ret2
    exact ⟨rfl, hb⟩
  · rw [vo_out a h]
    by_cases hn : a < 0
    · clear h
      go_enter Try.func6, Try.ntmps6
      go_wp2
      go_ret2
      exact ⟨rfl, Below.refl _ _⟩
    · have h1 : 0 ≤ a := by omega
      have h2 : 2000000001 < a := by omega
      have h3 : decide (a ≤ 2000000001) = false := by simp; omega
      clear h hn
      go_enter Try.func6, Try.ntmps6
      go_wp2
      go_ret2
      exact ⟨rfl, Below.refl _ _⟩

end Go.Proofs.Ytegeapodhecjcaa
