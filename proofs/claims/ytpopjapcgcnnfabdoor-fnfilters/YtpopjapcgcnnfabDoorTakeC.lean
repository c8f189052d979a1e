/- The contracts of the two TakeVarint at every text and place: both find what one plain function finds. -/
import Derived.Test.YtpopjapcgcnnfabDoorTakeB
namespace Go.Proofs.YtpopjapcgcnnfabDoor
open Go.RowKit Plain

/-- what TakeVarint finds at any text and place -/
def tvk (s : ByteArray) (a : Int) : Int × Int × Bool :=
  if s.size ≤ 400 ∧ 0 ≤ a ∧ a < s.size then tk s a.toNat 5 0 0 else (0, 0, false)

theorem tv_out (s : ByteArray) (a : Int) (h : ¬ (s.size ≤ 400 ∧ 0 ≤ a ∧ a < s.size)) : tvk s a = (0, 0, false) := by
  unfold tvk; rw [if_neg h]

theorem tv_in (s : ByteArray) (a : Nat) (h1 : s.size ≤ 400) (h2 : a < s.size) : tvk s (a : Int) = tk s a 5 0 0 := by
  unfold tvk; rw [if_pos ⟨h1, by omega, by omega⟩, Int.toNat_natCast]

set_option maxRecDepth 100000 in
set_option maxHeartbeats 1000000 in
theorem take10 (s : ByteArray) (a : Int) (w : World) (hs : s.size ≤ maxLen) :
    Calls Tryd.prog 108 #[.string s, .int .i64 a] w fun e w' => e = .returned (.tuple #[.int .i64 (tvk s a).1, .int .i64 (tvk s a).2.1, .bool (tvk s a).2.2]) ∧ w' = w := by
  unfold maxLen at hs
  by_cases h : s.size ≤ 400 ∧ 0 ≤ a ∧ a < s.size
  · obtain ⟨n, rfl⟩ := Int.eq_ofNat_of_zero_le h.2.1
    rw [tv_in s n h.1 (by omega)]
    exact takeIn s n w h.1 (by omega)
  · rw [tv_out s a h]
    by_cases h400 : 400 < s.size
    · have h400' : (400 : Int) < (s.size : Int) := by omega
      clear h h400
      go_enter Tryd.func108, Tryd.ntmps108
      go_wp2
      go_ret3
      exact ⟨rfl, rfl⟩
    · have h400' : (s.size : Int) ≤ 400 := by omega
      by_cases hneg : a < 0
      · clear h h400
        go_enter Tryd.func108, Tryd.ntmps108
        go_wp2
        go_ret3
        exact ⟨rfl, rfl⟩
      · have hout : (s.size : Int) ≤ a := by omega
        have hneg' : 0 ≤ a := by omega
        clear h h400 hneg
        go_enter Tryd.func108, Tryd.ntmps108
        go_wp2
        go_ret3
        exact ⟨rfl, rfl⟩

end Go.Proofs.YtpopjapcgcnnfabDoor
