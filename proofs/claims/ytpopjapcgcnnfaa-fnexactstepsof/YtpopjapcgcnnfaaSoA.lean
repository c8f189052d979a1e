/- StepsOf, the program's and the model's. -/
import Derived.Test.YtpopjapcgcnnfaaPiD
import Derived.Test.YtpopjapcgcnnfaaPsB
namespace Go.Proofs.Ytpopjapcgcnnfaa
open Go.RowKit Plain Sch Wan Prg

def sto (T : List Ins) : Int × Bool := if gp T then ((T.length : Int), true) else (0, false)

set_option maxRecDepth 100000 in
set_option maxHeartbeats 2000000 in
theorem implSteps (T : List Ins) (v : Value) (w : World) (hT : InsAt w w.heap.size v T) :
    Calls Try.prog 19 #[.agg #[v]] w fun e w' => e = .returned (.tuple #[.int .i64 (sto T).1, .bool (sto T).2]) ∧ Below w.heap.size w w' := by
  have HT : Hid (InsAt w w.heap.size v T) := hT
  obtain ⟨ao, cap, rfl, hlc, hcm, _⟩ := hT
  unfold maxLen at hcm
  have hB1 : Below w.heap.size w (w.alloc (.cells #[.slice ao T.length cap] 29)) := (Below.refl _ w).alloc (Nat.le_refl _) _
  have hX1 : Hid (InsAt (w.alloc (.cells #[.slice ao T.length cap] 29)) (w.alloc (.cells #[.slice ao T.length cap] 29)).heap.size (.slice ao T.length cap) T) := HT.out.below hB1
  go_enter Try.func19, Try.ntmps19
  go_wp2_with fail
  refine (implGoodP T _ _ hX1.out).mono ?_
  rintro e w2 ⟨rfl, hb2⟩
  have hB2 : Below w.heap.size w w2 := hB1.trans (hb2.mono (by simp))
  have q2 : w2.cell? ⟨w.heap.size, 0, none⟩ = some (.slice ao T.length cap) := (hb2.cell (p := ⟨w.heap.size, 0, none⟩) (by simp)).trans (by simp)
  clear hb2 hX1
  cases hg : gp T with
  | false =>
    have hF : Hid (sto T = (0, false)) := by show sto T = _; unfold sto; rw [hg]; rfl
    clear hg
    go_wp2
    go_ret2
    exact ⟨by rw [hF.out]; rfl, hB2⟩
  | true =>
    have hF : Hid (sto T = ((T.length : Int), true)) := by show sto T = _; unfold sto; rw [hg]; rfl
    clear hg
    go_wp2
    go_ret2
    exact ⟨by rw [hF.out]; rfl, hB2⟩

set_option maxRecDepth 100000 in
set_option maxHeartbeats 2000000 in
theorem specSteps (T : List Ins) (v : Value) (w : World) (hT : InsAt w w.heap.size v T) :
    Calls Try.prog 18 #[.agg #[v]] w fun e w' => e = .returned (.tuple #[.int .i64 (sto T).1, .bool (sto T).2]) ∧ Below w.heap.size w w' := by
  have HT : Hid (InsAt w w.heap.size v T) := hT
  obtain ⟨ao, cap, rfl, hlc, hcm, _⟩ := hT
  unfold maxLen at hcm
  have hB1 : Below w.heap.size w (w.alloc (.cells #[.slice ao T.length cap] 29)) := (Below.refl _ w).alloc (Nat.le_refl _) _
  have hX1 : Hid (InsAt (w.alloc (.cells #[.slice ao T.length cap] 29)) (w.alloc (.cells #[.slice ao T.length cap] 29)).heap.size (.slice ao T.length cap) T) := HT.out.below hB1
  go_enter Try.func18, Try.ntmps18
  go_wp2_with fail
  refine (specGoodP T _ _ hX1.out).mono ?_
  rintro e w2 ⟨rfl, hb2⟩
  have hB2 : Below w.heap.size w w2 := hB1.trans (hb2.mono (by simp))
  have q2 : w2.cell? ⟨w.heap.size, 0, none⟩ = some (.slice ao T.length cap) := (hb2.cell (p := ⟨w.heap.size, 0, none⟩) (by simp)).trans (by simp)
  clear hb2 hX1
  cases hg : gp T with
  | false =>
    have hF : Hid (sto T = (0, false)) := by show sto T = _; unfold sto; rw [hg]; rfl
    clear hg
    go_wp2
    go_ret2
    exact ⟨by rw [hF.out]; rfl, hB2⟩
  | true =>
    have hF : Hid (sto T = ((T.length : Int), true)) := by show sto T = _; unfold sto; rw [hg]; rfl
    clear hg
    go_wp2
    go_ret2
    exact ⟨by rw [hF.out]; rfl, hB2⟩

end Go.Proofs.Ytpopjapcgcnnfaa
