/- CanRead: the model's and the program's, each by IsSubtype. -/
import Derived.Test.YtpajdmhakdbkjaaGi
namespace Go.Proofs.Ytpajdmhakdbkjaa
open Go.RowKit Plain Sch

set_option maxRecDepth 100000 in
set_option maxHeartbeats 1000000 in
theorem specCan (A B : List Ty) (v1 v2 : Value) (w : World) (hA : TysAt w w.heap.size v1 A) (hB : TysAt w w.heap.size v2 B) :
    Calls Try.prog 36 #[.agg #[v1], .agg #[v2]] w fun e w' => e = .returned (.tuple #[.bool (sof A B).1, .bool (sof A B).2]) ∧ Below w.heap.size w w' := by
  have HA : Hid (TysAt w w.heap.size v1 A) := hA
  have HB : Hid (TysAt w w.heap.size v2 B) := hB
  obtain ⟨aa, capa, rfl, _⟩ := hA
  obtain ⟨ab, capb, rfl, _⟩ := hB
  have hB2 : Below w.heap.size w ((w.alloc (.cells #[.slice aa A.length capa] 25)).alloc (.cells #[.slice ab B.length capb] 25)) := ((Below.refl _ w).alloc (Nat.le_refl _) _).alloc (by simp) _
  have C : Hid (Calls Try.prog 72 #[.agg #[.slice aa A.length capa], .agg #[.slice ab B.length capb]] ((w.alloc (.cells #[.slice aa A.length capa] 25)).alloc (.cells #[.slice ab B.length capb] 25)) fun e w' => e = .returned (.tuple #[.bool (sof A B).1, .bool (sof A B).2]) ∧ Below w.heap.size w w') := by
    refine (specSub A B _ _ _ (HA.out.below hB2) (HB.out.below hB2)).mono ?_
    rintro e w' ⟨rfl, hb⟩
    exact ⟨rfl, hB2.trans (hb.mono hB2.size)⟩
  go_enter Try.func36, Try.ntmps36
  go_wp2_with fail
  refine C.out.mono ?_
  rintro e w3 ⟨rfl, hb3⟩
  go_wp2
  go_ret2
  exact ⟨rfl, hb3⟩

set_option maxRecDepth 100000 in
set_option maxHeartbeats 1000000 in
theorem implCan (A B : List Ty) (v1 v2 : Value) (w : World) (hA : TysAt w w.heap.size v1 A) (hB : TysAt w w.heap.size v2 B) :
    Calls Try.prog 37 #[.agg #[v1], .agg #[v2]] w fun e w' => e = .returned (.tuple #[.bool (sof A B).1, .bool (sof A B).2]) ∧ Below w.heap.size w w' := by
  have HA : Hid (TysAt w w.heap.size v1 A) := hA
  have HB : Hid (TysAt w w.heap.size v2 B) := hB
  obtain ⟨aa, capa, rfl, _⟩ := hA
  obtain ⟨ab, capb, rfl, _⟩ := hB
  have hB2 : Below w.heap.size w ((w.alloc (.cells #[.slice aa A.length capa] 25)).alloc (.cells #[.slice ab B.length capb] 25)) := ((Below.refl _ w).alloc (Nat.le_refl _) _).alloc (by simp) _
  have C : Hid (Calls Try.prog 73 #[.agg #[.slice aa A.length capa], .agg #[.slice ab B.length capb]] ((w.alloc (.cells #[.slice aa A.length capa] 25)).alloc (.cells #[.slice ab B.length capb] 25)) fun e w' => e = .returned (.tuple #[.bool (sof A B).1, .bool (sof A B).2]) ∧ Below w.heap.size w w') := by
    refine (implSub A B _ _ _ (HA.out.below hB2) (HB.out.below hB2)).mono ?_
    rintro e w' ⟨rfl, hb⟩
    exact ⟨rfl, hB2.trans (hb.mono hB2.size)⟩
  go_enter Try.func37, Try.ntmps37
  go_wp2_with fail
  refine C.out.mono ?_
  rintro e w3 ⟨rfl, hb3⟩
  go_wp2
  go_ret2
  exact ⟨rfl, hb3⟩

end Go.Proofs.Ytpajdmhakdbkjaa
