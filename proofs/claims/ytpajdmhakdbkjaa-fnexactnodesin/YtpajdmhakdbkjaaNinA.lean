/- NodesIn: the model's and the program's. -/
import Derived.Test.YtpajdmhakdbkjaaPfH
namespace Go.Proofs.Ytpajdmhakdbkjaa
open Go.RowKit Plain Sch

/-- what NodesIn tells -/
def nin (V T : List Ty) : Int × Bool := if fof4 V T then ((V.length : Int), true) else (0, false)

set_option maxRecDepth 100000 in
set_option maxHeartbeats 2000000 in
theorem specNodes (V T : List Ty) (vv' v : Value) (w : World) (hV : NdsAt w w.heap.size vv' V) (hT : TysAt w w.heap.size v T) (hl : V.length ≤ 2097152) :
    Calls Try.prog 25 #[.agg #[vv'], .agg #[v]] w fun e w' => e = .returned (.tuple #[.int .i64 (nin V T).1, .bool (nin V T).2]) ∧ Below w.heap.size w w' := by
  have HV : Hid (NdsAt w w.heap.size vv' V) := hV
  have HT : Hid (TysAt w w.heap.size v T) := hT
  obtain ⟨R, hR⟩ : ∃ R, R = nin V T := ⟨_, rfl⟩
  rw [← hR]
  have HR : Hid (R = nin V T) := hR
  clear hR
  obtain ⟨av, capv, rfl, hlv, hcv, _⟩ := hV
  obtain ⟨aa, capa, rfl, _⟩ := hT
  have hcv' : capv ≤ 9223372036854775807 := by unfold maxLen at hcv; omega
  obtain ⟨W2, hW2⟩ : ∃ W, W = (w.alloc (.cells #[.slice av V.length capv] 29)).alloc (.cells #[.slice aa T.length capa] 25) := ⟨_, rfl⟩
  have hB2 : Below w.heap.size w W2 := by rw [hW2]; exact ((Below.refl _ w).alloc (Nat.le_refl _) _).alloc (by simp) _
  have HS2 : Hid (W2.heap.size = w.heap.size + 2) := by show _ = _; rw [hW2]; simp
  have k0 : W2.cell? ⟨w.heap.size, 0, none⟩ = some (.slice av V.length capv) := by rw [hW2]; go_simp
  have CF : Hid (Calls Try.prog 20 #[.agg #[.slice av V.length capv], .agg #[.slice aa T.length capa]] W2 fun e w' => e = .returned (.bool (fof4 V T)) ∧ Below W2.heap.size W2 w') := specFits V T _ _ W2 (HV.out.below hB2) (HT.out.below hB2) hl
  go_enter Try.func25, Try.ntmps25
  go_wp2_with fail
  rw [← hW2]
  clear hW2
  refine CF.out.mono ?_
  rintro e w3 ⟨rfl, hb3⟩
  have hz3 : w.heap.size < w3.heap.size := by have := hb3.size; have := HS2.out; omega
  have q0 := (hb3.cell (p := ⟨w.heap.size, 0, none⟩) (by have := HS2.out; show w.heap.size < _; omega)).trans k0
  have hB3 : Below w.heap.size w w3 := hB2.trans (hb3.mono hB2.size)
  clear CF hb3
  rcases hf : fof4 V T with _ | _
  · have hn : Hid (R = (0, false)) := HR.out.trans (by unfold nin; rw [hf]; rfl)
    clear hf HR
    go_wp2
    go_ret2
    exact ⟨by rw [hn.out]; rfl, hB3⟩
  · have hn : Hid (R = ((V.length : Int), true)) := HR.out.trans (by unfold nin; rw [hf]; rfl)
    clear hf HR
    go_wp2
    go_ret2
    exact ⟨by rw [hn.out]; rfl, hB3⟩

set_option maxRecDepth 100000 in
set_option maxHeartbeats 2000000 in
theorem implNodes (V T : List Ty) (vv' v : Value) (w : World) (hV : NdsAt w w.heap.size vv' V) (hT : TysAt w w.heap.size v T) :
    Calls Try.prog 26 #[.agg #[vv'], .agg #[v]] w fun e w' => e = .returned (.tuple #[.int .i64 (nin V T).1, .bool (nin V T).2]) ∧ Below w.heap.size w w' := by
  have HV : Hid (NdsAt w w.heap.size vv' V) := hV
  have HT : Hid (TysAt w w.heap.size v T) := hT
  obtain ⟨R, hR⟩ : ∃ R, R = nin V T := ⟨_, rfl⟩
  rw [← hR]
  have HR : Hid (R = nin V T) := hR
  clear hR
  obtain ⟨av, capv, rfl, hlv, hcv, _⟩ := hV
  obtain ⟨aa, capa, rfl, _⟩ := hT
  have hcv' : capv ≤ 9223372036854775807 := by unfold maxLen at hcv; omega
  obtain ⟨W2, hW2⟩ : ∃ W, W = (w.alloc (.cells #[.slice av V.length capv] 29)).alloc (.cells #[.slice aa T.length capa] 25) := ⟨_, rfl⟩
  have hB2 : Below w.heap.size w W2 := by rw [hW2]; exact ((Below.refl _ w).alloc (Nat.le_refl _) _).alloc (by simp) _
  have HS2 : Hid (W2.heap.size = w.heap.size + 2) := by show _ = _; rw [hW2]; simp
  have k0 : W2.cell? ⟨w.heap.size, 0, none⟩ = some (.slice av V.length capv) := by rw [hW2]; go_simp
  have CF : Hid (Calls Try.prog 13 #[.agg #[.slice av V.length capv], .agg #[.slice aa T.length capa]] W2 fun e w' => e = .returned (.bool (fof4 V T)) ∧ Below W2.heap.size W2 w') := implFits V T _ _ W2 (HV.out.below hB2) (HT.out.below hB2)
  go_enter Try.func26, Try.ntmps26
  go_wp2_with fail
  rw [← hW2]
  clear hW2
  refine CF.out.mono ?_
  rintro e w3 ⟨rfl, hb3⟩
  have hz3 : w.heap.size < w3.heap.size := by have := hb3.size; have := HS2.out; omega
  have q0 := (hb3.cell (p := ⟨w.heap.size, 0, none⟩) (by have := HS2.out; show w.heap.size < _; omega)).trans k0
  have hB3 : Below w.heap.size w w3 := hB2.trans (hb3.mono hB2.size)
  clear CF hb3
  rcases hf : fof4 V T with _ | _
  · have hn : Hid (R = (0, false)) := HR.out.trans (by unfold nin; rw [hf]; rfl)
    clear hf HR
    go_wp2
    go_ret2
    exact ⟨by rw [hn.out]; rfl, hB3⟩
  · have hn : Hid (R = ((V.length : Int), true)) := HR.out.trans (by unfold nin; rw [hf]; rfl)
    clear hf HR
    go_wp2
    go_ret2
    exact ⟨by rw [hn.out]; rfl, hB3⟩

end Go.Proofs.Ytpajdmhakdbkjaa
