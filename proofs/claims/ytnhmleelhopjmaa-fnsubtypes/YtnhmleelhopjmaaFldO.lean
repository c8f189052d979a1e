/- The parts of a type: the program's and the model's FieldsOf. -/
import Derived.Test.YtnhmleelhopjmaaGf
import Derived.Test.YtnhmleelhopjmaaGe
namespace Go.Proofs.Ytnhmleelhopjmaa
open Go.RowKit Plain Sch

/-- what FieldsOf answers -/
def fof (T : List Ty) (k : Int) : List Nat × Bool := if gs T = true ∧ 0 ≤ k ∧ k < T.length then (kids T k.toNat, true) else ([], false)

theorem fof_no (T : List Ty) (k : Int) (h : ¬ (gs T = true ∧ 0 ≤ k ∧ k < T.length)) : fof T k = ([], false) := by unfold fof; rw [if_neg h]
theorem fof_yes (T : List Ty) (k : Nat) (h : gs T = true) (h2 : k < T.length) : fof T (k : Int) = (kids T k, true) := by unfold fof; rw [if_pos ⟨h, by omega, by omega⟩, Int.toNat_natCast]

def OFields (w w' : World) (e : Ending) (R : List Nat × Bool) : Prop := ∃ r, e = .returned (.tuple #[r, .bool R.2]) ∧ w'.ownsRow w.heap.size 3 1 r R.1.length (ints R.1) ∧ Below w.heap.size w w'

theorem own_lower {w : World} {B B' e size n : Nat} {v : Value} {xs : List Value} (h : w.ownsRow B e size v n xs) (hB : B' ≤ B) : w.ownsRow B' e size v n xs := by
  refine ⟨h.1, ?_⟩
  rcases h.2 with hn | ⟨g, cap, cur, hv, hg, rest⟩
  · exact .inl hn
  · exact .inr ⟨g, cap, cur, hv, by omega, rest⟩

set_option maxRecDepth 100000 in
set_option maxHeartbeats 4000000 in
theorem specFields (T : List Ty) (v : Value) (k : Int) (w : World) (hT : TysAt w w.heap.size v T) :
    Calls Try.prog 13 #[.agg #[v], .int .i64 k] w fun e w' => OFields w w' e (fof T k) := by
  have HT : Hid (TysAt w w.heap.size v T) := hT
  obtain ⟨R, hR⟩ : ∃ R, R = fof T k := ⟨_, rfl⟩
  rw [← hR]
  have HR : Hid (R = fof T k) := hR
  clear hR
  obtain ⟨ao, cap, rfl, hlc, hcm, _⟩ := hT
  have hcm' : (cap : Int) ≤ 9223372036854775807 := by unfold maxLen at hcm; omega
  have hlm : (T.length : Int) ≤ 9223372036854775807 := by omega
  have hB1 : Below w.heap.size w (w.alloc (.cells #[.slice ao T.length cap] 25)) := (Below.refl _ w).alloc (Nat.le_refl _) _
  have hT1 : Hid (TysAt (w.alloc (.cells #[.slice ao T.length cap] 25)) (w.alloc (.cells #[.slice ao T.length cap] 25)).heap.size (.slice ao T.length cap) T) := HT.out.below hB1
  go_enter Try.func13, Try.ntmps13
  go_wp2_with fail
  refine (specGood_any T _ _ hT1.out).mono ?_
  rintro e w2 ⟨rfl, hb2⟩
  have hB2 : Below w.heap.size w w2 := hB1.trans (hb2.mono (by simp))
  have hs2 : w.heap.size < w2.heap.size := by have := hb2.size; simp at this; omega
  have q2 : w2.cell? ⟨w.heap.size, 0, none⟩ = some (.slice ao T.length cap) := (hb2.cell (p := ⟨w.heap.size, 0, none⟩) (by simp)).trans (by simp)
  clear hb2 hT1
  by_cases hg : gs T = true
  · rw [hg]
    by_cases h0 : k < 0
    · have hn : Hid (R = ([], false)) := HR.out.trans (fof_no T k (fun h => by omega))
      clear hg
      go_wp2
      go_ret2
      rw [hn.out]
      exact ⟨_, rfl, World.ownsRow_nil _ _ _ _, hB2⟩
    · by_cases h1 : (T.length : Int) ≤ k
      · have hn : Hid (R = ([], false)) := HR.out.trans (fof_no T k (fun h => by omega))
        have h0' : decide (k < 0) = false := by simpa using h0
        clear hg h0
        go_wp2
        go_ret2
        rw [hn.out]
        exact ⟨_, rfl, World.ownsRow_nil _ _ _ _, hB2⟩
      · obtain ⟨n, rfl⟩ := Int.eq_ofNat_of_zero_le (show 0 ≤ k by omega)
        have hty := gs_types T hg
        have hn : Hid (R = (kids T n, true)) := HR.out.trans (fof_yes T n hg (by omega))
        have HG : Hid (gs T = true) := hg
        have h30 := hty.2.1
        clear hty hg h0
        have h1' : decide ((T.length : Int) ≤ (n : Int)) = false := by simpa using h1
        have HT2 : Hid (TysAt w2 w2.heap.size (.slice ao T.length cap) T) := HT.out.below hB2
        go_wp2_with fail
        refine (l2Kids_any T _ n _ HT2.out (by omega) (by omega)).mono ?_
        rintro e w3 ⟨r, rfl, hr, hb3⟩
        skip
        have HO : Hid (w3.ownsRow w.heap.size 3 1 r (kids T n).length (ints (kids T n))) := own_lower hr (by omega)
        clear hr
        go_wp2
        go_ret2
        rw [hn.out]
        exact ⟨r, rfl, HO.out, hB2.trans (hb3.mono hB2.size)⟩
  · have hg' : gs T = false := by simpa using hg
    have hn : Hid (R = ([], false)) := HR.out.trans (fof_no T k (fun h => hg h.1))
    rw [hg']
    clear hg hg'
    go_wp2
    go_ret2
    rw [hn.out]
    exact ⟨_, rfl, World.ownsRow_nil _ _ _ _, hB2⟩

set_option maxRecDepth 100000 in
set_option maxHeartbeats 4000000 in
theorem implFields (T : List Ty) (v : Value) (k : Int) (w : World) (hT : TysAt w w.heap.size v T) :
    Calls Try.prog 12 #[.agg #[v], .int .i64 k] w fun e w' => OFields w w' e (fof T k) := by
  have HT : Hid (TysAt w w.heap.size v T) := hT
  obtain ⟨R, hR⟩ : ∃ R, R = fof T k := ⟨_, rfl⟩
  rw [← hR]
  have HR : Hid (R = fof T k) := hR
  clear hR
  obtain ⟨ao, cap, rfl, hlc, hcm, _⟩ := hT
  have hcm' : (cap : Int) ≤ 9223372036854775807 := by unfold maxLen at hcm; omega
  have hlm : (T.length : Int) ≤ 9223372036854775807 := by omega
  have hB1 : Below w.heap.size w (w.alloc (.cells #[.slice ao T.length cap] 25)) := (Below.refl _ w).alloc (Nat.le_refl _) _
  have hT1 : Hid (TysAt (w.alloc (.cells #[.slice ao T.length cap] 25)) (w.alloc (.cells #[.slice ao T.length cap] 25)).heap.size (.slice ao T.length cap) T) := HT.out.below hB1
  go_enter Try.func12, Try.ntmps12
  go_wp2_with fail
  refine (implGoodT T _ _ hT1.out).mono ?_
  rintro e w2 ⟨rfl, hb2⟩
  have hB2 : Below w.heap.size w w2 := hB1.trans (hb2.mono (by simp))
  have hs2 : w.heap.size < w2.heap.size := by have := hb2.size; simp at this; omega
  have q2 : w2.cell? ⟨w.heap.size, 0, none⟩ = some (.slice ao T.length cap) := (hb2.cell (p := ⟨w.heap.size, 0, none⟩) (by simp)).trans (by simp)
  clear hb2 hT1
  by_cases hg : gs T = true
  · rw [hg]
    by_cases h0 : k < 0
    · have hn : Hid (R = ([], false)) := HR.out.trans (fof_no T k (fun h => by omega))
      clear hg
      go_wp2
      go_ret2
      rw [hn.out]
      exact ⟨_, rfl, World.ownsRow_nil _ _ _ _, hB2⟩
    · by_cases h1 : (T.length : Int) ≤ k
      · have hn : Hid (R = ([], false)) := HR.out.trans (fof_no T k (fun h => by omega))
        have h0' : decide (k < 0) = false := by simpa using h0
        clear hg h0
        go_wp2
        go_ret2
        rw [hn.out]
        exact ⟨_, rfl, World.ownsRow_nil _ _ _ _, hB2⟩
      · obtain ⟨n, rfl⟩ := Int.eq_ofNat_of_zero_le (show 0 ≤ k by omega)
        have hty := gs_types T hg
        have hn : Hid (R = (kids T n, true)) := HR.out.trans (fof_yes T n hg (by omega))
        have HG : Hid (gs T = true) := hg
        have h30 := hty.2.1
        clear hty hg h0
        have h1' : decide ((T.length : Int) ≤ (n : Int)) = false := by simpa using h1
        have HT2 : Hid (TysAt w2 w2.heap.size (.slice ao T.length cap) T) := HT.out.below hB2
        go_wp2_with fail
        refine (partsAt_any T _ n _ HT2.out (by omega) (by omega)).mono ?_
        rintro e w3 ⟨r, rfl, hr, hb3⟩
        rw [parts_kids T HG.out n] at hr
        have HO : Hid (w3.ownsRow w.heap.size 3 1 r (kids T n).length (ints (kids T n))) := own_lower hr (by omega)
        clear hr
        go_wp2
        go_ret2
        rw [hn.out]
        exact ⟨r, rfl, HO.out, hB2.trans (hb3.mono hB2.size)⟩
  · have hg' : gs T = false := by simpa using hg
    have hn : Hid (R = ([], false)) := HR.out.trans (fof_no T k (fun h => hg h.1))
    rw [hg']
    clear hg hg'
    go_wp2
    go_ret2
    rw [hn.out]
    exact ⟨_, rfl, World.ownsRow_nil _ _ _ _, hB2⟩

end Go.Proofs.Ytnhmleelhopjmaa
