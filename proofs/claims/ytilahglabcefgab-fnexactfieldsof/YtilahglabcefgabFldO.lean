/- The parts of a type: the program's and the model's FieldsOf. -/
import Derived.Test.YtilahglabcefgabSchQ
namespace Go.Proofs.Ytilahglabcefgab
open Go.RowKit Plain Sch

def partsTo (T : List Ty) (k i : Nat) : List Nat := (List.range i).filter fun i => decide ((ty T i).up = (k : Int))

theorem partsTo_yes (T : List Ty) (k i : Nat) (h : (ty T i).up = (k : Int)) : partsTo T k (i + 1) = partsTo T k i ++ [i] := by
  unfold partsTo
  rw [List.range_succ, List.filter_append]
  simp [h]

theorem partsTo_no (T : List Ty) (k i : Nat) (h : ¬ (ty T i).up = (k : Int)) : partsTo T k (i + 1) = partsTo T k i := by
  unfold partsTo
  rw [List.range_succ, List.filter_append]
  simp [h]

theorem partsTo_len (T : List Ty) (k i : Nat) : (partsTo T k i).length ≤ i := by
  unfold partsTo
  refine Nat.le_trans (List.length_filter_le _ _) ?_
  simp

/-- of a good schema the parts lie behind their type -/
theorem parts_kids (T : List Ty) (h : gs T = true) (k : Nat) : partsTo T k T.length = kids T k := by
  unfold partsTo kids
  apply List.filter_congr
  intro x hx
  have hx' := List.mem_range.1 hx
  have hu := gs_ups T h
  by_cases he : (ty T x).up = (k : Int)
  · have : k < x := by
      by_cases h0 : x = 0
      · subst h0; have := hu.1; omega
      · have := hu.2 x (by omega) hx'; omega
    simp [he, this]
  · simp [he]

set_option maxRecDepth 100000 in
set_option maxHeartbeats 4000000 in
theorem partsAt_any (T : List Ty) (v : Value) (k : Nat) (w : World) (hT : TysAt w w.heap.size v T) (hk : k < T.length) (hl : T.length ≤ 2097152) :
    Calls Try.prog 39 #[v, .int .i64 k] w fun e w' => ∃ r, e = .returned r ∧ w'.ownsRow w.heap.size 3 1 r (partsTo T k T.length).length (ints (partsTo T k T.length)) ∧ Below w.heap.size w w' := by
  obtain ⟨i0, hi, hz0, hz1, hz2⟩ := info_parts Try.infoInt
  obtain ⟨g, o, cap, rfl, hlc, hcm, hg, hrow, _⟩ := hT.open (by omega)
  clear hT
  have hcm' : cap ≤ 9223372036854775807 := by unfold maxLen at hcm; omega
  go_enter Try.func39, Try.ntmps39
  go_wp2
  go_loopw [5, 10] (fun vl vi wr => ∃ (i : Nat), i ≤ T.length ∧ vi = .int .i64 (i : Int) ∧ wr.ownsRow w.heap.size 3 1 vl (partsTo T k i).length (ints (partsTo T k i)) ∧ Below w.heap.size w wr)
    (fun _ vi _ => T.length - (intOf vi).toNat)
  case atStart => exact ⟨0, by omega, by go_num, World.ownsRow_nil _ _ _ _, Below.refl _ _⟩
  case round =>
    obtain ⟨i, hil, rfl, hown, hbw⟩ := hrel
    have hkl := partsTo_len T k i
    by_cases hlt : i < T.length
    · have hlt' : (i : Int) < (T.length : Int) := by omega
      have hsz : g < wr.heap.size := by have := hbw.size; omega
      have hci := (hrow i hlt).below hbw hg
      obtain ⟨ti, hti⟩ : ∃ t, ty T i = t := ⟨_, rfl⟩
      have HTI : Hid (ty T i = ti) := hti
      rw [hti] at hci
      clear hti hrow
      obtain ⟨kind, name, no, must, up, most⟩ := ti
      obtain ⟨c0, c1, c2, c3, c4, c5⟩ := hci
      dsimp only at c0 c1 c2 c3 c4 c5
      by_cases hup : up = (k : Int)
      · have HK : Hid (partsTo T k (i + 1) = partsTo T k i ++ [i]) := partsTo_yes T k i (by rw [HTI.out]; exact hup)
        subst hup
        generalize partsTo T k i = ks at hown hkl HK
        go_wp2_with (at_builtin; refine wpList_append_own _ rfl _ _ 33 rfl w.heap.size 3 i0 (.int .i64 0) 1 8 Try.underlying33 hi hz0 hz1 hz2 rfl (by decide) _ _ _ rfl ((hown.alloc _).alloc _) ⟨wr.heap.size + 1, 0, none⟩ 1 1 [Value.int .i64 (i : Int)] rfl rfl ?c1 ?c2 ?c3 ?c4 ?c5 ?_)
        case c1 =>
          intro j u hj
          match j, hj with
          | 0, hj => simp at hj; subst hj; simp [Addr.add]
          | j + 1, hj => simp at hj
        case c2 => intro u hu; simp at hu; subst hu; rfl
        case c3 => unfold maxLen; omega
        case c4 => omega
        case c5 => have := hbw.size; simp; omega
        intro v' w1 hown' hgrow _
        have hlt9 := hown.lt
        have hs9 := hbw.size
        have hbw1 : Below w.heap.size w w1 := ((hbw.alloc hbw.size _).alloc (by simp; omega) _).grown hgrow (by simp; omega) (fun k hk => (hlt9 k hk).1)
        have hown1 : w1.ownsRow w.heap.size 3 1 v' (ks ++ [i]).length (ints (ks ++ [i])) := by
          unfold ints
          rw [List.map_append, List.length_append, List.length_singleton]
          simpa [ints] using hown'
        clear hgrow hown' hlt9 hown hbw
        go_wp2
        go_roundw
        case rel => exact ⟨i + 1, by omega, by go_num, by rw [HK.out]; exact hown1, hbw1⟩
        case measure => simp [intOf]; omega
      · have HK : Hid (partsTo T k (i + 1) = partsTo T k i) := partsTo_no T k i (by rw [HTI.out]; exact hup)
        have hup' : (up == (k : Int)) = false := by simpa using hup
        clear hup
        generalize partsTo T k i = ks at hown hkl HK
        go_wp2
        go_roundw
        case rel => exact ⟨i + 1, by omega, by go_num, by rw [HK.out]; exact hown.alloc _, hbw.alloc hbw.size _⟩
        case measure => simp [intOf]; omega
    · have hke : i = T.length := by omega
      subst hke
      have hge : ¬ ((T.length : Int) < (T.length : Int)) := by omega
      go_wp2
      go_ret
      exact ⟨_, rfl, hown, hbw⟩

/-- what FieldsOf answers -/
def fof (T : List Ty) (k : Int) : List Nat × Bool := if gs T = true ∧ 0 ≤ k ∧ k < T.length then (kids T k.toNat, true) else ([], false)

theorem fof_no (T : List Ty) (k : Int) (h : ¬ (gs T = true ∧ 0 ≤ k ∧ k < T.length)) : fof T k = ([], false) := by unfold fof; rw [if_neg h]
theorem fof_yes (T : List Ty) (k : Nat) (h : gs T = true) (h2 : k < T.length) : fof T (k : Int) = (kids T k, true) := by unfold fof; rw [if_pos ⟨h, by omega, by omega⟩, Int.toNat_natCast]

def OFields (w w' : World) (e : Ending) (R : List Nat × Bool) : Prop := ∃ r, e = .returned (.tuple #[r, .bool R.2]) ∧ w'.ownsRow w.heap.size 3 1 r R.1.length (ints R.1) ∧ Below w.heap.size w w'

theorem own_lower {w : World} {B B' e size n : Nat} {v : Value} {xs : List Value} (h : w.ownsRow B e size v n xs) (hB : B' ≤ B) : w.ownsRow B' e size v n xs := by
  refine ⟨h.1, ?_⟩
  rcases h.2 with hn | ⟨g, cap, cur, hv, hg, rest⟩
  · exact .inl hn
  · exact .inr ⟨g, cap, cur, hv, by omega, rest⟩

set_option maxRecDepth 100000 in
set_option maxHeartbeats 4000000 in
theorem specFields (T : List Ty) (v : Value) (k : Int) (w : World) (hT : TysAt w w.heap.size v T) :
    Calls Try.prog 14 #[.agg #[v], .int .i64 k] w fun e w' => OFields w w' e (fof T k) := by
  have HT : Hid (TysAt w w.heap.size v T) := hT
  obtain ⟨R, hR⟩ : ∃ R, R = fof T k := ⟨_, rfl⟩
  rw [← hR]
  have HR : Hid (R = fof T k) := hR
  clear hR
  obtain ⟨ao, cap, rfl, hlc, hcm, _⟩ := hT
  have hcm' : (cap : Int) ≤ 9223372036854775807 := by unfold maxLen at hcm; omega
  have hlm : (T.length : Int) ≤ 9223372036854775807 := by omega
  have hB1 : Below w.heap.size w (w.alloc (.cells #[.slice ao T.length cap] 29)) := (Below.refl _ w).alloc (Nat.le_refl _) _
  have hT1 : Hid (TysAt (w.alloc (.cells #[.slice ao T.length cap] 29)) (w.alloc (.cells #[.slice ao T.length cap] 29)).heap.size (.slice ao T.length cap) T) := HT.out.below hB1
  go_enter Try.func14, Try.ntmps14
  go_wp2_with fail
  refine (specGood_any T _ _ hT1.out).mono ?_
  rintro e w2 ⟨rfl, hb2⟩
  have hB2 : Below w.heap.size w w2 := hB1.trans (hb2.mono (by simp))
  have hs2 : w.heap.size < w2.heap.size := by have := hb2.size; simp at this; omega
  have q2 : w2.cell? ⟨w.heap.size, 0, none⟩ = some (.slice ao T.length cap) := (hb2.cell (p := ⟨w.heap.size, 0, none⟩) (by simp)).trans (by simp)
  clear hb2 hT1
  by_cases hg : gs T = true
  · rw [hg]
    by_cases h0 : k < 0
    · have hn : Hid (R = ([], false)) := HR.out.trans (fof_no T k (fun h => by omega))
      clear hg
      go_wp2
      go_ret2
      rw [hn.out]
      exact ⟨_, rfl, World.ownsRow_nil _ _ _ _, hB2⟩
    · by_cases h1 : (T.length : Int) ≤ k
      · have hn : Hid (R = ([], false)) := HR.out.trans (fof_no T k (fun h => by omega))
        have h0' : decide (k < 0) = false := by simpa using h0
        clear hg h0
        go_wp2
        go_ret2
        rw [hn.out]
        exact ⟨_, rfl, World.ownsRow_nil _ _ _ _, hB2⟩
      · obtain ⟨n, rfl⟩ := Int.eq_ofNat_of_zero_le (show 0 ≤ k by omega)
        have hty := gs_types T hg
        have hn : Hid (R = (kids T n, true)) := HR.out.trans (fof_yes T n hg (by omega))
        have HG : Hid (gs T = true) := hg
        have h30 := hty.2.1
        clear hty hg h0
        have h1' : decide ((T.length : Int) ≤ (n : Int)) = false := by simpa using h1
        have HT2 : Hid (TysAt w2 w2.heap.size (.slice ao T.length cap) T) := HT.out.below hB2
        go_wp2_with fail
        refine (l2Kids_any T _ n _ HT2.out (by omega) (by omega)).mono ?_
        rintro e w3 ⟨r, rfl, hr, hb3⟩
        skip
        have HO : Hid (w3.ownsRow w.heap.size 3 1 r (kids T n).length (ints (kids T n))) := own_lower hr (by omega)
        clear hr
        go_wp2
        go_ret2
        rw [hn.out]
        exact ⟨r, rfl, HO.out, hB2.trans (hb3.mono hB2.size)⟩
  · have hg' : gs T = false := by simpa using hg
    have hn : Hid (R = ([], false)) := HR.out.trans (fof_no T k (fun h => hg h.1))
    rw [hg']
    clear hg hg'
    go_wp2
    go_ret2
    rw [hn.out]
    exact ⟨_, rfl, World.ownsRow_nil _ _ _ _, hB2⟩

set_option maxRecDepth 100000 in
set_option maxHeartbeats 4000000 in
theorem implFields (T : List Ty) (v : Value) (k : Int) (w : World) (hT : TysAt w w.heap.size v T) :
    Calls Try.prog 15 #[.agg #[v], .int .i64 k] w fun e w' => OFields w w' e (fof T k) := by
  have HT : Hid (TysAt w w.heap.size v T) := hT
  obtain ⟨R, hR⟩ : ∃ R, R = fof T k := ⟨_, rfl⟩
  rw [← hR]
  have HR : Hid (R = fof T k) := hR
  clear hR
  obtain ⟨ao, cap, rfl, hlc, hcm, _⟩ := hT
  have hcm' : (cap : Int) ≤ 9223372036854775807 := by unfold maxLen at hcm; omega
  have hlm : (T.length : Int) ≤ 9223372036854775807 := by omega
  have hB1 : Below w.heap.size w (w.alloc (.cells #[.slice ao T.length cap] 29)) := (Below.refl _ w).alloc (Nat.le_refl _) _
  have hT1 : Hid (TysAt (w.alloc (.cells #[.slice ao T.length cap] 29)) (w.alloc (.cells #[.slice ao T.length cap] 29)).heap.size (.slice ao T.length cap) T) := HT.out.below hB1
  go_enter Try.func15, Try.ntmps15
  go_wp2_with fail
  refine (implGoodT T _ _ hT1.out).mono ?_
  rintro e w2 ⟨rfl, hb2⟩
  have hB2 : Below w.heap.size w w2 := hB1.trans (hb2.mono (by simp))
  have hs2 : w.heap.size < w2.heap.size := by have := hb2.size; simp at this; omega
  have q2 : w2.cell? ⟨w.heap.size, 0, none⟩ = some (.slice ao T.length cap) := (hb2.cell (p := ⟨w.heap.size, 0, none⟩) (by simp)).trans (by simp)
  clear hb2 hT1
  by_cases hg : gs T = true
  · rw [hg]
    by_cases h0 : k < 0
    · have hn : Hid (R = ([], false)) := HR.out.trans (fof_no T k (fun h => by omega))
      clear hg
      go_wp2
      go_ret2
      rw [hn.out]
      exact ⟨_, rfl, World.ownsRow_nil _ _ _ _, hB2⟩
    · by_cases h1 : (T.length : Int) ≤ k
      · have hn : Hid (R = ([], false)) := HR.out.trans (fof_no T k (fun h => by omega))
        have h0' : decide (k < 0) = false := by simpa using h0
        clear hg h0
        go_wp2
        go_ret2
        rw [hn.out]
        exact ⟨_, rfl, World.ownsRow_nil _ _ _ _, hB2⟩
      · obtain ⟨n, rfl⟩ := Int.eq_ofNat_of_zero_le (show 0 ≤ k by omega)
        have hty := gs_types T hg
        have hn : Hid (R = (kids T n, true)) := HR.out.trans (fof_yes T n hg (by omega))
        have HG : Hid (gs T = true) := hg
        have h30 := hty.2.1
        clear hty hg h0
        have h1' : decide ((T.length : Int) ≤ (n : Int)) = false := by simpa using h1
        have HT2 : Hid (TysAt w2 w2.heap.size (.slice ao T.length cap) T) := HT.out.below hB2
        go_wp2_with fail
        refine (partsAt_any T _ n _ HT2.out (by omega) (by omega)).mono ?_
        rintro e w3 ⟨r, rfl, hr, hb3⟩
        rw [parts_kids T HG.out n] at hr
        have HO : Hid (w3.ownsRow w.heap.size 3 1 r (kids T n).length (ints (kids T n))) := own_lower hr (by omega)
        clear hr
        go_wp2
        go_ret2
        rw [hn.out]
        exact ⟨r, rfl, HO.out, hB2.trans (hb3.mono hB2.size)⟩
  · have hg' : gs T = false := by simpa using hg
    have hn : Hid (R = ([], false)) := HR.out.trans (fof_no T k (fun h => hg h.1))
    rw [hg']
    clear hg hg'
    go_wp2
    go_ret2
    rw [hn.out]
    exact ⟨_, rfl, World.ownsRow_nil _ _ _ _, hB2⟩

end Go.Proofs.Ytilahglabcefgab
