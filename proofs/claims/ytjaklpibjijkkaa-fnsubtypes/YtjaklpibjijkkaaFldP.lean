/- The parts of a type: the program's partsAt. -/
import Derived.Test.YtjaklpibjijkkaaSchK
import Derived.Test.YtjaklpibjijkkaaFltB
namespace Go.Proofs.Ytjaklpibjijkkaa
open Go.RowKit Plain Sch

def partsTo (T : List Ty) (k i : Nat) : List Nat := (List.range i).filter fun i => decide ((ty T i).up = (k : Int))

theorem partsTo_yes (T : List Ty) (k i : Nat) (h : (ty T i).up = (k : Int)) : partsTo T k (i + 1) = partsTo T k i ++ [i] := by
  unfold partsTo
  rw [List.range_succ, List.filter_append]
  simp [h]

theorem partsTo_no (T : List Ty) (k i : Nat) (h : ¬ (ty T i).up = (k : Int)) : partsTo T k (i + 1) = partsTo T k i := by
  unfold partsTo
  rw [List.range_succ, List.filter_append]
  simp [h]

theorem partsTo_len (T : List Ty) (k i : Nat) : (partsTo T k i).length ≤ i := by
  unfold partsTo
  refine Nat.le_trans (List.length_filter_le _ _) ?_
  simp

/-- of a good schema the parts lie behind their type -/
theorem parts_kids (T : List Ty) (h : gs T = true) (k : Nat) : partsTo T k T.length = kids T k := by
  unfold partsTo kids
  apply List.filter_congr
  intro x hx
  have hx' := List.mem_range.1 hx
  have hu := ups_of T (by have := (gs_parts T h).1; omega) (gs_parts T h).2.2.1
  by_cases he : (ty T x).up = (k : Int)
  · have : k < x := by
      by_cases h0 : x = 0
      · subst h0; have := hu.1; omega
      · have := hu.2 x (by omega) hx'; omega
    simp [he, this]
  · simp [he]

set_option maxRecDepth 100000 in
set_option maxHeartbeats 4000000 in
theorem partsAt_any (T : List Ty) (v : Value) (k : Nat) (w : World) (hT : TysAt w w.heap.size v T) (hk : k < T.length) (hl : T.length ≤ 2097152) :
    Calls Try.prog 59 #[v, .int .i64 k] w fun e w' => ∃ r, e = .returned r ∧ w'.ownsRow w.heap.size 3 1 r (partsTo T k T.length).length (ints (partsTo T k T.length)) ∧ Below w.heap.size w w' := by
  obtain ⟨i0, hi, hz0, hz1, hz2⟩ := info_parts Try.infoInt
  obtain ⟨g, o, cap, rfl, hlc, hcm, hg, hrow, _⟩ := hT.open (by omega)
  clear hT
  have hcm' : cap ≤ 9223372036854775807 := by unfold maxLen at hcm; omega
  go_enter Try.func59, Try.ntmps59
  go_wp2
  go_loopw [5, 10] (fun vl vi wr => ∃ (i : Nat), i ≤ T.length ∧ vi = .int .i64 (i : Int) ∧ wr.ownsRow w.heap.size 3 1 vl (partsTo T k i).length (ints (partsTo T k i)) ∧ Below w.heap.size w wr)
    (fun _ vi _ => T.length - (intOf vi).toNat)
  case atStart => exact ⟨0, by omega, by go_num, World.ownsRow_nil _ _ _ _, Below.refl _ _⟩
  case round =>
    obtain ⟨i, hil, rfl, hown, hbw⟩ := hrel
    have hkl := partsTo_len T k i
    by_cases hlt : i < T.length
    · have hlt' : (i : Int) < (T.length : Int) := by omega
      have hsz : g < wr.heap.size := by have := hbw.size; omega
      have hci := (hrow i hlt).below hbw hg
      obtain ⟨ti, hti⟩ : ∃ t, ty T i = t := ⟨_, rfl⟩
      have HTI : Hid (ty T i = ti) := hti
      rw [hti] at hci
      clear hti hrow
      obtain ⟨kind, name, no, must, up, most⟩ := ti
      obtain ⟨c0, c1, c2, c3, c4, c5⟩ := hci
      dsimp only at c0 c1 c2 c3 c4 c5
      by_cases hup : up = (k : Int)
      · have HK : Hid (partsTo T k (i + 1) = partsTo T k i ++ [i]) := partsTo_yes T k i (by rw [HTI.out]; exact hup)
        subst hup
        generalize partsTo T k i = ks at hown hkl HK
        go_wp2_with (at_builtin; refine wpList_append_own _ rfl _ _ 45 rfl w.heap.size 3 i0 (.int .i64 0) 1 8 Try.underlying45 hi hz0 hz1 hz2 rfl (by decide) _ _ _ rfl ((hown.alloc _).alloc _) ⟨wr.heap.size + 1, 0, none⟩ 1 1 [Value.int .i64 (i : Int)] rfl rfl ?c1 ?c2 ?c3 ?c4 ?c5 ?_)
        case c1 =>
          intro j u hj
          match j, hj with
          | 0, hj => simp at hj; subst hj; simp [Addr.add]
          | j + 1, hj => simp at hj
        case c2 => intro u hu; simp at hu; subst hu; rfl
        case c3 => unfold maxLen; omega
        case c4 => omega
        case c5 => have := hbw.size; simp; omega
        intro v' w1 hown' hgrow _
        have hlt9 := hown.lt
        have hs9 := hbw.size
        have hbw1 : Below w.heap.size w w1 := ((hbw.alloc hbw.size _).alloc (by simp; omega) _).grown hgrow (by simp; omega) (fun k hk => (hlt9 k hk).1)
        have hown1 : w1.ownsRow w.heap.size 3 1 v' (ks ++ [i]).length (ints (ks ++ [i])) := by
          unfold ints
          rw [List.map_append, List.length_append, List.length_singleton]
          simpa [ints] using hown'
        clear hgrow hown' hlt9 hown hbw
        go_wp2
        go_roundw
        case rel => exact ⟨i + 1, by omega, by go_num, by rw [HK.out]; exact hown1, hbw1⟩
        case measure => simp [intOf]; omega
      · have HK : Hid (partsTo T k (i + 1) = partsTo T k i) := partsTo_no T k i (by rw [HTI.out]; exact hup)
        have hup' : (up == (k : Int)) = false := by simpa using hup
        clear hup
        generalize partsTo T k i = ks at hown hkl HK
        go_wp2
        go_roundw
        case rel => exact ⟨i + 1, by omega, by go_num, by rw [HK.out]; exact hown.alloc _, hbw.alloc hbw.size _⟩
        case measure => simp [intOf]; omega
    · have hke : i = T.length := by omega
      subst hke
      have hge : ¬ ((T.length : Int) < (T.length : Int)) := by omega
      go_wp2
      go_ret
      exact ⟨_, rfl, hown, hbw⟩


end Go.Proofs.Ytjaklpibjijkkaa
