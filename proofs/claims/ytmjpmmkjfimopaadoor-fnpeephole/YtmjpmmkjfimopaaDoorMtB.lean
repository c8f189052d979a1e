/- Fields that rise, read by the program and by the model; the field with a No. -/
import Derived.Test.YtmjpmmkjfimopaaDoorHc
import Derived.Test.YtmjpmmkjfimopaaDoorRdE
import Derived.Test.YtmjpmmkjfimopaaDoorRdB
import Derived.Test.YtmjpmmkjfimopaaDoorWfA
namespace Go.Proofs.YtmjpmmkjfimopaaDoor
open Go.RowKit Plain Sch Wan

theorem rfs_lenM (s : ByteArray) : ∀ (f a : Nat) (l : List Fld), l.length ≤ 40 → (rfs s f a l).1.length ≤ 40 := by
  intro f
  induction f with
  | zero => intro a l _; simp [rfs]
  | succ f ih =>
    intro a l hl
    rw [rfs]
    split
    · split
      · simp
      · split
        · simp
        · exact ih _ _ (by simp; omega)
    · exact hl

theorem rf_lenM (s : ByteArray) : (rf s).1.length ≤ 40 := by
  unfold rf
  split
  · exact rfs_lenM s _ _ _ (by simp)
  · simp

theorem rr_lenM (s : ByteArray) : (rr s).1.length ≤ 40 := by
  unfold rr
  split
  · exact rf_lenM s
  · simp

set_option maxRecDepth 100000 in
set_option maxHeartbeats 1000000 in
theorem specReadM (s : ByteArray) (w : World) (hsm : s.size ≤ maxLen) :
    Calls Tryd.prog 59 #[.string s] w fun e w' => ∃ v, e = .returned (.tuple #[v, .bool (rf s).2]) ∧ w'.ownsRow w.heap.size 88 4 v (rf s).1.length ((rf s).1.flatMap Fld.cells) ∧ Below w.heap.size w w' := by
  unfold maxLen at hsm
  by_cases hs : s.size ≤ 400
  · have hs' : (s.size : Int) ≤ 400 := by omega
    go_enter Tryd.func59, Tryd.ntmps59
    go_wp2_with fail
    refine (l1Read_any s _ hs).mono ?_
    rintro e w1 ⟨v, rfl, hown, hb⟩
    go_wp2
    go_ret2
    exact ⟨v, rfl, hown, hb⟩
  · have hr : rf s = ([], false) := by unfold rf; rw [if_neg hs]
    rw [hr]
    have hs' : 400 < (s.size : Int) := by omega
    clear hs hr
    go_enter Tryd.func59, Tryd.ntmps59
    go_wp2
    go_ret2
    exact ⟨_, rfl, World.ownsRow_nil _ _ _ _, Below.refl _ _⟩

/-- fields and a bool told: where they lie -/
def OFs (w w' : World) (e : Ending) (R : List Fld × Bool) : Prop := ∃ v, e = .returned (.tuple #[v, .bool R.2]) ∧ FldsAt w' w'.heap.size v R.1 ∧ Below w.heap.size w w'

set_option maxRecDepth 100000 in
set_option maxHeartbeats 4000000 in
theorem readRising_any (s : ByteArray) (w : World) (hsm : s.size ≤ maxLen) (hk : KR w) :
    Calls Tryd.prog 26 #[.string s] w fun e w' => OFs w w' e (rr s) := by
  obtain ⟨R, hR⟩ : ∃ R, R = rr s := ⟨_, rfl⟩
  rw [← hR]
  have HR : Hid (R = if (rf s).2 && riseF (rf s).1 then ((rf s).1, true) else ([], false)) := hR
  have hlen := rf_lenM s
  have CI : Hid (Calls Tryd.prog 49 #[.string s] w fun e w' => ∃ v, e = .returned (.tuple #[v, .bool (rf s).2]) ∧ w'.ownsRow w.heap.size 88 4 v (rf s).1.length ((rf s).1.flatMap Fld.cells) ∧ Below w.heap.size w w') := implRead_any s w hsm hk
  clear hR
  generalize rf s = F at CI HR hlen
  obtain ⟨l, ok⟩ := F
  dsimp only at CI hlen
  have HR2 : Hid (R = if ok && riseF l then (l, true) else ([], false)) := HR
  clear HR hk hsm
  unfold OFs
  go_enter Tryd.func26, Tryd.ntmps26
  go_wp2_with fail
  refine CI.out.mono ?_
  rintro e w1 ⟨v, rfl, hown, hb⟩
  have hF : FldsAt w1 w1.heap.size v l := FldsAt.own hown (by unfold maxLen; omega)
  have HF : Hid (FldsAt w1 w1.heap.size v l) := hF
  obtain ⟨ao, cap, rfl, _, hrow⟩ := hF
  have HROW : Hid (∀ i f, l[i]? = some f → ∃ g o, ao = some ⟨g, o, none⟩ ∧ g < w1.heap.size ∧ w1.cell? ⟨g, o + i * 4, none⟩ = some (.int .i64 f.no)) := fun i f h => by
    obtain ⟨g, o, h1, h2, h3, _⟩ := hrow i f h
    exact ⟨g, o, h1, h2, h3⟩
  clear hown hrow CI
  cases ok with
  | false =>
    have hn : Hid (R = ([], false)) := HR2.out
    clear HR2
    go_wp2
    go_ret2
    exact ⟨_, by rw [hn.out]; rfl, by rw [hn.out]; exact ⟨none, 0, rfl, by simp, fun i f h => by simp at h⟩, hb⟩
  | true =>
    have hn0 : Hid (R = if riseF l then (l, true) else ([], false)) := HR2.out
    clear HR2
    go_wp2
    go_loopw [6] (fun vi wr => ∃ i : Nat, 1 ≤ i ∧ (i ≤ l.length ∨ i = 1) ∧ vi = .int .i64 (i : Int) ∧ Hid (∀ j x z, j + 1 < i → l[j]? = some z → l[j + 1]? = some x → z.no < x.no) ∧ Hid (∃ n, wr = w1.drewN n))
      (fun vi _ => 50 - (intOf vi).toNat)
    case atStart => exact ⟨1, by omega, .inr rfl, rfl, fun j x z hj => by omega, ⟨0, rfl⟩⟩
    case round =>
      obtain ⟨i, hi1, hil, rfl, hall, hw⟩ := hrel
      obtain ⟨nd, rfl⟩ := hw.out
      clear hw
      by_cases hlt : i < l.length
      · have hlt' : (i : Int) < (l.length : Int) := by omega
        obtain ⟨x, hx⟩ : ∃ x, l[i]? = some x := ⟨_, List.getElem?_eq_getElem hlt⟩
        obtain ⟨z, hz⟩ : ∃ z, l[i - 1]? = some z := ⟨_, List.getElem?_eq_getElem (by omega)⟩
        obtain ⟨g, o, rfl, hg, cx⟩ := HROW.out i x hx
        obtain ⟨g', o', hao, _, cz⟩ := HROW.out (i - 1) z hz
        simp only [Option.some.injEq, Addr.mk.injEq, and_true] at hao
        obtain ⟨rfl, rfl⟩ := hao
        obtain ⟨j, rfl⟩ : ∃ j, i = j + 1 := ⟨i - 1, by omega⟩
        rw [show j + 1 - 1 = j by omega] at cz hz
        have hj1 : ((j + 1 : Nat) : Int) - 1 = (j : Int) := by omega
        have hjl : (j : Int) < (l.length : Int) := by omega
        have hj0 : (0 : Int) ≤ (j : Int) := by omega
        by_cases hge : x.no ≤ z.no
        · have hn : Hid (R = ([], false)) := by show R = _; rw [hn0.out, rise_noF hz hx hge]; rfl
          generalize x.no = xn at *
          generalize z.no = zn at *
          clear hn0 hall hx hz
          go_wp2_with fail
          go_quiet (fail)
          go_wp2
          go_ret2
          exact ⟨_, by rw [hn.out]; rfl, by rw [hn.out]; exact ⟨none, 0, rfl, by simp, fun i f h => by simp at h⟩, by first | exact below_drewN hb | exact below_drewN (below_drewN hb)⟩
        · have hall2 : Hid (∀ q x' z', q + 1 < j + 1 + 1 → l[q]? = some z' → l[q + 1]? = some x' → z'.no < x'.no) := fun q x' z' hq h1 h2 => by
            by_cases e : q = j
            · subst e
              rw [hz] at h1; rw [hx] at h2
              cases h1; cases h2
              omega
            · exact hall.out q x' z' (by omega) h1 h2
          have hge2 : ¬ x.no ≤ z.no := hge
          generalize x.no = xn at *
          generalize z.no = zn at *
          clear hall hx hz hge
          go_wp2_with fail
          go_quiet (fail)
          go_wp2
          go_roundw
          case rel => exact ⟨j + 1 + 1, by omega, .inl (by omega), by go_num, hall2, ⟨_, rfl⟩⟩
          case measure => simp [intOf]; omega
      · have hge : ¬ ((i : Int) < (l.length : Int)) := by omega
        have hn : Hid (R = (l, true)) := by
          show R = _
          rw [hn0.out, (rise_iffF l).2 (fun j x z hz hx => hall.out j x z (by have := (List.getElem?_eq_some_iff.1 hx).1; omega) hz hx)]; rfl
        clear hn0 hall
        go_wp2
        go_ret2
        exact ⟨_, by rw [hn.out]; rfl, by rw [hn.out]; exact HF.out.below (below_drewN (Below.refl _ _)), below_drewN hb⟩

end Go.Proofs.YtmjpmmkjfimopaaDoor
