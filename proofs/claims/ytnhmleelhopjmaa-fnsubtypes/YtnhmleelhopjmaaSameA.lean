/- The law's own comparisons, where both sides are the same. -/
import Derived.Test.YtnhmleelhopjmaaFldO
import Derived.Test.YtnhmleelhopjmaaGq
import Derived.Deep.QuietTactic
import Derived.BigQuiet
import Derived.Deep.DeepCutAuto
namespace Go.Proofs.Ytnhmleelhopjmaa
open Go.RowKit Plain Sch

set_option maxRecDepth 100000 in
set_option maxHeartbeats 4000000 in
theorem sameSchemas_same (T : List Ty) (v1 v2 : Value) (w : World) (h1 : TysAt w w.heap.size v1 T) (h2 : TysAt w w.heap.size v2 T) (hl : T.length ≤ 2097152) :
    Calls Try.prog 16 #[.agg #[v1], .agg #[v2]] w fun e w' => e = .returned (.bool true) ∧ Below w.heap.size w w' := by
  obtain ⟨ao, cap, rfl, _, hmax, hrow, _⟩ := h1
  obtain ⟨ao2, cap2, rfl, _, _, hrow2, _⟩ := h2
  have HROW : Hid (∀ i, i < T.length → ∃ g o, ao = some ⟨g, o, none⟩ ∧ g < w.heap.size ∧ TyIn w g (o + i * 6) (ty T i)) := hrow
  have HROW2 : Hid (∀ i, i < T.length → ∃ g o, ao2 = some ⟨g, o, none⟩ ∧ g < w.heap.size ∧ TyIn w g (o + i * 6) (ty T i)) := hrow2
  clear hrow hrow2
  obtain ⟨W2, hW2⟩ : ∃ W, W = (w.alloc (.cells #[.slice ao T.length cap] 25)).alloc (.cells #[.slice ao2 T.length cap2] 25) := ⟨_, rfl⟩
  have hB2 : Below w.heap.size w W2 := by rw [hW2]; exact ((Below.refl _ w).alloc (Nat.le_refl _) _).alloc (by simp) _
  have HS2 : Hid (W2.heap.size = w.heap.size + 2) := by show _ = _; rw [hW2]; simp
  have y2 : W2.cell? ⟨w.heap.size, 0, none⟩ = some (.slice ao T.length cap) ∧ W2.cell? ⟨w.heap.size + 1, 0, none⟩ = some (.slice ao2 T.length cap2) := by rw [hW2]; exact ⟨by go_simp, by go_simp⟩
  have hq1 := y2.1
  have hq2 := y2.2
  have hne : ((T.length : Int) != (T.length : Int)) = false := by simp
  have hz0 : w.heap.size < W2.heap.size := by have := HS2.out; omega
  have hz1 : w.heap.size + 1 < W2.heap.size := by have := HS2.out; omega
  go_enter Try.func16, Try.ntmps16
  go_upto_region 1 with fail
  rw [← hW2]
  clear hW2
  go_wp2
  go_loopw [16] (fun vi wr => ∃ k : Nat, k ≤ T.length ∧ vi = .int .i64 (k : Int) ∧ Below W2.heap.size W2 wr)
    (fun vi _ => T.length - (intOf vi).toNat)
  case atStart => exact ⟨0, by omega, rfl, Below.refl _ _⟩
  case round =>
    obtain ⟨k, hk, rfl, hbw⟩ := hrel
    have c1 := (hbw.cell (p := ⟨w.heap.size, 0, none⟩) (by show w.heap.size < _; omega)).trans hq1
    have c2 := (hbw.cell (p := ⟨w.heap.size + 1, 0, none⟩) (by show w.heap.size + 1 < _; omega)).trans hq2
    have hbw0 : Below w.heap.size w wr := hB2.trans (hbw.mono hB2.size)
    clear hq1 hq2 y2
    by_cases hlt : k < T.length
    · obtain ⟨g, o, rfl, hgB, hy1⟩ := HROW.out k hlt
      obtain ⟨g2, o2, rfl, hgB2, hy2⟩ := HROW2.out k hlt
      have e1 := hy1.below hbw0 hgB
      have e2 := hy2.below hbw0 hgB2
      clear hy1 hy2
      obtain ⟨ti, hti⟩ : ∃ t, ty T k = t := ⟨_, rfl⟩
      rw [hti] at e1 e2
      clear hti
      obtain ⟨kind, name, no, must, up, most⟩ := ti
      obtain ⟨a0, a1, a2, a3, a4, a5⟩ := e1
      obtain ⟨x0, x1, x2, x3, x4, x5⟩ := e2
      dsimp only at a0 a1 a2 a3 a4 a5 x0 x1 x2 x3 x4 x5
      have hlt' : (k : Int) < (T.length : Int) := by omega
      go_wp2
      go_quiet (fail)
      go_wp2
      go_roundw
      case rel => exact ⟨k + 1, by omega, by go_num, below_drewN hbw⟩
      case measure => simp [intOf]; omega
    · have hke : k = T.length := by omega
      subst hke
      have hge : ¬ ((T.length : Int) < (T.length : Int)) := by omega
      go_wp2
      go_ret
      exact ⟨rfl, hbw0⟩

/-- numbers in memory -/
def IntsIn (w : World) (v : Value) (l : List Nat) : Prop := ∃ ao cap, v = .slice ao l.length cap ∧ ∀ i, i < l.length → ∃ g, ao = some ⟨g, 0, none⟩ ∧ g < w.heap.size ∧ w.cell? ⟨g, i, none⟩ = some (.int .i64 ((l.getD i 0 : Nat) : Int))

theorem IntsIn.below {w w' : World} {v : Value} {l : List Nat} (h : IntsIn w v l) (hb : Below w.heap.size w w') : IntsIn w' v l := by
  obtain ⟨ao, cap, hv, hr⟩ := h
  refine ⟨ao, cap, hv, fun i hi => ?_⟩
  obtain ⟨g, ha, hg, hc⟩ := hr i hi
  exact ⟨g, ha, by have := hb.size; omega, (hb.cell (p := ⟨g, i, none⟩) hg).trans hc⟩

theorem IntsIn.own {w : World} {B : Nat} {v : Value} {l : List Nat} (h : w.ownsRow B 3 1 v l.length (ints l)) : IntsIn w v l := by
  by_cases h0 : l.length = 0
  · rcases h.2 with ⟨hv, _⟩ | ⟨g, cap, _, hv, _⟩
    · exact ⟨none, 0, by rw [hv, h0], fun i hi => by omega⟩
    · exact ⟨_, cap, hv, fun i hi => by omega⟩
  · obtain ⟨g, cap, rfl⟩ := Joins.ownsRow_form h (by omega)
    refine ⟨_, cap, rfl, fun i hi => ⟨g, rfl, (h.lt g rfl).2, ?_⟩⟩
    rw [World.ownsRow.cellAt h i (by omega)]
    unfold ints
    rw [List.getElem?_map, List.getElem?_eq_getElem hi]
    simp [List.getD, hi]

set_option maxRecDepth 100000 in
set_option maxHeartbeats 4000000 in
theorem sameInts_same (l : List Nat) (v1 v2 : Value) (w : World) (h1 : IntsIn w v1 l) (h2 : IntsIn w v2 l) (hl : l.length ≤ 2097152) :
    Calls Try.prog 17 #[v1, v2] w fun e w' => e = .returned (.bool true) ∧ Below w.heap.size w w' := by
  obtain ⟨ao, cap, rfl, hrow⟩ := h1
  obtain ⟨ao2, cap2, rfl, hrow2⟩ := h2
  have HROW : Hid (∀ i, i < l.length → ∃ g, ao = some ⟨g, 0, none⟩ ∧ g < w.heap.size ∧ w.cell? ⟨g, i, none⟩ = some (.int .i64 ((l.getD i 0 : Nat) : Int))) := hrow
  have HROW2 : Hid (∀ i, i < l.length → ∃ g, ao2 = some ⟨g, 0, none⟩ ∧ g < w.heap.size ∧ w.cell? ⟨g, i, none⟩ = some (.int .i64 ((l.getD i 0 : Nat) : Int))) := hrow2
  clear hrow hrow2
  have hne : ((l.length : Int) != (l.length : Int)) = false := by simp
  go_enter Try.func17, Try.ntmps17
  go_wp2
  go_loopw [13] (fun vi wr => ∃ k : Nat, k ≤ l.length ∧ vi = .int .i64 (k : Int) ∧ Below w.heap.size w wr)
    (fun vi _ => l.length - (intOf vi).toNat)
  case atStart => exact ⟨0, by omega, rfl, Below.refl _ _⟩
  case round =>
    obtain ⟨k, hk, rfl, hbw⟩ := hrel
    by_cases hlt : k < l.length
    · obtain ⟨g, rfl, hgB, hy1⟩ := HROW.out k hlt
      obtain ⟨g2, rfl, hgB2, hy2⟩ := HROW2.out k hlt
      have e1 := (hbw.cell (p := ⟨g, k, none⟩) hgB).trans hy1
      have e2 := (hbw.cell (p := ⟨g2, k, none⟩) hgB2).trans hy2
      clear hy1 hy2
      generalize l.getD k 0 = x at e1 e2
      have hlt' : (k : Int) < (l.length : Int) := by omega
      have hxx : ((x : Int) != (x : Int)) = false := by simp
      go_wp2
      go_quiet (fail)
      go_wp2
      go_roundw
      case rel => exact ⟨k + 1, by omega, by go_num, below_drewN hbw⟩
      case measure => simp [intOf]; omega
    · have hke : k = l.length := by omega
      subst hke
      have hge : ¬ ((l.length : Int) < (l.length : Int)) := by omega
      go_wp2
      go_ret
      exact ⟨rfl, hbw⟩

end Go.Proofs.Ytnhmleelhopjmaa
