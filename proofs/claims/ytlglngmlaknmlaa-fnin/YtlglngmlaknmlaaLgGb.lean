/- The model's ProveGrew. -/
import Derived.Test.YtlglngmlaknmlaaLgGa
namespace Go.Proofs.Ytlglngmlaknmlaa
open Go.RowKit Plain Lgs Tpc

/-- what ProveGrew tells -/
def Lgs.pgr (l : List ByteArray) (k : Int) : List Nat × Bool := if lok l = true ∧ 1 ≤ k ∧ k ≤ (l.length : Int) then (groF 41 l k.toNat true, true) else ([], false)

set_option maxRecDepth 100000 in
set_option maxHeartbeats 4000000 in
theorem specProveGrew (l : List ByteArray) (k : Int) (v : Value) (w : World) (hv : StAt w w.heap.size v l) :
    Calls Try.prog 34 #[v, .int .i64 k] w fun e w' => OPr w w' e (pgr l k) := by
  have rc := fun (tmps : Array Value) (P : Program) (w : World) => results_cell_tmpL (fn := Try.f34) (p := 4) (u := 5) (ty := 37) rfl tmps P w
  have HV : Hid (StAt w w.heap.size v l) := hv
  obtain ⟨ao, cap, rfl, hlc, hcm, _⟩ := hv
  unfold maxLen at hcm
  obtain ⟨W0, hW0⟩ : ∃ W, W = w.alloc (.cells #[.slice none 0 0] 37) := ⟨_, rfl⟩
  have hB0 : Below w.heap.size w W0 := by rw [hW0]; exact (Below.refl _ w).alloc (Nat.le_refl _) _
  have hs0 : W0.heap.size = w.heap.size + 1 := by rw [hW0]; simp
  have q2 : W0.cell? ⟨w.heap.size, 0, none⟩ = some (.slice none 0 0) := by rw [hW0]; go_simp
  have qf2 : W0.frozen? ⟨w.heap.size, 0, none⟩ = false := by rw [hW0]; go_simp
  have HV0 : Hid (StAt W0 W0.heap.size (.slice ao l.length cap) l) := HV.out.below hB0
  have CL : Hid (Calls Try.prog 54 #[.slice ao l.length cap] W0 fun e w' => e = .returned (.bool (lok l)) ∧ w' = W0) := l13Log_any l _ W0 HV0.out
  obtain ⟨R, hR⟩ : ∃ R, R = pgr l k := ⟨_, rfl⟩
  have HR : Hid (R = pgr l k) := hR
  rw [← hR]
  clear hR
  have bad : ¬ (lok l = true ∧ 1 ≤ k ∧ k ≤ (l.length : Int)) → R = ([], false) := fun h => by rw [HR.out]; unfold pgr; rw [if_neg h]
  have HBAD : Hid (R = ([], false) → ∀ w', Below w.heap.size w w' → OPr w w' (.returned (.tuple #[.agg #[.slice none 0 0], .bool false])) R) := fun h w' hb => by rw [h]; exact ⟨⟨_, rfl, zrow_nil _ _⟩, hb⟩
  have hBS : Below w.heap.size w (W0.setCell ⟨w.heap.size, 0, none⟩ (.slice none 0 0)) := hB0.setCell (p := ⟨w.heap.size, 0, none⟩) (Nat.le_refl _) _
  by_cases hl : lok l = true
  case neg =>
    have hl' : lok l = false := by simpa using hl
    rw [hl'] at CL
    have hF := HBAD.out (bad (fun h => hl h.1))
    clear HBAD bad HR hl hl' HV HV0
    go_enter Try.func34, Try.ntmps34
    go_upto_region 1 with fail
    rw [← hW0]
    clear hW0
    go_wp2_with fail
    go_at_call 54
    refine CL.out.mono ?_
    rintro e w' ⟨rfl, rfl⟩
    go_wp2
    (try simp only [Exit.inBlock, Exit.then])
    refine bodyPost_ret (v := .tuple #[.agg #[.slice none 0 0], .bool false]) ?_ rfl (hF _ ?_)
    · rw [rc]
      go_simp
    · exact hBS
  rw [hl] at CL
  have C1 : Hid (Calls Try.prog 47 #[.int .i64 k, .int .i64 1, .int .i64 (l.length : Int)] W0 fun e w' => e = .returned (.bool (decide (1 ≤ k ∧ k ≤ (l.length : Int)))) ∧ w' = W0) := l1InT k 1 (l.length : Int) W0
  by_cases h0 : 1 ≤ k ∧ k ≤ (l.length : Int)
  case neg =>
    have hF := HBAD.out (bad (fun h => h0 h.2))
    rw [decide_eq_false h0] at C1
    clear HBAD bad HR hl HV HV0 h0
    go_enter Try.func34, Try.ntmps34
    go_upto_region 1 with fail
    rw [← hW0]
    clear hW0
    go_wp2_with fail
    go_at_call 54
    refine CL.out.mono ?_
    rintro e w' ⟨rfl, h9⟩
    have h9 := h9.symm
    subst h9
    go_wp2_with fail
    go_at_call 47
    refine C1.out.mono ?_
    rintro e w' ⟨rfl, rfl⟩
    go_wp2
    (try simp only [Exit.inBlock, Exit.then])
    refine bodyPost_ret (v := .tuple #[.agg #[.slice none 0 0], .bool false]) ?_ rfl (hF _ ?_)
    · rw [rc]
      go_simp
    · exact hBS
  rw [decide_eq_true h0] at C1
  obtain ⟨n, rfl⟩ : ∃ n : Nat, k = n := ⟨k.toNat, by omega⟩
  obtain ⟨h40, h20⟩ := lok_parts hl
  have CI : Hid (Calls Try.prog 73 #[.slice ao l.length cap, .int .i64 (n : Int), .bool true] W0 fun e w' => ∃ u, e = .returned u ∧ ZRow w' W0.heap.size u (zl (groF 41 l n true)) ∧ Below W0.heap.size W0 w') := l13Grew_any 41 l n true _ W0 (by omega) (by omega) (by omega) (by omega) h40 h20 HV0.out
  have HF : Hid (R = (groF 41 l n true, true)) := by
    show _ = _
    rw [HR.out]
    unfold pgr
    rw [if_pos ⟨hl, by omega, by omega⟩, Int.toNat_natCast]
  clear HBAD bad HR hl HV HV0 h20 h0
  generalize groF 41 l n true = P at HF CI
  go_enter Try.func34, Try.ntmps34
  go_upto_region 1 with fail
  rw [← hW0]
  clear hW0
  go_wp2_with fail
  go_at_call 54
  refine CL.out.mono ?_
  rintro e w' ⟨rfl, h9⟩
  have h9 := h9.symm
  subst h9
  go_wp2_with fail
  go_at_call 47
  refine C1.out.mono ?_
  rintro e w' ⟨rfl, h9⟩
  have h9 := h9.symm
  subst h9
  go_wp2_with fail
  go_at_call 73
  refine CI.out.mono ?_
  rintro e w2 ⟨u, rfl, hz, hb⟩
  have hs2 := hb.size
  have r2 := (hb.cell (p := ⟨w.heap.size, 0, none⟩) (by show w.heap.size < _; omega)).trans q2
  have rf2 := (hb.frozen (p := ⟨w.heap.size, 0, none⟩) (by show w.heap.size < _; omega)).trans qf2
  have HZ : Hid (ZRow (w2.setCell ⟨w.heap.size, 0, none⟩ u) w.heap.size u (zl P)) := (hz.lower (by omega)).aside (Lib.grownBy_setCell _ w.heap.size 0 _) (fun g hg h => by
    have := (World.ownsRow.lt hz g hg).1
    simp only [Option.some.injEq] at h
    omega)
  have HB2 : Hid (Below w.heap.size w (w2.setCell ⟨w.heap.size, 0, none⟩ u)) := (hB0.trans (hb.mono (by omega))).setCell (p := ⟨w.heap.size, 0, none⟩) (Nat.le_refl _) _
  obtain ⟨a2, c2, rfl⟩ := hz.slice
  clear hz hb
  go_wp2
  (try simp only [Exit.inBlock, Exit.then])
  refine bodyPost_ret (v := .tuple #[.agg #[.slice a2 (zl P).length c2], .bool true]) ?_ rfl ?_
  · rw [rc]
    go_simp
  · rw [HF.out]
    exact ⟨⟨_, rfl, HZ.out⟩, HB2.out⟩

end Go.Proofs.Ytlglngmlaknmlaa
