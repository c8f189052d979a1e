/- The program's ProveIn. -/
import Derived.Test.YtlglngmlaknmlaaLgW
namespace Go.Proofs.Ytlglngmlaknmlaa
open Go.RowKit Plain Lgs Tpc

theorem StAt.keep {w w' : World} {v : Value} {L : List ByteArray} {B : Nat} (h : StAt w B v L) (hb : Below B w w') : StAt w' B v L := by
  obtain ⟨ao, cap, hv, hm, hc, hr⟩ := h
  refine ⟨ao, cap, hv, hm, hc, fun i hi => ?_⟩
  obtain ⟨g, o, ha, hg, c⟩ := hr i hi
  exact ⟨g, o, ha, hg, (hb.cell (p := ⟨g, o + i, none⟩) hg).trans c⟩

/-- a way put into a variable -/
theorem Rt.made {w : World} {B x y : Nat} {ar : Option Addr} {cr : Nat} {L : List As} (h : AsRow w B (.slice ar L.length cr) L) :
    Rt (w.alloc (.cells #[.int .i64 (x : Int), .int .i64 (y : Int), .slice ar L.length cr] 75)) w.heap.size B (.slice ar L.length cr) x y L := by
  refine ⟨by simp, by go_simp, by go_simp, by go_simp, by go_simp, own_belowL h ((Below.refl _ w).alloc (Nat.le_refl _) _), fun g hg => ?_⟩
  have := (World.ownsRow.lt h g hg).2
  omega

set_option maxRecDepth 100000 in
set_option maxHeartbeats 4000000 in
theorem implProveIn (l : List ByteArray) (k : Int) (v : Value) (w : World) (hv : StAt w w.heap.size v l) (hSz : ∀ i, i < l.length → (lq l i).size ≤ 9223372036854775807) :
    Calls Try.prog 25 #[v, .int .i64 k] w fun e w' => OPr w w' e (pin l k) := by
  have rc := fun (tmps : Array Value) (P : Program) (w : World) => results_cell_tmpL (fn := Try.f25) (p := 4) (u := 5) (ty := 37) rfl tmps P w
  have HV : Hid (StAt w w.heap.size v l) := hv
  obtain ⟨ao, cap, rfl, hlc, hcm, _⟩ := hv
  unfold maxLen at hcm
  obtain ⟨W0, hW0⟩ : ∃ W, W = w.alloc (.cells #[.slice none 0 0] 37) := ⟨_, rfl⟩
  have hB0 : Below w.heap.size w W0 := by rw [hW0]; exact (Below.refl _ w).alloc (Nat.le_refl _) _
  have hs0 : W0.heap.size = w.heap.size + 1 := by rw [hW0]; simp
  have q2 : W0.cell? ⟨w.heap.size, 0, none⟩ = some (.slice none 0 0) := by rw [hW0]; go_simp
  have qf2 : W0.frozen? ⟨w.heap.size, 0, none⟩ = false := by rw [hW0]; go_simp
  have HV0 : Hid (StAt W0 W0.heap.size (.slice ao l.length cap) l) := HV.out.below hB0
  have CL : Hid (Calls Try.prog 56 #[.slice ao l.length cap] W0 fun e w' => e = .returned (.bool (lok l)) ∧ w' = W0) := isLog_any l _ W0 HV0.out hSz
  obtain ⟨R, hR⟩ : ∃ R, R = pin l k := ⟨_, rfl⟩
  have HR : Hid (R = pin l k) := hR
  rw [← hR]
  clear hR hSz
  have bad : ¬ (lok l = true ∧ 0 ≤ k ∧ k < (l.length : Int)) → R = ([], false) := fun h => by rw [HR.out]; unfold pin; rw [if_neg h]
  have HBAD : Hid (R = ([], false) → ∀ w', Below w.heap.size w w' → OPr w w' (.returned (.tuple #[.agg #[.slice none 0 0], .bool false])) R) := fun h w' hb => by rw [h]; exact ⟨⟨_, rfl, zrow_nil _ _⟩, hb⟩
  have hBS : Below w.heap.size w (W0.setCell ⟨w.heap.size, 0, none⟩ (.slice none 0 0)) := hB0.setCell (p := ⟨w.heap.size, 0, none⟩) (Nat.le_refl _) _
  by_cases hl : lok l = true
  case neg =>
    have hl' : lok l = false := by simpa using hl
    rw [hl'] at CL
    have hF := HBAD.out (bad (fun h => hl h.1))
    clear HBAD bad HR hl hl' HV HV0
    go_enter Try.func25, Try.ntmps25
    go_upto_region 1 with fail
    rw [← hW0]
    clear hW0
    go_wp2_with fail
    go_at_call 56
    refine CL.out.mono ?_
    rintro e w' ⟨rfl, rfl⟩
    go_wp2
    (try simp only [Exit.inBlock, Exit.then])
    refine bodyPost_ret (v := .tuple #[.agg #[.slice none 0 0], .bool false]) ?_ rfl (hF _ ?_)
    · rw [rc]
      go_simp
    · exact hBS
  rw [hl] at CL
  by_cases h0 : k < 0
  · have hF := HBAD.out (bad (fun h => by omega))
    clear HBAD bad HR hl HV HV0
    go_enter Try.func25, Try.ntmps25
    go_upto_region 1 with fail
    rw [← hW0]
    clear hW0
    go_wp2_with fail
    go_at_call 56
    refine CL.out.mono ?_
    rintro e w' ⟨rfl, rfl⟩
    go_wp2
    (try simp only [Exit.inBlock, Exit.then])
    refine bodyPost_ret (v := .tuple #[.agg #[.slice none 0 0], .bool false]) ?_ rfl (hF _ ?_)
    · rw [rc]
      go_simp
    · exact hBS
  by_cases h1 : (l.length : Int) ≤ k
  · have hF := HBAD.out (bad (fun h => by omega))
    clear HBAD bad HR hl HV HV0
    go_enter Try.func25, Try.ntmps25
    go_upto_region 1 with fail
    rw [← hW0]
    clear hW0
    go_wp2_with fail
    go_at_call 56
    refine CL.out.mono ?_
    rintro e w' ⟨rfl, rfl⟩
    go_wp2
    (try simp only [Exit.inBlock, Exit.then])
    refine bodyPost_ret (v := .tuple #[.agg #[.slice none 0 0], .bool false]) ?_ rfl (hF _ ?_)
    · rw [rc]
      go_simp
    · exact hBS
  obtain ⟨n, rfl⟩ : ∃ n : Nat, k = n := ⟨k.toNat, by omega⟩
  obtain ⟨h40, h20⟩ := lok_parts hl
  have hn : n < l.length := by omega
  have CI : Hid (Calls Try.prog 59 #[.int .i64 (l.length : Int), .int .i64 (n : Int)] W0 fun e w' => ORt W0 w' e (rt isOne n 41 0 l.length)) := routeOfText_any l.length n W0 hn h40
  have HF : Hid (R = ((rt isOne n 41 0 l.length).2.map (rootS l), true)) := by
    show _ = _
    rw [HR.out]
    unfold pin
    rw [if_pos ⟨hl, by omega, by omega⟩, Int.toNat_natCast, ← in_rt l n 41 0 l.length (by omega) hn (Nat.le_refl _) (by omega) (by omega), sub_all]
    rfl
  have HIN : Hid (∀ a ∈ (rt isOne n 41 0 l.length).2, a.fr < a.tt ∧ a.tt ≤ l.length) := fun a ha => ((rt_in (one_fit n) 41 0 l.length (by omega) hn (by omega) (by omega)).2 a ha).2
  have HLN : Hid ((rt isOne n 41 0 l.length).2.length ≤ 6) := rt_len (one_fit n) 41 6 0 l.length (by omega) (by omega) hn (by omega) (by omega)
  have H20 : Hid (∀ i, i < l.length → (lq l i).size ≤ 20) := h20
  clear HBAD bad HR hl HV h20
  generalize rt isOne n 41 0 l.length = Q at HF CI HIN HLN
  go_enter Try.func25, Try.ntmps25
  go_upto_region 1 with fail
  rw [← hW0]
  clear hW0
  go_wp2_with fail
  go_at_call 56
  refine CL.out.mono ?_
  rintro e w' ⟨rfl, h9⟩
  have h9 := h9.symm
  subst h9
  go_wp2_with fail
  go_at_call 59
  refine CI.out.mono ?_
  rintro e w2 ⟨u, rfl, hr2, hb2⟩
  have hs2 := hb2.size
  obtain ⟨ar, cr, hu, _, _⟩ := hr2.slice
  subst hu
  have hRt := Rt.made (x := Q.1.1) (y := Q.1.2) hr2
  obtain ⟨W3, hW3⟩ : ∃ W, W = w2.alloc (.cells #[.int .i64 (Q.1.1 : Int), .int .i64 (Q.1.2 : Int), .slice ar Q.2.length cr] 75) := ⟨_, rfl⟩
  have hB3 : Below w2.heap.size w2 W3 := by rw [hW3]; exact (Below.refl _ w2).alloc (Nat.le_refl _) _
  have hs3 := hB3.size
  rw [← hW3] at hRt
  have HRt : Hid (Rt W3 w2.heap.size W0.heap.size (.slice ar Q.2.length cr) Q.1.1 Q.1.2 Q.2) := hRt
  have HB03 : Hid (Below W0.heap.size W0 W3) := hb2.trans (hB3.mono hs2)
  have CP : Hid (Calls Try.prog 60 #[.pointer (some ⟨w2.heap.size, 0, none⟩), .slice ao l.length cap, .agg #[.slice none 0 0]] W3 fun e w' => ∃ v', e = .returned (.agg #[v']) ∧ ZRow w' W0.heap.size v' (zl ([] ++ Q.2.map (rootS l))) ∧ Below W0.heap.size W3 w') :=
    proofOf_any l Q.2 [] w2.heap.size W0.heap.size Q.1.1 Q.1.2 _ (.slice none 0 0) _ W3 HRt.out (HV0.out.keep HB03.out) HIN.out h40 H20.out (zrow_nil _ _) (by omega) (fun g hg => by simp [Value.ownBlock] at hg) (by have := HLN.out; omega) (by simp)
  rw [List.nil_append] at CP
  clear hr2 hb2 hRt HRt HV0 HIN HLN H20 CI CL
  go_upto_region 4 with fail
  rw [← hW3]
  clear hW3
  go_wp2_with fail
  go_at_call 60
  refine CP.out.mono ?_
  rintro e w4 ⟨u, rfl, hz, hb⟩
  have hb : Below W0.heap.size W0 w4 := HB03.out.trans hb
  have hs4 := hb.size
  have r2 := (hb.cell (p := ⟨w.heap.size, 0, none⟩) (by show w.heap.size < _; omega)).trans q2
  have rf2 := (hb.frozen (p := ⟨w.heap.size, 0, none⟩) (by show w.heap.size < _; omega)).trans qf2
  obtain ⟨P, hP⟩ : ∃ P, P = Q.2.map (rootS l) := ⟨_, rfl⟩
  rw [← hP] at hz
  have HF2 : Hid (R = (P, true)) := by show _ = _; rw [HF.out, hP]
  clear hP HF
  have HZ : Hid (ZRow (w4.setCell ⟨w.heap.size, 0, none⟩ u) w.heap.size u (zl P)) := (hz.lower (by omega)).aside (Lib.grownBy_setCell _ w.heap.size 0 _) (fun g hg h => by
    have := (World.ownsRow.lt hz g hg).1
    simp only [Option.some.injEq] at h
    omega)
  have HB2 : Hid (Below w.heap.size w (w4.setCell ⟨w.heap.size, 0, none⟩ u)) := (hB0.trans (hb.mono (by omega))).setCell (p := ⟨w.heap.size, 0, none⟩) (Nat.le_refl _) _
  obtain ⟨a2, c2, rfl⟩ := hz.slice
  clear hz hb
  go_wp2
  (try simp only [Exit.inBlock, Exit.then])
  refine bodyPost_ret (v := .tuple #[.agg #[.slice a2 (zl P).length c2], .bool true]) ?_ rfl ?_
  · rw [rc]
    go_simp
  · rw [HF2.out]
    exact ⟨⟨_, rfl, HZ.out⟩, HB2.out⟩

end Go.Proofs.Ytlglngmlaknmlaa
