/- The program's CheckIn: up from the leaf. -/
import Derived.Test.YtlglngmlaknmlaaLgCb
namespace Go.Proofs.Ytlglngmlaknmlaa
open Go.RowKit Plain Lgs Tpc

/-- a row of stretches that is read alone -/
def AsAt (w : World) (b : Nat) (v : Value) (L : List As) : Prop := ∃ ao cap, v = .slice ao L.length cap ∧ L.length ≤ cap ∧ cap ≤ maxLen ∧ ∀ i, i < L.length → ∃ g, ao = some ⟨g, 0, none⟩ ∧ g < w.heap.size ∧ g ≠ b ∧ w.cell? ⟨g, i * 3, none⟩ = some (.int .i64 ((L.getD i a0).fr : Int)) ∧ w.cell? ⟨g, i * 3 + 1, none⟩ = some (.int .i64 ((L.getD i a0).tt : Int)) ∧ w.cell? ⟨g, i * 3 + 2, none⟩ = some (.bool (L.getD i a0).ah)

theorem AsAt.own {w : World} {B b : Nat} {v : Value} {L : List As} (h : AsRow w B v L) (hb : ∀ g, v.ownBlock = some g → g ≠ b) : AsAt w b v L := by
  obtain ⟨ao, cap, rfl, h1, h2⟩ := h.slice
  refine ⟨ao, cap, rfl, h1, h2, fun i hi => ?_⟩
  obtain ⟨g, cap', hg⟩ := Joins.ownsRow_form h (by omega)
  simp only [Value.slice.injEq] at hg
  obtain ⟨rfl, _, rfl⟩ := hg
  refine ⟨g, rfl, (World.ownsRow.lt h g rfl).2, hb g rfl, ?_, ?_, ?_⟩
  · have c := World.ownsRow.cellAt h (i * 3) (by omega)
    have f := flat3A L i 0 hi (by omega)
    rw [Nat.add_zero] at f
    rw [f] at c
    exact c
  · have c := World.ownsRow.cellAt h (i * 3 + 1) (by omega)
    rw [flat3A L i 1 hi (by omega)] at c
    exact c
  · have c := World.ownsRow.cellAt h (i * 3 + 2) (by omega)
    rw [flat3A L i 2 hi (by omega)] at c
    exact c

theorem grow_belowL {w w' : World} {row : Option Nat} (hb : Below w.heap.size w w') : w.grownBy w' row := ⟨hb.os, hb.tape, hb.output, hb.size, fun j hj _ => hb.block j hj⟩

theorem far3 {W : World} {b g : Nat} {x y z u : Value} (h : W.cell? ⟨g, 0, none⟩ = some x ∧ W.cell? ⟨g, 1, none⟩ = some y ∧ W.cell? ⟨g, 2, none⟩ = some z) (hne : b ≠ g) :
    (W.setCell ⟨b, 0, none⟩ u).cell? ⟨g, 0, none⟩ = some x ∧ (W.setCell ⟨b, 0, none⟩ u).cell? ⟨g, 1, none⟩ = some y ∧ (W.setCell ⟨b, 0, none⟩ u).cell? ⟨g, 2, none⟩ = some z := by
  refine ⟨?_, ?_, ?_⟩
  · rw [World.cell?_setCell_other _ _ _ _ (by intro e; injection e with e1; omega)]; exact h.1
  · rw [World.cell?_setCell_other _ _ _ _ (by intro e; injection e with e1; omega)]; exact h.2.1
  · rw [World.cell?_setCell_other _ _ _ _ (by intro e; injection e with e1; omega)]; exact h.2.2

theorem getD_drop0 (P : List Nat) (i : Nat) : (P.drop i).getD 0 0 = P.getD i 0 := by rw [getD_drop1, Nat.add_zero]

theorem getD_low {P : List Nat} (h : ∀ y ∈ P, y < 1000003) (i : Nat) : P.getD i 0 < 1000003 := by
  by_cases hi : i < P.length
  · rw [List.getD, List.getElem?_eq_getElem hi]
    exact h _ (List.getElem_mem hi)
  · rw [List.getD, List.getElem?_eq_none (by omega)]
    show 0 < 1000003
    omega

attribute [local go_sem ↓] Go.wp_at_zero Go.wp_at_succ

set_option maxRecDepth 100000 in
set_option maxHeartbeats 8000000 in
theorem implCheckIn_ok (r : Int) (N K : Nat) (s : ByteArray) (P : List Nat) (v : Value) (w : World) (hK : K < N) (hN : N ≤ 40) (hs : s.size ≤ 20) (hv : ZAt w w.heap.size v (zl P)) (hP : ∀ y ∈ P, y < 1000003)
    (hr : 0 ≤ r ∧ r ≤ 1000002) (hlen : P.length = (rt isOne K 41 0 N).2.length) :
    Calls Try.prog 33 #[.int .i64 r, .int .i64 (N : Int), .int .i64 (K : Int), .string s, .agg #[v]] w fun e w' => e = .returned (.tuple #[.bool (decide (((fld (leaf s) (rt isOne K 41 0 N).2 P (rt isOne K 41 0 N).2.length : Nat) : Int) = r)), .bool true]) ∧ Below w.heap.size w w' := by
  have HV : Hid (ZAt w w.heap.size v (zl P)) := hv
  obtain ⟨ao, cap, rfl, hlc, hcm, _⟩ := hv
  rw [zl_len] at HV hlc
  rw [zl_len]
  obtain ⟨W0, hW0⟩ : ∃ W, W = w.alloc (.cells #[.slice ao P.length cap] 37) := ⟨_, rfl⟩
  have hB0 : Below w.heap.size w W0 := by rw [hW0]; exact (Below.refl _ w).alloc (Nat.le_refl _) _
  have hs0 : W0.heap.size = w.heap.size + 1 := by rw [hW0]; simp
  have q0 : W0.cell? ⟨w.heap.size, 0, none⟩ = some (.slice ao P.length cap) := by rw [hW0]; go_simp
  obtain ⟨W1, hW1⟩ : ∃ W, W = W0.alloc (.cells #[.string s] 9) := ⟨_, rfl⟩
  have hB1 : Below W0.heap.size W0 W1 := by rw [hW1]; exact (Below.refl _ W0).alloc (Nat.le_refl _) _
  have hs1 := hB1.size
  have C : Hid (Calls Try.prog 69 #[.int .i64 0, .int .i64 20, .slice (some ⟨w.heap.size + 1, 0, none⟩) 1 1] W1 fun e w' => e = .returned (.bool true) ∧ w' = W1) := by
    have h := haveBytes_any 0 20 [s] _ _ (one_textL s W0) (fun i hi => by
      obtain rfl : i = 0 := by simpa using hi
      show s.size ≤ _
      omega) (by simp)
    rw [hv_one, show decide ((s.size : Int) ≤ 20) = true by simp; omega, show decide ((0 : Int) ≤ (s.size : Int)) = true by simp, Bool.and_true, ← hW1, hs0] at h
    exact h
  have d1 : decide ((40 : Int) < (N : Int)) = false := by simp; omega
  have d1' : decide (40 < N) = false := by simp; omega
  have d1'' : ¬ 40 < N := by omega
  have d2 : decide ((K : Int) < 0) = false := by simp
  have d3 : decide (N ≤ K) = false := by simp; omega
  have CT : Hid (Calls Try.prog 59 #[.int .i64 (N : Int), .int .i64 (K : Int)] W1 fun e w' => ORt W1 w' e (rt isOne K 41 0 N)) := routeOfText_any N K W1 hK hN
  have HLN : (rt isOne K 41 0 N).2.length ≤ 6 := rt_len (one_fit K) 41 6 0 N (by omega) (by omega) hK (by omega) (by omega)
  have CS : Hid (∀ W, Calls Try.prog 52 #[.int .i64 r] W fun e w' => e = .returned (.bool true) ∧ w' = W) := fun W => by
    have h := isSum_any r W
    rw [decide_eq_true hr] at h
    exact h
  have CF : Hid (∀ W, Calls Try.prog 16 #[.string s] W fun e w' => e = .returned (.int .i64 ((leaf s : Nat) : Int)) ∧ w' = W) := fun W => implLeaf s W (by unfold maxLen; omega)
  have HPL : Hid (∀ i, P.getD i 0 < 1000003) := fun i => getD_low hP i
  have hall : (zl P).all (fun n => decide (0 ≤ n ∧ n ≤ 1000002)) = true := by
    rw [List.all_eq_true]
    intro x hx
    unfold zl at hx
    obtain ⟨y, hy, rfl⟩ := List.mem_map.1 hx
    have := hP y hy
    exact decide_eq_true (by show 0 ≤ (y : Int) ∧ (y : Int) ≤ 1000002; omega)
  have CA : Hid (∀ W, Below w.heap.size w W → Calls Try.prog 70 #[.slice ao P.length cap] W fun e w' => e = .returned (.bool true) ∧ w' = W) := fun W hW => by
    have h := areSums_any (zl P) _ W (HV.out.below hW)
    rw [hall] at h
    exact h
  obtain ⟨F, hF⟩ : ∃ F, F = fld (leaf s) (rt isOne K 41 0 N).2 P (rt isOne K 41 0 N).2.length := ⟨_, rfl⟩
  rw [← hF]
  have HF : Hid (F = fld (leaf s) (rt isOne K 41 0 N).2 P (rt isOne K 41 0 N).2.length) := hF
  have hl0 : leaf s < 1000003 := leaf_lt s
  generalize rt isOne K 41 0 N = Q at CT hlen HLN HF
  generalize leaf s = S at CF HF hl0
  have HLEN : Hid (P.length = Q.2.length) := hlen
  rw [hlen] at q0 CA HV hW0
  rw [hlen]
  clear hF hall hP hlen
  go_enter Try.func33, Try.ntmps33
  go_upto_region 1 with fail
  rw [← hW0]
  clear hW0
  go_wp2_with fail
  rw [← hW1]
  clear hW1
  go_at_call 69
  refine C.out.mono ?_
  rintro e w' ⟨rfl, h9⟩
  have h9 := h9.symm
  subst h9
  go_wp2_with fail
  go_at_call 59
  refine CT.out.mono ?_
  rintro e w2 ⟨u, rfl, hr2, hb2⟩
  have hs2 := hb2.size
  obtain ⟨ar, cr, hu, hlc2, hcm2⟩ := hr2.slice
  subst hu
  unfold maxLen at hcm2
  obtain ⟨W3, hW3⟩ : ∃ W, W = w2.alloc (.cells #[.int .i64 (Q.1.1 : Int), .int .i64 (Q.1.2 : Int), .slice ar Q.2.length cr] 75) := ⟨_, rfl⟩
  have hB3 : Below w2.heap.size w2 W3 := by rw [hW3]; exact (Below.refl _ w2).alloc (Nat.le_refl _) _
  have hs3 : Hid (W3.heap.size = w2.heap.size + 1) := by show _ = _; rw [hW3]; simp
  have r2 : W3.cell? ⟨w2.heap.size, 2, none⟩ = some (.slice ar Q.2.length cr) := by rw [hW3]; go_simp
  have hB03 : Below W0.heap.size W0 W3 := hB1.trans ((hb2.trans (hB3.mono hs2)).mono hs1)
  have hBw : Below w.heap.size w W3 := hB0.trans (hB03.mono hB0.size)
  have q3 := (hB03.cell (p := ⟨w.heap.size, 0, none⟩) (by show w.heap.size < _; omega)).trans q0
  have hl3 : w.heap.size < W3.heap.size := by have := hB03.size; omega
  have HCA3 : Hid (Calls Try.prog 70 #[.slice ao Q.2.length cap] W3 fun e w' => e = .returned (.bool true) ∧ w' = W3) := CA.out _ hBw
  obtain ⟨W4, hW4⟩ : ∃ W, W = W3.alloc (.cells #[.slice ao Q.2.length cap] 79) := ⟨_, rfl⟩
  have hB4 : Below W3.heap.size W3 W4 := by rw [hW4]; exact (Below.refl _ W3).alloc (Nat.le_refl _) _
  have hs4 : Hid (W4.heap.size = W3.heap.size + 1) := by show _ = _; rw [hW4]; simp
  have hBw4 : Below w.heap.size w W4 := hBw.trans (hB4.mono (by omega))
  have HAS : Hid (AsAt W4 W3.heap.size (.slice ar Q.2.length cr) Q.2) := AsAt.own (own_belowL (own_belowL hr2 hB3) hB4) (fun g hg => by have h1 := (World.ownsRow.lt hr2 g hg).2; have h2 := hs3.out; omega)
  have HTV : Hid (Tv W4 W3.heap.size w.heap.size (.slice ao Q.2.length cap) P) := by
    refine ⟨by have := hs4.out; omega, by rw [hW4]; go_simp, by rw [hW4]; go_simp, ?_, by omega⟩
    have h := HV.out
    obtain ⟨a', c', hv', hm', hc', hr'⟩ := h
    refine ⟨a', c', hv', hm', hc', fun i x hx => ?_⟩
    obtain ⟨g, o, ha, hg, c⟩ := hr' i x hx
    exact ⟨g, o, ha, hg, (hBw4.cell (p := ⟨g, o + i, none⟩) hg).trans c⟩
  have r4 := (hB4.cell (p := ⟨w2.heap.size, 2, none⟩) (by show w2.heap.size < W3.heap.size; have h2 := hs3.out; omega)).trans r2
  clear CA hr2 hb2 CT C
  go_upto_region 4 with fail
  rw [← hW3]
  clear hW3
  go_wp2_with fail
  go_at_call 52
  refine (CS.out _).mono ?_
  rintro e w' ⟨rfl, h9⟩
  have h9 := h9.symm
  subst h9
  go_wp2_with fail
  go_at_call 70
  refine HCA3.out.mono ?_
  rintro e w' ⟨rfl, h9⟩
  have h9 := h9.symm
  subst h9
  go_upto_region 7 with fail
  rw [← hW4]
  clear hW4 r2 q3 q0
  go_wp2_with fail
  go_at_call 16
  refine (CF.out _).mono ?_
  rintro e w' ⟨rfl, h9⟩
  have h9 := h9.symm
  subst h9
  have HB4w : Hid (Below w.heap.size w W4) := hBw4
  have hls : w.heap.size ≤ W3.heap.size := by omega
  clear CF HCA3 CS hB4 hB3 hB03 hBw hBw4
  go_wp2_with fail
  go_loopw [14, 65] (fun vs vi wr => ∃ (i : Nat) (u : Value), i ≤ Q.2.length ∧ vi = .int .i64 (i : Int) ∧ vs = .int .i64 ((fld S Q.2 P i : Nat) : Int) ∧ CkS W4 wr W3.heap.size w.heap.size u (P.drop i))
    (fun _ vi _ => Q.2.length - (intOf vi).toNat)
  case atStart => exact ⟨0, _, by omega, rfl, rfl, HTV.out, grow_belowL (Below.refl _ _)⟩
  case round =>
    obtain ⟨i, u, hi, rfl, rfl, hC⟩ := hrel
    clear HTV r4
    by_cases hlt : i < Q.2.length
    · have hlt' : (i : Int) < (Q.2.length : Int) := by omega
      obtain ⟨ao2, cap2, hv2, _, _, hrow⟩ := HAS.out
      obtain ⟨g, rfl, hg, hgb, c0, c1, c2⟩ := hrow i hlt
      simp only [Value.slice.injEq] at hv2
      obtain ⟨rfl, _, rfl⟩ := hv2
      have hgr := hC.gr
      have hgs : g < wr.heap.size := by have := hgr.size; omega
      have hne : some g ≠ some W3.heap.size := fun e => hgb (by simpa using e)
      have c0 := (hgr.cell_far ⟨g, i * 3, none⟩ hg hne).trans c0
      have c1 := (hgr.cell_far ⟨g, i * 3 + 1, none⟩ hg hne).trans c1
      have c2 := (hgr.cell_far ⟨g, i * 3 + 2, none⟩ hg hne).trans c2
      have HNX : Hid (fld S Q.2 P (i + 1) = jn (Q.2.getD i a0) (fld S Q.2 P i) (P.getD i 0)) := rfl
      have hy : P.getD i 0 < 1000003 := HPL.out i
      have hx : fld S Q.2 P i < 1000003 := fld_lt hl0 _ _ i
      have HTK : Hid ((P.drop i).drop 1 = P.drop (i + 1)) := by show _ = _; rw [List.drop_drop]
      have hpl : 0 < (P.drop i).length := by rw [List.length_drop, HLEN.out]; omega
      have CJ : Hid (∀ W, Calls Try.prog 71 #[.agg #[.int .i64 ((Q.2.getD i a0).fr : Int), .int .i64 ((Q.2.getD i a0).tt : Int), .bool (Q.2.getD i a0).ah], .int .i64 ((fld S Q.2 P i : Nat) : Int), .int .i64 ((P.getD i 0 : Nat) : Int)] W fun e w' => e = .returned (.int .i64 ((jn (Q.2.getD i a0) (fld S Q.2 P i) (P.getD i 0) : Nat) : Int)) ∧ Below W.heap.size W w') := fun W => join_any _ _ _ W hx hy
      generalize jn (Q.2.getD i a0) (fld S Q.2 P i) (P.getD i 0) = J at HNX CJ
      obtain ⟨⟨fr, tt, ah⟩, ha⟩ : ∃ s, Q.2.getD i a0 = s := ⟨_, rfl⟩
      rw [ha] at c0 c1 c2 CJ
      clear ha
      dsimp only at c0 c1 c2 CJ
      have hTv := hC.tv
      obtain ⟨X, hX⟩ : ∃ X, fld S Q.2 P i = X := ⟨_, rfl⟩
      rw [hX] at CJ
      rw [hX]
      clear hX hx
      obtain ⟨Wa, hWa⟩ : ∃ W, W = wr.alloc (.cells #[.int .i64 (fr : Int), .int .i64 (tt : Int), .bool ah] 88) := ⟨_, rfl⟩
      have hBa : Below wr.heap.size wr Wa := by rw [hWa]; exact (Below.refl _ wr).alloc (Nat.le_refl _) _
      have hsa : Wa.heap.size = wr.heap.size + 1 := by rw [hWa]; simp
      have hlow := hTv.low
      have A0 : Hid (Wa.cell? ⟨wr.heap.size, 0, none⟩ = some (.int .i64 (fr : Int)) ∧ Wa.cell? ⟨wr.heap.size, 1, none⟩ = some (.int .i64 (tt : Int)) ∧ Wa.cell? ⟨wr.heap.size, 2, none⟩ = some (.bool ah)) := by refine ⟨?_, ?_, ?_⟩ <;> (rw [hWa]; go_simp)
      have HS : Hid (∀ W, Below Wa.heap.size Wa W → W.cell? ⟨wr.heap.size, 0, none⟩ = some (.int .i64 (fr : Int)) ∧ W.cell? ⟨wr.heap.size, 1, none⟩ = some (.int .i64 (tt : Int)) ∧ W.cell? ⟨wr.heap.size, 2, none⟩ = some (.bool ah)) := fun W hW =>
        ⟨(hW.cell (p := ⟨wr.heap.size, 0, none⟩) (by show wr.heap.size < _; omega)).trans A0.out.1, (hW.cell (p := ⟨wr.heap.size, 1, none⟩) (by show wr.heap.size < _; omega)).trans A0.out.2.1, (hW.cell (p := ⟨wr.heap.size, 2, none⟩) (by show wr.heap.size < _; omega)).trans A0.out.2.2⟩
      have HTa : Hid (Tv Wa W3.heap.size w.heap.size u (P.drop i)) := hTv.below hBa
      have CTk : Hid (Calls Try.prog 72 #[.pointer (some ⟨W3.heap.size, 0, none⟩)] Wa.drew fun e w' => e = .returned (.int .i64 ((P.getD i 0 : Nat) : Int)) ∧ ∃ u', Tv w' W3.heap.size w.heap.size u' (P.drop (i + 1)) ∧ w' = Wa.drew.setCell ⟨W3.heap.size, 0, none⟩ u') := by
        have h := takeZ_any W3.heap.size w.heap.size u (P.drop i) Wa.drew (HTa.out.below ((Below.refl _ _).drew)) hpl
        rw [getD_drop0, HTK.out] at h
        exact h
      generalize P.getD i 0 = y at CTk CJ hy
      have HGA : Hid (W4.grownBy Wa (some W3.heap.size)) := Lib.grownBy_trans hgr (grow_belowL hBa)
      have hSd := HS.out _ ((Below.refl _ Wa).drew)
      clear hC hTv hgr hrow HTK A0
      go_upto_region 11 with fail
      rw [← hWa]
      clear hWa
      go_region_held3 (fun W => W.cell? ⟨wr.heap.size, 0, none⟩ = some (.int .i64 (fr : Int)) ∧ W.cell? ⟨wr.heap.size, 1, none⟩ = some (.int .i64 (tt : Int)) ∧ W.cell? ⟨wr.heap.size, 2, none⟩ = some (.bool ah))
        (first
          | with_reducible exact hS8
          | with_reducible exact hS7
          | with_reducible exact hSd)
        (first
          | (go_at_call 71; (with_reducible refine (CJ.out _).mono ?_); rintro e w8 ⟨rfl, hb8⟩; have hS8 : w8.cell? ⟨wr.heap.size, 0, none⟩ = some (.int .i64 (fr : Int)) ∧ w8.cell? ⟨wr.heap.size, 1, none⟩ = some (.int .i64 (tt : Int)) ∧ w8.cell? ⟨wr.heap.size, 2, none⟩ = some (.bool ah) := ⟨(hb8.cell (p := ⟨wr.heap.size, 0, none⟩) hl7).trans hS7.1, (hb8.cell (p := ⟨wr.heap.size, 1, none⟩) hl7).trans hS7.2.1, (hb8.cell (p := ⟨wr.heap.size, 2, none⟩) hl7).trans hS7.2.2⟩; have HC8 : Hid (CkS W4 w8 W3.heap.size w.heap.size u7 (P.drop (i + 1))) := ⟨HC7.out.tv.below hb8, Lib.grownBy_trans HC7.out.gr (grow_belowL hb8)⟩)
          | (go_at_call 72; (with_reducible refine CTk.out.mono ?_); rintro e w7 ⟨rfl, u7, ht7, hw7⟩; have hS7 : w7.cell? ⟨wr.heap.size, 0, none⟩ = some (.int .i64 (fr : Int)) ∧ w7.cell? ⟨wr.heap.size, 1, none⟩ = some (.int .i64 (tt : Int)) ∧ w7.cell? ⟨wr.heap.size, 2, none⟩ = some (.bool ah) := (by rw [hw7]; exact far3 hSd (by omega)); have hl7 : wr.heap.size < w7.heap.size := (by rw [hw7]; simp; omega); have HC7 : Hid (CkS W4 w7 W3.heap.size w.heap.size u7 (P.drop (i + 1))) := ⟨ht7, by rw [hw7]; exact Lib.grownBy_trans (Lib.grownBy_trans HGA.out (grow_belowL ((Below.refl _ _).drew))) (Lib.grownBy_setCell _ _ 0 _)⟩; clear ht7 hw7))
      all_goals
        go_wp2_with fail
        go_roundw
        case rel => exact ⟨i + 1, u7, by omega, by go_num, by rw [HNX.out], HC8.out⟩
        case measure => simp [intOf]; omega
    · have hke : i = Q.2.length := by omega
      have hge : ¬ ((i : Int) < (Q.2.length : Int)) := by omega
      have HFE : Hid (fld S Q.2 P i = F) := by show _ = _; rw [HF.out, hke]
      rw [HFE.out]
      have hBE : Below w.heap.size w wr := HB4w.out.grown hC.gr HB4w.out.size (fun k hk => by
        simp only [Option.some.injEq] at hk
        omega)
      clear hke hC
      go_wp2_with fail
      go_ret2
      exact ⟨by first | rfl | simp, hBE⟩

theorem implCheckIn (r n k : Int) (s : ByteArray) (p : List Int) (v : Value) (w : World) (hs : s.size ≤ 9223372036854775807) (hv : ZAt w w.heap.size v p) :
    Calls Try.prog 33 #[.int .i64 r, .int .i64 n, .int .i64 k, .string s, .agg #[v]] w fun e w' => e = .returned (.tuple #[.bool (cin r n k s p).1, .bool (cin r n k s p).2]) ∧ Below w.heap.size w w' := by
  by_cases h : n ≤ 40 ∧ 0 ≤ k ∧ k < n ∧ s.size ≤ 20
  · obtain ⟨N, rfl⟩ : ∃ N : Nat, n = N := ⟨n.toNat, by omega⟩
    obtain ⟨K, rfl⟩ : ∃ K : Nat, k = K := ⟨k.toNat, by omega⟩
    rw [cin_prog (by omega) (by omega) h.2.2.2]
    by_cases hg : p.length = (rt isOne K 41 0 N).2.length ∧ (0 ≤ r ∧ r ≤ 1000002) ∧ p.all (fun n => decide (0 ≤ n ∧ n ≤ 1000002)) = true
    · rw [if_pos hg]
      have hall := List.all_eq_true.1 hg.2.2
      have hzp : zl (p.map Int.toNat) = p := zl_nat (fun x hx => (of_decide_eq_true (hall x hx)).1)
      exact implCheckIn_ok r N K s (p.map Int.toNat) v w (by omega) (by omega) h.2.2.2 (by rw [hzp]; exact hv) (fun y hy => by
        obtain ⟨x, hx, rfl⟩ := List.mem_map.1 hy
        have := of_decide_eq_true (hall x hx)
        omega) hg.2.1 (by rw [List.length_map]; exact hg.1)
    · rw [if_neg hg]
      exact implCheckIn_mis r N K s p v w (by omega) (by omega) h.2.2.2 hv hg
  · rw [cin_bad h]
    exact implCheckIn_bad r n k s p v w hs hv h

end Go.Proofs.Ytlglngmlaknmlaa
