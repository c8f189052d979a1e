/- The program's boxes in arrays: sidesOf, GoodBox. -/
import Derived.Test.YtnbaeplbnonhkaaBxL
namespace Go.Proofs.Ytnbaeplbnonhkaa
open Go.RowKit Plain Sch Bxs

set_option maxRecDepth 100000 in
set_option maxHeartbeats 1000000 in
theorem isEmpty_any (lo hi : Int) (w : World) :
    Calls Try.prog 57 #[.agg #[.int .i64 lo, .int .i64 hi]] w fun e w' => e = .returned (.bool (decide (hi < lo))) ∧ Below w.heap.size w w' := by
  have hB1 : ∀ o, Below w.heap.size w (w.alloc o) := fun o => (Below.refl _ w).alloc (Nat.le_refl _) o
  by_cases h : hi < lo
  · have hd : decide (hi < lo) = true := by simpa using h
    rw [hd]
    go_enter Try.func57, Try.ntmps57
    go_wp2
    go_ret
    exact ⟨rfl, hB1 _⟩
  · have hd : decide (hi < lo) = false := by simpa using h
    rw [hd]
    go_enter Try.func57, Try.ntmps57
    go_wp2
    go_ret
    exact ⟨rfl, hB1 _⟩

/-- an array in the making: the first i sides are there -/
def pre3 (T : List Sd) (i : Nat) : Bx := ⟨if 0 < i then sd T 0 else ⟨0, 0⟩, if 1 < i then sd T 1 else ⟨0, 0⟩, if 2 < i then sd T 2 else ⟨0, 0⟩⟩

theorem pre3_step (T : List Sd) {i : Nat} (hi : i < 3) {w : World} {g : Nat} (h : ArrAt w g (pre3 T i)) : ArrAt ((w.setCell ⟨g, i * 2, none⟩ (.int .i64 (sd T i).lo)).setCell ⟨g, i * 2 + 1, none⟩ (.int .i64 (sd T i).hi)) g (pre3 T (i + 1)) := by
  match i, hi with
  | 0, _ => exact h.setA (sd T 0)
  | 1, _ => exact h.setB (sd T 1)
  | 2, _ => exact h.setC (sd T 2)

/-- what sidesOf tells -/
def sof (T : List Sd) : Bx := if gb T then bx T else zeB

set_option maxRecDepth 100000 in
set_option maxHeartbeats 8000000 in
theorem sidesOf_any (T : List Sd) (v : Value) (w : World) (hT : SdsAt w w.heap.size v T) :
    Calls Try.prog 40 #[.agg #[v]] w fun e w' => e = .returned (.tuple #[(sof T).val, .bool (gb T)]) ∧ Below w.heap.size w w' := by
  obtain ⟨ao, cap, rfl, hlc, hcm, hrow⟩ := hT
  unfold maxLen at hcm
  have HROW : Hid (∀ i, i < T.length → ∃ g o, ao = some ⟨g, o, none⟩ ∧ g < w.heap.size ∧ SdIn w g (o + i * 2) (sd T i)) := hrow
  clear hrow
  have rc := fun (tmps : Array Value) (P : Program) (w : World) => results_cell_tmpB (fn := Try.f40) (p := 2) (u := 3) (ty := 60) rfl tmps P w
  obtain ⟨W1, hW1⟩ : ∃ W, W = ((w.alloc (.cells #[.slice ao T.length cap] 25)).alloc zeB.obj).alloc zeB.obj := ⟨_, rfl⟩
  have hB1 : Below w.heap.size w W1 := by rw [hW1]; exact (((Below.refl _ w).alloc (Nat.le_refl _) _).alloc (by simp) _).alloc (by simp; omega) _
  have hs1 : Hid (W1.heap.size = w.heap.size + 3) := by show _ = _; rw [hW1]; simp
  have q1 : W1.cell? ⟨w.heap.size, 0, none⟩ = some (.slice ao T.length cap) := by rw [hW1]; go_simp
  have hA2 : Hid (ArrAt W1 (w.heap.size + 1) zeB) := by
    show ArrAt _ _ _
    rw [hW1]
    have h := ArrAt.made (w.alloc (.cells #[.slice ao T.length cap] 25)) zeB
    simp only [World.size_alloc] at h
    exact h.kept (Below.heap_alloc _ _ _ (by simp)) (by simp)
  have hA3 : Hid (ArrAt W1 (w.heap.size + 2) zeB) := by
    show ArrAt _ _ _
    rw [hW1]
    have h := ArrAt.made ((w.alloc (.cells #[.slice ao T.length cap] 25)).alloc zeB.obj) zeB
    simp only [World.size_alloc] at h
    exact h
  have hl1 : w.heap.size + 2 < W1.heap.size := by rw [hs1.out]; omega
  obtain ⟨R, hR⟩ : ∃ R, R = sof T := ⟨_, rfl⟩
  obtain ⟨G, hG⟩ : ∃ G, G = gb T := ⟨_, rfl⟩
  rw [← hR, ← hG]
  have HR : Hid (R = sof T) := hR
  have HG : Hid (G = gb T) := hG
  clear hR hG
  by_cases h3 : T.length = 3
  · have h3' : ((T.length : Int) != 3) = false := by simp [h3]
    have HL3 : Hid (T.length = 3) := h3
    have hle3 : T.length ≤ 3 := by omega
    clear h3
    go_enter Try.func40, Try.ntmps40
    go_upto_region 2 with fail
    rw [show ((w.alloc (.cells #[.slice ao T.length cap] 25)).alloc (.cells #[.int .i64 0, .int .i64 0, .int .i64 0, .int .i64 0, .int .i64 0, .int .i64 0] 60)).alloc (.cells #[.int .i64 0, .int .i64 0, .int .i64 0, .int .i64 0, .int .i64 0, .int .i64 0] 60) = W1 from hW1.symm]
    clear hW1
    go_wp2
    go_loopw [15] (fun vi wr => ∃ i : Nat, i ≤ T.length ∧ vi = .int .i64 (i : Int) ∧ Hid (∀ j, j < i → okS (sd T j) = true) ∧ Hid (ArrAt wr (w.heap.size + 2) (pre3 T i)) ∧ Hid (Below (w.heap.size + 2) W1 wr))
      (fun vi _ => T.length - (intOf vi).toNat)
    case atStart => exact ⟨0, by omega, rfl, fun j hj => by omega, hA3, Below.refl _ _⟩
    case round =>
      obtain ⟨i, hi, rfl, hall, hAr, hBw⟩ := hrel
      have hB0 : Below w.heap.size w wr := hB1.trans (hBw.out.mono (by omega))
      have hA2r : Hid (ArrAt wr (w.heap.size + 1) zeB) := hA2.out.below hBw.out (by omega)
      have hsz : w.heap.size + 2 < wr.heap.size := hAr.out.1
      by_cases hlt : i < T.length
      · have hlt' : (i : Int) < (T.length : Int) := by omega
        have hi3 : (i : Int) < 3 := by omega
        obtain ⟨g, o, rfl, hg, hty⟩ := HROW.out i hlt
        have hci := hty.below hB0 hg
        obtain ⟨s, hs⟩ : ∃ s, sd T i = s := ⟨_, rfl⟩
        have HS : Hid (sd T i = s) := hs
        rw [hs] at hci
        clear hs hty
        obtain ⟨lo, hi2⟩ := s
        obtain ⟨c0, c1⟩ := hci
        dsimp only at c0 c1
        obtain ⟨W3, hW3⟩ : ∃ W, W = wr.alloc (.cells #[.int .i64 lo, .int .i64 hi2] 58) := ⟨_, rfl⟩
        have hA3 : Below wr.heap.size wr W3 := by rw [hW3]; exact (Below.refl _ wr).alloc (Nat.le_refl _) _
        have z0 : W3.cell? ⟨wr.heap.size, 0, none⟩ = some (.int .i64 lo) := by rw [hW3]; go_simp
        have z1 : W3.cell? ⟨wr.heap.size, 1, none⟩ = some (.int .i64 hi2) := by rw [hW3]; go_simp
        have hl3 : wr.heap.size < W3.heap.size := by rw [hW3]; simp
        clear hA2
        go_upto_region 7 with fail
        rw [← hW3]
        clear hW3 c0 c1
        go_wp2_with fail
        refine (isEmpty_any lo hi2 _).mono ?_
        rintro e w4 ⟨rfl, hb4⟩
        have hA4 : Below wr.heap.size wr w4 := hA3.trans (hb4.mono (by omega))
        have z0 := (hb4.cell (p := ⟨wr.heap.size, 0, none⟩) hl3).trans z0
        have z1 := (hb4.cell (p := ⟨wr.heap.size, 1, none⟩) hl3).trans z1
        have hl4 : wr.heap.size < w4.heap.size := by have := hb4.size; omega
        have hB4 : Hid (Below (w.heap.size + 2) W1 w4) := hBw.out.trans (hA4.mono (by omega))
        have hA24 : Hid (ArrAt w4 (w.heap.size + 1) zeB) := hA2r.out.below hA4 (by omega)
        have hAr4 : Hid (ArrAt w4 (w.heap.size + 2) (pre3 T i)) := hAr.out.below hA4 (by omega)
        clear hb4 hA3 hA4 hBw hAr hA2r
        have HB0 : Hid (Below w.heap.size w w4) := hB1.trans (hB4.out.mono (by omega))
        by_cases hok : okS (sd T i) = true
        · have hok2 : okS ⟨lo, hi2⟩ = true := by rw [← HS.out]; exact hok
          rw [okS_iff] at hok2
          dsimp only at hok2
          obtain ⟨k1, k2, k3⟩ := hok2
          have d1 : decide (hi2 < lo) = false := by simp; omega
          have hN : Hid (∀ j, j < i + 1 → okS (sd T j) = true) := fun j hj => by
            by_cases e : j = i
            · rw [e]; exact hok
            · exact hall.out j (by omega)
          have hST : Hid (ArrAt ((w4.setCell ⟨w.heap.size + 2, i * 2, none⟩ (.int .i64 lo)).setCell ⟨w.heap.size + 2, i * 2 + 1, none⟩ (.int .i64 hi2)) (w.heap.size + 2) (pre3 T (i + 1))) := by
            have h := pre3_step T (i := i) (by omega) hAr4.out
            rw [HS.out] at h
            exact h
          have hBN : Hid (Below (w.heap.size + 2) W1 ((w4.setCell ⟨w.heap.size + 2, i * 2, none⟩ (.int .i64 lo)).setCell ⟨w.heap.size + 2, i * 2 + 1, none⟩ (.int .i64 hi2))) := (hB4.out.setCell (Nat.le_refl _) _).setCell (Nat.le_refl _) _
          have hfz : ∀ j, j < 6 → w4.frozen? ⟨w.heap.size + 2, j, none⟩ = false := hAr4.out.2.2
          have hf0 := hfz (i * 2) (by omega)
          have hf1 := hfz (i * 2 + 1) (by omega)
          obtain ⟨u0, hu0⟩ : ∃ u, w4.cell? ⟨w.heap.size + 2, i * 2, none⟩ = some u := by
            obtain ⟨y0, y1, y2, y3, y4, y5⟩ := hAr4.out.2.1
            match i, hi3 with
            | 0, _ => exact ⟨_, y0⟩
            | 1, _ => exact ⟨_, y2⟩
            | 2, _ => exact ⟨_, y4⟩
          obtain ⟨u1, hu1⟩ : ∃ u, w4.cell? ⟨w.heap.size + 2, i * 2 + 1, none⟩ = some u := by
            obtain ⟨y0, y1, y2, y3, y4, y5⟩ := hAr4.out.2.1
            match i, hi3 with
            | 0, _ => exact ⟨_, y1⟩
            | 1, _ => exact ⟨_, y3⟩
            | 2, _ => exact ⟨_, y5⟩
          clear hok hall hfz hAr4 hA24 HB0 hB4 HS
          rw [d1]
          clear d1
          go_wp2
          go_roundw
          case rel => exact ⟨i + 1, by omega, by go_num, hN, hST, hBN⟩
          case measure => simp [intOf]; omega
        · have hF : gb T = false := gb_bad hlt (by simpa using hok)
          have HZ : Hid (R = zeB ∧ G = false) := ⟨by rw [HR.out]; unfold sof; rw [hF]; rfl, HG.out.trans hF⟩
          have hbad : ¬ (-1000 ≤ lo ∧ lo ≤ hi2 ∧ hi2 ≤ 1000) := fun h => hok (by rw [HS.out, okS_iff]; exact h)
          obtain ⟨_, ⟨x0, x1, x2, x3, x4, x5⟩, xf⟩ := hA24.out
          have xf0 := xf 0 (by omega)
          have xf1 := xf 1 (by omega)
          have xf2 := xf 2 (by omega)
          have xf3 := xf 3 (by omega)
          have xf4 := xf 4 (by omega)
          have xf5 := xf 5 (by omega)
          dsimp only [zeB, Nat.zero_add] at x0 x1 x2 x3 x4 x5
          clear xf hF hok hall hAr4 hA24 hB4 HS
          by_cases k1 : hi2 < lo
          · have d1 : decide (hi2 < lo) = true := by simpa using k1
            rw [d1]
            clear d1 hbad
            go_wp2
            (try simp only [Exit.inBlock, Exit.then])
            refine bodyPost_ret (v := .tuple #[zeB.val, .bool false]) ?_ rfl ⟨by rw [HZ.out.1, HZ.out.2], ?_⟩
            · rw [rc]
              unfold Bx.val zeB
              go_simp
            · exact (((((HB0.out.setCell (by simp) _).setCell (by simp) _).setCell (by simp) _).setCell (by simp) _).setCell (by simp) _).setCell (by simp) _
          · have d1 : decide (hi2 < lo) = false := by simpa using k1
            rw [d1]
            clear d1
            by_cases k2 : lo < -1000
            · clear hbad
              go_wp2
              (try simp only [Exit.inBlock, Exit.then])
              refine bodyPost_ret (v := .tuple #[zeB.val, .bool false]) ?_ rfl ⟨by rw [HZ.out.1, HZ.out.2], ?_⟩
              · rw [rc]
                unfold Bx.val zeB
                go_simp
              · exact (((((HB0.out.setCell (by simp) _).setCell (by simp) _).setCell (by simp) _).setCell (by simp) _).setCell (by simp) _).setCell (by simp) _
            · have k3 : (1000 : Int) < hi2 := by omega
              clear hbad
              go_wp2
              (try simp only [Exit.inBlock, Exit.then])
              refine bodyPost_ret (v := .tuple #[zeB.val, .bool false]) ?_ rfl ⟨by rw [HZ.out.1, HZ.out.2], ?_⟩
              · rw [rc]
                unfold Bx.val zeB
                go_simp
              · exact (((((HB0.out.setCell (by simp) _).setCell (by simp) _).setCell (by simp) _).setCell (by simp) _).setCell (by simp) _).setCell (by simp) _
      · have hke : i = T.length := by omega
        subst hke
        have hge : ¬ ((T.length : Int) < (T.length : Int)) := by omega
        have hgT : gb T = true := gb_all HL3.out hall.out
        have HZ : Hid (R = pre3 T T.length ∧ G = true) := ⟨by rw [HR.out, HL3.out]; unfold sof; rw [hgT]; rfl, HG.out.trans hgT⟩
        obtain ⟨_, ⟨x0, x1, x2, x3, x4, x5⟩, xf⟩ := hA2r.out
        have xf0 := xf 0 (by omega)
        have xf1 := xf 1 (by omega)
        have xf2 := xf 2 (by omega)
        have xf3 := xf 3 (by omega)
        have xf4 := xf 4 (by omega)
        have xf5 := xf 5 (by omega)
        obtain ⟨_, ⟨y0, y1, y2, y3, y4, y5⟩, yf⟩ := hAr.out
        generalize pre3 T T.length = P at y0 y1 y2 y3 y4 y5 HZ hAr
        obtain ⟨⟨p0, p1⟩, ⟨p2, p3⟩, ⟨p4, p5⟩⟩ := P
        dsimp only [zeB, Nat.zero_add] at x0 x1 x2 x3 x4 x5 y0 y1 y2 y3 y4 y5
        clear xf yf hgT hall hAr hA2r hBw hA2
        go_wp2
        (try simp only [Exit.inBlock, Exit.then])
        refine bodyPost_ret (v := .tuple #[.agg #[.int .i64 p0, .int .i64 p1, .int .i64 p2, .int .i64 p3, .int .i64 p4, .int .i64 p5], .bool true]) ?_ rfl ⟨by rw [HZ.out.1, HZ.out.2]; rfl, ?_⟩
        · rw [rc]
          go_simp
        · exact (((((hB0.setCell (by simp) _).setCell (by simp) _).setCell (by simp) _).setCell (by simp) _).setCell (by simp) _).setCell (by simp) _
  · have h3' : ((T.length : Int) != 3) = true := by simp; omega
    have hF : gb T = false := gb_len h3
    have HZ : Hid (R = zeB ∧ G = false) := ⟨by rw [HR.out]; unfold sof; rw [hF]; rfl, HG.out.trans hF⟩
    obtain ⟨_, ⟨y0, y1, y2, y3, y4, y5⟩, yf⟩ := hA3.out
    obtain ⟨_, ⟨x0, x1, x2, x3, x4, x5⟩, xf⟩ := hA2.out
    have xf0 := xf 0 (by omega)
    have xf1 := xf 1 (by omega)
    have xf2 := xf 2 (by omega)
    have xf3 := xf 3 (by omega)
    have xf4 := xf 4 (by omega)
    have xf5 := xf 5 (by omega)
    dsimp only [zeB, Nat.zero_add] at y0 y1 y2 y3 y4 y5 x0 x1 x2 x3 x4 x5
    clear yf xf hF
    go_enter Try.func40, Try.ntmps40
    go_upto_region 2 with fail
    rw [show ((w.alloc (.cells #[.slice ao T.length cap] 25)).alloc (.cells #[.int .i64 0, .int .i64 0, .int .i64 0, .int .i64 0, .int .i64 0, .int .i64 0] 60)).alloc (.cells #[.int .i64 0, .int .i64 0, .int .i64 0, .int .i64 0, .int .i64 0, .int .i64 0] 60) = W1 from hW1.symm]
    clear hW1
    go_wp2
    (try simp only [Exit.inBlock, Exit.then])
    refine bodyPost_ret (v := .tuple #[zeB.val, .bool false]) ?_ rfl ⟨by rw [HZ.out.1, HZ.out.2], ?_⟩
    · rw [rc]
      unfold Bx.val zeB
      go_simp
    · exact (((((hB1.setCell (by simp) _).setCell (by simp) _).setCell (by simp) _).setCell (by simp) _).setCell (by simp) _).setCell (by simp) _

set_option maxRecDepth 100000 in
set_option maxHeartbeats 2000000 in
theorem implGoodB (T : List Sd) (v : Value) (w : World) (hT : SdsAt w w.heap.size v T) :
    Calls Try.prog 13 #[.agg #[v]] w fun e w' => e = .returned (.bool (gb T)) ∧ Below w.heap.size w w' := by
  have HT : Hid (SdsAt w w.heap.size v T) := hT
  obtain ⟨ao, cap, rfl, _⟩ := hT
  have hB1 : Below w.heap.size w (w.alloc (.cells #[.slice ao T.length cap] 25)) := (Below.refl _ w).alloc (Nat.le_refl _) _
  go_enter Try.func13, Try.ntmps13
  go_wp2_with fail
  refine (sidesOf_any T _ _ (HT.out.below hB1)).mono ?_
  rintro e w2 ⟨rfl, hb2⟩
  have hB2 : Below w.heap.size w w2 := hB1.trans (hb2.mono (by simp))
  unfold Bx.val
  go_wp2
  go_ret
  exact ⟨rfl, by repeat' (first | exact hB2 | refine Below.alloc ?_ (by have := hB2.size; simp <;> omega) _ | refine Below.setCell ?_ (by have := hB2.size; simp <;> omega) _)⟩

end Go.Proofs.Ytnbaeplbnonhkaa
