/- The program's GoodProgram. -/
import Derived.Test.YtmjpmmkjfimopaaDoorPiC
namespace Go.Proofs.YtmjpmmkjfimopaaDoor
open Go.RowKit Plain Sch Wan Prg

set_option maxRecDepth 100000 in
set_option maxHeartbeats 4000000 in
theorem implGoodP (T : List Ins) (v : Value) (w : World) (hT : InsAt w w.heap.size v T) :
    Calls Tryd.prog 12 #[.agg #[v]] w fun e w' => e = .returned (.bool (gp T)) ∧ Below w.heap.size w w' := by
  obtain ⟨ao, cap, rfl, hlc, hcm, hrow, hnm⟩ := hT
  have HROW : Hid (∀ i, i < T.length → ∃ g o, ao = some ⟨g, o, none⟩ ∧ g < w.heap.size ∧ InsIn w g (o + i * 6) (ins T i)) := hrow
  have HNM : Hid (∀ i, i < T.length → (ins T i).text.size ≤ maxLen) := hnm
  clear hrow hnm
  unfold maxLen at hcm
  have hB1 : ∀ o, Below w.heap.size w (w.alloc o) := fun o => (Below.refl _ w).alloc (Nat.le_refl _) o
  by_cases h60 : 1 ≤ T.length ∧ T.length ≤ 60
  · obtain ⟨h0, h60⟩ := h60
    have h0' : ¬ (T.length : Int) < 1 := by omega
    have h0n : ¬ T.length < 1 := by omega
    have h60' : ¬ (60 : Int) < (T.length : Int) := by omega
    have h60n : ¬ 60 < T.length := by omega
    have hBX := hB1 (.cells #[.slice ao T.length cap] 30)
    go_enter Tryd.func12, Tryd.ntmps12
    go_wp2
    go_loopw [24] (fun vi wr => ∃ i : Nat, i ≤ T.length ∧ vi = .int .i64 (i : Int) ∧ Hid (∀ j, j < i → okP (ins T j) j ((T.length : Int) - 1) = true) ∧ Hid (Below w.heap.size w wr) ∧ w.heap.size < wr.heap.size)
      (fun vi _ => T.length - (intOf vi).toNat)
    case atStart => exact ⟨0, by omega, rfl, fun j hj => by omega, hBX, by simp⟩
    case round =>
      obtain ⟨i, hi, rfl, hall, hBw, hsz⟩ := hrel
      by_cases hlt : i < T.length
      · have hlt' : (i : Int) < (T.length : Int) := by omega
        obtain ⟨g, o, rfl, hg, hty⟩ := HROW.out i hlt
        have hci := hty.below hBw.out hg
        have hni := HNM.out i hlt
        have hBad : Hid (okP (ins T i) i ((T.length : Int) - 1) = false → gp T = false) := fun h => gp_bad hlt h
        have hNx : Hid (okP (ins T i) i ((T.length : Int) - 1) = true → ∀ j, j < i + 1 → okP (ins T j) j ((T.length : Int) - 1) = true) := fun h j hj => by
          by_cases e : j = i
          · rw [e]; exact h
          · exact hall.out j (by omega)
        have hEQ : Hid (((decide ((ins T i).code = 5) == decide ((i : Int) = (T.length : Int) - 1)) && okI (ins T i) i ((T.length : Int) - 1)) = okP (ins T i) i ((T.length : Int) - 1)) := rfl
        have CG : Hid (∀ W : World, Calls Tryd.prog 29 #[.agg #[.int .i64 (ins T i).code, .int .i64 (ins T i).kind, .int .i64 (ins T i).no, .int .i64 (ins T i).num, .string (ins T i).text, .int .i64 (ins T i).dst], .int .i64 i, .int .i64 ((T.length : Int) - 1)] W fun e w' => e = .returned (.bool (okI (ins T i) i ((T.length : Int) - 1))) ∧ Below W.heap.size W w') := fun W => goodInstr_any (ins T i) i ((T.length : Int) - 1) W hni
        generalize okP (ins T i) i ((T.length : Int) - 1) = ok at hBad hNx hEQ
        generalize okI (ins T i) i ((T.length : Int) - 1) = ok2 at CG hEQ
        generalize ins T i = x at hci hni CG hEQ
        obtain ⟨c, k, n, m, t, jt⟩ := x
        dsimp only at hci hni CG hEQ
        obtain ⟨c0, c1, c2, c3, c4, c5⟩ := hci
        dsimp only at c0 c1 c2 c3 c4 c5
        clear hty hni hall
        obtain ⟨W3, hW3⟩ : ∃ W, W = wr.alloc (.cells #[.int .i64 c, .int .i64 k, .int .i64 n, .int .i64 m, .string t, .int .i64 jt] 59) := ⟨_, rfl⟩
        have hA3 : Below wr.heap.size wr W3 := by rw [hW3]; exact (Below.refl _ wr).alloc (Nat.le_refl _) _
        have hl3 : wr.heap.size < W3.heap.size := by rw [hW3]; simp
        have z0 : W3.cell? ⟨wr.heap.size, 0, none⟩ = some (.int .i64 c) := by rw [hW3]; go_simp
        by_cases hl : (i : Int) = (T.length : Int) - 1
        · have hl' : ((i : Int) == (T.length : Int) - 1) = true := by simp [hl]
          have HLL : Hid ((i : Int) = (T.length : Int) - 1) := hl
          clear hl
          by_cases h5 : c = 5
          · subst h5
            go_wp2_with fail
            rw [← hW3]
            clear hW3 c0 c1 c2 c3 c4 c5
            refine (CG.out _).mono ?_
            rintro e w4 ⟨rfl, hb4⟩
            have hA4 : Hid (Below wr.heap.size wr w4) := hA3.trans (hb4.mono (by omega))
            have hl4 : w.heap.size < w4.heap.size := by have := hb4.size; omega
            have hB4 : Hid (Below w.heap.size w w4) := hBw.out.trans (hA4.out.mono (by omega))
            clear hb4 hA3 CG
            cases ok2 with
            | false =>
              have hF : Hid (gp T = false) := hBad.out (by rw [← hEQ.out]; simp)
              clear hBad hNx hEQ
              go_wp2
              go_ret
              exact ⟨by rw [hF.out]; rfl, hB4.out⟩
            | true =>
              have hNx2 : Hid (∀ j, j < i + 1 → okP (ins T j) j ((T.length : Int) - 1) = true) := hNx.out (by rw [← hEQ.out]; simp [HLL.out])
              clear hBad hNx hEQ
              go_wp2
              go_roundw
              case rel => exact ⟨i + 1, by omega, by go_num, hNx2, hB4, hl4⟩
              case measure => simp [intOf]; omega
          · have h5' : (c == 5) = false := by simp [h5]
            clear hW3 hA3 hl3 z0 CG
            have hF : Hid (gp T = false) := hBad.out (by rw [← hEQ.out]; simp [HLL.out, h5])
            clear hBad hNx hEQ h5
            go_wp2
            go_ret
            exact ⟨by rw [hF.out]; rfl, hBw.out.trans ((Below.refl _ wr).alloc (Nat.le_refl _) _ |>.mono (by omega))⟩
        · have hl' : ((i : Int) == (T.length : Int) - 1) = false := by simp [hl]
          by_cases h5 : c = 5
          · subst h5
            clear hW3 hA3 hl3 z0 CG
            have hF : Hid (gp T = false) := hBad.out (by rw [← hEQ.out]; simp [hl])
            clear hBad hNx hEQ hl
            go_wp2
            go_ret
            exact ⟨by rw [hF.out]; rfl, hBw.out.trans ((Below.refl _ wr).alloc (Nat.le_refl _) _ |>.mono (by omega))⟩
          · have h5' : (c == 5) = false := by simp [h5]
            go_wp2_with fail
            rw [← hW3]
            clear hW3 c0 c1 c2 c3 c4 c5
            refine (CG.out _).mono ?_
            rintro e w4 ⟨rfl, hb4⟩
            have hA4 : Hid (Below wr.heap.size wr w4) := hA3.trans (hb4.mono (by omega))
            have hl4 : w.heap.size < w4.heap.size := by have := hb4.size; omega
            have hB4 : Hid (Below w.heap.size w w4) := hBw.out.trans (hA4.out.mono (by omega))
            clear hb4 hA3 CG
            cases ok2 with
            | false =>
              have hF : Hid (gp T = false) := hBad.out (by rw [← hEQ.out]; simp)
              clear hBad hNx hEQ
              go_wp2
              go_ret
              exact ⟨by rw [hF.out]; rfl, hB4.out⟩
            | true =>
              have hNx2 : Hid (∀ j, j < i + 1 → okP (ins T j) j ((T.length : Int) - 1) = true) := hNx.out (by rw [← hEQ.out]; simp [hl, h5])
              clear hBad hNx hEQ
              go_wp2
              go_roundw
              case rel => exact ⟨i + 1, by omega, by go_num, hNx2, hB4, hl4⟩
              case measure => simp [intOf]; omega
      · have hlt' : ¬ (i : Int) < (T.length : Int) := by omega
        have hT : Hid (gp T = true) := gp_all h0 h60 (fun j hj => hall.out j (by omega))
        clear hall
        go_wp2
        go_ret
        exact ⟨by rw [hT.out]; rfl, hBw.out⟩
  · have hF : Hid (gp T = false) := by
      show gp T = false
      by_cases q : T.length < 1
      · exact gp_none q
      · exact gp_many (by omega)
    by_cases q : T.length < 1
    · have q' : (T.length : Int) < 1 := by omega
      go_enter Tryd.func12, Tryd.ntmps12
      go_wp2
      go_ret
      exact ⟨by rw [hF.out]; rfl, hB1 _⟩
    · have q' : ¬ (T.length : Int) < 1 := by omega
      have q2 : (60 : Int) < (T.length : Int) := by omega
      go_enter Tryd.func12, Tryd.ntmps12
      go_wp2
      go_ret
      exact ⟨by rw [hF.out]; rfl, hB1 _⟩

end Go.Proofs.YtmjpmmkjfimopaaDoor
