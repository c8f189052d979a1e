/- The law FnPaths: its walk. -/
import Derived.Test.YtjaklpibjijkkabDrwG
import Derived.Test.YtjaklpibjijkkabPthU
import Derived.Test.YtjaklpibjijkkabCodeB
namespace Go.Proofs.Ytjaklpibjijkkab
open Go.RowKit Plain Sch

set_option maxRecDepth 100000 in
set_option maxHeartbeats 4000000 in
theorem walkFnPaths (a0 : Option Addr) (len0 cap0 : Nat) (a1 : Option Addr) (len1 cap1 : Nat) (w : World) (w0 : len0 ≤ 1048576 → CodeAt w a0 len0) (w1 : len1 ≤ 1048576 → CodeAt w a1 len1) (_y0 : len0 ≤ 140737488351232) (_y1 : len1 ≤ 140737488351232) :
    Calls Try.prog 5 #[.slice a0 len0 cap0, .slice a1 len1 cap1] w fun e w' => e = .returned (.bool true) ∧ Below w.heap.size w w' := by
  by_cases hbig : 1048576 < (len0 : Int) + (len1 : Int)
  · clear w0 w1
    go_enter Try.func5, Try.ntmps5
    go_wp2
    go_ret
    exact ⟨rfl, Below.refl _ _⟩
  have hbig' : (len0 : Int) + (len1 : Int) ≤ 1048576 := by omega
  have hk0 : Hid (CodeAt w a0 len0) := w0 (by omega)
  have hk1 : Hid (CodeAt w a1 len1) := w1 (by omega)
  clear hbig w0 w1
  go_enter Try.func5, Try.ntmps5
  go_wp2_with fail
  refine (drawPathOf_any a0 len0 cap0 _ hk0.out).mono ?_
  rintro e w2 ⟨ar, cr, L, k, rfl, hrow, hl1, hl30, hnm, hb2⟩
  obtain ⟨W3, hW3⟩ : ∃ W, W = w2.alloc (.cells #[.slice ar L.length cr] 30) := ⟨_, rfl⟩
  have hB3 : Below w2.heap.size w2 W3 := by rw [hW3]; exact (Below.refl _ w2).alloc (Nat.le_refl _) _
  have HS3 : Hid (W3.heap.size = w2.heap.size + 1) := by show _ = _; rw [hW3]; simp
  have HC3 : Hid (∀ W : World, Below W3.heap.size W3 W → W.cell? ⟨w2.heap.size, 0, none⟩ = some (.slice ar L.length cr) ∧ w2.heap.size < W.heap.size) := fun W hW => by
    have hs := HS3.out
    have h2 := hW.size
    refine ⟨(hW.cell (p := ⟨w2.heap.size, 0, none⟩) (by show w2.heap.size < _; omega)).trans ?_, by omega⟩
    rw [hW3]; go_simp
  have HT3 : Hid (TysAt W3 W3.heap.size (.slice ar L.length cr) L) := (hrow.at hnm).below hB3
  have HB3 : Hid (Below w.heap.size w W3) := hb2.trans (hB3.mono hb2.size)
  clear hrow hnm hb2
  go_wp2_with fail
  rw [← hW3]
  clear hW3
  refine (implPath L _ k _ HT3.out).mono ?_
  rintro e w4 ⟨rfl, hb4⟩
  have c4 := HC3.out _ hb4
  have q4 := c4.1
  have hz4 := c4.2
  have HT4 : Hid (TysAt w4 w4.heap.size (.slice ar L.length cr) L) := HT3.out.below hb4
  go_wp2_with fail
  refine (specPath L _ k _ HT4.out).mono ?_
  rintro e w5 ⟨rfl, hb5⟩
  have HB5 : Hid (Below W3.heap.size W3 w5) := hb4.trans (hb5.mono hb4.size)
  have c5 := HC3.out _ HB5.out
  have q5 := c5.1
  have hz5 := c5.2
  have HT5 : Hid (TysAt w5 w5.heap.size (.slice ar L.length cr) L) := HT4.out.below hb5
  have hBw5 : Below w.heap.size w w5 := HB3.out.trans (HB5.out.mono HB3.out.size)
  have HTP : Hid (∀ p, pof L k = (p, true) → ((tat L p).1 : Int) = k ∧ (tat L p).2 = true) := fun p h => tat_of_pof L k p h
  obtain ⟨R, hR⟩ : ∃ R, pof L k = R := ⟨_, rfl⟩
  rw [hR] at HTP
  rw [hR]
  obtain ⟨p, ok⟩ := R
  clear hR hb4 hb5 c4 c5 q4 hz4 HT4
  dsimp only
  cases ok
  · go_wp2_with fail
    refine (drawTypeAt_any a1 len1 cap1 _ (hk1.out.below hBw5)).mono ?_
    rintro e w7 ⟨at7, ct7, L7, p7, rfl, hrow7, hl17, hl307, hnm7, hb7⟩
    obtain ⟨W8, hW8⟩ : ∃ W, W = w7.alloc (.cells #[.slice at7 L7.length ct7] 30) := ⟨_, rfl⟩
    have hB8 : Below w7.heap.size w7 W8 := by rw [hW8]; exact (Below.refl _ w7).alloc (Nat.le_refl _) _
    have HS8 : Hid (W8.heap.size = w7.heap.size + 1) := by show _ = _; rw [hW8]; simp
    have HC8 : Hid (∀ W : World, Below W8.heap.size W8 W → W.cell? ⟨w7.heap.size, 0, none⟩ = some (.slice at7 L7.length ct7) ∧ w7.heap.size < W.heap.size) := fun W hW => by
      have hs := HS8.out
      have h2 := hW.size
      refine ⟨(hW.cell (p := ⟨w7.heap.size, 0, none⟩) (by show w7.heap.size < _; omega)).trans ?_, by omega⟩
      rw [hW8]; go_simp
    have HT8 : Hid (TysAt W8 W8.heap.size (.slice at7 L7.length ct7) L7) := (hrow7.at hnm7).below hB8
    have HB8 : Hid (Below w.heap.size w W8) := (hBw5.trans (hb7.mono hBw5.size)).trans (hB8.mono (by have h1 := hBw5.size; have h2 := hb7.size; omega))
    clear hrow7 hnm7 hb7
    go_wp2_with fail
    rw [← hW8]
    clear hW8
    refine (implTypeAt L7 _ p7 _ HT8.out).mono ?_
    rintro e w9 ⟨rfl, hb9⟩
    have c9 := HC8.out _ hb9
    have q9 := c9.1
    have hz9 := c9.2
    have HT9 : Hid (TysAt w9 w9.heap.size (.slice at7 L7.length ct7) L7) := HT8.out.below hb9
    go_wp2_with fail
    refine (specTypeAt L7 _ p7 _ HT9.out).mono ?_
    rintro e w10 ⟨rfl, hb10⟩
    have HB10 : Hid (Below W8.heap.size W8 w10) := hb9.trans (hb10.mono hb9.size)
    have c10 := HC8.out _ HB10.out
    have q10 := c10.1
    have hz10 := c10.2
    have HT10 : Hid (TysAt w10 w10.heap.size (.slice at7 L7.length ct7) L7) := HT9.out.below hb10
    have hBw10 : Below w.heap.size w w10 := HB8.out.trans (HB10.out.mono HB8.out.size)
    have HZ : Hid ((tat L7 p7).2 = false → (tat L7 p7).1 = 0) := tat_zero L7 p7
    have PC : Hid ((tat L7 p7).2 = true → Calls Try.prog 10 #[.agg #[.slice at7 L7.length ct7], .int .i64 ((tat L7 p7).1 : Int)] w10 fun e w' => e = .returned (.tuple #[.string p7, .bool true]) ∧ Below w10.heap.size w10 w') := fun h => by
      have := implPath L7 _ ((tat L7 p7).1 : Int) w10 HT10.out
      rw [pof_of_tat L7 p7 h] at this
      exact this
    generalize tat L7 p7 = R7 at HZ PC ⊢
    obtain ⟨x7, is7⟩ := R7
    clear hb9 hb10 c9 c10 q9 hz9 HT9 HT10
    dsimp only at HZ PC ⊢
    cases is7
    · have hx0 := HZ.out rfl
      subst hx0
      clear HZ PC
      go_wp2
      go_ret
      exact ⟨rfl, hBw10⟩
    · have PC' : Hid (Calls Try.prog 10 #[.agg #[.slice at7 L7.length ct7], .int .i64 (x7 : Int)] w10 fun e w' => e = .returned (.tuple #[.string p7, .bool true]) ∧ Below w10.heap.size w10 w') := PC.out rfl
      clear HZ PC
      go_wp2_with fail
      refine PC'.out.mono ?_
      rintro e w11 ⟨rfl, hb11⟩
      have hBw11 : Below w.heap.size w w11 := hBw10.trans (hb11.mono hBw10.size)
      clear hb11 PC'
      go_wp2
      go_ret
      exact ⟨rfl, hBw11⟩
  · have hta := HTP.out p rfl
    have TA : Hid (Calls Try.prog 13 #[.agg #[.slice ar L.length cr], .string p] w5 fun e w' => e = .returned (.tuple #[.int .i64 k, .bool true]) ∧ Below w5.heap.size w5 w') := by
      have := implTypeAt L _ p w5 HT5.out
      rw [hta.1, hta.2] at this
      exact this
    clear hta HTP
    go_wp2_with fail
    refine TA.out.mono ?_
    rintro e w6 ⟨rfl, hb6⟩
    have hBw6 : Below w.heap.size w w6 := hBw5.trans (hb6.mono hBw5.size)
    clear hb6 TA
    go_wp2_with fail
    refine (drawTypeAt_any a1 len1 cap1 _ (hk1.out.below hBw6)).mono ?_
    rintro e w7 ⟨at7, ct7, L7, p7, rfl, hrow7, hl17, hl307, hnm7, hb7⟩
    obtain ⟨W8, hW8⟩ : ∃ W, W = w7.alloc (.cells #[.slice at7 L7.length ct7] 30) := ⟨_, rfl⟩
    have hB8 : Below w7.heap.size w7 W8 := by rw [hW8]; exact (Below.refl _ w7).alloc (Nat.le_refl _) _
    have HS8 : Hid (W8.heap.size = w7.heap.size + 1) := by show _ = _; rw [hW8]; simp
    have HC8 : Hid (∀ W : World, Below W8.heap.size W8 W → W.cell? ⟨w7.heap.size, 0, none⟩ = some (.slice at7 L7.length ct7) ∧ w7.heap.size < W.heap.size) := fun W hW => by
      have hs := HS8.out
      have h2 := hW.size
      refine ⟨(hW.cell (p := ⟨w7.heap.size, 0, none⟩) (by show w7.heap.size < _; omega)).trans ?_, by omega⟩
      rw [hW8]; go_simp
    have HT8 : Hid (TysAt W8 W8.heap.size (.slice at7 L7.length ct7) L7) := (hrow7.at hnm7).below hB8
    have HB8 : Hid (Below w.heap.size w W8) := (hBw6.trans (hb7.mono hBw6.size)).trans (hB8.mono (by have h1 := hBw6.size; have h2 := hb7.size; omega))
    clear hrow7 hnm7 hb7
    go_wp2_with fail
    rw [← hW8]
    clear hW8
    refine (implTypeAt L7 _ p7 _ HT8.out).mono ?_
    rintro e w9 ⟨rfl, hb9⟩
    have c9 := HC8.out _ hb9
    have q9 := c9.1
    have hz9 := c9.2
    have HT9 : Hid (TysAt w9 w9.heap.size (.slice at7 L7.length ct7) L7) := HT8.out.below hb9
    go_wp2_with fail
    refine (specTypeAt L7 _ p7 _ HT9.out).mono ?_
    rintro e w10 ⟨rfl, hb10⟩
    have HB10 : Hid (Below W8.heap.size W8 w10) := hb9.trans (hb10.mono hb9.size)
    have c10 := HC8.out _ HB10.out
    have q10 := c10.1
    have hz10 := c10.2
    have HT10 : Hid (TysAt w10 w10.heap.size (.slice at7 L7.length ct7) L7) := HT9.out.below hb10
    have hBw10 : Below w.heap.size w w10 := HB8.out.trans (HB10.out.mono HB8.out.size)
    have HZ : Hid ((tat L7 p7).2 = false → (tat L7 p7).1 = 0) := tat_zero L7 p7
    have PC : Hid ((tat L7 p7).2 = true → Calls Try.prog 10 #[.agg #[.slice at7 L7.length ct7], .int .i64 ((tat L7 p7).1 : Int)] w10 fun e w' => e = .returned (.tuple #[.string p7, .bool true]) ∧ Below w10.heap.size w10 w') := fun h => by
      have := implPath L7 _ ((tat L7 p7).1 : Int) w10 HT10.out
      rw [pof_of_tat L7 p7 h] at this
      exact this
    generalize tat L7 p7 = R7 at HZ PC ⊢
    obtain ⟨x7, is7⟩ := R7
    clear hb9 hb10 c9 c10 q9 hz9 HT9 HT10
    dsimp only at HZ PC ⊢
    cases is7
    · have hx0 := HZ.out rfl
      subst hx0
      clear HZ PC
      go_wp2
      go_ret
      exact ⟨rfl, hBw10⟩
    · have PC' : Hid (Calls Try.prog 10 #[.agg #[.slice at7 L7.length ct7], .int .i64 (x7 : Int)] w10 fun e w' => e = .returned (.tuple #[.string p7, .bool true]) ∧ Below w10.heap.size w10 w') := PC.out rfl
      clear HZ PC
      go_wp2_with fail
      refine PC'.out.mono ?_
      rintro e w11 ⟨rfl, hb11⟩
      have hBw11 : Below w.heap.size w w11 := hBw10.trans (hb11.mono hBw10.size)
      clear hb11 PC'
      go_wp2
      go_ret
      exact ⟨rfl, hBw11⟩

end Go.Proofs.Ytjaklpibjijkkab
