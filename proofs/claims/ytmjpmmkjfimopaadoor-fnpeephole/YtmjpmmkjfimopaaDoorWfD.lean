/- The program's goodJoining. -/
import Derived.Test.YtmjpmmkjfimopaaDoorWfB
import Derived.BigQuiet
namespace Go.Proofs.YtmjpmmkjfimopaaDoor
open Go.RowKit Plain Sch Wan

attribute [local go_sem] storeJ storeF
attribute [local go_sem ↓] eqlW

/-- own wants that rise, all ahead of a place -/
def riseO : Int → Int → List Int → Bool
  | _, _, [] => true
  | last, i, x :: l => decide (last < x) && decide (x < i) && riseO x i l

theorem riseO_step {last i : Int} {l : List Int} {j : Nat} {x : Int} (h : l[j]? = some x) : riseO last i (l.drop j) = (decide (last < x) && decide (x < i) && riseO x i (l.drop (j + 1))) := by
  obtain ⟨hj, hx⟩ := List.getElem?_eq_some_iff.1 h
  rw [List.drop_eq_getElem_cons hj, hx]
  rfl

set_option maxRecDepth 100000 in
set_option maxHeartbeats 4000000 in
theorem goodJoining_one (hb : Bool) (k n m : Int) (t : ByteArray) (a b j : Int) (i : Nat) (w : World) (b' : Int) (hbb : Hid (b' = if hb then b else 0)) :
    Calls Tryd.prog 75 #[.agg #[.int .i64 k, .int .i64 n, .int .i64 m, .string t, .int .i64 a, .int .i64 b], .agg #[.bool hb, fnJ j], .int .i64 i] w fun e w' => e = .returned (.bool (riseO (-1) i (own ⟨k, n, m, t, a, b⟩) && weq ⟨k, n, m, t, a, b⟩ ⟨k, 0, 0, ⟨#[]⟩, a, b'⟩)) ∧ Below w.heap.size w w' := by
  have CO : Hid (∀ W : World, Calls Tryd.prog 46 #[.agg #[.int .i64 k, .int .i64 n, .int .i64 m, .string t, .int .i64 a, .int .i64 b]] W fun e w' => ∃ v, e = .returned v ∧ ZAt w' w'.heap.size v (own ⟨k, n, m, t, a, b⟩) ∧ Below W.heap.size W w') := fun W => (ownWants_any ⟨k, n, m, t, a, b⟩ W).mono (by rintro e w' ⟨v, h1, h2, _, h3⟩; exact ⟨v, h1, h2, h3⟩)
  have hol : (own ⟨k, n, m, t, a, b⟩).length ≤ 2 := by
    unfold own
    by_cases h1 : isBin k = true
    · rw [if_pos h1]; simp
    · rw [if_neg h1]
      by_cases h2 : isNot k = true
      · rw [if_pos h2]; simp
      · rw [if_neg h2]; simp
  obtain ⟨R, hR⟩ : ∃ R, R = (riseO (-1) i (own ⟨k, n, m, t, a, b⟩) && weq ⟨k, n, m, t, a, b⟩ ⟨k, 0, 0, ⟨#[]⟩, a, b'⟩) := ⟨_, rfl⟩
  have HR : Hid (R = (riseO (-1) i ((own ⟨k, n, m, t, a, b⟩).drop 0) && weq ⟨k, n, m, t, a, b⟩ ⟨k, 0, 0, ⟨#[]⟩, a, b'⟩)) := hR
  rw [← hR]
  clear hR
  generalize own ⟨k, n, m, t, a, b⟩ = L at CO HR hol
  obtain ⟨W3, hW3⟩ : ∃ W, W = ((w.alloc (.cells #[.int .i64 k, .int .i64 n, .int .i64 m, .string t, .int .i64 a, .int .i64 b] 66)).alloc (.cells #[.bool hb, fnJ j] 102)).alloc (.cells #[.int .i64 k, .int .i64 0, .int .i64 0, .string ⟨#[]⟩, .int .i64 a, .int .i64 b'] 66) := ⟨_, rfl⟩
  have hB3 : Below w.heap.size w W3 := by rw [hW3]; exact (((Below.refl _ w).alloc (Nat.le_refl _) _).alloc (by simp) _).alloc (by simp; omega) _
  have hs3 : Hid (W3.heap.size = w.heap.size + 3) := by show _ = _; rw [hW3]; simp
  have x0 : W3.cell? ⟨w.heap.size, 0, none⟩ = some (.int .i64 k) := by rw [hW3]; go_simp
  have x1 : W3.cell? ⟨w.heap.size, 1, none⟩ = some (.int .i64 n) := by rw [hW3]; go_simp
  have x2 : W3.cell? ⟨w.heap.size, 2, none⟩ = some (.int .i64 m) := by rw [hW3]; go_simp
  have x3 : W3.cell? ⟨w.heap.size, 3, none⟩ = some (.string t) := by rw [hW3]; go_simp
  have x4 : W3.cell? ⟨w.heap.size, 4, none⟩ = some (.int .i64 a) := by rw [hW3]; go_simp
  have x5 : W3.cell? ⟨w.heap.size, 5, none⟩ = some (.int .i64 b) := by rw [hW3]; go_simp
  have y0 : W3.cell? ⟨w.heap.size + 1 + 1, 0, none⟩ = some (.int .i64 k) := by rw [hW3]; go_simp
  have y1 : W3.cell? ⟨w.heap.size + 1 + 1, 1, none⟩ = some (.int .i64 0) := by rw [hW3]; go_simp
  have y2 : W3.cell? ⟨w.heap.size + 1 + 1, 2, none⟩ = some (.int .i64 0) := by rw [hW3]; go_simp
  have y3 : W3.cell? ⟨w.heap.size + 1 + 1, 3, none⟩ = some (.string ⟨#[]⟩) := by rw [hW3]; go_simp
  have y4 : W3.cell? ⟨w.heap.size + 1 + 1, 4, none⟩ = some (.int .i64 a) := by rw [hW3]; go_simp
  have y5 : W3.cell? ⟨w.heap.size + 1 + 1, 5, none⟩ = some (.int .i64 b') := by rw [hW3]; go_simp
  have main : ∀ (K : Prop), (Below w.heap.size w W3 → K) → K := fun K h => h hB3
  go_enter Tryd.func75, Tryd.ntmps75
  cases hb with
  | true =>
    have e : b = b' := by have := hbb.out; simpa using this.symm
    subst e
    clear hbb main
    go_wp2_with fail
    rw [← hW3]
    clear hW3
    refine (CO.out _).mono ?_
    rintro e w4 ⟨v, rfl, hz4, hb4⟩
    have hz0 := hz4
    obtain ⟨ao, cap, rfl, hlc, hcm, hrow⟩ := hz4
    unfold maxLen at hcm
    have HROW : Hid (∀ i (x : Int), L[i]? = some x → ∃ g o, ao = some ⟨g, o, none⟩ ∧ g < w4.heap.size ∧ w4.cell? ⟨g, o + i, none⟩ = some (.int .i64 x)) := hrow
    have hs4 : Hid (w.heap.size + 3 ≤ w4.heap.size) := by have := hb4.size; rw [hs3.out] at this; exact this
    have hB4 : Below w.heap.size w w4 := hB3.trans (hb4.mono (by rw [hs3.out]; omega))
    have x0 := (hb4.cell (p := ⟨w.heap.size, 0, none⟩) (by show w.heap.size < _; rw [hs3.out]; omega)).trans x0
    have x1 := (hb4.cell (p := ⟨w.heap.size, 1, none⟩) (by show w.heap.size < _; rw [hs3.out]; omega)).trans x1
    have x2 := (hb4.cell (p := ⟨w.heap.size, 2, none⟩) (by show w.heap.size < _; rw [hs3.out]; omega)).trans x2
    have x3 := (hb4.cell (p := ⟨w.heap.size, 3, none⟩) (by show w.heap.size < _; rw [hs3.out]; omega)).trans x3
    have x4 := (hb4.cell (p := ⟨w.heap.size, 4, none⟩) (by show w.heap.size < _; rw [hs3.out]; omega)).trans x4
    have x5 := (hb4.cell (p := ⟨w.heap.size, 5, none⟩) (by show w.heap.size < _; rw [hs3.out]; omega)).trans x5
    have y0 := (hb4.cell (p := ⟨w.heap.size + 1 + 1, 0, none⟩) (by show w.heap.size + 1 + 1 < _; rw [hs3.out]; omega)).trans y0
    have y1 := (hb4.cell (p := ⟨w.heap.size + 1 + 1, 1, none⟩) (by show w.heap.size + 1 + 1 < _; rw [hs3.out]; omega)).trans y1
    have y2 := (hb4.cell (p := ⟨w.heap.size + 1 + 1, 2, none⟩) (by show w.heap.size + 1 + 1 < _; rw [hs3.out]; omega)).trans y2
    have y3 := (hb4.cell (p := ⟨w.heap.size + 1 + 1, 3, none⟩) (by show w.heap.size + 1 + 1 < _; rw [hs3.out]; omega)).trans y3
    have y4 := (hb4.cell (p := ⟨w.heap.size + 1 + 1, 4, none⟩) (by show w.heap.size + 1 + 1 < _; rw [hs3.out]; omega)).trans y4
    have y5 := (hb4.cell (p := ⟨w.heap.size + 1 + 1, 5, none⟩) (by show w.heap.size + 1 + 1 < _; rw [hs3.out]; omega)).trans y5
    clear hb4 hz0 hrow hs3 hB3
    go_wp2
    go_loop [8, 24] (fun vl vi => ∃ (q : Nat) (last : Int), q ≤ L.length ∧ vi = .int .i64 (q : Int) ∧ vl = .int .i64 last ∧ Hid (R = (riseO last i (L.drop q) && weq ⟨k, n, m, t, a, b⟩ ⟨k, 0, 0, ⟨#[]⟩, a, b⟩)))
      (fun _ vi => L.length - (intOf vi).toNat)
    case atStart => exact ⟨0, -1, by omega, rfl, rfl, HR⟩
    case round =>
      obtain ⟨q, last, hq, rfl, rfl, hr⟩ := hrel
      by_cases hlt : q < L.length
      · have hlt' : (q : Int) < (L.length : Int) := by omega
        obtain ⟨z, hz⟩ : ∃ z, L[q]? = some z := ⟨_, List.getElem?_eq_getElem hlt⟩
        obtain ⟨g, o, rfl, hg, hcell⟩ := HROW.out q z hz
        have hr2 : Hid (R = ((decide (last < z) && decide (z < i) && riseO z i (L.drop (q + 1))) && weq ⟨k, n, m, t, a, b⟩ ⟨k, 0, 0, ⟨#[]⟩, a, b⟩)) := by show R = _; rw [hr.out, riseO_step hz]
        clear hr hz
        by_cases hl1 : last < z
        · have hl1' : ¬ z ≤ last := by omega
          by_cases hl2 : z < (i : Int)
          · have hr3 : Hid (R = (riseO z i (L.drop (q + 1)) && weq ⟨k, n, m, t, a, b⟩ ⟨k, 0, 0, ⟨#[]⟩, a, b⟩)) := by show R = _; rw [hr2.out]; simp [hl1, hl2]
            have hl2' : ¬ (i : Int) ≤ z := by omega
            clear hr2
            go_wp2
            go_round
            case rel => exact ⟨q + 1, z, by omega, by go_num, rfl, hr3⟩
            case measure => simp [intOf]; omega
          · have hF : Hid (R = false) := by show R = _; rw [hr2.out]; simp [hl2]
            have hl2' : (i : Int) ≤ z := by omega
            clear hr2
            go_wp2
            go_ret
            exact ⟨by rw [hF.out]; rfl, hB4⟩
        · have hF : Hid (R = false) := by show R = _; rw [hr2.out]; simp [hl1]
          have hl1' : z ≤ last := by omega
          clear hr2
          go_wp2
          go_ret
          exact ⟨by rw [hF.out]; rfl, hB4⟩
      · have hke : q = L.length := by omega
        subst hke
        have hge : ¬ ((L.length : Int) < (L.length : Int)) := by omega
        have hF : Hid (R = weq ⟨k, n, m, t, a, b⟩ ⟨k, 0, 0, ⟨#[]⟩, a, b⟩) := by
          show R = _
          rw [hr.out, List.drop_length]
          rfl
        clear hr
        go_wp2
        go_ret
        exact ⟨by rw [hF.out]; rfl, hB4⟩
  | false =>
    have e : b' = 0 := by have := hbb.out; simpa using this
    subst e
    clear hbb main
    go_wp2_with fail
    rw [← hW3]
    clear hW3
    refine (CO.out _).mono ?_
    rintro e w4 ⟨v, rfl, hz4, hb4⟩
    have hz0 := hz4
    obtain ⟨ao, cap, rfl, hlc, hcm, hrow⟩ := hz4
    unfold maxLen at hcm
    have HROW : Hid (∀ i (x : Int), L[i]? = some x → ∃ g o, ao = some ⟨g, o, none⟩ ∧ g < w4.heap.size ∧ w4.cell? ⟨g, o + i, none⟩ = some (.int .i64 x)) := hrow
    have hs4 : Hid (w.heap.size + 3 ≤ w4.heap.size) := by have := hb4.size; rw [hs3.out] at this; exact this
    have hB4 : Below w.heap.size w w4 := hB3.trans (hb4.mono (by rw [hs3.out]; omega))
    have x0 := (hb4.cell (p := ⟨w.heap.size, 0, none⟩) (by show w.heap.size < _; rw [hs3.out]; omega)).trans x0
    have x1 := (hb4.cell (p := ⟨w.heap.size, 1, none⟩) (by show w.heap.size < _; rw [hs3.out]; omega)).trans x1
    have x2 := (hb4.cell (p := ⟨w.heap.size, 2, none⟩) (by show w.heap.size < _; rw [hs3.out]; omega)).trans x2
    have x3 := (hb4.cell (p := ⟨w.heap.size, 3, none⟩) (by show w.heap.size < _; rw [hs3.out]; omega)).trans x3
    have x4 := (hb4.cell (p := ⟨w.heap.size, 4, none⟩) (by show w.heap.size < _; rw [hs3.out]; omega)).trans x4
    have x5 := (hb4.cell (p := ⟨w.heap.size, 5, none⟩) (by show w.heap.size < _; rw [hs3.out]; omega)).trans x5
    have y0 := (hb4.cell (p := ⟨w.heap.size + 1 + 1, 0, none⟩) (by show w.heap.size + 1 + 1 < _; rw [hs3.out]; omega)).trans y0
    have y1 := (hb4.cell (p := ⟨w.heap.size + 1 + 1, 1, none⟩) (by show w.heap.size + 1 + 1 < _; rw [hs3.out]; omega)).trans y1
    have y2 := (hb4.cell (p := ⟨w.heap.size + 1 + 1, 2, none⟩) (by show w.heap.size + 1 + 1 < _; rw [hs3.out]; omega)).trans y2
    have y3 := (hb4.cell (p := ⟨w.heap.size + 1 + 1, 3, none⟩) (by show w.heap.size + 1 + 1 < _; rw [hs3.out]; omega)).trans y3
    have y4 := (hb4.cell (p := ⟨w.heap.size + 1 + 1, 4, none⟩) (by show w.heap.size + 1 + 1 < _; rw [hs3.out]; omega)).trans y4
    have y5 := (hb4.cell (p := ⟨w.heap.size + 1 + 1, 5, none⟩) (by show w.heap.size + 1 + 1 < _; rw [hs3.out]; omega)).trans y5
    clear hb4 hz0 hrow hs3 hB3
    go_wp2
    go_loop [8, 24] (fun vl vi => ∃ (q : Nat) (last : Int), q ≤ L.length ∧ vi = .int .i64 (q : Int) ∧ vl = .int .i64 last ∧ Hid (R = (riseO last i (L.drop q) && weq ⟨k, n, m, t, a, b⟩ ⟨k, 0, 0, ⟨#[]⟩, a, 0⟩)))
      (fun _ vi => L.length - (intOf vi).toNat)
    case atStart => exact ⟨0, -1, by omega, rfl, rfl, HR⟩
    case round =>
      obtain ⟨q, last, hq, rfl, rfl, hr⟩ := hrel
      by_cases hlt : q < L.length
      · have hlt' : (q : Int) < (L.length : Int) := by omega
        obtain ⟨z, hz⟩ : ∃ z, L[q]? = some z := ⟨_, List.getElem?_eq_getElem hlt⟩
        obtain ⟨g, o, rfl, hg, hcell⟩ := HROW.out q z hz
        have hr2 : Hid (R = ((decide (last < z) && decide (z < i) && riseO z i (L.drop (q + 1))) && weq ⟨k, n, m, t, a, b⟩ ⟨k, 0, 0, ⟨#[]⟩, a, 0⟩)) := by show R = _; rw [hr.out, riseO_step hz]
        clear hr hz
        by_cases hl1 : last < z
        · have hl1' : ¬ z ≤ last := by omega
          by_cases hl2 : z < (i : Int)
          · have hr3 : Hid (R = (riseO z i (L.drop (q + 1)) && weq ⟨k, n, m, t, a, b⟩ ⟨k, 0, 0, ⟨#[]⟩, a, 0⟩)) := by show R = _; rw [hr2.out]; simp [hl1, hl2]
            have hl2' : ¬ (i : Int) ≤ z := by omega
            clear hr2
            go_wp2
            go_round
            case rel => exact ⟨q + 1, z, by omega, by go_num, rfl, hr3⟩
            case measure => simp [intOf]; omega
          · have hF : Hid (R = false) := by show R = _; rw [hr2.out]; simp [hl2]
            have hl2' : (i : Int) ≤ z := by omega
            clear hr2
            go_wp2
            go_ret
            exact ⟨by rw [hF.out]; rfl, hB4⟩
        · have hF : Hid (R = false) := by show R = _; rw [hr2.out]; simp [hl1]
          have hl1' : z ≤ last := by omega
          clear hr2
          go_wp2
          go_ret
          exact ⟨by rw [hF.out]; rfl, hB4⟩
      · have hke : q = L.length := by omega
        subst hke
        have hge : ¬ ((L.length : Int) < (L.length : Int)) := by omega
        have hF : Hid (R = weq ⟨k, n, m, t, a, b⟩ ⟨k, 0, 0, ⟨#[]⟩, a, 0⟩) := by
          show R = _
          rw [hr.out, List.drop_length]
          rfl
        clear hr
        go_wp2
        go_ret
        exact ⟨by rw [hF.out]; rfl, hB4⟩

end Go.Proofs.YtmjpmmkjfimopaaDoor
