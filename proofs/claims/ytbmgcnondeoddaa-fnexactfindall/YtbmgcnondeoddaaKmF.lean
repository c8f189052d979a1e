/- The program's BordersOf, PeriodOf, FindAll. -/
import Derived.Test.YtbmgcnondeoddaaKmE
import Derived.Test.YtbmgcnondeoddaaKmB
namespace Go.Proofs.Ytbmgcnondeoddaa
open Go.RowKit Plain Tpc Kmp

/-- what BordersOf tells -/
def bof (p : ByteArray) : List Nat × Bool := if 1 ≤ p.size ∧ p.size ≤ 200 then (bors p p.size, true) else ([], false)
/-- what PeriodOf tells -/
def pof (p : ByteArray) : Nat × Bool := if 1 ≤ p.size ∧ p.size ≤ 200 then (p.size - (bors p p.size).getD (p.size - 1) 0, true) else (0, false)
/-- what FindAll tells -/
def fof (s p : ByteArray) : List Nat × Nat × Bool := if s.size ≤ 200 ∧ 1 ≤ p.size ∧ p.size ≤ 200 then ((st p s (bors p p.size) s.size).2.2, (st p s (bors p p.size) s.size).2.1, true) else ([], 0, false)

theorem bof_len (p : ByteArray) : (bof p).1.length ≤ 200 := by
  unfold bof
  split
  · rename_i h; rw [bors_len]; exact h.2
  · simp

theorem fof_len (s p : ByteArray) : (fof s p).1.length ≤ 200 := by
  unfold fof
  split
  · rename_i h; have := st_len p s (bors p p.size) s.size; dsimp only; omega
  · simp

def ONats (w w' : World) (e : Ending) (R : List Nat × Bool) : Prop := ∃ v, e = .returned (.tuple #[v, .bool R.2]) ∧ NRow w' w.heap.size v R.1 ∧ Below w.heap.size w w'

def OFind (w w' : World) (e : Ending) (R : List Nat × Nat × Bool) : Prop := ∃ v, e = .returned (.tuple #[v, .int .i64 (R.2.1 : Int), .bool R.2.2]) ∧ NRow w' w.heap.size v R.1 ∧ Below w.heap.size w w'

theorem hv_one_b (lo hi : Nat) (s : ByteArray) : hv lo hi [s] = decide (lo ≤ s.size ∧ s.size ≤ hi) := by
  rw [hv_one, Bool.eq_iff_iff]
  simp

theorem hv_any {W : World} (lo hi : Nat) (s : ByteArray) (hs : s.size ≤ maxLen) : Calls Try.prog 49 #[.int .i64 (lo : Int), .int .i64 (hi : Int), .slice (some ⟨W.heap.size, 0, none⟩) 1 1] (W.alloc (.cells #[.string s] 9)) fun e w' => e = .returned (.bool (decide (lo ≤ s.size ∧ s.size ≤ hi))) ∧ w' = W.alloc (.cells #[.string s] 9) := by
  have hone : ∀ i, i < [s].length → (lq [s] i).size ≤ 9223372036854775807 := by
    intro i h
    obtain rfl : i = 0 := by simpa using h
    unfold maxLen at hs
    show s.size ≤ _
    omega
  have := haveBytes_any lo hi [s] _ _ (one_text s W) hone (by simp)
  rw [hv_one_b] at this
  exact this

set_option maxRecDepth 100000 in
set_option maxHeartbeats 4000000 in
theorem implBorders (p : ByteArray) (w : World) (hm : p.size ≤ maxLen) :
    Calls Try.prog 13 #[.string p] w fun e w' => ONats w w' e (bof p) := by
  have C : Hid (Calls Try.prog 49 #[.int .i64 1, .int .i64 200, .slice (some ⟨w.heap.size, 0, none⟩) 1 1] (w.alloc (.cells #[.string p] 9)) fun e w' => e = .returned (.bool (decide (1 ≤ p.size ∧ p.size ≤ 200))) ∧ w' = w.alloc (.cells #[.string p] 9)) := hv_any 1 200 p hm
  have hB : Below w.heap.size w (w.alloc (.cells #[.string p] 9)) := (Below.refl _ w).alloc (Nat.le_refl _) _
  obtain ⟨R, hR⟩ : ∃ R, R = bof p := ⟨_, rfl⟩
  rw [← hR]
  unfold bof at hR
  unfold ONats
  by_cases h : 1 ≤ p.size ∧ p.size ≤ 200
  · have hd : decide (1 ≤ p.size ∧ p.size ≤ 200) = true := by simpa using h
    rw [if_pos h] at hR
    rw [hd] at C
    have HR : Hid (R = (bors p p.size, true)) := hR
    have C2 : Hid (∀ W : World, Calls Try.prog 50 #[.string p] W fun e w' => ∃ v, e = .returned v ∧ NRow w' W.heap.size v (bors p p.size) ∧ Below W.heap.size W w') := fun W => bordersOf_any p W (by omega) (by omega)
    clear hR hd h
    go_enter Try.func13, Try.ntmps13
    go_wp2_with fail
    refine C.out.mono ?_
    rintro e w2 ⟨rfl, rfl⟩
    go_wp2_with fail
    refine (C2.out _).mono ?_
    rintro e w3 ⟨v, rfl, hrow, hb3⟩
    obtain ⟨ao, cap, rfl, _⟩ := hrow.slice
    have hb9 := hB.trans (hb3.mono hB.size)
    have HROW : Hid (NRow w3 w.heap.size (.slice ao (bors p p.size).length cap) (bors p p.size)) := hrow.lower (by simp)
    clear hrow hb3
    go_wp2
    go_ret2
    exact ⟨_, by rw [HR.out]; rfl, by rw [HR.out]; exact HROW.out, hb9⟩
  · have hd : decide (1 ≤ p.size ∧ p.size ≤ 200) = false := by simpa using h
    rw [if_neg h] at hR
    rw [hd] at C
    have HR : Hid (R = ([], false)) := hR
    clear hR hd h
    go_enter Try.func13, Try.ntmps13
    go_wp2_with fail
    refine C.out.mono ?_
    rintro e w2 ⟨rfl, rfl⟩
    go_wp2
    go_ret2
    exact ⟨_, by rw [HR.out]; rfl, by rw [HR.out]; exact World.ownsRow_nil _ _ _ _, hB⟩

set_option maxRecDepth 100000 in
set_option maxHeartbeats 4000000 in
theorem implPeriod (p : ByteArray) (w : World) (hm : p.size ≤ maxLen) :
    Calls Try.prog 18 #[.string p] w fun e w' => e = .returned (.tuple #[.int .i64 ((pof p).1 : Int), .bool (pof p).2]) ∧ Below w.heap.size w w' := by
  have C : Hid (Calls Try.prog 49 #[.int .i64 1, .int .i64 200, .slice (some ⟨w.heap.size, 0, none⟩) 1 1] (w.alloc (.cells #[.string p] 9)) fun e w' => e = .returned (.bool (decide (1 ≤ p.size ∧ p.size ≤ 200))) ∧ w' = w.alloc (.cells #[.string p] 9)) := hv_any 1 200 p hm
  have hB : Below w.heap.size w (w.alloc (.cells #[.string p] 9)) := (Below.refl _ w).alloc (Nat.le_refl _) _
  obtain ⟨R, hR⟩ : ∃ R, R = pof p := ⟨_, rfl⟩
  rw [← hR]
  unfold pof at hR
  by_cases h : 1 ≤ p.size ∧ p.size ≤ 200
  · have hd : decide (1 ≤ p.size ∧ p.size ≤ 200) = true := by simpa using h
    rw [if_pos h] at hR
    rw [hd] at C
    have hq := bors_sh p p.size (p.size - 1)
    have hbl := bors_len p p.size
    have C2 : Hid (∀ W : World, Calls Try.prog 50 #[.string p] W fun e w' => ∃ v, e = .returned v ∧ NRow w' W.heap.size v (bors p p.size) ∧ Below W.heap.size W w') := fun W => bordersOf_any p W (by omega) (by omega)
    have HR : Hid (R = (p.size - (bors p p.size).getD (p.size - 1) 0, true)) := hR
    obtain ⟨h1, h2⟩ := h
    clear hR hd
    go_enter Try.func18, Try.ntmps18
    go_wp2_with fail
    refine C.out.mono ?_
    rintro e w2 ⟨rfl, rfl⟩
    go_wp2_with fail
    refine (C2.out _).mono ?_
    rintro e w3 ⟨v, rfl, hrow, hb3⟩
    have hb9 := hB.trans (hb3.mono hB.size)
    obtain ⟨g, cap, rfl, hg, hc, hlc, hcm⟩ := hrow.cell (i := p.size - 1) (by omega)
    have hcm' : cap ≤ 9223372036854775807 := by unfold maxLen at hcm; omega
    rw [hbl]
    generalize (bors p p.size).getD (p.size - 1) 0 = q at hq hc HR
    obtain ⟨j, hj⟩ : ∃ j, p.size = j + 1 := ⟨p.size - 1, by omega⟩
    rw [show p.size - 1 = j by omega] at hc hq
    have hw1 : ((j + 1 : Nat) : Int) - 1 = (j : Int) := by omega
    have HV : Hid (((p.size : Nat) : Int) - (q : Int) = ((p.size - q : Nat) : Int)) := by show _ = _; omega
    have hsz : (p.size : Int) - 1 = (j : Int) := by omega
    have hjl : (j : Int) < (p.size : Int) := by omega
    have HJ : Hid (p.size = j + 1) := hj
    clear hj hrow hb3 hbl
    go_wp2
    go_ret2
    exact ⟨by rw [HR.out, ← HV.out]; rfl, hb9⟩
  · have hd : decide (1 ≤ p.size ∧ p.size ≤ 200) = false := by simpa using h
    rw [if_neg h] at hR
    rw [hd] at C
    have HR : Hid (R = (0, false)) := hR
    clear hR hd h
    go_enter Try.func18, Try.ntmps18
    go_wp2_with fail
    refine C.out.mono ?_
    rintro e w2 ⟨rfl, rfl⟩
    go_wp2
    go_ret2
    exact ⟨by rw [HR.out]; rfl, hB⟩

end Go.Proofs.Ytbmgcnondeoddaa
