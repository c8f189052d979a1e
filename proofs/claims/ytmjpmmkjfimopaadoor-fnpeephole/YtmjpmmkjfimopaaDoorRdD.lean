/- What the program holds for a good field, and one field that it reads. -/
import Derived.Test.YtmjpmmkjfimopaaDoorRdC
import Derived.Test.YtmjpmmkjfimopaaDoorHc
import Derived.Test.YtmjpmmkjfimopaaDoorUnI
import Derived.Test.YtmjpmmkjfimopaaDoorHg
import Derived.Test.YtmjpmmkjfimopaaDoorClnA
import Derived.WalkSpells
namespace Go.Proofs.YtmjpmmkjfimopaaDoor
open Go.RowKit Plain

set_option maxRecDepth 100000 in
set_option maxHeartbeats 4000000 in
theorem goodField_any (f : Fld) (w : World) (hk : KR w) :
    Calls Tryd.prog 98 #[f.val] w fun e w' => e = .returned (.bool f.good) ∧ Below w.heap.size w w' := by
  obtain ⟨no, kind, num, data⟩ := f
  unfold Fld.val Fld.good
  dsimp only
  have hk0 := hk.1
  obtain ⟨G, hG⟩ : ∃ G, G = (decide (1 ≤ no) && decide (no ≤ 30) && (if kind = 0 then decide (-1000000000 ≤ num) && decide (num ≤ 1000000000) && data.toList.isEmpty else if kind = 2 then num == 0 else false)) := ⟨_, rfl⟩
  have HG : Hid (G = (decide (1 ≤ no) && decide (no ≤ 30) && (if kind = 0 then decide (-1000000000 ≤ num) && decide (num ≤ 1000000000) && data.toList.isEmpty else if kind = 2 then num == 0 else false))) := hG
  rw [← hG]
  clear hG
  have hK : KR (w.alloc (.cells #[.int .i64 no, .int .i64 kind, .int .i64 num, .string data] 88)) := hk.below ((Below.refl _ w).alloc (Nat.le_refl _) _) hk0
  go_enter Tryd.func98, Tryd.ntmps98
  go_wp2_with fail
  refine (rowOf_any kind _ hK).mono ?_
  rintro e w1 ⟨rfl, hb1⟩
  have q0 : w1.cell? ⟨w.heap.size, 0, none⟩ = some (.int .i64 no) := (hb1.cell (p := ⟨w.heap.size, 0, none⟩) (by simp)).trans (by simp)
  have q2 : w1.cell? ⟨w.heap.size, 2, none⟩ = some (.int .i64 num) := (hb1.cell (p := ⟨w.heap.size, 2, none⟩) (by simp)).trans (by simp)
  have q3 : w1.cell? ⟨w.heap.size, 3, none⟩ = some (.string data) := (hb1.cell (p := ⟨w.heap.size, 3, none⟩) (by simp)).trans (by simp)
  have hsz : w.heap.size < w1.heap.size := by have := hb1.size; simp at this; omega
  have hB0 : Below w.heap.size w w1 := ((Below.refl _ w).alloc (Nat.le_refl _) _).trans (hb1.mono (by simp))
  clear hb1 hK hk
  by_cases h1 : no < 1
  · have d1 : decide (no < 1) = true := by simpa using h1
    have hGv : Hid (G = false) := by show _ = _; rw [HG.out]; simp; omega
    clear HG
    by_cases k0 : kind = 0
    · rw [rowR_0 kind k0]
      go_wp2
      go_ret
      exact ⟨by rw [hGv.out]; rfl, hB0.alloc (by omega) _⟩
    · by_cases k2 : kind = 2
      · rw [rowR_2 kind k2]
        go_wp2
        go_ret
        exact ⟨by rw [hGv.out]; rfl, hB0.alloc (by omega) _⟩
      · rw [rowR_no kind k0 k2]
        go_wp2
        go_ret
        exact ⟨by rw [hGv.out]; rfl, hB0.alloc (by omega) _⟩
  · have d1 : decide (no < 1) = false := by simpa using h1
    by_cases h2 : 30 < no
    · have d2 : decide (30 < no) = true := by simpa using h2
      have hGv : Hid (G = false) := by show _ = _; rw [HG.out]; simp; omega
      clear HG
      by_cases k0 : kind = 0
      · rw [rowR_0 kind k0]
        go_wp2
        go_ret
        exact ⟨by rw [hGv.out]; rfl, hB0.alloc (by omega) _⟩
      · by_cases k2 : kind = 2
        · rw [rowR_2 kind k2]
          go_wp2
          go_ret
          exact ⟨by rw [hGv.out]; rfl, hB0.alloc (by omega) _⟩
        · rw [rowR_no kind k0 k2]
          go_wp2
          go_ret
          exact ⟨by rw [hGv.out]; rfl, hB0.alloc (by omega) _⟩
    · have d2 : decide (30 < no) = false := by simpa using h2
      have e1 : decide (1 ≤ no) = true := by simp; omega
      have e2 : decide (no ≤ 30) = true := by simp; omega
      rw [e1, e2] at HG
      clear e1 e2
      by_cases k0 : kind = 0
      · rw [rowR_0 kind k0]
        rw [if_pos k0] at HG
        by_cases hd : data.toList = []
        · have hdd : data = ⟨#[]⟩ := by
            apply ByteArray.ext
            have : data.data.toList = [] := by rw [← ByteArray.toList_eq]; exact hd
            exact Array.toList_eq_nil_iff.1 this
          subst hdd
          by_cases h3 : -1000000000 ≤ num
          · by_cases h4 : num ≤ 1000000000
            · have hGv : Hid (G = true) := by show _ = _; rw [HG.out]; simp [h3, h4]
              clear HG
              go_wp2
              go_ret
              exact ⟨by rw [hGv.out]; rfl, hB0.alloc (by omega) _⟩
            · have hGv : Hid (G = false) := by show _ = _; rw [HG.out]; simp [h4]
              have h4' : decide (num ≤ 1000000000) = false := by simp; omega
              clear HG h4
              go_wp2
              go_ret
              exact ⟨by rw [hGv.out]; rfl, hB0.alloc (by omega) _⟩
          · have hGv : Hid (G = false) := by show _ = _; rw [HG.out]; simp [h3]
            have h3' : num < -1000000000 := by omega
            clear HG h3
            go_wp2
            go_ret
            exact ⟨by rw [hGv.out]; rfl, hB0.alloc (by omega) _⟩
        · have hGv : Hid (G = false) := by show _ = _; rw [HG.out]; simp; intro _ _; simpa using hd
          have hdd : data.toList.isEmpty = false := by simpa using hd
          clear HG hd
          go_wp2
          go_ret
          exact ⟨by rw [hGv.out]; rfl, hB0.alloc (by omega) _⟩
      · rw [if_neg k0] at HG
        by_cases k2 : kind = 2
        · rw [rowR_2 kind k2]
          rw [if_pos k2] at HG
          by_cases hn : num = 0
          · subst hn
            have hGv : Hid (G = true) := by show _ = _; rw [HG.out]; simp
            clear HG
            go_wp2
            go_ret
            exact ⟨by rw [hGv.out]; rfl, hB0.alloc (by omega) _⟩
          · have hGv : Hid (G = false) := by show _ = _; rw [HG.out]; simp [hn]
            have hn' : (num == 0) = false := by simpa using hn
            have hn'' : (num != 0) = true := by simpa using hn
            clear HG
            go_wp2
            go_ret
            exact ⟨by rw [hGv.out]; rfl, hB0.alloc (by omega) _⟩
        · rw [rowR_no kind k0 k2]
          rw [if_neg k2] at HG
          have hGv : Hid (G = false) := by show _ = _; rw [HG.out]; simp
          clear HG
          go_wp2
          go_ret
          exact ⟨by rw [hGv.out]; rfl, hB0.alloc (by omega) _⟩

end Go.Proofs.YtmjpmmkjfimopaaDoor
