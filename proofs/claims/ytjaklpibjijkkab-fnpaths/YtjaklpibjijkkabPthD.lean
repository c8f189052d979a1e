/- Paths: both PathOf and both TypeAt at every schema. -/
import Derived.Test.YtjaklpibjijkkabPthC
import Derived.Test.YtjaklpibjijkkabSchQ
namespace Go.Proofs.Ytjaklpibjijkkab
open Go.RowKit Plain Sch

theorem convert_nil (w : World) : (convert 37 9 (.slice none 0 0)).run Try.prog w = .ok (.string ⟨#[]⟩) w := by kernel_rfl

set_option maxRecDepth 100000 in
set_option maxHeartbeats 4000000 in
theorem specPath (T : List Ty) (v : Value) (k : Int) (w : World) (hT : TysAt w w.heap.size v T) :
    Calls Try.prog 8 #[.agg #[v], .int .i64 k] w fun e w' => e = .returned (.tuple #[.string (pof T k).1, .bool (pof T k).2]) ∧ Below w.heap.size w w' := by
  have HT : Hid (TysAt w w.heap.size v T) := hT
  obtain ⟨R, hR⟩ : ∃ R, R = pof T k := ⟨_, rfl⟩
  rw [← hR]
  have HR : Hid (R = pof T k) := hR
  clear hR
  obtain ⟨ao, cap, rfl, hlc, hcm, _⟩ := hT
  have hcm' : (cap : Int) ≤ 9223372036854775807 := by unfold maxLen at hcm; omega
  have hlm : (T.length : Int) ≤ 9223372036854775807 := by omega
  have hB1 : Below w.heap.size w (w.alloc (.cells #[.slice ao T.length cap] 30)) := (Below.refl _ w).alloc (Nat.le_refl _) _
  have hT1 : Hid (TysAt (w.alloc (.cells #[.slice ao T.length cap] 30)) (w.alloc (.cells #[.slice ao T.length cap] 30)).heap.size (.slice ao T.length cap) T) := HT.out.below hB1
  go_enter Try.func8, Try.ntmps8
  go_wp2_with fail
  refine (specGood_any T _ _ hT1.out).mono ?_
  rintro e w2 ⟨rfl, hb2⟩
  have hB2 : Below w.heap.size w w2 := hB1.trans (hb2.mono (by simp))
  have hs2 : w.heap.size < w2.heap.size := by have := hb2.size; simp at this; omega
  have q2 : w2.cell? ⟨w.heap.size, 0, none⟩ = some (.slice ao T.length cap) := (hb2.cell (p := ⟨w.heap.size, 0, none⟩) (by simp)).trans (by simp)
  clear hb2 hT1
  by_cases hg : gs T = true
  · rw [hg]
    by_cases h0 : k < 0
    · have hn : Hid (R = (⟨#[]⟩, false)) := HR.out.trans (pof_no T k (fun h => by omega))
      clear hg
      go_wp2
      go_ret2
      exact ⟨by rw [hn.out]; rfl, hB2⟩
    · by_cases h1 : (T.length : Int) ≤ k
      · have hn : Hid (R = (⟨#[]⟩, false)) := HR.out.trans (pof_no T k (fun h => by omega))
        have h0' : decide (k < 0) = false := by simpa using h0
        clear hg h0
        go_wp2
        go_ret2
        exact ⟨by rw [hn.out]; rfl, hB2⟩
      · obtain ⟨n, rfl⟩ := Int.eq_ofNat_of_zero_le (show 0 ≤ k by omega)
        have hn : Hid (R = po (path T n)) := HR.out.trans (pof_yes T n hg (by omega))
        have HG : Hid (gs T = true) := hg
        clear hg h0
        have h1' : decide ((T.length : Int) ≤ (n : Int)) = false := by simpa using h1
        have HT2 : Hid (TysAt w2 w2.heap.size (.slice ao T.length cap) T) := HT.out.below hB2
        go_wp2_with fail
        refine (l3Path_any T _ HG.out n _ HT2.out (by omega)).mono ?_
        rintro e w3 ⟨rfl, hb3⟩
        generalize path T n = q at hn
        go_wp2
        go_ret2
        exact ⟨by rw [hn.out]; rfl, hB2.trans (hb3.mono hB2.size)⟩
  · have hg' : gs T = false := by simpa using hg
    have hn : Hid (R = (⟨#[]⟩, false)) := HR.out.trans (pof_no T k (fun h => hg h.1))
    rw [hg']
    clear hg hg'
    go_wp2
    go_ret2
    exact ⟨by rw [hn.out]; rfl, hB2⟩

set_option maxRecDepth 100000 in
set_option maxHeartbeats 4000000 in
theorem implPath (T : List Ty) (v : Value) (k : Int) (w : World) (hT : TysAt w w.heap.size v T) :
    Calls Try.prog 10 #[.agg #[v], .int .i64 k] w fun e w' => e = .returned (.tuple #[.string (pof T k).1, .bool (pof T k).2]) ∧ Below w.heap.size w w' := by
  have HT : Hid (TysAt w w.heap.size v T) := hT
  obtain ⟨R, hR⟩ : ∃ R, R = pof T k := ⟨_, rfl⟩
  rw [← hR]
  have HR : Hid (R = pof T k) := hR
  clear hR
  obtain ⟨ao, cap, rfl, hlc, hcm, _⟩ := hT
  have hcm' : (cap : Int) ≤ 9223372036854775807 := by unfold maxLen at hcm; omega
  have hlm : (T.length : Int) ≤ 9223372036854775807 := by omega
  have hB1 : Below w.heap.size w (w.alloc (.cells #[.slice ao T.length cap] 30)) := (Below.refl _ w).alloc (Nat.le_refl _) _
  have hT1 : Hid (TysAt (w.alloc (.cells #[.slice ao T.length cap] 30)) (w.alloc (.cells #[.slice ao T.length cap] 30)).heap.size (.slice ao T.length cap) T) := HT.out.below hB1
  go_enter Try.func10, Try.ntmps10
  go_wp2_with fail
  refine (implGoodT T _ _ hT1.out).mono ?_
  rintro e w2 ⟨rfl, hb2⟩
  have hB2 : Below w.heap.size w w2 := hB1.trans (hb2.mono (by simp))
  have hs2 : w.heap.size < w2.heap.size := by have := hb2.size; simp at this; omega
  have q2 : w2.cell? ⟨w.heap.size, 0, none⟩ = some (.slice ao T.length cap) := (hb2.cell (p := ⟨w.heap.size, 0, none⟩) (by simp)).trans (by simp)
  clear hb2 hT1
  by_cases hg : gs T = true
  · rw [hg]
    by_cases h0 : k < 0
    · have hn : Hid (R = (⟨#[]⟩, false)) := HR.out.trans (pof_no T k (fun h => by omega))
      clear hg
      go_wp2
      go_ret2
      exact ⟨by rw [hn.out]; rfl, hB2⟩
    · by_cases h1 : (T.length : Int) ≤ k
      · have hn : Hid (R = (⟨#[]⟩, false)) := HR.out.trans (pof_no T k (fun h => by omega))
        have h0' : decide (k < 0) = false := by simpa using h0
        clear hg h0
        go_wp2
        go_ret2
        exact ⟨by rw [hn.out]; rfl, hB2⟩
      · obtain ⟨n, rfl⟩ := Int.eq_ofNat_of_zero_le (show 0 ≤ k by omega)
        have hn : Hid (R = po (path T n)) := HR.out.trans (pof_yes T n hg (by omega))
        have HG : Hid (gs T = true) := hg
        clear hg h0
        have h1' : decide ((T.length : Int) ≤ (n : Int)) = false := by simpa using h1
        have HT2 : Hid (TysAt w2 w2.heap.size (.slice ao T.length cap) T) := HT.out.below hB2
        go_wp2_with fail
        refine (appendPath_any T _ HG.out n _ HT2.out (by omega)).mono ?_
        rintro e w3 (⟨hq, rfl, hb3⟩ | ⟨p, vp, hq, rfl, hown, hb3⟩)
        · rw [hq] at hn
          have hc := convert_nil w3
          clear hq
          go_wp2
          go_ret2
          exact ⟨by rw [hn.out]; rfl, hB2.trans (hb3.mono hB2.size)⟩
        · rw [hq] at hn
          have hc := convert_row w3 _ vp p hown
          clear hq hown
          go_wp2
          go_ret2
          exact ⟨by rw [hn.out]; rfl, hB2.trans (hb3.mono hB2.size)⟩
  · have hg' : gs T = false := by simpa using hg
    have hn : Hid (R = (⟨#[]⟩, false)) := HR.out.trans (pof_no T k (fun h => hg h.1))
    rw [hg']
    clear hg hg'
    go_wp2
    go_ret2
    exact ⟨by rw [hn.out]; rfl, hB2⟩

set_option maxRecDepth 100000 in
set_option maxHeartbeats 4000000 in
theorem specTypeAt (T : List Ty) (v : Value) (p : ByteArray) (w : World) (hT : TysAt w w.heap.size v T) :
    Calls Try.prog 12 #[.agg #[v], .string p] w fun e w' => e = .returned (.tuple #[.int .i64 ((tat T p).1 : Int), .bool (tat T p).2]) ∧ Below w.heap.size w w' := by
  have HT : Hid (TysAt w w.heap.size v T) := hT
  obtain ⟨R, hR⟩ : ∃ R, R = tat T p := ⟨_, rfl⟩
  rw [← hR]
  have HR : Hid (R = tat T p) := hR
  clear hR
  obtain ⟨ao, cap, rfl, hlc, hcm, _⟩ := hT
  have hcm' : (cap : Int) ≤ 9223372036854775807 := by unfold maxLen at hcm; omega
  have hlm : (T.length : Int) ≤ 9223372036854775807 := by omega
  have hB1 : Below w.heap.size w (w.alloc (.cells #[.slice ao T.length cap] 30)) := (Below.refl _ w).alloc (Nat.le_refl _) _
  have hT1 : Hid (TysAt (w.alloc (.cells #[.slice ao T.length cap] 30)) (w.alloc (.cells #[.slice ao T.length cap] 30)).heap.size (.slice ao T.length cap) T) := HT.out.below hB1
  go_enter Try.func12, Try.ntmps12
  go_wp2_with fail
  refine (specGood_any T _ _ hT1.out).mono ?_
  rintro e w2 ⟨rfl, hb2⟩
  have hb2' : Below (w.heap.size + 1) (w.alloc (.cells #[.slice ao T.length cap] 30)) w2 := hb2.mono (by simp)
  have hB2 : Below w.heap.size w w2 := hB1.trans (hb2.mono (by simp))
  have hs2 : w.heap.size < w2.heap.size := by have := hb2.size; simp at this; omega
  have q2 : w2.cell? ⟨w.heap.size, 0, none⟩ = some (.slice ao T.length cap) := (hb2.cell (p := ⟨w.heap.size, 0, none⟩) (by simp)).trans (by simp)
  clear hb2 hT1
  by_cases hg : gs T = true
  · rw [hg]
    have HG : Hid (gs T = true) := hg
    have h30 := (gs_types T hg).2.1
    clear hg
    go_wp2
    go_loopw [15] (fun vi wr => ∃ n : Nat, n ≤ T.length ∧ vi = .int .i64 (n : Int) ∧ Hid (∀ j, j < n → path T j ≠ some p) ∧ Below (w.heap.size + 1) (w.alloc (.cells #[.slice ao T.length cap] 30)) wr)
      (fun vi _ => T.length - (intOf vi).toNat)
    case atStart => exact ⟨0, by omega, rfl, fun j hj => by omega, hb2'⟩
    case round =>
      obtain ⟨n, hn0, rfl, hall, hbw⟩ := hrel
      have hB0 : Below w.heap.size w wr := hB1.trans (hbw.mono (by omega))
      have hsz : w.heap.size < wr.heap.size := by have := hbw.size; simp at this; omega
      have q0 : wr.cell? ⟨w.heap.size, 0, none⟩ = some (.slice ao T.length cap) := (hbw.cell (p := ⟨w.heap.size, 0, none⟩) (by simp)).trans (by simp)
      clear hb2' hB2 q2
      by_cases hlt : n < T.length
      · have hlt' : (n : Int) < (T.length : Int) := by omega
        have HT2 : Hid (TysAt wr wr.heap.size (.slice ao T.length cap) T) := HT.out.below hB0
        go_wp2_with fail
        refine (l3Path_any T _ HG.out n _ HT2.out (by omega)).mono ?_
        rintro e w3 ⟨rfl, hb3⟩
        have hbw3 := hbw.trans (hb3.mono (show w.heap.size + 1 ≤ wr.heap.size by omega))
        have hB3 : Below w.heap.size w w3 := hB0.trans (hb3.mono hB0.size)
        clear hb3 hbw
        cases hq : path T n with
        | none =>
          have hall2 : Hid (∀ j, j < n + 1 → path T j ≠ some p) := fun j hj => by
            by_cases hjn : j = n
            · rw [hjn, hq]; simp
            · exact hall.out j (by omega)
          unfold po
          dsimp only
          clear hq hall
          go_wp2
          go_roundw
          case rel => exact ⟨n + 1, by omega, by go_num, hall2, hbw3⟩
          case measure => simp [intOf]; omega
        | some q =>
          unfold po
          dsimp only
          by_cases he : q = p
          · have hn : Hid (R = (n, true)) := by show R = _; rw [HR.out]; exact tat_found T p HG.out n hlt (by rw [hq, he]) hall.out
            subst he
            clear hq hall
            go_wp2
            go_ret2
            exact ⟨by rw [hn.out]; rfl, hB3⟩
          · have hall2 : Hid (∀ j, j < n + 1 → path T j ≠ some p) := fun j hj => by
              by_cases hjn : j = n
              · rw [hjn, hq]; simpa using he
              · exact hall.out j (by omega)
            have he' := str_neB he
            clear hq hall he
            go_wp2
            go_roundw
            case rel => exact ⟨n + 1, by omega, by go_num, hall2, hbw3⟩
            case measure => simp [intOf]; omega
      · have hke : n = T.length := by omega
        subst hke
        have hge : ¬ ((T.length : Int) < (T.length : Int)) := by omega
        have hn : Hid (R = (0, false)) := by show R = _; rw [HR.out]; exact tat_none T p HG.out hall.out
        clear hall
        go_wp2
        go_ret2
        exact ⟨by rw [hn.out]; rfl, hB0⟩
  · have hg' : gs T = false := by simpa using hg
    have hn : Hid (R = (0, false)) := HR.out.trans (tat_no T p hg')
    rw [hg']
    clear hg hg'
    go_wp2
    go_ret2
    exact ⟨by rw [hn.out]; rfl, hB2⟩

set_option maxRecDepth 100000 in
set_option maxHeartbeats 4000000 in
theorem implTypeAt (T : List Ty) (v : Value) (p : ByteArray) (w : World) (hT : TysAt w w.heap.size v T) :
    Calls Try.prog 13 #[.agg #[v], .string p] w fun e w' => e = .returned (.tuple #[.int .i64 ((tat T p).1 : Int), .bool (tat T p).2]) ∧ Below w.heap.size w w' := by
  have HT : Hid (TysAt w w.heap.size v T) := hT
  obtain ⟨R, hR⟩ : ∃ R, R = tat T p := ⟨_, rfl⟩
  rw [← hR]
  have HR : Hid (R = tat T p) := hR
  clear hR
  obtain ⟨ao, cap, rfl, hlc, hcm, _⟩ := hT
  have hcm' : (cap : Int) ≤ 9223372036854775807 := by unfold maxLen at hcm; omega
  have hlm : (T.length : Int) ≤ 9223372036854775807 := by omega
  have hB1 : Below w.heap.size w (w.alloc (.cells #[.slice ao T.length cap] 30)) := (Below.refl _ w).alloc (Nat.le_refl _) _
  have hT1 : Hid (TysAt (w.alloc (.cells #[.slice ao T.length cap] 30)) (w.alloc (.cells #[.slice ao T.length cap] 30)).heap.size (.slice ao T.length cap) T) := HT.out.below hB1
  go_enter Try.func13, Try.ntmps13
  go_wp2_with fail
  refine (implGoodT T _ _ hT1.out).mono ?_
  rintro e w2 ⟨rfl, hb2⟩
  have hb2' : Below (w.heap.size + 1) (w.alloc (.cells #[.slice ao T.length cap] 30)) w2 := hb2.mono (by simp)
  have hB2 : Below w.heap.size w w2 := hB1.trans (hb2.mono (by simp))
  have hs2 : w.heap.size < w2.heap.size := by have := hb2.size; simp at this; omega
  have q2 : w2.cell? ⟨w.heap.size, 0, none⟩ = some (.slice ao T.length cap) := (hb2.cell (p := ⟨w.heap.size, 0, none⟩) (by simp)).trans (by simp)
  clear hb2 hT1
  by_cases hg : gs T = true
  · rw [hg]
    have HG : Hid (gs T = true) := hg
    have h30 := (gs_types T hg).2.1
    clear hg
    go_wp2
    go_loopw [15] (fun vi wr => ∃ n : Nat, n ≤ T.length ∧ vi = .int .i64 (n : Int) ∧ Hid (∀ j, j < n → path T j ≠ some p) ∧ Below (w.heap.size + 1) (w.alloc (.cells #[.slice ao T.length cap] 30)) wr)
      (fun vi _ => T.length - (intOf vi).toNat)
    case atStart => exact ⟨0, by omega, rfl, fun j hj => by omega, hb2'⟩
    case round =>
      obtain ⟨n, hn0, rfl, hall, hbw⟩ := hrel
      have hB0 : Below w.heap.size w wr := hB1.trans (hbw.mono (by omega))
      have hsz : w.heap.size < wr.heap.size := by have := hbw.size; simp at this; omega
      have q0 : wr.cell? ⟨w.heap.size, 0, none⟩ = some (.slice ao T.length cap) := (hbw.cell (p := ⟨w.heap.size, 0, none⟩) (by simp)).trans (by simp)
      clear hb2' hB2 q2
      by_cases hlt : n < T.length
      · have hlt' : (n : Int) < (T.length : Int) := by omega
        have HT2 : Hid (TysAt wr wr.heap.size (.slice ao T.length cap) T) := HT.out.below hB0
        go_wp2_with fail
        refine (appendPath_any T _ HG.out n _ HT2.out (by omega)).mono ?_
        rintro e w3 (⟨hq, rfl, hb3⟩ | ⟨q, vp, hq, rfl, hown, hb3⟩)
        · have hbw3 := hbw.trans (hb3.mono (show w.heap.size + 1 ≤ wr.heap.size by omega))
          have hall2 : Hid (∀ j, j < n + 1 → path T j ≠ some p) := fun j hj => by
            by_cases hjn : j = n
            · rw [hjn, hq]; simp
            · exact hall.out j (by omega)
          clear hq hall hb3 hbw
          go_wp2
          go_roundw
          case rel => exact ⟨n + 1, by omega, by go_num, hall2, hbw3⟩
          case measure => simp [intOf]; omega
        · have hbw3 := hbw.trans (hb3.mono (show w.heap.size + 1 ≤ wr.heap.size by omega))
          have hB3 : Below w.heap.size w w3 := hB0.trans (hb3.mono hB0.size)
          have hc := convert_row w3 _ vp q hown
          clear hb3 hbw hown
          by_cases he : q = p
          · have hn : Hid (R = (n, true)) := by show R = _; rw [HR.out]; exact tat_found T p HG.out n hlt (by rw [hq, he]) hall.out
            subst he
            clear hq hall
            go_wp2
            go_ret2
            exact ⟨by rw [hn.out]; rfl, hB3⟩
          · have hall2 : Hid (∀ j, j < n + 1 → path T j ≠ some p) := fun j hj => by
              by_cases hjn : j = n
              · rw [hjn, hq]; simpa using he
              · exact hall.out j (by omega)
            have he' := str_neB he
            clear hq hall he
            go_wp2
            go_roundw
            case rel => exact ⟨n + 1, by omega, by go_num, hall2, hbw3⟩
            case measure => simp [intOf]; omega
      · have hke : n = T.length := by omega
        subst hke
        have hge : ¬ ((T.length : Int) < (T.length : Int)) := by omega
        have hn : Hid (R = (0, false)) := by show R = _; rw [HR.out]; exact tat_none T p HG.out hall.out
        clear hall
        go_wp2
        go_ret2
        exact ⟨by rw [hn.out]; rfl, hB0⟩
  · have hg' : gs T = false := by simpa using hg
    have hn : Hid (R = (0, false)) := HR.out.trans (tat_no T p hg')
    rw [hg']
    clear hg hg'
    go_wp2
    go_ret2
    exact ⟨by rw [hn.out]; rfl, hB2⟩

end Go.Proofs.Ytjaklpibjijkkab
