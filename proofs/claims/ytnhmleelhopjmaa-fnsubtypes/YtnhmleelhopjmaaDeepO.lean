/- How deep a schema is: the program's and the model's DeepOf. -/
import Derived.Test.YtnhmleelhopjmaaGe
namespace Go.Proofs.Ytnhmleelhopjmaa
open Go.RowKit Plain Sch

def dof (T : List Ty) : Nat × Bool := if gs T = true then (deep T.length (tree T T.length 0), true) else (0, false)
theorem dof_no (T : List Ty) (h : gs T = false) : dof T = (0, false) := by unfold dof; rw [if_neg (by simp [h])]
theorem dof_yes (T : List Ty) (h : gs T = true) : dof T = (deep T.length (tree T T.length 0), true) := by unfold dof; rw [if_pos h]

theorem deep_max (T : List Ty) (h : gs T = true) : maxL ((List.range T.length).map (deepAt T)) = deep T.length (tree T T.length 0) := by
  have hu := gs_ups T h
  have h1 := gs_types T h
  have key : ∀ D, maxL ((List.range T.length).map (deepAt T)) ≤ D ↔ deep T.length (tree T T.length 0) ≤ D := by
    intro D
    rw [deep_root T hu T.length T.length D (by omega) (by omega) (by omega), maxL_le]
    constructor
    · intro h j hj
      exact h _ (List.mem_map.2 ⟨j, List.mem_range.2 hj, rfl⟩)
    · intro h x hx
      obtain ⟨j, hj, rfl⟩ := List.mem_map.1 hx
      exact h j (List.mem_range.1 hj)
  have a := (key _).1 (Nat.le_refl _)
  have b := (key _).2 (Nat.le_refl _)
  omega

theorem upsTo_ups {T : List Ty} (hu : Ups T) (k : Nat) (hk : k ≤ T.length) : UpsTo T k := ⟨hu.1, fun i h0 hi => hu.2 i h0 (by omega)⟩

theorem maxL_step (T : List Ty) (i : Nat) : maxL ((List.range (i + 1)).map (deepAt T)) = max (maxL ((List.range i).map (deepAt T))) (deepAt T i) := by
  rw [List.range_succ, List.map_append]
  exact maxL_snoc _ _

set_option maxRecDepth 100000 in
set_option maxHeartbeats 4000000 in
theorem specDeep (T : List Ty) (v : Value) (w : World) (hT : TysAt w w.heap.size v T) :
    Calls Try.prog 15 #[.agg #[v]] w fun e w' => e = .returned (.tuple #[.int .i64 ((dof T).1 : Int), .bool (dof T).2]) ∧ Below w.heap.size w w' := by
  have HT : Hid (TysAt w w.heap.size v T) := hT
  obtain ⟨R, hR⟩ : ∃ R, R = dof T := ⟨_, rfl⟩
  rw [← hR]
  have HR : Hid (R = dof T) := hR
  clear hR
  obtain ⟨ao, cap, rfl, hlc, hcm, _⟩ := hT
  have hB1 : Below w.heap.size w (w.alloc (.cells #[.slice ao T.length cap] 25)) := (Below.refl _ w).alloc (Nat.le_refl _) _
  have hT1 : Hid (TysAt (w.alloc (.cells #[.slice ao T.length cap] 25)) (w.alloc (.cells #[.slice ao T.length cap] 25)).heap.size (.slice ao T.length cap) T) := HT.out.below hB1
  go_enter Try.func15, Try.ntmps15
  go_wp2_with fail
  refine (specGood_any T _ _ hT1.out).mono ?_
  rintro e w2 ⟨rfl, hb2⟩
  have hB2 : Below w.heap.size w w2 := hB1.trans (hb2.mono (by simp))
  have q2 : w2.cell? ⟨w.heap.size, 0, none⟩ = some (.slice ao T.length cap) := (hb2.cell (p := ⟨w.heap.size, 0, none⟩) (by simp)).trans (by simp)
  clear hb2 hT1
  by_cases hg : gs T = true
  · have hty := gs_types T hg
    have hn : Hid (R = (deep T.length (tree T T.length 0), true)) := HR.out.trans (dof_yes T hg)
    rw [hg]
    have hTr : Hid (TysAt w2 w2.heap.size (.slice ao T.length cap) T) := HT.out.below hB2
    have h1 := hty.1
    have h30 := hty.2.1
    clear hty hg
    go_wp2_with fail
    refine (l2Tree_any T _ (by omega) T.length 0 _ hTr.out (by omega) (by omega)).mono ?_
    rintro e w5 ⟨c, rfl, hkk, hb5⟩
    have hB5 : Below w.heap.size w w5 := hB2.trans (hb5.mono hB2.size)
    have CD : Hid (Calls Try.prog 31 #[trVal (tree T T.length 0) c] w5 fun e w' => e = .returned (.int .i64 (deep T.length (tree T T.length 0) : Int)) ∧ Below w5.heap.size w5 w') := l2Deep_any T.length (tree T T.length 0) c _ w5 (by omega) hkk (fun g hg => hg.2)
    clear hkk hb5
    generalize deep T.length (tree T T.length 0) = dd at hn CD
    generalize trVal (tree T T.length 0) c = tv at CD
    go_wp2_with fail
    refine CD.out.mono ?_
    rintro e w6 ⟨rfl, hb6⟩
    go_wp2
    go_ret2
    exact ⟨by rw [hn.out]; rfl, hB5.trans (hb6.mono hB5.size)⟩
  · have hg' : gs T = false := by simpa using hg
    have hn : Hid (R = (0, false)) := HR.out.trans (dof_no T hg')
    rw [hg']
    clear hg hg'
    go_wp2
    go_ret2
    exact ⟨by rw [hn.out]; rfl, hB2⟩

set_option maxRecDepth 100000 in
set_option maxHeartbeats 4000000 in
theorem implDeep (T : List Ty) (v : Value) (w : World) (hT : TysAt w w.heap.size v T) :
    Calls Try.prog 14 #[.agg #[v]] w fun e w' => e = .returned (.tuple #[.int .i64 ((dof T).1 : Int), .bool (dof T).2]) ∧ Below w.heap.size w w' := by
  have HT : Hid (TysAt w w.heap.size v T) := hT
  obtain ⟨R, hR⟩ : ∃ R, R = dof T := ⟨_, rfl⟩
  rw [← hR]
  have HR : Hid (R = dof T) := hR
  clear hR
  obtain ⟨ao, cap, rfl, hlc, hcm, _⟩ := hT
  have hB1 : Below w.heap.size w (w.alloc (.cells #[.slice ao T.length cap] 25)) := (Below.refl _ w).alloc (Nat.le_refl _) _
  have hT1 : Hid (TysAt (w.alloc (.cells #[.slice ao T.length cap] 25)) (w.alloc (.cells #[.slice ao T.length cap] 25)).heap.size (.slice ao T.length cap) T) := HT.out.below hB1
  go_enter Try.func14, Try.ntmps14
  go_wp2_with fail
  refine (implGoodT T _ _ hT1.out).mono ?_
  rintro e w2 ⟨rfl, hb2⟩
  have hb2' : Below (w.heap.size + 1) (w.alloc (.cells #[.slice ao T.length cap] 25)) w2 := hb2.mono (by simp)
  have hB2 : Below w.heap.size w w2 := hB1.trans (hb2.mono (by simp))
  have q2 : w2.cell? ⟨w.heap.size, 0, none⟩ = some (.slice ao T.length cap) := (hb2.cell (p := ⟨w.heap.size, 0, none⟩) (by simp)).trans (by simp)
  clear hb2 hT1
  by_cases hg : gs T = true
  · have hty := gs_types T hg
    have hn : Hid (R = (maxL ((List.range T.length).map (deepAt T)), true)) := by show R = _; rw [HR.out, dof_yes T hg, deep_max T hg]
    have HU : Hid (Ups T) := gs_ups T hg
    rw [hg]
    have h1 := hty.1
    have h30 := hty.2.1
    clear hty hg
    go_wp2
    go_loopw [4, 12] (fun vd vi wr => ∃ i : Nat, i ≤ T.length ∧ vi = .int .i64 (i : Int) ∧ vd = .int .i64 (maxL ((List.range i).map (deepAt T)) : Int) ∧ Below (w.heap.size + 1) (w.alloc (.cells #[.slice ao T.length cap] 25)) wr)
      (fun _ vi _ => T.length - (intOf vi).toNat)
    case atStart => exact ⟨0, by omega, rfl, by simp [maxL], hb2'⟩
    case round =>
      obtain ⟨i, hi, rfl, rfl, hbw⟩ := hrel
      have hB0 : Below w.heap.size w wr := hB1.trans (hbw.mono (by omega))
      have hsz : w.heap.size < wr.heap.size := by have := hbw.size; simp at this; omega
      have q0 : wr.cell? ⟨w.heap.size, 0, none⟩ = some (.slice ao T.length cap) := (hbw.cell (p := ⟨w.heap.size, 0, none⟩) (by simp)).trans (by simp)
      have hm31 : maxL ((List.range i).map (deepAt T)) ≤ 31 := (maxL_le _ _).2 (fun x hx => by
        obtain ⟨j, hj, rfl⟩ := List.mem_map.1 hx
        have := deepAt_le T j
        have := List.mem_range.1 hj
        omega)
      clear hb2' hB2 q2
      by_cases hlt : i < T.length
      · have hlt' : (i : Int) < (T.length : Int) := by omega
        have hTr : Hid (TysAt wr wr.heap.size (.slice ao T.length cap) T) := HT.out.below hB0
        have HM : Hid (maxL ((List.range (i + 1)).map (deepAt T)) = max (maxL ((List.range i).map (deepAt T))) (deepAt T i)) := maxL_step T i
        have hd31 : deepAt T i ≤ 31 := by have := deepAt_le T i; omega
        go_wp2_with fail
        refine (deepAt_any T _ i _ hTr.out hlt h30 (upsTo_ups HU.out (i + 1) (by omega))).mono ?_
        rintro e w3 ⟨rfl, hb3⟩
        have hbw3 := hbw.trans (hb3.mono (show w.heap.size + 1 ≤ wr.heap.size by omega))
        clear hb3 hbw
        generalize maxL ((List.range i).map (deepAt T)) = m at HM hm31
        generalize deepAt T i = dd at HM hd31
        by_cases hgt : m < dd
        · go_wp2
          go_roundw
          case rel => exact ⟨i + 1, by omega, by go_num, by rw [HM.out, Nat.max_eq_right (by omega)], hbw3⟩
          case measure => simp [intOf]; omega
        · go_wp2
          go_roundw
          case rel => exact ⟨i + 1, by omega, by go_num, by rw [HM.out, Nat.max_eq_left (by omega)], hbw3⟩
          case measure => simp [intOf]; omega
      · have hke : i = T.length := by omega
        subst hke
        have hge : ¬ ((T.length : Int) < (T.length : Int)) := by omega
        generalize maxL ((List.range T.length).map (deepAt T)) = m at hn hm31
        go_wp2
        go_ret2
        exact ⟨by rw [hn.out]; rfl, hB0⟩
  · have hg' : gs T = false := by simpa using hg
    have hn : Hid (R = (0, false)) := HR.out.trans (dof_no T hg')
    rw [hg']
    clear hg hg'
    go_wp2
    go_ret2
    exact ⟨by rw [hn.out]; rfl, hB2⟩

end Go.Proofs.Ytnhmleelhopjmaa
