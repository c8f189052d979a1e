/- SchemaText, the model's and the program's. -/
import Derived.Test.YtneaikkbpmeebaaDoorSxI
import Derived.Test.YtneaikkbpmeebaaDoorGe
namespace Go.Proofs.YtneaikkbpmeebaaDoor
open Go.RowKit Plain Sch

/-- the text of a schema -/
def sofT (T : List Ty) : List UInt8 × Bool := if gs T = true then (if (sx (tree T 41 0)).length ≤ 400 then (sx (tree T 41 0), true) else ([], false)) else ([], false)

theorem sof_no {T : List Ty} (h : gs T = false) : sofT T = ([], false) := by unfold sofT; rw [h]; rfl
theorem sof_long {T : List Ty} (h : gs T = true) (h4 : ¬ (sx (tree T 41 0)).length ≤ 400) : sofT T = ([], false) := by unfold sofT; rw [if_pos h, if_neg h4]
theorem sof_yes {T : List Ty} (h : gs T = true) (h4 : (sx (tree T 41 0)).length ≤ 400) : sofT T = (sx (tree T 41 0), true) := by unfold sofT; rw [if_pos h, if_pos h4]

theorem tree_nmS (A : List Ty) (ha : gs A = true) : NmT (tree A 41 0) := by
  have a1 := gs_types A ha
  obtain ⟨k1, n1, o1, m1⟩ := tree_top A ha 41
  exact gt_names _ (by rw [n1]; simp [ByteArray.size]) (tree_good A ha 41 0 (by omega) (by omega))

theorem kids_form {d : Nat} {w : World} {S : Nat → Prop} {c : Value} {l : List Tr} (h : KidsIn d w S c l) : ∃ ac lc cc, c = .slice ac lc cc := by
  cases d with
  | zero => obtain ⟨ao, cap, rfl, _⟩ := h; exact ⟨_, _, _, rfl⟩
  | succ d => obtain ⟨ao, cap, rfl, _⟩ := h; exact ⟨_, _, _, rfl⟩

set_option maxRecDepth 100000 in
set_option maxHeartbeats 4000000 in
theorem specSText (T : List Ty) (v : Value) (w : World) (hT : TysAt w w.heap.size v T) :
    Calls Tryd.prog 5 #[.agg #[v]] w fun e w' => e = .returned (.tuple #[.string ⟨(sofT T).1.toArray⟩, .bool (sofT T).2]) ∧ Below w.heap.size w w' := by
  have HT : Hid (TysAt w w.heap.size v T) := hT
  obtain ⟨ao, cap, rfl, _⟩ := hT
  have hB1 : Below w.heap.size w (w.alloc (.cells #[.slice ao T.length cap] 30)) := (Below.refl _ w).alloc (Nat.le_refl _) _
  obtain ⟨R, hR⟩ : ∃ R, Hid (R = sofT T) := ⟨_, rfl⟩
  rw [← hR.out]
  have HG : Hid (∀ W : World, Below w.heap.size w W → Calls Tryd.prog 10 #[.agg #[.slice ao T.length cap]] W fun e w' => e = .returned (.bool (gs T)) ∧ Below W.heap.size W w') := fun W hW => specGood_any T _ W (HT.out.below hW)
  by_cases hg : gs T = true
  · have a1 := gs_types T hg
    have hsz := tree_size T hg 41 0 (by omega) (by omega)
    have hG9 := tree_good T hg 41 0 (by omega) (by omega)
    have hN9 := tree_nmS T hg
    have HTR : Hid (∀ W : World, Below w.heap.size w W → Calls Tryd.prog 12 #[.agg #[.slice ao T.length cap], .int .i64 0] W fun e w' => ∃ ac lc cc, e = .returned (.agg #[.int .i64 (tree T 41 0).kind, .string (tree T 41 0).name, .int .i64 (tree T 41 0).no, .bool (tree T 41 0).must, .int .i64 (tree T 41 0).most, .slice ac lc cc]) ∧ Below W.heap.size W w' ∧ Hid (Calls Tryd.prog 11 #[.agg #[.int .i64 (tree T 41 0).kind, .string (tree T 41 0).name, .int .i64 (tree T 41 0).no, .bool (tree T 41 0).must, .int .i64 (tree T 41 0).most, .slice ac lc cc]] w' fun e w9 => e = .returned (.string ⟨(sx (tree T 41 0)).toArray⟩) ∧ Below w'.heap.size w' w9)) := fun W hW => by
      refine (l2Tree_any T _ (by omega) 41 0 W (HT.out.below hW) (by omega) (by omega)).mono ?_
      rintro e w' ⟨c, rfl, hK, hb⟩
      obtain ⟨ac, lc, cc, rfl⟩ := kids_form hK
      exact ⟨ac, lc, cc, rfl, hb, typeC_all 41 _ ac lc cc w' _ hK (fun g hg => hg.2) hG9 hN9 (by omega)⟩
    have HRR : Hid (R = if (sx (tree T 41 0)).length ≤ 400 then (sx (tree T 41 0), true) else ([], false)) := by
      show _ = _
      rw [hR.out]
      unfold sofT
      rw [if_pos hg]
    generalize sx (tree T 41 0) = tx at HTR HRR
    generalize (tree T 41 0).kind = tk at HTR
    generalize (tree T 41 0).name = tn at HTR
    generalize (tree T 41 0).no = tno at HTR
    generalize (tree T 41 0).must = tmu at HTR
    generalize (tree T 41 0).most = tmo at HTR
    obtain ⟨s, hs⟩ : ∃ s : ByteArray, Hid (s = ⟨tx.toArray⟩) := ⟨_, rfl⟩
    rw [← hs.out] at HTR
    have hssz : s.size = tx.length := by rw [hs.out]; simp [ByteArray.size]
    clear hsz hG9 hN9 hR
    rw [hg] at HG
    go_enter Tryd.func5, Tryd.ntmps5
    go_wp2_with fail
    refine (HG.out _ hB1).mono ?_
    rintro e w2 ⟨rfl, hb2⟩
    have hB2 : Below w.heap.size w w2 := hB1.trans (hb2.mono (by simp))
    have x2 : w2.cell? ⟨w.heap.size, 0, none⟩ = some (.slice ao T.length cap) := (hb2.cell (p := ⟨w.heap.size, 0, none⟩) (by simp)).trans (by simp)
    clear hb2
    go_wp2_with fail
    refine (HTR.out _ hB2).mono ?_
    rintro e w3 ⟨ac, lc, cc, rfl, hb3, hcall⟩
    have hB3 : Below w.heap.size w w3 := hB2.trans (hb3.mono hB2.size)
    clear hb3 x2
    go_wp2_with fail
    refine hcall.out.mono ?_
    rintro e w4 ⟨rfl, hb4⟩
    have hB4 : Below w.heap.size w w4 := hB3.trans (hb4.mono hB3.size)
    clear hb4 hcall
    by_cases h4 : tx.length ≤ 400
    · rw [if_pos h4] at HRR
      have hn4 : ¬ 400 < s.size := by omega
      have hn4' : ¬ (400 : Int) < (s.size : Int) := by omega
      clear hssz h4
      go_wp2
      go_ret2
      rw [HRR.out]
      exact ⟨by rw [hs.out]; rfl, hB4⟩
    · rw [if_neg h4] at HRR
      have hn4 : 400 < s.size := by omega
      have hn4' : (400 : Int) < (s.size : Int) := by omega
      clear hssz h4
      go_wp2
      go_ret2
      rw [HRR.out]
      exact ⟨rfl, hB4⟩
  · have hg' : gs T = false := by simpa using hg
    have hRR : Hid (R = ([], false)) := hR.out.trans (sof_no hg')
    clear hg
    rw [hg'] at HG
    go_enter Tryd.func5, Tryd.ntmps5
    go_wp2_with fail
    refine (HG.out _ hB1).mono ?_
    rintro e w2 ⟨rfl, hb2⟩
    have hB2 : Below w.heap.size w w2 := hB1.trans (hb2.mono (by simp))
    go_wp2
    go_ret2
    rw [hRR.out]
    exact ⟨rfl, hB2⟩

set_option maxRecDepth 100000 in
set_option maxHeartbeats 4000000 in
theorem implSText (T : List Ty) (v : Value) (w : World) (hT : TysAt w w.heap.size v T) :
    Calls Tryd.prog 7 #[.agg #[v]] w fun e w' => e = .returned (.tuple #[.string ⟨(sofT T).1.toArray⟩, .bool (sofT T).2]) ∧ Below w.heap.size w w' := by
  have HT : Hid (TysAt w w.heap.size v T) := hT
  obtain ⟨ao, cap, rfl, _⟩ := hT
  have hB1 : Below w.heap.size w (w.alloc (.cells #[.slice ao T.length cap] 30)) := (Below.refl _ w).alloc (Nat.le_refl _) _
  obtain ⟨R, hR⟩ : ∃ R, Hid (R = sofT T) := ⟨_, rfl⟩
  rw [← hR.out]
  have HG : Hid (∀ W : World, Below w.heap.size w W → Calls Tryd.prog 14 #[.agg #[.slice ao T.length cap]] W fun e w' => e = .returned (.bool (gs T)) ∧ Below W.heap.size W w') := fun W hW => implGoodT T _ W (HT.out.below hW)
  by_cases hg : gs T = true
  · have a1 := gs_types T hg
    have hsz := tree_size T hg 41 0 (by omega) (by omega)
    have hG9 := tree_good T hg 41 0 (by omega) (by omega)
    have hN9 := tree_nmS T hg
    have hpos : Hid (0 < (sx (tree T 41 0)).length) := by
      show 0 < _
      rw [sx_msg _ (tree_top T hg 41).1]
      simp
    have HTR : Hid (∀ W : World, Below w.heap.size w W → Calls Tryd.prog 16 #[.slice ao T.length cap, .int .i64 0] W fun e w' => ∃ ut uv, e = .returned (.iface ut uv) ∧ Below W.heap.size W w' ∧ Hid (Calls Tryd.prog 15 #[.slice none 0 0, .iface ut uv] w' fun e w9 => ∃ v', e = .returned v' ∧ BRow w9 w'.heap.size v' (sx (tree T 41 0)) ∧ Below w'.heap.size w' w9)) := fun W hW => by
      refine (shapeAt_any T _ hg 41 0 W (HT.out.below hW) (by omega) (by omega)).mono ?_
      rintro e w' ⟨u, rfl, hK, hb⟩
      exact ⟨u.1, u.2, rfl, hb, shapeC_all 41 _ u [] (.slice none 0 0) w'.heap.size w' _ hK (fun g hg => hg.2) hG9 hN9 (World.ownsRow_nil _ _ _ _) (Nat.le_refl _) (by simp; omega)⟩
    have HRR : Hid (R = if (sx (tree T 41 0)).length ≤ 400 then (sx (tree T 41 0), true) else ([], false)) := by
      show _ = _
      rw [hR.out]
      unfold sofT
      rw [if_pos hg]
    have hxl := sx_len _ hN9
    generalize (tree T 41 0).size = tz at hxl hsz
    generalize sx (tree T 41 0) = tx at HTR HRR hpos hxl
    clear hG9 hN9 hR
    rw [hg] at HG
    go_enter Tryd.func7, Tryd.ntmps7
    go_wp2_with fail
    refine (HG.out _ hB1).mono ?_
    rintro e w2 ⟨rfl, hb2⟩
    have hB2 : Below w.heap.size w w2 := hB1.trans (hb2.mono (by simp))
    have x2 : w2.cell? ⟨w.heap.size, 0, none⟩ = some (.slice ao T.length cap) := (hb2.cell (p := ⟨w.heap.size, 0, none⟩) (by simp)).trans (by simp)
    clear hb2
    go_wp2_with fail
    refine (HTR.out _ hB2).mono ?_
    rintro e w3 ⟨ut, uv, rfl, hb3, hcall⟩
    have hB3 : Below w.heap.size w w3 := hB2.trans (hb3.mono hB2.size)
    clear hb3 x2
    go_wp2_with fail
    refine hcall.out.mono ?_
    rintro e w4 ⟨v4, rfl, hrow4, hb4⟩
    have hB4 : Below w.heap.size w w4 := hB3.trans (hb4.mono hB3.size)
    obtain ⟨g4, cap4, hv4⟩ := Joins.ownsRow_form hrow4 hpos.out
    subst hv4
    have hc := convert_own w4 w3.heap.size g4 cap4 tx hrow4
    clear hb4 hcall hrow4
    by_cases h4 : tx.length ≤ 400
    · rw [if_pos h4] at HRR
      have hn4 : ¬ 400 < tx.length := by omega
      have hn4' : ¬ (400 : Int) < (tx.length : Int) := by omega
      go_wp2
      go_ret2
      rw [HRR.out]
      exact ⟨rfl, hB4⟩
    · rw [if_neg h4] at HRR
      have hn4 : 400 < tx.length := by omega
      have hn4' : (400 : Int) < (tx.length : Int) := by omega
      clear h4
      go_wp2
      go_ret2
      rw [HRR.out]
      exact ⟨rfl, hB4⟩
  · have hg' : gs T = false := by simpa using hg
    have hRR : Hid (R = ([], false)) := hR.out.trans (sof_no hg')
    clear hg
    rw [hg'] at HG
    go_enter Tryd.func7, Tryd.ntmps7
    go_wp2_with fail
    refine (HG.out _ hB1).mono ?_
    rintro e w2 ⟨rfl, hb2⟩
    have hB2 : Below w.heap.size w w2 := hB1.trans (hb2.mono (by simp))
    go_wp2
    go_ret2
    rw [hRR.out]
    exact ⟨rfl, hB2⟩

end Go.Proofs.YtneaikkbpmeebaaDoor
