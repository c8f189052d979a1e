/- The law's own looks at values: equal, marked, held. -/
import Derived.Test.YtpajdmhakdbkjaaNdA
import Derived.Test.YtpajdmhakdbkjaaMarkN
import Derived.Test.YtpajdmhakdbkjaaGq
namespace Go.Proofs.Ytpajdmhakdbkjaa
open Go.RowKit Plain Sch

/-- the five cells of a node -/
def NoIn (w : World) (g o : Nat) (t : Ty) : Prop :=
  w.cell? ⟨g, o, none⟩ = some (.int .i64 t.most) ∧ w.cell? ⟨g, o + 1, none⟩ = some (.string t.name) ∧ w.cell? ⟨g, o + 2, none⟩ = some (.int .i64 t.no) ∧ w.cell? ⟨g, o + 3, none⟩ = some (.int .i64 t.up) ∧ w.cell? ⟨g, o + 4, none⟩ = some (.bool t.must)

theorem NoIn.below {w w' : World} {g o B : Nat} {t : Ty} (h : NoIn w g o t) (hb : Below B w w') (hg : g < B) : NoIn w' g o t := by
  obtain ⟨c0, c1, c2, c3, c4⟩ := h
  exact ⟨(hb.cell (p := ⟨g, o, none⟩) hg).trans c0, (hb.cell (p := ⟨g, o + 1, none⟩) hg).trans c1, (hb.cell (p := ⟨g, o + 2, none⟩) hg).trans c2, (hb.cell (p := ⟨g, o + 3, none⟩) hg).trans c3, (hb.cell (p := ⟨g, o + 4, none⟩) hg).trans c4⟩

def NdsAt (w : World) (B : Nat) (v : Value) (T : List Ty) : Prop :=
  ∃ ao cap, v = .slice ao T.length cap ∧ T.length ≤ cap ∧ cap ≤ maxLen ∧ (∀ i, i < T.length → ∃ g o, ao = some ⟨g, o, none⟩ ∧ g < B ∧ NoIn w g (o + i * 5) (ty T i)) ∧ ∀ i, i < T.length → (ty T i).name.size ≤ maxLen

theorem NdsAt.below {w w' : World} {v : Value} {T : List Ty} {B : Nat} (h : NdsAt w B v T) (hb : Below B w w') (hB : B ≤ w.heap.size := by exact Nat.le_refl _) : NdsAt w' w'.heap.size v T := by
  obtain ⟨ao, cap, hv, hc, hm, hr, hn⟩ := h
  refine ⟨ao, cap, hv, hc, hm, fun i hi => ?_, hn⟩
  obtain ⟨g, o, ha, hg, c⟩ := hr i hi
  have := hb.size
  exact ⟨g, o, ha, by omega, c.below hb hg⟩

theorem flat5N : ∀ (l : List Ty) (i j : Nat), i < l.length → j < 5 → (l.flatMap Ty.ncells)[i * 5 + j]? = (ty l i).ncells[j]?
  | [], i, j, h, _ => by simp at h
  | x :: l, 0, j, _, hj => by
    rw [List.flatMap_cons, List.getElem?_append_left (by show 0 * 5 + j < 5; omega), Nat.zero_mul, Nat.zero_add]
    rfl
  | x :: l, i + 1, j, h, hj => by
    rw [List.flatMap_cons, List.getElem?_append_right (by show 5 ≤ (i + 1) * 5 + j; omega)]
    show (l.flatMap Ty.ncells)[(i + 1) * 5 + j - 5]? = _
    rw [show (i + 1) * 5 + j - 5 = i * 5 + j by omega, flat5N l i j (by simp at h; omega) hj]
    rfl

theorem NdsAt.own {w : World} {B : Nat} {v : Value} {T : List Ty} (h : NdRow w B v T) (hn : ∀ i, i < T.length → (ty T i).name.size ≤ maxLen) : NdsAt w w.heap.size v T := by
  have h0 := h
  obtain ⟨_, ⟨rfl, hn0⟩ | ⟨g, cap, cur, rfl, hB, hb, hnc, hcm, _⟩⟩ := h
  · exact ⟨none, 0, by rw [hn0], by omega, by unfold maxLen; omega, fun i hi => by omega, hn⟩
  · refine ⟨some ⟨g, 0, none⟩, cap, rfl, hnc, hcm, fun i hi => ⟨g, 0, rfl, (h0.lt g rfl).2, ?_⟩, hn⟩
    have c : ∀ j, j < 5 → w.cell? ⟨g, 0 + i * 5 + j, none⟩ = (ty T i).ncells[j]? := fun j hj => by
      rw [Nat.zero_add, World.ownsRow.cellAt h0 (i * 5 + j) (by omega)]
      exact flat5N T i j hi hj
    exact ⟨c 0 (by omega), c 1 (by omega), c 2 (by omega), c 3 (by omega), c 4 (by omega)⟩

set_option maxRecDepth 100000 in
set_option maxHeartbeats 1000000 in
theorem markValue_any (B n k : Nat) (v : Value) (xs : List Value) (w : World) (hown : w.ownsRow B 85 5 v n xs) (hn : n ≤ 2097152) (hk1 : 1 ≤ k) (hk2 : k ≤ 100000000) :
    Calls Try.prog 27 #[.agg #[v], .int .i64 k] w fun e w' => e = .returned (.int .i64 ((k + n * 5 : Nat) : Int)) ∧ (∃ ys, w'.ownsRow B 85 5 v n ys ∧ ∀ j, j < n * 5 → ys[j]? = some (mcN k j)) ∧ w.grownBy w' v.ownBlock := by
  obtain ⟨ar, capr, hrv⟩ : ∃ ao cap, v = Value.slice ao n cap := by
    rcases hown.2 with ⟨rfl, h0⟩ | ⟨g, cap, _, rfl, _⟩
    · exact ⟨none, 0, by rw [h0]⟩
    · exact ⟨_, _, rfl⟩
  subst hrv
  have HO : Hid (w.ownsRow B 85 5 (.slice ar n capr) n xs) := hown
  clear hown
  go_enter Try.func27, Try.ntmps27
  go_wp2_with fail
  refine (markN_any B n k _ _ _ (HO.out.alloc _) hn hk1 hk2).mono ?_
  rintro e w2 ⟨rfl, ⟨ys, hy1, hy2⟩, hb2⟩
  have HY : Hid (∃ ys, w2.ownsRow B 85 5 (.slice ar n capr) n ys ∧ ∀ j, j < n * 5 → ys[j]? = some (mcN k j)) := ⟨ys, hy1, hy2⟩
  clear hy1 hy2
  go_wp2
  go_ret
  exact ⟨rfl, HY.out, Lib.grownBy_trans (grow_belowN ((Below.refl _ w).alloc (Nat.le_refl _) _)) hb2⟩

set_option maxRecDepth 100000 in
set_option maxHeartbeats 1000000 in
theorem heldValue_any (n k : Nat) (v : Value) (w : World) (h : MarksAtN w w.heap.size v n k) (hn : n ≤ 2097152) (hk1 : 1 ≤ k) (hk2 : k ≤ 100000000) :
    Calls Try.prog 29 #[.agg #[v], .int .i64 k] w fun e w' => e = .returned (.int .i64 ((k + n * 5 : Nat) : Int)) ∧ Below w.heap.size w w' := by
  have HM : Hid (MarksAtN w w.heap.size v n k) := h
  obtain ⟨ar, capr, rfl, _⟩ := h
  have hB1 : Below w.heap.size w (w.alloc (.cells #[.slice ar n capr] 29)) := (Below.refl _ w).alloc (Nat.le_refl _) _
  have hge : (0 : Int) ≤ ((k + n * 5 : Nat) : Int) := by omega
  go_enter Try.func29, Try.ntmps29
  go_wp2_with fail
  refine (heldN_any n k _ _ (HM.out.below hB1) hn hk1 hk2).mono ?_
  rintro e w2 ⟨rfl, hb2⟩
  have hB2 : Below w.heap.size w w2 := hB1.trans (hb2.mono (by simp))
  clear hb2
  go_wp2
  go_ret
  exact ⟨rfl, hB2⟩

theorem NdRow.far {w w' : World} {B : Nat} {v : Value} {L : List Ty} {row : Option Nat} (h : NdRow w B v L) (hg : w.grownBy w' row) (hne : ∀ g, v.ownBlock = some g → some g ≠ row) : NdRow w' B v L := by
  have hlt := h.lt
  refine ⟨h.1, ?_⟩
  rcases h.2 with hn | ⟨g, cap, cur, hv, hgB, hgg, rest⟩
  · exact .inl hn
  · refine .inr ⟨g, cap, cur, hv, hgB, (hg.block g (hlt g (by rw [hv]; rfl)).2 (hne g (by rw [hv]; rfl))).trans hgg, rest⟩

set_option maxRecDepth 100000 in
set_option maxHeartbeats 1000000 in
theorem eqNode_same (name : ByteArray) (no : Int) (must : Bool) (up most : Int) (w : World) :
    Calls Try.prog 101 #[.agg #[.int .i64 most, .string name, .int .i64 no, .int .i64 up, .bool must], .agg #[.int .i64 most, .string name, .int .i64 no, .int .i64 up, .bool must]] w fun e w' => e = .returned (.bool true) ∧ Below w.heap.size w w' := by
  go_enter Try.func101, Try.ntmps101
  go_wp2
  go_ret
  exact ⟨rfl, by repeat' (first | exact Below.refl _ _ | refine Below.alloc ?_ (by simp) _)⟩

set_option maxRecDepth 100000 in
set_option maxHeartbeats 4000000 in
theorem eqNodeS_same (T : List Ty) (v1 v2 : Value) (w : World) (h1 : NdsAt w w.heap.size v1 T) (h2 : NdsAt w w.heap.size v2 T) (hl : T.length ≤ 2097152) :
    Calls Try.prog 63 #[v1, v2] w fun e w' => e = .returned (.bool true) ∧ Below w.heap.size w w' := by
  obtain ⟨ao, cap, rfl, _, hmax, hrow, _⟩ := h1
  obtain ⟨ao2, cap2, rfl, _, _, hrow2, _⟩ := h2
  have HROW : Hid (∀ i, i < T.length → ∃ g o, ao = some ⟨g, o, none⟩ ∧ g < w.heap.size ∧ NoIn w g (o + i * 5) (ty T i)) := hrow
  have HROW2 : Hid (∀ i, i < T.length → ∃ g o, ao2 = some ⟨g, o, none⟩ ∧ g < w.heap.size ∧ NoIn w g (o + i * 5) (ty T i)) := hrow2
  clear hrow hrow2
  go_enter Try.func63, Try.ntmps63
  go_wp2
  go_loopw [5] (fun vi wr => ∃ k : Nat, k ≤ T.length ∧ vi = .int .i64 (k : Int) ∧ Below w.heap.size w wr)
    (fun vi _ => T.length - (intOf vi).toNat)
  case atStart => exact ⟨0, by omega, rfl, Below.refl _ _⟩
  case round =>
    obtain ⟨k, hk, rfl, hbw⟩ := hrel
    by_cases hlt : k < T.length
    · obtain ⟨g, o, rfl, hgB, hy1⟩ := HROW.out k hlt
      obtain ⟨g2, o2, rfl, hgB2, hy2⟩ := HROW2.out k hlt
      have e1 := hy1.below hbw hgB
      have e2 := hy2.below hbw hgB2
      clear hy1 hy2
      obtain ⟨ti, hti⟩ : ∃ t, ty T k = t := ⟨_, rfl⟩
      rw [hti] at e1 e2
      clear hti
      obtain ⟨kind, name, no, must, up, most⟩ := ti
      obtain ⟨c0, c1, c2, c3, c4⟩ := e1
      obtain ⟨x0, x1, x2, x3, x4⟩ := e2
      dsimp only at c0 c1 c2 c3 c4 x0 x1 x2 x3 x4
      have hlt' : (k : Int) < (T.length : Int) := by omega
      have C2 : Hid (∀ w : World, Calls Try.prog 101 #[.agg #[.int .i64 most, .string name, .int .i64 no, .int .i64 up, .bool must], .agg #[.int .i64 most, .string name, .int .i64 no, .int .i64 up, .bool must]] w fun e w' => e = .returned (.bool true) ∧ Below w.heap.size w w') := fun w => eqNode_same name no must up most w
      go_wp2_with fail
      go_region_with (go_at_call 101; refine (C2.out _).mono ?_; rintro e w2 ⟨rfl, hb2⟩; have hbw2 : Below w.heap.size w w2 := hbw.drew.trans (hb2.mono hbw.size))
      all_goals
        go_wp2
        go_roundw
        case rel => exact ⟨k + 1, by omega, by go_num, hbw2⟩
        case measure => simp [intOf]; omega
    · have hke : k = T.length := by omega
      subst hke
      have hge : ¬ ((T.length : Int) < (T.length : Int)) := by omega
      go_wp2
      go_ret
      exact ⟨rfl, hbw⟩

set_option maxRecDepth 100000 in
set_option maxHeartbeats 1000000 in
theorem eqValue_same (T : List Ty) (v1 v2 : Value) (w : World) (h1 : NdsAt w w.heap.size v1 T) (h2 : NdsAt w w.heap.size v2 T) (hl : T.length ≤ 2097152) :
    Calls Try.prog 23 #[.agg #[v1], .agg #[v2]] w fun e w' => e = .returned (.bool true) ∧ Below w.heap.size w w' := by
  have H1 : Hid (NdsAt w w.heap.size v1 T) := h1
  have H2 : Hid (NdsAt w w.heap.size v2 T) := h2
  obtain ⟨ao, cap, rfl, _⟩ := h1
  obtain ⟨ao2, cap2, rfl, _⟩ := h2
  have hB1 : ∀ o1 o2, Below w.heap.size w ((w.alloc o1).alloc o2) := fun o1 o2 => ((Below.refl _ w).alloc (Nat.le_refl _) o1).alloc (by simp) o2
  go_enter Try.func23, Try.ntmps23
  go_wp2_with fail
  refine (eqNodeS_same T _ _ _ (H1.out.below (hB1 _ _)) (H2.out.below (hB1 _ _)) hl).mono ?_
  rintro e w2 ⟨rfl, hb2⟩
  go_wp2
  go_ret
  exact ⟨rfl, (hB1 _ _).trans (hb2.mono (by simp; omega))⟩

end Go.Proofs.Ytpajdmhakdbkjaa
