/- Lists of boxes in memory; the law's own looks at them and copies of them. -/
import Derived.Test.YtaddiljgpeidgaaBxK
namespace Go.Proofs.Ytaddiljgpeidgaa
open Go.RowKit Plain Sch Bxs

def mx (M : List (List Sd)) (i : Nat) : List Sd := M.getD i []

/-- a slice of boxes, in blocks below B -/
def BxsAt (w : World) (B : Nat) (v : Value) (M : List (List Sd)) : Prop :=
  ∃ ao cap, v = .slice ao M.length cap ∧ M.length ≤ cap ∧ cap ≤ maxLen ∧ ∀ i, i < M.length → ∃ g o u, ao = some ⟨g, o, none⟩ ∧ g < B ∧ w.cell? ⟨g, o + i, none⟩ = some u ∧ SdsAt w B u (mx M i)

theorem BxsAt.below {w w' : World} {v : Value} {M : List (List Sd)} {B : Nat} (h : BxsAt w B v M) (hb : Below B w w') (hB : B ≤ w.heap.size := by exact Nat.le_refl _) : BxsAt w' w'.heap.size v M := by
  obtain ⟨ao, cap, hv, hc, hm, hr⟩ := h
  refine ⟨ao, cap, hv, hc, hm, fun i hi => ?_⟩
  obtain ⟨g, o, u, ha, hg, c, hs⟩ := hr i hi
  have := hb.size
  exact ⟨g, o, u, ha, by omega, (hb.cell (p := ⟨g, o + i, none⟩) hg).trans c, hs.below hb hB⟩

/-- own rows of boxes: a row of slices, each with its own row -/
def BOwn (w : World) (B : Nat) (v : Value) (M : List (List Sd)) (us : List Value) : Prop :=
  w.ownsRow B 29 1 v M.length us ∧ (∀ i, i < M.length → ∃ u, us[i]? = some u ∧ QRow w B u (mx M i) ∧ ∀ g, u.ownBlock = some g → v.ownBlock ≠ some g) ∧ ∀ (i j : Nat) (ui uj : Value), i < j → us[i]? = some ui → us[j]? = some uj → ∀ g, ui.ownBlock = some g → uj.ownBlock ≠ some g

theorem BOwn.at {w : World} {B : Nat} {v : Value} {M : List (List Sd)} {us : List Value} (h : BOwn w B v M us) : BxsAt w w.heap.size v M := by
  obtain ⟨h1, h2, _⟩ := h
  have h0 := h1
  obtain ⟨_, ⟨rfl, hn0⟩ | ⟨g, cap, cur, rfl, hB, hb, hnc, hcm, _⟩⟩ := h1
  · exact ⟨none, 0, by rw [hn0], by omega, by unfold maxLen; omega, fun i hi => by omega⟩
  · refine ⟨some ⟨g, 0, none⟩, cap, rfl, hnc, hcm, fun i hi => ?_⟩
    obtain ⟨u, hu, hq, _⟩ := h2 i hi
    refine ⟨g, 0, u, rfl, (h0.lt g rfl).2, ?_, hq.at⟩
    rw [Nat.zero_add, h0.cellAt i (by omega)]
    exact hu

theorem BOwn.slice {w : World} {B : Nat} {v : Value} {M : List (List Sd)} {us : List Value} (h : BOwn w B v M us) : ∃ ao cap, v = Value.slice ao M.length cap := by
  rcases h.1.2 with ⟨rfl, h0⟩ | ⟨g, cap, _, rfl, _⟩
  · exact ⟨none, 0, by rw [h0]⟩
  · exact ⟨_, _, rfl⟩

theorem BOwn.below {w w' : World} {B : Nat} {v : Value} {M : List (List Sd)} {us : List Value} (h : BOwn w B v M us) (hb : Below w.heap.size w w') : BOwn w' B v M us :=
  ⟨own_below2 h.1 hb, fun i hi => by
    obtain ⟨u, hu, hq, hn⟩ := h.2.1 i hi
    exact ⟨u, hu, hq.below hb, hn⟩, h.2.2⟩

set_option maxRecDepth 100000 in
set_option maxHeartbeats 4000000 in
theorem szBoxS_any (M : List (List Sd)) (v : Value) (w : World) (hT : BxsAt w w.heap.size v M) :
    Calls Try.prog 31 #[v, .int .i64 1048576] w fun e w' => (∃ r : Int, e = .returned (.int .i64 r) ∧ -1 ≤ r ∧ r ≤ 1048576 ∧ (0 ≤ r → M.length ≤ 1048576 ∧ ∀ i, i < M.length → (mx M i).length ≤ 1048576)) ∧ Below w.heap.size w w' := by
  by_cases hbig : (1048576 : Int) < (M.length : Int)
  · obtain ⟨ao, cap, rfl, hlc, hcm, _⟩ := hT
    unfold maxLen at hcm
    have hlt : (1048576 : Int) - (M.length : Int) < 0 := by omega
    have hge : (-9223372036854775808 : Int) ≤ (1048576 : Int) - (M.length : Int) := by omega
    go_enter Try.func31, Try.ntmps31
    go_wp2
    go_ret
    exact ⟨⟨-1, rfl, by omega, by omega, fun h => by omega⟩, Below.refl _ _⟩
  · have hlen : M.length ≤ 1048576 := by omega
    have hlen' : (M.length : Int) ≤ 1048576 := by omega
    have hge : ¬ ((1048576 : Int) - (M.length : Int) < 0) := by omega
    obtain ⟨ao, cap, rfl, hlc, hcm, hrow⟩ := hT
    have HROW : Hid (∀ i, i < M.length → ∃ g o u, ao = some ⟨g, o, none⟩ ∧ g < w.heap.size ∧ w.cell? ⟨g, o + i, none⟩ = some u ∧ SdsAt w w.heap.size u (mx M i)) := hrow
    clear hrow hbig
    go_enter Try.func31, Try.ntmps31
    go_wp2
    go_loopw [1, 5] (fun vl vi wr => ∃ (i : Nat) (left : Int), i ≤ M.length ∧ vi = .int .i64 (i : Int) ∧ vl = .int .i64 left ∧ 0 ≤ left ∧ left ≤ 1048576 ∧ Hid (∀ j, j < i → (mx M j).length ≤ 1048576) ∧ Below w.heap.size w wr)
      (fun _ vi _ => M.length - (intOf vi).toNat)
    case atStart => exact ⟨0, 1048576 - (M.length : Int), by omega, rfl, rfl, by omega, by omega, fun j hj => by omega, Below.refl _ _⟩
    case round =>
      obtain ⟨i, left, hi, rfl, rfl, hl0, hl1, hall, hbw⟩ := hrel
      by_cases hlt : i < M.length
      · have hlt' : (i : Int) < (M.length : Int) := by omega
        obtain ⟨g, o, u, rfl, hg, hc, hs⟩ := HROW.out i hlt
        have c0 := (hbw.cell (p := ⟨g, o + i, none⟩) hg).trans hc
        have HS : Hid (SdsAt wr wr.heap.size u (mx M i)) := hs.below hbw
        obtain ⟨su, cu, rfl, _⟩ := hs
        clear hc
        go_wp2_with fail
        refine (szBox_lft (mx M i) _ left _ HS.out hl0 hl1).mono ?_
        rintro e w2 ⟨⟨r, rfl, hr0, hr1, hr2⟩, hb2⟩
        have hbw2 : Below w.heap.size w w2 := hbw.trans (hb2.mono hbw.size)
        by_cases hneg : r < 0
        · clear hr2
          go_wp2
          go_ret
          exact ⟨⟨-1, rfl, by omega, by omega, fun h => by omega⟩, hbw2⟩
        · have hnn : (mx M i).length ≤ 1048576 := hr2 (by omega)
          have hall2 : Hid (∀ j, j < i + 1 → (mx M j).length ≤ 1048576) := fun j hj => by
            by_cases hji : j = i
            · rw [hji]; exact hnn
            · exact hall.out j (by omega)
          clear hr2 hnn hb2 HS hall
          go_wp2
          go_roundw
          case rel => exact ⟨i + 1, r, by omega, by go_num, rfl, by omega, by omega, hall2, hbw2⟩
          case measure => simp [intOf]; omega
      · have hke : i = M.length := by omega
        subst hke
        have hge2 : ¬ ((M.length : Int) < (M.length : Int)) := by omega
        go_wp2
        go_ret
        exact ⟨⟨left, rfl, by omega, by omega, fun _ => by first | exact ⟨hlen, hall.out⟩ | exact hall.out⟩, hbw⟩

set_option maxRecDepth 100000 in
set_option maxHeartbeats 4000000 in
theorem eqBoxS_same (M : List (List Sd)) (v1 v2 : Value) (w : World) (h1 : BxsAt w w.heap.size v1 M) (h2 : BxsAt w w.heap.size v2 M) (hl : M.length ≤ 2097152) (hll : ∀ i, i < M.length → (mx M i).length ≤ 2097152) :
    Calls Try.prog 35 #[v1, v2] w fun e w' => e = .returned (.bool true) ∧ Below w.heap.size w w' := by
  obtain ⟨ao, cap, rfl, _, hmax, hrow⟩ := h1
  obtain ⟨ao2, cap2, rfl, _, _, hrow2⟩ := h2
  have HROW : Hid (∀ i, i < M.length → ∃ g o u, ao = some ⟨g, o, none⟩ ∧ g < w.heap.size ∧ w.cell? ⟨g, o + i, none⟩ = some u ∧ SdsAt w w.heap.size u (mx M i)) := hrow
  have HROW2 : Hid (∀ i, i < M.length → ∃ g o u, ao2 = some ⟨g, o, none⟩ ∧ g < w.heap.size ∧ w.cell? ⟨g, o + i, none⟩ = some u ∧ SdsAt w w.heap.size u (mx M i)) := hrow2
  clear hrow hrow2
  have HLL : Hid (∀ i, i < M.length → (mx M i).length ≤ 2097152) := hll
  clear hll
  go_enter Try.func35, Try.ntmps35
  go_wp2
  go_loopw [5] (fun vi wr => ∃ k : Nat, k ≤ M.length ∧ vi = .int .i64 (k : Int) ∧ Below w.heap.size w wr)
    (fun vi _ => M.length - (intOf vi).toNat)
  case atStart => exact ⟨0, by omega, rfl, Below.refl _ _⟩
  case round =>
    obtain ⟨k, hk, rfl, hbw⟩ := hrel
    by_cases hlt : k < M.length
    · obtain ⟨g, o, u, rfl, hgB, hc1, hs1⟩ := HROW.out k hlt
      obtain ⟨g2, o2, u2, rfl, hgB2, hc2, hs2⟩ := HROW2.out k hlt
      have e1 := (hbw.cell (p := ⟨g, o + k, none⟩) hgB).trans hc1
      have e2 := (hbw.cell (p := ⟨g2, o2 + k, none⟩) hgB2).trans hc2
      have HS1 : Hid (SdsAt wr.drew wr.drew.heap.size u (mx M k)) := (hs1.below hbw).below ((Below.refl _ wr).drew)
      have HS2 : Hid (SdsAt wr.drew wr.drew.heap.size u2 (mx M k)) := (hs2.below hbw).below ((Below.refl _ wr).drew)
      obtain ⟨su, cu, rfl, _⟩ := hs1
      obtain ⟨su2, cu2, rfl, _⟩ := hs2
      clear hc1 hc2
      have hlt' : (k : Int) < (M.length : Int) := by omega
      have C2 : Hid (Calls Try.prog 18 #[.agg #[.slice su (mx M k).length cu], .agg #[.slice su2 (mx M k).length cu2]] wr.drew fun e w' => e = .returned (.bool true) ∧ Below wr.drew.heap.size wr.drew w') := eqBox_same (mx M k) _ _ wr.drew HS1.out HS2.out (HLL.out k hlt)
      go_wp2_with fail
      go_region_with (go_at_call 18; refine C2.out.mono ?_; rintro e w2 ⟨rfl, hb2⟩; have hbw2 : Below w.heap.size w w2 := hbw.drew.trans (hb2.mono hbw.size))
      all_goals
        go_wp2
        go_roundw
        case rel => exact ⟨k + 1, by omega, by go_num, hbw2⟩
        case measure => simp [intOf]; omega
    · have hke : k = M.length := by omega
      subst hke
      have hge : ¬ ((M.length : Int) < (M.length : Int)) := by omega
      go_wp2
      go_ret
      exact ⟨rfl, hbw⟩

theorem Try.infoBx : (Try.prog.info? 29).map (fun i => (i.zero, i.size, i.bytes)) = some (some (.agg #[.slice none 0 0]), 1, 24) := by kernel_rfl

/-- boxes that are being copied: the first i are there -/
def Fill (w : World) (gs : Nat) (M : List (List Sd)) (ys : List Value) (i : Nat) : Prop :=
  (∀ m, m < i → ∃ u, ys[m]? = some u ∧ QRow w (gs + 1) u (mx M m)) ∧ ∀ (m k : Nat) (um uk : Value), m < k → k < i → ys[m]? = some um → ys[k]? = some uk → ∀ g, um.ownBlock = some g → uk.ownBlock ≠ some g

theorem Fill.step {w w2 : World} {gs i : Nat} {M : List (List Sd)} {ys : List Value} {u : Value} (h : Fill w gs M ys i) (hb : Below w.heap.size w w2) (hq : QRow w2 w.heap.size u (mx M i)) (hg : gs < w.heap.size) (hi : i < ys.length) : Fill (w2.setCell ⟨gs, i, none⟩ u) gs M (ys.set i u) (i + 1) := by
  have old : ∀ m, m < i → ∃ u', (ys.set i u)[m]? = some u' ∧ QRow w (gs + 1) u' (mx M m) := fun m hm => by
    obtain ⟨u', h1, h2⟩ := h.1 m hm
    exact ⟨u', by rw [List.getElem?_set_ne (by omega)]; exact h1, h2⟩
  refine ⟨fun m hm => ?_, fun m k um uk hmk hk e1 e2 g hg1 hg2 => ?_⟩
  · by_cases e : m = i
    · subst e
      refine ⟨u, by rw [List.getElem?_set_self hi], ?_⟩
      obtain ⟨ty, hq⟩ := hq
      exact ⟨ty, own_lower (ownsRow_setCell_below hq (a := ⟨gs, m, none⟩) hg _) hg⟩
    · obtain ⟨u', h1, h2⟩ := old m (by omega)
      refine ⟨u', h1, ?_⟩
      exact (h2.below hb).setCell (a := ⟨gs, i, none⟩) (by show gs < gs + 1; omega) _
  · by_cases e : k = i
    · subst e
      rw [List.getElem?_set_self hi] at e2
      simp at e2
      subst e2
      obtain ⟨u', h1, h2⟩ := old m hmk
      rw [h1] at e1
      simp at e1
      subst e1
      have a1 := (h2.lt g hg1).2
      have a2 := (hq.lt g hg2).1
      omega
    · rw [List.getElem?_set_ne (by omega)] at e1 e2
      exact h.2 m k um uk hmk (by omega) e1 e2 g hg1 hg2

set_option maxRecDepth 100000 in
set_option maxHeartbeats 4000000 in
theorem toBoxS_any (M : List (List Sd)) (v : Value) (w : World) (hT : BxsAt w w.heap.size v M) (hl : M.length ≤ 1048576) (hll : ∀ i, i < M.length → (mx M i).length ≤ 1048576) :
    Calls Try.prog 33 #[v] w fun e w' => ∃ r, e = .returned r ∧ (∃ us, BOwn w' w.heap.size r M us) ∧ Below w.heap.size w w' := by
  obtain ⟨i0, hi, hz0, hz1, hz2⟩ := info_parts Try.infoBx
  obtain ⟨ao, cap, rfl, _, hmax, hrow⟩ := hT
  have HROW : Hid (∀ i, i < M.length → ∃ g o u, ao = some ⟨g, o, none⟩ ∧ g < w.heap.size ∧ w.cell? ⟨g, o + i, none⟩ = some u ∧ SdsAt w w.heap.size u (mx M i)) := hrow
  have HLL : Hid (∀ i, i < M.length → (mx M i).length ≤ 1048576) := hll
  clear hrow hll
  obtain ⟨Z, hM⟩ : ∃ Z, Z = madeCells (Value.agg #[.slice none 0 0]).cells (((M.length : Nat) : Int).toNat * i0.size) := ⟨_, rfl⟩
  have hMs : Z.size = M.length * 1 := by rw [hM, size_madeCells, hz1]; simp
  have hmk : ∀ W : World, (Instr.makeSlice 48 (.int .i64 (M.length : Int)) (.int .i64 (M.length : Int))).run Try.prog W = .ok (.slice (some ⟨W.heap.size, 0, none⟩) M.length M.length) (W.alloc (.cells Z 29)) := fun W => by
    have h := run_make (P := Try.prog) W 48 29 i0 (.agg #[.slice none 0 0]) Try.underlying48 hi hz0 .i64 .i64 (M.length : Int) (M.length : Int) (by omega) (by omega) (by rw [hz2]; omega) (by omega)
    rw [← hM] at h
    simpa using h
  have hown0 : (w.alloc (.cells Z 29)).ownsRow w.heap.size 29 1 (.slice (some ⟨w.heap.size, 0, none⟩) M.length M.length) M.length Z.toList :=
    ⟨by simp [hMs], .inr ⟨w.heap.size, M.length, Z, rfl, Nat.le_refl _, heap_alloc_new w _, Nat.le_refl _, by unfold maxLen; omega, hMs, by rw [List.take_of_length_le (by simp [hMs])]⟩⟩
  clear hM
  go_enter Try.func33, Try.ntmps33
  go_wp2
  go_loopw [4] (fun vi wr => ∃ (i : Nat) (ys : List Value), i ≤ M.length ∧ vi = .int .i64 (i : Int) ∧ wr.ownsRow w.heap.size 29 1 (.slice (some ⟨w.heap.size, 0, none⟩) M.length M.length) M.length ys ∧ Hid (Fill wr w.heap.size M ys i) ∧ Below w.heap.size w wr)
    (fun vi _ => M.length - (intOf vi).toNat)
  case atStart => exact ⟨0, Z.toList, by omega, rfl, hown0, ⟨fun m hm => by omega, fun m k um uk _ hk => by omega⟩, (Below.refl _ w).alloc (Nat.le_refl _) _⟩
  case round =>
    obtain ⟨i, ys, hil, rfl, hown, hys, hbw⟩ := hrel
    clear hown0 hmk
    have hyl : ys.length = M.length := by have := hown.1; omega
    by_cases hlt : i < M.length
    · have hlt' : (i : Int) < (M.length : Int) := by omega
      obtain ⟨g, o, u, rfl, hg, hc, hs⟩ := HROW.out i hlt
      have c0 := (hbw.cell (p := ⟨g, o + i, none⟩) hg).trans hc
      have HS : Hid (SdsAt wr wr.heap.size u (mx M i)) := hs.below hbw
      have hsz : w.heap.size < wr.heap.size := (hown.lt w.heap.size rfl).2
      obtain ⟨su, cu, rfl, _⟩ := hs
      clear hc
      go_wp2_with fail
      refine (toBox_any (mx M i) _ _ HS.out (HLL.out i hlt)).mono ?_
      rintro e w2 ⟨r2, rfl, ho2, hb2⟩
      have how2 := own_below2 hown hb2
      have hbw2 : Below w.heap.size w w2 := hbw.trans (hb2.mono hbw.size)
      have HF : Hid (Fill (w2.setCell ⟨w.heap.size, i, none⟩ r2) w.heap.size M (ys.set i r2) (i + 1)) := hys.out.step hb2 ⟨_, ho2⟩ hsz (by omega)
      have q0 := how2.cellAt i (by omega)
      rw [List.getElem?_eq_getElem (by omega)] at q0
      have z0 := how2.frozenAt i
      generalize ys[i] = a0 at q0
      obtain ⟨ar, cr, hr2⟩ : ∃ ao cap, r2 = Value.slice ao (mx M i).length cap := by
        rcases ho2.2 with ⟨rfl, h0⟩ | ⟨g, cap, _, rfl, _⟩
        · exact ⟨none, 0, by rw [h0]⟩
        · exact ⟨_, _, rfl⟩
      subst hr2
      have how6 := (how2.stored i (.slice ar (mx M i).length cr)).1
      generalize ys.set i (Value.slice ar (mx M i).length cr) = zs at how6 HF
      clear how2 hown hb2 hbw hys c0 ho2
      go_wp2
      go_roundw
      case rel => exact ⟨i + 1, zs, by omega, by go_num, how6, HF, hbw2.setCell (p := ⟨w.heap.size, i, none⟩) (Nat.le_refl _) _⟩
      case measure => simp [intOf]; omega
    · have hke : i = M.length := by omega
      subst hke
      have hge : ¬ ((M.length : Int) < (M.length : Int)) := by omega
      have HO : Hid (BOwn wr w.heap.size (.slice (some ⟨w.heap.size, 0, none⟩) M.length M.length) M ys) := by
        refine ⟨hown, fun m hm => ?_, fun m k um uk hmk e1 e2 g hg1 hg2 => ?_⟩
        · obtain ⟨u, h1, h2⟩ := hys.out.1 m hm
          refine ⟨u, h1, ?_, fun g hg e => ?_⟩
          · obtain ⟨ty, h2⟩ := h2
            exact ⟨ty, own_lower h2 (by omega)⟩
          · simp [Value.ownBlock] at e
            have := (h2.lt g hg).1
            omega
        · exact hys.out.2 m k um uk hmk (by have := (List.getElem?_eq_some_iff.1 e2).1; omega) e1 e2 g hg1 hg2
      clear hys hown
      go_wp2
      go_ret
      exact ⟨_, rfl, ⟨ys, HO.out⟩, hbw⟩

end Go.Proofs.Ytaddiljgpeidgaa
