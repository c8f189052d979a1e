/- The law's own marks in lists of boxes. -/
import Derived.Test.YtaddiljgpeidgaaByM
namespace Go.Proofs.Ytaddiljgpeidgaa
open Go.RowKit Plain Sch Bxs

/-- how many sides the first i boxes have -/
def pl (M : List (List Sd)) (i : Nat) : Nat := ((M.take i).map List.length).sum

theorem pl_zero (M : List (List Sd)) : pl M 0 = 0 := rfl
theorem pl_step {M : List (List Sd)} {i : Nat} (h : i < M.length) : pl M (i + 1) = pl M i + (mx M i).length := by
  unfold pl mx
  rw [List.take_add_one, List.getElem?_eq_getElem h, List.map_append, List.sum_append, List.getD, List.getElem?_eq_getElem h]
  simp
theorem pl_mono {M : List (List Sd)} : ∀ {j i : Nat}, i ≤ j → j ≤ M.length → pl M i ≤ pl M j := by
  intro j
  induction j with
  | zero => intro i hi _; rw [show i = 0 by omega]; exact Nat.le_refl _
  | succ j ih =>
    intro i hi hj
    by_cases e : i = j + 1
    · rw [e]; exact Nat.le_refl _
    · rw [pl_step (by omega)]
      have := ih (i := i) (by omega) (by omega)
      omega
theorem pl_each {M : List (List Sd)} {i : Nat} (h : i < M.length) : (mx M i).length ≤ pl M M.length := by
  have h1 := pl_step h
  have h2 := pl_mono (M := M) (i := i + 1) (j := M.length) (by omega) (Nat.le_refl _)
  omega

set_option maxRecDepth 100000 in
set_option maxHeartbeats 4000000 in
theorem szBoxS_sum (M : List (List Sd)) (v : Value) (w : World) (hT : BxsAt w w.heap.size v M) :
    Calls Try.prog 31 #[v, .int .i64 1048576] w fun e w' => (∃ r : Int, e = .returned (.int .i64 r) ∧ -1 ≤ r ∧ r ≤ 1048576 ∧ (0 ≤ r → M.length ≤ 1048576 ∧ pl M M.length ≤ 1048576)) ∧ Below w.heap.size w w' := by
  by_cases hbig : (1048576 : Int) < (M.length : Int)
  · obtain ⟨ao, cap, rfl, hlc, hcm, _⟩ := hT
    unfold maxLen at hcm
    have hlt : (1048576 : Int) - (M.length : Int) < 0 := by omega
    have hge : (-9223372036854775808 : Int) ≤ (1048576 : Int) - (M.length : Int) := by omega
    go_enter Try.func31, Try.ntmps31
    go_wp2
    go_ret
    exact ⟨⟨-1, rfl, by omega, by omega, fun h => by omega⟩, Below.refl _ _⟩
  · have hlen : M.length ≤ 1048576 := by omega
    have hlen' : (M.length : Int) ≤ 1048576 := by omega
    have hge : ¬ ((1048576 : Int) - (M.length : Int) < 0) := by omega
    obtain ⟨ao, cap, rfl, hlc, hcm, hrow⟩ := hT
    have HROW : Hid (∀ i, i < M.length → ∃ g o u, ao = some ⟨g, o, none⟩ ∧ g < w.heap.size ∧ w.cell? ⟨g, o + i, none⟩ = some u ∧ SdsAt w w.heap.size u (mx M i)) := hrow
    clear hrow hbig
    go_enter Try.func31, Try.ntmps31
    go_wp2
    go_loopw [1, 5] (fun vl vi wr => ∃ (i : Nat) (left : Int), i ≤ M.length ∧ vi = .int .i64 (i : Int) ∧ vl = .int .i64 left ∧ 0 ≤ left ∧ left ≤ 1048576 ∧ Hid (left + (pl M i : Int) ≤ 1048576) ∧ Below w.heap.size w wr)
      (fun _ vi _ => M.length - (intOf vi).toNat)
    case atStart => exact ⟨0, 1048576 - (M.length : Int), by omega, rfl, rfl, by omega, by omega, by show _ ≤ _; rw [pl_zero]; omega, Below.refl _ _⟩
    case round =>
      obtain ⟨i, left, hi, rfl, rfl, hl0, hl1, hall, hbw⟩ := hrel
      by_cases hlt : i < M.length
      · have hlt' : (i : Int) < (M.length : Int) := by omega
        obtain ⟨g, o, u, rfl, hg, hc, hs⟩ := HROW.out i hlt
        have c0 := (hbw.cell (p := ⟨g, o + i, none⟩) hg).trans hc
        have HS : Hid (SdsAt wr wr.heap.size u (mx M i)) := hs.below hbw
        obtain ⟨su, cu, rfl, _⟩ := hs
        clear hc
        go_wp2_with fail
        refine (szBox_left (mx M i) _ left _ HS.out hl0 hl1).mono ?_
        rintro e w2 ⟨rfl, hb2⟩
        have hbw2 : Below w.heap.size w w2 := hbw.trans (hb2.mono hbw.size)
        by_cases hneg : left < ((mx M i).length : Int)
        · rw [if_pos hneg]
          go_wp2
          go_ret
          exact ⟨⟨-1, rfl, by omega, by omega, fun h => by omega⟩, hbw2⟩
        · rw [if_neg hneg]
          obtain ⟨r, hr⟩ : ∃ r, r = left - ((mx M i).length : Int) := ⟨_, rfl⟩
          have hr0 : ¬ r < 0 := by omega
          have hr1 : r ≤ 1048576 := by omega
          have hall2 : Hid (r + (pl M (i + 1) : Int) ≤ 1048576) := by
            show _ ≤ _
            have h1 := pl_step hlt
            have h2 := hall.out
            omega
          rw [← hr]
          clear hb2 HS hall hr
          go_wp2
          go_roundw
          case rel => exact ⟨i + 1, r, by omega, by go_num, rfl, by omega, by omega, hall2, hbw2⟩
          case measure => simp [intOf]; omega
      · have hke : i = M.length := by omega
        subst hke
        have hge2 : ¬ ((M.length : Int) < (M.length : Int)) := by omega
        go_wp2
        go_ret
        exact ⟨⟨left, rfl, by omega, by omega, fun _ => by have h := hall.out; first | exact ⟨hlen, by omega⟩ | omega⟩, hbw⟩

/-- what writes into the rows us alone -/
structure RowsGr (w : World) (us : List Value) (w' : World) : Prop where
  os : w'.os = w.os
  tape : w'.tape = w.tape
  output : w'.output = w.output
  size : w.heap.size ≤ w'.heap.size
  block : ∀ j, j < w.heap.size → (∀ u ∈ us, u.ownBlock ≠ some j) → w'.heap[j]? = w.heap[j]?

theorem RowsGr.refl (w : World) (us : List Value) : RowsGr w us w := ⟨rfl, rfl, rfl, Nat.le_refl _, fun _ _ _ => rfl⟩
theorem RowsGr.step {w w1 w2 : World} {us : List Value} {u : Value} (h : RowsGr w us w1) (hg : w1.grownBy w2 u.ownBlock) (hu : u ∈ us) : RowsGr w us w2 :=
  ⟨hg.os.trans h.os, hg.tape.trans h.tape, hg.output.trans h.output, Nat.le_trans h.size hg.size, fun j hj hn => (hg.block j (Nat.lt_of_lt_of_le hj h.size) (fun e => hn u hu e.symm)).trans (h.block j hj hn)⟩
theorem RowsGr.below {w w' : World} {us : List Value} {B : Nat} (h : RowsGr w us w') (hB : ∀ u ∈ us, ∀ g, u.ownBlock = some g → B ≤ g) (hw : B ≤ w.heap.size) : Below B w w' :=
  ⟨h.os, h.tape, h.output, h.size, fun j hj => h.block j (by omega) (fun u hu e => by have := hB u hu j e; omega)⟩

/-- a row that others are marked beside -/
theorem own_beside {w w' : World} {B e size n : Nat} {v : Value} {xs : List Value} {row : Option Nat} (h : w.ownsRow B e size v n xs) (hg : w.grownBy w' row) (hne : ∀ g, v.ownBlock = some g → some g ≠ row) : w'.ownsRow B e size v n xs := by
  have hlt := h.lt
  refine ⟨h.1, ?_⟩
  rcases h.2 with hn | ⟨g, cap, cur, hv, hgB, hgg, rest⟩
  · exact .inl hn
  · refine .inr ⟨g, cap, cur, hv, hgB, (hg.block g (hlt g (by rw [hv]; rfl)).2 (hne g (by rw [hv]; rfl))).trans hgg, rest⟩

/-- a row that is marked from k on -/
def MRow (w : World) (B : Nat) (u : Value) (n k : Nat) : Prop := ∃ ty ys, w.ownsRow B ty 2 u n ys ∧ ∀ j, j < n * 2 → ys[j]? = some (mcSd k j)

/-- boxes of which the first i are marked -/
def BMark (w : World) (B : Nat) (v : Value) (M : List (List Sd)) (us : List Value) (k i : Nat) : Prop :=
  w.ownsRow B 29 1 v M.length us ∧ (∀ m, m < i → ∃ u, us[m]? = some u ∧ MRow w B u (mx M m).length (k + pl M m * 2)) ∧ ∀ m, i ≤ m → m < M.length → ∃ u, us[m]? = some u ∧ QRow w B u (mx M m)

theorem BOwn.noMark {w : World} {B : Nat} {v : Value} {M : List (List Sd)} {us : List Value} (h : BOwn w B v M us) (k : Nat) : BMark w B v M us k 0 :=
  ⟨h.1, fun m hm => by omega, fun m _ hm => by obtain ⟨u, h1, h2, _⟩ := h.2.1 m hm; exact ⟨u, h1, h2⟩⟩

theorem BMark.step {w w' : World} {B : Nat} {v : Value} {M : List (List Sd)} {us : List Value} {k i : Nat} {u : Value} (h0 : (∀ i, i < M.length → ∃ u, us[i]? = some u ∧ ∀ g, u.ownBlock = some g → v.ownBlock ≠ some g) ∧ ∀ (i j : Nat) (ui uj : Value), i < j → us[i]? = some ui → us[j]? = some uj → ∀ g, ui.ownBlock = some g → uj.ownBlock ≠ some g)
    (h : BMark w B v M us k i) (hi : i < M.length) (hu : us[i]? = some u) (hm : MRow w' B u (mx M i).length (k + pl M i * 2)) (hg : w.grownBy w' u.ownBlock) : BMark w' B v M us k (i + 1) := by
  obtain ⟨d1, d2⟩ := h0
  refine ⟨?_, fun m hmi => ?_, fun m hmi hml => ?_⟩
  · refine own_beside h.1 hg (fun g hv e => ?_)
    obtain ⟨u', hu', hn⟩ := d1 i hi
    rw [hu] at hu'
    simp at hu'
    subst hu'
    exact hn g e.symm hv
  · by_cases e : m = i
    · rw [e]; exact ⟨u, hu, hm⟩
    · obtain ⟨u', hu', ty, ys, ho, hys⟩ := h.2.1 m (by omega)
      refine ⟨u', hu', ty, ys, own_beside ho hg (fun g hv e => ?_), hys⟩
      exact d2 m i u' u (by omega) hu' hu g hv e.symm
  · obtain ⟨u', hu', ty, ho⟩ := h.2.2 m (by omega) hml
    refine ⟨u', hu', ty, own_beside ho hg (fun g hv e => ?_)⟩
    exact d2 i m u u' (by omega) hu hu' g e.symm hv

set_option maxRecDepth 100000 in
set_option maxHeartbeats 4000000 in
theorem markBoxS_any (B : Nat) (v : Value) (M : List (List Sd)) (us : List Value) (w : World) (h : BOwn w B v M us) (hl : M.length ≤ 1048576) (hp : pl M M.length ≤ 1048576) :
    Calls Try.prog 36 #[v, .int .i64 1] w fun e w' => e = .returned (.int .i64 ((1 + pl M M.length * 2 : Nat) : Int)) ∧ BMark w' B v M us 1 M.length ∧ RowsGr w us w' := by
  have HD : Hid ((∀ i, i < M.length → ∃ u, us[i]? = some u ∧ ∀ g, u.ownBlock = some g → v.ownBlock ≠ some g) ∧ ∀ (i j : Nat) (ui uj : Value), i < j → us[i]? = some ui → us[j]? = some uj → ∀ g, ui.ownBlock = some g → uj.ownBlock ≠ some g) :=
    ⟨fun i hi => by obtain ⟨u, h1, _, h2⟩ := h.2.1 i hi; exact ⟨u, h1, h2⟩, h.2.2⟩
  have HP : Hid (pl M M.length ≤ 1048576) := hp
  have H0 : Hid (BMark w B v M us 1 0) := h.noMark 1
  obtain ⟨ao, cap, rfl⟩ := h.slice
  clear h hp
  go_enter Try.func36, Try.ntmps36
  go_wp2
  go_loopw [1, 5] (fun vk vi wr => ∃ i : Nat, i ≤ M.length ∧ vi = .int .i64 (i : Int) ∧ vk = .int .i64 ((1 + pl M i * 2 : Nat) : Int) ∧ Hid (BMark wr B (.slice ao M.length cap) M us 1 i) ∧ Hid (RowsGr w us wr))
    (fun _ vi _ => M.length - (intOf vi).toNat)
  case atStart => exact ⟨0, by omega, rfl, by rw [pl_zero]; rfl, H0, RowsGr.refl _ _⟩
  case round =>
    clear H0
    obtain ⟨i, hi, rfl, rfl, hM, hR⟩ := hrel
    by_cases hlt : i < M.length
    · have hlt' : (i : Int) < (M.length : Int) := by omega
      obtain ⟨u, hu, ty, ho⟩ := hM.out.2.2 i (Nat.le_refl _) hlt
      have hform : ∃ g, ao = some ⟨g, 0, none⟩ ∧ g < wr.heap.size ∧ wr.cell? ⟨g, i, none⟩ = some u := by
        have hs := hM.out.1
        obtain ⟨g, c, hv⟩ := Joins.ownsRow_form hs (by omega)
        simp only [Value.slice.injEq, true_and] at hv
        obtain ⟨rfl, rfl⟩ := hv
        refine ⟨g, rfl, (World.ownsRow.lt hs g rfl).2, ?_⟩
        rw [World.ownsRow.cellAt hs i (by omega)]
        exact hu
      obtain ⟨g, rfl, hgl, c0⟩ := hform
      have hps : pl M i ≤ 1048576 := Nat.le_trans (pl_mono (by omega) (Nat.le_refl _)) HP.out
      have hpe : (mx M i).length ≤ 1048576 := Nat.le_trans (pl_each hlt) HP.out
      have HO : Hid (SRow wr B ty u (mx M i)) := ho
      have HU : Hid (us[i]? = some u) := hu
      obtain ⟨su, cu, hsu⟩ := SRow.slice ho
      subst hsu
      obtain ⟨kk, hkk⟩ : ∃ kk, kk = 1 + pl M i * 2 := ⟨_, rfl⟩
      have HST : Hid (1 + pl M (i + 1) * 2 = kk + (mx M i).length * 2) := by show _ = _; rw [hkk, pl_step hlt]; omega
      have HKK : Hid (kk = 1 + pl M i * 2) := hkk
      have hk1 : 1 ≤ kk := by omega
      have hk2 : kk ≤ 100000000 := by omega
      rw [← hkk]
      clear ho hu hkk
      go_wp2_with fail
      refine (markSd_any B (mx M i).length kk ty _ _ wr HO.out (by omega) hk1 hk2).mono ?_
      rintro e w2 ⟨rfl, ⟨ys, hy1, hy2⟩, hg2⟩
      have HM2 : Hid (BMark w2 B (.slice (some ⟨g, 0, none⟩) M.length cap) M us 1 (i + 1)) := hM.out.step HD.out hlt HU.out ⟨ty, ys, hy1, by rw [← HKK.out]; exact hy2⟩ hg2
      have HR2 : Hid (RowsGr w us w2) := hR.out.step hg2 (List.mem_of_getElem? HU.out)
      clear hy1 hy2 hg2 hM hR HO HU c0
      go_wp2
      go_roundw
      case rel => exact ⟨i + 1, by omega, by go_num, by have h := HST.out; congr 1; omega, HM2, HR2⟩
      case measure => simp [intOf]; omega
    · have hke : i = M.length := by omega
      subst hke
      have hge : ¬ ((M.length : Int) < (M.length : Int)) := by omega
      go_wp2
      go_ret
      exact ⟨rfl, hM.out, hR.out⟩

end Go.Proofs.Ytaddiljgpeidgaa
