/- Machines in memory: rows of rows of ints, rows of bools; the law's own looks at them and copies of them. Copies of machines; whether two machines are alike. -/
import Derived.Test.YtecgjhnihagleaaZnA
import Derived.Test.YtecgjhnihagleaaMcA
import Derived.Deep.RegionHeld3
import Derived.Deep.DeepCutAuto
namespace Go.Proofs.Ytecgjhnihagleaa
open Go.RowKit Plain Mch

def bols (E : List Bool) : List Value := E.map Value.bool

/-- a slice of bools, in blocks below B -/
def EAt (w : World) (B : Nat) (v : Value) (E : List Bool) : Prop :=
  ∃ ao cap, v = .slice ao E.length cap ∧ E.length ≤ cap ∧ cap ≤ maxLen ∧ ∀ i, i < E.length → ∃ g o, ao = some ⟨g, o, none⟩ ∧ g < B ∧ w.cell? ⟨g, o + i, none⟩ = some (.bool (en E i))

theorem en_at {E : List Bool} {i : Nat} (h : i < E.length) : E[i]? = some (en E i) := by
  unfold en
  rw [List.getD, List.getElem?_eq_getElem h]
  rfl

theorem EAt.below {w w' : World} {v : Value} {E : List Bool} {B : Nat} (h : EAt w B v E) (hb : Below B w w') (hB : B ≤ w.heap.size := by exact Nat.le_refl _) : EAt w' w'.heap.size v E := by
  obtain ⟨ao, cap, hv, hm, hc, hr⟩ := h
  refine ⟨ao, cap, hv, hm, hc, fun i hi => ?_⟩
  obtain ⟨g, o, ha, hg, c⟩ := hr i hi
  have := hb.size
  exact ⟨g, o, ha, by omega, (hb.cell (p := ⟨g, o + i, none⟩) hg).trans c⟩

def ERow (w : World) (B : Nat) (v : Value) (E : List Bool) : Prop := w.ownsRow B 4 1 v E.length (bols E)

theorem EAt.own {w : World} {B : Nat} {v : Value} {E : List Bool} (h : ERow w B v E) : EAt w w.heap.size v E := by
  have h0 := h
  obtain ⟨_, ⟨rfl, hn⟩ | ⟨g, cap, cur, rfl, hB, hb, hnc, hcm, _⟩⟩ := h
  · have : E = [] := List.length_eq_zero_iff.1 hn
    subst this
    exact ⟨none, 0, rfl, by simp, by unfold maxLen; omega, fun i hi => by simp at hi⟩
  · refine ⟨some ⟨g, 0, none⟩, cap, rfl, hnc, hcm, fun i hi => ⟨g, 0, rfl, (World.ownsRow.lt h0 g rfl).2, ?_⟩⟩
    have := World.ownsRow.cellAt h0 i (by omega)
    rw [Nat.zero_add, this]
    simp [bols, en_at hi]

theorem ERow.slice {w : World} {B : Nat} {v : Value} {E : List Bool} (h : ERow w B v E) : ∃ ao cap, v = Value.slice ao E.length cap := by
  rcases h.2 with ⟨rfl, h0⟩ | ⟨g, cap, _, rfl, _⟩
  · exact ⟨none, 0, by rw [h0]⟩
  · exact ⟨_, _, rfl⟩

theorem own_belowM {w w' : World} {B e size n : Nat} {v : Value} {xs : List Value} (h : w.ownsRow B e size v n xs) (hb : Below w.heap.size w w') : w'.ownsRow B e size v n xs := by
  refine ⟨h.1, ?_⟩
  rcases h.2 with hn | ⟨g, cap, cur, hv, hg, hgg, rest⟩
  · exact .inl hn
  · exact .inr ⟨g, cap, cur, hv, hg, (hb.block g (Array.getElem?_eq_some_iff.1 hgg).1).trans hgg, rest⟩

theorem own_lowerM {w : World} {B B' e size n : Nat} {v : Value} {xs : List Value} (h : w.ownsRow B e size v n xs) (hB : B' ≤ B) : w.ownsRow B' e size v n xs := by
  refine ⟨h.1, ?_⟩
  rcases h.2 with hn | ⟨g, cap, cur, hv, hg, rest⟩
  · exact .inl hn
  · exact .inr ⟨g, cap, cur, hv, by omega, rest⟩

theorem ERow.below {w w' : World} {B : Nat} {v : Value} {E : List Bool} (h : ERow w B v E) (hb : Below w.heap.size w w') : ERow w' B v E := own_belowM h hb

/-- a slice of slices of ints, in blocks below B -/
def MAt (w : World) (B : Nat) (v : Value) (M : List (List Int)) : Prop :=
  ∃ ao cap, v = .slice ao M.length cap ∧ M.length ≤ cap ∧ cap ≤ maxLen ∧ ∀ i, i < M.length → ∃ g o u, ao = some ⟨g, o, none⟩ ∧ g < B ∧ w.cell? ⟨g, o + i, none⟩ = some u ∧ ZAt w B u (rx M i)

theorem MAt.below {w w' : World} {v : Value} {M : List (List Int)} {B : Nat} (h : MAt w B v M) (hb : Below B w w') (hB : B ≤ w.heap.size := by exact Nat.le_refl _) : MAt w' w'.heap.size v M := by
  obtain ⟨ao, cap, hv, hc, hm, hr⟩ := h
  refine ⟨ao, cap, hv, hc, hm, fun i hi => ?_⟩
  obtain ⟨g, o, u, ha, hg, c, hs⟩ := hr i hi
  have := hb.size
  exact ⟨g, o, u, ha, by omega, (hb.cell (p := ⟨g, o + i, none⟩) hg).trans c, hs.below hb hB⟩

/-- own rows of ints in an own row -/
def MOwn (w : World) (B : Nat) (v : Value) (M : List (List Int)) (us : List Value) : Prop :=
  w.ownsRow B 27 1 v M.length us ∧ (∀ i, i < M.length → ∃ u, us[i]? = some u ∧ ZRow w B u (rx M i) ∧ ∀ g, u.ownBlock = some g → v.ownBlock ≠ some g) ∧ ∀ (i j : Nat) (ui uj : Value), i < j → us[i]? = some ui → us[j]? = some uj → ∀ g, ui.ownBlock = some g → uj.ownBlock ≠ some g

theorem MOwn.at {w : World} {B : Nat} {v : Value} {M : List (List Int)} {us : List Value} (h : MOwn w B v M us) : MAt w w.heap.size v M := by
  obtain ⟨h1, h2, _⟩ := h
  have h0 := h1
  obtain ⟨_, ⟨rfl, hn0⟩ | ⟨g, cap, cur, rfl, hB, hb, hnc, hcm, _⟩⟩ := h1
  · exact ⟨none, 0, by rw [hn0], by omega, by unfold maxLen; omega, fun i hi => by omega⟩
  · refine ⟨some ⟨g, 0, none⟩, cap, rfl, hnc, hcm, fun i hi => ?_⟩
    obtain ⟨u, hu, hq, _⟩ := h2 i hi
    refine ⟨g, 0, u, rfl, (h0.lt g rfl).2, ?_, ZAt.own hq⟩
    rw [Nat.zero_add, h0.cellAt i (by omega)]
    exact hu

theorem MOwn.slice {w : World} {B : Nat} {v : Value} {M : List (List Int)} {us : List Value} (h : MOwn w B v M us) : ∃ ao cap, v = Value.slice ao M.length cap := by
  rcases h.1.2 with ⟨rfl, h0⟩ | ⟨g, cap, _, rfl, _⟩
  · exact ⟨none, 0, by rw [h0]⟩
  · exact ⟨_, _, rfl⟩

theorem MOwn.below {w w' : World} {B : Nat} {v : Value} {M : List (List Int)} {us : List Value} (h : MOwn w B v M us) (hb : Below w.heap.size w w') : MOwn w' B v M us :=
  ⟨own_belowM h.1 hb, fun i hi => by
    obtain ⟨u, hu, hq, hn⟩ := h.2.1 i hi
    exact ⟨u, hu, hq.below hb, hn⟩, h.2.2⟩

/-- a machine of the call's own: nothing in it lies twice -/
def MaOwn (w : World) (B : Nat) (v e : Value) (M : List (List Int)) (E : List Bool) (us : List Value) : Prop :=
  MOwn w B v M us ∧ ERow w B e E ∧ ∀ g, e.ownBlock = some g → v.ownBlock ≠ some g ∧ ∀ u ∈ us, u.ownBlock ≠ some g

theorem MaOwn.below {w w' : World} {B : Nat} {v e : Value} {M : List (List Int)} {E : List Bool} {us : List Value} (h : MaOwn w B v e M E us) (hb : Below w.heap.size w w') : MaOwn w' B v e M E us :=
  ⟨h.1.below hb, h.2.1.below hb, h.2.2⟩

/-- how many ints the first i rows have -/
def pm (M : List (List Int)) (i : Nat) : Nat := ((M.take i).map List.length).sum

theorem pm_zero (M : List (List Int)) : pm M 0 = 0 := rfl
theorem pm_step {M : List (List Int)} {i : Nat} (h : i < M.length) : pm M (i + 1) = pm M i + (rx M i).length := by
  unfold pm rx
  rw [List.take_add_one, List.getElem?_eq_getElem h, List.map_append, List.sum_append, List.getD, List.getElem?_eq_getElem h]
  simp
theorem pm_mono {M : List (List Int)} : ∀ {j i : Nat}, i ≤ j → j ≤ M.length → pm M i ≤ pm M j := by
  intro j
  induction j with
  | zero => intro i hi _; rw [show i = 0 by omega]; exact Nat.le_refl _
  | succ j ih =>
    intro i hi hj
    by_cases e : i = j + 1
    · rw [e]; exact Nat.le_refl _
    · rw [pm_step (by omega)]
      have := ih (i := i) (by omega) (by omega)
      omega
theorem pm_each {M : List (List Int)} {i : Nat} (h : i < M.length) : (rx M i).length ≤ pm M M.length := by
  have h1 := pm_step h
  have h2 := pm_mono (M := M) (i := i + 1) (j := M.length) (by omega) (Nat.le_refl _)
  omega

set_option maxRecDepth 100000 in
set_option maxHeartbeats 4000000 in
theorem szZ_left (l : List Int) (v : Value) (L : Int) (w : World) (hT : ZAt w w.heap.size v l) (hL0 : 0 ≤ L) (hL1 : L ≤ 1048576) :
    Calls Try.prog 69 #[v, .int .i64 L] w fun e w' => e = .returned (.int .i64 (if L < (l.length : Int) then -1 else L - (l.length : Int))) ∧ w' = w := by
  obtain ⟨ao, cap, rfl, hlc, hcm, _⟩ := hT
  unfold maxLen at hcm
  have hge : (-9223372036854775808 : Int) ≤ L - (l.length : Int) := by omega
  by_cases hbig : L < (l.length : Int)
  · have hlt : L - (l.length : Int) < 0 := by omega
    rw [if_pos hbig]
    go_enter Try.func69, Try.ntmps69
    go_wp2
    go_ret
    exact ⟨rfl, rfl⟩
  · have hlt : ¬ (L - (l.length : Int) < 0) := by omega
    rw [if_neg hbig]
    go_enter Try.func69, Try.ntmps69
    go_wp2
    go_ret
    exact ⟨rfl, rfl⟩

set_option maxRecDepth 100000 in
set_option maxHeartbeats 4000000 in
theorem szE_left (l : List Bool) (v : Value) (L : Int) (w : World) (hT : EAt w w.heap.size v l) (hL0 : 0 ≤ L) (hL1 : L ≤ 1048576) :
    Calls Try.prog 38 #[v, .int .i64 L] w fun e w' => e = .returned (.int .i64 (if L < (l.length : Int) then -1 else L - (l.length : Int))) ∧ w' = w := by
  obtain ⟨ao, cap, rfl, hlc, hcm, _⟩ := hT
  unfold maxLen at hcm
  have hge : (-9223372036854775808 : Int) ≤ L - (l.length : Int) := by omega
  by_cases hbig : L < (l.length : Int)
  · have hlt : L - (l.length : Int) < 0 := by omega
    rw [if_pos hbig]
    go_enter Try.func38, Try.ntmps38
    go_wp2
    go_ret
    exact ⟨rfl, rfl⟩
  · have hlt : ¬ (L - (l.length : Int) < 0) := by omega
    rw [if_neg hbig]
    go_enter Try.func38, Try.ntmps38
    go_wp2
    go_ret
    exact ⟨rfl, rfl⟩

set_option maxRecDepth 100000 in
set_option maxHeartbeats 4000000 in
theorem szM_left (M : List (List Int)) (v : Value) (L : Int) (w : World) (hT : MAt w w.heap.size v M) (hL0 : 0 ≤ L) (hL1 : L ≤ 1048576) :
    Calls Try.prog 37 #[v, .int .i64 L] w fun e w' => (∃ r : Int, e = .returned (.int .i64 r) ∧ -1 ≤ r ∧ r ≤ 1048576 ∧ (0 ≤ r → M.length ≤ 1048576 ∧ pm M M.length ≤ 1048576)) ∧ w' = w := by
  by_cases hbig : L < (M.length : Int)
  · obtain ⟨ao, cap, rfl, hlc, hcm, _⟩ := hT
    unfold maxLen at hcm
    have hlt : L - (M.length : Int) < 0 := by omega
    have hge : (-9223372036854775808 : Int) ≤ L - (M.length : Int) := by omega
    go_enter Try.func37, Try.ntmps37
    go_wp2
    go_ret
    exact ⟨⟨-1, rfl, by omega, by omega, fun h => by omega⟩, rfl⟩
  · have hlen : M.length ≤ 1048576 := by omega
    have hlen' : (M.length : Int) ≤ 1048576 := by omega
    have hge : ¬ (L - (M.length : Int) < 0) := by omega
    obtain ⟨ao, cap, rfl, hlc, hcm, hrow⟩ := hT
    have HROW : Hid (∀ i, i < M.length → ∃ g o u, ao = some ⟨g, o, none⟩ ∧ g < w.heap.size ∧ w.cell? ⟨g, o + i, none⟩ = some u ∧ ZAt w w.heap.size u (rx M i)) := hrow
    clear hrow hbig
    go_enter Try.func37, Try.ntmps37
    go_wp2
    go_loopw [1, 5] (fun vl vi wr => ∃ (i : Nat) (left : Int), i ≤ M.length ∧ vi = .int .i64 (i : Int) ∧ vl = .int .i64 left ∧ 0 ≤ left ∧ left ≤ 1048576 ∧ Hid (left + (pm M i : Int) ≤ 1048576) ∧ wr = w)
      (fun _ vi _ => M.length - (intOf vi).toNat)
    case atStart => exact ⟨0, L - (M.length : Int), by omega, rfl, rfl, by omega, by omega, by show _ ≤ _; rw [pm_zero]; omega, rfl⟩
    case round =>
      obtain ⟨i, left, hi, rfl, rfl, hl0, hl1, hall, rfl⟩ := hrel
      by_cases hlt : i < M.length
      · have hlt' : (i : Int) < (M.length : Int) := by omega
        obtain ⟨g, o, u, rfl, hg, hc, hs⟩ := HROW.out i hlt
        have HS : Hid (ZAt wr wr.heap.size u (rx M i)) := hs
        obtain ⟨su, cu, rfl, _⟩ := hs
        go_wp2_with fail
        refine (szZ_left (rx M i) _ left _ HS.out hl0 hl1).mono ?_
        rintro e w2 ⟨rfl, rfl⟩
        by_cases hneg : left < ((rx M i).length : Int)
        · rw [if_pos hneg]
          go_wp2
          go_ret
          exact ⟨⟨-1, rfl, by omega, by omega, fun h => by omega⟩, rfl⟩
        · rw [if_neg hneg]
          obtain ⟨r, hr⟩ : ∃ r, r = left - ((rx M i).length : Int) := ⟨_, rfl⟩
          have hr0 : ¬ r < 0 := by omega
          have hr1 : r ≤ 1048576 := by omega
          have hall2 : Hid (r + (pm M (i + 1) : Int) ≤ 1048576) := by
            show _ ≤ _
            have h1 := pm_step hlt
            have h2 := hall.out
            omega
          rw [← hr]
          clear HS hall hr
          go_wp2
          go_roundw
          case rel => exact ⟨i + 1, r, by omega, by go_num, rfl, by omega, by omega, hall2, by trivial⟩
          case measure => simp [intOf]; omega
      · have hke : i = M.length := by omega
        subst hke
        have hge2 : ¬ ((M.length : Int) < (M.length : Int)) := by omega
        go_wp2
        go_ret
        exact ⟨⟨left, rfl, by omega, by omega, fun _ => by have h := hall.out; first | exact ⟨hlen, by omega⟩ | omega⟩, rfl⟩

set_option maxRecDepth 100000 in
set_option maxHeartbeats 4000000 in
theorem szMach_left (M : List (List Int)) (E : List Bool) (v e : Value) (L : Int) (w : World) (hM : MAt w w.heap.size v M) (hE : EAt w w.heap.size e E) (hL0 : 0 ≤ L) (hL1 : L ≤ 1048576) :
    Calls Try.prog 7 #[.agg #[v, e], .int .i64 L] w fun e w' => (∃ r : Int, e = .returned (.int .i64 r) ∧ -1 ≤ r ∧ r ≤ 1048576 ∧ (0 ≤ r → M.length ≤ 1048576 ∧ pm M M.length ≤ 1048576 ∧ E.length ≤ 1048576)) ∧ Below w.heap.size w w' := by
  have HM : Hid (MAt w w.heap.size v M) := hM
  have HE : Hid (EAt w w.heap.size e E) := hE
  obtain ⟨ao, cap, rfl, _⟩ := hM
  obtain ⟨ae, cape, rfl, _⟩ := hE
  obtain ⟨W1, hW1⟩ : ∃ W, W = w.alloc (.cells #[.slice ao M.length cap, .slice ae E.length cape] 25) := ⟨_, rfl⟩
  have hB1 : Below w.heap.size w W1 := by rw [hW1]; exact (Below.refl _ w).alloc (Nat.le_refl _) _
  have q0 : W1.cell? ⟨w.heap.size, 0, none⟩ = some (.slice ao M.length cap) := by rw [hW1]; go_simp
  have q1 : W1.cell? ⟨w.heap.size, 1, none⟩ = some (.slice ae E.length cape) := by rw [hW1]; go_simp
  have hl1 : w.heap.size < W1.heap.size := by rw [hW1]; simp
  go_enter Try.func7, Try.ntmps7
  go_wp2_with fail
  rw [← hW1]
  clear hW1
  refine (szM_left M _ L _ (HM.out.below hB1) hL0 hL1).mono ?_
  rintro e w2 ⟨⟨r, rfl, hr0, hr1, hr2⟩, rfl⟩
  by_cases hneg : r < 0
  · clear hr2
    go_wp2
    go_ret
    exact ⟨⟨-1, rfl, by omega, by omega, fun h => by omega⟩, hB1⟩
  obtain ⟨k1, k2⟩ := hr2 (by omega)
  clear hr2
  go_wp2_with fail
  refine (szE_left E _ r _ (HE.out.below hB1) (by omega) hr1).mono ?_
  rintro e w3 ⟨rfl, rfl⟩
  by_cases hbig : r < (E.length : Int)
  · rw [if_pos hbig]
    go_wp2
    go_ret
    exact ⟨⟨-1, rfl, by omega, by omega, fun h => by omega⟩, hB1⟩
  · rw [if_neg hbig]
    obtain ⟨r3, hr3⟩ : ∃ r3, r3 = r - (E.length : Int) := ⟨_, rfl⟩
    rw [← hr3]
    have hp : ¬ r3 < 0 := by omega
    have hq : r3 ≤ 1048576 := by omega
    have hE3 : E.length ≤ 1048576 := by omega
    clear hr3
    go_wp2
    go_ret
    exact ⟨⟨r3, rfl, by omega, hq, fun _ => ⟨k1, k2, hE3⟩⟩, hB1⟩

set_option maxRecDepth 100000 in
set_option maxHeartbeats 4000000 in
theorem eqE_same (l : List Bool) (v1 v2 : Value) (w : World) (h1 : EAt w w.heap.size v1 l) (h2 : EAt w w.heap.size v2 l) (hl : l.length ≤ 2097152) :
    Calls Try.prog 45 #[v1, v2] w fun e w' => e = .returned (.bool true) ∧ Below w.heap.size w w' := by
  obtain ⟨ao, cap, rfl, hmax, _, hrow⟩ := h1
  obtain ⟨ao2, cap2, rfl, _, _, hrow2⟩ := h2
  go_enter Try.func45, Try.ntmps45
  go_wp2
  go_loopw [5] (fun vi wr => ∃ k : Nat, k ≤ l.length ∧ vi = .int .i64 (k : Int) ∧ Below w.heap.size w wr)
    (fun vi _ => l.length - (intOf vi).toNat)
  case atStart => exact ⟨0, by omega, rfl, Below.refl _ _⟩
  case round =>
    obtain ⟨k, hk, rfl, hbw⟩ := hrel
    by_cases hlt : k < l.length
    · obtain ⟨g, o, rfl, hg, c⟩ := hrow k hlt
      obtain ⟨g2, o2, rfl, hg2, c2⟩ := hrow2 k hlt
      have e1 := (hbw.cell (p := ⟨g, o + k, none⟩) hg).trans c
      have e2 := (hbw.cell (p := ⟨g2, o2 + k, none⟩) hg2).trans c2
      generalize en l k = b at e1 e2
      have hbb : (b == b) = true := by simp
      clear hrow hrow2 c c2
      have hlt' : (k : Int) < (l.length : Int) := by omega
      go_wp2_with fail
      go_quiet (fail)
      go_wp2
      go_roundw
      case rel => exact ⟨k + 1, by omega, by go_num, below_drewN hbw⟩
      case measure => simp [intOf]; omega
    · have hke : k = l.length := by omega
      subst hke
      have hge : ¬ ((l.length : Int) < (l.length : Int)) := by omega
      go_wp2
      go_ret
      exact ⟨rfl, hbw⟩

set_option maxRecDepth 100000 in
set_option maxHeartbeats 4000000 in
theorem eqM_same (M : List (List Int)) (v1 v2 : Value) (w : World) (h1 : MAt w w.heap.size v1 M) (h2 : MAt w w.heap.size v2 M) (hl : M.length ≤ 2097152) (hll : ∀ i, i < M.length → (rx M i).length ≤ 2097152) :
    Calls Try.prog 44 #[v1, v2] w fun e w' => e = .returned (.bool true) ∧ Below w.heap.size w w' := by
  obtain ⟨ao, cap, rfl, _, hmax, hrow⟩ := h1
  obtain ⟨ao2, cap2, rfl, _, _, hrow2⟩ := h2
  have HROW : Hid (∀ i, i < M.length → ∃ g o u, ao = some ⟨g, o, none⟩ ∧ g < w.heap.size ∧ w.cell? ⟨g, o + i, none⟩ = some u ∧ ZAt w w.heap.size u (rx M i)) := hrow
  have HROW2 : Hid (∀ i, i < M.length → ∃ g o u, ao2 = some ⟨g, o, none⟩ ∧ g < w.heap.size ∧ w.cell? ⟨g, o + i, none⟩ = some u ∧ ZAt w w.heap.size u (rx M i)) := hrow2
  clear hrow hrow2
  have HLL : Hid (∀ i, i < M.length → (rx M i).length ≤ 2097152) := hll
  clear hll
  go_enter Try.func44, Try.ntmps44
  go_wp2
  go_loopw [5] (fun vi wr => ∃ k : Nat, k ≤ M.length ∧ vi = .int .i64 (k : Int) ∧ Below w.heap.size w wr)
    (fun vi _ => M.length - (intOf vi).toNat)
  case atStart => exact ⟨0, by omega, rfl, Below.refl _ _⟩
  case round =>
    obtain ⟨k, hk, rfl, hbw⟩ := hrel
    by_cases hlt : k < M.length
    · obtain ⟨g, o, u, rfl, hgB, hc1, hs1⟩ := HROW.out k hlt
      obtain ⟨g2, o2, u2, rfl, hgB2, hc2, hs2⟩ := HROW2.out k hlt
      have e1 := (hbw.cell (p := ⟨g, o + k, none⟩) hgB).trans hc1
      have e2 := (hbw.cell (p := ⟨g2, o2 + k, none⟩) hgB2).trans hc2
      have HS1 : Hid (ZAt wr.drew wr.drew.heap.size u (rx M k)) := (hs1.below hbw).below ((Below.refl _ wr).drew)
      have HS2 : Hid (ZAt wr.drew wr.drew.heap.size u2 (rx M k)) := (hs2.below hbw).below ((Below.refl _ wr).drew)
      obtain ⟨su, cu, rfl, _⟩ := hs1
      obtain ⟨su2, cu2, rfl, _⟩ := hs2
      clear hc1 hc2
      have hlt' : (k : Int) < (M.length : Int) := by omega
      have C2 : Hid (Calls Try.prog 11 #[.slice su (rx M k).length cu, .slice su2 (rx M k).length cu2] wr.drew fun e w' => e = .returned (.bool true) ∧ Below wr.drew.heap.size wr.drew w') := eqZ_same (rx M k) _ _ wr.drew HS1.out HS2.out (HLL.out k hlt)
      go_wp2_with fail
      go_region_with (go_at_call 11; refine C2.out.mono ?_; rintro e w2 ⟨rfl, hb2⟩; have hbw2 : Below w.heap.size w w2 := hbw.drew.trans (hb2.mono hbw.size))
      all_goals
        go_wp2
        go_roundw
        case rel => exact ⟨k + 1, by omega, by go_num, hbw2⟩
        case measure => simp [intOf]; omega
    · have hke : k = M.length := by omega
      subst hke
      have hge : ¬ ((M.length : Int) < (M.length : Int)) := by omega
      go_wp2
      go_ret
      exact ⟨rfl, hbw⟩

end Go.Proofs.Ytecgjhnihagleaa

namespace Go.Proofs.Ytecgjhnihagleaa
open Go.RowKit Plain Mch

theorem setE_eq (ys : List Value) (l : List Bool) (i : Nat) (x : Bool) (hl : ys.length = l.length) (hi : i < l.length) (hx : en l i = x) (hm : ∀ m, m < i → ys[m]? = (bols l)[m]?) : ∀ m, m < i + 1 → (ys.set i (.bool x))[m]? = (bols l)[m]? := by
  intro m hmi
  rw [List.getElem?_set]
  by_cases h : i = m
  · subst h
    rw [if_pos rfl, if_pos (by omega)]
    simp [bols, en_at hi, hx]
  · rw [if_neg h]
    exact hm m (by omega)

theorem Try.infoBo : (Try.prog.info? 4).map (fun i => (i.zero, i.size, i.bytes)) = some (some (.bool false), 1, 1) := by kernel_rfl
theorem Try.infoZs : (Try.prog.info? 27).map (fun i => (i.zero, i.size, i.bytes)) = some (some (.slice none 0 0), 1, 24) := by kernel_rfl

set_option maxRecDepth 100000 in
set_option maxHeartbeats 4000000 in
theorem toBoolS_any (l : List Bool) (v : Value) (w : World) (hT : EAt w w.heap.size v l) (hl : l.length ≤ 1048576) :
    Calls Try.prog 42 #[v] w fun e w' => ∃ r, e = .returned r ∧ ERow w' w.heap.size r l ∧ Below w.heap.size w w' := by
  obtain ⟨i0, hi, hz0, hz1, hz2⟩ := info_parts Try.infoBo
  obtain ⟨ao, cap, rfl, _, hmax, hrow⟩ := hT
  have HROW : Hid (∀ i, i < l.length → ∃ g o, ao = some ⟨g, o, none⟩ ∧ g < w.heap.size ∧ w.cell? ⟨g, o + i, none⟩ = some (.bool (en l i))) := hrow
  clear hrow
  obtain ⟨M, hM⟩ : ∃ M, M = madeCells (Value.bool false).cells (((l.length : Nat) : Int).toNat * i0.size) := ⟨_, rfl⟩
  have hMs : M.size = l.length * 1 := by rw [hM, size_madeCells, hz1]; simp
  have hmk : ∀ W : World, (Instr.makeSlice 23 (.int .i64 (l.length : Int)) (.int .i64 (l.length : Int))).run Try.prog W = .ok (.slice (some ⟨W.heap.size, 0, none⟩) l.length l.length) (W.alloc (.cells M 4)) := fun W => by
    have h := run_make (P := Try.prog) W 23 4 i0 (.bool false) Try.underlying23 hi hz0 .i64 .i64 (l.length : Int) (l.length : Int) (by omega) (by omega) (by rw [hz2]; omega) (by omega)
    rw [← hM] at h
    simpa using h
  have hown0 : (w.alloc (.cells M 4)).ownsRow w.heap.size 4 1 (.slice (some ⟨w.heap.size, 0, none⟩) l.length l.length) l.length M.toList :=
    ⟨by simp [hMs], .inr ⟨w.heap.size, l.length, M, rfl, Nat.le_refl _, heap_alloc_new w _, Nat.le_refl _, by unfold maxLen; omega, hMs, by rw [List.take_of_length_le (by simp [hMs])]⟩⟩
  clear hM
  go_enter Try.func42, Try.ntmps42
  go_wp2
  go_loopw [4] (fun vi wr => ∃ (i : Nat) (ys : List Value), i ≤ l.length ∧ vi = .int .i64 (i : Int) ∧ wr.ownsRow w.heap.size 4 1 (.slice (some ⟨w.heap.size, 0, none⟩) l.length l.length) l.length ys ∧ Hid (∀ m, m < i → ys[m]? = (bols l)[m]?) ∧ Below w.heap.size w wr)
    (fun vi _ => l.length - (intOf vi).toNat)
  case atStart => exact ⟨0, M.toList, by omega, rfl, hown0, fun m hm => by omega, (Below.refl _ w).alloc (Nat.le_refl _) _⟩
  case round =>
    obtain ⟨i, ys, hil, rfl, hown, hys, hbw⟩ := hrel
    clear hown0 hmk
    have hyl : ys.length = l.length := by have := hown.1; omega
    by_cases hlt : i < l.length
    · have hlt' : (i : Int) < (l.length : Int) := by omega
      obtain ⟨x, hx⟩ : ∃ x, en l i = x := ⟨_, rfl⟩
      obtain ⟨g, o, rfl, hg, c⟩ := HROW.out i hlt
      rw [hx] at c
      have e1 := (hbw.cell (p := ⟨g, o + i, none⟩) hg).trans c
      have hgs : g < wr.heap.size := by have := hbw.size; omega
      have q0 := hown.cellAt i (by omega)
      rw [List.getElem?_eq_getElem (by omega)] at q0
      have z0 := hown.frozenAt i
      have hsz : w.heap.size < wr.heap.size := (hown.lt w.heap.size rfl).2
      generalize ys[i] = a0 at q0
      have how6 := (hown.stored i (.bool x)).1
      have HM : Hid (∀ m, m < i + 1 → (ys.set i (.bool x))[m]? = (bols l)[m]?) := setE_eq ys l i x hyl hlt hx hys.out
      generalize ys.set i (Value.bool x) = zs at how6 HM
      clear hown hys c hx
      go_wp2
      go_roundw
      case rel => exact ⟨i + 1, zs, by omega, by go_num, how6, HM, hbw.setCell (p := ⟨w.heap.size, i, none⟩) (Nat.le_refl _) _⟩
      case measure => simp [intOf]; omega
    · have hke : i = l.length := by omega
      subst hke
      have hge : ¬ ((l.length : Int) < (l.length : Int)) := by omega
      have hE : Hid (ys = bols l) := List.ext_getElem? fun m => by
        by_cases hm : m < l.length
        · exact hys.out m hm
        · rw [List.getElem?_eq_none (by omega), List.getElem?_eq_none (by simp [bols]; omega)]
      clear hys
      go_wp2
      go_ret
      exact ⟨_, rfl, by unfold ERow; rw [← hE.out]; exact hown, hbw⟩

/-- rows that are being copied: the first i are there -/
def FillM (w : World) (gs : Nat) (M : List (List Int)) (ys : List Value) (i : Nat) : Prop :=
  (∀ m, m < i → ∃ u, ys[m]? = some u ∧ ZRow w (gs + 1) u (rx M m)) ∧ ∀ (m k : Nat) (um uk : Value), m < k → k < i → ys[m]? = some um → ys[k]? = some uk → ∀ g, um.ownBlock = some g → uk.ownBlock ≠ some g

theorem FillM.step {w w2 : World} {gs i : Nat} {M : List (List Int)} {ys : List Value} {u : Value} (h : FillM w gs M ys i) (hb : Below w.heap.size w w2) (hq : ZRow w2 w.heap.size u (rx M i)) (hg : gs < w.heap.size) (hi : i < ys.length) : FillM (w2.setCell ⟨gs, i, none⟩ u) gs M (ys.set i u) (i + 1) := by
  have old : ∀ m, m < i → ∃ u', (ys.set i u)[m]? = some u' ∧ ZRow w (gs + 1) u' (rx M m) := fun m hm => by
    obtain ⟨u', h1, h2⟩ := h.1 m hm
    exact ⟨u', by rw [List.getElem?_set_ne (by omega)]; exact h1, h2⟩
  refine ⟨fun m hm => ?_, fun m k um uk hmk hk e1 e2 g hg1 hg2 => ?_⟩
  · by_cases e : m = i
    · subst e
      refine ⟨u, by rw [List.getElem?_set_self hi], ?_⟩
      exact own_lowerM (ownsRow_setCell_below hq (a := ⟨gs, m, none⟩) hg _) hg
    · obtain ⟨u', h1, h2⟩ := old m (by omega)
      refine ⟨u', h1, ?_⟩
      exact ownsRow_setCell_below (h2.below hb) (a := ⟨gs, i, none⟩) (by show gs < gs + 1; omega) _
  · by_cases e : k = i
    · subst e
      rw [List.getElem?_set_self hi] at e2
      simp at e2
      subst e2
      obtain ⟨u', h1, h2⟩ := old m hmk
      rw [h1] at e1
      simp at e1
      subst e1
      have a1 := (World.ownsRow.lt h2 g hg1).2
      have a2 := (World.ownsRow.lt hq g hg2).1
      omega
    · rw [List.getElem?_set_ne (by omega)] at e1 e2
      exact h.2 m k um uk hmk (by omega) e1 e2 g hg1 hg2

set_option maxRecDepth 100000 in
set_option maxHeartbeats 4000000 in
theorem toM_any (M : List (List Int)) (v : Value) (w : World) (hT : MAt w w.heap.size v M) (hl : M.length ≤ 1048576) (hll : ∀ i, i < M.length → (rx M i).length ≤ 1048576) :
    Calls Try.prog 41 #[v] w fun e w' => ∃ r, e = .returned r ∧ (∃ us, MOwn w' w.heap.size r M us) ∧ Below w.heap.size w w' := by
  obtain ⟨i0, hi, hz0, hz1, hz2⟩ := info_parts Try.infoZs
  obtain ⟨ao, cap, rfl, _, hmax, hrow⟩ := hT
  have HROW : Hid (∀ i, i < M.length → ∃ g o u, ao = some ⟨g, o, none⟩ ∧ g < w.heap.size ∧ w.cell? ⟨g, o + i, none⟩ = some u ∧ ZAt w w.heap.size u (rx M i)) := hrow
  have HLL : Hid (∀ i, i < M.length → (rx M i).length ≤ 1048576) := hll
  clear hrow hll
  obtain ⟨Z, hM⟩ : ∃ Z, Z = madeCells (Value.slice none 0 0).cells (((M.length : Nat) : Int).toNat * i0.size) := ⟨_, rfl⟩
  have hMs : Z.size = M.length * 1 := by rw [hM, size_madeCells, hz1]; simp
  have hmk : ∀ W : World, (Instr.makeSlice 22 (.int .i64 (M.length : Int)) (.int .i64 (M.length : Int))).run Try.prog W = .ok (.slice (some ⟨W.heap.size, 0, none⟩) M.length M.length) (W.alloc (.cells Z 27)) := fun W => by
    have h := run_make (P := Try.prog) W 22 27 i0 (.slice none 0 0) Try.underlying22 hi hz0 .i64 .i64 (M.length : Int) (M.length : Int) (by omega) (by omega) (by rw [hz2]; omega) (by omega)
    rw [← hM] at h
    simpa using h
  have hown0 : (w.alloc (.cells Z 27)).ownsRow w.heap.size 27 1 (.slice (some ⟨w.heap.size, 0, none⟩) M.length M.length) M.length Z.toList :=
    ⟨by simp [hMs], .inr ⟨w.heap.size, M.length, Z, rfl, Nat.le_refl _, heap_alloc_new w _, Nat.le_refl _, by unfold maxLen; omega, hMs, by rw [List.take_of_length_le (by simp [hMs])]⟩⟩
  clear hM
  go_enter Try.func41, Try.ntmps41
  go_wp2
  go_loopw [4] (fun vi wr => ∃ (i : Nat) (ys : List Value), i ≤ M.length ∧ vi = .int .i64 (i : Int) ∧ wr.ownsRow w.heap.size 27 1 (.slice (some ⟨w.heap.size, 0, none⟩) M.length M.length) M.length ys ∧ Hid (FillM wr w.heap.size M ys i) ∧ Below w.heap.size w wr)
    (fun vi _ => M.length - (intOf vi).toNat)
  case atStart => exact ⟨0, Z.toList, by omega, rfl, hown0, ⟨fun m hm => by omega, fun m k um uk _ hk => by omega⟩, (Below.refl _ w).alloc (Nat.le_refl _) _⟩
  case round =>
    obtain ⟨i, ys, hil, rfl, hown, hys, hbw⟩ := hrel
    clear hown0 hmk
    have hyl : ys.length = M.length := by have := hown.1; omega
    by_cases hlt : i < M.length
    · have hlt' : (i : Int) < (M.length : Int) := by omega
      obtain ⟨g, o, u, rfl, hg, hc, hs⟩ := HROW.out i hlt
      have c0 := (hbw.cell (p := ⟨g, o + i, none⟩) hg).trans hc
      have HS : Hid (ZAt wr wr.heap.size u (rx M i)) := hs.below hbw
      have hsz : w.heap.size < wr.heap.size := (hown.lt w.heap.size rfl).2
      obtain ⟨su, cu, rfl, _⟩ := hs
      clear hc
      go_wp2_with fail
      refine (toIntS_any (rx M i) _ _ HS.out (HLL.out i hlt)).mono ?_
      rintro e w2 ⟨r2, rfl, ho2, hb2⟩
      have how2 := own_belowM hown hb2
      have hbw2 : Below w.heap.size w w2 := hbw.trans (hb2.mono hbw.size)
      have HF : Hid (FillM (w2.setCell ⟨w.heap.size, i, none⟩ r2) w.heap.size M (ys.set i r2) (i + 1)) := hys.out.step hb2 ho2 hsz (by omega)
      have q0 := how2.cellAt i (by omega)
      rw [List.getElem?_eq_getElem (by omega)] at q0
      have z0 := how2.frozenAt i
      generalize ys[i] = a0 at q0
      obtain ⟨ar, cr, hr2⟩ := ZRow.slice ho2
      subst hr2
      have how6 := (how2.stored i (.slice ar (rx M i).length cr)).1
      generalize ys.set i (Value.slice ar (rx M i).length cr) = zs at how6 HF
      clear how2 hown hb2 hbw hys c0 ho2
      go_wp2
      go_roundw
      case rel => exact ⟨i + 1, zs, by omega, by go_num, how6, HF, hbw2.setCell (p := ⟨w.heap.size, i, none⟩) (Nat.le_refl _) _⟩
      case measure => simp [intOf]; omega
    · have hke : i = M.length := by omega
      subst hke
      have hge : ¬ ((M.length : Int) < (M.length : Int)) := by omega
      have HO : Hid (MOwn wr w.heap.size (.slice (some ⟨w.heap.size, 0, none⟩) M.length M.length) M ys) := by
        refine ⟨hown, fun m hm => ?_, fun m k um uk hmk e1 e2 g hg1 hg2 => ?_⟩
        · obtain ⟨u, h1, h2⟩ := hys.out.1 m hm
          refine ⟨u, h1, own_lowerM h2 (by omega), fun g hg e => ?_⟩
          simp [Value.ownBlock] at e
          have := (World.ownsRow.lt h2 g hg).1
          omega
        · exact hys.out.2 m k um uk hmk (by have := (List.getElem?_eq_some_iff.1 e2).1; omega) e1 e2 g hg1 hg2
      clear hys hown
      go_wp2
      go_ret
      exact ⟨_, rfl, ⟨ys, HO.out⟩, hbw⟩

/-- the rows of an own machine lie between the bound and the heap's end -/
theorem MOwn.rows {w : World} {B : Nat} {v : Value} {M : List (List Int)} {us : List Value} (h : MOwn w B v M us) : ∀ u ∈ us, ∀ g, u.ownBlock = some g → B ≤ g ∧ g < w.heap.size := fun u hu g hg => by
  obtain ⟨i, hi, he⟩ := List.getElem_of_mem hu
  have hil : i < M.length := by have := h.1.1; omega
  obtain ⟨u', hu', hq, _⟩ := h.2.1 i hil
  rw [List.getElem?_eq_getElem hi, he] at hu'
  simp at hu'
  subst hu'
  exact World.ownsRow.lt hq g hg

theorem results_cellM {fn : Func} {p : Tmp} {ty : TypeId} (h : fn.results = #[.cell p ty]) (tmps : Array Value) (P : Program) (w : World) :
    (results fn tmps).run P w = ((asAddr (tmps.getD p undef)).run P w).andThen fun a w₁ => (loadVar ty a).run P w₁ := by
  simp only [results, h]
  simp [Sem.run_bind, Result.andThen]

theorem results_cell_tmpM {fn : Func} {p u : Tmp} {ty : TypeId} (h : fn.results = #[.cell p ty, .tmp u]) (tmps : Array Value) (P : Program) (w : World) :
    (results fn tmps).run P w =
      ((asAddr (tmps.getD p undef)).run P w).andThen fun a w₁ => ((loadVar ty a).run P w₁).andThen fun x w₂ => .ok (.tuple #[x, tmps.getD u undef]) w₂ := by
  simp only [results, h]
  simp [Sem.run_bind, Result.andThen]

theorem MOwn.setCell {w : World} {B : Nat} {v : Value} {M : List (List Int)} {us : List Value} (h : MOwn w B v M us) {a : Addr} (ha : a.block < B) (x : Value) : MOwn (w.setCell a x) B v M us := by
  refine ⟨ownsRow_setCell_below h.1 ha _, fun i hi => ?_, h.2.2⟩
  obtain ⟨u, k1, k2, k3⟩ := h.2.1 i hi
  exact ⟨u, k1, ownsRow_setCell_below k2 ha _, k3⟩

theorem MOwn.lower {w : World} {B B' : Nat} {v : Value} {M : List (List Int)} {us : List Value} (h : MOwn w B v M us) (hB : B' ≤ B) : MOwn w B' v M us := by
  refine ⟨own_lowerM h.1 hB, fun i hi => ?_, h.2.2⟩
  obtain ⟨u, k1, k2, k3⟩ := h.2.1 i hi
  exact ⟨u, k1, own_lowerM k2 hB, k3⟩

theorem MaOwn.setCell {w : World} {B : Nat} {v e : Value} {M : List (List Int)} {E : List Bool} {us : List Value} (h : MaOwn w B v e M E us) {a : Addr} (ha : a.block < B) (x : Value) : MaOwn (w.setCell a x) B v e M E us :=
  ⟨h.1.setCell ha x, ownsRow_setCell_below h.2.1 ha _, h.2.2⟩

theorem MaOwn.lower {w : World} {B B' : Nat} {v e : Value} {M : List (List Int)} {E : List Bool} {us : List Value} (h : MaOwn w B v e M E us) (hB : B' ≤ B) : MaOwn w B' v e M E us :=
  ⟨h.1.lower hB, own_lowerM h.2.1 hB, h.2.2⟩

set_option maxRecDepth 100000 in
set_option maxHeartbeats 4000000 in
theorem toMach_any (M : List (List Int)) (E : List Bool) (v e : Value) (w : World) (hM : MAt w w.heap.size v M) (hE : EAt w w.heap.size e E) (hl : M.length ≤ 1048576) (hll : ∀ i, i < M.length → (rx M i).length ≤ 1048576) (hlE : E.length ≤ 1048576) :
    Calls Try.prog 9 #[.agg #[v, e]] w fun x w' => (∃ r1 r2, x = .returned (.agg #[r1, r2]) ∧ ∃ us, MaOwn w' w.heap.size r1 r2 M E us) ∧ Below w.heap.size w w' := by
  have HM : Hid (MAt w w.heap.size v M) := hM
  have HE : Hid (EAt w w.heap.size e E) := hE
  obtain ⟨ao, cap, rfl, _⟩ := hM
  obtain ⟨ae, cape, rfl, _⟩ := hE
  have rc := fun (tmps : Array Value) (P : Program) (w : World) => results_cellM (fn := Try.f9) (p := 2) (ty := 30) rfl tmps P w
  obtain ⟨W1, hW1⟩ : ∃ W, W = ((w.alloc (.cells #[.slice ao M.length cap, .slice ae E.length cape] 25)).alloc (.cells #[.slice none 0 0, .slice none 0 0] 30)).alloc (.cells #[.slice none 0 0, .slice none 0 0] 30) := ⟨_, rfl⟩
  have hB1 : Below w.heap.size w W1 := by rw [hW1]; exact (((Below.refl _ w).alloc (Nat.le_refl _) _).alloc (by simp) _).alloc (by simp; omega) _
  have q0 : W1.cell? ⟨w.heap.size, 0, none⟩ = some (.slice ao M.length cap) := by rw [hW1]; go_simp
  have q1 : W1.cell? ⟨w.heap.size, 1, none⟩ = some (.slice ae E.length cape) := by rw [hW1]; go_simp
  have p0 : W1.cell? ⟨w.heap.size + 1, 0, none⟩ = some (.slice none 0 0) := by rw [hW1]; go_simp
  have p1 : W1.cell? ⟨w.heap.size + 1, 1, none⟩ = some (.slice none 0 0) := by rw [hW1]; go_simp
  have y0 : W1.frozen? ⟨w.heap.size + 1, 0, none⟩ = false := by rw [hW1]; go_simp
  have y1 : W1.frozen? ⟨w.heap.size + 1, 1, none⟩ = false := by rw [hW1]; go_simp
  have o0 : W1.cell? ⟨w.heap.size + 2, 0, none⟩ = some (.slice none 0 0) := by rw [hW1]; go_simp
  have o1 : W1.cell? ⟨w.heap.size + 2, 1, none⟩ = some (.slice none 0 0) := by rw [hW1]; go_simp
  have z0 : W1.frozen? ⟨w.heap.size + 2, 0, none⟩ = false := by rw [hW1]; go_simp
  have z1 : W1.frozen? ⟨w.heap.size + 2, 1, none⟩ = false := by rw [hW1]; go_simp
  have HL1 : Hid (W1.heap.size = w.heap.size + 3) := by show _ = _; rw [hW1]; simp
  have hl1 : w.heap.size + 2 < W1.heap.size := by have := HL1.out; omega
  have hl1a : w.heap.size + 1 < W1.heap.size := by omega
  have hl1b : w.heap.size < W1.heap.size := by omega
  go_enter Try.func9, Try.ntmps9
  go_wp2_with fail
  rw [← hW1]
  clear hW1
  refine (toM_any M _ _ (HM.out.below hB1) hl hll).mono ?_
  rintro x w2 ⟨r1, rfl, ⟨us, ho⟩, hb2⟩
  have q1 := (hb2.cell (p := ⟨w.heap.size, 1, none⟩) hl1b).trans q1
  have p0 := (hb2.cell (p := ⟨w.heap.size + 1, 0, none⟩) hl1a).trans p0
  have p1 := (hb2.cell (p := ⟨w.heap.size + 1, 1, none⟩) hl1a).trans p1
  have y0 := (hb2.frozen (p := ⟨w.heap.size + 1, 0, none⟩) hl1a).trans y0
  have y1 := (hb2.frozen (p := ⟨w.heap.size + 1, 1, none⟩) hl1a).trans y1
  have o0 := (hb2.cell (p := ⟨w.heap.size + 2, 0, none⟩) hl1).trans o0
  have o1 := (hb2.cell (p := ⟨w.heap.size + 2, 1, none⟩) hl1).trans o1
  have z0 := (hb2.frozen (p := ⟨w.heap.size + 2, 0, none⟩) hl1).trans z0
  have z1 := (hb2.frozen (p := ⟨w.heap.size + 2, 1, none⟩) hl1).trans z1
  have hB2 : Below w.heap.size w w2 := hB1.trans (hb2.mono hB1.size)
  have hl2 : w.heap.size + 2 < w2.heap.size := by have := hb2.size; omega
  obtain ⟨a1, c1, hr1⟩ := ho.slice
  subst hr1
  have HO : Hid (MOwn w2 W1.heap.size (.slice a1 M.length c1) M us) := ho
  clear ho hb2 hB1
  obtain ⟨W3, hW3⟩ : ∃ W, W = w2.setCell ⟨w.heap.size + 2, 0, none⟩ (.slice a1 M.length c1) := ⟨_, rfl⟩
  have hB3 : Below w.heap.size w W3 := by rw [hW3]; exact hB2.setCell (by simp <;> omega) _
  have hl3 : w.heap.size + 2 < W3.heap.size := by rw [hW3]; simpa [World.setCell] using hl2
  have hl3a : w.heap.size + 1 < W3.heap.size := by omega
  have q1 : W3.cell? ⟨w.heap.size, 1, none⟩ = some (.slice ae E.length cape) := by rw [hW3]; go_simp
  have p0 : W3.cell? ⟨w.heap.size + 1, 0, none⟩ = some (.slice none 0 0) := by rw [hW3]; go_simp
  have p1 : W3.cell? ⟨w.heap.size + 1, 1, none⟩ = some (.slice none 0 0) := by rw [hW3]; go_simp
  have y0 : W3.frozen? ⟨w.heap.size + 1, 0, none⟩ = false := by rw [hW3, World.frozen?_setCell]; exact y0
  have y1 : W3.frozen? ⟨w.heap.size + 1, 1, none⟩ = false := by rw [hW3, World.frozen?_setCell]; exact y1
  have o0 : W3.cell? ⟨w.heap.size + 2, 0, none⟩ = some (.slice a1 M.length c1) := by rw [hW3]; exact World.cell?_setCell_same _ _ _ o0
  have o1 : W3.cell? ⟨w.heap.size + 2, 1, none⟩ = some (.slice none 0 0) := by rw [hW3]; go_simp
  have z1 : W3.frozen? ⟨w.heap.size + 2, 1, none⟩ = false := by rw [hW3, World.frozen?_setCell]; exact z1
  have HO3 : Hid (MOwn W3 (w.heap.size + 3) (.slice a1 M.length c1) M us) := by
    show MOwn _ _ _ _ _
    rw [hW3]
    have h := HO.out
    rw [HL1.out] at h
    exact h.setCell (a := ⟨w.heap.size + 2, 0, none⟩) (by show w.heap.size + 2 < _; omega) _
  clear HO hB2
  go_wp2_with fail
  rw [← hW3]
  clear hW3
  refine (toBoolS_any E _ _ (HE.out.below hB3) hlE).mono ?_
  rintro x w4 ⟨r2, rfl, ho4, hb4⟩
  have p0 := (hb4.cell (p := ⟨w.heap.size + 1, 0, none⟩) hl3a).trans p0
  have p1 := (hb4.cell (p := ⟨w.heap.size + 1, 1, none⟩) hl3a).trans p1
  have y0 := (hb4.frozen (p := ⟨w.heap.size + 1, 0, none⟩) hl3a).trans y0
  have y1 := (hb4.frozen (p := ⟨w.heap.size + 1, 1, none⟩) hl3a).trans y1
  have o0 := (hb4.cell (p := ⟨w.heap.size + 2, 0, none⟩) hl3).trans o0
  have o1 := (hb4.cell (p := ⟨w.heap.size + 2, 1, none⟩) hl3).trans o1
  have z1 := (hb4.frozen (p := ⟨w.heap.size + 2, 1, none⟩) hl3).trans z1
  have hB4 : Below w.heap.size w w4 := hB3.trans (hb4.mono hB3.size)
  obtain ⟨a2, c2, hr2⟩ := ERow.slice ho4
  subst hr2
  have HEND : Hid (MaOwn w4 (w.heap.size + 3) (.slice a1 M.length c1) (.slice a2 E.length c2) M E us) := by
    have h := HO3.out
    refine ⟨h.below hb4, own_lowerM ho4 (by omega), fun g hg => ⟨fun e => ?_, fun u hu e => ?_⟩⟩
    · have k1 := (World.ownsRow.lt ho4 g hg).1
      have k2 := (World.ownsRow.lt h.1 g e).2
      omega
    · have k1 := (World.ownsRow.lt ho4 g hg).1
      have k2 := (h.rows u hu g e).2
      omega
  clear HO3 ho4 hb4
  go_wp2
  (try simp only [Exit.inBlock, Exit.then])
  refine bodyPost_ret (v := .agg #[.slice a1 M.length c1, .slice a2 E.length c2]) ?_ rfl ⟨⟨_, _, rfl, us, ?_⟩, ?_⟩
  · rw [rc]
    go_simp
  · exact (((HEND.out.setCell (a := ⟨w.heap.size + 2, 1, none⟩) (by show w.heap.size + 2 < _; omega) _).setCell (a := ⟨w.heap.size + 1, 0, none⟩) (by show w.heap.size + 1 < _; omega) _).setCell (a := ⟨w.heap.size + 1, 1, none⟩) (by show w.heap.size + 1 < _; omega) _).lower (by omega)
  · exact ((hB4.setCell (by simp <;> omega) _).setCell (by simp <;> omega) _).setCell (by simp <;> omega) _

set_option maxRecDepth 100000 in
set_option maxHeartbeats 4000000 in
theorem eqMach_same (M : List (List Int)) (E : List Bool) (v1 v2 e1 e2 : Value) (w : World) (h1 : MAt w w.heap.size v1 M) (h2 : MAt w w.heap.size v2 M) (g1 : EAt w w.heap.size e1 E) (g2 : EAt w w.heap.size e2 E) (hl : M.length ≤ 2097152) (hll : ∀ i, i < M.length → (rx M i).length ≤ 2097152) (hlE : E.length ≤ 2097152) :
    Calls Try.prog 12 #[.agg #[v1, e1], .agg #[v2, e2]] w fun e w' => e = .returned (.bool true) ∧ Below w.heap.size w w' := by
  have HM1 : Hid (MAt w w.heap.size v1 M) := h1
  have HM2 : Hid (MAt w w.heap.size v2 M) := h2
  have HE1 : Hid (EAt w w.heap.size e1 E) := g1
  have HE2 : Hid (EAt w w.heap.size e2 E) := g2
  obtain ⟨a1, c1, rfl, _⟩ := h1
  obtain ⟨a2, c2, rfl, _⟩ := h2
  obtain ⟨b1, d1, rfl, _⟩ := g1
  obtain ⟨b2, d2, rfl, _⟩ := g2
  obtain ⟨W1, hW1⟩ : ∃ W, W = (w.alloc (.cells #[.slice a1 M.length c1, .slice b1 E.length d1] 30)).alloc (.cells #[.slice a2 M.length c2, .slice b2 E.length d2] 30) := ⟨_, rfl⟩
  have hB1 : Below w.heap.size w W1 := by rw [hW1]; exact ((Below.refl _ w).alloc (Nat.le_refl _) _).alloc (by simp) _
  have q0 : W1.cell? ⟨w.heap.size, 0, none⟩ = some (.slice a1 M.length c1) := by rw [hW1]; go_simp
  have q1 : W1.cell? ⟨w.heap.size, 1, none⟩ = some (.slice b1 E.length d1) := by rw [hW1]; go_simp
  have o0 : W1.cell? ⟨w.heap.size + 1, 0, none⟩ = some (.slice a2 M.length c2) := by rw [hW1]; go_simp
  have o1 : W1.cell? ⟨w.heap.size + 1, 1, none⟩ = some (.slice b2 E.length d2) := by rw [hW1]; go_simp
  have hl1 : w.heap.size + 1 < W1.heap.size := by rw [hW1]; simp
  have C1 : Hid (∀ W, Below w.heap.size w W → Calls Try.prog 44 #[.slice a1 M.length c1, .slice a2 M.length c2] W fun e w' => e = .returned (.bool true) ∧ Below W.heap.size W w') := fun W hW => eqM_same M _ _ W (HM1.out.below hW) (HM2.out.below hW) hl hll
  have C2 : Hid (∀ W, Below w.heap.size w W → Calls Try.prog 45 #[.slice b1 E.length d1, .slice b2 E.length d2] W fun e w' => e = .returned (.bool true) ∧ Below W.heap.size W w') := fun W hW => eqE_same E _ _ W (HE1.out.below hW) (HE2.out.below hW) hlE
  clear HM1 HM2 HE1 HE2 hll
  go_enter Try.func12, Try.ntmps12
  go_wp2_with fail
  rw [← hW1]
  clear hW1
  refine (C1.out _ hB1).mono ?_
  rintro e w2 ⟨rfl, hb2⟩
  have q1 := (hb2.cell (p := ⟨w.heap.size, 1, none⟩) (by show w.heap.size < W1.heap.size; omega)).trans q1
  have o1 := (hb2.cell (p := ⟨w.heap.size + 1, 1, none⟩) hl1).trans o1
  have hbw2 : Below w.heap.size w w2 := hB1.trans (hb2.mono hB1.size)
  go_wp2_with fail
  refine (C2.out _ hbw2).mono ?_
  rintro e w4 ⟨rfl, hb4⟩
  have hbw4 : Below w.heap.size w w4 := hbw2.trans (hb4.mono hbw2.size)
  go_wp2
  go_ret
  exact ⟨rfl, hbw4⟩

end Go.Proofs.Ytecgjhnihagleaa
