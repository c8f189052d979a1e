/- Machines in memory: rows of rows of ints, rows of bools; the law's own looks at them and copies of them. -/
import Derived.Test.YtfkhbbmnjndmcaaZnA
import Derived.Test.YtfkhbbmnjndmcaaMcA
import Derived.Deep.RegionHeld3
namespace Go.Proofs.Ytfkhbbmnjndmcaa
open Go.RowKit Plain Mch

def bols (E : List Bool) : List Value := E.map Value.bool

/-- a slice of bools, in blocks below B -/
def EAt (w : World) (B : Nat) (v : Value) (E : List Bool) : Prop :=
  ∃ ao cap, v = .slice ao E.length cap ∧ E.length ≤ cap ∧ cap ≤ maxLen ∧ ∀ i, i < E.length → ∃ g o, ao = some ⟨g, o, none⟩ ∧ g < B ∧ w.cell? ⟨g, o + i, none⟩ = some (.bool (en E i))

theorem en_at {E : List Bool} {i : Nat} (h : i < E.length) : E[i]? = some (en E i) := by
  unfold en
  rw [List.getD, List.getElem?_eq_getElem h]
  rfl

theorem EAt.below {w w' : World} {v : Value} {E : List Bool} {B : Nat} (h : EAt w B v E) (hb : Below B w w') (hB : B ≤ w.heap.size := by exact Nat.le_refl _) : EAt w' w'.heap.size v E := by
  obtain ⟨ao, cap, hv, hm, hc, hr⟩ := h
  refine ⟨ao, cap, hv, hm, hc, fun i hi => ?_⟩
  obtain ⟨g, o, ha, hg, c⟩ := hr i hi
  have := hb.size
  exact ⟨g, o, ha, by omega, (hb.cell (p := ⟨g, o + i, none⟩) hg).trans c⟩

def ERow (w : World) (B : Nat) (v : Value) (E : List Bool) : Prop := w.ownsRow B 4 1 v E.length (bols E)

theorem EAt.own {w : World} {B : Nat} {v : Value} {E : List Bool} (h : ERow w B v E) : EAt w w.heap.size v E := by
  have h0 := h
  obtain ⟨_, ⟨rfl, hn⟩ | ⟨g, cap, cur, rfl, hB, hb, hnc, hcm, _⟩⟩ := h
  · have : E = [] := List.length_eq_zero_iff.1 hn
    subst this
    exact ⟨none, 0, rfl, by simp, by unfold maxLen; omega, fun i hi => by simp at hi⟩
  · refine ⟨some ⟨g, 0, none⟩, cap, rfl, hnc, hcm, fun i hi => ⟨g, 0, rfl, (World.ownsRow.lt h0 g rfl).2, ?_⟩⟩
    have := World.ownsRow.cellAt h0 i (by omega)
    rw [Nat.zero_add, this]
    simp [bols, en_at hi]

theorem ERow.slice {w : World} {B : Nat} {v : Value} {E : List Bool} (h : ERow w B v E) : ∃ ao cap, v = Value.slice ao E.length cap := by
  rcases h.2 with ⟨rfl, h0⟩ | ⟨g, cap, _, rfl, _⟩
  · exact ⟨none, 0, by rw [h0]⟩
  · exact ⟨_, _, rfl⟩

theorem own_belowM {w w' : World} {B e size n : Nat} {v : Value} {xs : List Value} (h : w.ownsRow B e size v n xs) (hb : Below w.heap.size w w') : w'.ownsRow B e size v n xs := by
  refine ⟨h.1, ?_⟩
  rcases h.2 with hn | ⟨g, cap, cur, hv, hg, hgg, rest⟩
  · exact .inl hn
  · exact .inr ⟨g, cap, cur, hv, hg, (hb.block g (Array.getElem?_eq_some_iff.1 hgg).1).trans hgg, rest⟩

theorem own_lowerM {w : World} {B B' e size n : Nat} {v : Value} {xs : List Value} (h : w.ownsRow B e size v n xs) (hB : B' ≤ B) : w.ownsRow B' e size v n xs := by
  refine ⟨h.1, ?_⟩
  rcases h.2 with hn | ⟨g, cap, cur, hv, hg, rest⟩
  · exact .inl hn
  · exact .inr ⟨g, cap, cur, hv, by omega, rest⟩

theorem ERow.below {w w' : World} {B : Nat} {v : Value} {E : List Bool} (h : ERow w B v E) (hb : Below w.heap.size w w') : ERow w' B v E := own_belowM h hb

/-- a slice of slices of ints, in blocks below B -/
def MAt (w : World) (B : Nat) (v : Value) (M : List (List Int)) : Prop :=
  ∃ ao cap, v = .slice ao M.length cap ∧ M.length ≤ cap ∧ cap ≤ maxLen ∧ ∀ i, i < M.length → ∃ g o u, ao = some ⟨g, o, none⟩ ∧ g < B ∧ w.cell? ⟨g, o + i, none⟩ = some u ∧ ZAt w B u (rx M i)

theorem MAt.below {w w' : World} {v : Value} {M : List (List Int)} {B : Nat} (h : MAt w B v M) (hb : Below B w w') (hB : B ≤ w.heap.size := by exact Nat.le_refl _) : MAt w' w'.heap.size v M := by
  obtain ⟨ao, cap, hv, hc, hm, hr⟩ := h
  refine ⟨ao, cap, hv, hc, hm, fun i hi => ?_⟩
  obtain ⟨g, o, u, ha, hg, c, hs⟩ := hr i hi
  have := hb.size
  exact ⟨g, o, u, ha, by omega, (hb.cell (p := ⟨g, o + i, none⟩) hg).trans c, hs.below hb hB⟩

/-- own rows of ints in an own row -/
def MOwn (w : World) (B : Nat) (v : Value) (M : List (List Int)) (us : List Value) : Prop :=
  w.ownsRow B 22 1 v M.length us ∧ (∀ i, i < M.length → ∃ u, us[i]? = some u ∧ ZRow w B u (rx M i) ∧ ∀ g, u.ownBlock = some g → v.ownBlock ≠ some g) ∧ ∀ (i j : Nat) (ui uj : Value), i < j → us[i]? = some ui → us[j]? = some uj → ∀ g, ui.ownBlock = some g → uj.ownBlock ≠ some g

theorem MOwn.at {w : World} {B : Nat} {v : Value} {M : List (List Int)} {us : List Value} (h : MOwn w B v M us) : MAt w w.heap.size v M := by
  obtain ⟨h1, h2, _⟩ := h
  have h0 := h1
  obtain ⟨_, ⟨rfl, hn0⟩ | ⟨g, cap, cur, rfl, hB, hb, hnc, hcm, _⟩⟩ := h1
  · exact ⟨none, 0, by rw [hn0], by omega, by unfold maxLen; omega, fun i hi => by omega⟩
  · refine ⟨some ⟨g, 0, none⟩, cap, rfl, hnc, hcm, fun i hi => ?_⟩
    obtain ⟨u, hu, hq, _⟩ := h2 i hi
    refine ⟨g, 0, u, rfl, (h0.lt g rfl).2, ?_, ZAt.own hq⟩
    rw [Nat.zero_add, h0.cellAt i (by omega)]
    exact hu

theorem MOwn.slice {w : World} {B : Nat} {v : Value} {M : List (List Int)} {us : List Value} (h : MOwn w B v M us) : ∃ ao cap, v = Value.slice ao M.length cap := by
  rcases h.1.2 with ⟨rfl, h0⟩ | ⟨g, cap, _, rfl, _⟩
  · exact ⟨none, 0, by rw [h0]⟩
  · exact ⟨_, _, rfl⟩

theorem MOwn.below {w w' : World} {B : Nat} {v : Value} {M : List (List Int)} {us : List Value} (h : MOwn w B v M us) (hb : Below w.heap.size w w') : MOwn w' B v M us :=
  ⟨own_belowM h.1 hb, fun i hi => by
    obtain ⟨u, hu, hq, hn⟩ := h.2.1 i hi
    exact ⟨u, hu, hq.below hb, hn⟩, h.2.2⟩

/-- a machine of the call's own: nothing in it lies twice -/
def MaOwn (w : World) (B : Nat) (v e : Value) (M : List (List Int)) (E : List Bool) (us : List Value) : Prop :=
  MOwn w B v M us ∧ ERow w B e E ∧ ∀ g, e.ownBlock = some g → v.ownBlock ≠ some g ∧ ∀ u ∈ us, u.ownBlock ≠ some g

theorem MaOwn.below {w w' : World} {B : Nat} {v e : Value} {M : List (List Int)} {E : List Bool} {us : List Value} (h : MaOwn w B v e M E us) (hb : Below w.heap.size w w') : MaOwn w' B v e M E us :=
  ⟨h.1.below hb, h.2.1.below hb, h.2.2⟩

/-- how many ints the first i rows have -/
def pm (M : List (List Int)) (i : Nat) : Nat := ((M.take i).map List.length).sum

theorem pm_zero (M : List (List Int)) : pm M 0 = 0 := rfl
theorem pm_step {M : List (List Int)} {i : Nat} (h : i < M.length) : pm M (i + 1) = pm M i + (rx M i).length := by
  unfold pm rx
  rw [List.take_add_one, List.getElem?_eq_getElem h, List.map_append, List.sum_append, List.getD, List.getElem?_eq_getElem h]
  simp
theorem pm_mono {M : List (List Int)} : ∀ {j i : Nat}, i ≤ j → j ≤ M.length → pm M i ≤ pm M j := by
  intro j
  induction j with
  | zero => intro i hi _; rw [show i = 0 by omega]; exact Nat.le_refl _
  | succ j ih =>
    intro i hi hj
    by_cases e : i = j + 1
    · rw [e]; exact Nat.le_refl _
    · rw [pm_step (by omega)]
      have := ih (i := i) (by omega) (by omega)
      omega
theorem pm_each {M : List (List Int)} {i : Nat} (h : i < M.length) : (rx M i).length ≤ pm M M.length := by
  have h1 := pm_step h
  have h2 := pm_mono (M := M) (i := i + 1) (j := M.length) (by omega) (Nat.le_refl _)
  omega

set_option maxRecDepth 100000 in
set_option maxHeartbeats 4000000 in
theorem szZ_left (l : List Int) (v : Value) (L : Int) (w : World) (hT : ZAt w w.heap.size v l) (hL0 : 0 ≤ L) (hL1 : L ≤ 1048576) :
    Calls Try.prog 47 #[v, .int .i64 L] w fun e w' => e = .returned (.int .i64 (if L < (l.length : Int) then -1 else L - (l.length : Int))) ∧ w' = w := by
  obtain ⟨ao, cap, rfl, hlc, hcm, _⟩ := hT
  unfold maxLen at hcm
  have hge : (-9223372036854775808 : Int) ≤ L - (l.length : Int) := by omega
  by_cases hbig : L < (l.length : Int)
  · have hlt : L - (l.length : Int) < 0 := by omega
    rw [if_pos hbig]
    go_enter Try.func47, Try.ntmps47
    go_wp2
    go_ret
    exact ⟨rfl, rfl⟩
  · have hlt : ¬ (L - (l.length : Int) < 0) := by omega
    rw [if_neg hbig]
    go_enter Try.func47, Try.ntmps47
    go_wp2
    go_ret
    exact ⟨rfl, rfl⟩

set_option maxRecDepth 100000 in
set_option maxHeartbeats 4000000 in
theorem eqE_same (l : List Bool) (v1 v2 : Value) (w : World) (h1 : EAt w w.heap.size v1 l) (h2 : EAt w w.heap.size v2 l) (hl : l.length ≤ 2097152) :
    Calls Try.prog 29 #[v1, v2] w fun e w' => e = .returned (.bool true) ∧ Below w.heap.size w w' := by
  obtain ⟨ao, cap, rfl, hmax, _, hrow⟩ := h1
  obtain ⟨ao2, cap2, rfl, _, _, hrow2⟩ := h2
  go_enter Try.func29, Try.ntmps29
  go_wp2
  go_loopw [5] (fun vi wr => ∃ k : Nat, k ≤ l.length ∧ vi = .int .i64 (k : Int) ∧ Below w.heap.size w wr)
    (fun vi _ => l.length - (intOf vi).toNat)
  case atStart => exact ⟨0, by omega, rfl, Below.refl _ _⟩
  case round =>
    obtain ⟨k, hk, rfl, hbw⟩ := hrel
    by_cases hlt : k < l.length
    · obtain ⟨g, o, rfl, hg, c⟩ := hrow k hlt
      obtain ⟨g2, o2, rfl, hg2, c2⟩ := hrow2 k hlt
      have e1 := (hbw.cell (p := ⟨g, o + k, none⟩) hg).trans c
      have e2 := (hbw.cell (p := ⟨g2, o2 + k, none⟩) hg2).trans c2
      generalize en l k = b at e1 e2
      have hbb : (b == b) = true := by simp
      clear hrow hrow2 c c2
      have hlt' : (k : Int) < (l.length : Int) := by omega
      go_wp2_with fail
      go_quiet (fail)
      go_wp2
      go_roundw
      case rel => exact ⟨k + 1, by omega, by go_num, below_drewN hbw⟩
      case measure => simp [intOf]; omega
    · have hke : k = l.length := by omega
      subst hke
      have hge : ¬ ((l.length : Int) < (l.length : Int)) := by omega
      go_wp2
      go_ret
      exact ⟨rfl, hbw⟩

end Go.Proofs.Ytfkhbbmnjndmcaa
