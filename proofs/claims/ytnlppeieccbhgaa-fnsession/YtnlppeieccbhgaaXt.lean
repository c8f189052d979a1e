/- Lists of SesStep in memory, 3 cells each; rows of one's own. The law's own looks at SesStep: how great, alike, copies, opened. The law's own marks in lists of impl.SesStep: marks that are put, marks that are held. Rows of bools: in memory, alike, marked, held. -/
import Derived.Test.YtnlppeieccbhgaaSnA
import Derived.Laws.MakeOwn
import Derived.Laws.ResultCell
import Derived.Test.YtnlppeieccbhgaaFxA
import Derived.Deep.RegionWith
import Derived.OpenShut
import Derived.Carry
import Derived.Test.YtnlppeieccbhgaaGr
import Derived.Lib.SmallJoins
import Derived.Lib.BufferOwn
import Derived.Test.YtnlppeieccbhgaaSnB
import Derived.Deep.RegionHeld3
import Derived.Lib.BufferWrite
namespace Go.Proofs.Ytnlppeieccbhgaa
open Go.RowKit Plain Tpc Ssn

def Ssn.Sp.cells (t : Sp) : List Value := [.int .i64 t.kind, .int .i64 t.kk, .string t.tx]
def Ssn.Sp.val (t : Sp) : Value := .agg #[.int .i64 t.kind, .int .i64 t.kk, .string t.tx]

def SpIn (w : World) (g o : Nat) (t : Sp) : Prop :=
  w.cell? ⟨g, o, none⟩ = some (.int .i64 t.kind) ∧ w.cell? ⟨g, o + 1, none⟩ = some (.int .i64 t.kk) ∧ w.cell? ⟨g, o + 2, none⟩ = some (.string t.tx)

theorem SpIn.below {w w' : World} {g o B : Nat} {t : Sp} (h : SpIn w g o t) (hb : Below B w w') (hg : g < B) : SpIn w' g o t := by
  obtain ⟨c0, c1, c2⟩ := h
  exact ⟨(hb.cell (p := ⟨g, o, none⟩) hg).trans c0, (hb.cell (p := ⟨g, o + 1, none⟩) hg).trans c1, (hb.cell (p := ⟨g, o + 2, none⟩) hg).trans c2⟩

/-- a slice of them, in blocks below B -/
def SpsAt (w : World) (B : Nat) (v : Value) (T : List Sp) : Prop :=
  ∃ ao cap, v = .slice ao T.length cap ∧ T.length ≤ cap ∧ cap ≤ maxLen ∧ ∀ i, i < T.length → ∃ g o, ao = some ⟨g, o, none⟩ ∧ g < B ∧ SpIn w g (o + i * 3) (sp T i)

theorem SpsAt.below {w w' : World} {v : Value} {T : List Sp} {B : Nat} (h : SpsAt w B v T) (hb : Below B w w') (hB : B ≤ w.heap.size := by exact Nat.le_refl _) : SpsAt w' w'.heap.size v T := by
  obtain ⟨ao, cap, hv, hc, hm, hr⟩ := h
  refine ⟨ao, cap, hv, hc, hm, fun i hi => ?_⟩
  obtain ⟨g, o, ha, hg, c⟩ := hr i hi
  have := hb.size
  exact ⟨g, o, ha, by omega, c.below hb hg⟩

theorem SpsAt.keep {w w' : World} {v : Value} {T : List Sp} {B : Nat} (h : SpsAt w B v T) (hb : Below B w w') : SpsAt w' B v T := by
  obtain ⟨ao, cap, hv, hc, hm, hr⟩ := h
  refine ⟨ao, cap, hv, hc, hm, fun i hi => ?_⟩
  obtain ⟨g, o, ha, hg, c⟩ := hr i hi
  exact ⟨g, o, ha, hg, c.below hb hg⟩

theorem sp_mem {T : List Sp} {i : Nat} (h : i < T.length) : sp T i ∈ T := by
  unfold sp
  rw [List.getD_eq_getElem?_getD, List.getElem?_eq_getElem h]
  exact List.getElem_mem h
theorem sp_app {L R : List Sp} {i : Nat} (h : i < L.length) : sp (L ++ R) i = sp L i := by
  unfold sp
  rw [List.getD_eq_getElem?_getD, List.getD_eq_getElem?_getD, List.getElem?_append_left h]
theorem sp_take {L : List Sp} {i k : Nat} (h : i < k) : sp (L.take k) i = sp L i := by
  unfold sp
  rw [List.getD_eq_getElem?_getD, List.getD_eq_getElem?_getD, List.getElem?_take, if_pos h]
theorem sp_drop (L : List Sp) (i k : Nat) : sp (L.drop k) i = sp L (k + i) := by
  unfold sp
  rw [List.getD_eq_getElem?_getD, List.getD_eq_getElem?_getD, List.getElem?_drop]

theorem flatSp (l : List Sp) (i j : Nat) (h : i < l.length) (hj : j < 3) : (l.flatMap Sp.cells)[i * 3 + j]? = (sp l i).cells[j]? := by
  induction l generalizing i with
  | nil => simp at h
  | cons a l ih =>
    rw [List.flatMap_cons]
    have ha : a.cells.length = 3 := rfl
    cases i with
    | zero =>
      rw [Nat.zero_mul, Nat.zero_add, List.getElem?_append_left (by omega)]
      rfl
    | succ i =>
      rw [List.getElem?_append_right (by omega)]
      have := ih i (by simpa using h)
      have e : sp (a :: l) (i + 1) = sp l i := by simp [sp]
      rw [e, ← this]
      congr 1
      omega

theorem flatSp_len (l : List Sp) : (l.flatMap Sp.cells).length = l.length * 3 := by
  induction l with
  | nil => rfl
  | cons a l ih => rw [List.flatMap_cons, List.length_append, ih, List.length_cons]; have : a.cells.length = 3 := rfl; omega

theorem ys_eqSp (l : List Sp) (ys : List Value) (hl : ys.length = l.length * 3) (h : ∀ i, i < l.length → ∀ j, j < 3 → ys[i * 3 + j]? = (sp l i).cells[j]?) : ys = l.flatMap Sp.cells := by
  apply List.ext_getElem?
  intro k
  by_cases hk : k < l.length * 3
  · have e : k = k / 3 * 3 + k % 3 := by omega
    rw [e, h (k / 3) (by omega) (k % 3) (by omega), flatSp l (k / 3) (k % 3) (by omega) (by omega)]
  · rw [List.getElem?_eq_none (by omega), List.getElem?_eq_none (by rw [flatSp_len]; omega)]

theorem onesSp (T : List Sp) : ∀ u ∈ T.flatMap Sp.cells, u.oneCell' = true := by
  intro u hu
  rw [List.mem_flatMap] at hu
  obtain ⟨x, _, hx⟩ := hu
  simp [Sp.cells] at hx
  rcases hx with rfl | rfl | rfl <;> rfl

theorem Sp.cells_one (t : Sp) : ∀ u ∈ t.cells, u.oneCell' = true := by
  intro u hu
  simp [Sp.cells] at hu
  rcases hu with rfl | rfl | rfl <;> rfl

/-- a row of one's own -/
def SpRow (w : World) (B : Nat) (v : Value) (T : List Sp) : Prop := w.ownsRow B 48 3 v T.length (T.flatMap Sp.cells)

theorem SpsAt.own {w : World} {B : Nat} {v : Value} {T : List Sp} (h : SpRow w B v T) : SpsAt w w.heap.size v T := by
  have h0 := h
  obtain ⟨_, ⟨rfl, hn0⟩ | ⟨g, cap, cur, rfl, hB, hb, hnc, hcm, _⟩⟩ := h
  · exact ⟨none, 0, by rw [hn0], by omega, by unfold maxLen; omega, fun i hi => by omega⟩
  · refine ⟨some ⟨g, 0, none⟩, cap, rfl, hnc, hcm, fun i hi => ⟨g, 0, rfl, (World.ownsRow.lt h0 g rfl).2, ?_⟩⟩
    have c : ∀ j, j < 3 → w.cell? ⟨g, 0 + i * 3 + j, none⟩ = (sp T i).cells[j]? := fun j hj => by
      rw [Nat.zero_add, World.ownsRow.cellAt h0 (i * 3 + j) (by omega)]
      exact flatSp T i j hi hj
    exact ⟨c 0 (by omega), c 1 (by omega), c 2 (by omega)⟩

theorem SpRow.slice {w : World} {B : Nat} {v : Value} {T : List Sp} (h : SpRow w B v T) : ∃ ao cap, v = Value.slice ao T.length cap ∧ T.length ≤ cap ∧ cap ≤ maxLen := by
  rcases h.2 with ⟨rfl, h0⟩ | ⟨g, cap, _, rfl, _, _, h1, h2, _⟩
  · exact ⟨none, 0, by rw [h0], by omega, by unfold maxLen; omega⟩
  · exact ⟨_, _, rfl, h1, h2⟩

theorem SpRow.snoc {w : World} {B : Nat} {v : Value} {n : Nat} {T : List Sp} {t : Sp} (h : w.ownsRow B 48 3 v n (T.flatMap Sp.cells ++ t.cells)) (hn : T.length + 1 = n) : SpRow w B v (T ++ [t]) := by
  unfold SpRow
  rw [List.length_append, List.length_singleton, hn, List.flatMap_append, List.flatMap_singleton]
  exact h

theorem SpsAt.news {W : World} {B : Nat} {ao : Option Addr} {n cap : Nat} {T : List Sp} (h : SpsAt W B (.slice ao n cap) T) : ∀ j u, (T.flatMap Sp.cells)[j]? = some u → ∃ ad, ao = some ad ∧ W.cell? (ad.add j) = some u := by
  intro j u hu
  obtain ⟨a, c, hv, _, _, hr⟩ := h
  simp only [Value.slice.injEq] at hv
  obtain ⟨rfl, _, _⟩ := hv
  have hj : j < T.length * 3 := by
    have := (List.getElem?_eq_some_iff.1 hu).1
    rwa [flatSp_len] at this
  obtain ⟨g, o, ha, _, c⟩ := hr (j / 3) (by omega)
  refine ⟨_, ha, ?_⟩
  have hadd : (⟨g, o, none⟩ : Addr).add j = ⟨g, o + j, none⟩ := by unfold Addr.add; split <;> simp_all
  rw [hadd]
  have e : j = j / 3 * 3 + j % 3 := by omega
  have h3 : j % 3 < 3 := Nat.mod_lt _ (by omega)
  have hu2 := hu
  rw [e, flatSp T (j / 3) (j % 3) (by omega) h3] at hu2
  rw [← hu2, show o + j = o + j / 3 * 3 + j % 3 by omega]
  obtain ⟨c0, c1, c2⟩ := c
  generalize j % 3 = r at h3
  match r, h3 with
  | 0, _ => exact c0
  | 1, _ => exact c1
  | 2, _ => exact c2

theorem SpsAt.take {w : World} {B : Nat} {T : List Sp} {ao : Option Addr} {n cap k : Nat} (h : SpsAt w B (.slice ao n cap) T) (hk : k ≤ T.length) : SpsAt w B (.slice ao k cap) (T.take k) := by
  obtain ⟨a, c, hv, hm, hc, hr⟩ := h
  simp only [Value.slice.injEq] at hv
  obtain ⟨rfl, rfl, rfl⟩ := hv
  have hl : (T.take k).length = k := by rw [List.length_take]; omega
  refine ⟨ao, cap, by rw [hl], by rw [hl]; omega, hc, fun i hi => ?_⟩
  rw [hl] at hi
  rw [sp_take hi]
  exact hr i (by omega)

theorem SpsAt.drop {w : World} {B : Nat} {T : List Sp} {ao : Option Addr} {n cap k : Nat} (h : SpsAt w B (.slice ao n cap) T) (hk : k ≤ T.length) (ao' : Option Addr) (h' : k < T.length → ∀ g o, ao = some ⟨g, o, none⟩ → ao' = some ⟨g, o + k * 3, none⟩) : SpsAt w B (.slice ao' (n - k) (cap - k)) (T.drop k) := by
  obtain ⟨a, c, hv, hm, hc, hr⟩ := h
  simp only [Value.slice.injEq] at hv
  obtain ⟨rfl, rfl, rfl⟩ := hv
  refine ⟨ao', cap - k, by rw [List.length_drop], by rw [List.length_drop]; omega, by omega, fun i hi => ?_⟩
  rw [List.length_drop] at hi
  obtain ⟨g, o, ha, hg, cc⟩ := hr (k + i) (by omega)
  refine ⟨g, o + k * 3, h' (by omega) g o ha, hg, ?_⟩
  rw [sp_drop, show o + k * 3 + i * 3 = o + (k + i) * 3 by rw [Nat.add_mul]; omega]
  exact cc

theorem Try.infoSp : (Try.prog.info? 48).map (fun i => (i.zero, i.size, i.bytes)) = some (some (.agg #[.int .i64 0, .int .i64 0, .string ⟨#[]⟩]), 3, 32) := by kernel_rfl

end Go.Proofs.Ytnlppeieccbhgaa

namespace Go.Proofs.Ytnlppeieccbhgaa
open Go.RowKit Plain Tpc Ssn

set_option maxRecDepth 100000 in
set_option maxHeartbeats 1000000 in
theorem szSesStep_any (kind : Int) (kk : Int) (tx : ByteArray) (left : Int) (w : World) (hn : tx.size ≤ 9223372036854775807) (h0 : 0 ≤ left) (h1 : left ≤ 1048576) :
    Calls Try.prog 25 #[.agg #[.int .i64 kind, .int .i64 kk, .string tx], .int .i64 left] w fun e w' => (∃ r : Int, e = .returned (.int .i64 r) ∧ -1 ≤ r ∧ r ≤ left ∧ (0 ≤ r → (tx.size : Int) ≤ left)) ∧ Below w.heap.size w w' := by
  by_cases hlt : left - (tx.size : Int) < 0
  · go_enter Try.func25, Try.ntmps25
    go_wp2
    go_ret
    exact ⟨⟨-1, rfl, by omega, by omega, fun h => by omega⟩, (Below.refl _ w).alloc (Nat.le_refl _) _⟩
  · go_enter Try.func25, Try.ntmps25
    go_wp2
    go_ret
    exact ⟨⟨left - (tx.size : Int), rfl, by omega, by omega, fun h => by omega⟩, (Below.refl _ w).alloc (Nat.le_refl _) _⟩

set_option maxRecDepth 100000 in
set_option maxHeartbeats 4000000 in
theorem szSesStepS_left (T : List Sp) (v : Value) (L : Int) (w : World) (hT : SpsAt w w.heap.size v T) (hN : ∀ i, i < T.length → (sp T i).tx.size ≤ 9223372036854775807) (hL0 : 0 ≤ L) (hL1 : L ≤ 1048576) :
    Calls Try.prog 29 #[v, .int .i64 L] w fun e w' => (∃ r : Int, e = .returned (.int .i64 r) ∧ -1 ≤ r ∧ r ≤ 1048576 ∧ (0 ≤ r → T.length ≤ 1048576 ∧ ∀ i, i < T.length → (sp T i).tx.size ≤ 1048576)) ∧ Below w.heap.size w w' := by
  by_cases hbig : L < (T.length : Int)
  · obtain ⟨ao, cap, rfl, hlc, hcm, _⟩ := hT
    unfold maxLen at hcm
    have hlt : L - (T.length : Int) < 0 := by omega
    have hge : (-9223372036854775808 : Int) ≤ L - (T.length : Int) := by omega
    go_enter Try.func29, Try.ntmps29
    go_wp2
    go_ret
    exact ⟨⟨-1, rfl, by omega, by omega, fun h => by omega⟩, Below.refl _ _⟩
  · have hlen : T.length ≤ 1048576 := by omega
    have hlen' : (T.length : Int) ≤ 1048576 := by omega
    have hge : ¬ (L - (T.length : Int) < 0) := by omega
    obtain ⟨ao, cap, rfl, hlc, hcm, hrow⟩ := hT
    have HNM : Hid (∀ i, i < T.length → (sp T i).tx.size ≤ 9223372036854775807) := hN
    have HROW : Hid (∀ i, i < T.length → ∃ g o, ao = some ⟨g, o, none⟩ ∧ g < w.heap.size ∧ SpIn w g (o + i * 3) (sp T i)) := hrow
    clear hrow hN hbig
    go_enter Try.func29, Try.ntmps29
    go_wp2
    go_loopw [1, 5] (fun vl vi wr => ∃ (i : Nat) (left : Int), i ≤ T.length ∧ vi = .int .i64 (i : Int) ∧ vl = .int .i64 left ∧ 0 ≤ left ∧ left ≤ 1048576 ∧ Hid (∀ j, j < i → (sp T j).tx.size ≤ 1048576) ∧ Below w.heap.size w wr)
      (fun _ vi _ => T.length - (intOf vi).toNat)
    case atStart => exact ⟨0, L - (T.length : Int), by omega, rfl, rfl, by omega, by omega, fun j hj => by omega, Below.refl _ _⟩
    case round =>
      obtain ⟨i, left, hi, rfl, rfl, hl0, hl1, hall, hbw⟩ := hrel
      by_cases hlt : i < T.length
      · have hlt' : (i : Int) < (T.length : Int) := by omega
        obtain ⟨g, o, rfl, hg, hty⟩ := HROW.out i hlt
        have hci := hty.below hbw hg
        have hni := HNM.out i hlt
        obtain ⟨ti, hti⟩ : ∃ t, sp T i = t := ⟨_, rfl⟩
        have HTI : Hid (sp T i = ti) := hti
        rw [hti] at hci hni
        clear hti hty
        obtain ⟨kind, kk, tx⟩ := ti
        obtain ⟨c0, c1, c2⟩ := hci
        dsimp only at c0 c1 c2 hni
        go_wp2_with fail
        refine (szSesStep_any kind kk tx left _ hni hl0 hl1).mono ?_
        rintro e w2 ⟨⟨r, rfl, hr0, hr1, hr2⟩, hb2⟩
        have hbw2 : Below w.heap.size w w2 := hbw.trans (hb2.mono hbw.size)
        by_cases hneg : r < 0
        · clear hr2
          go_wp2
          go_ret
          exact ⟨⟨-1, rfl, by omega, by omega, fun h => by omega⟩, hbw2⟩
        · have hnn : (tx.size : Int) ≤ left := hr2 (by omega)
          have hall2 : Hid (∀ j, j < i + 1 → (sp T j).tx.size ≤ 1048576) := fun j hj => by
            by_cases hji : j = i
            · rw [hji, HTI.out]; show tx.size ≤ _; omega
            · exact hall.out j (by omega)
          clear hr2
          go_wp2
          go_roundw
          case rel => exact ⟨i + 1, r, by omega, by go_num, rfl, by omega, by omega, hall2, hbw2⟩
          case measure => simp [intOf]; omega
      · have hke : i = T.length := by omega
        subst hke
        have hge2 : ¬ ((T.length : Int) < (T.length : Int)) := by omega
        go_wp2
        go_ret
        exact ⟨⟨left, rfl, by omega, by omega, fun _ => by first | exact ⟨hlen, hall.out⟩ | exact hall.out⟩, hbw⟩

set_option maxRecDepth 100000 in
set_option maxHeartbeats 1000000 in
theorem eqSesStep_same (kind : Int) (kk : Int) (tx : ByteArray) (w : World) :
    Calls Try.prog 76 #[.agg #[.int .i64 kind, .int .i64 kk, .string tx], .agg #[.int .i64 kind, .int .i64 kk, .string tx]] w fun e w' => e = .returned (.bool true) ∧ Below w.heap.size w w' := by
  go_enter Try.func76, Try.ntmps76
  go_wp2
  go_ret
  exact ⟨rfl, by repeat' (first | exact Below.refl _ _ | refine Below.alloc ?_ (by simp) _)⟩

set_option maxRecDepth 100000 in
set_option maxHeartbeats 4000000 in
theorem eqSesStepS_same (T : List Sp) (v1 v2 : Value) (w : World) (h1 : SpsAt w w.heap.size v1 T) (h2 : SpsAt w w.heap.size v2 T) (hl : T.length ≤ 2097152) :
    Calls Try.prog 34 #[v1, v2] w fun e w' => e = .returned (.bool true) ∧ Below w.heap.size w w' := by
  obtain ⟨ao, cap, rfl, _, hmax, hrow⟩ := h1
  obtain ⟨ao2, cap2, rfl, _, _, hrow2⟩ := h2
  have HROW : Hid (∀ i, i < T.length → ∃ g o, ao = some ⟨g, o, none⟩ ∧ g < w.heap.size ∧ SpIn w g (o + i * 3) (sp T i)) := hrow
  have HROW2 : Hid (∀ i, i < T.length → ∃ g o, ao2 = some ⟨g, o, none⟩ ∧ g < w.heap.size ∧ SpIn w g (o + i * 3) (sp T i)) := hrow2
  clear hrow hrow2
  go_enter Try.func34, Try.ntmps34
  go_wp2
  go_loopw [5] (fun vi wr => ∃ k : Nat, k ≤ T.length ∧ vi = .int .i64 (k : Int) ∧ Below w.heap.size w wr)
    (fun vi _ => T.length - (intOf vi).toNat)
  case atStart => exact ⟨0, by omega, rfl, Below.refl _ _⟩
  case round =>
    obtain ⟨k, hk, rfl, hbw⟩ := hrel
    by_cases hlt : k < T.length
    · obtain ⟨g, o, rfl, hgB, hy1⟩ := HROW.out k hlt
      obtain ⟨g2, o2, rfl, hgB2, hy2⟩ := HROW2.out k hlt
      have e1 := hy1.below hbw hgB
      have e2 := hy2.below hbw hgB2
      clear hy1 hy2
      obtain ⟨ti, hti⟩ : ∃ t, sp T k = t := ⟨_, rfl⟩
      rw [hti] at e1 e2
      clear hti
      obtain ⟨kind, kk, tx⟩ := ti
      obtain ⟨c0, c1, c2⟩ := e1
      obtain ⟨x0, x1, x2⟩ := e2
      dsimp only at c0 c1 c2 x0 x1 x2
      have hlt' : (k : Int) < (T.length : Int) := by omega
      have C2 : Hid (∀ w : World, Calls Try.prog 76 #[.agg #[.int .i64 kind, .int .i64 kk, .string tx], .agg #[.int .i64 kind, .int .i64 kk, .string tx]] w fun e w' => e = .returned (.bool true) ∧ Below w.heap.size w w') := fun w => eqSesStep_same kind kk tx w
      go_wp2_with fail
      go_region_with (go_at_call 76; refine (C2.out _).mono ?_; rintro e w2 ⟨rfl, hb2⟩; have hbw2 : Below w.heap.size w w2 := hbw.drew.trans (hb2.mono hbw.size))
      all_goals
        go_wp2
        go_roundw
        case rel => exact ⟨k + 1, by omega, by go_num, hbw2⟩
        case measure => simp [intOf]; omega
    · have hke : k = T.length := by omega
      subst hke
      have hge : ¬ ((T.length : Int) < (T.length : Int)) := by omega
      go_wp2
      go_ret
      exact ⟨rfl, hbw⟩

set_option maxRecDepth 100000 in
set_option maxHeartbeats 1000000 in
theorem toSesStep_any (kind : Int) (kk : Int) (tx : ByteArray) (w : World) :
    Calls Try.prog 27 #[.agg #[.int .i64 kind, .int .i64 kk, .string tx]] w fun e w' => e = .returned (.agg #[.int .i64 kind, .int .i64 kk, .string tx]) ∧ Below w.heap.size w w' := by
  go_enter Try.func27, Try.ntmps27
  go_wp2
  (try simp only [Exit.inBlock, Exit.then])
  refine bodyPost_ret (v := .agg #[.int .i64 kind, .int .i64 kk, .string tx]) ?_ rfl ⟨rfl, ?_⟩
  · have rc : ∀ (tmps : Array Value) (P : Program) (w : World), (results Try.f27 tmps).run P w = ((asAddr (tmps.getD 2 undef)).run P w).andThen fun a w₁ => (loadVar 48 a).run P w₁ := fun tmps P w => by
      have h : Try.f27.results = #[.cell 2 48] := rfl
      simp only [results, h]
      simp [Sem.run_bind, Result.andThen]
    rw [rc]
    go_simp
  · repeat' (first | exact Below.refl _ _ | refine Below.alloc ?_ (by simp <;> omega) _ | refine Below.setCell ?_ (by simp <;> omega) _)

theorem setSp_eq (ys : List Value) (T : List Sp) (i : Nat) (t : Sp) (hl : ys.length = T.length * 3) (hi : i < T.length) (ht : sp T i = t) (hm : ∀ m, m < i → ∀ j, j < 3 → ys[m * 3 + j]? = (sp T m).cells[j]?) : ∀ m, m < i + 1 → ∀ j, j < 3 →
    (((ys.set (i * 3) (.int .i64 t.kind)).set (i * 3 + 1) (.int .i64 t.kk)).set (i * 3 + 2) (.string t.tx))[m * 3 + j]? = (sp T m).cells[j]? := by
  intro m hmi j hj
  simp only [List.getElem?_set, List.length_set]
  by_cases hme : m = i
  · subst hme
    rw [ht]
    match j, hj with
    | 0, _ => simp [Sp.cells]; omega
    | 1, _ => simp [Sp.cells]; omega
    | 2, _ => simp [Sp.cells]; omega
  · rw [if_neg (by omega), if_neg (by omega), if_neg (by omega)]
    exact hm m (by omega) j hj

set_option maxRecDepth 100000 in
set_option maxHeartbeats 4000000 in
theorem toSesStepS_any (T : List Sp) (v : Value) (w : World) (hT : SpsAt w w.heap.size v T) (hl : T.length ≤ 1048576) :
    Calls Try.prog 31 #[v] w fun e w' => ∃ r, e = .returned r ∧ SpRow w' w.heap.size r T ∧ Below w.heap.size w w' := by
  obtain ⟨i0, hi, hz0, hz1, hz2⟩ := info_parts Try.infoSp
  obtain ⟨ao, cap, rfl, _, hmax, hrow⟩ := hT
  have HROW : Hid (∀ i, i < T.length → ∃ g o, ao = some ⟨g, o, none⟩ ∧ g < w.heap.size ∧ SpIn w g (o + i * 3) (sp T i)) := hrow
  clear hrow
  obtain ⟨M, hM⟩ : ∃ M, M = madeCells (Value.agg #[.int .i64 0, .int .i64 0, .string ⟨#[]⟩]).cells (((T.length : Nat) : Int).toNat * i0.size) := ⟨_, rfl⟩
  have hMs : M.size = T.length * 3 := by rw [hM, size_madeCells, hz1]; simp
  have hmk : ∀ W : World, (Instr.makeSlice 56 (.int .i64 (T.length : Int)) (.int .i64 (T.length : Int))).run Try.prog W = .ok (.slice (some ⟨W.heap.size, 0, none⟩) T.length T.length) (W.alloc (.cells M 48)) := fun W => by
    have h := run_make (P := Try.prog) W 56 48 i0 (.agg #[.int .i64 0, .int .i64 0, .string ⟨#[]⟩]) Try.underlying56 hi hz0 .i64 .i64 (T.length : Int) (T.length : Int) (by omega) (by omega) (by rw [hz2]; omega) (by omega)
    rw [← hM] at h
    simpa using h
  have hown0 : (w.alloc (.cells M 48)).ownsRow w.heap.size 48 3 (.slice (some ⟨w.heap.size, 0, none⟩) T.length T.length) T.length M.toList :=
    ⟨by simp [hMs], .inr ⟨w.heap.size, T.length, M, rfl, Nat.le_refl _, heap_alloc_new w _, Nat.le_refl _, by unfold maxLen; omega, hMs, by rw [List.take_of_length_le (by simp [hMs])]⟩⟩
  clear hM
  go_enter Try.func31, Try.ntmps31
  go_wp2
  go_loopw [4] (fun vi wr => ∃ (i : Nat) (ys : List Value), i ≤ T.length ∧ vi = .int .i64 (i : Int) ∧ wr.ownsRow w.heap.size 48 3 (.slice (some ⟨w.heap.size, 0, none⟩) T.length T.length) T.length ys ∧ Hid (∀ m, m < i → ∀ j, j < 3 → ys[m * 3 + j]? = (sp T m).cells[j]?) ∧ Below w.heap.size w wr)
    (fun vi _ => T.length - (intOf vi).toNat)
  case atStart => exact ⟨0, M.toList, by omega, rfl, hown0, fun m hm => by omega, (Below.refl _ w).alloc (Nat.le_refl _) _⟩
  case round =>
    obtain ⟨i, ys, hil, rfl, hown, hys, hbw⟩ := hrel
    clear hown0 hmk
    have hyl : ys.length = T.length * 3 := hown.1
    by_cases hlt : i < T.length
    · have hlt' : (i : Int) < (T.length : Int) := by omega
      obtain ⟨g, o, rfl, hg, hty⟩ := HROW.out i hlt
      have hci := hty.below hbw hg
      have hsz : w.heap.size < wr.heap.size := (hown.lt w.heap.size rfl).2
      obtain ⟨ti, hti⟩ : ∃ t, sp T i = t := ⟨_, rfl⟩
      have HTI : Hid (sp T i = ti) := hti
      rw [hti] at hci
      clear hti hty
      obtain ⟨kind, kk, tx⟩ := ti
      obtain ⟨c0, c1, c2⟩ := hci
      dsimp only at c0 c1 c2
      go_wp2_with fail
      refine (toSesStep_any kind kk tx _).mono ?_
      rintro e w2 ⟨rfl, hb2⟩
      have how2 := own_belowY hown hb2
      have hbw2 : Below w.heap.size w w2 := hbw.trans (hb2.mono hbw.size)
      have how8 := (((how2.stored (i * 3) (.int .i64 kind)).1.stored (i * 3 + 1) (.int .i64 kk)).1.stored (i * 3 + 2) (.string tx)).1
      have HS : Hid (∀ m, m < i + 1 → ∀ j, j < 3 → (((ys.set (i * 3) (.int .i64 kind)).set (i * 3 + 1) (.int .i64 kk)).set (i * 3 + 2) (.string tx))[m * 3 + j]? = (sp T m).cells[j]?) := setSp_eq ys T i ⟨kind, kk, tx⟩ hyl hlt HTI.out hys.out
      have q : ∀ j, j < 3 → ∃ u, w2.cell? ⟨w.heap.size, i * 3 + j, none⟩ = some u := fun j hj => by
        have := how2.cellAt (i * 3 + j) (by omega)
        rw [List.getElem?_eq_getElem (by omega)] at this
        exact ⟨_, this⟩
      obtain ⟨u0, q0⟩ := q 0 (by omega)
      obtain ⟨u1, q1⟩ := q 1 (by omega)
      obtain ⟨u2, q2⟩ := q 2 (by omega)
      rw [Nat.add_zero] at q0
      have z0 := how2.frozenAt (i * 3)
      have z1 := how2.frozenAt (i * 3 + 1)
      have z2 := how2.frozenAt (i * 3 + 2)
      generalize (((ys.set (i * 3) (Value.int .i64 kind)).set (i * 3 + 1) (.int .i64 kk)).set (i * 3 + 2) (.string tx)) = zs at how8 HS
      clear how2 hown hb2 hbw q hys c0 c1 c2
      go_wp2
      go_roundw
      case rel => exact ⟨i + 1, zs, by omega, by go_num, how8, HS, (((hbw2.setCell (Nat.le_refl _) _).setCell (Nat.le_refl _) _).setCell (Nat.le_refl _) _)⟩
      case measure => simp [intOf]; omega
    · have hke : i = T.length := by omega
      subst hke
      have hge : ¬ ((T.length : Int) < (T.length : Int)) := by omega
      have hE : Hid (ys = T.flatMap Sp.cells) := ys_eqSp T ys hyl hys.out
      clear hys
      go_wp2
      go_ret
      exact ⟨_, rfl, by unfold SpRow; rw [← hE.out]; exact hown, hbw⟩

set_option maxRecDepth 100000 in
theorem open_Sp {H : Type} {enc : TypeId × Value → H} {W : World} {base : Nat} {sp : Nat → Bool} {hd : Bool} {m : Nat} {cs : List Value} {x : DataW H × List MemPlace}
    (h : DataW.trod enc Try.prog W base sp hd m 45 cs = some x) : ∃ t : Sp, cs = t.cells ∧ t.tx.size ≤ maxLen := by
  obtain ⟨xs, m1, rfl, rfl, hlen, hn, hf⟩ := DataW.trod_struct Try.underlying45 h
  have c3 : Try.prog.cellsOf 3 = 1 := by kernel_rfl
  have c9 : Try.prog.cellsOf 9 = 1 := by kernel_rfl
  have c75 : Try.prog.cellsOf 45 = 3 := by kernel_rfl
  rw [c75] at hlen
  have f0 : DataW.trod enc Try.prog W base sp hd m1 3 ((cs.drop 0).take (Try.prog.cellsOf 3)) = xs[0]? := hf 0 _ rfl
  rw [c3] at f0
  have f1 : DataW.trod enc Try.prog W base sp hd m1 3 ((cs.drop 1).take (Try.prog.cellsOf 3)) = xs[1]? := hf 1 _ rfl
  rw [c3] at f1
  have f2 : DataW.trod enc Try.prog W base sp hd m1 9 ((cs.drop 2).take (Try.prog.cellsOf 9)) = xs[2]? := hf 2 _ rfl
  rw [c9] at f2
  match xs, hn with
  | [x0, x1, x2], _ =>
    match cs, hlen with
    | [k0, k1, k2], _ =>
      obtain ⟨n0, e0, _⟩ := DataW.trod_int Try.underlying3 (show DataW.trod _ _ _ _ _ _ _ _ _ = some x0 from f0)
      obtain ⟨n1, e1, _⟩ := DataW.trod_int Try.underlying3 (show DataW.trod _ _ _ _ _ _ _ _ _ = some x1 from f1)
      obtain ⟨n2, e2, _, hs⟩ := DataW.trod_string Try.underlying9 (show DataW.trod _ _ _ _ _ _ _ _ _ = some x2 from f2)
      simp at e0 e1 e2
      exact ⟨⟨n0, n1, n2⟩, by rw [e0, e1, e2]; rfl, hs⟩

set_option maxRecDepth 100000 in
theorem open_SpsIn {H : Type} {enc : TypeId × Value → H} {W : World} {m : Nat} {v0 : Value} {x : DataW H × List MemPlace}
    (hf : DataW.trod enc Try.prog W 0 (fun _ => true) true m 51 [v0] = some x) : ∃ T, SpsAt W W.heap.size v0 T ∧ ∀ i, i < T.length → (sp T i).tx.size ≤ 9223372036854775807 := by
  have c75 : Try.prog.cellsOf 45 = 3 := by kernel_rfl
  rcases DataW.trod_slice Try.underlying51 hf with ⟨hcs, _⟩ | ⟨a, len, cap, elems, rest, m2, _, hcs, _, _, hlc, hcm, hel, hcell, _⟩
  · simp at hcs
    subst hcs
    exact ⟨[], ⟨none, 0, rfl, by simp, by unfold maxLen; omega, fun i hi => by simp at hi⟩, fun i hi => by simp at hi⟩
  · simp at hcs
    subst hcs
    rw [c75] at hcell
    have each : ∀ i, i < len → ∃ t : Sp, (a = ⟨a.block, a.off, none⟩ ∧ a.block < W.heap.size) ∧ SpIn W a.block (a.off + i * 3) t ∧ t.tx.size ≤ maxLen := by
      intro i hi
      have h1 := hcell i hi
      rw [List.getElem?_eq_getElem (by omega), Option.bind_eq_some_iff] at h1
      obtain ⟨ci, hci, htr⟩ := h1
      obtain ⟨t, rfl, hnm⟩ := open_Sp htr
      obtain ⟨_, _, hc⟩ := World.cells?_some hci
      have h00 := hcell 0 (by omega)
      rw [List.getElem?_eq_getElem (by omega), Option.bind_eq_some_iff] at h00
      obtain ⟨c0, hc0, htr0⟩ := h00
      obtain ⟨t0, rfl, _⟩ := open_Sp htr0
      obtain ⟨_, _, hcc0⟩ := World.cells?_some hc0
      have hz := hcc0 0 (by omega)
      have hz' : W.cell? a = some (.int .i64 t0.kind) := by simpa [Addr.add, Sp.cells] using hz
      have hsp := spot_none hz'
      refine ⟨t, ⟨hsp, World.block_lt_of_cell? W a hz'⟩, ?_, hnm⟩
      have key : ∀ j, j < 3 → W.cell? ⟨a.block, a.off + i * 3 + j, none⟩ = t.cells[j]? := by
        intro j hj
        have h2 := hc j hj
        rw [← h2]
        congr 1
        rw [hsp]
        unfold Addr.add
        by_cases h0 : i * 3 = 0
        · rw [if_pos h0]
          by_cases hj0 : j = 0
          · rw [if_pos hj0]; simp; omega
          · rw [if_neg hj0]; simp
        · rw [if_neg h0]
          by_cases hj0 : j = 0
          · rw [if_pos hj0]; simp
          · rw [if_neg hj0]
      exact ⟨key 0 (by omega), key 1 (by omega), key 2 (by omega)⟩
    obtain ⟨T, hT, hP⟩ := pick_list each
    have el : ∀ i, i < T.length → sp T i = T.getD i default := fun i hi => rfl
    refine ⟨T, ⟨some a, cap, by rw [hT], by omega, hcm, fun i hi => ?_⟩, fun i hi => ?_⟩
    · have h1 := hP i (by omega)
      refine ⟨a.block, a.off, by rw [← h1.1.1], h1.1.2, ?_⟩
      rw [el i hi]
      exact h1.2.1
    · have h1 := (hP i (by omega)).2.2
      unfold maxLen at h1
      rw [el i hi]
      exact h1

end Go.Proofs.Ytnlppeieccbhgaa

namespace Go.Proofs.Ytnlppeieccbhgaa
open Go.RowKit

theorem own_belowSp {w w' : World} {B e size n : Nat} {v : Value} {xs : List Value} (h : w.ownsRow B e size v n xs) (hb : Below w.heap.size w w') : w'.ownsRow B e size v n xs := by
  refine ⟨h.1, ?_⟩
  rcases h.2 with hn | ⟨g, cap, cur, hv, hg, hgg, rest⟩
  · exact .inl hn
  · exact .inr ⟨g, cap, cur, hv, hg, (hb.block g (Array.getElem?_eq_some_iff.1 hgg).1).trans hgg, rest⟩

theorem grow_belowSp {w w' : World} {row : Option Nat} (hb : Below w.heap.size w w') : w.grownBy w' row := ⟨hb.os, hb.tape, hb.output, hb.size, fun j hj _ => hb.block j hj⟩

/-- the mark of a cell -/
def mcSp (k j : Nat) : Value :=
  match j % 3 with
  | 2 => .string (mt (k + j))
  | _ => .int .i64 ((k + j : Nat) : Int)

theorem mcSp_0 (k i : Nat) : mcSp k (i * 3) = .int .i64 ((k + (i * 3) : Nat) : Int) := by
  unfold mcSp
  rw [show (i * 3) % 3 = 0 by omega]
  rfl

theorem mcSp_1 (k i : Nat) : mcSp k (i * 3 + 1) = .int .i64 ((k + (i * 3 + 1) : Nat) : Int) := by
  unfold mcSp
  rw [show (i * 3 + 1) % 3 = 1 by omega]
  rfl

theorem mcSp_2 (k i : Nat) : mcSp k (i * 3 + 2) = .string (mt (k + (i * 3 + 2))) := by
  unfold mcSp
  rw [show (i * 3 + 2) % 3 = 2 by omega]
  rfl

theorem setSp_marks (ys : List Value) (k i n : Nat) (hl : ys.length = n * 3) (hi : i < n) (hm : ∀ j, j < i * 3 → ys[j]? = some (mcSp k j)) : ∀ j, j < (i + 1) * 3 →
    (((ys.set (i * 3) (mcSp k (i * 3))).set (i * 3 + 1) (mcSp k (i * 3 + 1))).set (i * 3 + 2) (mcSp k (i * 3 + 2)))[j]? = some (mcSp k j) := by
  intro j hj
  simp only [List.getElem?_set, List.length_set]
  by_cases h2 : i * 3 + 2 = j
  · rw [if_pos h2, if_pos (by omega), h2]
  · rw [if_neg h2]
    by_cases h1 : i * 3 + 1 = j
    · rw [if_pos h1, if_pos (by omega), h1]
    · rw [if_neg h1]
      by_cases h0 : i * 3 = j
      · rw [if_pos h0, if_pos (by omega), h0]
      · rw [if_neg h0]
        exact hm j (by omega)

set_option maxRecDepth 100000 in
set_option maxHeartbeats 8000000 in
theorem markSp_any (B n k : Nat) (v : Value) (xs : List Value) (w : World) (hown : w.ownsRow B 48 3 v n xs) (hn : n ≤ 2097152) (hk1 : 1 ≤ k) (hk2 : k ≤ 100000000) :
    Calls Try.prog 35 #[v, .int .i64 k] w fun e w' => e = .returned (.int .i64 ((k + n * 3 : Nat) : Int)) ∧ (∃ ys, w'.ownsRow B 48 3 v n ys ∧ ∀ j, j < n * 3 → ys[j]? = some (mcSp k j)) ∧ w.grownBy w' v.ownBlock := by
  by_cases hn0 : n = 0
  · subst hn0
    obtain ⟨ao, cap, hv⟩ : ∃ ao cap, v = Value.slice ao 0 cap := by
      rcases hown.2 with ⟨rfl, _⟩ | ⟨g, cap, _, rfl, _⟩
      · exact ⟨_, _, rfl⟩
      · exact ⟨_, _, rfl⟩
    subst hv
    have HO : Hid (w.ownsRow B 48 3 (.slice ao 0 cap) 0 xs) := hown
    clear hown
    go_enter Try.func35, Try.ntmps35
    go_wp2
    go_loopw [1, 5] (fun vk vi wr => vk = .int .i64 (k : Int) ∧ vi = .int .i64 0 ∧ wr = w) (fun _ _ _ => 0)
    case atStart => exact ⟨rfl, rfl, rfl⟩
    case round =>
      obtain ⟨rfl, rfl, rfl⟩ := hrel
      go_wp2
      go_ret
      exact ⟨by simp, ⟨xs, HO.out, fun j hj => by omega⟩, grow_belowSp (Below.refl _ _)⟩
  · obtain ⟨g, cap, hv⟩ := Joins.ownsRow_form hown (by omega)
    subst hv
    have hxl : xs.length = n * 3 := hown.1
    go_enter Try.func35, Try.ntmps35
    go_wp2
    go_loopw [1, 5] (fun vk vi wr => ∃ (i : Nat) (ys : List Value), i ≤ n ∧ vi = .int .i64 (i : Int) ∧ vk = .int .i64 ((k + i * 3 : Nat) : Int) ∧ wr.ownsRow B 48 3 (.slice (some ⟨g, 0, none⟩) n cap) n ys ∧ Hid (∀ j, j < i * 3 → ys[j]? = some (mcSp k j)) ∧ w.grownBy wr (some g))
      (fun _ vi _ => n - (intOf vi).toNat)
    case atStart => exact ⟨0, xs, by omega, rfl, by simp, hown, fun j hj => by omega, grow_belowSp (Below.refl _ _)⟩
    case round =>
      obtain ⟨i, ys, hi, rfl, rfl, how, hm, hbw⟩ := hrel
      have hyl : ys.length = n * 3 := how.1
      clear hown
      by_cases hlt : i < n
      · have hlt' : (i : Int) < (n : Int) := by omega
        have q0 := how.cellAt (i * 3) (by omega)
        have q1 := how.cellAt (i * 3 + 1) (by omega)
        have q2 := how.cellAt (i * 3 + 2) (by omega)
        rw [List.getElem?_eq_getElem (by omega)] at q0 q1 q2
        have z0 := how.frozenAt (i * 3)
        have z1 := how.frozenAt (i * 3 + 1)
        have z2 := how.frozenAt (i * 3 + 2)
        generalize ys[i * 3] = a0 at q0
        generalize ys[i * 3 + 1] = a1 at q1
        generalize ys[i * 3 + 2] = a2 at q2
        go_wp2_with fail
        refine (markText_int _ (by omega) (by omega) _).mono ?_
        rintro e w50 ⟨rfl, hbw50⟩
        have howw50 := own_belowSp ((how.stored (i * 3) (.int .i64 ((k : Int) + i * 3))).1.stored (i * 3 + 1) (.int .i64 ((k : Int) + i * 3 + 1))).1 hbw50
        have hbww50 := Lib.grownBy_trans (Lib.grownBy_trans (Lib.grownBy_trans hbw (Lib.grownBy_setCell _ g (i * 3) (.int .i64 ((k : Int) + i * 3)))) (Lib.grownBy_setCell _ g (i * 3 + 1) (.int .i64 ((k : Int) + i * 3 + 1)))) (grow_belowSp hbw50)
        have q20 := howw50.cellAt (i * 3 + 2) (by omega)
        rw [List.getElem?_eq_getElem (by simp; omega)] at q20
        have z20 := howw50.frozenAt (i * 3 + 2)
        generalize (((ys.set (i * 3) (Value.int .i64 ((k : Int) + i * 3))).set (i * 3 + 1) (Value.int .i64 ((k : Int) + i * 3 + 1)))[i * 3 + 2]'(by simp; omega)) = a20 at q20
        have how6 := (howw50.stored (i * 3 + 2) (.string (mt ((k : Int) + i * 3 + 1 + 1).toNat))).1
        have HM : Hid (∀ j, j < (i + 1) * 3 → (((ys.set (i * 3) (Value.int .i64 ((k : Int) + i * 3))).set (i * 3 + 1) (Value.int .i64 ((k : Int) + i * 3 + 1))).set (i * 3 + 2) (Value.string (mt ((k : Int) + i * 3 + 1 + 1).toNat)))[j]? = some (mcSp k j)) := by
          have e0 : Value.int .i64 ((k : Int) + i * 3) = mcSp k (i * 3) := by rw [mcSp_0, show ((k + (i * 3) : Nat) : Int) = (k : Int) + i * 3 by omega]
          have e1 : Value.int .i64 ((k : Int) + i * 3 + 1) = mcSp k (i * 3 + 1) := by rw [mcSp_1, show ((k + (i * 3 + 1) : Nat) : Int) = (k : Int) + i * 3 + 1 by omega]
          have e2 : Value.string (mt ((k : Int) + i * 3 + 1 + 1).toNat) = mcSp k (i * 3 + 2) := by rw [mcSp_2, show ((k : Int) + i * 3 + 1 + 1).toNat = k + (i * 3 + 2) by omega]
          rw [e0, e1, e2]
          exact setSp_marks ys k i n hyl hlt hm.out
        generalize (((ys.set (i * 3) (Value.int .i64 ((k : Int) + i * 3))).set (i * 3 + 1) (Value.int .i64 ((k : Int) + i * 3 + 1))).set (i * 3 + 2) (Value.string (mt ((k : Int) + i * 3 + 1 + 1).toNat))) = zs at how6 HM
        have hbw6 := (Lib.grownBy_trans hbww50 (Lib.grownBy_setCell _ g (i * 3 + 2) (.string (mt ((k : Int) + i * 3 + 1 + 1).toNat))))
        clear how hm howw50 hbw50
        clear q0 z0 q1 z1 q2 z2
        go_wp2
        go_roundw
        case rel => exact ⟨i + 1, zs, by omega, by go_num, by go_num, how6, HM, hbw6⟩
        case measure => simp [intOf]; omega
      · have hke : i = n := by omega
        subst hke
        have hge : ¬ ((i : Int) < (i : Int)) := by omega
        go_wp2
        go_ret
        exact ⟨rfl, ⟨ys, how, hm.out⟩, hbw⟩

/-- marks that lie in a slice's cells -/
def MarksAtSp (w : World) (B : Nat) (v : Value) (n k : Nat) : Prop :=
  ∃ ao cap, v = .slice ao n cap ∧ n ≤ maxLen ∧ ∀ j, j < n * 3 → ∃ g o, ao = some ⟨g, o, none⟩ ∧ g < B ∧ w.cell? ⟨g, o + j, none⟩ = some (mcSp k j)

theorem MarksAtSp.below {w w' : World} {v : Value} {n k B : Nat} (h : MarksAtSp w B v n k) (hb : Below B w w') (hB : B ≤ w.heap.size := by exact Nat.le_refl _) : MarksAtSp w' w'.heap.size v n k := by
  obtain ⟨ao, cap, hv, hm, hr⟩ := h
  refine ⟨ao, cap, hv, hm, fun j hj => ?_⟩
  obtain ⟨g, o, ha, hg, c⟩ := hr j hj
  have := hb.size
  exact ⟨g, o, ha, by omega, (hb.cell (p := ⟨g, o + j, none⟩) hg).trans c⟩

theorem MarksAtSp.own {w : World} {B n k : Nat} {v : Value} {ys : List Value} (h : w.ownsRow B 48 3 v n ys) (hm : ∀ j, j < n * 3 → ys[j]? = some (mcSp k j)) (hl : n ≤ maxLen) : MarksAtSp w w.heap.size v n k := by
  have h0 := h
  obtain ⟨_, ⟨rfl, hn⟩ | ⟨g, cap, cur, rfl, hB, hb, _⟩⟩ := h
  · subst hn
    exact ⟨none, 0, rfl, hl, fun j hj => by omega⟩
  · refine ⟨some ⟨g, 0, none⟩, cap, rfl, hl, fun j hj => ⟨g, 0, rfl, (h0.lt g rfl).2, ?_⟩⟩
    have := h0.cellAt j hj
    rw [hm j hj] at this
    simpa using this

end Go.Proofs.Ytnlppeieccbhgaa

namespace Go.Proofs.Ytnlppeieccbhgaa
open Go.RowKit Plain

def en (E : List Bool) (i : Nat) : Bool := E.getD i false

def bols (E : List Bool) : List Value := E.map Value.bool

/-- a slice of bools, in blocks below B -/
def EAt (w : World) (B : Nat) (v : Value) (E : List Bool) : Prop :=
  ∃ ao cap, v = .slice ao E.length cap ∧ E.length ≤ cap ∧ cap ≤ maxLen ∧ ∀ i, i < E.length → ∃ g o, ao = some ⟨g, o, none⟩ ∧ g < B ∧ w.cell? ⟨g, o + i, none⟩ = some (.bool (en E i))

theorem en_at {E : List Bool} {i : Nat} (h : i < E.length) : E[i]? = some (en E i) := by
  unfold en
  rw [List.getD, List.getElem?_eq_getElem h]
  rfl

theorem EAt.below {w w' : World} {v : Value} {E : List Bool} {B : Nat} (h : EAt w B v E) (hb : Below B w w') (hB : B ≤ w.heap.size := by exact Nat.le_refl _) : EAt w' w'.heap.size v E := by
  obtain ⟨ao, cap, hv, hm, hc, hr⟩ := h
  refine ⟨ao, cap, hv, hm, hc, fun i hi => ?_⟩
  obtain ⟨g, o, ha, hg, c⟩ := hr i hi
  have := hb.size
  exact ⟨g, o, ha, by omega, (hb.cell (p := ⟨g, o + i, none⟩) hg).trans c⟩

def ERow (w : World) (B : Nat) (v : Value) (E : List Bool) : Prop := w.ownsRow B 4 1 v E.length (bols E)

theorem EAt.own {w : World} {B : Nat} {v : Value} {E : List Bool} (h : ERow w B v E) : EAt w w.heap.size v E := by
  have h0 := h
  obtain ⟨_, ⟨rfl, hn⟩ | ⟨g, cap, cur, rfl, hB, hb, hnc, hcm, _⟩⟩ := h
  · have : E = [] := List.length_eq_zero_iff.1 hn
    subst this
    exact ⟨none, 0, rfl, by simp, by unfold maxLen; omega, fun i hi => by simp at hi⟩
  · refine ⟨some ⟨g, 0, none⟩, cap, rfl, hnc, hcm, fun i hi => ⟨g, 0, rfl, (World.ownsRow.lt h0 g rfl).2, ?_⟩⟩
    have := World.ownsRow.cellAt h0 i (by omega)
    rw [Nat.zero_add, this]
    simp [bols, en_at hi]

theorem ERow.slice {w : World} {B : Nat} {v : Value} {E : List Bool} (h : ERow w B v E) : ∃ ao cap, v = Value.slice ao E.length cap := by
  rcases h.2 with ⟨rfl, h0⟩ | ⟨g, cap, _, rfl, _⟩
  · exact ⟨none, 0, by rw [h0]⟩
  · exact ⟨_, _, rfl⟩

theorem own_belowE {w w' : World} {B e size n : Nat} {v : Value} {xs : List Value} (h : w.ownsRow B e size v n xs) (hb : Below w.heap.size w w') : w'.ownsRow B e size v n xs := by
  refine ⟨h.1, ?_⟩
  rcases h.2 with hn | ⟨g, cap, cur, hv, hg, hgg, rest⟩
  · exact .inl hn
  · exact .inr ⟨g, cap, cur, hv, hg, (hb.block g (Array.getElem?_eq_some_iff.1 hgg).1).trans hgg, rest⟩
theorem grow_belowE {w w' : World} {row : Option Nat} (hb : Below w.heap.size w w') : w.grownBy w' row := ⟨hb.os, hb.tape, hb.output, hb.size, fun j hj _ => hb.block j hj⟩

set_option maxRecDepth 100000 in
set_option maxHeartbeats 4000000 in
theorem eqE_same (l : List Bool) (v1 v2 : Value) (w : World) (h1 : EAt w w.heap.size v1 l) (h2 : EAt w w.heap.size v2 l) (hl : l.length ≤ 2097152) :
    Calls Try.prog 33 #[v1, v2] w fun e w' => e = .returned (.bool true) ∧ Below w.heap.size w w' := by
  obtain ⟨ao, cap, rfl, hmax, _, hrow⟩ := h1
  obtain ⟨ao2, cap2, rfl, _, _, hrow2⟩ := h2
  go_enter Try.func33, Try.ntmps33
  go_wp2
  go_loopw [5] (fun vi wr => ∃ k : Nat, k ≤ l.length ∧ vi = .int .i64 (k : Int) ∧ Below w.heap.size w wr)
    (fun vi _ => l.length - (intOf vi).toNat)
  case atStart => exact ⟨0, by omega, rfl, Below.refl _ _⟩
  case round =>
    obtain ⟨k, hk, rfl, hbw⟩ := hrel
    by_cases hlt : k < l.length
    · obtain ⟨g, o, rfl, hg, c⟩ := hrow k hlt
      obtain ⟨g2, o2, rfl, hg2, c2⟩ := hrow2 k hlt
      have e1 := (hbw.cell (p := ⟨g, o + k, none⟩) hg).trans c
      have e2 := (hbw.cell (p := ⟨g2, o2 + k, none⟩) hg2).trans c2
      generalize en l k = b at e1 e2
      have hbb : (b == b) = true := by simp
      clear hrow hrow2 c c2
      have hlt' : (k : Int) < (l.length : Int) := by omega
      go_wp2_with fail
      go_quiet (fail)
      go_wp2
      go_roundw
      case rel => exact ⟨k + 1, by omega, by go_num, below_drewN hbw⟩
      case measure => simp [intOf]; omega
    · have hke : k = l.length := by omega
      subst hke
      have hge : ¬ ((l.length : Int) < (l.length : Int)) := by omega
      go_wp2
      go_ret
      exact ⟨rfl, hbw⟩

/-- the mark of a bool -/
def mb (k j : Nat) : Bool := ((k + j : Nat) : Int) % 3 == 0

theorem setB_marks (ys : List Value) (k i n : Nat) (hl : ys.length = n) (hi : i < n) (b : Bool) (hb : b = mb k i) (hm : ∀ j, j < i → ys[j]? = some (.bool (mb k j))) : ∀ j, j < i + 1 → (ys.set i (.bool b))[j]? = some (.bool (mb k j)) := by
  intro j hj
  rw [List.getElem?_set]
  by_cases h : i = j
  · subst h
    rw [if_pos rfl, if_pos (by omega), hb]
  · rw [if_neg h]
    exact hm j (by omega)

set_option maxRecDepth 100000 in
set_option maxHeartbeats 4000000 in
theorem markEM_any (B n k : Nat) (v : Value) (xs : List Value) (w : World) (hown : w.ownsRow B 4 1 v n xs) (hn : n ≤ 2097152) (hk2 : k ≤ 100000000) :
    Calls Try.prog 36 #[v, .int .i64 k] w fun e w' => e = .returned (.int .i64 ((k + n : Nat) : Int)) ∧ (∃ ys, w'.ownsRow B 4 1 v n ys ∧ ∀ j, j < n → ys[j]? = some (.bool (mb k j))) ∧ w.grownBy w' v.ownBlock := by
  by_cases hn0 : n = 0
  · subst hn0
    obtain ⟨ao, cap, hv⟩ : ∃ ao cap, v = Value.slice ao 0 cap := by
      rcases hown.2 with ⟨rfl, _⟩ | ⟨g, cap, _, rfl, _⟩
      · exact ⟨_, _, rfl⟩
      · exact ⟨_, _, rfl⟩
    subst hv
    have HO : Hid (w.ownsRow B 4 1 (.slice ao 0 cap) 0 xs) := hown
    clear hown
    go_enter Try.func36, Try.ntmps36
    go_wp2
    go_loopw [1, 5] (fun vk vi wr => vk = .int .i64 (k : Int) ∧ vi = .int .i64 0 ∧ wr = w) (fun _ _ _ => 0)
    case atStart => exact ⟨rfl, rfl, rfl⟩
    case round =>
      obtain ⟨rfl, rfl, rfl⟩ := hrel
      go_wp2
      go_ret
      exact ⟨by simp, ⟨xs, HO.out, fun j hj => by omega⟩, grow_belowE (Below.refl _ _)⟩
  · obtain ⟨g, cap, hv⟩ := Joins.ownsRow_form hown (by omega)
    subst hv
    go_enter Try.func36, Try.ntmps36
    go_wp2
    go_loopw [1, 5] (fun vk vi wr => ∃ (i : Nat) (ys : List Value), i ≤ n ∧ vi = .int .i64 (i : Int) ∧ vk = .int .i64 ((k + i : Nat) : Int) ∧ wr.ownsRow B 4 1 (.slice (some ⟨g, 0, none⟩) n cap) n ys ∧ Hid (∀ j, j < i → ys[j]? = some (.bool (mb k j))) ∧ w.grownBy wr (some g))
      (fun _ vi _ => n - (intOf vi).toNat)
    case atStart => exact ⟨0, xs, by omega, rfl, by simp, hown, fun j hj => by omega, grow_belowE (Below.refl _ _)⟩
    case round =>
      obtain ⟨i, ys, hi, rfl, rfl, how, hm, hbw0⟩ := hrel
      have HBW : Hid (w.grownBy wr (some g)) := hbw0
      clear hbw0
      have hyl : ys.length = n := by have := how.1; omega
      clear hown
      by_cases hlt : i < n
      · have hlt' : (i : Int) < (n : Int) := by omega
        have q0 := how.cellAt i (by omega)
        rw [List.getElem?_eq_getElem (by omega)] at q0
        have z0 := how.frozenAt i
        generalize ys[i] = a0 at q0
        obtain ⟨kk, hkk⟩ : ∃ kk, kk = k + i := ⟨_, rfl⟩
        have HKK : Hid (kk = k + i) := hkk
        rw [← hkk]
        have hk3 : kk ≤ 200000000 := by omega
        clear hkk
        have how6 := (how.stored i (.bool (((kk : Nat) : Int) % 3 == 0))).1
        have HM : Hid (∀ j, j < i + 1 → (ys.set i (.bool (((kk : Nat) : Int) % 3 == 0)))[j]? = some (.bool (mb k j))) := setB_marks ys k i n hyl hlt _ (by rw [HKK.out]; rfl) hm.out
        generalize ys.set i (Value.bool (((kk : Nat) : Int) % 3 == 0)) = zs at how6 HM
        clear how hm
        go_wp2
        go_roundw
        case rel => exact ⟨i + 1, zs, by omega, by go_num, by have := HKK.out; go_num, how6, HM, Lib.grownBy_trans HBW.out (Lib.grownBy_setCell _ g i _)⟩
        case measure => simp [intOf]; omega
      · have hke : i = n := by omega
        subst hke
        have hge : ¬ ((i : Int) < (i : Int)) := by omega
        go_wp2
        go_ret
        exact ⟨rfl, ⟨ys, how, hm.out⟩, HBW.out⟩

set_option maxRecDepth 100000 in
set_option maxHeartbeats 4000000 in
theorem heldEM_any (B n k : Nat) (v : Value) (ys : List Value) (w : World) (hown : w.ownsRow B 4 1 v n ys) (hm : ∀ j, j < n → ys[j]? = some (.bool (mb k j))) (hn : n ≤ 2097152) (hk2 : k ≤ 100000000) :
    Calls Try.prog 37 #[v, .int .i64 k] w fun e w' => e = .returned (.int .i64 ((k + n : Nat) : Int)) ∧ Below w.heap.size w w' := by
  obtain ⟨ao, cap, hv⟩ : ∃ ao cap, v = Value.slice ao n cap := by
    rcases hown.2 with ⟨rfl, h0⟩ | ⟨g, cap, _, rfl, _⟩
    · exact ⟨none, 0, by rw [h0]⟩
    · exact ⟨_, _, rfl⟩
  subst hv
  have HROW : Hid (∀ i, i < n → ∃ g, ao = some ⟨g, 0, none⟩ ∧ g < w.heap.size ∧ w.cell? ⟨g, i, none⟩ = some (.bool (mb k i))) := fun i hi => by
    obtain ⟨g, c, hv⟩ := Joins.ownsRow_form hown (by omega)
    simp only [Value.slice.injEq, true_and] at hv
    obtain ⟨rfl, rfl⟩ := hv
    refine ⟨g, rfl, (World.ownsRow.lt hown g rfl).2, ?_⟩
    rw [World.ownsRow.cellAt hown i (by omega)]
    exact hm i hi
  clear hown hm
  go_enter Try.func37, Try.ntmps37
  go_wp2
  go_loopw [1, 5] (fun vk vi wr => ∃ (i : Nat), i ≤ n ∧ vi = .int .i64 (i : Int) ∧ vk = .int .i64 ((k + i : Nat) : Int) ∧ Below w.heap.size w wr)
    (fun _ vi _ => n - (intOf vi).toNat)
  case atStart => exact ⟨0, by omega, rfl, by simp, Below.refl _ _⟩
  case round =>
    obtain ⟨i, hi, rfl, rfl, hbw⟩ := hrel
    by_cases hlt : i < n
    · have hlt' : (i : Int) < (n : Int) := by omega
      obtain ⟨g, rfl, hg, c⟩ := HROW.out i hlt
      have e1 := (hbw.cell (p := ⟨g, i, none⟩) hg).trans c
      obtain ⟨kk, hkk⟩ : ∃ kk, kk = k + i := ⟨_, rfl⟩
      have HKK : Hid (kk = k + i) := hkk
      unfold mb at e1
      rw [← hkk] at e1
      rw [← hkk]
      have hk3 : kk ≤ 200000000 := by omega
      clear hkk c
      obtain ⟨bb, hbb⟩ : ∃ bb, bb = (((kk : Nat) : Int) % 3 == 0) := ⟨_, rfl⟩
      rw [← hbb] at e1
      have hbb' : (((kk : Nat) : Int) % 3 == 0) = bb := hbb.symm
      have hne : (bb != bb) = false := by simp
      clear hbb
      go_wp2_with fail
      first
        | (go_quiet (fail)
           go_wp2
           go_roundw
           case rel => exact ⟨i + 1, by omega, by go_num, by have := HKK.out; go_num, below_drewN hbw⟩
           case measure => simp [intOf]; omega)
        | (go_wp2
           go_roundw
           case rel => exact ⟨i + 1, by omega, by go_num, by have := HKK.out; go_num, hbw⟩
           case measure => simp [intOf]; omega)
    · have hke : i = n := by omega
      subst hke
      have hge : ¬ ((i : Int) < (i : Int)) := by omega
      go_wp2
      go_ret
      exact ⟨rfl, hbw⟩

end Go.Proofs.Ytnlppeieccbhgaa
