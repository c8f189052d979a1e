/- Copies of machines; whether two machines are alike. -/
import Derived.Test.YtfkhbbmnjndmcaaMcM
import Derived.Deep.DeepCutAuto
namespace Go.Proofs.Ytfkhbbmnjndmcaa
open Go.RowKit Plain Mch

theorem setE_eq (ys : List Value) (l : List Bool) (i : Nat) (x : Bool) (hl : ys.length = l.length) (hi : i < l.length) (hx : en l i = x) (hm : ∀ m, m < i → ys[m]? = (bols l)[m]?) : ∀ m, m < i + 1 → (ys.set i (.bool x))[m]? = (bols l)[m]? := by
  intro m hmi
  rw [List.getElem?_set]
  by_cases h : i = m
  · subst h
    rw [if_pos rfl, if_pos (by omega)]
    simp [bols, en_at hi, hx]
  · rw [if_neg h]
    exact hm m (by omega)

theorem Try.infoBo : (Try.prog.info? 4).map (fun i => (i.zero, i.size, i.bytes)) = some (some (.bool false), 1, 1) := by kernel_rfl
theorem Try.infoZs : (Try.prog.info? 22).map (fun i => (i.zero, i.size, i.bytes)) = some (some (.slice none 0 0), 1, 24) := by kernel_rfl

set_option maxRecDepth 100000 in
set_option maxHeartbeats 4000000 in
theorem toBoolS_any (l : List Bool) (v : Value) (w : World) (hT : EAt w w.heap.size v l) (hl : l.length ≤ 1048576) :
    Calls Try.prog 26 #[v] w fun e w' => ∃ r, e = .returned r ∧ ERow w' w.heap.size r l ∧ Below w.heap.size w w' := by
  obtain ⟨i0, hi, hz0, hz1, hz2⟩ := info_parts Try.infoBo
  obtain ⟨ao, cap, rfl, _, hmax, hrow⟩ := hT
  have HROW : Hid (∀ i, i < l.length → ∃ g o, ao = some ⟨g, o, none⟩ ∧ g < w.heap.size ∧ w.cell? ⟨g, o + i, none⟩ = some (.bool (en l i))) := hrow
  clear hrow
  obtain ⟨M, hM⟩ : ∃ M, M = madeCells (Value.bool false).cells (((l.length : Nat) : Int).toNat * i0.size) := ⟨_, rfl⟩
  have hMs : M.size = l.length * 1 := by rw [hM, size_madeCells, hz1]; simp
  have hmk : ∀ W : World, (Instr.makeSlice 37 (.int .i64 (l.length : Int)) (.int .i64 (l.length : Int))).run Try.prog W = .ok (.slice (some ⟨W.heap.size, 0, none⟩) l.length l.length) (W.alloc (.cells M 4)) := fun W => by
    have h := run_make (P := Try.prog) W 37 4 i0 (.bool false) Try.underlying37 hi hz0 .i64 .i64 (l.length : Int) (l.length : Int) (by omega) (by omega) (by rw [hz2]; omega) (by omega)
    rw [← hM] at h
    simpa using h
  have hown0 : (w.alloc (.cells M 4)).ownsRow w.heap.size 4 1 (.slice (some ⟨w.heap.size, 0, none⟩) l.length l.length) l.length M.toList :=
    ⟨by simp [hMs], .inr ⟨w.heap.size, l.length, M, rfl, Nat.le_refl _, heap_alloc_new w _, Nat.le_refl _, by unfold maxLen; omega, hMs, by rw [List.take_of_length_le (by simp [hMs])]⟩⟩
  clear hM
  go_enter Try.func26, Try.ntmps26
  go_wp2
  go_loopw [4] (fun vi wr => ∃ (i : Nat) (ys : List Value), i ≤ l.length ∧ vi = .int .i64 (i : Int) ∧ wr.ownsRow w.heap.size 4 1 (.slice (some ⟨w.heap.size, 0, none⟩) l.length l.length) l.length ys ∧ Hid (∀ m, m < i → ys[m]? = (bols l)[m]?) ∧ Below w.heap.size w wr)
    (fun vi _ => l.length - (intOf vi).toNat)
  case atStart => exact ⟨0, M.toList, by omega, rfl, hown0, fun m hm => by omega, (Below.refl _ w).alloc (Nat.le_refl _) _⟩
  case round =>
    obtain ⟨i, ys, hil, rfl, hown, hys, hbw⟩ := hrel
    clear hown0 hmk
    have hyl : ys.length = l.length := by have := hown.1; omega
    by_cases hlt : i < l.length
    · have hlt' : (i : Int) < (l.length : Int) := by omega
      obtain ⟨x, hx⟩ : ∃ x, en l i = x := ⟨_, rfl⟩
      obtain ⟨g, o, rfl, hg, c⟩ := HROW.out i hlt
      rw [hx] at c
      have e1 := (hbw.cell (p := ⟨g, o + i, none⟩) hg).trans c
      have hgs : g < wr.heap.size := by have := hbw.size; omega
      have q0 := hown.cellAt i (by omega)
      rw [List.getElem?_eq_getElem (by omega)] at q0
      have z0 := hown.frozenAt i
      have hsz : w.heap.size < wr.heap.size := (hown.lt w.heap.size rfl).2
      generalize ys[i] = a0 at q0
      have how6 := (hown.stored i (.bool x)).1
      have HM : Hid (∀ m, m < i + 1 → (ys.set i (.bool x))[m]? = (bols l)[m]?) := setE_eq ys l i x hyl hlt hx hys.out
      generalize ys.set i (Value.bool x) = zs at how6 HM
      clear hown hys c hx
      go_wp2
      go_roundw
      case rel => exact ⟨i + 1, zs, by omega, by go_num, how6, HM, hbw.setCell (p := ⟨w.heap.size, i, none⟩) (Nat.le_refl _) _⟩
      case measure => simp [intOf]; omega
    · have hke : i = l.length := by omega
      subst hke
      have hge : ¬ ((l.length : Int) < (l.length : Int)) := by omega
      have hE : Hid (ys = bols l) := List.ext_getElem? fun m => by
        by_cases hm : m < l.length
        · exact hys.out m hm
        · rw [List.getElem?_eq_none (by omega), List.getElem?_eq_none (by simp [bols]; omega)]
      clear hys
      go_wp2
      go_ret
      exact ⟨_, rfl, by unfold ERow; rw [← hE.out]; exact hown, hbw⟩

/-- rows that are being copied: the first i are there -/
def FillM (w : World) (gs : Nat) (M : List (List Int)) (ys : List Value) (i : Nat) : Prop :=
  (∀ m, m < i → ∃ u, ys[m]? = some u ∧ ZRow w (gs + 1) u (rx M m)) ∧ ∀ (m k : Nat) (um uk : Value), m < k → k < i → ys[m]? = some um → ys[k]? = some uk → ∀ g, um.ownBlock = some g → uk.ownBlock ≠ some g

theorem FillM.step {w w2 : World} {gs i : Nat} {M : List (List Int)} {ys : List Value} {u : Value} (h : FillM w gs M ys i) (hb : Below w.heap.size w w2) (hq : ZRow w2 w.heap.size u (rx M i)) (hg : gs < w.heap.size) (hi : i < ys.length) : FillM (w2.setCell ⟨gs, i, none⟩ u) gs M (ys.set i u) (i + 1) := by
  have old : ∀ m, m < i → ∃ u', (ys.set i u)[m]? = some u' ∧ ZRow w (gs + 1) u' (rx M m) := fun m hm => by
    obtain ⟨u', h1, h2⟩ := h.1 m hm
    exact ⟨u', by rw [List.getElem?_set_ne (by omega)]; exact h1, h2⟩
  refine ⟨fun m hm => ?_, fun m k um uk hmk hk e1 e2 g hg1 hg2 => ?_⟩
  · by_cases e : m = i
    · subst e
      refine ⟨u, by rw [List.getElem?_set_self hi], ?_⟩
      exact own_lowerM (ownsRow_setCell_below hq (a := ⟨gs, m, none⟩) hg _) hg
    · obtain ⟨u', h1, h2⟩ := old m (by omega)
      refine ⟨u', h1, ?_⟩
      exact ownsRow_setCell_below (h2.below hb) (a := ⟨gs, i, none⟩) (by show gs < gs + 1; omega) _
  · by_cases e : k = i
    · subst e
      rw [List.getElem?_set_self hi] at e2
      simp at e2
      subst e2
      obtain ⟨u', h1, h2⟩ := old m hmk
      rw [h1] at e1
      simp at e1
      subst e1
      have a1 := (World.ownsRow.lt h2 g hg1).2
      have a2 := (World.ownsRow.lt hq g hg2).1
      omega
    · rw [List.getElem?_set_ne (by omega)] at e1 e2
      exact h.2 m k um uk hmk (by omega) e1 e2 g hg1 hg2

/-- the rows of an own machine lie between the bound and the heap's end -/
theorem MOwn.rows {w : World} {B : Nat} {v : Value} {M : List (List Int)} {us : List Value} (h : MOwn w B v M us) : ∀ u ∈ us, ∀ g, u.ownBlock = some g → B ≤ g ∧ g < w.heap.size := fun u hu g hg => by
  obtain ⟨i, hi, he⟩ := List.getElem_of_mem hu
  have hil : i < M.length := by have := h.1.1; omega
  obtain ⟨u', hu', hq, _⟩ := h.2.1 i hil
  rw [List.getElem?_eq_getElem hi, he] at hu'
  simp at hu'
  subst hu'
  exact World.ownsRow.lt hq g hg

theorem results_cellM {fn : Func} {p : Tmp} {ty : TypeId} (h : fn.results = #[.cell p ty]) (tmps : Array Value) (P : Program) (w : World) :
    (results fn tmps).run P w = ((asAddr (tmps.getD p undef)).run P w).andThen fun a w₁ => (loadVar ty a).run P w₁ := by
  simp only [results, h]
  simp [Sem.run_bind, Result.andThen]

theorem results_cell_tmpM {fn : Func} {p u : Tmp} {ty : TypeId} (h : fn.results = #[.cell p ty, .tmp u]) (tmps : Array Value) (P : Program) (w : World) :
    (results fn tmps).run P w =
      ((asAddr (tmps.getD p undef)).run P w).andThen fun a w₁ => ((loadVar ty a).run P w₁).andThen fun x w₂ => .ok (.tuple #[x, tmps.getD u undef]) w₂ := by
  simp only [results, h]
  simp [Sem.run_bind, Result.andThen]

theorem MOwn.setCell {w : World} {B : Nat} {v : Value} {M : List (List Int)} {us : List Value} (h : MOwn w B v M us) {a : Addr} (ha : a.block < B) (x : Value) : MOwn (w.setCell a x) B v M us := by
  refine ⟨ownsRow_setCell_below h.1 ha _, fun i hi => ?_, h.2.2⟩
  obtain ⟨u, k1, k2, k3⟩ := h.2.1 i hi
  exact ⟨u, k1, ownsRow_setCell_below k2 ha _, k3⟩

theorem MOwn.lower {w : World} {B B' : Nat} {v : Value} {M : List (List Int)} {us : List Value} (h : MOwn w B v M us) (hB : B' ≤ B) : MOwn w B' v M us := by
  refine ⟨own_lowerM h.1 hB, fun i hi => ?_, h.2.2⟩
  obtain ⟨u, k1, k2, k3⟩ := h.2.1 i hi
  exact ⟨u, k1, own_lowerM k2 hB, k3⟩

theorem MaOwn.setCell {w : World} {B : Nat} {v e : Value} {M : List (List Int)} {E : List Bool} {us : List Value} (h : MaOwn w B v e M E us) {a : Addr} (ha : a.block < B) (x : Value) : MaOwn (w.setCell a x) B v e M E us :=
  ⟨h.1.setCell ha x, ownsRow_setCell_below h.2.1 ha _, h.2.2⟩

theorem MaOwn.lower {w : World} {B B' : Nat} {v e : Value} {M : List (List Int)} {E : List Bool} {us : List Value} (h : MaOwn w B v e M E us) (hB : B' ≤ B) : MaOwn w B' v e M E us :=
  ⟨h.1.lower hB, own_lowerM h.2.1 hB, h.2.2⟩

end Go.Proofs.Ytfkhbbmnjndmcaa
