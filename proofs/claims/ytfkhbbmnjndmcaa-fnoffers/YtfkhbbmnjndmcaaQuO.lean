/- The program's offer and hand. -/
import Derived.Test.YtfkhbbmnjndmcaaQuS
import Derived.Deep.RegionWith
namespace Go.Proofs.Ytfkhbbmnjndmcaa
open Go.RowKit Plain Qus

/-- one mark more, in memory -/
theorem Lu.app {w W1 w9 : World} {B b g9 cap9 : Nat} {c r x : Int} {M : List Int} {vm : Value} {o : Obj} (h : Lu w B b c r M vm) (hb : Below w.heap.size w W1)
    (hown9 : w9.ownsRow B 3 1 (.slice (some ⟨g9, 0, none⟩) (M.length + 1) cap9) (M.length + 1) (zints M ++ [.int .i64 x])) (hgrow9 : (W1.alloc o).grownBy w9 vm.ownBlock) (hat9 : vm.ownBlock = some g9 ∨ g9 = W1.heap.size + 1) (hB : B ≤ w.heap.size) :
    Lu (w9.setCell ⟨b, 3, none⟩ (.slice (some ⟨g9, 0, none⟩) (M.length + 1) cap9)) B b c r (M ++ [x]) (.slice (some ⟨g9, 0, none⟩) (M.length + 1) cap9) ∧ Below B w (w9.setCell ⟨b, 3, none⟩ (.slice (some ⟨g9, 0, none⟩) (M.length + 1) cap9)) := by
  have h1 := h.below hb
  have hbo : Below W1.heap.size W1 (W1.alloc o) := (Below.refl _ W1).alloc (Nat.le_refl _) o
  have h2 := h1.below hbo
  have hs1 := hb.size
  have hso : (W1.alloc o).heap.size = W1.heap.size + 1 := by simp
  have hlo := h.lo
  have hhi := h.hi
  have hblk := hgrow9.block b h2.hi (fun e => h.ap e.symm)
  have hrow : ZRow w9 B (.slice (some ⟨g9, 0, none⟩) (M.length + 1) cap9) (M ++ [x]) := ZRow.snocQ hown9
  have hcc : ∀ k, w9.cell? ⟨b, k, none⟩ = (W1.alloc o).cell? ⟨b, k, none⟩ := fun k => by simp only [World.cell?, hblk]
  have hff : ∀ k, w9.frozen? ⟨b, k, none⟩ = (W1.alloc o).frozen? ⟨b, k, none⟩ := fun k => by simp only [World.frozen?, hblk]
  have hg9 : g9 ≠ b := fun e => by
    rcases hat9 with e2 | e2
    · exact h.ap (by rw [e2, e])
    · omega
  have hBw9 : Below B w w9 := by
    refine (hb.mono hB).trans ?_
    refine (hbo.mono (by omega)).trans ?_
    exact ⟨hgrow9.os, hgrow9.tape, hgrow9.output, hgrow9.size, fun j hj => hgrow9.block j (by omega) (fun e => by have := (World.ownsRow.lt h.row j e.symm).1; omega)⟩
  refine ⟨⟨hlo, ?_, ?_, ?_, ?_, ?_, ?_, own_setCellQ hrow b 3 _ (fun g hg => by simp [Value.ownBlock] at hg; omega), by simp [Value.ownBlock]; omega⟩, hBw9.setCell (p := ⟨b, 3, none⟩) hlo _⟩
  · have := hgrow9.size
    simp
    have := h2.hi
    omega
  · rw [World.cell?_setCell_other _ _ _ _ (by simp), hcc]; exact h2.c0
  · rw [World.cell?_setCell_other _ _ _ _ (by simp), hcc]; exact h2.c1
  · rw [World.cell?_setCell_other _ _ _ _ (by simp), hcc]; exact h2.c2
  · exact World.cell?_setCell_same _ _ _ ((hcc 3).trans h2.c3)
  · rw [World.frozen?_setCell]; exact (hff 3).trans h2.f3

theorem Lu.putAny {w : World} {B b : Nat} {c r : Int} {M : List Int} {vm : Value} (h : Lu w B b c r M vm) {i : Nat} (hi : i < M.length) (a : Int) : ∃ g cap, vm = Value.slice (some ⟨g, 0, none⟩) M.length cap ∧ w.cell? ⟨g, i, none⟩ = some (.int .i64 (M.getD i 0)) ∧ w.frozen? ⟨g, i, none⟩ = false ∧ M.length ≤ cap ∧ cap ≤ maxLen ∧ Lu (w.setCell ⟨g, i, none⟩ (.int .i64 a)) B b c r (M.set i a) vm ∧ Below B w (w.setCell ⟨g, i, none⟩ (.int .i64 a)) := by
  obtain ⟨g, cap, hv, _, _, hc, hf, h1, h2⟩ := h.cell hi
  subst hv
  obtain ⟨p1, p2⟩ := h.put i a
  exact ⟨g, cap, rfl, hc, hf, h1, h2, p1, p2⟩

set_option maxRecDepth 100000 in
set_option maxHeartbeats 4000000 in
theorem handU (B b : Nat) (c r : Int) (M : List Int) (vm : Value) (w : World) (h : Lu w B b c r M vm) (hl : M.length ≤ 100) :
    Calls Try.prog 55 #[.pointer (some ⟨b, 0, none⟩)] w fun e w' => e = .returned (.tuple #[.int .i64 (hnM M).2.1, .bool (hnM M).2.2]) ∧ (∃ v9, Lu w' B b c r (hnM M).1 v9) ∧ Below B w w' := by
  have CO := oldestU B b c r M vm w h (by omega)
  have H : Hid (Lu w B b c r M vm) := h
  rcases fstM_nat M 1 with ⟨h1, _⟩ | ⟨i, hi, h1, _, _⟩
  · have hH : hnM M = (M, 0, false) := by unfold hnM; rw [h1, if_pos (by decide)]
    rw [hH]
    rw [h1] at CO
    clear h h1 hH
    go_enter Try.func55, Try.ntmps55
    go_wp2_with fail
    go_at_call 65
    refine CO.mono ?_
    rintro e w1 ⟨rfl, hw⟩
    have hw := hw.symm
    subst hw
    go_wp2_with fail
    go_ret2
    exact ⟨rfl, ⟨_, H.out⟩, Below.refl _ _⟩
  · have hH : hnM M = (M.set i 2, (i : Int), true) := by unfold hnM; rw [h1, if_neg (by omega), Int.toNat_natCast]
    rw [hH]
    rw [h1] at CO
    obtain ⟨g, cap, hv, hc, hf, hlc, hcm, hP, hPB⟩ := h.putAny hi 2
    have c3 := h.c3
    have HP : Hid (type_of% hP) := hP
    have HPB : Hid (type_of% hPB) := hPB
    unfold maxLen at hcm
    have hil : (i : Int) < (M.length : Int) := by omega
    generalize M.getD i 0 = y at hc
    have n0 : ¬ ((i : Int) < 0) := by omega
    clear h h1 hH hP hPB
    subst hv
    go_enter Try.func55, Try.ntmps55
    go_wp2_with fail
    go_at_call 65
    refine CO.mono ?_
    rintro e w1 ⟨rfl, hw⟩
    have hw := hw.symm
    subst hw
    go_wp2_with fail
    go_ret2
    exact ⟨rfl, ⟨_, HP.out⟩, HPB.out⟩

end Go.Proofs.Ytfkhbbmnjndmcaa
