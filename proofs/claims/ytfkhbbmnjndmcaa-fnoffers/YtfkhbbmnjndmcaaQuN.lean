/- What offer and hand turn: the queue under way, its marks, nothing else. -/
import Derived.Test.YtfkhbbmnjndmcaaQuO
namespace Go.Proofs.Ytfkhbbmnjndmcaa
open Go.RowKit Plain Qus

/-- nothing but block b and the marks' row turns; the marks' row stays or is new -/
structure Lt (w w' : World) (b : Nat) (vm vm' : Value) : Prop where
  os : w'.os = w.os
  tape : w'.tape = w.tape
  output : w'.output = w.output
  size : w.heap.size ≤ w'.heap.size
  block : ∀ j, j < w.heap.size → j ≠ b → vm.ownBlock ≠ some j → w'.heap[j]? = w.heap[j]?
  new : ∀ g, vm'.ownBlock = some g → vm.ownBlock = some g ∨ w.heap.size ≤ g

theorem Lt.of_below {w w' : World} {b : Nat} {vm : Value} (h : Below w.heap.size w w') : Lt w w' b vm vm := ⟨h.os, h.tape, h.output, h.size, fun j hj _ _ => h.block j hj, fun _ h => .inl h⟩
theorem Lt.trans {w w1 w2 : World} {b : Nat} {vm v1 v2 : Value} (h : Lt w w1 b vm v1) (h' : Lt w1 w2 b v1 v2) : Lt w w2 b vm v2 := by
  refine ⟨h'.os.trans h.os, h'.tape.trans h.tape, h'.output.trans h.output, Nat.le_trans h.size h'.size, fun j hj h1 h2 => ?_, fun g hg => ?_⟩
  · refine (h'.block j (Nat.lt_of_lt_of_le hj h.size) h1 (fun e => ?_)).trans (h.block j hj h1 h2)
    rcases h.new j e with e2 | e2
    · exact h2 e2
    · omega
  · rcases h'.new g hg with e | e
    · exact h.new g e
    · have := h.size; exact .inr (by omega)

theorem Lu.putT (w : World) (b g cap : Nat) (M : List Int) (i : Nat) (a : Int) : Lt w (w.setCell ⟨g, i, none⟩ (.int .i64 a)) b (.slice (some ⟨g, 0, none⟩) M.length cap) (.slice (some ⟨g, 0, none⟩) M.length cap) := by
  have hb := (Below.refl g w).setCell (p := ⟨g, i, none⟩) (Nat.le_refl _) (.int .i64 a)
  exact ⟨hb.os, hb.tape, hb.output, hb.size, fun j hj _ h2 => Below.heap_setCell _ _ _ _ (fun e => h2 (by rw [e]; rfl)), fun _ h => .inl h⟩

theorem Lu.appT {w W1 w9 : World} {B b g9 cap9 n : Nat} {c r : Int} {M : List Int} {vm u : Value} {o : Obj} (h : Lu w B b c r M vm) (hb : Below w.heap.size w W1)
    (hgrow9 : (W1.alloc o).grownBy w9 vm.ownBlock) (hat9 : vm.ownBlock = some g9 ∨ g9 = W1.heap.size + 1) :
    Lt w (w9.setCell ⟨b, 3, none⟩ u) b vm (.slice (some ⟨g9, 0, none⟩) n cap9) := by
  have hs1 := hb.size
  have hso : (W1.alloc o).heap.size = W1.heap.size + 1 := by simp
  have hbo : Below w.heap.size w (W1.alloc o) := hb.trans (((Below.refl _ W1).alloc (Nat.le_refl _) o).mono hs1)
  have hgs := hgrow9.size
  have hset := (Below.refl b w9).setCell (p := ⟨b, 3, none⟩) (Nat.le_refl _) u
  refine ⟨hset.os.trans (hgrow9.os.trans hbo.os), hset.tape.trans (hgrow9.tape.trans hbo.tape), hset.output.trans (hgrow9.output.trans hbo.output), by simp; omega, fun j hj h1 h2 => ?_, fun g hg => ?_⟩
  · rw [Below.heap_setCell _ _ _ _ h1]
    exact (hgrow9.block j (by omega) (fun e => h2 e.symm)).trans (hbo.block j hj)
  · simp [Value.ownBlock] at hg
    subst hg
    rcases hat9 with e | e
    · exact .inl e
    · have := h.hi; exact .inr (by omega)

set_option maxRecDepth 100000 in
set_option maxHeartbeats 4000000 in
theorem handT (B b : Nat) (c r : Int) (M : List Int) (vm : Value) (w : World) (h : Lu w B b c r M vm) (hl : M.length ≤ 100) :
    Calls Try.prog 55 #[.pointer (some ⟨b, 0, none⟩)] w fun e w' => e = .returned (.tuple #[.int .i64 (hnM M).2.1, .bool (hnM M).2.2]) ∧ (∃ v9, Lu w' B b c r (hnM M).1 v9 ∧ Lt w w' b vm v9) ∧ Below B w w' := by
  have CO := oldestU B b c r M vm w h (by omega)
  have H : Hid (Lu w B b c r M vm) := h
  rcases fstM_nat M 1 with ⟨h1, _⟩ | ⟨i, hi, h1, _, _⟩
  · have hH : hnM M = (M, 0, false) := by unfold hnM; rw [h1, if_pos (by decide)]
    rw [hH]
    rw [h1] at CO
    clear h h1 hH
    go_enter Try.func55, Try.ntmps55
    go_wp2_with fail
    go_at_call 65
    refine CO.mono ?_
    rintro e w1 ⟨rfl, hw⟩
    have hw := hw.symm
    subst hw
    go_wp2_with fail
    go_ret2
    exact ⟨rfl, ⟨_, H.out, Lt.of_below (Below.refl _ _)⟩, Below.refl _ _⟩
  · have hH : hnM M = (M.set i 2, (i : Int), true) := by unfold hnM; rw [h1, if_neg (by omega), Int.toNat_natCast]
    rw [hH]
    rw [h1] at CO
    obtain ⟨g, cap, hv, _, _, hc, hf, hlc, hcm⟩ := h.cell hi
    subst hv
    obtain ⟨hP, hPB⟩ := h.put i 2
    have hT := Lu.putT w b g cap M i 2
    have c3 := h.c3
    have HP : Hid (type_of% hP) := hP
    have HPB : Hid (type_of% hPB) := hPB
    have HT : Hid (type_of% hT) := hT
    unfold maxLen at hcm
    have hil : (i : Int) < (M.length : Int) := by omega
    generalize M.getD i 0 = y at hc
    have n0 : ¬ ((i : Int) < 0) := by omega
    clear h h1 hH hP hPB hT
    go_enter Try.func55, Try.ntmps55
    go_wp2_with fail
    go_at_call 65
    refine CO.mono ?_
    rintro e w1 ⟨rfl, hw⟩
    have hw := hw.symm
    subst hw
    go_wp2_with fail
    go_ret2
    exact ⟨rfl, ⟨_, HP.out, HT.out⟩, HPB.out⟩

end Go.Proofs.Ytfkhbbmnjndmcaa
