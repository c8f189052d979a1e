/- The program's numbers that only rise; what is on its way: put behind, looked at. -/
import Derived.Test.YtnlppeieccbhgaaSnS
import Derived.Laws.LoneSync
import Derived.Deep.RegionLaw
namespace Go.Proofs.Ytnlppeieccbhgaa
open Go.RowKit Plain Tpc Ssn

set_option maxRecDepth 100000 in
set_option maxHeartbeats 4000000 in
theorem load64_any (b o : Nat) (x : Int) (w : World) (hc : w.cell? ⟨b, o, none⟩ = some (.int .i64 x)) : Calls Try.prog 107 #[.pointer (some ⟨b, o, none⟩)] w fun e w' => e = .returned (.int .i64 x) ∧ w' = w := by
  have hd := run_call_load (P := Try.prog) Try.func116 (by kernel_rfl) (by kernel_rfl) (by kernel_rfl) .i64 (by kernel_rfl) hc
  go_enter Try.func107, Try.ntmps107
  go_wp2
  go_ret
  exact ⟨rfl, rfl⟩

set_option maxRecDepth 100000 in
set_option maxHeartbeats 4000000 in
theorem store64_any (b o : Nat) (x y : Int) (w : World) (hc : w.cell? ⟨b, o, none⟩ = some (.int .i64 x)) (hz : w.frozen? ⟨b, o, none⟩ = false) : Calls Try.prog 111 #[.pointer (some ⟨b, o, none⟩), .int .i64 y] w fun e w' => e = .returned (.tuple #[]) ∧ w' = w.setCell ⟨b, o, none⟩ (.int .i64 y) := by
  have hd := run_call_store (P := Try.prog) Try.func117 (by kernel_rfl) (by kernel_rfl) (by kernel_rfl) (by kernel_rfl) (k := .i64) (y := y) hc hz
  go_enter Try.func111, Try.ntmps111
  go_wp2
  go_end0
  exact ⟨rfl, rfl⟩

set_option maxRecDepth 100000 in
set_option maxHeartbeats 4000000 in
theorem add64_any (b o : Nat) (x : Int) (w : World) (hc : w.cell? ⟨b, o, none⟩ = some (.int .i64 x)) (hz : w.frozen? ⟨b, o, none⟩ = false) (h1 : -1000000 ≤ x) (h2 : x ≤ 1000000) : Calls Try.prog 118 #[.pointer (some ⟨b, o, none⟩), .int .i64 1] w fun e w' => w' = w.setCell ⟨b, o, none⟩ (.int .i64 (x + 1)) ∧ e = .returned (.int .i64 (x + 1)) := by
  have hw : IntKind.i64.wrap (x + 1) = x + 1 := by rw [IntKind.wrap_i64]; omega
  have hd := run_call_add (P := Try.prog) Try.func121 (by kernel_rfl) (by kernel_rfl) (by kernel_rfl) .i64 (by kernel_rfl) (y := 1) (s := x + 1) hc hz (by simp [go_sem, hw]; try rfl)
  clear hw
  go_enter Try.func118, Try.ntmps118
  go_wp2
  go_ret
  exact ⟨rfl, rfl⟩

set_option maxRecDepth 100000 in
set_option maxHeartbeats 4000000 in
theorem now_any (b o : Nat) (x : Int) (w : World) (hc : w.cell? ⟨b, o, none⟩ = some (.int .i64 x)) : Calls Try.prog 80 #[.pointer (some ⟨b, o, none⟩)] w fun e w' => e = .returned (.int .i64 x) ∧ w' = w := by
  have C := load64_any b o x w hc
  go_enter Try.func80, Try.ntmps80
  go_wp2_with fail
  go_at_call 107
  refine C.mono ?_
  rintro e w2 ⟨rfl, rfl⟩
  go_wp2_with fail
  go_ret
  exact ⟨rfl, rfl⟩

set_option maxRecDepth 100000 in
set_option maxHeartbeats 4000000 in
theorem rise_any (b o : Nat) (x : Int) (w : World) (hc : w.cell? ⟨b, o, none⟩ = some (.int .i64 x)) (hz : w.frozen? ⟨b, o, none⟩ = false) (h1 : -1000000 ≤ x) (h2 : x ≤ 1000000) : Calls Try.prog 112 #[.pointer (some ⟨b, o, none⟩)] w fun e w' => e = .returned (.tuple #[]) ∧ w' = w.setCell ⟨b, o, none⟩ (.int .i64 (x + 1)) := by
  have C := add64_any b o x w hc hz h1 h2
  go_enter Try.func112, Try.ntmps112
  go_wp2_with fail
  go_at_call 118
  refine C.mono ?_
  rintro e w2 ⟨rfl, rfl⟩
  go_wp2_with fail
  go_end0
  exact ⟨rfl, rfl⟩

set_option maxRecDepth 100000 in
set_option maxHeartbeats 4000000 in
theorem raiseTo_any (b o : Nat) (x n : Int) (w : World) (hc : w.cell? ⟨b, o, none⟩ = some (.int .i64 x)) (hz : w.frozen? ⟨b, o, none⟩ = false) : Calls Try.prog 98 #[.pointer (some ⟨b, o, none⟩), .int .i64 n] w fun e w' => e = .returned (.tuple #[]) ∧ w' = if x < n then w.setCell ⟨b, o, none⟩ (.int .i64 n) else w := by
  have CN := now_any b o x w hc
  have CS := store64_any b o x n w hc hz
  by_cases hx : x < n
  · rw [if_pos hx]
    go_enter Try.func98, Try.ntmps98
    go_wp2_with fail
    go_at_call 80
    refine CN.mono ?_
    rintro e w2 ⟨rfl, hw2⟩
    have hw2 := hw2.symm
    subst hw2
    go_wp2_with fail
    go_at_call 111
    refine CS.mono ?_
    rintro e w2 ⟨rfl, rfl⟩
    go_wp2_with fail
    go_end0
    exact ⟨rfl, rfl⟩
  · rw [if_neg hx]
    go_enter Try.func98, Try.ntmps98
    go_wp2_with fail
    go_at_call 80
    refine CN.mono ?_
    rintro e w2 ⟨rfl, rfl⟩
    go_wp2_with fail
    go_end0
    exact ⟨rfl, rfl⟩

/-- a session under way -/
def PX (e : Nat) (vi vw va : Value) : Nat → Prop := fun g => g = e ∨ P4 vi (.slice none 0 0) vw va g
structure Ex (w : World) (e B : Nat) (s : Ses) (vi vw va : Value) : Prop where
  v : Sv w e (.int .i64 s.ep) (.int .i64 s.base) (.int .i64 (s.handed.length : Int)) vi vw va
  r : SesRow w B { s with handed := [] } vi (.slice none 0 0) vw va
  n : ¬ P4 vi (.slice none 0 0) vw va e
  b : B ≤ e

theorem Ex.below {w w' : World} {e B : Nat} {s : Ses} {vi vw va : Value} (h : Ex w e B s vi vw va) (hb : Below w.heap.size w w') : Ex w' e B s vi vw va := ⟨h.v.below hb, h.r.below hb, h.n, h.b⟩

theorem drew_grown {w w9 : World} {r : Option Nat} (h : w.drew.grownBy w9 r) : w.grownBy w9 r := ⟨h.os, h.tape, h.output, h.size, h.block⟩

theorem Tch.px {w w' : World} {e : Nat} {vi vw va ui uw ua : Value} (h : Tch w w' (P4 vi (.slice none 0 0) vw va) (P4 ui (.slice none 0 0) uw ua)) : Tch w w' (PX e vi vw va) (PX e ui uw ua) :=
  ⟨h.os, h.tape, h.output, h.size, fun j hj hp => h.block j hj (fun q => hp (.inr q)), fun g hg => by
    rcases hg with hg | hg
    · exact .inl (.inl hg)
    · rcases h.new g hg with h1 | h1
      · exact .inl (.inr h1)
      · exact .inr h1⟩
theorem Tch.setE {w w' : World} {e k : Nat} {u vi vw va ui uw ua : Value} (h : Tch w w' (PX e vi vw va) (PX e ui uw ua)) : Tch w (w'.setCell ⟨e, k, none⟩ u) (PX e vi vw va) (PX e ui uw ua) :=
  ⟨h.os, h.tape, h.output, by simp; exact h.size, fun j hj hp => by rw [Below.heap_setCell _ _ _ _ (fun (q : j = e) => hp (.inl q))]; exact h.block j hj hp, h.new⟩

theorem putPk_end {w W1 w9 : World} {e B g9 cap9 : Nat} {s : Ses} {p : Pk} {vi vw va : Value} {o : Obj} (h : Ex w e B s vi vw va) (hb : Below w.heap.size w W1)
    (hown9 : w9.ownsRow B 84 3 (.slice (some ⟨g9, 0, none⟩) (s.way.length + 1) cap9) (s.way.length + 1) (s.way.flatMap Pk.cells ++ p.cells)) (hgrow9 : (W1.alloc o).drew.grownBy w9 vw.ownBlock) (hat9 : vw.ownBlock = some g9 ∨ g9 = W1.heap.size + 1) :
    Ex (w9.setCell ⟨e, 4, none⟩ (.slice (some ⟨g9, 0, none⟩) (s.way.length + 1) cap9)) e B { s with way := s.way ++ [p] } vi (.slice (some ⟨g9, 0, none⟩) (s.way.length + 1) cap9) va ∧ Tch w (w9.setCell ⟨e, 4, none⟩ (.slice (some ⟨g9, 0, none⟩) (s.way.length + 1) cap9)) (PX e vi vw va) (PX e vi (.slice (some ⟨g9, 0, none⟩) (s.way.length + 1) cap9) va) := by
  have h1 := h.below hb
  obtain ⟨r9, t9⟩ := SesRow.appY (x := p) h1.r hown9 rfl (drew_grown hgrow9) hat9
  have n9 := t9.avoid h1.v.low h1.n
  have v9 := h1.v.step t9 h1.n
  refine ⟨⟨v9.set4 _, ?_, n9, h.b⟩, ((Tch.of_below hb).trans t9.px).setE⟩
  exact SesRow.setC r9 n9

set_option maxRecDepth 100000 in
set_option maxHeartbeats 4000000 in
theorem putPk_any (s : Ses) (p : Pk) (e B : Nat) (vi vw va : Value) (w : World) (h : Ex w e B s vi vw va) (hl : s.way.length ≤ 12) :
    Calls Try.prog 103 #[.pointer (some ⟨e, 4, none⟩), .agg #[.int .i64 p.ep, .int .i64 p.no, .string p.tx]] w fun r w' => r = .returned (.bool (decide (s.way.length < 12))) ∧ ∃ v9, Ex w' e B (if s.way.length < 12 then { s with way := s.way ++ [p] } else s) vi v9 va ∧ Tch w w' (PX e vi vw va) (PX e vi v9 va) := by
  obtain ⟨i0, hi, hz0, hz1, hz2⟩ := info_parts Try.infoPk
  have HX : Hid (Ex w e B s vi vw va) := h
  have HROW := h.r.y
  obtain ⟨ar, cr, rfl, hlr, hcr⟩ := PkRow.slice HROW
  dsimp only at hlr hcr HROW
  obtain ⟨W1, hW1⟩ : ∃ W, W = w.alloc (.cells #[.int .i64 p.ep, .int .i64 p.no, .string p.tx] 84) := ⟨_, rfl⟩
  have hB1 : Below w.heap.size w W1 := by rw [hW1]; exact (Below.refl _ w).alloc (Nat.le_refl _) _
  have V := h.v.below hB1
  have x4 := V.c4
  have f4 := V.f4
  have hlow := V.low
  have HS1 : Hid (W1.heap.size = w.heap.size + 1) := by show _ = _; rw [hW1]; simp
  have hbB := h.b
  have hel := h.v.low
  have b0 : W1.cell? ⟨w.heap.size, 0, none⟩ = some (.int .i64 p.ep) := by rw [hW1]; go_simp
  have b1 : W1.cell? ⟨w.heap.size, 1, none⟩ = some (.int .i64 p.no) := by rw [hW1]; go_simp
  have b2 : W1.cell? ⟨w.heap.size, 2, none⟩ = some (.string p.tx) := by rw [hW1]; go_simp
  have HO1 : Hid (W1.ownsRow B 84 3 (.slice ar s.way.length cr) s.way.length (s.way.flatMap Pk.cells)) := own_belowY HROW hB1
  have HB1 : Hid (type_of% hB1) := hB1
  unfold maxLen at hcr
  clear V h HROW hB1
  by_cases h12 : s.way.length < 12
  · have h12' : ((s.way.length : Int) == 12) = false := by simp; omega
    rw [decide_eq_true h12, if_pos h12]
    have S1a : ∀ o, (W1.alloc o).drew.cell? ⟨e, 4, none⟩ = some (.slice ar s.way.length cr) := fun o => (((Below.refl W1.heap.size W1).alloc (Nat.le_refl _) o).drew.cell (p := ⟨e, 4, none⟩) hlow).trans x4
    have f1a : ∀ o, (W1.alloc o).drew.frozen? ⟨e, 4, none⟩ = false := fun o => (((Below.refl W1.heap.size W1).alloc (Nat.le_refl _) o).drew.frozen (p := ⟨e, 4, none⟩) hlow).trans f4
    have HNW : Hid (∀ o : Array Value, ∀ j u, o.toList[j]? = some u → (W1.alloc (.cells o 84)).drew.cell? ((⟨W1.heap.size, 0, none⟩ : Addr).add j) = some u) := fun o j u h => World.news_of_block (heap_alloc_new W1 (.cells o 84)) j u h
    have hne0 : some e ≠ (Value.slice ar s.way.length cr).ownBlock := fun q => HX.out.n (.inr (.inr (.inl q.symm)))
    go_enter Try.func103, Try.ntmps103
    go_upto_region 1 with fail
    rw [← hW1]
    clear hW1
    go_upto_region 3 with fail
    go_region_law
      (first
        | (refine step_append_lies _ rfl _ _ _ rfl B 84 i0 (.agg #[.int .i64 0, .int .i64 0, .string ⟨#[]⟩]) 3 32 Try.underlying23 hi hz0 hz1 hz2 rfl (by decide) _ s.way.length _ rfl ((HO1.out.alloc _).drew) ⟨W1.heap.size, 0, none⟩ 1 1 (Pk.cells p) rfl rfl (HNW.out _) (Pk.cells_one _) (by omega) (by unfold maxLen; omega) (by omega) (by simp; omega) (W1.heap.size + 1) (by simp) ?_; intro g9 cap9 w9 hown9 hgrow9 hat9 hlt9; have c9 : w9.cell? ⟨e, 4, none⟩ = some (.slice ar s.way.length cr) := (hgrow9.cell_far ⟨e, 4, none⟩ (by simp; omega) hne0).trans (S1a _); have z9 : w9.frozen? ⟨e, 4, none⟩ = false := (World.frozen?_of_block (hgrow9.block e (by simp; omega) hne0)).trans (f1a _)))
    all_goals
      have hend := putPk_end HX.out HB1.out hown9 hgrow9 hat9
      go_wp2_with fail
      go_ret
      exact ⟨rfl, _, hend⟩
  · have h12' : ((s.way.length : Int) == 12) = true := by simp; omega
    have h12e : s.way.length = 12 := by omega
    rw [decide_eq_false h12, if_neg h12]
    clear h12 h12e
    go_enter Try.func103, Try.ntmps103
    go_upto_region 1 with fail
    rw [← hW1]
    clear hW1
    go_wp2_with fail
    go_ret
    exact ⟨rfl, _, HX.out.below HB1.out, .of_below HB1.out⟩

theorem putAk_end {w W1 w9 : World} {e B g9 cap9 : Nat} {s : Ses} {p : Ak} {vi vw va : Value} {o : Obj} (h : Ex w e B s vi vw va) (hb : Below w.heap.size w W1)
    (hown9 : w9.ownsRow B 86 2 (.slice (some ⟨g9, 0, none⟩) (s.acks.length + 1) cap9) (s.acks.length + 1) (s.acks.flatMap Ak.cells ++ p.cells)) (hgrow9 : (W1.alloc o).drew.grownBy w9 va.ownBlock) (hat9 : va.ownBlock = some g9 ∨ g9 = W1.heap.size + 1) :
    Ex (w9.setCell ⟨e, 5, none⟩ (.slice (some ⟨g9, 0, none⟩) (s.acks.length + 1) cap9)) e B { s with acks := s.acks ++ [p] } vi vw (.slice (some ⟨g9, 0, none⟩) (s.acks.length + 1) cap9) ∧ Tch w (w9.setCell ⟨e, 5, none⟩ (.slice (some ⟨g9, 0, none⟩) (s.acks.length + 1) cap9)) (PX e vi vw va) (PX e vi vw (.slice (some ⟨g9, 0, none⟩) (s.acks.length + 1) cap9)) := by
  have h1 := h.below hb
  obtain ⟨r9, t9⟩ := SesRow.appA (x := p) h1.r hown9 rfl (drew_grown hgrow9) hat9
  have n9 := t9.avoid h1.v.low h1.n
  have v9 := h1.v.step t9 h1.n
  refine ⟨⟨v9.set5 _, ?_, n9, h.b⟩, ((Tch.of_below hb).trans t9.px).setE⟩
  exact SesRow.setC r9 n9

set_option maxRecDepth 100000 in
set_option maxHeartbeats 4000000 in
theorem putAk_any (s : Ses) (p : Ak) (e B : Nat) (vi vw va : Value) (w : World) (h : Ex w e B s vi vw va) (hl : s.acks.length ≤ 12) :
    Calls Try.prog 113 #[.pointer (some ⟨e, 5, none⟩), .agg #[.int .i64 p.ep, .int .i64 p.up]] w fun r w' => r = .returned (.bool (decide (s.acks.length < 12))) ∧ ∃ v9, Ex w' e B (if s.acks.length < 12 then { s with acks := s.acks ++ [p] } else s) vi vw v9 ∧ Tch w w' (PX e vi vw va) (PX e vi vw v9) := by
  obtain ⟨i0, hi, hz0, hz1, hz2⟩ := info_parts Try.infoAk
  have HX : Hid (Ex w e B s vi vw va) := h
  have HROW := h.r.a
  obtain ⟨ar, cr, rfl, hlr, hcr⟩ := AkRow.slice HROW
  dsimp only at hlr hcr HROW
  obtain ⟨W1, hW1⟩ : ∃ W, W = w.alloc (.cells #[.int .i64 p.ep, .int .i64 p.up] 86) := ⟨_, rfl⟩
  have hB1 : Below w.heap.size w W1 := by rw [hW1]; exact (Below.refl _ w).alloc (Nat.le_refl _) _
  have V := h.v.below hB1
  have x4 := V.c5
  have f4 := V.f5
  have hlow := V.low
  have HS1 : Hid (W1.heap.size = w.heap.size + 1) := by show _ = _; rw [hW1]; simp
  have hbB := h.b
  have hel := h.v.low
  have b0 : W1.cell? ⟨w.heap.size, 0, none⟩ = some (.int .i64 p.ep) := by rw [hW1]; go_simp
  have b1 : W1.cell? ⟨w.heap.size, 1, none⟩ = some (.int .i64 p.up) := by rw [hW1]; go_simp
  have HO1 : Hid (W1.ownsRow B 86 2 (.slice ar s.acks.length cr) s.acks.length (s.acks.flatMap Ak.cells)) := own_belowY HROW hB1
  have HB1 : Hid (type_of% hB1) := hB1
  unfold maxLen at hcr
  clear V h HROW hB1
  by_cases h12 : s.acks.length < 12
  · have h12' : ((s.acks.length : Int) == 12) = false := by simp; omega
    rw [decide_eq_true h12, if_pos h12]
    have S1a : ∀ o, (W1.alloc o).drew.cell? ⟨e, 5, none⟩ = some (.slice ar s.acks.length cr) := fun o => (((Below.refl W1.heap.size W1).alloc (Nat.le_refl _) o).drew.cell (p := ⟨e, 5, none⟩) hlow).trans x4
    have f1a : ∀ o, (W1.alloc o).drew.frozen? ⟨e, 5, none⟩ = false := fun o => (((Below.refl W1.heap.size W1).alloc (Nat.le_refl _) o).drew.frozen (p := ⟨e, 5, none⟩) hlow).trans f4
    have HNW : Hid (∀ o : Array Value, ∀ j u, o.toList[j]? = some u → (W1.alloc (.cells o 86)).drew.cell? ((⟨W1.heap.size, 0, none⟩ : Addr).add j) = some u) := fun o j u h => World.news_of_block (heap_alloc_new W1 (.cells o 86)) j u h
    have hne0 : some e ≠ (Value.slice ar s.acks.length cr).ownBlock := fun q => HX.out.n (.inr (.inr (.inr q.symm)))
    go_enter Try.func113, Try.ntmps113
    go_upto_region 1 with fail
    rw [← hW1]
    clear hW1
    go_upto_region 3 with fail
    go_region_law
      (first
        | (refine step_append_lies _ rfl _ _ _ rfl B 86 i0 (.agg #[.int .i64 0, .int .i64 0]) 2 16 Try.underlying24 hi hz0 hz1 hz2 rfl (by decide) _ s.acks.length _ rfl ((HO1.out.alloc _).drew) ⟨W1.heap.size, 0, none⟩ 1 1 (Ak.cells p) rfl rfl (HNW.out _) (Ak.cells_one _) (by omega) (by unfold maxLen; omega) (by omega) (by simp; omega) (W1.heap.size + 1) (by simp) ?_; intro g9 cap9 w9 hown9 hgrow9 hat9 hlt9; have c9 : w9.cell? ⟨e, 5, none⟩ = some (.slice ar s.acks.length cr) := (hgrow9.cell_far ⟨e, 5, none⟩ (by simp; omega) hne0).trans (S1a _); have z9 : w9.frozen? ⟨e, 5, none⟩ = false := (World.frozen?_of_block (hgrow9.block e (by simp; omega) hne0)).trans (f1a _)))
    all_goals
      have hend := putAk_end HX.out HB1.out hown9 hgrow9 hat9
      go_wp2_with fail
      go_ret
      exact ⟨rfl, _, hend⟩
  · have h12' : ((s.acks.length : Int) == 12) = true := by simp; omega
    have h12e : s.acks.length = 12 := by omega
    rw [decide_eq_false h12, if_neg h12]
    clear h12 h12e
    go_enter Try.func113, Try.ntmps113
    go_upto_region 1 with fail
    rw [← hW1]
    clear hW1
    go_wp2_with fail
    go_ret
    exact ⟨rfl, _, HX.out.below HB1.out, .of_below HB1.out⟩

end Go.Proofs.Ytnlppeieccbhgaa
