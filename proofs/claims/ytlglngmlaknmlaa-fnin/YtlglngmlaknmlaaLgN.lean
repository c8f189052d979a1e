/- The model's ProveIn. -/
import Derived.Test.YtlglngmlaknmlaaLgM
import Derived.Test.YtlglngmlaknmlaaLgL
import Derived.Laws.ResultCell
import Derived.Lib.SmallJoins
import Derived.Lib.BufferOwn
namespace Go.Proofs.Ytlglngmlaknmlaa
open Go.RowKit Plain Lgs Tpc

theorem l13In_any (f : Nat) (l : List ByteArray) (k : Nat) (v : Value) (w : World) (hf : l.length ≤ f) (hf41 : f ≤ 41) (h1 : 1 ≤ l.length) (h40 : l.length ≤ 40) (hk : k < l.length) (h20 : ∀ i, i < l.length → (lq l i).size ≤ 20) (hv : StAt w w.heap.size v l) :
    Calls Try.prog 58 #[v, .int .i64 (k : Int)] w fun e w' => ∃ u, e = .returned u ∧ ZRow w' w.heap.size u (zl (inF f l k)) ∧ Below w.heap.size w w' :=
  l13In_of (fun n h k cap g o r q w h2 hn hc hcm hk hs hq hkn CS CI CR => l13In_right n h k cap g o r q w h2 hn hc hcm hk (by
    unfold IntKind.wrap IntKind.bits IntKind.signed
    simp only [Bool.true_and]
    rw [show ((2 : Int) ^ 64) = 18446744073709551616 from rfl, show ((2 : Int) ^ (64 - 1)) = 9223372036854775808 from rfl]
    rw [if_neg (by rw [decide_eq_true_eq]; omega)]
    omega) hs hq CS CI CR) f l k v w hf hf41 h1 h40 hk h20 hv

theorem results_cell_tmpL {fn : Func} {p u : Tmp} {ty : TypeId} (h : fn.results = #[.cell p ty, .tmp u]) (tmps : Array Value) (P : Program) (w : World) :
    (results fn tmps).run P w =
      ((asAddr (tmps.getD p undef)).run P w).andThen fun a w₁ => ((loadVar ty a).run P w₁).andThen fun x w₂ => .ok (.tuple #[x, tmps.getD u undef]) w₂ := by
  simp only [results, h]
  simp [Sem.run_bind, Result.andThen]

theorem results_cellL {fn : Func} {p : Tmp} {ty : TypeId} (h : fn.results = #[.cell p ty]) (tmps : Array Value) (P : Program) (w : World) :
    (results fn tmps).run P w = ((asAddr (tmps.getD p undef)).run P w).andThen fun a w₁ => (loadVar ty a).run P w₁ := by
  simp only [results, h]
  simp [Sem.run_bind, Result.andThen]

theorem ZRow.aside {w w' : World} {B : Nat} {v : Value} {l : List Int} {row : Option Nat} (h : ZRow w B v l) (hg : w.grownBy w' row) (hne : ∀ g, v.ownBlock = some g → some g ≠ row) : ZRow w' B v l := by
  have hlt := World.ownsRow.lt h
  refine ⟨h.1, ?_⟩
  rcases h.2 with hn | ⟨g, cap, cur, hv, hgB, hgg, rest⟩
  · exact .inl hn
  · refine .inr ⟨g, cap, cur, hv, hgB, (hg.block g (hlt g (by rw [hv]; rfl)).2 (hne g (by rw [hv]; rfl))).trans hgg, rest⟩

theorem zrow_nil (w : World) (B : Nat) : ZRow w B (.slice none 0 0) (zl []) := ⟨by simp [zl, zints], Or.inl ⟨rfl, rfl⟩⟩

/-- what a function that tells a proof answers -/
def OPr (W w' : World) (e : Ending) (R : List Nat × Bool) : Prop := (∃ v, e = .returned (.tuple #[.agg #[v], .bool R.2]) ∧ ZRow w' W.heap.size v (zl R.1)) ∧ Below W.heap.size W w'

/-- what ProveIn tells -/
def Lgs.pin (l : List ByteArray) (k : Int) : List Nat × Bool := if lok l = true ∧ 0 ≤ k ∧ k < (l.length : Int) then (inF 41 l k.toNat, true) else ([], false)

set_option maxRecDepth 100000 in
set_option maxHeartbeats 4000000 in
theorem specProveIn (l : List ByteArray) (k : Int) (v : Value) (w : World) (hv : StAt w w.heap.size v l) :
    Calls Try.prog 24 #[v, .int .i64 k] w fun e w' => OPr w w' e (pin l k) := by
  have rc := fun (tmps : Array Value) (P : Program) (w : World) => results_cell_tmpL (fn := Try.f24) (p := 4) (u := 5) (ty := 37) rfl tmps P w
  have HV : Hid (StAt w w.heap.size v l) := hv
  obtain ⟨ao, cap, rfl, hlc, hcm, _⟩ := hv
  unfold maxLen at hcm
  obtain ⟨W0, hW0⟩ : ∃ W, W = w.alloc (.cells #[.slice none 0 0] 37) := ⟨_, rfl⟩
  have hB0 : Below w.heap.size w W0 := by rw [hW0]; exact (Below.refl _ w).alloc (Nat.le_refl _) _
  have hs0 : W0.heap.size = w.heap.size + 1 := by rw [hW0]; simp
  have q2 : W0.cell? ⟨w.heap.size, 0, none⟩ = some (.slice none 0 0) := by rw [hW0]; go_simp
  have qf2 : W0.frozen? ⟨w.heap.size, 0, none⟩ = false := by rw [hW0]; go_simp
  have HV0 : Hid (StAt W0 W0.heap.size (.slice ao l.length cap) l) := HV.out.below hB0
  have CL : Hid (Calls Try.prog 54 #[.slice ao l.length cap] W0 fun e w' => e = .returned (.bool (lok l)) ∧ w' = W0) := l13Log_any l _ W0 HV0.out
  obtain ⟨R, hR⟩ : ∃ R, R = pin l k := ⟨_, rfl⟩
  have HR : Hid (R = pin l k) := hR
  rw [← hR]
  clear hR
  have bad : ¬ (lok l = true ∧ 0 ≤ k ∧ k < (l.length : Int)) → R = ([], false) := fun h => by rw [HR.out]; unfold pin; rw [if_neg h]
  have HBAD : Hid (R = ([], false) → ∀ w', Below w.heap.size w w' → OPr w w' (.returned (.tuple #[.agg #[.slice none 0 0], .bool false])) R) := fun h w' hb => by rw [h]; exact ⟨⟨_, rfl, zrow_nil _ _⟩, hb⟩
  have hBS : Below w.heap.size w (W0.setCell ⟨w.heap.size, 0, none⟩ (.slice none 0 0)) := hB0.setCell (p := ⟨w.heap.size, 0, none⟩) (Nat.le_refl _) _
  by_cases hl : lok l = true
  case neg =>
    have hl' : lok l = false := by simpa using hl
    rw [hl'] at CL
    have hF := HBAD.out (bad (fun h => hl h.1))
    clear HBAD bad HR hl hl' HV HV0
    go_enter Try.func24, Try.ntmps24
    go_upto_region 1 with fail
    rw [← hW0]
    clear hW0
    go_wp2_with fail
    go_at_call 54
    refine CL.out.mono ?_
    rintro e w' ⟨rfl, rfl⟩
    go_wp2
    (try simp only [Exit.inBlock, Exit.then])
    refine bodyPost_ret (v := .tuple #[.agg #[.slice none 0 0], .bool false]) ?_ rfl (hF _ ?_)
    · rw [rc]
      go_simp
    · exact hBS
  rw [hl] at CL
  by_cases h0 : k < 0
  · have hF := HBAD.out (bad (fun h => by omega))
    clear HBAD bad HR hl HV HV0
    go_enter Try.func24, Try.ntmps24
    go_upto_region 1 with fail
    rw [← hW0]
    clear hW0
    go_wp2_with fail
    go_at_call 54
    refine CL.out.mono ?_
    rintro e w' ⟨rfl, rfl⟩
    go_wp2
    (try simp only [Exit.inBlock, Exit.then])
    refine bodyPost_ret (v := .tuple #[.agg #[.slice none 0 0], .bool false]) ?_ rfl (hF _ ?_)
    · rw [rc]
      go_simp
    · exact hBS
  by_cases h1 : (l.length : Int) ≤ k
  · have hF := HBAD.out (bad (fun h => by omega))
    clear HBAD bad HR hl HV HV0
    go_enter Try.func24, Try.ntmps24
    go_upto_region 1 with fail
    rw [← hW0]
    clear hW0
    go_wp2_with fail
    go_at_call 54
    refine CL.out.mono ?_
    rintro e w' ⟨rfl, rfl⟩
    go_wp2
    (try simp only [Exit.inBlock, Exit.then])
    refine bodyPost_ret (v := .tuple #[.agg #[.slice none 0 0], .bool false]) ?_ rfl (hF _ ?_)
    · rw [rc]
      go_simp
    · exact hBS
  obtain ⟨n, rfl⟩ : ∃ n : Nat, k = n := ⟨k.toNat, by omega⟩
  obtain ⟨h40, h20⟩ := lok_parts hl
  have CI : Hid (Calls Try.prog 58 #[.slice ao l.length cap, .int .i64 (n : Int)] W0 fun e w' => ∃ u, e = .returned u ∧ ZRow w' W0.heap.size u (zl (inF 41 l n)) ∧ Below W0.heap.size W0 w') := l13In_any 41 l n _ W0 (by omega) (by omega) (by omega) h40 (by omega) h20 HV0.out
  have HF : Hid (R = (inF 41 l n, true)) := by
    show _ = _
    rw [HR.out]
    unfold pin
    rw [if_pos ⟨hl, by omega, by omega⟩, Int.toNat_natCast]
  clear HBAD bad HR hl HV HV0 h20
  generalize inF 41 l n = P at HF CI
  go_enter Try.func24, Try.ntmps24
  go_upto_region 1 with fail
  rw [← hW0]
  clear hW0
  go_wp2_with fail
  go_at_call 54
  refine CL.out.mono ?_
  rintro e w' ⟨rfl, h9⟩
  have h9 := h9.symm
  subst h9
  go_wp2_with fail
  go_at_call 58
  refine CI.out.mono ?_
  rintro e w2 ⟨u, rfl, hz, hb⟩
  have hs2 := hb.size
  have r2 := (hb.cell (p := ⟨w.heap.size, 0, none⟩) (by show w.heap.size < _; omega)).trans q2
  have rf2 := (hb.frozen (p := ⟨w.heap.size, 0, none⟩) (by show w.heap.size < _; omega)).trans qf2
  have HZ : Hid (ZRow (w2.setCell ⟨w.heap.size, 0, none⟩ u) w.heap.size u (zl P)) := (hz.lower (by omega)).aside (Lib.grownBy_setCell _ w.heap.size 0 _) (fun g hg h => by
    have := (World.ownsRow.lt hz g hg).1
    simp only [Option.some.injEq] at h
    omega)
  have HB2 : Hid (Below w.heap.size w (w2.setCell ⟨w.heap.size, 0, none⟩ u)) := (hB0.trans (hb.mono (by omega))).setCell (p := ⟨w.heap.size, 0, none⟩) (Nat.le_refl _) _
  obtain ⟨a2, c2, rfl⟩ := hz.slice
  clear hz hb
  go_wp2
  (try simp only [Exit.inBlock, Exit.then])
  refine bodyPost_ret (v := .tuple #[.agg #[.slice a2 (zl P).length c2], .bool true]) ?_ rfl ?_
  · rw [rc]
    go_simp
  · rw [HF.out]
    exact ⟨⟨_, rfl, HZ.out⟩, HB2.out⟩

end Go.Proofs.Ytlglngmlaknmlaa
