/- Proved here: at every two slices of bytes the law FnVarint answers true: numbers come back from their bytes, and folded ones from their folds, for the drawn numbers.
   Conditions: none beside the row's own. -/
import Derived.Test.YtegeapodhecjcaaRows
import Derived.Test.YtegeapodhecjcaaCodeRow
import Derived.WalkKit
import Derived.ProofKit
import Derived.OpenShut
import Derived.ShutString
import Derived.ChangeOld
import Derived.Below
import Derived.SizedLaws
namespace Go.Proofs.Ytegeapodhecjcaa.fnVarint
open Go.ChangeShapes Go.WideShapes Go.ChangeAt Go.RowKit
open Go.ChangeMaps (open_string shut_string)
set_option linter.unusedVariables false

theorem own : ownKnob Try.prog.godebug = none := by kernel_rfl
theorem laidOut : laidOutB Try.prog = true := by kernel_rfl
theorem bytesU8 : Try.prog.bytesOf 5 = 1 := by kernel_rfl

def IsRow (k : IntKind) (w : World) (a : Option Addr) (len cap : Nat) (zs : List Int) : Prop :=
  (a = none ∧ len = 0 ∧ cap = 0 ∧ zs = []) ∨
  ∃ x, a = some x ∧ len ≤ cap ∧ cap ≤ maxLen ∧ zs.length = cap ∧ (∀ i, i < zs.length → w.cell? (x.add i) = some (.int k (zs.getD i 0))) ∧ ∀ n ∈ zs, (Lit.int k n).wf = true

theorem code_of_row {w : World} {a : Option Addr} {len cap : Nat} {zs : List Int} (h : IsRow .u8 w a len cap zs) (hl : len ≤ 1048576) : CodeAt w a len := by
  rcases h with ⟨rfl, rfl, rfl, rfl⟩ | ⟨x, rfl, h1, h2, h3, h4, h5⟩
  · exact ⟨hl, fun hz => by omega⟩
  · exact code_of_cells (by omega) h4 h5 hl

set_option maxRecDepth 100000 in
set_option maxHeartbeats 4000000 in
theorem walk (a0 : Option Addr) (len0 cap0 : Nat) (z0 : List Int) (a1 : Option Addr) (len1 cap1 : Nat) (z1 : List Int) (w : World) (w0 : IsRow .u8 w a0 len0 cap0 z0) (w1 : IsRow .u8 w a1 len1 cap1 z1) (y0 : len0 ≤ 140737488351232) (y1 : len1 ≤ 140737488351232) :
    Calls Try.prog 3 #[.slice a0 len0 cap0, .slice a1 len1 cap1] w fun e w' => e = .returned (.bool true) ∧ Below w.heap.size w w' := by
  by_cases hbig : 1048576 < (len0 : Int) + (len1 : Int)
  · go_enter Try.func3, Try.ntmps3
    go_wp2
    go_ret
    exact ⟨rfl, Below.refl _ _⟩
  have hbig' : (len0 : Int) + (len1 : Int) ≤ 1048576 := by omega
  have hk0 : CodeAt w a0 len0 := code_of_row w0 (by omega)
  have hk1 : CodeAt w a1 len1 := code_of_row w1 (by omega)
  clear hbig w0 w1 y0 y1
  go_enter Try.func3, Try.ntmps3
  go_wp2_with fail
  refine (drawVarintOf_any a0 len0 cap0 _ hk0).mono ?_
  rintro e wa ⟨n, rfl, hn1, hn2, hba⟩
  clear hk0
  go_wp2_with fail
  refine (var8 n _).mono ?_
  rintro e wb ⟨rfl, hbb⟩
  have hbb' : Below w.heap.size w wb := hba.trans (hbb.mono hba.size)
  clear hba hbb
  go_wp2_with fail
  refine (var7 n _).mono ?_
  rintro e wc ⟨rfl, hbc⟩
  have hbc' : Below w.heap.size w wc := hbb'.trans (hbc.mono hbb'.size)
  clear hbb' hbc
  by_cases hnr : 0 ≤ n ∧ n ≤ 2000000001
  · obtain ⟨x, rfl⟩ := Int.eq_ofNat_of_zero_le hnr.1
    have hx : x ≤ 2000000001 := by omega
    have h5 := uvarint_len5 x hx
    have CT : Hid (∀ w : World, Calls Try.prog 7 #[.string ⟨(Lib.uvarint x ++ [120]).toArray⟩, .int .i64 0] w fun e w' => e = .returned (.tuple #[.int .i64 (x : Int), .int .i64 ((Lib.uvarint x).length : Int), .bool true]) ∧ w' = w) := fun w => by
      have := take10 ⟨(Lib.uvarint x ++ [120]).toArray⟩ 0 w (by unfold maxLen; simp [ByteArray.size]; omega)
      rw [tv_read x hx [120] (by decide) (by decide)] at this
      exact this
    rw [vo_in x hx]
    generalize Lib.uvarint x = U at *
    clear hnr hn1 hn2 hx
    go_wp2_with fail
    rw [str_app U [120]]
    refine (CT.out _).mono ?_
    rintro e wd ⟨rfl, rfl⟩
    have h5' : (U.length : Int) ≤ 5 := by omega
    clear CT
    have hk3 := hk1.below hbc'
    go_wp2_with fail
    refine (drawFoldNumber_any a1 len1 cap1 _ hk3).mono ?_
    rintro e we ⟨f, rfl, hf1, hf2, hbe⟩
    have hbe' : Below w.heap.size w we := hbc'.trans (hbe.mono hbc'.size)
    clear hbe hbc' hk3
    go_wp2_with fail
    refine (implFold f _).mono ?_
    rintro e wf ⟨rfl, rfl⟩
    go_wp2_with fail
    refine (specFold f _).mono ?_
    rintro e wf ⟨rfl, rfl⟩
    by_cases hfr : -1000000000 ≤ f ∧ f ≤ 1000000000
    · obtain ⟨hun, hpos, htr⟩ := un_fo f hfr
      have CU : Hid (∀ w : World, Calls Try.prog 11 #[.int .i64 (fo f).1] w fun e w' => e = .returned (.tuple #[.int .i64 f, .bool true]) ∧ w' = w) := fun w => by have := implUnfold (fo f).1 w; rw [hun] at this; exact this
      rw [htr]
      generalize (fo f).1 = x1 at *
      clear hun htr hfr
      go_wp2_with fail
      refine (CU.out _).mono ?_
      rintro e wf ⟨rfl, rfl⟩
      clear CU
      have hk4 := hk1.below hbe'
      go_wp2_with fail
      refine (drawUnfoldNumber_any a1 len1 cap1 _ hk4).mono ?_
      rintro e wi ⟨u, rfl, hu1, hu2, hbi⟩
      have hbi' : Below w.heap.size w wi := hbe'.trans (hbi.mono hbe'.size)
      clear hbi hbe' hk4
      go_wp2_with fail
      refine (implUnfold u _).mono ?_
      rintro e wj ⟨rfl, rfl⟩
      go_wp2_with fail
      refine (specUnfold u _).mono ?_
      rintro e wj ⟨rfl, rfl⟩
      generalize un u = UU
      obtain ⟨uu1, uu2⟩ := UU
      have hk5 := hk1.below hbi'
      go_wp2_with fail
      refine (drawTakeVarint_any a1 len1 cap1 _ hk5).mono ?_
      rintro e wk ⟨s, at1, rfl, hs, hbk⟩
      have hbk' : Below w.heap.size w wk := hbi'.trans (hbk.mono hbi'.size)
      clear hbk hbi' hk5
      go_wp2_with fail
      refine (take10 s at1 _ (by unfold maxLen; omega)).mono ?_
      rintro e wl ⟨rfl, rfl⟩
      go_wp2_with fail
      refine (take9 s at1 _ (by unfold maxLen; omega)).mono ?_
      rintro e wl ⟨rfl, rfl⟩
      generalize tv s at1 = TT
      obtain ⟨tt1, tt2, tt3⟩ := TT
      go_wp2
      go_ret
      exact ⟨by simp, hbk'⟩
    · rw [fo_out f hfr]
      clear hfr
      have hk4 := hk1.below hbe'
      go_wp2_with fail
      refine (drawUnfoldNumber_any a1 len1 cap1 _ hk4).mono ?_
      rintro e wi ⟨u, rfl, hu1, hu2, hbi⟩
      have hbi' : Below w.heap.size w wi := hbe'.trans (hbi.mono hbe'.size)
      clear hbi hbe' hk4
      go_wp2_with fail
      refine (implUnfold u _).mono ?_
      rintro e wj ⟨rfl, rfl⟩
      go_wp2_with fail
      refine (specUnfold u _).mono ?_
      rintro e wj ⟨rfl, rfl⟩
      generalize un u = UU
      obtain ⟨uu1, uu2⟩ := UU
      have hk5 := hk1.below hbi'
      go_wp2_with fail
      refine (drawTakeVarint_any a1 len1 cap1 _ hk5).mono ?_
      rintro e wk ⟨s, at1, rfl, hs, hbk⟩
      have hbk' : Below w.heap.size w wk := hbi'.trans (hbk.mono hbi'.size)
      clear hbk hbi' hk5
      go_wp2_with fail
      refine (take10 s at1 _ (by unfold maxLen; omega)).mono ?_
      rintro e wl ⟨rfl, rfl⟩
      go_wp2_with fail
      refine (take9 s at1 _ (by unfold maxLen; omega)).mono ?_
      rintro e wl ⟨rfl, rfl⟩
      generalize tv s at1 = TT
      obtain ⟨tt1, tt2, tt3⟩ := TT
      go_wp2
      go_ret
      exact ⟨by simp, hbk'⟩
  · rw [vo_out n hnr]
    clear hnr
    have hk3 := hk1.below hbc'
    go_wp2_with fail
    refine (drawFoldNumber_any a1 len1 cap1 _ hk3).mono ?_
    rintro e we ⟨f, rfl, hf1, hf2, hbe⟩
    have hbe' : Below w.heap.size w we := hbc'.trans (hbe.mono hbc'.size)
    clear hbe hbc' hk3
    go_wp2_with fail
    refine (implFold f _).mono ?_
    rintro e wf ⟨rfl, rfl⟩
    go_wp2_with fail
    refine (specFold f _).mono ?_
    rintro e wf ⟨rfl, rfl⟩
    by_cases hfr : -1000000000 ≤ f ∧ f ≤ 1000000000
    · obtain ⟨hun, hpos, htr⟩ := un_fo f hfr
      have CU : Hid (∀ w : World, Calls Try.prog 11 #[.int .i64 (fo f).1] w fun e w' => e = .returned (.tuple #[.int .i64 f, .bool true]) ∧ w' = w) := fun w => by have := implUnfold (fo f).1 w; rw [hun] at this; exact this
      rw [htr]
      generalize (fo f).1 = x1 at *
      clear hun htr hfr
      go_wp2_with fail
      refine (CU.out _).mono ?_
      rintro e wf ⟨rfl, rfl⟩
      clear CU
      have hk4 := hk1.below hbe'
      go_wp2_with fail
      refine (drawUnfoldNumber_any a1 len1 cap1 _ hk4).mono ?_
      rintro e wi ⟨u, rfl, hu1, hu2, hbi⟩
      have hbi' : Below w.heap.size w wi := hbe'.trans (hbi.mono hbe'.size)
      clear hbi hbe' hk4
      go_wp2_with fail
      refine (implUnfold u _).mono ?_
      rintro e wj ⟨rfl, rfl⟩
      go_wp2_with fail
      refine (specUnfold u _).mono ?_
      rintro e wj ⟨rfl, rfl⟩
      generalize un u = UU
      obtain ⟨uu1, uu2⟩ := UU
      have hk5 := hk1.below hbi'
      go_wp2_with fail
      refine (drawTakeVarint_any a1 len1 cap1 _ hk5).mono ?_
      rintro e wk ⟨s, at1, rfl, hs, hbk⟩
      have hbk' : Below w.heap.size w wk := hbi'.trans (hbk.mono hbi'.size)
      clear hbk hbi' hk5
      go_wp2_with fail
      refine (take10 s at1 _ (by unfold maxLen; omega)).mono ?_
      rintro e wl ⟨rfl, rfl⟩
      go_wp2_with fail
      refine (take9 s at1 _ (by unfold maxLen; omega)).mono ?_
      rintro e wl ⟨rfl, rfl⟩
      generalize tv s at1 = TT
      obtain ⟨tt1, tt2, tt3⟩ := TT
      go_wp2
      go_ret
      exact ⟨by simp, hbk'⟩
    · rw [fo_out f hfr]
      clear hfr
      have hk4 := hk1.below hbe'
      go_wp2_with fail
      refine (drawUnfoldNumber_any a1 len1 cap1 _ hk4).mono ?_
      rintro e wi ⟨u, rfl, hu1, hu2, hbi⟩
      have hbi' : Below w.heap.size w wi := hbe'.trans (hbi.mono hbe'.size)
      clear hbi hbe' hk4
      go_wp2_with fail
      refine (implUnfold u _).mono ?_
      rintro e wj ⟨rfl, rfl⟩
      go_wp2_with fail
      refine (specUnfold u _).mono ?_
      rintro e wj ⟨rfl, rfl⟩
      generalize un u = UU
      obtain ⟨uu1, uu2⟩ := UU
      have hk5 := hk1.below hbi'
      go_wp2_with fail
      refine (drawTakeVarint_any a1 len1 cap1 _ hk5).mono ?_
      rintro e wk ⟨s, at1, rfl, hs, hbk⟩
      have hbk' : Below w.heap.size w wk := hbi'.trans (hbk.mono hbi'.size)
      clear hbk hbi' hk5
      go_wp2_with fail
      refine (take10 s at1 _ (by unfold maxLen; omega)).mono ?_
      rintro e wl ⟨rfl, rfl⟩
      go_wp2_with fail
      refine (take9 s at1 _ (by unfold maxLen; omega)).mono ?_
      rintro e wl ⟨rfl, rfl⟩
      generalize tv s at1 = TT
      obtain ⟨tt1, tt2, tt3⟩ := TT
      go_wp2
      go_ret
      exact ⟨by simp, hbk'⟩

set_option maxRecDepth 100000 in
theorem lifted (os : Os) (started : os.Started) (H : Type) (enc : TypeId × Value → H) :
    ReturnsInHanded {} Try.checked os 3 .any (Rows.fnVarintSpec.pre6 enc Try.prog Try.f3 Rows.fnVarintRow.domain false) (Rows.fnVarintSpec.post enc Try.prog Try.f3 false true false false) := by
  refine returnsInHanded_of_change_sized (C := Try.checked) own started (by kernel_rfl) Try.func3
    (ChangeSpec.witness6 (enc := enc) (C := Try.checked) false ⟨#[], #[.slice none 0 0, .slice none 0 0], []⟩ 8 (by kernel_rfl) (by kernel_rfl) (by kernel_rfl) (by kernel_rfl)) ?_
  intro W base args ds gs before hval0 hW hcnd hsz0 _
  have hval : ∀ (j : Nat) t v, Try.f3.params[j]? = some t → args[j]? = some v → Value.okWide Try.prog W .any base t v := hval0
  have hsz : (DataW.weightsEach Try.prog (Try.f3.params.toList ++ Rows.fnVarintSpec.plain.varTypes Try.prog) (ds ++ gs)).all (· ≤ reachBytes) = true := hsz0
  have hW' := hW
  obtain ⟨p, q, hA0, hV, rfl, hfz, hnd⟩ := hW
  have hA : DataW.TrodAll enc Try.prog W 0 (fun _ => true) true Try.f3.params.toList args.toList ds p := hA0
  rw [Try.params3] at hA hval hsz
  obtain ⟨v0, vs0, d0, ds0, p0, q0, hargs, rfl, rfl, h0, r0⟩ := trodAll_cons hA
  obtain ⟨v1, vs1, d1, ds1, p1, q1, rfl, rfl, rfl, h1, r1⟩ := trodAll_cons r0
  obtain ⟨rfl, rfl, rfl⟩ := trodAll_nil r1
  obtain rfl : args = #[v0, v1] := by cases args; simp_all
  obtain ⟨rfl, rfl⟩ := trodVars_none hV
  obtain ⟨a0, len0, cap0, rfl⟩ := okWide_slice Try.underlying22 (hval 0 22 v0 rfl rfl)
  have k0 := h0
  have lt0 : ∀ x ∈ p0, x.block < W.heap.size := by obtain ⟨m, hm⟩ := k0; exact DataW.trod_lt m _ _ _ hm
  obtain ⟨z0, w0, y0⟩ : ∃ zs, IsRow .u8 W a0 len0 cap0 zs ∧ len0 ≤ 140737488351232 := by
    obtain ⟨fuel, hf⟩ := h0
    rcases open_ints Try.underlying22 Try.underlying5 (by kernel_rfl) hf with ⟨hcs, _⟩ | ⟨x, l, c, zs, hcs, _, hl, hm, hz, hx, hcell, hwz⟩
    · simp [Value.cells] at hcs
      obtain ⟨rfl, rfl, rfl⟩ := hcs
      exact ⟨[], .inl ⟨rfl, rfl, rfl, rfl⟩, by omega⟩
    · simp [Value.cells] at hcs
      obtain ⟨rfl, rfl, rfl⟩ := hcs
      have hd : d0 = .slice (lits .u8 (zs.take len0)) (lits .u8 (zs.drop len0)) := congrArg Prod.fst hx
      rw [hd] at hsz
      have hr := sized_slice hsz (j := 0) (t := 22) (e := 5) rfl rfl Try.underlying22
      rw [bytesU8] at hr
      simp only [lits, List.length_map, List.length_take, List.length_drop, reachBytes] at hr
      have hz' : zs.length = cap0 := by simpa using hz
      exact ⟨zs, .inr ⟨_, rfl, hl, hm, hz', hcell, hwz⟩, by omega⟩
  obtain ⟨a1, len1, cap1, rfl⟩ := okWide_slice Try.underlying22 (hval 1 22 v1 rfl rfl)
  have k1 := h1
  have lt1 : ∀ x ∈ p1, x.block < W.heap.size := by obtain ⟨m, hm⟩ := k1; exact DataW.trod_lt m _ _ _ hm
  obtain ⟨z1, w1, y1⟩ : ∃ zs, IsRow .u8 W a1 len1 cap1 zs ∧ len1 ≤ 140737488351232 := by
    obtain ⟨fuel, hf⟩ := h1
    rcases open_ints Try.underlying22 Try.underlying5 (by kernel_rfl) hf with ⟨hcs, _⟩ | ⟨x, l, c, zs, hcs, _, hl, hm, hz, hx, hcell, hwz⟩
    · simp [Value.cells] at hcs
      obtain ⟨rfl, rfl, rfl⟩ := hcs
      exact ⟨[], .inl ⟨rfl, rfl, rfl, rfl⟩, by omega⟩
    · simp [Value.cells] at hcs
      obtain ⟨rfl, rfl, rfl⟩ := hcs
      have hd : d1 = .slice (lits .u8 (zs.take len1)) (lits .u8 (zs.drop len1)) := congrArg Prod.fst hx
      rw [hd] at hsz
      have hr := sized_slice hsz (j := 1) (t := 22) (e := 5) rfl rfl Try.underlying22
      rw [bytesU8] at hr
      simp only [lits, List.length_map, List.length_take, List.length_drop, reachBytes] at hr
      have hz' : zs.length = cap1 := by simpa using hz
      exact ⟨zs, .inr ⟨_, rfl, hl, hm, hz', hcell, hwz⟩, by omega⟩
  clear hA0 hval0
  refine (walk a0 len0 cap0 z0 a1 len1 cap1 z1 W w0 w1 y0 y1).mono fun e W' ⟨he, bel⟩ => ?_
  subst he
  exact ⟨_, rfl, _, _, _, [], _, [], hW', trodAll_mk1 (shut_bool Try.underlying4 _), (trodAll_cons_mk (Below.trod laidOut (by kernel_rfl) (of_decide_eq_true (by kernel_rfl)) k0 bel lt0) (trodAll_cons_mk (Below.trod laidOut (by kernel_rfl) (of_decide_eq_true (by kernel_rfl)) k1 bel lt1) trodAll_mk0)), rfl, bel.frame _, fun h => by cases h⟩

theorem over : Rows.fnVarintRow.holds Try.pinned (OpenSpec.ofChange Rows.fnVarintSpec) :=
  OpenClaim.holds_of_wide 3 Try.f3 rfl rfl rfl rfl rfl rfl rfl ⟨rfl, rfl, rfl, rfl, rfl⟩ rfl rfl rfl rfl rfl (by kernel_rfl) Try.func3 (by kernel_rfl)
    (of_decide_eq_true (by kernel_rfl)) (by unfold Func.isWrapper; first | (rw [if_pos (by decide +kernel)]; kernel_rfl) | (rw [if_neg (by decide +kernel)]; exact ⟨rfl, rfl⟩))
    (fun os started H enc _ => lifted os started H enc)

end Go.Proofs.Ytegeapodhecjcaa.fnVarint

namespace Go.Proofs.Ytegeapodhecjcaa
theorem fnVarint_holds : Rows.FnVarintSaid := fnVarint.over
#print axioms fnVarint_holds
end Go.Proofs.Ytegeapodhecjcaa
