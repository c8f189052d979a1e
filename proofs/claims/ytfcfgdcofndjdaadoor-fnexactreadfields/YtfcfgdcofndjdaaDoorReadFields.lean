/- Proved here: at every text the law FnExactReadFields answers true, that is, ReadFields answers as its model, its answer owns its memory, and it writes into nothing.
   Conditions: none beside the row's own (the table of kinds starts as the program's text lays it; the card ties it to the text). -/
import Derived.Test.YtfcfgdcofndjdaaDoorCards
import Derived.Test.YtfcfgdcofndjdaaDoorTie
import Derived.Test.YtfcfgdcofndjdaaDoorRdB
import Derived.Test.YtfcfgdcofndjdaaDoorRdE
import Derived.Test.YtfcfgdcofndjdaaDoorMarkF
import Derived.OpenShut
import Derived.ShutString
import Derived.OpenVars
import Derived.Deep.DeepHandedRow
import Derived.Lib.LaidTab
namespace Go.Proofs.YtfcfgdcofndjdaaDoor
open Go.RowKit Plain

set_option maxRecDepth 100000 in
set_option maxHeartbeats 1000000 in
theorem specRead_any (s : ByteArray) (w : World) (hsm : s.size ≤ maxLen) :
    Calls Tryd.prog 4 #[.string s] w fun e w' => ∃ v, e = .returned (.tuple #[v, .bool (rf s).2]) ∧ w'.ownsRow w.heap.size 29 4 v (rf s).1.length ((rf s).1.flatMap Fld.cells) ∧ Below w.heap.size w w' := by
  unfold maxLen at hsm
  by_cases hs : s.size ≤ 400
  · have hs' : (s.size : Int) ≤ 400 := by omega
    go_enter Tryd.func4, Tryd.ntmps4
    go_wp2_with fail
    refine (l1Read_any s _ hs).mono ?_
    rintro e w1 ⟨v, rfl, hown, hb⟩
    go_wp2
    go_ret2
    exact ⟨v, rfl, hown, hb⟩
  · have hr : rf s = ([], false) := by unfold rf; rw [if_neg hs]
    rw [hr]
    have hs' : 400 < (s.size : Int) := by omega
    clear hs hr
    go_enter Tryd.func4, Tryd.ntmps4
    go_wp2
    go_ret2
    exact ⟨_, rfl, World.ownsRow_nil _ _ _ _, Below.refl _ _⟩

theorem rfs_len (s : ByteArray) : ∀ (f a : Nat) (l : List Fld), l.length ≤ 40 → (rfs s f a l).1.length ≤ 40 := by
  intro f
  induction f with
  | zero => intro a l _; simp [rfs]
  | succ f ih =>
    intro a l hl
    rw [rfs]
    split
    · split
      · simp
      · split
        · simp
        · exact ih _ _ (by simp; omega)
    · exact hl

theorem rf_len (s : ByteArray) : (rf s).1.length ≤ 40 := by
  unfold rf
  split
  · exact rfs_len s _ _ _ (by simp)
  · simp

set_option maxRecDepth 100000 in
set_option maxHeartbeats 4000000 in
theorem walkReadFields (s : ByteArray) (w : World) (hsm : s.size ≤ maxLen) (hk : KR w) :
    Calls Tryd.prog 3 #[.string s] w fun e w' => e = .returned (.bool true) ∧ Below w.heap.size w w' := by
  have hk0 := hk.1
  by_cases hbig : 1048576 < s.size
  · have hbig' : (1048576 : Int) < (s.size : Int) := by omega
    have hlim : (s.size : Int) ≤ 9223372036854775807 := by unfold maxLen at hsm; omega
    go_enter Tryd.func3, Tryd.ntmps3
    go_wp2
    go_ret
    exact ⟨rfl, Below.refl _ _⟩
  have hbig' : (s.size : Int) ≤ 1048576 := by omega
  clear hbig
  have hl40 := rf_len s
  have CS : Hid (∀ w : World, Calls Tryd.prog 4 #[.string s] w fun e w' => ∃ v, e = .returned (.tuple #[v, .bool (rf s).2]) ∧ w'.ownsRow w.heap.size 29 4 v (rf s).1.length ((rf s).1.flatMap Fld.cells) ∧ Below w.heap.size w w') := fun w => specRead_any s w hsm
  have CI : Hid (∀ w : World, KR w → Calls Tryd.prog 5 #[.string s] w fun e w' => ∃ v, e = .returned (.tuple #[v, .bool (rf s).2]) ∧ w'.ownsRow w.heap.size 29 4 v (rf s).1.length ((rf s).1.flatMap Fld.cells) ∧ Below w.heap.size w w') := fun w hk => implRead_any s w hsm hk
  obtain ⟨⟨l, ok⟩, hR⟩ : ∃ R, rf s = R := ⟨_, rfl⟩
  rw [hR] at CS CI hl40
  dsimp only at CS CI hl40
  clear hR
  go_enter Tryd.func3, Tryd.ntmps3
  go_wp2_with fail
  refine (CS.out _).mono ?_
  rintro e w1 ⟨v1, rfl, ho1, hb1⟩
  have hk1 : KR w1 := hk.below hb1 hk0
  have hf1 : FldsAt w1 w1.heap.size v1 l := FldsAt.own ho1 (by unfold maxLen; omega)
  have hs1 := hb1.size
  clear ho1
  go_wp2_with fail
  refine (CI.out _ hk1).mono ?_
  rintro e w2 ⟨v2, rfl, ho2, hb2⟩
  have hf2 : FldsAt w2 w2.heap.size v2 l := FldsAt.own ho2 (by unfold maxLen; omega)
  have hX2 : Below w1.heap.size w1 w2 := hb2
  clear hb2
  go_wp2_with fail
  refine (eqFieldS_same l v2 v1 _ hf2 (hf1.below hX2) (by omega)).mono ?_
  rintro e w3 ⟨rfl, hb3⟩
  have ho3 := own_below ho2 hb3
  have hX3 : Below w1.heap.size w1 w3 := hX2.trans (hb3.mono hX2.size)
  clear hb3 ho2 hf2 hX2
  go_wp2_with fail
  refine (markFieldS_any w1.heap.size l.length 1 v2 _ w3 ho3 hX3.size (by omega) (by omega) (by omega)).mono ?_
  rintro e w4 ⟨rfl, ⟨ys, ho4, hm4⟩, hb4⟩
  have hX4 : Below w1.heap.size w1 w4 := hX3.trans hb4
  have hm4' : MarksAt w4 w4.heap.size v2 l.length 1 := MarksAt.own ho4 hm4 (by unfold maxLen; omega)
  clear hb4 ho3 ho4 hm4 hX3
  go_wp2_with fail
  refine (heldFieldS_any l.length 1 v2 _ hm4' (by omega) (by omega) (by omega)).mono ?_
  rintro e w5 ⟨rfl, hb5⟩
  have hX5 : Below w1.heap.size w1 w5 := hX4.trans (hb5.mono hX4.size)
  have hm5 := hm4'.below hb5
  clear hb5 hm4' hX4
  have hk5 : KR w5 := hk1.below hX5 (by omega)
  go_wp2_with fail
  refine (CI.out _ hk5).mono ?_
  rintro e w6 ⟨v6, rfl, ho6, hb6⟩
  have hf6 : FldsAt w6 w6.heap.size v6 l := FldsAt.own ho6 (by unfold maxLen; omega)
  have hX6 : Below w1.heap.size w1 w6 := hX5.trans (hb6.mono hX5.size)
  have hm6 := hm5.below hb6
  clear hb6 hm5 ho6 hX5 hk5
  go_wp2_with fail
  refine (eqFieldS_same l v6 v1 _ hf6 (hf1.below hX6) (by omega)).mono ?_
  rintro e w7 ⟨rfl, hb7⟩
  have hX7 : Below w1.heap.size w1 w7 := hX6.trans (hb7.mono hX6.size)
  have hm7 := hm6.below hb7
  clear hb7 hm6 hX6 hf6
  go_wp2_with fail
  refine (heldFieldS_any l.length 1 v2 _ hm7 (by omega) (by omega) (by omega)).mono ?_
  rintro e w8 ⟨rfl, hb8⟩
  have hX8 : Below w.heap.size w w8 := hb1.trans ((hX7.trans (hb8.mono hX7.size)).mono hs1)
  clear hb8 hm7 hX7 hf1 hb1
  go_wp2
  go_ret
  exact ⟨rfl, hX8⟩

namespace fnExactReadFields
open Go.ChangeShapes Go.WideShapes Go.ChangeAt
open Go.ChangeMaps (open_string shut_string)

theorem own : ownKnob Tryd.prog.godebug = none := by kernel_rfl
theorem laidOut : laidOutB Tryd.prog = true := by kernel_rfl
theorem gTab : Tryd.prog.globalNamed "loop.example/g00333/impl.kindRows" = some 0 := by kernel_rfl
theorem gTabType : (Tryd.prog.globals[0]?).map (·.type) = some 50 := by kernel_rfl
theorem rowed : varsRowed Tryd.prog ["loop.example/g00333/impl.kindRows"] = true := by kernel_rfl

/-- what the row's list gives: the table's six cells -/
theorem row_cells {W : World} {H : Type} {enc : TypeId × Value → H} {sp : Nat → Bool} {hd : Bool} {base m : Nat} {cs : List Value} {x : DataW H × List MemPlace} {a : Int} {b c : Bool}
    (h : DataW.trod enc Tryd.prog W base sp hd m 44 cs = some x) (hx : x.1 = .agg [.lit (.int .i64 a), .lit (.bool b), .lit (.bool c)]) : cs = [.int .i64 a, .bool b, .bool c] := by
  obtain ⟨xs, m1, rfl, rfl, hlen, hn, hf⟩ := DataW.trod_struct Tryd.underlying44 h
  have c3 : Tryd.prog.cellsOf 3 = 1 := by kernel_rfl
  have c4 : Tryd.prog.cellsOf 4 = 1 := by kernel_rfl
  have c52 : Tryd.prog.cellsOf 44 = 3 := by kernel_rfl
  rw [c52] at hlen
  have f0 : DataW.trod enc Tryd.prog W base sp hd m1 3 ((cs.drop 0).take (Tryd.prog.cellsOf 3)) = xs[0]? := hf 0 _ rfl
  have f1 : DataW.trod enc Tryd.prog W base sp hd m1 4 ((cs.drop 1).take (Tryd.prog.cellsOf 4)) = xs[1]? := hf 1 _ rfl
  have f2 : DataW.trod enc Tryd.prog W base sp hd m1 4 ((cs.drop 2).take (Tryd.prog.cellsOf 4)) = xs[2]? := hf 2 _ rfl
  rw [c3] at f0
  rw [c4] at f1 f2
  match xs, hn with
  | [x0, x1, x2], _ =>
    simp only [List.map_cons, List.map_nil, DataW.agg.injEq, List.cons.injEq, and_true] at hx
    obtain ⟨e0, e1, e2⟩ := hx
    match cs, hlen with
    | [k0, k1, k2], _ =>
      obtain ⟨n, e3, e4, _⟩ := DataW.trod_int Tryd.underlying3 (show DataW.trod _ _ _ _ _ _ _ _ _ = some x0 from f0)
      obtain ⟨n1, e5, e6⟩ := DataW.trod_bool Tryd.underlying4 (show DataW.trod _ _ _ _ _ _ _ _ _ = some x1 from f1)
      obtain ⟨n2, e7, e8⟩ := DataW.trod_bool Tryd.underlying4 (show DataW.trod _ _ _ _ _ _ _ _ _ = some x2 from f2)
      simp at e3 e5 e7
      rw [e4] at e0
      rw [e6] at e1
      rw [e8] at e2
      simp at e0 e1 e2
      rw [e3, e5, e7, e0, e1, e2]

theorem table {W : World} (h : laidMetH Tryd.prog Rows.fnExactReadFieldsRow.laid W) : KR W := by
  have h' : laidMet Tryd.prog [("loop.example/g00333/impl.kindRows", Rows.laid_loop_example_g00333_impl_kindRows)] W := h
  obtain ⟨ps, ⟨g', t', cs, fuel, p, q, hg', ht', hvar, hd, _, _⟩, _⟩ := h'
  obtain rfl := Option.some.inj (gTab.symm.trans hg')
  obtain rfl := Option.some.inj (gTabType.symm.trans ht')
  obtain ⟨xs, m, rfl, hx, hlen, hn, hf⟩ := DataW.trod_array Tryd.underlying50 hd
  have c52 : Tryd.prog.cellsOf 44 = 3 := by kernel_rfl
  have c62 : Tryd.prog.cellsOf 50 = 6 := by kernel_rfl
  rw [c62] at hlen
  have f0 := hf 0 (by omega)
  have f1 := hf 1 (by omega)
  rw [c52] at f0 f1
  have hx1 := congrArg Prod.fst hx
  match xs, hn with
  | [x0, x1], _ =>
    simp only [Rows.laid_loop_example_g00333_impl_kindRows, List.map_cons, List.map_nil, DataW.agg.injEq, List.cons.injEq, and_true] at hx1
    have r0 := row_cells (show DataW.trod _ _ _ _ _ _ _ _ _ = some x0 from f0) hx1.1.symm
    have r1 := row_cells (show DataW.trod _ _ _ _ _ _ _ _ _ = some x1 from f1) hx1.2.symm
    obtain ⟨l⟩ := cs
    dsimp only at hlen r0 r1
    match l, hlen with
    | [k0, k1, k2, k3, k4, k5], _ =>
      simp at r0 r1
      obtain ⟨rfl, rfl, rfl⟩ := r0
      obtain ⟨rfl, rfl, rfl⟩ := r1
      have c := World.var?_cell gTab hvar
      have c0 := c 0
      have hsz : 0 < W.heap.size := by
        have := World.block_lt_of_cell? W ⟨0, 0, none⟩ (u := .int .i64 0) (by simpa using c0)
        simpa using this
      refine ⟨hsz, by simpa using c0, by simpa using c 1, by simpa using c 2, by simpa using c 3, by simpa using c 4, by simpa using c 5⟩

/-- what the walk gives, for every text and every world that holds the table -/
theorem contract (H : Type) (enc : TypeId × Value → H) (W : World) (base : Nat) (args : Array Value) (ds gs : List (DataW H)) (before : List MemPlace)
    (hval : ∀ (j : Nat) t v, Tryd.f3.params[j]? = some t → args[j]? = some v → Value.okWide Tryd.prog W .any base t v)
    (hW : DataW.Whole enc Tryd.prog Tryd.f3.params.toList Rows.fnExactReadFieldsSpec.vars false W args.toList ds gs before) (hL : laidMetH Tryd.prog Rows.fnExactReadFieldsRow.laid W) :
    Calls Tryd.prog 3 args W fun e W' => ∃ v, e = .returned v ∧ Rows.fnExactReadFieldsSpec.post enc Tryd.prog Tryd.f3 false true false false W args v W' := by
  have hW' := hW
  obtain ⟨p, q, hA0, hV, rfl, hfz, hnd⟩ := hW
  have hA : DataW.TrodAll enc Tryd.prog W 0 (fun _ => true) true Tryd.f3.params.toList args.toList ds p := hA0
  rw [Tryd.params3] at hA hval
  obtain ⟨v0, vs0, d0, ds0, p0, q0, hargs, rfl, rfl, h0, r0⟩ := trodAll_cons hA
  obtain ⟨rfl, rfl, rfl⟩ := trodAll_nil r0
  obtain rfl : args = #[v0] := by cases args; simp_all
  obtain ⟨a0, rfl, rfl, rfl, w0⟩ := open_string Tryd.underlying9 (hval 0 9 v0 rfl rfl) h0
  clear hA0
  have hg1 : ∃ g1, gs = [g1] := by
    match gs, hV with
    | [g1], _ => exact ⟨g1, rfl⟩
  obtain ⟨g1, rfl⟩ := hg1
  refine (walkReadFields a0 W w0 (table hL)).mono fun e W' ⟨he, hg⟩ => ?_
  subst he
  refine ⟨_, rfl, _, _, _, [], _, _, hW', trodAll_mk1 (shut_bool Tryd.underlying4 _), (trodAll_cons_mk (shut_string Tryd.underlying9 w0) trodAll_mk0), Below.trodVars laidOut hg rowed hV, hg.frame _, fun h => by cases h⟩

/-- a world for the witness: the settled one, the table holding what its initialiser lays -/
noncomputable def laidWorld (os : Os) : World :=
  { World.holding Tryd.prog os ⟨#[], #[], []⟩ with heap := (World.holding Tryd.prog os ⟨#[], #[], []⟩).heap.modify 0 fun
      | .cells _ t frozen => .cells #[.int .i64 0, .bool true, .bool false, .int .i64 2, .bool false, .bool true] t frozen
      | o => o }
theorem laid_met (os : Os) : laidMet Tryd.prog Rows.fnExactReadFieldsRow.laid ((laidWorld os).forCall (fun _ _ => 0) ⟨#[], #[.string ByteArray.empty], []⟩).memory :=
  laidMet_of_run' 8 (by kernel_rfl) (by kernel_rfl)
theorem reads (os : Os) {H : Type} (enc : TypeId × Value → H) : ∃ places, DataW.whole enc Tryd.prog ((laidWorld os).forCall (fun _ _ => 0) ⟨#[], #[.string ByteArray.empty], []⟩).memory Tryd.f3.params.toList Rows.fnExactReadFieldsSpec.vars false #[Value.string ByteArray.empty].toList 8 = some ([.lit (.string [])], [Rows.laid_loop_example_g00333_impl_kindRows], places) :=
  ⟨MemPlace.row ⟨0, 0, none⟩ 6, by kernel_rfl⟩

set_option maxRecDepth 100000 in
theorem lifted (os : Os) (started : os.Started) (H : Type) (enc : TypeId × Value → H) (F : Stop.Interp) :
    ReturnsInHanded {} Tryd.checked os 3 .any ((OpenSpec.ofChange Rows.fnExactReadFieldsSpec).preRow enc Tryd.prog Tryd.f3 Rows.fnExactReadFieldsRow.domain false Rows.fnExactReadFieldsRow.laid) (((OpenSpec.ofChange Rows.fnExactReadFieldsSpec).at F).post enc Tryd.prog Tryd.f3 false true false false) := by
  obtain ⟨places, hx⟩ := reads os enc
  refine returnsInHanded_of_row (C := Tryd.checked) (s := OpenSpec.ofChange Rows.fnExactReadFieldsSpec) own started (by kernel_rfl) Tryd.func3
    (witness_row_at (enc := enc) (C := Tryd.checked) false (laidWorld os) #[.string ByteArray.empty] rfl (by kernel_rfl) (by kernel_rfl) (by kernel_rfl)
      (OpenSpec.preRow_of_cond 8 hx (by kernel_rfl) (fun k hk => by cases hk) (by kernel_rfl) (laid_met os))) ?_
  intro W base args ds gs before hval hW _ _ _ hL _ _
  exact contract H enc W base args ds gs before hval hW hL

theorem said : Rows.FnExactReadFieldsSaid :=
  OpenClaim.holds_of_cond 3 Tryd.f3 rfl rfl rfl rfl rfl rfl rfl ⟨rfl, rfl, rfl, rfl, rfl⟩ rfl rfl rfl rfl rfl (by kernel_rfl) Tryd.func3 (by kernel_rfl)
    (of_decide_eq_true (by kernel_rfl)) (by unfold Func.isWrapper; first | (rw [if_pos (by decide +kernel)]; kernel_rfl) | (rw [if_neg (by decide +kernel)]; exact ⟨rfl, rfl⟩))
    (fun os started H enc _ F => by rw [OpenClaim.pre_eq_preRow]; exact lifted os started H enc F)

theorem plain (f : FuncId) (fn : Func) (hf : Tryd.pinned.checked.prog.funcNamed "loop.example/g00333/laws.FnExactReadFields" = some f) (hfn : Tryd.pinned.checked.prog.funcs[f]? = some fn) :
    false = Tryd.pinned.checked.prog.looks [] ∧ ∀ (j : Nat) t, fn.params[j]? = some t → Tryd.pinned.checked.prog.wantsStandIn t = false := by
  obtain rfl : f = 3 := Option.some.inj ((show Tryd.prog.funcNamed "loop.example/g00333/laws.FnExactReadFields" = some 3 by kernel_rfl).symm.trans hf) |>.symm
  obtain rfl : fn = Tryd.f3 := (Option.some.inj (Tryd.func3.symm.trans hfn)).symm
  refine ⟨by kernel_rfl, fun j t ht => ?_⟩
  rw [Tryd.params3] at ht
  obtain rfl : t = 9 := by simpa using Array.mem_of_getElem? ht
  exact (show Tryd.prog.wantsStandIn 9 = false by kernel_rfl)

theorem card : Rows.FnExactReadFieldsCardSaid :=
  Claim7.holds_tied_plain_at .later [] _ _ _ _ said (fun _ h => by cases h) (by kernel_rfl) (fun _ h => by cases h) fnExactReadFields_row_tie rfl ⟨rfl, rfl⟩ (by kernel_rfl) rfl plain (by kernel_rfl)

end fnExactReadFields

theorem fnExactReadFields_holds : Rows.FnExactReadFieldsCardSaid := fnExactReadFields.card
#print axioms fnExactReadFields_holds
end Go.Proofs.YtfcfgdcofndjdaaDoor
