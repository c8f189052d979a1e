/- Proved here: at every program and every text the law FnExactRunProgram answers true, that is, RunProgram answers as its model and writes into nothing.
   Conditions: none beside the row's own (the table of kinds starts as the program's text lays it; the card ties it to the text). -/
import Derived.Test.YtpopjapcgcnnfaaDoorCards
import Derived.Test.YtpopjapcgcnnfaaDoorTie
import Derived.Test.YtpopjapcgcnnfaaDoorRpD
import Derived.Test.YtpopjapcgcnnfaaDoorRpT
import Derived.Test.YtpopjapcgcnnfaaDoorPwA
import Derived.Test.YtpopjapcgcnnfaaDoorPwB
import Derived.Test.YtpopjapcgcnnfaaDoorPwO
import Derived.OpenShut
import Derived.ShutString
import Derived.OpenVars
import Derived.Deep.DeepHandedRow
import Derived.Lib.LaidTab
namespace Go.Proofs.YtpopjapcgcnnfaaDoor
open Go.RowKit Plain Sch Wan Prg

set_option maxRecDepth 100000 in
set_option maxHeartbeats 4000000 in
theorem walkRunProgram (T : List Ins) (s : ByteArray) (v : Value) (w : World) (hT : InsAt w w.heap.size v T) (hsm : s.size ≤ maxLen) (hk : KR w) :
    Calls Tryd.prog 3 #[.agg #[v], .string s] w fun e w' => e = .returned (.bool true) ∧ Below w.heap.size w w' := by
  have HT : Hid (InsAt w w.heap.size v T) := hT
  obtain ⟨ao, cap, rfl, _⟩ := hT
  have hB1 : Below w.heap.size w (w.alloc (.cells #[.slice ao T.length cap] 24)) := (Below.refl _ w).alloc (Nat.le_refl _) _
  have hX1 : Hid (InsAt (w.alloc (.cells #[.slice ao T.length cap] 24)) (w.alloc (.cells #[.slice ao T.length cap] 24)).heap.size (.slice ao T.length cap) T) := HT.out.below hB1
  by_cases hbig : 1048576 < s.size
  · have hbig' : (1048576 : Int) < (s.size : Int) := by omega
    have hlim : (s.size : Int) ≤ 9223372036854775807 := by unfold maxLen at hsm; omega
    go_enter Tryd.func3, Tryd.ntmps3
    go_wp2
    go_ret
    exact ⟨rfl, hB1⟩
  have hbig' : (s.size : Int) ≤ 1048576 := by omega
  clear hbig
  have HK : Hid (∀ W, Below w.heap.size w W → KR W) := fun W hW => hk.below hW hk.1
  have CS : Hid (∀ (v : Value) (w : World), InsAt w w.heap.size v T → Calls Tryd.prog 6 #[.agg #[v], .string s] w fun e w' => e = .returned (.tuple #[.bool (rpo T s).1, .int .i64 (rpo T s).2.1, .bool (rpo T s).2.2]) ∧ Below w.heap.size w w') := fun v w h => specRun T s v w h hsm
  have CI : Hid (∀ (v : Value) (w : World), InsAt w w.heap.size v T → KR w → Calls Tryd.prog 8 #[.agg #[v], .string s] w fun e w' => e = .returned (.tuple #[.bool (rpo T s).1, .int .i64 (rpo T s).2.1, .bool (rpo T s).2.2]) ∧ Below w.heap.size w w') := fun v w h hk => implRun T s v w h hsm hk
  obtain ⟨⟨b1, b2, b3⟩, hR⟩ : ∃ R, rpo T s = R := ⟨_, rfl⟩
  rw [hR] at CS CI
  dsimp only at CS CI
  clear hR hk
  go_enter Tryd.func3, Tryd.ntmps3
  go_wp2_with fail
  refine (szProgram_any T _ _ hX1.out).mono ?_
  rintro e w2 ⟨⟨r, rfl, hr0, hr1, hr2⟩, hb2⟩
  have hB2 : Below w.heap.size w w2 := hB1.trans (hb2.mono (by simp))
  have hs2 : w.heap.size < w2.heap.size := by have := hb2.size; simp at this; omega
  have q2 : w2.cell? ⟨w.heap.size, 0, none⟩ = some (.slice ao T.length cap) := (hb2.cell (p := ⟨w.heap.size, 0, none⟩) (by simp)).trans (by simp)
  clear hb2 hX1
  by_cases hneg : r < 0
  · clear hr2
    go_wp2
    go_ret
    exact ⟨rfl, hB2⟩
  · obtain ⟨hlen, hnames⟩ := hr2 (by omega)
    have HN : Hid (∀ i, i < T.length → (ins T i).text.size ≤ maxLen) := fun i hi => by have := hnames i hi; unfold maxLen; omega
    clear hr2 hnames
    go_wp2_with fail
    refine (toProgram_any T _ _ (HT.out.below hB2) hlen).mono ?_
    rintro e w3 ⟨r3, rfl, ho3, hb3⟩
    have hB3 : Below w.heap.size w w3 := hB2.trans (hb3.mono hB2.size)
    have hs3 : w.heap.size < w3.heap.size := by have := hb3.size; omega
    have q3 := (hb3.cell (p := ⟨w.heap.size, 0, none⟩) hs2).trans q2
    have hT3 : Hid (InsAt w3 w3.heap.size r3 T) := InsAt.own ho3 HN.out
    clear hb3 ho3 hB2 q2 hs2
    go_wp2_with fail
    refine (CS.out r3 _ hT3.out).mono ?_
    rintro e w4 ⟨rfl, hb4⟩
    have hB4 : Below w.heap.size w w4 := hB3.trans (hb4.mono hB3.size)
    have hs4 : w.heap.size < w4.heap.size := by have := hb4.size; omega
    have q4 := (hb4.cell (p := ⟨w.heap.size, 0, none⟩) hs3).trans q3
    clear hb4 hT3 hB3 q3 hs3
    go_wp2_with fail
    refine (toProgram_any T _ _ (HT.out.below hB4) hlen).mono ?_
    rintro e w5 ⟨r5, rfl, ho5, hb5⟩
    have hB5 : Below w.heap.size w w5 := hB4.trans (hb5.mono hB4.size)
    have hs5 : w.heap.size < w5.heap.size := by have := hb5.size; omega
    have q5 := (hb5.cell (p := ⟨w.heap.size, 0, none⟩) hs4).trans q4
    have hT5 : Hid (InsAt w5 w5.heap.size r5 T) := InsAt.own ho5 HN.out
    obtain ⟨a5, cap5, hr5⟩ : ∃ ao cap, r5 = Value.slice ao T.length cap := by
      rcases ho5.2 with ⟨rfl, h0⟩ | ⟨g, cap, _, rfl, _⟩
      · exact ⟨none, 0, by rw [h0]⟩
      · exact ⟨_, _, rfl⟩
    subst hr5
    clear hb5 ho5 hB4 q4 hs4
    have hB6 : Below w5.heap.size w5 (w5.alloc (.cells #[.slice a5 T.length cap5] 30)) := (Below.refl _ w5).alloc (Nat.le_refl _) _
    have hT6 : Hid (InsAt (w5.alloc (.cells #[.slice a5 T.length cap5] 30)) (w5.alloc (.cells #[.slice a5 T.length cap5] 30)).heap.size (.slice a5 T.length cap5) T) := hT5.out.below hB6
    go_wp2_with fail
    refine (CI.out _ _ hT6.out (HK.out _ (hB5.alloc hB5.size _))).mono ?_
    rintro e w7 ⟨rfl, hb7⟩
    have hB7 : Below w.heap.size w w7 := (hB5.alloc hB5.size _).trans (hb7.mono (by simp; omega))
    have hs7 : w5.heap.size < w7.heap.size := by have := hb7.size; simp at this; omega
    have hs7' : w.heap.size < w7.heap.size := by omega
    have q7 := (hb7.cell (p := ⟨w.heap.size, 0, none⟩) (by simp; omega)).trans ((hB6.cell (p := ⟨w.heap.size, 0, none⟩) hs5).trans q5)
    have x7 : w7.cell? ⟨w5.heap.size, 0, none⟩ = some (.slice a5 T.length cap5) := (hb7.cell (p := ⟨w5.heap.size, 0, none⟩) (by simp)).trans (by simp)
    have hT7 : Hid (InsAt w7 w7.heap.size (.slice a5 T.length cap5) T) := hT6.out.below hb7
    clear hb7 hT5 hT6 hB6 q5
    clear CS CI HK
    have C1 : Hid (∀ W : World, Below w.heap.size w W → Calls Tryd.prog 7 #[.agg #[.slice ao T.length cap]] W fun e w' => ∃ ar capr, e = .returned (.agg #[.slice ar T.length capr]) ∧ InsAt w' w'.heap.size (.slice ar T.length capr) T ∧ Below W.heap.size W w') := fun W hW => by
      refine (toProgram_any T _ W (HT.out.below hW) hlen).mono ?_
      rintro e w' ⟨r, rfl, ho, hb⟩
      have ht := InsAt.own ho HN.out
      obtain ⟨ar, capr, rfl, _⟩ := id ht
      exact ⟨ar, capr, rfl, ht, hb⟩
    have C2 : Hid (∀ (W : World) (v1 v2 : Value), InsAt W W.heap.size v1 T → InsAt W W.heap.size v2 T → Calls Tryd.prog 9 #[.agg #[v1], .agg #[v2]] W fun e w' => e = .returned (.bool true) ∧ Below W.heap.size W w') := fun W v1 v2 h1 h2 => eqProgram_same T v1 v2 W h1 h2 (by omega)
    have hB7d : Hid (Below w.heap.size w w7.drew) := hB7.drew
    go_wp2_with fail
    go_region_with (first
      | (go_at_call 7; refine (C1.out _ hB7d.out).mono ?_; rintro e w8 ⟨ar, capr, rfl, ht8, hb8⟩; have x8 := (hb8.cell (p := ⟨w5.heap.size, 0, none⟩) hs7).trans x7; have ht78 : InsAt w8 w8.heap.size (.slice a5 T.length cap5) T := hT7.out.below (w' := w8) ⟨hb8.os, hb8.tape, hb8.output, hb8.size, hb8.block⟩; have hB8 : Below w.heap.size w w8 := hB7.drew.trans (hb8.mono hB7.size))
      | (go_at_call 9; refine (C2.out _ _ _ ht78 ht8).mono ?_; rintro e w9 ⟨rfl, hb9⟩; have hB9 : Below w.heap.size w w9 := hB8.trans (hb9.mono hB8.size)))
    all_goals
      go_wp2
      go_ret
      exact ⟨rfl, hB9⟩

namespace fnExactRunProgram
open Go.ChangeShapes Go.WideShapes Go.ChangeAt
open Go.ChangeMaps (open_string shut_string)

theorem own : ownKnob Tryd.prog.godebug = none := by kernel_rfl
theorem laidOut : laidOutB Tryd.prog = true := by kernel_rfl
theorem gTab : Tryd.prog.globalNamed "loop.example/g00333/impl.kindRows" = some 0 := by kernel_rfl
theorem gTabType : (Tryd.prog.globals[0]?).map (·.type) = some 125 := by kernel_rfl
theorem rowed : varsRowed Tryd.prog ["loop.example/g00333/impl.kindRows"] = true := by kernel_rfl

set_option maxRecDepth 100000 in
/-- what the row's list gives: the table's six cells -/
theorem row_cells {W : World} {H : Type} {enc : TypeId × Value → H} {sp : Nat → Bool} {hd : Bool} {base m : Nat} {cs : List Value} {x : DataW H × List MemPlace} {a : Int} {b c : Bool}
    (h : DataW.trod enc Tryd.prog W base sp hd m 119 cs = some x) (hx : x.1 = .agg [.lit (.int .i64 a), .lit (.bool b), .lit (.bool c)]) : cs = [.int .i64 a, .bool b, .bool c] := by
  obtain ⟨xs, m1, rfl, rfl, hlen, hn, hf⟩ := DataW.trod_struct Tryd.underlying119 h
  have c3 : Tryd.prog.cellsOf 3 = 1 := by kernel_rfl
  have c4 : Tryd.prog.cellsOf 4 = 1 := by kernel_rfl
  have c52 : Tryd.prog.cellsOf 119 = 3 := by kernel_rfl
  rw [c52] at hlen
  have f0 : DataW.trod enc Tryd.prog W base sp hd m1 3 ((cs.drop 0).take (Tryd.prog.cellsOf 3)) = xs[0]? := hf 0 _ rfl
  have f1 : DataW.trod enc Tryd.prog W base sp hd m1 4 ((cs.drop 1).take (Tryd.prog.cellsOf 4)) = xs[1]? := hf 1 _ rfl
  have f2 : DataW.trod enc Tryd.prog W base sp hd m1 4 ((cs.drop 2).take (Tryd.prog.cellsOf 4)) = xs[2]? := hf 2 _ rfl
  rw [c3] at f0
  rw [c4] at f1 f2
  match xs, hn with
  | [x0, x1, x2], _ =>
    simp only [List.map_cons, List.map_nil, DataW.agg.injEq, List.cons.injEq, and_true] at hx
    obtain ⟨e0, e1, e2⟩ := hx
    match cs, hlen with
    | [k0, k1, k2], _ =>
      obtain ⟨n, e3, e4, _⟩ := DataW.trod_int Tryd.underlying3 (show DataW.trod _ _ _ _ _ _ _ _ _ = some x0 from f0)
      obtain ⟨n1, e5, e6⟩ := DataW.trod_bool Tryd.underlying4 (show DataW.trod _ _ _ _ _ _ _ _ _ = some x1 from f1)
      obtain ⟨n2, e7, e8⟩ := DataW.trod_bool Tryd.underlying4 (show DataW.trod _ _ _ _ _ _ _ _ _ = some x2 from f2)
      simp at e3 e5 e7
      rw [e4] at e0
      rw [e6] at e1
      rw [e8] at e2
      simp at e0 e1 e2
      rw [e3, e5, e7, e0, e1, e2]

set_option maxRecDepth 100000 in
theorem table {W : World} (h : laidMetH Tryd.prog Rows.fnExactRunProgramRow.laid W) : KR W := by
  have h' : laidMet Tryd.prog [("loop.example/g00333/impl.kindRows", Rows.laid_loop_example_g00333_impl_kindRows)] W := h
  obtain ⟨ps, ⟨g', t', cs, fuel, p, q, hg', ht', hvar, hd, _, _⟩, _⟩ := h'
  obtain rfl := Option.some.inj (gTab.symm.trans hg')
  obtain rfl := Option.some.inj (gTabType.symm.trans ht')
  obtain ⟨xs, m, rfl, hx, hlen, hn, hf⟩ := DataW.trod_array Tryd.underlying125 hd
  have c52 : Tryd.prog.cellsOf 119 = 3 := by kernel_rfl
  have c62 : Tryd.prog.cellsOf 125 = 6 := by kernel_rfl
  rw [c62] at hlen
  have f0 := hf 0 (by omega)
  have f1 := hf 1 (by omega)
  rw [c52] at f0 f1
  have hx1 := congrArg Prod.fst hx
  match xs, hn with
  | [x0, x1], _ =>
    simp only [Rows.laid_loop_example_g00333_impl_kindRows, List.map_cons, List.map_nil, DataW.agg.injEq, List.cons.injEq, and_true] at hx1
    have r0 := row_cells (show DataW.trod _ _ _ _ _ _ _ _ _ = some x0 from f0) hx1.1.symm
    have r1 := row_cells (show DataW.trod _ _ _ _ _ _ _ _ _ = some x1 from f1) hx1.2.symm
    obtain ⟨l⟩ := cs
    dsimp only at hlen r0 r1
    match l, hlen with
    | [k0, k1, k2, k3, k4, k5], _ =>
      simp at r0 r1
      obtain ⟨rfl, rfl, rfl⟩ := r0
      obtain ⟨rfl, rfl, rfl⟩ := r1
      have c := World.var?_cell gTab hvar
      have c0 := c 0
      have hsz : 0 < W.heap.size := by
        have := World.block_lt_of_cell? W ⟨0, 0, none⟩ (u := .int .i64 0) (by simpa using c0)
        simpa using this
      refine ⟨hsz, by simpa using c0, by simpa using c 1, by simpa using c 2, by simpa using c 3, by simpa using c 4, by simpa using c 5⟩

set_option maxRecDepth 100000 in
/-- what the walk gives, for every filter, every text and every world that holds the table -/
theorem contract (H : Type) (enc : TypeId × Value → H) (W : World) (base : Nat) (args : Array Value) (ds gs : List (DataW H)) (before : List MemPlace)
    (hval : ∀ (j : Nat) t v, Tryd.f3.params[j]? = some t → args[j]? = some v → Value.okWide Tryd.prog W .any base t v)
    (hW : DataW.Whole enc Tryd.prog Tryd.f3.params.toList Rows.fnExactRunProgramSpec.vars false W args.toList ds gs before) (hL : laidMetH Tryd.prog Rows.fnExactRunProgramRow.laid W) :
    Calls Tryd.prog 3 args W fun e W' => ∃ v, e = .returned v ∧ Rows.fnExactRunProgramSpec.post enc Tryd.prog Tryd.f3 false true false false W args v W' := by
  have hW' := hW
  obtain ⟨p, q, hA0, hV, rfl, hfz, hnd⟩ := hW
  have hA : DataW.TrodAll enc Tryd.prog W 0 (fun _ => true) true Tryd.f3.params.toList args.toList ds p := hA0
  rw [Tryd.params3] at hA hval
  obtain ⟨v0, vs0, d0, ds0, p0, q0, hargs, rfl, rfl, h0, r0⟩ := trodAll_cons hA
  obtain ⟨v1, vs1, d1, ds1, p1, q1, rfl, rfl, rfl, h1, r1⟩ := trodAll_cons r0
  obtain ⟨rfl, rfl, rfl⟩ := trodAll_nil r1
  obtain rfl : args = #[v0, v1] := by cases args; simp_all
  have h0k := h0
  obtain ⟨v, T, rfl, hT⟩ := open_program (hval 0 24 v0 rfl rfl) h0
  obtain ⟨a0, rfl, rfl, rfl, w0⟩ := open_string Tryd.underlying9 (hval 1 9 v1 rfl rfl) h1
  clear hA0
  have hlt : ∀ x ∈ p0, x.block < W.heap.size := fun x hx => by
    have := hW'.lt x (by simp_all)
    simpa using this
  have hg1 : ∃ g1, gs = [g1] := by
    match gs, hV with
    | [g1], _ => exact ⟨g1, rfl⟩
  obtain ⟨g1, rfl⟩ := hg1
  refine (walkRunProgram T a0 v W hT w0 (table hL)).mono fun e W' ⟨he, hg⟩ => ?_
  subst he
  refine ⟨_, rfl, _, _, _, [], _, _, hW', trodAll_mk1 (shut_bool Tryd.underlying4 _), (trodAll_cons_mk (Below.trod laidOut (by kernel_rfl) (of_decide_eq_true (by kernel_rfl)) h0k hg hlt) (trodAll_cons_mk (shut_string Tryd.underlying9 w0) trodAll_mk0)), Below.trodVars laidOut hg rowed hV, hg.frame _, fun h => by cases h⟩

/-- a world for the witness: the settled one, the table holding what its initialiser lays -/
noncomputable def laidWorld (os : Os) : World :=
  { World.holding Tryd.prog os ⟨#[], #[], []⟩ with heap := (World.holding Tryd.prog os ⟨#[], #[], []⟩).heap.modify 0 fun
      | .cells _ t frozen => .cells #[.int .i64 0, .bool true, .bool false, .int .i64 2, .bool false, .bool true] t frozen
      | o => o }
set_option maxRecDepth 100000 in
theorem laid_met (os : Os) : laidMet Tryd.prog Rows.fnExactRunProgramRow.laid ((laidWorld os).forCall (fun _ _ => 0) ⟨#[], #[.agg #[.slice none 0 0], .string ByteArray.empty], []⟩).memory :=
  laidMet_of_run' 8 (by kernel_rfl) (by kernel_rfl)
set_option maxRecDepth 100000 in
theorem reads (os : Os) {H : Type} (enc : TypeId × Value → H) : ∃ places, DataW.whole enc Tryd.prog ((laidWorld os).forCall (fun _ _ => 0) ⟨#[], #[.agg #[.slice none 0 0], .string ByteArray.empty], []⟩).memory Tryd.f3.params.toList Rows.fnExactRunProgramSpec.vars false #[Value.agg #[.slice none 0 0], .string ByteArray.empty].toList 8 = some ([.agg [.nil], .lit (.string [])], [Rows.laid_loop_example_g00333_impl_kindRows], places) :=
  ⟨MemPlace.row ⟨0, 0, none⟩ 6, by kernel_rfl⟩

set_option maxRecDepth 100000 in
theorem lifted (os : Os) (started : os.Started) (H : Type) (enc : TypeId × Value → H) (F : Stop.Interp) :
    ReturnsInHanded {} Tryd.checked os 3 .any ((OpenSpec.ofChange Rows.fnExactRunProgramSpec).preRow enc Tryd.prog Tryd.f3 Rows.fnExactRunProgramRow.domain false Rows.fnExactRunProgramRow.laid) (((OpenSpec.ofChange Rows.fnExactRunProgramSpec).at F).post enc Tryd.prog Tryd.f3 false true false false) := by
  obtain ⟨places, hx⟩ := reads os enc
  refine returnsInHanded_of_row (C := Tryd.checked) (s := OpenSpec.ofChange Rows.fnExactRunProgramSpec) own started (by kernel_rfl) Tryd.func3
    (witness_row_at (enc := enc) (C := Tryd.checked) false (laidWorld os) #[.agg #[.slice none 0 0], .string ByteArray.empty] rfl (by kernel_rfl) (by kernel_rfl) (by kernel_rfl)
      (OpenSpec.preRow_of_cond 8 hx (by kernel_rfl) (fun k hk => by cases hk) (by kernel_rfl) (laid_met os))) ?_
  intro W base args ds gs before hval hW _ _ _ hL _ _
  exact contract H enc W base args ds gs before hval hW hL

theorem said : Rows.FnExactRunProgramSaid :=
  OpenClaim.holds_of_cond 3 Tryd.f3 rfl rfl rfl rfl rfl rfl rfl ⟨rfl, rfl, rfl, rfl, rfl⟩ rfl rfl rfl rfl rfl (by kernel_rfl) Tryd.func3 (by kernel_rfl)
    (of_decide_eq_true (by kernel_rfl)) (by unfold Func.isWrapper; first | (rw [if_pos (by decide +kernel)]; kernel_rfl) | (rw [if_neg (by decide +kernel)]; exact ⟨rfl, rfl⟩))
    (fun os started H enc _ F => by rw [OpenClaim.pre_eq_preRow]; exact lifted os started H enc F)

set_option maxRecDepth 100000 in
theorem plain (f : FuncId) (fn : Func) (hf : Tryd.pinned.checked.prog.funcNamed "loop.example/g00333/laws.FnExactRunProgram" = some f) (hfn : Tryd.pinned.checked.prog.funcs[f]? = some fn) :
    false = Tryd.pinned.checked.prog.looks [] ∧ ∀ (j : Nat) t, fn.params[j]? = some t → Tryd.pinned.checked.prog.wantsStandIn t = false := by
  obtain rfl : f = 3 := Option.some.inj ((show Tryd.prog.funcNamed "loop.example/g00333/laws.FnExactRunProgram" = some 3 by kernel_rfl).symm.trans hf) |>.symm
  obtain rfl : fn = Tryd.f3 := (Option.some.inj (Tryd.func3.symm.trans hfn)).symm
  refine ⟨by kernel_rfl, fun j t ht => ?_⟩
  rw [Tryd.params3] at ht
  have ht' : t = 24 ∨ t = 9 := by simpa using Array.mem_of_getElem? ht
  rcases ht' with rfl | rfl
  · exact (show Tryd.prog.wantsStandIn 24 = false by kernel_rfl)
  · exact (show Tryd.prog.wantsStandIn 9 = false by kernel_rfl)

theorem card : Rows.FnExactRunProgramCardSaid :=
  Claim7.holds_tied_plain_at .later [] _ _ _ _ said (fun _ h => by cases h) (by kernel_rfl) (fun _ h => by cases h) fnExactRunProgram_row_tie rfl ⟨rfl, rfl⟩ (by kernel_rfl) rfl plain (by kernel_rfl)

end fnExactRunProgram

theorem fnExactRunProgram_holds : Rows.FnExactRunProgramCardSaid := fnExactRunProgram.card
#print axioms fnExactRunProgram_holds
end Go.Proofs.YtpopjapcgcnnfaaDoor
