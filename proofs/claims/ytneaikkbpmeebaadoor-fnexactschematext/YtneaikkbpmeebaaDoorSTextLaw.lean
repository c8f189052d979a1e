/- Proved here: at every schema the law FnExactSchemaText answers true, that is, SchemaText answers as its model and writes into nothing.
   Conditions: none beside the row's own (three tables of the library start as the program's text lays them; the card ties them to the text; no call of the walk reads them). -/
import Derived.Test.YtneaikkbpmeebaaDoorCards
import Derived.Test.YtneaikkbpmeebaaDoorTie
import Derived.Test.YtneaikkbpmeebaaDoorSxJ
import Derived.Test.YtneaikkbpmeebaaDoorGq
import Derived.Test.YtneaikkbpmeebaaDoorLwO
import Derived.OpenShut
import Derived.ShutString
import Derived.OpenVars
import Derived.Deep.DeepHandedRow
import Derived.Lib.LaidTab
namespace Go.Proofs.YtneaikkbpmeebaaDoor
open Go.RowKit Plain Sch

set_option maxRecDepth 100000 in
set_option maxHeartbeats 4000000 in
theorem walkSchemaText (T : List Ty) (v : Value) (w : World) (hT : TysAt w w.heap.size v T) :
    Calls Tryd.prog 3 #[.agg #[v]] w fun e w' => e = .returned (.bool true) ∧ Below w.heap.size w w' := by
  have HT : Hid (TysAt w w.heap.size v T) := hT
  obtain ⟨ao, cap, rfl, _⟩ := hT
  have hB1 : Below w.heap.size w (w.alloc (.cells #[.slice ao T.length cap] 24)) := (Below.refl _ w).alloc (Nat.le_refl _) _
  have hX1 : Hid (TysAt (w.alloc (.cells #[.slice ao T.length cap] 24)) (w.alloc (.cells #[.slice ao T.length cap] 24)).heap.size (.slice ao T.length cap) T) := HT.out.below hB1
  go_enter Tryd.func3, Tryd.ntmps3
  go_wp2_with fail
  refine (szSchema_any T _ _ hX1.out).mono ?_
  rintro e w2 ⟨⟨r, rfl, hr0, hr1, hr2⟩, hb2⟩
  have hB2 : Below w.heap.size w w2 := hB1.trans (hb2.mono (by simp))
  have hs2 : w.heap.size < w2.heap.size := by have := hb2.size; simp at this; omega
  have q2 : w2.cell? ⟨w.heap.size, 0, none⟩ = some (.slice ao T.length cap) := (hb2.cell (p := ⟨w.heap.size, 0, none⟩) (by simp)).trans (by simp)
  clear hb2 hX1
  by_cases hneg : r < 0
  · clear hr2
    go_wp2
    go_ret
    exact ⟨rfl, hB2⟩
  · obtain ⟨hlen, hnames⟩ := hr2 (by omega)
    have HN : Hid (∀ i, i < T.length → (ty T i).name.size ≤ maxLen) := fun i hi => by have := hnames i hi; unfold maxLen; omega
    clear hr2 hnames
    go_wp2_with fail
    refine (toSchema_any T _ _ (HT.out.below hB2) hlen).mono ?_
    rintro e w3 ⟨r3, rfl, ho3, hb3⟩
    have hB3 : Below w.heap.size w w3 := hB2.trans (hb3.mono hB2.size)
    have hs3 : w.heap.size < w3.heap.size := by have := hb3.size; omega
    have q3 := (hb3.cell (p := ⟨w.heap.size, 0, none⟩) hs2).trans q2
    have hT3 : Hid (TysAt w3 w3.heap.size r3 T) := TysAt.own ho3 HN.out
    clear hb3 ho3 hB2 q2 hs2
    go_wp2_with fail
    refine (specSText T r3 _ hT3.out).mono ?_
    rintro e w4 ⟨rfl, hb4⟩
    have hB4 : Below w.heap.size w w4 := hB3.trans (hb4.mono hB3.size)
    have hs4 : w.heap.size < w4.heap.size := by have := hb4.size; omega
    have q4 := (hb4.cell (p := ⟨w.heap.size, 0, none⟩) hs3).trans q3
    clear hb4 hT3 hB3 q3 hs3
    go_wp2_with fail
    refine (toSchema_any T _ _ (HT.out.below hB4) hlen).mono ?_
    rintro e w5 ⟨r5, rfl, ho5, hb5⟩
    have hB5 : Below w.heap.size w w5 := hB4.trans (hb5.mono hB4.size)
    have hs5 : w.heap.size < w5.heap.size := by have := hb5.size; omega
    have q5 := (hb5.cell (p := ⟨w.heap.size, 0, none⟩) hs4).trans q4
    have hT5 : Hid (TysAt w5 w5.heap.size r5 T) := TysAt.own ho5 HN.out
    obtain ⟨a5, cap5, hr5⟩ : ∃ ao cap, r5 = Value.slice ao T.length cap := by
      rcases ho5.2 with ⟨rfl, h0⟩ | ⟨g, cap, _, rfl, _⟩
      · exact ⟨none, 0, by rw [h0]⟩
      · exact ⟨_, _, rfl⟩
    subst hr5
    clear hb5 ho5 hB4 q4 hs4
    have hB6 : Below w5.heap.size w5 (w5.alloc (.cells #[.slice a5 T.length cap5] 30)) := (Below.refl _ w5).alloc (Nat.le_refl _) _
    have hT6 : Hid (TysAt (w5.alloc (.cells #[.slice a5 T.length cap5] 30)) (w5.alloc (.cells #[.slice a5 T.length cap5] 30)).heap.size (.slice a5 T.length cap5) T) := hT5.out.below hB6
    go_wp2_with fail
    refine (implSText T _ _ hT6.out).mono ?_
    rintro e w7 ⟨rfl, hb7⟩
    have hB7 : Below w.heap.size w w7 := (hB5.alloc hB5.size _).trans (hb7.mono (by simp; omega))
    have hs7 : w5.heap.size < w7.heap.size := by have := hb7.size; simp at this; omega
    have hs7' : w.heap.size < w7.heap.size := by omega
    have q7 := (hb7.cell (p := ⟨w.heap.size, 0, none⟩) (by simp; omega)).trans ((hB6.cell (p := ⟨w.heap.size, 0, none⟩) hs5).trans q5)
    have x7 : w7.cell? ⟨w5.heap.size, 0, none⟩ = some (.slice a5 T.length cap5) := (hb7.cell (p := ⟨w5.heap.size, 0, none⟩) (by simp)).trans (by simp)
    have hT7 : Hid (TysAt w7 w7.heap.size (.slice a5 T.length cap5) T) := hT6.out.below hb7
    clear hb7 hT5 hT6 hB6 q5
    generalize sofT T = bb
    obtain ⟨tt, bb⟩ := bb
    dsimp only
    have C1 : Hid (∀ W : World, Below w.heap.size w W → Calls Tryd.prog 6 #[.agg #[.slice ao T.length cap]] W fun e w' => ∃ ar capr, e = .returned (.agg #[.slice ar T.length capr]) ∧ TysAt w' w'.heap.size (.slice ar T.length capr) T ∧ Below W.heap.size W w') := fun W hW => by
      refine (toSchema_any T _ W (HT.out.below hW) hlen).mono ?_
      rintro e w' ⟨r, rfl, ho, hb⟩
      have ht := TysAt.own ho HN.out
      obtain ⟨ar, capr, rfl, _⟩ := id ht
      exact ⟨ar, capr, rfl, ht, hb⟩
    have C2 : Hid (∀ (W : World) (v1 v2 : Value), TysAt W W.heap.size v1 T → TysAt W W.heap.size v2 T → Calls Tryd.prog 8 #[.agg #[v1], .agg #[v2]] W fun e w' => e = .returned (.bool true) ∧ Below W.heap.size W w') := fun W v1 v2 h1 h2 => eqSchema_same T v1 v2 W h1 h2 (by omega)
    have hB7d : Hid (Below w.heap.size w w7.drew) := hB7.drew
    go_wp2_with fail
    go_region_with (first
      | (go_at_call 6; refine (C1.out _ hB7d.out).mono ?_; rintro e w8 ⟨ar, capr, rfl, ht8, hb8⟩; have x8 := (hb8.cell (p := ⟨w5.heap.size, 0, none⟩) hs7).trans x7; have ht78 : TysAt w8 w8.heap.size (.slice a5 T.length cap5) T := hT7.out.below (w' := w8) ⟨hb8.os, hb8.tape, hb8.output, hb8.size, hb8.block⟩; have hB8 : Below w.heap.size w w8 := hB7.drew.trans (hb8.mono hB7.size))
      | (go_at_call 8; refine (C2.out _ _ _ ht78 ht8).mono ?_; rintro e w9 ⟨rfl, hb9⟩; have hB9 : Below w.heap.size w w9 := hB8.trans (hb9.mono hB8.size)))
    all_goals
      go_wp2
      go_ret
      exact ⟨rfl, hB9⟩

namespace fnExactSchemaText
open Go.ChangeShapes Go.WideShapes Go.ChangeAt

theorem own : ownKnob Tryd.prog.godebug = none := by kernel_rfl
theorem laidOut : laidOutB Tryd.prog = true := by kernel_rfl

set_option maxRecDepth 100000 in
/-- what the walk gives, for every term -/
theorem contract (H : Type) (enc : TypeId × Value → H) (W : World) (base : Nat) (args : Array Value) (ds gs : List (DataW H)) (before : List MemPlace)
    (hval : ∀ (j : Nat) t v, Tryd.f3.params[j]? = some t → args[j]? = some v → Value.okWide Tryd.prog W .any base t v)
    (hW : DataW.Whole enc Tryd.prog Tryd.f3.params.toList Rows.fnExactSchemaTextSpec.vars false W args.toList ds gs before) :
    Calls Tryd.prog 3 args W fun e W' => ∃ v, e = .returned v ∧ Rows.fnExactSchemaTextSpec.post enc Tryd.prog Tryd.f3 false true false false W args v W' := by
  have hW' := hW
  obtain ⟨p, q, hA0, hV, rfl, hfz, hnd⟩ := hW
  have hA : DataW.TrodAll enc Tryd.prog W 0 (fun _ => true) true Tryd.f3.params.toList args.toList ds p := hA0
  rw [Tryd.params3] at hA hval
  obtain ⟨v0, vs0, d0, ds0, p0, q0, hargs, rfl, rfl, h0, r0⟩ := trodAll_cons hA
  obtain ⟨rfl, rfl, rfl⟩ := trodAll_nil r0
  obtain rfl : args = #[v0] := by cases args; simp_all
  obtain ⟨rfl, rfl⟩ := trodVars_none hV
  have h0k := h0
  obtain ⟨v, T, rfl, hT⟩ := open_schema (hval 0 24 v0 rfl rfl) h0
  clear hA0
  have hlt : ∀ x ∈ p0, x.block < W.heap.size := fun x hx => by
    have := hW'.lt x (by simp_all)
    simpa using this
  refine (walkSchemaText T v W hT).mono fun e W' ⟨he, hg⟩ => ?_
  subst he
  exact ⟨_, rfl, _, _, _, [], _, [], hW', trodAll_mk1 (shut_bool Tryd.underlying4 _), (trodAll_cons_mk (Below.trod laidOut (by kernel_rfl) (of_decide_eq_true (by kernel_rfl)) h0k hg hlt) trodAll_mk0), rfl, hg.frame _, fun h => by cases h⟩

/-- a block with these cells in it -/
def tabled (c : Array Value) : Obj → Obj
  | .cells _ t frozen => .cells c t frozen
  | o => o

/-- a world for the witness: the settled one, the tables holding what their initialisers lay -/
noncomputable def laidWorld (os : Os) : World :=
  { World.holding Tryd.prog os ⟨#[], #[], []⟩ with heap := (((World.holding Tryd.prog os ⟨#[], #[], []⟩).heap.modify 0 (tabled #[.int .u64 1, .int .u64 10, .int .u64 100, .int .u64 1000, .int .u64 10000, .int .u64 100000, .int .u64 1000000, .int .u64 10000000, .int .u64 100000000, .int .u64 1000000000, .int .u64 10000000000, .int .u64 100000000000, .int .u64 1000000000000, .int .u64 10000000000000, .int .u64 100000000000000, .int .u64 1000000000000000, .int .u64 10000000000000000, .int .u64 100000000000000000, .int .u64 1000000000000000000, .int .u64 10000000000000000000])).modify 1 (tabled #[.int .u8 0, .int .u8 1, .int .u8 28, .int .u8 2, .int .u8 29, .int .u8 14, .int .u8 24, .int .u8 3, .int .u8 30, .int .u8 22, .int .u8 20, .int .u8 15, .int .u8 25, .int .u8 17, .int .u8 4, .int .u8 8, .int .u8 31, .int .u8 27, .int .u8 13, .int .u8 23, .int .u8 21, .int .u8 19, .int .u8 16, .int .u8 7, .int .u8 26, .int .u8 12, .int .u8 18, .int .u8 6, .int .u8 11, .int .u8 5, .int .u8 10, .int .u8 9])).modify 2 (tabled #[.int .u8 0, .int .u8 1, .int .u8 56, .int .u8 2, .int .u8 57, .int .u8 49, .int .u8 28, .int .u8 3, .int .u8 61, .int .u8 58, .int .u8 42, .int .u8 50, .int .u8 38, .int .u8 29, .int .u8 17, .int .u8 4, .int .u8 62, .int .u8 47, .int .u8 59, .int .u8 36, .int .u8 45, .int .u8 43, .int .u8 51, .int .u8 22, .int .u8 53, .int .u8 39, .int .u8 33, .int .u8 30, .int .u8 24, .int .u8 18, .int .u8 12, .int .u8 5, .int .u8 63, .int .u8 55, .int .u8 48, .int .u8 27, .int .u8 60, .int .u8 41, .int .u8 37, .int .u8 16, .int .u8 46, .int .u8 35, .int .u8 44, .int .u8 21, .int .u8 52, .int .u8 32, .int .u8 23, .int .u8 11, .int .u8 54, .int .u8 26, .int .u8 40, .int .u8 15, .int .u8 34, .int .u8 20, .int .u8 31, .int .u8 10, .int .u8 25, .int .u8 14, .int .u8 19, .int .u8 9, .int .u8 13, .int .u8 8, .int .u8 7, .int .u8 6]) }
theorem laid_met (os : Os) : laidMet Tryd.prog Rows.fnExactSchemaTextRow.laid ((laidWorld os).forCall (fun _ _ => 0) ⟨#[], #[.agg #[.slice none 0 0]], []⟩).memory :=
  laidMet_of_run' 8 (by kernel_rfl) (by kernel_rfl)
theorem reads (os : Os) {H : Type} (enc : TypeId × Value → H) : ∃ places, DataW.whole enc Tryd.prog ((laidWorld os).forCall (fun _ _ => 0) ⟨#[], #[.agg #[.slice none 0 0]], []⟩).memory Tryd.f3.params.toList Rows.fnExactSchemaTextSpec.vars false #[Value.agg #[.slice none 0 0]].toList 8 = some ([.agg [.nil]], [], places) :=
  ⟨[], by kernel_rfl⟩

set_option maxRecDepth 100000 in
theorem lifted (os : Os) (started : os.Started) (H : Type) (enc : TypeId × Value → H) (FI : Stop.Interp) :
    ReturnsInHanded {} Tryd.checked os 3 .any ((OpenSpec.ofChange Rows.fnExactSchemaTextSpec).preRow enc Tryd.prog Tryd.f3 Rows.fnExactSchemaTextRow.domain false Rows.fnExactSchemaTextRow.laid) (((OpenSpec.ofChange Rows.fnExactSchemaTextSpec).at FI).post enc Tryd.prog Tryd.f3 false true false false) := by
  obtain ⟨places, hx⟩ := reads os enc
  refine returnsInHanded_of_row (C := Tryd.checked) (s := OpenSpec.ofChange Rows.fnExactSchemaTextSpec) own started (by kernel_rfl) Tryd.func3
    (witness_row_at (enc := enc) (C := Tryd.checked) false (laidWorld os) #[.agg #[.slice none 0 0]] rfl (by kernel_rfl) (by kernel_rfl) (by kernel_rfl)
      (OpenSpec.preRow_of_cond 8 hx (by kernel_rfl) (fun k hk => by cases hk) (by kernel_rfl) (laid_met os))) ?_
  intro W base args ds gs before hval hW _ _ _ hL _ _
  exact contract H enc W base args ds gs before hval hW

theorem said : Rows.FnExactSchemaTextSaid :=
  OpenClaim.holds_of_cond 3 Tryd.f3 rfl rfl rfl rfl rfl rfl rfl ⟨rfl, rfl, rfl, rfl, rfl⟩ rfl rfl rfl rfl rfl (by kernel_rfl) Tryd.func3 (by kernel_rfl)
    (of_decide_eq_true (by kernel_rfl)) (by unfold Func.isWrapper; first | (rw [if_pos (by decide +kernel)]; kernel_rfl) | (rw [if_neg (by decide +kernel)]; exact ⟨rfl, rfl⟩))
    (fun os started H enc _ FI => by rw [OpenClaim.pre_eq_preRow]; exact lifted os started H enc FI)

theorem plain (f : FuncId) (fn : Func) (hf : Tryd.pinned.checked.prog.funcNamed "loop.example/g00333/laws.FnExactSchemaText" = some f) (hfn : Tryd.pinned.checked.prog.funcs[f]? = some fn) :
    true = Tryd.pinned.checked.prog.looks [] ∧ ∀ (j : Nat) t, fn.params[j]? = some t → Tryd.pinned.checked.prog.wantsStandIn t = false := by
  obtain rfl : f = 3 := Option.some.inj ((show Tryd.prog.funcNamed "loop.example/g00333/laws.FnExactSchemaText" = some 3 by kernel_rfl).symm.trans hf) |>.symm
  obtain rfl : fn = Tryd.f3 := (Option.some.inj (Tryd.func3.symm.trans hfn)).symm
  refine ⟨by kernel_rfl, fun j t ht => ?_⟩
  rw [Tryd.params3] at ht
  obtain rfl : t = 24 := by simpa using Array.mem_of_getElem? ht
  exact (show Tryd.prog.wantsStandIn 24 = false by kernel_rfl)

theorem card : Rows.FnExactSchemaTextCardSaid :=
  Claim7.holds_tied_plain_at .later [] _ _ _ _ said (fun _ h => by cases h) (by kernel_rfl) (fun _ h => by cases h) fnExactSchemaText_row_tie rfl ⟨rfl, rfl⟩ (by kernel_rfl) rfl plain (by kernel_rfl)

end fnExactSchemaText

theorem fnExactSchemaText_holds : Rows.FnExactSchemaTextCardSaid := fnExactSchemaText.card
#print axioms fnExactSchemaText_holds
end Go.Proofs.YtneaikkbpmeebaaDoor
