/- Proved here: at every list of subs and every topic the law FnExactWhoGets answers true, that is, WhoGets answers as its model, its answer owns its memory, and it writes into nothing.
   Conditions: none beside the row's own (two tables of the library start as the program's text lays them; the card ties them to the text; no call of the walk reads them). -/
import Derived.Test.YtndeikgkncfmbaaDoorCards
import Derived.Test.YtndeikgkncfmbaaDoorTie
import Derived.Test.YtndeikgkncfmbaaDoorToY
import Derived.Test.YtndeikgkncfmbaaDoorSbW
import Derived.Test.YtndeikgkncfmbaaDoorSbT
import Derived.Test.YtndeikgkncfmbaaDoorSbO
import Derived.Test.YtndeikgkncfmbaaDoorMarkSb
import Derived.Test.YtndeikgkncfmbaaDoorMarkI
import Derived.OpenShut
import Derived.ShutString
import Derived.OpenVars
import Derived.Deep.DeepHandedRow
import Derived.Lib.LaidTab
import Derived.ChangeMaps5
namespace Go.Proofs.YtndeikgkncfmbaaDoor
open Go.RowKit Plain Tpc

theorem NtAt.ints {w : World} {B : Nat} {v : Value} {l : List Nat} (h : NtAt w B v l) : IntsAt w B v l := by
  obtain ⟨ao, cap, hv, hm, hc, hr⟩ := h
  exact ⟨ao, cap, hv, by omega, hr⟩

theorem own_aside {w w' : World} {B e size n : Nat} {v : Value} {xs : List Value} {row : Option Nat} (h : w.ownsRow B e size v n xs) (hg : w.grownBy w' row) (hne : ∀ g, v.ownBlock = some g → some g ≠ row) : w'.ownsRow B e size v n xs := by
  have hlt := h.lt
  refine ⟨h.1, ?_⟩
  rcases h.2 with hn | ⟨g, cap, cur, hv, hgB, hgg, rest⟩
  · exact .inl hn
  · refine .inr ⟨g, cap, cur, hv, hgB, (hg.block g (hlt g (by rw [hv]; rfl)).2 (hne g (by rw [hv]; rfl))).trans hgg, rest⟩

theorem own_sl {w : World} {B e size n : Nat} {v : Value} {xs : List Value} (h : w.ownsRow B e size v n xs) : ∃ ao cap, v = Value.slice ao n cap := by
  rcases h.2 with ⟨rfl, h0⟩ | ⟨g, cap, _, rfl, _⟩
  · exact ⟨none, 0, by rw [h0]⟩
  · exact ⟨_, _, rfl⟩

set_option maxRecDepth 100000 in
set_option maxHeartbeats 8000000 in
theorem walkWhoGets (T : List Sb) (v : Value) (t : ByteArray) (w : World) (hT : SbsAt w w.heap.size v T) (hm : t.size ≤ maxLen) :
    Calls Tryd.prog 10 #[v, .string t] w fun e w' => e = .returned (.bool true) ∧ Below w.heap.size w w' := by
  unfold maxLen at hm
  have HT : Hid (SbsAt w w.heap.size v T) := hT
  obtain ⟨ao, cap, rfl, _⟩ := hT
  by_cases hbig : 1048576 < t.size
  · have d : decide ((1048576 : Int) < (t.size : Int)) = true := by simp; omega
    go_enter Tryd.func10, Tryd.ntmps10
    go_wp2
    go_ret
    exact ⟨rfl, Below.refl _ _⟩
  have d : decide ((1048576 : Int) < (t.size : Int)) = false := by simp; omega
  have ht : t.size ≤ 1048576 := by omega
  have hfl := wgo_len T t
  clear hbig
  go_enter Tryd.func10, Tryd.ntmps10
  go_wp2_with fail
  refine (szSubS_left T _ 1048576 _ HT.out (by omega) (by omega)).mono ?_
  rintro e w2 ⟨⟨r, rfl, hr0, hr1, hr2⟩, hB2⟩
  by_cases hneg : r < 0
  · clear hr2
    go_wp2
    go_ret
    exact ⟨rfl, hB2⟩
  obtain ⟨hlen, hnames⟩ := hr2 (by omega)
  have HN : Hid (∀ i, i < T.length → (sb T i).pat.size ≤ 1048576) := hnames
  have C1 : Hid (∀ W : World, Below w.heap.size w W → Calls Tryd.prog 25 #[.slice ao T.length cap] W fun e w' => ∃ ar capr, e = .returned (.slice ar T.length capr) ∧ SbsAt w' w'.heap.size (.slice ar T.length capr) T ∧ w'.ownsRow W.heap.size 66 2 (.slice ar T.length capr) T.length (T.flatMap Sb.cells) ∧ Below W.heap.size W w') := fun W hW => by
    refine (toSubS_any T _ W (HT.out.below hW) hlen).mono ?_
    rintro e w' ⟨r, rfl, ho, hb⟩
    have ht := SbsAt.own ho (fun i hi => by have := HN.out i hi; unfold maxLen; omega)
    obtain ⟨ar, capr, rfl⟩ := own_sl ho
    exact ⟨ar, capr, rfl, ht, ho, hb⟩
  have C2 : Hid (∀ (W : World) (v1 v2 : Value), SbsAt W W.heap.size v1 T → SbsAt W W.heap.size v2 T → Calls Tryd.prog 28 #[v1, v2] W fun e w' => e = .returned (.bool true) ∧ Below W.heap.size W w') := fun W v1 v2 h1 h2 => eqSubS_same T v1 v2 W h1 h2 (by omega)
  have CS : Hid (∀ (W : World) (v : Value), SbsAt W W.heap.size v T → Calls Tryd.prog 32 #[v, .string t] W fun e w' => ONt W w' e (wgo T t)) := fun W v h => specWho T t v W h hlen HN.out ht
  have CI : Hid (∀ (W : World) (v : Value), SbsAt W W.heap.size v T → Calls Tryd.prog 33 #[v, .string t] W fun e w' => OWho W w' e (wgo T t)) := fun W v h => implWho T t v W h HN.out ht
  obtain ⟨⟨l, ok⟩, hR⟩ : ∃ R, wgo T t = R := ⟨_, rfl⟩
  rw [hR] at CS CI hfl
  dsimp only at hfl
  have hmx : l.length ≤ maxLen := by unfold maxLen; omega
  have nok : (ok != ok) = false := bne_self_eq_false ok
  clear hR hr2 hnames
  go_wp2_with fail
  refine (C1.out _ hB2).mono ?_
  rintro e w3 ⟨a3, cap3, rfl, ht3, ho3, hb3⟩
  have hB3 : Below w.heap.size w w3 := hB2.trans (hb3.mono hB2.size)
  have HT3 : Hid (SbsAt w3 w3.heap.size (.slice a3 T.length cap3) T) := ht3
  clear hb3 ho3 hB2 ht3
  go_wp2_with fail
  refine (CS.out _ _ HT3.out).mono ?_
  rintro e w4 ⟨⟨v1, rfl, hn4⟩, hb4⟩
  dsimp only
  have hB4 : Below w.heap.size w w4 := hB3.trans (hb4.mono hB3.size)
  have hi4 : Hid (IntsAt w4 w4.heap.size v1 l) := hn4.ints
  obtain ⟨a4, c4, rfl, _⟩ := hn4
  clear hb4 HT3 hB3 CS
  go_wp2_with fail
  refine (C1.out _ hB4).mono ?_
  rintro e w5 ⟨a5, cap5, rfl, ht5, ho5, hb5⟩
  have HT5 : Hid (SbsAt w5 w5.heap.size (.slice a5 T.length cap5) T) := ht5
  have HO5 : Hid (w5.ownsRow w4.heap.size 66 2 (.slice a5 T.length cap5) T.length (T.flatMap Sb.cells)) := ho5
  have HX5 : Hid (Below w4.heap.size w4 w5) := hb5
  have HO5b : Hid (∀ g, (Value.slice a5 T.length cap5).ownBlock = some g → w4.heap.size ≤ g ∧ g < w5.heap.size) := fun g hg => ho5.lt g hg
  have hs5 := hb5.size
  clear hb5 ho5 ht5
  go_wp2_with fail
  refine (CI.out _ _ HT5.out).mono ?_
  rintro e w7 ⟨v2, rfl, ho7, hb7⟩
  dsimp only
  have HX7 : Hid (Below w4.heap.size w4 w7) := HX5.out.trans (hb7.mono hs5)
  have HO7 : Hid (w7.ownsRow w4.heap.size 66 2 (.slice a5 T.length cap5) T.length (T.flatMap Sb.cells)) := own_belowS HO5.out hb7
  have HV7 : Hid (w7.ownsRow w5.heap.size 3 1 v2 l.length (ints l)) := ho7
  have hi7 : Hid (IntsAt w7 w7.heap.size v2 l) := IntsAt.own ho7 hmx
  have HT7 : Hid (SbsAt w7 w7.heap.size (.slice a5 T.length cap5) T) := HT5.out.below hb7
  have hs7 := hb7.size
  obtain ⟨a7, c7, hv2⟩ := own_sl ho7
  have hv2' : v2 = .slice a7 l.length c7 := hv2
  clear hv2
  subst hv2'
  clear hb7 ho7 HX5 HO5 HT5
  go_wp2_with fail
  refine (eqIntS_same l _ _ _ hi7.out (hi4.out.below HX7.out) (by omega)).mono ?_
  rintro e w8 ⟨rfl, hb8⟩
  have HX8 : Hid (Below w4.heap.size w4 w8) := HX7.out.trans (hb8.mono HX7.out.size)
  have HO8 : Hid (w8.ownsRow w4.heap.size 66 2 (.slice a5 T.length cap5) T.length (T.flatMap Sb.cells)) := own_belowS HO7.out hb8
  have HV8 : Hid (w8.ownsRow w5.heap.size 3 1 (.slice a7 l.length c7) l.length (ints l)) := own_belowS HV7.out hb8
  have HT8 : Hid (SbsAt w8 w8.heap.size (.slice a5 T.length cap5) T) := HT7.out.below hb8
  have hB8 : Below w.heap.size w w8 := hB4.trans (HX8.out.mono hB4.size)
  have hs8 := hb8.size
  clear hb8 HX7 HO7 HV7 hi7 HT7
  go_wp2_with fail
  refine (C1.out _ hB8).mono ?_
  rintro e w9 ⟨a9, c9, rfl, ht9, ho9, hb9⟩
  have HT9 : Hid (SbsAt w9 w9.heap.size (.slice a9 T.length c9) T) := ht9
  have HT89 : Hid (SbsAt w9 w9.heap.size (.slice a5 T.length cap5) T) := HT8.out.below hb9
  have HX9 : Hid (Below w4.heap.size w4 w9) := HX8.out.trans (hb9.mono HX8.out.size)
  have HO9 : Hid (w9.ownsRow w4.heap.size 66 2 (.slice a5 T.length cap5) T.length (T.flatMap Sb.cells)) := own_belowS HO8.out hb9
  have HV9 : Hid (w9.ownsRow w5.heap.size 3 1 (.slice a7 l.length c7) l.length (ints l)) := own_belowS HV8.out hb9
  have hs9 := hb9.size
  clear hb9 ho9 ht9 HX8 HO8 HV8 HT8 hB8
  go_wp2_with fail
  refine (C2.out _ _ _ HT89.out HT9.out).mono ?_
  rintro e w10 ⟨rfl, hb10⟩
  have HX10 : Hid (Below w4.heap.size w4 w10) := HX9.out.trans (hb10.mono HX9.out.size)
  have HO10 : Hid (w10.ownsRow w4.heap.size 66 2 (.slice a5 T.length cap5) T.length (T.flatMap Sb.cells)) := own_belowS HO9.out hb10
  have HV10 : Hid (w10.ownsRow w5.heap.size 3 1 (.slice a7 l.length c7) l.length (ints l)) := own_belowS HV9.out hb10
  have hs10 := hb10.size
  clear hb10 HX9 HO9 HV9 HT9 HT89 C2
  go_wp2_with fail
  refine (markSb_any w4.heap.size T.length 1 _ _ _ HO10.out (by omega) (by omega) (by omega)).mono ?_
  rintro e w11 ⟨rfl, ⟨ys11, hy11, hm11⟩, hg11⟩
  clear hy11 hm11
  have HX11 : Hid (Below w4.heap.size w4 w11) := HX10.out.grown hg11 HX10.out.size (fun k hk => (HO5b.out k hk).1)
  have HV11 : Hid (w11.ownsRow w5.heap.size 3 1 (.slice a7 l.length c7) l.length (ints l)) := own_aside HV10.out hg11 (fun g hg e => by have h1 := (HV10.out.lt g hg).1; have h2 := (HO5b.out g e.symm).2; omega)
  have hi11 : Hid (IntsAt w11 w11.heap.size (.slice a7 l.length c7) l) := IntsAt.own HV11.out hmx
  have hk11 : (0 : Int) ≤ ((1 + T.length * 2 : Nat) : Int) := by omega
  clear hg11 HX10 HO10 HV10
  go_wp2_with fail
  refine (eqIntS_same l _ _ _ hi11.out (hi4.out.below HX11.out) (by omega)).mono ?_
  rintro e w12 ⟨rfl, hb12⟩
  have HX12 : Hid (Below w4.heap.size w4 w12) := HX11.out.trans (hb12.mono HX11.out.size)
  have HV12 : Hid (w12.ownsRow w5.heap.size 3 1 (.slice a7 l.length c7) l.length (ints l)) := own_belowS HV11.out hb12
  clear hb12 HX11 HV11 hi11
  go_wp2_with fail
  refine (markIntS_any w5.heap.size l.length 1 _ _ w12 HV12.out (by omega) (by omega)).mono ?_
  rintro e w13 ⟨rfl, ⟨ys13, ho13, hm13⟩, hb13⟩
  have HX13 : Hid (Below w4.heap.size w4 w13) := HX12.out.trans (hb13.mono hs5)
  have HM13 : Hid (IntsAt w13 w13.heap.size (.slice a7 l.length c7) ((List.range l.length).map (1 + ·))) := markedInts ho13 hm13 hmx
  clear ho13 hm13 hb13 HX12 HV12
  go_wp2_with fail
  refine (heldIntS_any l.length 1 _ _ HM13.out (by omega) (by omega)).mono ?_
  rintro e w14 ⟨rfl, hb14⟩
  have HX14 : Hid (Below w4.heap.size w4 w14) := HX13.out.trans (hb14.mono HX13.out.size)
  have HM14 : Hid (IntsAt w14 w14.heap.size (.slice a7 l.length c7) ((List.range l.length).map (1 + ·))) := HM13.out.below hb14
  clear hb14 HX13 HM13
  go_wp2_with fail
  refine (C1.out _ (hB4.trans (HX14.out.mono hB4.size))).mono ?_
  rintro e w15 ⟨a15, cap15, rfl, ht15, ho15, hb15⟩
  have HT15 : Hid (SbsAt w15 w15.heap.size (.slice a15 T.length cap15) T) := ht15
  have HX15 : Hid (Below w4.heap.size w4 w15) := HX14.out.trans (hb15.mono HX14.out.size)
  have HM15 : Hid (IntsAt w15 w15.heap.size (.slice a7 l.length c7) ((List.range l.length).map (1 + ·))) := HM14.out.below hb15
  clear hb15 ht15 ho15 HX14 HM14
  go_wp2_with fail
  refine (CI.out _ _ HT15.out).mono ?_
  rintro e w16 ⟨v3, rfl, ho16, hb16⟩
  dsimp only
  have hi16 : Hid (IntsAt w16 w16.heap.size v3 l) := IntsAt.own ho16 hmx
  have HX16 : Hid (Below w4.heap.size w4 w16) := HX15.out.trans (hb16.mono HX15.out.size)
  have HM16 : Hid (IntsAt w16 w16.heap.size (.slice a7 l.length c7) ((List.range l.length).map (1 + ·))) := HM15.out.below hb16
  obtain ⟨a16, c16, hv3⟩ := own_sl ho16
  have hv3' : v3 = .slice a16 l.length c16 := hv3
  clear hv3
  subst hv3'
  clear hb16 ho16 HX15 HM15 HT15
  go_wp2_with fail
  refine (eqIntS_same l _ _ _ hi16.out (hi4.out.below HX16.out) (by omega)).mono ?_
  rintro e w17 ⟨rfl, hb17⟩
  have HX17 : Hid (Below w4.heap.size w4 w17) := HX16.out.trans (hb17.mono HX16.out.size)
  have HM17 : Hid (IntsAt w17 w17.heap.size (.slice a7 l.length c7) ((List.range l.length).map (1 + ·))) := HM16.out.below hb17
  clear hb17 HX16 HM16 hi16
  go_wp2_with fail
  refine (heldIntS_any l.length 1 _ _ HM17.out (by omega) (by omega)).mono ?_
  rintro e w18 ⟨rfl, hb18⟩
  have hB18 : Below w.heap.size w w18 := hB4.trans ((HX17.out.trans (hb18.mono HX17.out.size)).mono hB4.size)
  clear hb18 HX17 HM17
  go_wp2
  go_ret
  exact ⟨rfl, hB18⟩

namespace fnExactWhoGets
open Go.ChangeShapes Go.WideShapes Go.ChangeAt

theorem own : ownKnob Tryd.prog.godebug = none := by kernel_rfl
theorem laidOut : laidOutB Tryd.prog = true := by kernel_rfl

set_option maxRecDepth 100000 in
/-- what the walk gives, for every text -/
theorem contract (H : Type) (enc : TypeId × Value → H) (W : World) (base : Nat) (args : Array Value) (ds gs : List (DataW H)) (before : List MemPlace)
    (hval : ∀ (j : Nat) t v, Tryd.f10.params[j]? = some t → args[j]? = some v → Value.okWide Tryd.prog W .any base t v)
    (hW : DataW.Whole enc Tryd.prog Tryd.f10.params.toList Rows.fnExactWhoGetsSpec.vars false W args.toList ds gs before) :
    Calls Tryd.prog 10 args W fun e W' => ∃ v, e = .returned v ∧ Rows.fnExactWhoGetsSpec.post enc Tryd.prog Tryd.f10 false true false false W args v W' := by
  have hW' := hW
  obtain ⟨p, q, hA0, hV, rfl, hfz, hnd⟩ := hW
  have hA : DataW.TrodAll enc Tryd.prog W 0 (fun _ => true) true Tryd.f10.params.toList args.toList ds p := hA0
  rw [Tryd.params10] at hA hval
  obtain ⟨v0, vs0, d0, ds0, p0, q0, hargs, rfl, rfl, h0, r0⟩ := trodAll_cons hA
  obtain ⟨v1, vs1, d1, ds1, p1, q1, rfl, rfl, rfl, h1, r1⟩ := trodAll_cons r0
  obtain ⟨rfl, rfl, rfl⟩ := trodAll_nil r1
  obtain rfl : args = #[v0, v1] := by cases args; simp_all
  obtain ⟨rfl, rfl⟩ := trodVars_none hV
  obtain ⟨a0, len0, cap0, rfl⟩ := okWide_slice Tryd.underlying30 (hval 0 30 v0 rfl rfl)
  have k0 := h0
  have lt0 : ∀ x ∈ p0, x.block < W.heap.size := by obtain ⟨m, hm⟩ := k0; exact DataW.trod_lt m _ _ _ hm
  obtain ⟨T, hT⟩ := open_subs h0 rfl
  obtain ⟨t, rfl, rfl, rfl, ht⟩ := ChangeMaps.open_string Tryd.underlying9 (hval 1 9 v1 rfl rfl) h1
  refine (walkWhoGets T _ t W hT ht).mono fun e W' ⟨he, hg⟩ => ?_
  subst he
  exact ⟨_, rfl, _, _, _, [], _, [], hW', trodAll_mk1 (shut_bool Tryd.underlying4 _), (trodAll_cons_mk (Below.trod laidOut (by kernel_rfl) (of_decide_eq_true (by kernel_rfl)) k0 hg lt0) (trodAll_cons_mk (ChangeMaps.shut_string Tryd.underlying9 ht) trodAll_mk0)), rfl, hg.frame _, fun h => by cases h⟩

/-- a block with these cells in it -/
def tabled (c : Array Value) : Obj → Obj
  | .cells _ t frozen => .cells c t frozen
  | o => o

/-- a world for the witness: the settled one, the tables holding what their initialisers lay -/
noncomputable def laidWorld (os : Os) : World :=
  { World.holding Tryd.prog os ⟨#[], #[], []⟩ with heap := ((World.holding Tryd.prog os ⟨#[], #[], []⟩).heap.modify 1 (tabled (Go.Pinned.utf8FirstZ.map fun (x : Nat) => Value.int .u8 (x : Int)).toArray)).modify 2 (tabled #[.int .u8 128, .int .u8 191, .int .u8 160, .int .u8 191, .int .u8 128, .int .u8 159, .int .u8 144, .int .u8 191, .int .u8 128, .int .u8 143, .int .u8 0, .int .u8 0, .int .u8 0, .int .u8 0, .int .u8 0, .int .u8 0, .int .u8 0, .int .u8 0, .int .u8 0, .int .u8 0, .int .u8 0, .int .u8 0, .int .u8 0, .int .u8 0, .int .u8 0, .int .u8 0, .int .u8 0, .int .u8 0, .int .u8 0, .int .u8 0, .int .u8 0, .int .u8 0]) }
set_option maxRecDepth 100000 in
theorem laid_met (os : Os) : laidMet Tryd.prog Rows.fnExactWhoGetsRow.laid ((laidWorld os).forCall (fun _ _ => 0) ⟨#[], #[.slice none 0 0, .string ByteArray.empty], []⟩).memory :=
  laidMet_of_run' 8 (by kernel_rfl) (by kernel_rfl)
set_option maxRecDepth 100000 in
theorem reads (os : Os) {H : Type} (enc : TypeId × Value → H) : ∃ places, DataW.whole enc Tryd.prog ((laidWorld os).forCall (fun _ _ => 0) ⟨#[], #[.slice none 0 0, .string ByteArray.empty], []⟩).memory Tryd.f10.params.toList Rows.fnExactWhoGetsSpec.vars false #[Value.slice none 0 0, .string ByteArray.empty].toList 8 = some ([.nil, .lit (.string [])], [], places) :=
  ⟨[], by kernel_rfl⟩

set_option maxRecDepth 100000 in
theorem lifted (os : Os) (started : os.Started) (H : Type) (enc : TypeId × Value → H) (FI : Stop.Interp) :
    ReturnsInHanded {} Tryd.checked os 10 .any ((OpenSpec.ofChange Rows.fnExactWhoGetsSpec).preRow enc Tryd.prog Tryd.f10 Rows.fnExactWhoGetsRow.domain false Rows.fnExactWhoGetsRow.laid) (((OpenSpec.ofChange Rows.fnExactWhoGetsSpec).at FI).post enc Tryd.prog Tryd.f10 false true false false) := by
  obtain ⟨places, hx⟩ := reads os enc
  refine returnsInHanded_of_row (C := Tryd.checked) (s := OpenSpec.ofChange Rows.fnExactWhoGetsSpec) own started (by kernel_rfl) Tryd.func10
    (witness_row_at (enc := enc) (C := Tryd.checked) false (laidWorld os) #[.slice none 0 0, .string ByteArray.empty] rfl (by kernel_rfl) (by kernel_rfl) (by kernel_rfl)
      (OpenSpec.preRow_of_cond 8 hx (by kernel_rfl) (fun k hk => by cases hk) (by kernel_rfl) (laid_met os))) ?_
  intro W base args ds gs before hval hW _ _ _ hL _ _
  exact contract H enc W base args ds gs before hval hW

set_option maxRecDepth 100000 in
theorem said : Rows.FnExactWhoGetsSaid :=
  OpenClaim.holds_of_cond 10 Tryd.f10 rfl rfl rfl rfl rfl rfl rfl ⟨rfl, rfl, rfl, rfl, rfl⟩ rfl rfl rfl rfl rfl (by kernel_rfl) Tryd.func10 (by kernel_rfl)
    (of_decide_eq_true (by kernel_rfl)) (by unfold Func.isWrapper; first | (rw [if_pos (by decide +kernel)]; kernel_rfl) | (rw [if_neg (by decide +kernel)]; exact ⟨rfl, rfl⟩))
    (fun os started H enc _ FI => by rw [OpenClaim.pre_eq_preRow]; exact lifted os started H enc FI)

set_option maxRecDepth 100000 in
theorem plain (f : FuncId) (fn : Func) (hf : Tryd.pinned.checked.prog.funcNamed "loop.example/g00333/laws.FnExactWhoGets" = some f) (hfn : Tryd.pinned.checked.prog.funcs[f]? = some fn) :
    false = Tryd.pinned.checked.prog.looks [] ∧ ∀ (j : Nat) t, fn.params[j]? = some t → Tryd.pinned.checked.prog.wantsStandIn t = false := by
  obtain rfl : f = 10 := Option.some.inj ((show Tryd.prog.funcNamed "loop.example/g00333/laws.FnExactWhoGets" = some 10 by kernel_rfl).symm.trans hf) |>.symm
  obtain rfl : fn = Tryd.f10 := (Option.some.inj (Tryd.func10.symm.trans hfn)).symm
  refine ⟨by kernel_rfl, fun j t ht => ?_⟩
  rw [Tryd.params10] at ht
  rcases j with _ | _ | j
  · obtain rfl : t = 30 := by simpa using ht.symm
    exact (show Tryd.prog.wantsStandIn 30 = false by kernel_rfl)
  · obtain rfl : t = 9 := by simpa using ht.symm
    exact (show Tryd.prog.wantsStandIn 9 = false by kernel_rfl)
  · simp at ht

set_option maxRecDepth 100000 in
theorem card : Rows.FnExactWhoGetsCardSaid :=
  Claim7.holds_tied_plain_at .later [] _ _ _ _ said (fun _ h => by cases h) (by kernel_rfl) (fun _ h => by cases h) fnExactWhoGets_row_tie rfl ⟨rfl, rfl⟩ (by kernel_rfl) rfl plain (by kernel_rfl)

end fnExactWhoGets

theorem fnExactWhoGets_holds : Rows.FnExactWhoGetsCardSaid := fnExactWhoGets.card
#print axioms fnExactWhoGets_holds
end Go.Proofs.YtndeikgkncfmbaaDoor
