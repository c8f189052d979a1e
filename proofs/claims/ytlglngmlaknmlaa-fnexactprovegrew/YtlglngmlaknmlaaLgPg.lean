/- Proved here: at every list of texts and every int the law FnExactProveGrew answers true, that is, ProveGrew answers as its model, its answer owns its memory, and it writes into nothing.
   Conditions: none beside the row's own. -/
import Derived.Test.YtlglngmlaknmlaaLgGc
import Derived.Test.YtlglngmlaknmlaaLgY
import Derived.OpenShut
import Derived.ShutString
import Derived.ChangeMaps5
namespace Go.Proofs.Ytlglngmlaknmlaa
open Go.RowKit Plain Tpc Lgs

theorem pgr_len (T : List ByteArray) (k : Int) : (pgr T k).1.length ≤ 100 := by
  unfold pgr
  split
  · exact Nat.le_trans (groF_le 41 _ _ _) (by omega)
  · exact Nat.zero_le _

set_option maxRecDepth 100000 in
set_option maxHeartbeats 8000000 in
theorem walkFnExactProveGrew (T : List ByteArray) (k : Int) (v : Value) (w : World) (hT : StAt w w.heap.size v T) (hN : ∀ i, i < T.length → (lq T i).size ≤ 9223372036854775807) :
    Calls Try.prog 9 #[v, .int .i64 k] w fun e w' => e = .returned (.bool true) ∧ Below w.heap.size w w' := by
  have HT : Hid (StAt w w.heap.size v T) := hT
  have HN : Hid (∀ i, i < T.length → (lq T i).size ≤ 9223372036854775807) := hN
  obtain ⟨ao, cap, rfl, _⟩ := hT
  clear hN
  go_enter Try.func9, Try.ntmps9
  go_wp2_with fail
  refine (szTexts_left T _ 1048576 _ HT.out HN.out (by omega) (by omega)).mono ?_
  rintro e w2 ⟨⟨r, rfl, hr0, hr1, hr2⟩, h2⟩
  have h2 := h2.symm
  subst h2
  by_cases hneg : r < 0
  · clear hr2
    go_wp2
    go_ret
    exact ⟨rfl, Below.refl _ _⟩
  have hlen := (hr2 (by omega)).1
  clear hr2
  have C1 : Hid (∀ W : World, Below w.heap.size w W → Calls Try.prog 21 #[.slice ao T.length cap] W fun e w' => ∃ ar capr, e = .returned (.slice ar T.length capr) ∧ StAt w' w'.heap.size (.slice ar T.length capr) T ∧ StRow w' W.heap.size (.slice ar T.length capr) T ∧ Below W.heap.size W w') := fun W hW => by
    refine (toTexts_any T _ W (HT.out.below hW) hlen).mono ?_
    rintro e w' ⟨r, rfl, ho, hb⟩
    have ht := StAt.own ho
    obtain ⟨ar, capr, rfl⟩ := ho.slice
    exact ⟨ar, capr, rfl, ht, ho, hb⟩
  have C2 : Hid (∀ (W : World) (v1 v2 : Value), StAt W W.heap.size v1 T → StAt W W.heap.size v2 T → Calls Try.prog 23 #[v1, v2] W fun e w' => e = .returned (.bool true) ∧ Below W.heap.size W w') := fun W v1 v2 h1 h2 => eqTexts_same T v1 v2 W h1 h2 (by omega)
  have CS : Hid (∀ (W : World) (v : Value), StAt W W.heap.size v T → Calls Try.prog 34 #[v, .int .i64 k] W fun e w' => OPr W w' e (pgr T k)) := fun W v h => specProveGrew T k v W h
  have CI : Hid (∀ (W : World) (v : Value), StAt W W.heap.size v T → Calls Try.prog 35 #[v, .int .i64 k] W fun e w' => OPr W w' e (pgr T k)) := fun W v h => implProveGrew T k v W h HN.out
  have hfl := pgr_len T k
  obtain ⟨⟨l, ok⟩, hR⟩ : ∃ R, pgr T k = R := ⟨_, rfl⟩
  rw [hR] at CS CI hfl
  dsimp only at hfl
  clear hR
  obtain ⟨z, hz⟩ : ∃ z, zl l = z := ⟨_, rfl⟩
  have hzl : z.length ≤ 100 := by rw [← hz, zl_len]; exact hfl
  have CS : Hid (∀ (W : World) (v : Value), StAt W W.heap.size v T → Calls Try.prog 34 #[v, .int .i64 k] W fun e w' => (∃ a c, e = .returned (.tuple #[.agg #[.slice a z.length c], .bool ok]) ∧ ZRow w' W.heap.size (.slice a z.length c) z) ∧ Below W.heap.size W w') := fun W v h => (CS.out W v h).mono fun e w' h => by
    obtain ⟨⟨u, he, hr⟩, hb⟩ := h
    rw [hz] at hr
    obtain ⟨a, c, rfl⟩ := hr.slice
    exact ⟨⟨a, c, he, hr⟩, hb⟩
  have CI : Hid (∀ (W : World) (v : Value), StAt W W.heap.size v T → Calls Try.prog 35 #[v, .int .i64 k] W fun e w' => (∃ a c, e = .returned (.tuple #[.agg #[.slice a z.length c], .bool ok]) ∧ ZRow w' W.heap.size (.slice a z.length c) z) ∧ Below W.heap.size W w') := fun W v h => (CI.out W v h).mono fun e w' h => by
    obtain ⟨⟨u, he, hr⟩, hb⟩ := h
    rw [hz] at hr
    obtain ⟨a, c, rfl⟩ := hr.slice
    exact ⟨⟨a, c, he, hr⟩, hb⟩
  clear hz hfl
  have nok : (ok != ok) = false := bne_self_eq_false ok
  have hmx : z.length ≤ maxLen := by unfold maxLen; omega
  have EQ : Hid (∀ (W : World) (v1 v2 : Value), ZAt W W.heap.size v1 z → ZAt W W.heap.size v2 z → Calls Try.prog 26 #[.agg #[v1], .agg #[v2]] W fun e w' => e = .returned (.bool true) ∧ Below W.heap.size W w') := fun W v1 v2 h1 h2 => eqProof_same z v1 v2 W h1 h2 (by omega)
  go_wp2_with fail
  refine (C1.out _ (Below.refl _ _)).mono ?_
  rintro e w3 ⟨a3, cap3, rfl, ht3, _, hb3⟩
  have HB3 : Hid (Below w.heap.size w w3) := hb3
  have HT3 : Hid (StAt w3 w3.heap.size (.slice a3 T.length cap3) T) := ht3
  clear hb3 ht3
  go_wp2_with fail
  refine (CS.out _ _ HT3.out).mono ?_
  rintro e w4 ⟨⟨a4, c4, rfl, hr4⟩, hb4⟩
  have HB4 : Hid (Below w.heap.size w w4) := HB3.out.trans (hb4.mono HB3.out.size)
  obtain ⟨U, hU⟩ : ∃ W, W = w4.alloc (.cells #[.slice a4 z.length c4] 37) := ⟨_, rfl⟩
  have hBU : Below w4.heap.size w4 U := by rw [hU]; exact (Below.refl _ w4).alloc (Nat.le_refl _) _
  have hsU : U.heap.size = w4.heap.size + 1 := by rw [hU]; simp
  have HBU : Hid (Below w.heap.size w U) := HB4.out.trans (hBU.mono HB4.out.size)
  have HZ4 : Hid (ZAt U U.heap.size (.slice a4 z.length c4) z) := ZAt.own (hr4.below hBU)
  have X6 : Hid (U.cell? ⟨w4.heap.size, 0, none⟩ = some (.slice a4 z.length c4)) := by show _ = _; rw [hU]; go_simp
  have KU : Hid (∀ W : World, Below U.heap.size U W → W.cell? ⟨w4.heap.size, 0, none⟩ = some (.slice a4 z.length c4) ∧ ZAt W W.heap.size (.slice a4 z.length c4) z ∧ Below w.heap.size w W ∧ w4.heap.size < W.heap.size) := fun W hW => ⟨(hW.cell (p := ⟨w4.heap.size, 0, none⟩) (by show w4.heap.size < _; omega)).trans X6.out, HZ4.out.below hW, HBU.out.trans (hW.mono HBU.out.size), by have := hW.size; omega⟩
  have y6 := X6.out
  clear hb4 hr4 hBU HB3 HT3 CS HB4 HZ4 X6
  go_upto_region 6 with fail
  rw [← hU]
  clear hU
  go_wp2_with fail
  refine (C1.out _ HBU.out).mono ?_
  rintro e w5 ⟨a5, cap5, rfl, ht5, ho5, hb5⟩
  have HT5 : Hid (StAt w5 w5.heap.size (.slice a5 T.length cap5) T) := ht5
  have HO5 : Hid (StRow w5 U.heap.size (.slice a5 T.length cap5) T) := ho5
  have HO5b : Hid (∀ g, (Value.slice a5 T.length cap5).ownBlock = some g → U.heap.size ≤ g ∧ g < w5.heap.size) := fun g hg => World.ownsRow.lt ho5 g hg
  have HX5 : Hid (Below U.heap.size U w5) := hb5
  have hs5 := hb5.size
  clear hb5 ho5 ht5 y6
  go_wp2_with fail
  refine (CI.out _ _ HT5.out).mono ?_
  rintro e w7 ⟨⟨a7, c7, rfl, hr7⟩, hb7⟩
  have hs7 := hb7.size
  obtain ⟨V, hV⟩ : ∃ W, W = w7.alloc (.cells #[.slice a7 z.length c7] 37) := ⟨_, rfl⟩
  have hBV : Below w7.heap.size w7 V := by rw [hV]; exact (Below.refl _ w7).alloc (Nat.le_refl _) _
  have hsV : V.heap.size = w7.heap.size + 1 := by rw [hV]; simp
  have HBV : Hid (Below w5.heap.size w5 V) := hb7.trans (hBV.mono hs7)
  have HXV : Hid (Below U.heap.size U V) := HX5.out.trans (HBV.out.mono hs5)
  have HRV : Hid (ZRow V w5.heap.size (.slice a7 z.length c7) z) := hr7.below hBV
  have HRVb : Hid (∀ g, (Value.slice a7 z.length c7).ownBlock = some g → w5.heap.size ≤ g ∧ g < w7.heap.size) := fun g hg => World.ownsRow.lt hr7 g hg
  have HOV : Hid (StRow V U.heap.size (.slice a5 T.length cap5) T) := (HO5.out.below hb7).below hBV
  have X9 : Hid (V.cell? ⟨w7.heap.size, 0, none⟩ = some (.slice a7 z.length c7)) := by show _ = _; rw [hV]; go_simp
  have KV : Hid (∀ W : World, Below V.heap.size V W → W.cell? ⟨w7.heap.size, 0, none⟩ = some (.slice a7 z.length c7) ∧ ZRow W w5.heap.size (.slice a7 z.length c7) z ∧ StRow W U.heap.size (.slice a5 T.length cap5) T ∧ Below U.heap.size U W ∧ w7.heap.size < W.heap.size) := fun W hW => ⟨(hW.cell (p := ⟨w7.heap.size, 0, none⟩) (by show w7.heap.size < _; omega)).trans X9.out, HRV.out.below hW, HOV.out.below hW, HXV.out.trans (hW.mono HXV.out.size), by have := hW.size; omega⟩
  have hsUV : U.heap.size ≤ V.heap.size := HXV.out.size
  clear hb7 hr7 hBV HT5 HO5 HX5 HBV HRV HOV X9
  go_upto_region 8 with fail
  rw [← hV]
  clear hV
  have kv := KV.out V (Below.refl _ _)
  have ku := KU.out V HXV.out
  have y9 := kv.1
  have y6 := ku.1
  have l6 := ku.2.2.2
  have l9 := kv.2.2.2.2
  have CE : Hid (Calls Try.prog 26 #[.agg #[.slice a7 z.length c7], .agg #[.slice a4 z.length c4]] V fun e w' => e = .returned (.bool true) ∧ Below V.heap.size V w') := EQ.out V _ _ (ZAt.own kv.2.1) ku.2.1
  clear kv ku
  go_wp2_with fail
  refine CE.out.mono ?_
  rintro e w8 ⟨rfl, hb8⟩
  have HV8 : Hid (Below V.heap.size V w8) := hb8
  clear hb8 CE y9 y6 l6 l9
  go_wp2_with fail
  refine (C1.out _ ((KU.out _ ((KV.out _ HV8.out).2.2.2.1)).2.2.1)).mono ?_
  rintro e w9 ⟨a9, c9, rfl, ht9, _, hb9⟩
  have HV9 : Hid (Below V.heap.size V w9) := HV8.out.trans (hb9.mono HV8.out.size)
  have HT9 : Hid (StAt w9 w9.heap.size (.slice a9 T.length c9) T) := ht9
  clear hb9 ht9 HV8
  go_wp2_with fail
  refine (C2.out _ _ _ (StAt.own (KV.out _ HV9.out).2.2.1) HT9.out).mono ?_
  rintro e w10 ⟨rfl, hb10⟩
  have HV10 : Hid (Below V.heap.size V w10) := HV9.out.trans (hb10.mono HV9.out.size)
  clear hb10 HT9 C2 HV9
  go_wp2_with fail
  refine (markTexts_any U.heap.size T.length 1 _ _ _ (KV.out _ HV10.out).2.2.1 (by omega) (by omega) (by omega)).mono ?_
  rintro e w11 ⟨rfl, hg11⟩
  have hfar5 : ∀ j, U.heap.size > j ∨ w5.heap.size ≤ j → some j ≠ (Value.slice a5 T.length cap5).ownBlock := fun j hj e => by
    have h := HO5b.out j e.symm
    omega
  have HX11 : Hid (Below U.heap.size U w11) := (KV.out _ HV10.out).2.2.2.1.grown hg11 (KV.out _ HV10.out).2.2.2.1.size (fun k hk => (HO5b.out k hk).1)
  have hl10 := (KV.out _ HV10.out).2.2.2.2
  have HC11 : Hid (w11.cell? ⟨w7.heap.size, 0, none⟩ = some (.slice a7 z.length c7)) := (hg11.cell_far ⟨w7.heap.size, 0, none⟩ hl10 (hfar5 _ (.inr hs7))).trans (KV.out _ HV10.out).1
  have HR11 : Hid (ZRow w11 w5.heap.size (.slice a7 z.length c7) z) := (KV.out _ HV10.out).2.1.aside hg11 (fun g hg => hfar5 g (.inr (HRVb.out g hg).1))
  have hl11 : w7.heap.size < w11.heap.size := by have := hg11.size; omega
  have hk11 : (0 : Int) ≤ ((1 + T.length : Nat) : Int) := by omega
  have y6 := (KU.out _ HX11.out).1
  have l6 := (KU.out _ HX11.out).2.2.2
  have y9 := HC11.out
  have CE : Hid (Calls Try.prog 26 #[.agg #[.slice a7 z.length c7], .agg #[.slice a4 z.length c4]] w11 fun e w' => e = .returned (.bool true) ∧ Below w11.heap.size w11 w') := EQ.out w11 _ _ (ZAt.own HR11.out) (KU.out _ HX11.out).2.1
  clear hg11 HV10 KV HXV hl10
  go_wp2_with fail
  refine CE.out.mono ?_
  rintro e w12 ⟨rfl, hb12⟩
  have HX12 : Hid (Below U.heap.size U w12) := HX11.out.trans (hb12.mono HX11.out.size)
  have HC12 : Hid (w12.cell? ⟨w7.heap.size, 0, none⟩ = some (.slice a7 z.length c7)) := (hb12.cell (p := ⟨w7.heap.size, 0, none⟩) hl11).trans HC11.out
  have HR12 : Hid (ZRow w12 w5.heap.size (.slice a7 z.length c7) z) := HR11.out.below hb12
  have hl12 : w7.heap.size < w12.heap.size := by have := hb12.size; omega
  have y9 := HC12.out
  clear hb12 HX11 HC11 HR11 CE y6 l6 hl11
  go_wp2_with fail
  refine (markProof_any w5.heap.size z.length 1 _ _ w12 HR12.out (by omega) (by omega)).mono ?_
  rintro e w13 ⟨rfl, ⟨ys13, ho13, hm13⟩, hg13⟩
  have HX13 : Hid (Below U.heap.size U w13) := HX12.out.grown hg13 HX12.out.size (fun k hk => by have := (HRVb.out k hk).1; omega)
  have HM13 : Hid (IntsAt w13 w13.heap.size (.slice a7 z.length c7) ((List.range z.length).map (1 + ·))) := markedInts ho13 hm13 hmx
  have HC13 : Hid (w13.cell? ⟨w7.heap.size, 0, none⟩ = some (.slice a7 z.length c7)) := (hg13.cell_far ⟨w7.heap.size, 0, none⟩ hl12 (fun e => Nat.lt_irrefl w7.heap.size (HRVb.out _ e.symm).2)).trans HC12.out
  have hl13 : w7.heap.size < w13.heap.size := by have := hg13.size; omega
  have y9 := HC13.out
  clear ho13 hm13 hg13 HX12 HC12 HR12 hl12
  go_wp2_with fail
  refine (heldProof_any z.length 1 _ _ HM13.out (by omega) (by omega)).mono ?_
  rintro e w14 ⟨rfl, hb14⟩
  have HX14 : Hid (Below U.heap.size U w14) := HX13.out.trans (hb14.mono HX13.out.size)
  have HM14 : Hid (IntsAt w14 w14.heap.size (.slice a7 z.length c7) ((List.range z.length).map (1 + ·))) := HM13.out.below hb14
  have HC14 : Hid (w14.cell? ⟨w7.heap.size, 0, none⟩ = some (.slice a7 z.length c7)) := (hb14.cell (p := ⟨w7.heap.size, 0, none⟩) hl13).trans HC13.out
  have hl14 : w7.heap.size < w14.heap.size := by have := hb14.size; omega
  clear hb14 HX13 HM13 HC13 y9 hl13
  go_wp2_with fail
  refine (C1.out _ (KU.out _ HX14.out).2.2.1).mono ?_
  rintro e w15 ⟨a15, cap15, rfl, ht15, _, hb15⟩
  have HT15 : Hid (StAt w15 w15.heap.size (.slice a15 T.length cap15) T) := ht15
  have HX15 : Hid (Below U.heap.size U w15) := HX14.out.trans (hb15.mono HX14.out.size)
  have HM15 : Hid (IntsAt w15 w15.heap.size (.slice a7 z.length c7) ((List.range z.length).map (1 + ·))) := HM14.out.below hb15
  have HC15 : Hid (w15.cell? ⟨w7.heap.size, 0, none⟩ = some (.slice a7 z.length c7)) := (hb15.cell (p := ⟨w7.heap.size, 0, none⟩) hl14).trans HC14.out
  have hl15 : w7.heap.size < w15.heap.size := by have := hb15.size; omega
  clear hb15 ht15 HX14 HM14 HC14 hl14
  go_wp2_with fail
  refine (CI.out _ _ HT15.out).mono ?_
  rintro e w16 ⟨⟨a16, c16, rfl, hr16⟩, hb16⟩
  obtain ⟨Y, hY⟩ : ∃ W, W = w16.alloc (.cells #[.slice a16 z.length c16] 37) := ⟨_, rfl⟩
  have hBY : Below w16.heap.size w16 Y := by rw [hY]; exact (Below.refl _ w16).alloc (Nat.le_refl _) _
  have hs16 := hb16.size
  have HBY : Hid (Below w15.heap.size w15 Y) := hb16.trans (hBY.mono hs16)
  have HXY : Hid (Below U.heap.size U Y) := HX15.out.trans (HBY.out.mono HX15.out.size)
  have HMY : Hid (IntsAt Y Y.heap.size (.slice a7 z.length c7) ((List.range z.length).map (1 + ·))) := HM15.out.below HBY.out
  have HCY : Hid (Y.cell? ⟨w7.heap.size, 0, none⟩ = some (.slice a7 z.length c7)) := (HBY.out.cell (p := ⟨w7.heap.size, 0, none⟩) hl15).trans HC15.out
  have hlY : w7.heap.size < Y.heap.size := by have := HBY.out.size; omega
  have y14 : Y.cell? ⟨w16.heap.size, 0, none⟩ = some (.slice a16 z.length c16) := by rw [hY]; go_simp
  have l14 : w16.heap.size < Y.heap.size := by rw [hY]; simp
  have CE : Hid (Calls Try.prog 26 #[.agg #[.slice a16 z.length c16], .agg #[.slice a4 z.length c4]] Y fun e w' => e = .returned (.bool true) ∧ Below Y.heap.size Y w') := EQ.out Y _ _ (ZAt.own (hr16.below hBY)) (KU.out _ HXY.out).2.1
  clear hb16 hr16 hBY HX15 HM15 HC15 HT15 HBY hl15
  go_upto_region 25 with fail
  rw [← hY]
  clear hY
  have y6 := (KU.out _ HXY.out).1
  have l6 := (KU.out _ HXY.out).2.2.2
  go_wp2_with fail
  refine CE.out.mono ?_
  rintro e w17 ⟨rfl, hb17⟩
  have HX17 : Hid (Below U.heap.size U w17) := HXY.out.trans (hb17.mono HXY.out.size)
  have HM17 : Hid (IntsAt w17 w17.heap.size (.slice a7 z.length c7) ((List.range z.length).map (1 + ·))) := HMY.out.below hb17
  have y9 : w17.cell? ⟨w7.heap.size, 0, none⟩ = some (.slice a7 z.length c7) := (hb17.cell (p := ⟨w7.heap.size, 0, none⟩) hlY).trans HCY.out
  have hl17 : w7.heap.size < w17.heap.size := by have := hb17.size; omega
  clear hb17 HXY HMY HCY CE y6 l6 y14 l14 hlY
  go_wp2_with fail
  refine (heldProof_any z.length 1 _ _ HM17.out (by omega) (by omega)).mono ?_
  rintro e w18 ⟨rfl, hb18⟩
  have hB18 : Below w.heap.size w w18 := (KU.out _ (HX17.out.trans (hb18.mono HX17.out.size))).2.2.1
  clear hb18 HX17 HM17
  go_wp2
  go_ret
  exact ⟨rfl, hB18⟩

namespace fnExactProveGrew
open Go.ChangeShapes Go.WideShapes Go.ChangeAt

theorem own : ownKnob Try.prog.godebug = none := by kernel_rfl
theorem laidOut : laidOutB Try.prog = true := by kernel_rfl

set_option maxRecDepth 100000 in
theorem lifted (os : Os) (started : os.Started) (H : Type) (enc : TypeId × Value → H) :
    ReturnsInHanded {} Try.checked os 9 .any (Rows.fnExactProveGrewSpec.pre6 enc Try.prog Try.f9 Rows.fnExactProveGrewRow.domain false) (Rows.fnExactProveGrewSpec.post enc Try.prog Try.f9 false true false false) := by
  refine returnsInHanded_of_change (C := Try.checked) own started (by kernel_rfl) Try.func9
    (ChangeSpec.witness6 (enc := enc) (C := Try.checked) false ⟨#[], #[.slice none 0 0, .int .i64 0], []⟩ 8 (by kernel_rfl) (by kernel_rfl) (by kernel_rfl) (by kernel_rfl)) ?_
  intro W base args ds gs before hval0 hW hcnd _
  have hval : ∀ (j : Nat) t v, Try.f9.params[j]? = some t → args[j]? = some v → Value.okWide Try.prog W .any base t v := hval0
  have hW' := hW
  obtain ⟨p, q, hA0, hV, rfl, hfz, hnd⟩ := hW
  have hA : DataW.TrodAll enc Try.prog W 0 (fun _ => true) true Try.f9.params.toList args.toList ds p := hA0
  rw [Try.params9] at hA hval
  obtain ⟨v0, vs0, d0, ds0, p0, q0, hargs, rfl, rfl, h0, r0⟩ := trodAll_cons hA
  obtain ⟨v1, vs1, d1, ds1, p1, q1, rfl, rfl, rfl, h1, r1⟩ := trodAll_cons r0
  obtain ⟨rfl, rfl, rfl⟩ := trodAll_nil r1
  obtain rfl : args = #[v0, v1] := by cases args; simp_all
  obtain ⟨rfl, rfl⟩ := trodVars_none hV
  have h0k := h0
  obtain ⟨T, hT, hN⟩ := open_texts (hval 0 29 v0 rfl rfl) h0
  obtain ⟨k, rfl, rfl, rfl, wk⟩ := open_int Try.underlying3 (hval 1 3 v1 rfl rfl) h1
  clear hA0 hval0
  have hlt : ∀ x ∈ p0, x.block < W.heap.size := fun x hx => by
    have := hW'.lt x (by simp_all)
    simpa using this
  refine (walkFnExactProveGrew T k v0 W hT hN).mono fun e W' ⟨he, hg⟩ => ?_
  subst he
  exact ⟨_, rfl, _, _, _, [], _, [], hW', trodAll_mk1 (shut_bool Try.underlying4 _), (trodAll_cons_mk (Below.trod laidOut (by kernel_rfl) (of_decide_eq_true (by kernel_rfl)) h0k hg hlt) (trodAll_cons_mk (shut_int Try.underlying3 wk) trodAll_mk0)), rfl, hg.frame _, fun h => by cases h⟩

theorem over : Rows.fnExactProveGrewRow.holds Try.pinned (OpenSpec.ofChange Rows.fnExactProveGrewSpec) :=
  OpenClaim.holds_of_wide 9 Try.f9 rfl rfl rfl rfl rfl rfl rfl ⟨rfl, rfl, rfl, rfl, rfl⟩ rfl rfl rfl rfl rfl (by kernel_rfl) Try.func9 (by kernel_rfl)
    (of_decide_eq_true (by kernel_rfl)) (by unfold Func.isWrapper; first | (rw [if_pos (by decide +kernel)]; kernel_rfl) | (rw [if_neg (by decide +kernel)]; exact ⟨rfl, rfl⟩))
    (fun os started H enc _ => lifted os started H enc)

end fnExactProveGrew

theorem fnExactProveGrew_holds : Rows.FnExactProveGrewSaid := fnExactProveGrew.over
#print axioms fnExactProveGrew_holds
end Go.Proofs.Ytlglngmlaknmlaa
