/- A reader fed: what it tells; the program's FeedReader. -/
import Derived.Test.YtcpjbacjmmbabaaFxP
namespace Go.Proofs.Ytcpjbacjmmbabaa
open Go.RowKit Plain Tpc Frm
attribute [local go_sem ↓] Go.wp_at_zero Go.wp_at_succ

/-- what FeedReader tells -/
def fdK (r : Rdr) (s : ByteArray) : Bool := gdr r && decide (s.size ≤ 300)
def fdG (r : Rdr) (s : ByteArray) : Rdr := if r.bad = true then r else ⟨tx (unR (ul r.rest ++ ul s)), (r.got ++ unT (ul r.rest ++ ul s)).take 40, unB (ul r.rest ++ ul s)⟩
def fdR (r : Rdr) (s : ByteArray) : Rdr := if fdK r s = true then fdG r s else rzero
def FeO (w w' : World) (e : Ending) (r : Rdr) (s : ByteArray) : Prop := ∃ v, e = .returned (.tuple #[(fdR r s).val v, .bool (fdK r s)]) ∧ RdO w w' v (fdR r s)

theorem FeO.no {w w' : World} {r : Rdr} {s : ByteArray} (h : fdK r s = false) (hb : Below w.heap.size w w') : FeO w w' (.returned (.tuple #[.agg #[.string ⟨#[]⟩, .slice none 0 0, .bool false], .bool false])) r s := by
  unfold FeO fdR
  rw [h]
  exact ⟨_, rfl, ⟨rfl, .inl ⟨rfl, rfl⟩⟩, hb⟩

theorem FeO.yes {w w' : World} {r : Rdr} {s : ByteArray} {v : Value} (h : fdK r s = true) (hr : StRow w' w.heap.size v (fdG r s).got) (hb : Below w.heap.size w w') : FeO w w' (.returned (.tuple #[.agg #[.string (fdG r s).rest, v, .bool (fdG r s).bad], .bool true])) r s := by
  unfold FeO fdR
  rw [h]
  exact ⟨_, rfl, hr, hb⟩

/-- a reading that begins with what is left -/
theorem Um.begin {W : World} {B : Nat} {vr : Value} {l : List UInt8} (h : GRow W B vr l) (bad : Bool) (t : TypeId) : Um (W.alloc (.cells #[.slice none 0 0, vr, .bool bad] t)) W.heap.size B (.slice none 0 0) vr [] l bad :=
  ⟨by simp, by simp, by simp, by simp, by simp, by simp, by simp, ⟨rfl, .inl ⟨rfl, rfl⟩⟩, h.alloc _, fun g hg => by simp [Value.ownBlock] at hg, fun g hg => by have := (h.lt g hg).2; omega, fun g hg => by simp [Value.ownBlock] at hg⟩

/-- what is fed byte by byte -/
theorem fed_tks {r : Rdr} (hm : mor (ul r.rest) = true) (s : ByteArray) :
    (tksT [] (ul r.rest) r.bad (ul s)).2.1 = ul (fdG r s).rest ∧ (tksT [] (ul r.rest) r.bad (ul s)).2.2 = (fdG r s).bad ∧ (r.got.length ≤ 40 → (fdG r s).got = r.got ++ (tksT [] (ul r.rest) r.bad (ul s)).1.take (40 - r.got.length)) := by
  unfold fdG
  cases hbad : r.bad with
  | true =>
    rw [tksT_bad, if_pos rfl]
    refine ⟨rfl, hbad.symm, fun _ => by simp⟩
  | false =>
    rw [tksT_all _ _ ((mor_iff _).1 hm), if_neg (by simp)]
    refine ⟨rfl, rfl, fun h => ?_⟩
    rw [List.take_append, List.take_of_length_le h]

theorem StAt.take2 {w : World} {B : Nat} {L : List ByteArray} {ao : Option Addr} {n cap k : Nat} (h : StAt w B (.slice ao n cap) L) (hk : k ≤ L.length) : StAt w B (.slice ao k cap) (L.take k) := StAt.take h hk

set_option maxRecDepth 100000 in
set_option maxHeartbeats 16000000 in
theorem implFeed (r : Rdr) (v : Value) (s : ByteArray) (w : World) (hT : StAt w w.heap.size v r.got) (hN : ∀ i, i < r.got.length → (lq r.got i).size ≤ 9223372036854775807) (hR : r.rest.size ≤ 2000000) (hs : s.size ≤ maxLen) :
    Calls Try.prog 32 #[r.val v, .string s] w fun e w' => FeO w w' e r s := by
  have rc := fun (tmps : Array Value) (P : Program) (w : World) => results_cell_tmp (fn := Try.f32) (p := 4) (u := 5) (ty := 33) rfl tmps P w
  obtain ⟨i0, hi, hz0, hz1, hz2⟩ := info_parts infoStr
  unfold maxLen at hs
  have HNO : Hid (fdK r s = false → ∀ w', Below w.heap.size w w' → FeO w w' (.returned (.tuple #[.agg #[.string ⟨#[]⟩, .slice none 0 0, .bool false], .bool false])) r s) := fun h w' hb => FeO.no h hb
  have HYES : Hid (fdK r s = true → ∀ w' v, StRow w' w.heap.size v (fdG r s).got → Below w.heap.size w w' → FeO w w' (.returned (.tuple #[.agg #[.string (fdG r s).rest, v, .bool (fdG r s).bad], .bool true])) r s) := fun h w' v hr hb => FeO.yes h hr hb
  have HGP : Hid (gdr r = true → r.got.length ≤ 40 ∧ (∀ i, i < r.got.length → (lq r.got i).size ≤ 60) ∧ mor (ul r.rest) = true ∧ (r.bad = true → r.rest.size = 0)) := fun h => gdr_parts h
  have hK : Hid (fdK r s = (gdr r && decide (s.size ≤ 300))) := rfl
  obtain ⟨W0, hW0⟩ : ∃ W, W = (w.alloc (.cells #[.string r.rest, v, .bool r.bad] 33)).alloc (.cells #[.string ⟨#[]⟩, .slice none 0 0, .bool false] 33) := ⟨_, rfl⟩
  have hB0 : Below w.heap.size w W0 := by rw [hW0]; exact ((Below.refl _ w).alloc (Nat.le_refl _) _).alloc (by simp) _
  have hb1 := Rv.fresh w (.string r.rest) v (.bool r.bad) 33
  have V1 : Rv W0 w.heap.size (.string r.rest) v (.bool r.bad) := by rw [hW0]; exact hb1.below ((Below.refl _ _).alloc (Nat.le_refl _) _)
  have V2 : Rv W0 (w.heap.size + 1) (.string ⟨#[]⟩) (.slice none 0 0) (.bool false) := by
    have h := Rv.fresh (w.alloc (.cells #[.string r.rest, v, .bool r.bad] 33)) (.string ⟨#[]⟩) (.slice none 0 0) (.bool false) 33
    rw [hW0]
    simpa using h
  have CG : Hid (Calls Try.prog 30 #[r.val v] W0 fun e w' => e = .returned (.bool (gdr r)) ∧ Below W0.heap.size W0 w') := implGood r v W0 (hT.below hB0) hN (by unfold maxLen; omega)
  have hTT := hT
  obtain ⟨ao, cap, rfl, hlc, hcm, hrow⟩ := hT
  unfold maxLen at hcm
  have HB0 : Hid (Below w.heap.size w W0) := hB0
  have HT : Hid (StAt w w.heap.size (.slice ao r.got.length cap) r.got) := hTT
  have HTK : Hid (mor (ul r.rest) = true → (tksT [] (ul r.rest) r.bad (ul s)).2.1 = ul (fdG r s).rest ∧ (tksT [] (ul r.rest) r.bad (ul s)).2.2 = (fdG r s).bad ∧ (r.got.length ≤ 40 → (fdG r s).got = r.got ++ (tksT [] (ul r.rest) r.bad (ul s)).1.take (40 - r.got.length))) := fun h1 => fed_tks h1 s
  unfold Rdr.val at CG ⊢
  generalize fdG r s = F at HYES HTK
  obtain ⟨q, L, bad⟩ := r
  dsimp only at *
  have HV1 : Hid (Rv W0 w.heap.size (.string q) (.slice ao L.length cap) (.bool bad)) := V1
  have HV2 : Hid (Rv W0 (w.heap.size + 1) (.string ⟨#[]⟩) (.slice none 0 0) (.bool false)) := V2
  have y0 := V1.c0
  have y1 := V1.c1
  have y2 := V1.c2
  clear hTT hrow hN V1 V2 hb1 hB0
  generalize gdr ⟨q, L, bad⟩ = gd at CG hK HGP
  generalize fdK ⟨q, L, bad⟩ s = K at HNO HYES hK
  go_enter Try.func32, Try.ntmps32
  go_upto_region 1 with fail
  rw [← hW0]
  clear hW0
  go_wp2_with fail
  go_at_call 30
  refine CG.out.mono ?_
  rintro e w2 ⟨rfl, hb2⟩
  have HB2 : Hid (Below w.heap.size w w2) := HB0.out.trans (hb2.mono HB0.out.size)
  have V1 := HV1.out.below hb2
  have V2 := HV2.out.below hb2
  have hs2 := HB2.out.size
  clear y0 y1 y2 CG hb2 HB0 HV1 HV2
  have y0 := V1.c0
  have y1 := V1.c1
  have y2 := V1.c2
  have x0 := V2.c0
  have x1 := V2.c1
  have x2 := V2.c2
  have u0 := V2.f0
  have u1 := V2.f1
  have u2 := V2.f2
  by_cases hgs : gd = true ∧ s.size ≤ 300
  case neg =>
    have hF := HNO.out (by
      rw [hK.out]
      by_cases h1 : gd = true
      · rw [h1, decide_eq_false (fun h => hgs ⟨h1, h⟩)]; rfl
      · have : gd = false := by simpa using h1
        rw [this]; rfl)
    have HF : Hid (type_of% hF) := hF
    clear hF HNO HYES hK HTK HGP
    cases gd with
    | false =>
      go_wp2_with fail
      (try simp only [Exit.inBlock, Exit.then])
      refine bodyPost_ret (v := .tuple #[.agg #[.string ⟨#[]⟩, .slice none 0 0, .bool false], .bool false]) ?_ rfl (HF.out _ ?_)
      · rw [rc]
        go_simp
      · exact ((HB2.out.setCell (p := ⟨w.heap.size + 1, 0, none⟩) (by simp) _).setCell (p := ⟨w.heap.size + 1, 1, none⟩) (by simp) _).setCell (p := ⟨w.heap.size + 1, 2, none⟩) (by simp) _
    | true =>
      have h300 : (300 : Int) < (s.size : Int) := by
        have : ¬ s.size ≤ 300 := fun h => hgs ⟨rfl, h⟩
        omega
      clear hgs
      go_wp2_with fail
      (try simp only [Exit.inBlock, Exit.then])
      refine bodyPost_ret (v := .tuple #[.agg #[.string ⟨#[]⟩, .slice none 0 0, .bool false], .bool false]) ?_ rfl (HF.out _ ?_)
      · rw [rc]
        go_simp
      · exact ((HB2.out.setCell (p := ⟨w.heap.size + 1, 0, none⟩) (by simp) _).setCell (p := ⟨w.heap.size + 1, 1, none⟩) (by simp) _).setCell (p := ⟨w.heap.size + 1, 2, none⟩) (by simp) _
  case pos =>
    obtain ⟨hg1, hs300⟩ := hgs
    subst hg1
    have hY := HYES.out (by rw [hK.out, decide_eq_true hs300]; rfl)
    have HY : Hid (type_of% hY) := hY
    obtain ⟨hl40, hl60, hmor, _⟩ := HGP.out rfl
    obtain ⟨k1, k2, k3⟩ := HTK.out hmor
    have HK3 : Hid (F.got = L ++ (tksT [] (ul q) bad (ul s)).1.take (40 - L.length)) := k3 hl40
    have hq62 := mor_short hmor
    rw [ul_len] at hq62
    have h300 : ¬ (300 : Int) < (s.size : Int) := by omega
    have hcv := Lib.run_convert_string_bytes (P := Try.prog) w2 9 51 5 q Try.underlying9 Try.underlying51 Try.underlying5
    have hBy := bytes_belowF w2 q
    have hGR := GRow.made w2 q (by unfold maxLen; omega)
    generalize Lib.bytesWorld w2 5 q = W3 at hcv hBy hGR
    have hs3 := hBy.size
    generalize grownCap w2 q.size 0 5 = c3 at hcv hGR
    have hU := Um.begin hGR bad 62
    have hsz := tksT_sizes (ul s) [] (ul q) bad
    have CT : Hid (type_of% (takeAll_any _ _ _ _ _ [] (ul q) bad s hU (by simp; omega) (by omega) (by rw [ul_len]; omega) (by simp; omega))) := takeAll_any _ _ _ _ _ [] (ul q) bad s hU (by simp; omega) (by omega) (by rw [ul_len]; omega) (by simp; omega)
    rw [k1, k2] at CT
    rw [k1] at hsz
    generalize (tksT [] (ul q) bad (ul s)).1 = T at CT HK3 hsz
    have hTl : T.length ≤ 300 := by have := hsz.2; rw [ul_len] at this; simp at this; omega
    have hRl : (ul F.rest).length ≤ 400 := by have := hsz.1; simp only [ul_len] at this ⊢; omega
    have q0 := (hBy.cell (p := ⟨w.heap.size, 0, none⟩) V1.low).trans y0
    have q1 := (hBy.cell (p := ⟨w.heap.size, 1, none⟩) V1.low).trans y1
    have q2 := (hBy.cell (p := ⟨w.heap.size, 2, none⟩) V1.low).trans y2
    have ql := V1.low
    clear hY HNO HYES hK HTK HGP hsz k1 k2 k3
    go_wp2_with fail
    go_at_call 50
    refine CT.out.mono ?_
    rintro e w5 ⟨rfl, vt, vr, hU5, hP5⟩
    have hBA : Below w2.heap.size w2 (W3.alloc (.cells #[.slice none 0 0, .slice (some ⟨w2.heap.size, 0, none⟩) q.size c3, .bool bad] 62)) := hBy.alloc hs3 _
    have hB5 : Below w2.heap.size w2 w5 := hBA.trans (hP5.below (by simp; omega) hs3 (fun g hg => by simp [Value.ownBlock] at hg) (fun g hg => by simp [Value.ownBlock] at hg; omega))
    have HB5 : Hid (Below w.heap.size w w5) := HB2.out.trans (hB5.mono hs2)
    have V15 := V1.below hB5
    have V25 := V2.below hB5
    have HV15 : Hid (type_of% V15) := V15
    have HV25 : Hid (type_of% V25) := V25
    have HU5 : Hid (type_of% hU5) := hU5
    have l3 := hU5.low
    have l2 := V25.low
    have HlR : Hid (∀ g, vr.ownBlock = some g → w2.heap.size ≤ g ∧ g < w5.heap.size) := hU5.ownR.lt
    have hl2w := V2.low
    have hs5 := hB5.size
    have r0 := V15.c0
    have r1 := V15.c1
    have r2 := V15.c2
    have hT5 := HT.out.below HB5.out
    have CP := copyTexts_any L _ w5 hT5 (fun i hi => by have := hl60 i hi; omega) (by omega)
    clear y0 y1 y2 x0 x1 x2 u0 u1 u2 q0 q1 q2 hBA hB5 V1 V2 V15 V25 hP5 CT hcv hBy hGR hU hT5 hU5 HT hl60
    go_wp2_with fail
    go_at_call 54
    refine CP.mono ?_
    rintro e w6 ⟨v6, rfl, hr6, hb6⟩
    obtain ⟨a6, c6, rfl⟩ := hr6.slice
    have HB6 : Hid (Below w.heap.size w w6) := HB5.out.trans (hb6.mono HB5.out.size)
    have U6 := HU5.out.belowU hb6
    have V26 := HV25.out.below hb6
    have HU6 : Hid (type_of% U6) := U6
    have HV26 : Hid (type_of% V26) := V26
    have hs6 := hb6.size
    have HR6 : Hid (StRow w6 w5.heap.size (.slice a6 L.length c6) L) := hr6
    obtain ⟨at_, ct, rfl⟩ := U6.ownT.slice
    have t0 := U6.c0
    clear r0 r1 r2 hb6 hr6 CP U6 V26 HU5 HV15 HV25 HB5
    go_upto_region 7 with fail
    have eR : min (40 - (L.length : Int)) (T.length : Int) = ((min (40 - L.length) T.length : Nat) : Int) := by omega
    rw [eR]
    have HTK2 : Hid (F.got = L ++ T.take (min (40 - L.length) T.length)) := by
      show _ = _
      rw [HK3.out]
      congr 1
      by_cases h : 40 - L.length ≤ T.length
      · rw [Nat.min_eq_left h]
      · rw [Nat.min_eq_right (by omega), List.take_of_length_le (by omega), List.take_of_length_le (Nat.le_refl _)]
    have hkT : min (40 - L.length) T.length ≤ T.length := Nat.min_le_right _ _
    have hk40 : min (40 - L.length) T.length ≤ 40 := by omega
    clear eR HK3 t0
    generalize min (40 - L.length) T.length = k at HTK2 hkT hk40 ⊢
    have HAt : Hid (∀ W, Below w6.heap.size w6 W → StAt W W.heap.size (.slice at_ k ct) (T.take k)) := fun W hW => StAt.take (StAt.own (own_belowY HU6.out.ownT hW)) hkT
    have HtL : Hid ((T.take k).length = k) := by show _ = _; rw [List.length_take]; omega
    obtain ⟨ar, cr, rfl, _, _⟩ := HU6.out.ownR.form
    have hct : (T.length : Int) ≤ (ct : Int) := by
      obtain ⟨_, _, hv, h1, _⟩ := StAt.own HU6.out.ownT
      simp only [Value.slice.injEq] at hv
      omega
    have hkI : (k : Int) ≤ (ct : Int) := by omega
    have hk0 : (0 : Int) ≤ (k : Int) := by omega
    have KG : Hid (∀ W, Below w5.heap.size w6 W → GRow W w2.heap.size (.slice ar (ul F.rest).length cr) (ul F.rest)) := fun W hW => HU6.out.ownR.kept (fun g hg => hW.block g (HlR.out g hg).2)
    have KW : Hid (∀ W, Below w5.heap.size w6 W → (W.cell? ⟨W3.heap.size, 0, none⟩ = some (.slice at_ T.length ct) ∧ W.cell? ⟨W3.heap.size, 1, none⟩ = some (.slice ar (ul F.rest).length cr) ∧ W.cell? ⟨W3.heap.size, 2, none⟩ = some (.bool F.bad) ∧ (convert 51 9 (.slice ar (ul F.rest).length cr)).run Try.prog W = .ok (.string F.rest) W) ∧ Rv W (w.heap.size + 1) (.string ⟨#[]⟩) (.slice none 0 0) (.bool false)) := fun W hW => by
      have h2 := HU6.out
      have h3 := HV26.out
      exact ⟨⟨(hW.cell (p := ⟨W3.heap.size, 0, none⟩) l3).trans h2.c0, (hW.cell (p := ⟨W3.heap.size, 1, none⟩) l3).trans h2.c1, (hW.cell (p := ⟨W3.heap.size, 2, none⟩) l3).trans h2.c2, (KG.out W hW).conv⟩,
        ⟨Nat.lt_of_lt_of_le h3.low hW.size, (hW.cell (p := ⟨w.heap.size + 1, 0, none⟩) l2).trans h3.c0, (hW.cell (p := ⟨w.heap.size + 1, 1, none⟩) l2).trans h3.c1, (hW.cell (p := ⟨w.heap.size + 1, 2, none⟩) l2).trans h3.c2,
          (hW.frozen (p := ⟨w.heap.size + 1, 0, none⟩) l2).trans h3.f0, (hW.frozen (p := ⟨w.heap.size + 1, 1, none⟩) l2).trans h3.f1, (hW.frozen (p := ⟨w.heap.size + 1, 2, none⟩) l2).trans h3.f2⟩⟩
    have KSS : Hid (∀ W x y z, Below w5.heap.size w6 W → (fun W => (W.cell? ⟨W3.heap.size, 0, none⟩ = some (.slice at_ T.length ct) ∧ W.cell? ⟨W3.heap.size, 1, none⟩ = some (.slice ar (ul F.rest).length cr) ∧ W.cell? ⟨W3.heap.size, 2, none⟩ = some (.bool F.bad) ∧ (convert 51 9 (.slice ar (ul F.rest).length cr)).run Try.prog W = .ok (.string F.rest) W)) (((W.setCell ⟨w.heap.size + 1, 0, none⟩ x).setCell ⟨w.heap.size + 1, 1, none⟩ y).setCell ⟨w.heap.size + 1, 2, none⟩ z)) := fun W x y z hW => by
      obtain ⟨⟨h1, h2, h3, h4⟩, _⟩ := KW.out W hW
      have hne : W3.heap.size ≠ w.heap.size + 1 := by omega
      have hgn : ∀ g, (Value.slice ar (ul F.rest).length cr).ownBlock = some g → g ≠ w.heap.size + 1 := fun g hg => by have := (HlR.out g hg).1; omega
      refine ⟨?_, ?_, ?_, ((((KG.out W hW).setCell _ 0 _ hgn).setCell _ 1 _ hgn).setCell _ 2 _ hgn).conv⟩
      · rw [World.cell?_setCell_other _ _ _ _ (by simp), World.cell?_setCell_other _ _ _ _ (by simp), World.cell?_setCell_other _ _ _ _ (by simp)]; exact h1
      · rw [World.cell?_setCell_other _ _ _ _ (by simp), World.cell?_setCell_other _ _ _ _ (by simp), World.cell?_setCell_other _ _ _ _ (by simp)]; exact h2
      · rw [World.cell?_setCell_other _ _ _ _ (by simp), World.cell?_setCell_other _ _ _ _ (by simp), World.cell?_setCell_other _ _ _ _ (by simp)]; exact h3
    go_region_held3 (fun W => W.cell? ⟨W3.heap.size, 0, none⟩ = some (.slice at_ T.length ct) ∧ W.cell? ⟨W3.heap.size, 1, none⟩ = some (.slice ar (ul F.rest).length cr) ∧ W.cell? ⟨W3.heap.size, 2, none⟩ = some (.bool F.bad) ∧ (convert 51 9 (.slice ar (ul F.rest).length cr)).run Try.prog W = .ok (.string F.rest) W)
      (first | with_reducible exact (KW.out _ (Below.refl _ w6).drew).1 | exact (KW.out _ hb9).1 | exact KSS.out _ _ _ _ hb9)
      ((refine step_append_mayF _ (by rfl) _ _ _ (by rfl) w5.heap.size 9 i0 (.string ByteArray.empty) 1 16 Try.underlying27 hi hz0 hz1 hz2 rfl (by decide) _ L.length _ (by rfl) (show w6.drew.ownsRow w5.heap.size 9 1 (.slice a6 L.length c6) L.length (strs L) from own_belowY HR6.out (Below.refl _ w6).drew) _ k _ (strs (T.take k)) (by rfl) (by unfold strs; rw [List.length_map, HtL.out, Nat.mul_one]) (StAt.news (HAt.out _ (Below.refl _ w6).drew)) (one_strs _) (by unfold maxLen; omega) (by omega) (by simp; omega) ?_; intro a9 c9 w9 hown9 hgrow9 hnew9; have hb9 : Below w5.heap.size w6 w9 := (Below.refl _ w6).drew.grown hgrow9 (by simp; omega) (fun k hk => (World.ownsRow.lt HR6.out k hk).1); have kw9 := (KW.out _ hb9).2; have x0 := kw9.c0; have x1 := kw9.c1; have x2 := kw9.c2; have u0 := kw9.f0; have u1 := kw9.f1; have u2 := kw9.f2))
    have HR9 : Hid (StRow w9 w5.heap.size (.slice a9 (L.length + k) c9) F.got) := by
      show StRow _ _ _ _
      rw [HTK2.out]
      unfold StRow strs
      rw [List.length_append, HtL.out, List.map_append]
      exact hown9
    have hw5 : w.heap.size ≤ w5.heap.size := by omega
    have HR9w : Hid (StRow w9 w.heap.size (.slice a9 (L.length + k) c9) F.got) := by
      refine ⟨HR9.out.1, ?_⟩
      rcases HR9.out.2 with hn | ⟨g, cap', cur, hv, hg, rest⟩
      · exact .inl hn
      · exact .inr ⟨g, cap', cur, hv, by omega, rest⟩
    have HNB : Hid (∀ g', (Value.slice a9 (L.length + k) c9).ownBlock = some g' → g' ≠ w.heap.size + 1) := fun g' hg' => by
      have := (World.ownsRow.lt HR9.out g' hg').1
      omega
    have HBS : Hid (∀ x y z, Below w.heap.size w (((w9.setCell ⟨w.heap.size + 1, 0, none⟩ x).setCell ⟨w.heap.size + 1, 1, none⟩ y).setCell ⟨w.heap.size + 1, 2, none⟩ z)) := fun x y z => (((HB6.out.trans (hb9.mono hw5)).setCell (p := ⟨w.heap.size + 1, 0, none⟩) (by simp) _).setCell (p := ⟨w.heap.size + 1, 1, none⟩) (by simp) _).setCell (p := ⟨w.heap.size + 1, 2, none⟩) (by simp) _
    clear hown9 hgrow9 hnew9 hb9
    go_wp2_with fail
    (try simp only [Exit.inBlock, Exit.then])
    refine bodyPost_ret (v := .tuple #[.agg #[.string F.rest, .slice a9 (L.length + k) c9, .bool F.bad], .bool true]) ?_ rfl (HY.out _ _ ?_ ?_)
    · rw [rc]
      go_simp
    · exact own_setCell (own_setCell (own_setCell HR9w.out _ 0 _ HNB.out) _ 1 _ HNB.out) _ 2 _ HNB.out
    · exact HBS.out _ _ _

end Go.Proofs.Ytcpjbacjmmbabaa
