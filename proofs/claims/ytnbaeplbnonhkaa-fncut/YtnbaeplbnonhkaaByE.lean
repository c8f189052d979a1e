/- The model's l9Cut. -/
import Derived.Test.YtnbaeplbnonhkaaByQ
import Derived.Test.YtnbaeplbnonhkaaByD
namespace Go.Proofs.Ytnbaeplbnonhkaa
open Go.RowKit Plain Sch Bxs

theorem sd_set {Z : List Sd} {i : Nat} {s : Sd} (h : i < Z.length) : sd (Z.set i s) i = s := by unfold sd; simp [List.getD, h]
theorem sd_get {Z : List Sd} {i : Nat} {s : Sd} (h : i < Z.length) (hs : sd Z i = s) : Z[i]? = some s := by
  unfold sd at hs
  rw [List.getD, List.getElem?_eq_getElem h] at hs
  rw [List.getElem?_eq_getElem h]
  simpa using hs

theorem BOwn.one {w : World} {B : Nat} {u : Value} {L : List Sd} (hq : QRow w B u L) (hB : B ≤ w.heap.size) : BOwn (w.alloc (.cells #[u] 25)) B (.slice (some ⟨w.heap.size, 0, none⟩) 1 1) [L] [u] := by
  refine ⟨⟨rfl, .inr ⟨w.heap.size, 1, _, rfl, hB, heap_alloc_new w _, Nat.le_refl _, by unfold maxLen; omega, rfl, rfl⟩⟩, fun i hi => ?_, fun i j ui uj hij _ h => ?_⟩
  · have e : i = 0 := by simp at hi; omega
    subst e
    refine ⟨u, rfl, hq.alloc _, fun g hg e => ?_⟩
    simp [Value.ownBlock] at e
    have := (hq.lt g hg).2
    omega
  · have := (List.getElem?_eq_some_iff.1 h).1
    simp at this
    omega

set_option maxRecDepth 100000 in
set_option maxHeartbeats 16000000 in
theorem l9Cut_any (x y : Bx) (v u : Value) (w : World) (hT : SdsAt w w.heap.size v x.list) (hU : SdsAt w w.heap.size u y.list) (hy : okB y = true) :
    Calls Try.prog 50 #[.agg #[v], .agg #[u]] w fun e w' => ∃ r, e = .returned r ∧ (∃ us, BOwn w' w.heap.size r ((cut x y).map Bx.list) us) ∧ Below w.heap.size w w' := by
  obtain ⟨i0, hi0, hz0, hz1', hz2'⟩ := info_parts Try.infoBx
  obtain ⟨s0, sh0, sz0, sz1, sz2⟩ := info_parts Try.infoSd
  have HT : Hid (SdsAt w w.heap.size v x.list) := hT
  have HU : Hid (SdsAt w w.heap.size u y.list) := hU
  obtain ⟨ao, cap, rfl, hlc, hcm, hrow⟩ := hT
  obtain ⟨g, o, rfl, hg, _⟩ := hrow 0 (by simp [len_list])
  obtain ⟨bo', dap, rfl, hld, hdm, hrow2⟩ := hU
  simp only [len_list] at *
  unfold maxLen at hcm hdm
  have HROW2 : Hid (∀ i, i < 3 → ∃ g o, bo' = some ⟨g, o, none⟩ ∧ g < w.heap.size ∧ SdIn w g (o + i * 2) (sd y.list i)) := hrow2
  clear hrow hrow2
  have HYB : Hid (∀ i, i < 3 → -1000 ≤ (sd y.list i).lo ∧ (sd y.list i).lo ≤ 1000 ∧ -1000 ≤ (sd y.list i).hi ∧ (sd y.list i).hi ≤ 1000) := fun i hi => by
    have h := (okB_iff y).1 hy
    rw [okS_iff, okS_iff, okS_iff] at h
    match i, hi with
    | 0, _ => have h := h.1; exact ⟨h.1, by have := h.2; show y.a.lo ≤ 1000; omega, by show -1000 ≤ y.a.hi; omega, h.2.2⟩
    | 1, _ => have h := h.2.1; exact ⟨h.1, by show y.b.lo ≤ 1000; omega, by show -1000 ≤ y.b.hi; omega, h.2.2⟩
    | 2, _ => have h := h.2.2; exact ⟨h.1, by show y.c.lo ≤ 1000; omega, by show -1000 ≤ y.c.hi; omega, h.2.2⟩
  clear hy
  obtain ⟨R, hR⟩ : ∃ R, R = (cut x y).map Bx.list := ⟨_, rfl⟩
  rw [← hR]
  have HAp : Hid (apart x y = true → R = [x.list]) := fun h => by rw [hR]; unfold cut; rw [h]; rfl
  have HNo : Hid (apart x y = false → R = (cutP x (mee x y) 3).map Bx.list) := fun h => by rw [hR]; unfold cut; rw [h]; rfl
  clear hR
  obtain ⟨W1, hW1⟩ : ∃ W, W = (w.alloc (.cells #[.slice (some ⟨g, o, none⟩) 3 cap] 25)).alloc (.cells #[.slice bo' 3 dap] 25) := ⟨_, rfl⟩
  have hB1 : Below w.heap.size w W1 := by rw [hW1]; exact ((Below.refl _ w).alloc (Nat.le_refl _) _).alloc (by simp) _
  have hs1 : w.heap.size + 1 < W1.heap.size := by rw [hW1]; simp
  have q0 : W1.cell? ⟨w.heap.size, 0, none⟩ = some (.slice (some ⟨g, o, none⟩) 3 cap) := by rw [hW1]; go_simp
  have q1 : W1.cell? ⟨w.heap.size + 1, 0, none⟩ = some (.slice bo' 3 dap) := by rw [hW1]; go_simp
  go_enter Try.func50, Try.ntmps50
  go_upto_region 1 with fail
  rw [← hW1]
  clear hW1
  go_wp2_with fail
  refine (l9Meet_any x y _ _ W1 (HT.out.below hB1) (HU.out.below hB1)).mono ?_
  rintro e w2 ⟨⟨v2, rfl, hr2⟩, hb2⟩
  obtain ⟨a2, c2, hv2⟩ := hr2.slice
  generalize (meL x y).length = n2 at hv2
  subst hv2
  obtain ⟨ap, hap⟩ : ∃ ap, ap = apart x y := ⟨_, rfl⟩
  rw [← hap] at HAp HNo ⊢
  clear hap hr2
  obtain ⟨W3, hW3⟩ : ∃ W, W = w2.alloc (.cells #[.slice a2 n2 c2] 25) := ⟨_, rfl⟩
  have hB13 : Below W1.heap.size W1 W3 := by rw [hW3]; exact hb2.alloc hb2.size _
  have HB3 : Hid (Below w.heap.size w W3) := hB1.trans (hB13.mono hB1.size)
  have hs3 : w.heap.size + 1 < W3.heap.size := by have := hB13.size; omega
  have q0 := (hB13.cell (p := ⟨w.heap.size, 0, none⟩) (by show w.heap.size < _; omega)).trans q0
  have q1 := (hB13.cell (p := ⟨w.heap.size + 1, 0, none⟩) (by show w.heap.size + 1 < _; omega)).trans q1
  go_upto_region 2 with fail
  rw [← hW3]
  clear hW3 hb2 hB13
  have hw3 : w.heap.size < W3.heap.size := by omega
  have HSD3 : Hid (∀ ob, SdsAt (W3.alloc ob) (W3.alloc ob).heap.size (.slice (some ⟨g, o, none⟩) x.list.length cap) x.list) := fun ob => HT.out.below (HB3.out.alloc HB3.out.size ob)
  cases ap with
  | true =>
    have HF : Hid (R = [x.list]) := HAp.out rfl
    clear HAp HNo
    go_wp2_with (at_builtin; refine wpList_append_lies _ rfl _ _ 23 rfl W3.heap.size 58 s0 (.agg #[.int .i64 0, .int .i64 0]) 2 16 Try.underlying23 sh0 sz0 sz1 sz2 rfl (by decide) _ 0 [] rfl (World.ownsRow_made W3 #[] 0 (Nat.le_refl _) (by unfold maxLen; omega) rfl) ⟨g, o, none⟩ 3 cap (x.list.flatMap Sd.cells) rfl rfl (fun j u hj => sds_news (HSD3.out _) j u hj) (one2L x.list) (by omega) (by unfold maxLen; omega) (by omega) (by simp) (W3.heap.size + 1) (by simp) ?_)
    intro gx cx wx hownx hgrowx hatx hltx
    obtain ⟨hcx, hbx⟩ := copy_post (L := x.list) rfl hownx hgrowx
    (try simp only [Nat.zero_add])
    have HBx : Hid (Below w.heap.size w wx) := HB3.out.trans (hbx.mono HB3.out.size)
    have HO : Hid (∃ us, BOwn (wx.alloc (.cells #[.slice (some ⟨gx, 0, none⟩) 3 cx] 25)) w.heap.size (.slice (some ⟨wx.heap.size, 0, none⟩) 1 1) [x.list] us) := ⟨_, BOwn.one ⟨_, own_lower hcx HB3.out.size⟩ HBx.out.size⟩
    clear hownx hgrowx hatx hltx hcx
    go_wp2
    go_ret
    exact ⟨_, rfl, by rw [HF.out]; exact HO.out, HBx.out.alloc HBx.out.size _⟩
  | false =>
    have HF : Hid (R = (cutP x (mee x y) 3).map Bx.list) := HNo.out rfl
    clear HAp HNo
    go_wp2_with (at_builtin; refine wpList_append_lies _ rfl _ _ 23 rfl W3.heap.size 58 s0 (.agg #[.int .i64 0, .int .i64 0]) 2 16 Try.underlying23 sh0 sz0 sz1 sz2 rfl (by decide) _ 0 [] rfl (World.ownsRow_made W3 #[] 0 (Nat.le_refl _) (by unfold maxLen; omega) rfl) ⟨g, o, none⟩ 3 cap (x.list.flatMap Sd.cells) rfl rfl (fun j u hj => sds_news (HSD3.out _) j u hj) (one2L x.list) (by omega) (by unfold maxLen; omega) (by omega) (by simp) (W3.heap.size + 1) (by simp) ?_)
    intro gl cl wx hownx hgrowx hatx hltx
    obtain ⟨hcx, hbx⟩ := copy_post (L := x.list) rfl hownx hgrowx
    (try simp only [Nat.zero_add])
    have HBx : Hid (Below w.heap.size w wx) := HB3.out.trans (hbx.mono HB3.out.size)
    have HLx : Hid (LR wx gl cl x.list) := own_lower hcx (Nat.zero_le _)
    have hglw : w.heap.size ≤ gl := by have := (World.ownsRow.lt hcx gl rfl).1; have := HB3.out.size; omega
    have q1 := (hbx.cell (p := ⟨w.heap.size + 1, 0, none⟩) (by show w.heap.size + 1 < _; omega)).trans q1
    have hsx := hbx.size
    clear hownx hgrowx hatx hltx hcx hbx q0
    obtain ⟨Bo, hBo⟩ : ∃ B, B = wx.heap.size := ⟨_, rfl⟩
    have hglB : gl < Bo := by rw [hBo]; exact HLx.out.lt
    have hBow : w.heap.size ≤ Bo := by omega
    have hBo2 : w.heap.size + 1 < Bo := by omega
    have hBoz : Bo ≤ wx.heap.size := by omega
    clear hBo
    obtain ⟨ZZ, hZZ⟩ : ∃ ZZ : Nat → List Sd, ZZ = fun i => (stp x (mee x y) i).list := ⟨_, rfl⟩
    obtain ⟨MM, hMM⟩ : ∃ MM : Nat → List (List Sd), MM = fun i => (cutP x (mee x y) i).map Bx.list := ⟨_, rfl⟩
    have HZL : Hid (∀ i, (ZZ i).length = 3) := fun i => by rw [hZZ]; rfl
    have HZS : Hid (∀ i, i < 3 → sd (ZZ i) i = sd x.list i) := fun i hi => by rw [hZZ]; exact stp_sd x (mee x y) hi
    have HZN : Hid (∀ i, i < 3 → ZZ (i + 1) = (ZZ i).set i (mee1 (sd x.list i) (sd y.list i))) := fun i hi => by rw [hZZ]; exact stp_next x y hi
    have HMN : Hid (∀ i, i < 3 → MM (i + 1) = MM i ++ ((if (sd x.list i).lo < (sd y.list i).lo then [(ZZ i).set i ⟨(sd x.list i).lo, (sd y.list i).lo - 1⟩] else []) ++ (if (sd y.list i).hi < (sd x.list i).hi then [(ZZ i).set i ⟨(sd y.list i).hi + 1, (sd x.list i).hi⟩] else []))) := fun i hi => by rw [hMM, hZZ]; exact cutP_next x y hi
    have HML : Hid (∀ i, i ≤ 3 → (MM i).length ≤ 10) := fun i hi => by
      rw [hMM, List.length_map]
      have h6 := cutK_len x (mee x y)
      match i, hi with
      | 0, _ => rw [cutP_0]; simp
      | 1, _ => have := cutP_len1 x (mee x y); omega
      | 2, _ => have := cutP_len2 x (mee x y); omega
      | 3, _ => rw [cutP_all]; omega
    have HM3 : Hid (R = MM 3) := by show _ = _; rw [HF.out, hMM]
    have HZ0 : Hid (LR wx gl cl (ZZ 0)) := by rw [hZZ]; exact HLx.out
    have HM0 : Hid (∃ us, BOwn wx Bo (.slice none 0 0) (MM 0) us) := by rw [hMM]; exact ⟨[], BOwn.nil _ _⟩
    clear hZZ hMM HF HLx HT HU HSD3
    go_wp2
    go_loopw [7, 35] (fun vl vi wr => ∃ i : Nat, i ≤ 3 ∧ vi = .int .i64 (i : Int) ∧ Hid (LR wr gl cl (ZZ i)) ∧ Hid (∃ us, BOwn wr Bo vl (MM i) us) ∧ Hid (Below w.heap.size w wr) ∧ Bo ≤ wr.heap.size)
      (fun _ vi _ => 3 - (intOf vi).toNat)
    case atStart => exact ⟨0, by omega, rfl, HZ0, HM0, HBx, by omega⟩
    case round =>
      clear HZ0 HM0 HBx HB3
      obtain ⟨i, hi, rfl, hLi, hOi, hBi, hszi⟩ := hrel
      by_cases hlt : i < 3
      · have hlt' : (i : Int) < 3 := by omega
        obtain ⟨g2, o2, rfl, hg2, hty2⟩ := HROW2.out i hlt
        have hcy := hty2.below hBi.out hg2
        obtain ⟨yb1, yb2, yb3, yb4⟩ := HYB.out i hlt
        obtain ⟨s, hs⟩ : ∃ s, sd x.list i = s := ⟨_, rfl⟩
        obtain ⟨t, ht⟩ : ∃ t, sd y.list i = t := ⟨_, rfl⟩
        have HSD : Hid (sd (ZZ i) i = s) := by show _ = _; rw [HZS.out i hlt, hs]
        have HNX : Hid (ZZ (i + 1) = (ZZ i).set i (mee1 s t)) := by show _ = _; rw [HZN.out i hlt, hs, ht]
        have HMX : Hid (MM (i + 1) = MM i ++ ((if s.lo < t.lo then [(ZZ i).set i ⟨s.lo, t.lo - 1⟩] else []) ++ (if t.hi < s.hi then [(ZZ i).set i ⟨t.hi + 1, s.hi⟩] else []))) := by show _ = _; rw [HMN.out i hlt, hs, ht]
        rw [ht] at hcy yb1 yb2 yb3 yb4
        clear hs ht hty2
        obtain ⟨Z, hZ⟩ : ∃ Z, Z = ZZ i := ⟨_, rfl⟩
        have hlZ : Hid (Z.length = 3) := by show _ = _; rw [hZ]; exact HZL.out i
        obtain ⟨M, hM⟩ : ∃ M, M = MM i := ⟨_, rfl⟩
        have hMb0 : M.length ≤ 10 := by rw [hM]; exact HML.out i hi
        rw [← hZ] at hLi HSD HNX HMX
        rw [← hM] at hOi HMX
        clear hZ hM
        obtain ⟨us0, hO00⟩ := hOi.out
        obtain ⟨av0, cv0, hvv0⟩ := hO00.slice
        subst hvv0
        have hO0 : Hid (BOwn wr Bo (.slice av0 M.length cv0) M us0) := hO00
        obtain ⟨sl, sh⟩ := s
        obtain ⟨ol, oh⟩ := t
        obtain ⟨d0, d1⟩ := hcy
        dsimp only at d0 d1 yb1 yb2 yb3 yb4
        have l0 := (hLi.out.cell (i := i) (by rw [hlZ.out]; exact hlt)).1
        have l1 := (hLi.out.cell (i := i) (by rw [hlZ.out]; exact hlt)).2
        rw [HSD.out] at l0 l1
        dsimp only at l0 l1
        have hglr : gl < wr.heap.size := hLi.out.lt
        have hg2r : g2 < wr.heap.size := by omega
        obtain ⟨W5, hW5⟩ : ∃ W, W = (wr.alloc (.cells #[.int .i64 ol, .int .i64 oh] 58)).alloc (.cells #[.int .i64 sl, .int .i64 sh] 58) := ⟨_, rfl⟩
        have hB5 : Below wr.heap.size wr W5 := by rw [hW5]; exact ((Below.refl _ wr).alloc (Nat.le_refl _) _).alloc (by simp) _
        have hs5 : wr.heap.size + 1 < W5.heap.size := by rw [hW5]; simp
        have hvb : ∀ gg, (Value.slice av0 M.length cv0).ownBlock = some gg → gg < wr.heap.size := fun gg h => (World.ownsRow.lt hO00.1 gg h).2
        have hT100 : Hid (T9 W5 wr.heap.size ol oh (.slice av0 M.length cv0)) := ⟨by rw [hW5]; go_simp, by rw [hW5]; go_simp, by omega, fun gg h e => by have := hvb gg h; omega⟩
        have hT110 : Hid (T9 W5 (wr.heap.size + 1) sl sh (.slice av0 M.length cv0)) := ⟨by rw [hW5]; go_simp, by rw [hW5]; go_simp, hs5, fun gg h e => by have := hvb gg h; omega⟩
        have hL0 : Hid (LR W5 gl cl Z) := hLi.out.below hB5 hglr
        have hO0' : Hid (BOwn W5 Bo (.slice av0 M.length cv0) M us0) := hO0.out.below hB5
        have hBB0 : Hid (Below w.heap.size w W5) := hBi.out.trans (hB5.mono hBi.out.size)
        have hBz0 : Bo ≤ W5.heap.size := by omega
        go_upto_region 10 with fail
        rw [← hW5]
        clear hW5 d0 d1 l0 l1 hO0 hO00 hOi hLi hBi hB5 hvb
        have hO0 : Hid (BOwn W5 Bo (.slice av0 M.length cv0) M us0) := hO0'
        clear hO0'
        obtain ⟨o0, o1, _, _⟩ := hT100.out
        obtain ⟨t0, t1, _, _⟩ := hT110.out
        by_cases k1 : sl < ol
        · skip
          go_upto_region 11 with fail
          clear o0 o1 t0 t1
          have HSL0 : Hid (∀ ob, SdsAt (W5.alloc ob) (W5.alloc ob).heap.size (.slice (some ⟨gl, 0, none⟩) Z.length cl) Z) := fun ob => SdsAt.own (World.ownsRow.alloc hL0.out ob)
          go_wp2_with (at_builtin; refine wpList_append_lies _ rfl _ _ 23 rfl W5.heap.size 58 s0 (.agg #[.int .i64 0, .int .i64 0]) 2 16 Try.underlying23 sh0 sz0 sz1 sz2 rfl (by decide) _ 0 [] rfl (World.ownsRow_made W5 #[] 0 (Nat.le_refl _) (by unfold maxLen; omega) rfl) ⟨gl, 0, none⟩ 3 cl (Z.flatMap Sd.cells) rfl (by rw [flat2_len, hlZ.out]) (fun j u hj => sds_news (HSL0.out _) j u hj) (one2L Z) (by omega) (by unfold maxLen; omega) (by omega) (by simp) (W5.heap.size + 1) (by simp) ?_)
          intro gx0 cx0 wx0 hownx0 hgrowx0 hatx0 hltx0
          obtain ⟨hcx0, hbx0⟩ := copy_post hlZ.out.symm hownx0 hgrowx0
          (try simp only [Nat.zero_add])
          have HCX0 : Hid (SRow wx0 W5.heap.size 58 (.slice (some ⟨gx0, 0, none⟩) Z.length cx0) Z) := hcx0
          have hgx0 : W5.heap.size ≤ gx0 := (World.ownsRow.lt hcx0 gx0 rfl).1
          have hgx0' : gx0 < wx0.heap.size := (World.ownsRow.lt hcx0 gx0 rfl).2
          have x0 := ((show LR wx0 gx0 cx0 Z from own_lower hcx0 (Nat.zero_le _)).cell (i := i) (by rw [hlZ.out]; exact hlt)).1
          have x1 := ((show LR wx0 gx0 cx0 Z from own_lower hcx0 (Nat.zero_le _)).cell (i := i) (by rw [hlZ.out]; exact hlt)).2
          have xf := World.ownsRow.frozenAt hcx0 (i * 2 + 1)
          obtain ⟨o0, o1, _, _⟩ := (hT100.out.below hbx0)
          clear hownx0 hgrowx0 hatx0 hltx0 hcx0
          obtain ⟨V0, hV0⟩ : ∃ V, V = wx0.setCell ⟨gx0, i * 2 + 1, none⟩ (.int .i64 (ol - 1)) := ⟨_, rfl⟩
          have HV0 : Hid (QRow V0 W5.heap.size (.slice (some ⟨gx0, 0, none⟩) 3 cx0) (Z.set i ⟨(sd Z i).lo, ol - 1⟩)) := by
            rw [hV0]
            have h := SRow.setHi HCX0.out (i := i) (by rw [hlZ.out]; exact hlt) (ol - 1)
            rw [List.length_set, hlZ.out] at h
            exact ⟨_, h⟩
          have hbV0 : Below W5.heap.size W5 V0 := by rw [hV0]; exact hbx0.setCell (p := ⟨gx0, i * 2 + 1, none⟩) hgx0 _
          have hsV0 : W5.heap.size < V0.heap.size := by rw [hV0]; simp [World.setCell]; omega
          go_upto_region 13 with fail
          rw [← hV0]
          clear hV0 x0 x1 xf o0 o1 HCX0 hbx0
          have HT10V : Hid (T9 V0 wr.heap.size ol oh (.slice av0 M.length cv0)) := hT100.out.below hbV0
          have HT11V : Hid (T9 V0 (wr.heap.size + 1) sl sh (.slice av0 M.length cv0)) := hT110.out.below hbV0
          have HLV : Hid (LR V0 gl cl Z) := hL0.out.below hbV0 (by omega)
          have HOV : Hid (BOwn V0 Bo (.slice av0 M.length cv0) M us0) := hO0.out.below hbV0
          have HBV : Hid (Below w.heap.size w V0) := hBB0.out.trans (hbV0.mono hBB0.out.size)
          go_wp2_with (at_builtin; refine wpList_append_lies _ rfl _ _ 37 rfl Bo 25 i0 (.agg #[.slice none 0 0]) 1 24 Try.underlying37 hi0 hz0 hz1' hz2' rfl (by decide) _ M.length _ rfl (World.ownsRow.alloc HOV.out.1 _) ⟨V0.heap.size, 0, none⟩ 1 1 [.slice (some ⟨gx0, 0, none⟩) 3 cx0] rfl rfl (World.news_of_block (heap_alloc_new V0 _)) (one1B _ _ _) (by omega) (by unfold maxLen; omega) (by omega) (by simp; omega) (V0.heap.size + 1) (by simp) ?_)
          intro g9 cap9 w9 hown9 hgrow9 hat9 hlt9
          have HO9 : Hid (∃ us, BOwn w9 Bo (.slice (some ⟨g9, 0, none⟩) (M.length + 1) cap9) (M ++ [Z.set i ⟨(sd Z i).lo, ol - 1⟩]) us) := ⟨_, hO0.out.snoc hbV0 HV0.out hown9 hgrow9 hat9 hBz0⟩
          have hb9 : Below Bo V0 w9 := grown_belowB HOV.out.1 hgrow9 (by omega)
          have HL9 : Hid (LR w9 gl cl Z) := HLV.out.below hb9 hglB
          have HB9 : Hid (Below w.heap.size w w9) := HBV.out.trans (hb9.mono hBow)
          have HT10w : Hid (T9 w9 wr.heap.size ol oh (.slice (some ⟨g9, 0, none⟩) (M.length + 1) cap9)) := HT10V.out.grow hgrow9 hat9
          have HT11w : Hid (T9 w9 (wr.heap.size + 1) sl sh (.slice (some ⟨g9, 0, none⟩) (M.length + 1) cap9)) := HT11V.out.grow hgrow9 hat9
          have hs9 := hb9.size
          clear hown9 hgrow9 hat9 hlt9 HOV HLV HBV HT10V HT11V hb9
          obtain ⟨U1, hU1⟩ : ∃ V, V = w9.setCell ⟨gl, i * 2, none⟩ (.int .i64 ol) := ⟨_, rfl⟩
          obtain ⟨Z1, hZ1⟩ : ∃ Y9, Y9 = Z.set i ⟨ol, (sd Z i).hi⟩ := ⟨_, rfl⟩
          have HZ1 : Hid (Z1 = Z.set i ⟨ol, (sd Z i).hi⟩) := hZ1
          have hlZ1 : Hid (Z1.length = 3) := by show _ = _; rw [hZ1, List.length_set]; exact hlZ.out
          have hL1 : Hid (LR U1 gl cl Z1) := by
            rw [hU1, hZ1]
            exact SRow.setLo HL9.out (i := i) (by rw [hlZ.out]; exact hlt) ol
          have hOx1 : Hid (∃ us, BOwn U1 Bo (.slice (some ⟨g9, 0, none⟩) (M.length + 1) cap9) (M ++ [Z.set i ⟨(sd Z i).lo, ol - 1⟩]) us) := by
            rw [hU1]
            obtain ⟨us9, ho9⟩ := HO9.out
            exact ⟨us9, ho9.setBelow (a := ⟨gl, i * 2, none⟩) hglB _⟩
          have hBB1 : Hid (Below w.heap.size w U1) := by rw [hU1]; exact HB9.out.setCell (p := ⟨gl, i * 2, none⟩) hglw _
          have hT101 : Hid (T9 U1 wr.heap.size ol oh (.slice (some ⟨g9, 0, none⟩) (M.length + 1) cap9)) := by rw [hU1]; exact HT10w.out.set (a := ⟨gl, i * 2, none⟩) (by show gl ≠ _; omega) _
          have hT111 : Hid (T9 U1 (wr.heap.size + 1) sl sh (.slice (some ⟨g9, 0, none⟩) (M.length + 1) cap9)) := by rw [hU1]; exact HT11w.out.set (a := ⟨gl, i * 2, none⟩) (by show gl ≠ _; omega) _
          have hBz1 : Bo ≤ U1.heap.size := by rw [hU1]; simp [World.setCell]; omega
          have hsz1 : wr.heap.size + 1 < U1.heap.size := hT111.out.2.2.1
          obtain ⟨o0, o1, o2, _⟩ := HT10w.out
          have l0 := (HL9.out.cell (i := i) (by rw [hlZ.out]; exact hlt)).1
          have l1 := (HL9.out.cell (i := i) (by rw [hlZ.out]; exact hlt)).2
          have lf := HL9.out.frozen (i * 2)
          have hgl9 : gl < w9.heap.size := HL9.out.lt
          clear hZ1
          go_upto_region 15 with fail
          rw [← hU1]
          clear hU1 o0 o1 o2 l0 l1 lf HL9 HB9 HT10w HT11w HO9
          obtain ⟨M1, hM1⟩ : ∃ N, N = M ++ [Z.set i ⟨(sd Z i).lo, ol - 1⟩] := ⟨_, rfl⟩
          have HM1 : Hid (M1 = M ++ [Z.set i ⟨(sd Z i).lo, ol - 1⟩]) := hM1
          have hMl1 : Hid (M.length + 1 = M1.length) := by show _ = _; rw [hM1]; simp
          rw [← hM1] at hOx1
          clear hM1
          obtain ⟨us1, hO01⟩ := hOx1.out
          obtain ⟨av1, cv1, hvv1⟩ := hO01.slice
          rw [hvv1] at hO01 hT101 hT111 ⊢
          have hO1 : Hid (BOwn U1 Bo (.slice av1 M1.length cv1) M1 us1) := hO01
          have hMb1 : M1.length ≤ 11 := by rw [← hMl1.out]; omega
          clear hOx1 hO01 hvv1
          obtain ⟨o0, o1, _, _⟩ := hT101.out
          obtain ⟨t0, t1, _, _⟩ := hT111.out
          by_cases k2 : oh < sh
          · skip
            go_upto_region 16 with fail
            clear o0 o1 t0 t1
            have HSL1 : Hid (∀ ob, SdsAt (U1.alloc ob) (U1.alloc ob).heap.size (.slice (some ⟨gl, 0, none⟩) Z1.length cl) Z1) := fun ob => SdsAt.own (World.ownsRow.alloc hL1.out ob)
            go_wp2_with (at_builtin; refine wpList_append_lies _ rfl _ _ 23 rfl U1.heap.size 58 s0 (.agg #[.int .i64 0, .int .i64 0]) 2 16 Try.underlying23 sh0 sz0 sz1 sz2 rfl (by decide) _ 0 [] rfl (World.ownsRow_made U1 #[] 0 (Nat.le_refl _) (by unfold maxLen; omega) rfl) ⟨gl, 0, none⟩ 3 cl (Z1.flatMap Sd.cells) rfl (by rw [flat2_len, hlZ1.out]) (fun j u hj => sds_news (HSL1.out _) j u hj) (one2L Z1) (by omega) (by unfold maxLen; omega) (by omega) (by simp) (U1.heap.size + 1) (by simp) ?_)
            intro gx1 cx1 wx1 hownx1 hgrowx1 hatx1 hltx1
            obtain ⟨hcx1, hbx1⟩ := copy_post hlZ1.out.symm hownx1 hgrowx1
            (try simp only [Nat.zero_add])
            have HCX1 : Hid (SRow wx1 U1.heap.size 58 (.slice (some ⟨gx1, 0, none⟩) Z1.length cx1) Z1) := hcx1
            have hgx1 : U1.heap.size ≤ gx1 := (World.ownsRow.lt hcx1 gx1 rfl).1
            have hgx1' : gx1 < wx1.heap.size := (World.ownsRow.lt hcx1 gx1 rfl).2
            have x0 := ((show LR wx1 gx1 cx1 Z1 from own_lower hcx1 (Nat.zero_le _)).cell (i := i) (by rw [hlZ1.out]; exact hlt)).1
            have x1 := ((show LR wx1 gx1 cx1 Z1 from own_lower hcx1 (Nat.zero_le _)).cell (i := i) (by rw [hlZ1.out]; exact hlt)).2
            have xf := World.ownsRow.frozenAt hcx1 (i * 2)
            obtain ⟨o0, o1, _, _⟩ := (hT101.out.below hbx1)
            clear hownx1 hgrowx1 hatx1 hltx1 hcx1
            obtain ⟨V1, hV1⟩ : ∃ V, V = wx1.setCell ⟨gx1, i * 2, none⟩ (.int .i64 (oh + 1)) := ⟨_, rfl⟩
            have HV1 : Hid (QRow V1 U1.heap.size (.slice (some ⟨gx1, 0, none⟩) 3 cx1) (Z1.set i ⟨oh + 1, (sd Z1 i).hi⟩)) := by
              rw [hV1]
              have h := SRow.setLo HCX1.out (i := i) (by rw [hlZ1.out]; exact hlt) (oh + 1)
              rw [List.length_set, hlZ1.out] at h
              exact ⟨_, h⟩
            have hbV1 : Below U1.heap.size U1 V1 := by rw [hV1]; exact hbx1.setCell (p := ⟨gx1, i * 2, none⟩) hgx1 _
            have hsV1 : U1.heap.size < V1.heap.size := by rw [hV1]; simp [World.setCell]; omega
            go_upto_region 18 with fail
            rw [← hV1]
            clear hV1 x0 x1 xf o0 o1 HCX1 hbx1
            have HT10V : Hid (T9 V1 wr.heap.size ol oh (.slice av1 M1.length cv1)) := hT101.out.below hbV1
            have HT11V : Hid (T9 V1 (wr.heap.size + 1) sl sh (.slice av1 M1.length cv1)) := hT111.out.below hbV1
            have HLV : Hid (LR V1 gl cl Z1) := hL1.out.below hbV1 (by omega)
            have HOV : Hid (BOwn V1 Bo (.slice av1 M1.length cv1) M1 us1) := hO1.out.below hbV1
            have HBV : Hid (Below w.heap.size w V1) := hBB1.out.trans (hbV1.mono hBB1.out.size)
            go_wp2_with (at_builtin; refine wpList_append_lies _ rfl _ _ 37 rfl Bo 25 i0 (.agg #[.slice none 0 0]) 1 24 Try.underlying37 hi0 hz0 hz1' hz2' rfl (by decide) _ M1.length _ rfl (World.ownsRow.alloc HOV.out.1 _) ⟨V1.heap.size, 0, none⟩ 1 1 [.slice (some ⟨gx1, 0, none⟩) 3 cx1] rfl rfl (World.news_of_block (heap_alloc_new V1 _)) (one1B _ _ _) (by omega) (by unfold maxLen; omega) (by omega) (by simp; omega) (V1.heap.size + 1) (by simp) ?_)
            intro g9 cap9 w9 hown9 hgrow9 hat9 hlt9
            have HO9 : Hid (∃ us, BOwn w9 Bo (.slice (some ⟨g9, 0, none⟩) (M1.length + 1) cap9) (M1 ++ [Z1.set i ⟨oh + 1, (sd Z1 i).hi⟩]) us) := ⟨_, hO1.out.snoc hbV1 HV1.out hown9 hgrow9 hat9 hBz1⟩
            have hb9 : Below Bo V1 w9 := grown_belowB HOV.out.1 hgrow9 (by omega)
            have HL9 : Hid (LR w9 gl cl Z1) := HLV.out.below hb9 hglB
            have HB9 : Hid (Below w.heap.size w w9) := HBV.out.trans (hb9.mono hBow)
            have HT10w : Hid (T9 w9 wr.heap.size ol oh (.slice (some ⟨g9, 0, none⟩) (M1.length + 1) cap9)) := HT10V.out.grow hgrow9 hat9
            have HT11w : Hid (T9 w9 (wr.heap.size + 1) sl sh (.slice (some ⟨g9, 0, none⟩) (M1.length + 1) cap9)) := HT11V.out.grow hgrow9 hat9
            have hs9 := hb9.size
            clear hown9 hgrow9 hat9 hlt9 HOV HLV HBV HT10V HT11V hb9
            obtain ⟨U2, hU2⟩ : ∃ V, V = w9.setCell ⟨gl, i * 2 + 1, none⟩ (.int .i64 oh) := ⟨_, rfl⟩
            obtain ⟨Z2, hZ2⟩ : ∃ Y9, Y9 = Z1.set i ⟨(sd Z1 i).lo, oh⟩ := ⟨_, rfl⟩
            have HZ2 : Hid (Z2 = Z1.set i ⟨(sd Z1 i).lo, oh⟩) := hZ2
            have hlZ2 : Hid (Z2.length = 3) := by show _ = _; rw [hZ2, List.length_set]; exact hlZ1.out
            have hL2 : Hid (LR U2 gl cl Z2) := by
              rw [hU2, hZ2]
              exact SRow.setHi HL9.out (i := i) (by rw [hlZ1.out]; exact hlt) oh
            have hOx2 : Hid (∃ us, BOwn U2 Bo (.slice (some ⟨g9, 0, none⟩) (M1.length + 1) cap9) (M1 ++ [Z1.set i ⟨oh + 1, (sd Z1 i).hi⟩]) us) := by
              rw [hU2]
              obtain ⟨us9, ho9⟩ := HO9.out
              exact ⟨us9, ho9.setBelow (a := ⟨gl, i * 2 + 1, none⟩) hglB _⟩
            have hBB2 : Hid (Below w.heap.size w U2) := by rw [hU2]; exact HB9.out.setCell (p := ⟨gl, i * 2 + 1, none⟩) hglw _
            have hT102 : Hid (T9 U2 wr.heap.size ol oh (.slice (some ⟨g9, 0, none⟩) (M1.length + 1) cap9)) := by rw [hU2]; exact HT10w.out.set (a := ⟨gl, i * 2 + 1, none⟩) (by show gl ≠ _; omega) _
            have hT112 : Hid (T9 U2 (wr.heap.size + 1) sl sh (.slice (some ⟨g9, 0, none⟩) (M1.length + 1) cap9)) := by rw [hU2]; exact HT11w.out.set (a := ⟨gl, i * 2 + 1, none⟩) (by show gl ≠ _; omega) _
            have hBz2 : Bo ≤ U2.heap.size := by rw [hU2]; simp [World.setCell]; omega
            have hsz2 : wr.heap.size + 1 < U2.heap.size := hT112.out.2.2.1
            obtain ⟨o0, o1, o2, _⟩ := HT10w.out
            have l0 := (HL9.out.cell (i := i) (by rw [hlZ1.out]; exact hlt)).1
            have l1 := (HL9.out.cell (i := i) (by rw [hlZ1.out]; exact hlt)).2
            have lf := HL9.out.frozen (i * 2 + 1)
            have hgl9 : gl < w9.heap.size := HL9.out.lt
            clear hZ2
            go_upto_region 20 with fail
            rw [← hU2]
            clear hU2 o0 o1 o2 l0 l1 lf HL9 HB9 HT10w HT11w HO9
            obtain ⟨M2, hM2⟩ : ∃ N, N = M1 ++ [Z1.set i ⟨oh + 1, (sd Z1 i).hi⟩] := ⟨_, rfl⟩
            have HM2 : Hid (M2 = M1 ++ [Z1.set i ⟨oh + 1, (sd Z1 i).hi⟩]) := hM2
            have hMl2 : Hid (M1.length + 1 = M2.length) := by show _ = _; rw [hM2]; simp
            rw [← hM2] at hOx2
            clear hM2
            obtain ⟨us2, hO02⟩ := hOx2.out
            obtain ⟨av2, cv2, hvv2⟩ := hO02.slice
            rw [hvv2] at hO02 hT102 hT112 ⊢
            have hO2 : Hid (BOwn U2 Bo (.slice av2 M2.length cv2) M2 us2) := hO02
            have hMb2 : M2.length ≤ 12 := by rw [← hMl2.out]; omega
            clear hOx2 hO02 hvv2
            have hZe : Z2 = ZZ (i + 1) := by
              rw [HNX.out, HZ2.out, HZ1.out, sd_set (by rw [hlZ.out]; exact hlt), HSD.out, List.set_set]
              unfold mee1
              dsimp only
              rw [if_pos (show sl < ol by omega), if_pos (show oh < sh by omega)]
            have hMe : M2 = MM (i + 1) := by
              rw [HMX.out, HM2.out, HM1.out, HZ1.out, sd_set (by rw [hlZ.out]; exact hlt), HSD.out, List.set_set]
              dsimp only
              rw [if_pos (show sl < ol by omega), if_pos (show oh < sh by omega)]
              simp
            have HLn : Hid (LR U2 gl cl (ZZ (i + 1))) := by rw [← hZe]; exact hL2.out
            have HOn : Hid (∃ us, BOwn U2 Bo (.slice av2 M2.length cv2) (MM (i + 1)) us) := by rw [← hMe]; exact ⟨_, hO2.out⟩
            clear hZe hMe
            go_wp2
            go_roundw
            case rel => first | exact ⟨i + 1, by omega, by go_num, HLn, HOn, hBB2, hBz2⟩ | ((repeat apply Exists.intro); exact ⟨⟨i + 1, by omega, by go_num, HLn, HOn, hBB2, hBz2⟩, rfl⟩)
            case measure => simp [intOf]; omega
          · skip
            have hZe : Z1 = ZZ (i + 1) := by
              rw [HNX.out, HZ1.out, HSD.out]
              unfold mee1
              dsimp only
              rw [if_pos (show sl < ol by omega), if_neg (show ¬ oh < sh by omega)]
            have hMe : M1 = MM (i + 1) := by
              rw [HMX.out, HM1.out, HSD.out]
              dsimp only
              rw [if_pos (show sl < ol by omega), if_neg (show ¬ oh < sh by omega)]
              simp
            have HLn : Hid (LR U1 gl cl (ZZ (i + 1))) := by rw [← hZe]; exact hL1.out
            have HOn : Hid (∃ us, BOwn U1 Bo (.slice av1 M1.length cv1) (MM (i + 1)) us) := by rw [← hMe]; exact ⟨_, hO1.out⟩
            clear hZe hMe
            go_wp2
            go_roundw
            case rel => first | exact ⟨i + 1, by omega, by go_num, HLn, HOn, hBB1, hBz1⟩ | ((repeat apply Exists.intro); exact ⟨⟨i + 1, by omega, by go_num, HLn, HOn, hBB1, hBz1⟩, rfl⟩)
            case measure => simp [intOf]; omega
        · skip
          by_cases k2 : oh < sh
          · skip
            go_upto_region 16 with fail
            clear o0 o1 t0 t1
            have HSL0 : Hid (∀ ob, SdsAt (W5.alloc ob) (W5.alloc ob).heap.size (.slice (some ⟨gl, 0, none⟩) Z.length cl) Z) := fun ob => SdsAt.own (World.ownsRow.alloc hL0.out ob)
            go_wp2_with (at_builtin; refine wpList_append_lies _ rfl _ _ 23 rfl W5.heap.size 58 s0 (.agg #[.int .i64 0, .int .i64 0]) 2 16 Try.underlying23 sh0 sz0 sz1 sz2 rfl (by decide) _ 0 [] rfl (World.ownsRow_made W5 #[] 0 (Nat.le_refl _) (by unfold maxLen; omega) rfl) ⟨gl, 0, none⟩ 3 cl (Z.flatMap Sd.cells) rfl (by rw [flat2_len, hlZ.out]) (fun j u hj => sds_news (HSL0.out _) j u hj) (one2L Z) (by omega) (by unfold maxLen; omega) (by omega) (by simp) (W5.heap.size + 1) (by simp) ?_)
            intro gx0 cx0 wx0 hownx0 hgrowx0 hatx0 hltx0
            obtain ⟨hcx0, hbx0⟩ := copy_post hlZ.out.symm hownx0 hgrowx0
            (try simp only [Nat.zero_add])
            have HCX0 : Hid (SRow wx0 W5.heap.size 58 (.slice (some ⟨gx0, 0, none⟩) Z.length cx0) Z) := hcx0
            have hgx0 : W5.heap.size ≤ gx0 := (World.ownsRow.lt hcx0 gx0 rfl).1
            have hgx0' : gx0 < wx0.heap.size := (World.ownsRow.lt hcx0 gx0 rfl).2
            have x0 := ((show LR wx0 gx0 cx0 Z from own_lower hcx0 (Nat.zero_le _)).cell (i := i) (by rw [hlZ.out]; exact hlt)).1
            have x1 := ((show LR wx0 gx0 cx0 Z from own_lower hcx0 (Nat.zero_le _)).cell (i := i) (by rw [hlZ.out]; exact hlt)).2
            have xf := World.ownsRow.frozenAt hcx0 (i * 2)
            obtain ⟨o0, o1, _, _⟩ := (hT100.out.below hbx0)
            clear hownx0 hgrowx0 hatx0 hltx0 hcx0
            obtain ⟨V0, hV0⟩ : ∃ V, V = wx0.setCell ⟨gx0, i * 2, none⟩ (.int .i64 (oh + 1)) := ⟨_, rfl⟩
            have HV0 : Hid (QRow V0 W5.heap.size (.slice (some ⟨gx0, 0, none⟩) 3 cx0) (Z.set i ⟨oh + 1, (sd Z i).hi⟩)) := by
              rw [hV0]
              have h := SRow.setLo HCX0.out (i := i) (by rw [hlZ.out]; exact hlt) (oh + 1)
              rw [List.length_set, hlZ.out] at h
              exact ⟨_, h⟩
            have hbV0 : Below W5.heap.size W5 V0 := by rw [hV0]; exact hbx0.setCell (p := ⟨gx0, i * 2, none⟩) hgx0 _
            have hsV0 : W5.heap.size < V0.heap.size := by rw [hV0]; simp [World.setCell]; omega
            go_upto_region 18 with fail
            rw [← hV0]
            clear hV0 x0 x1 xf o0 o1 HCX0 hbx0
            have HT10V : Hid (T9 V0 wr.heap.size ol oh (.slice av0 M.length cv0)) := hT100.out.below hbV0
            have HT11V : Hid (T9 V0 (wr.heap.size + 1) sl sh (.slice av0 M.length cv0)) := hT110.out.below hbV0
            have HLV : Hid (LR V0 gl cl Z) := hL0.out.below hbV0 (by omega)
            have HOV : Hid (BOwn V0 Bo (.slice av0 M.length cv0) M us0) := hO0.out.below hbV0
            have HBV : Hid (Below w.heap.size w V0) := hBB0.out.trans (hbV0.mono hBB0.out.size)
            go_wp2_with (at_builtin; refine wpList_append_lies _ rfl _ _ 37 rfl Bo 25 i0 (.agg #[.slice none 0 0]) 1 24 Try.underlying37 hi0 hz0 hz1' hz2' rfl (by decide) _ M.length _ rfl (World.ownsRow.alloc HOV.out.1 _) ⟨V0.heap.size, 0, none⟩ 1 1 [.slice (some ⟨gx0, 0, none⟩) 3 cx0] rfl rfl (World.news_of_block (heap_alloc_new V0 _)) (one1B _ _ _) (by omega) (by unfold maxLen; omega) (by omega) (by simp; omega) (V0.heap.size + 1) (by simp) ?_)
            intro g9 cap9 w9 hown9 hgrow9 hat9 hlt9
            have HO9 : Hid (∃ us, BOwn w9 Bo (.slice (some ⟨g9, 0, none⟩) (M.length + 1) cap9) (M ++ [Z.set i ⟨oh + 1, (sd Z i).hi⟩]) us) := ⟨_, hO0.out.snoc hbV0 HV0.out hown9 hgrow9 hat9 hBz0⟩
            have hb9 : Below Bo V0 w9 := grown_belowB HOV.out.1 hgrow9 (by omega)
            have HL9 : Hid (LR w9 gl cl Z) := HLV.out.below hb9 hglB
            have HB9 : Hid (Below w.heap.size w w9) := HBV.out.trans (hb9.mono hBow)
            have HT10w : Hid (T9 w9 wr.heap.size ol oh (.slice (some ⟨g9, 0, none⟩) (M.length + 1) cap9)) := HT10V.out.grow hgrow9 hat9
            have HT11w : Hid (T9 w9 (wr.heap.size + 1) sl sh (.slice (some ⟨g9, 0, none⟩) (M.length + 1) cap9)) := HT11V.out.grow hgrow9 hat9
            have hs9 := hb9.size
            clear hown9 hgrow9 hat9 hlt9 HOV HLV HBV HT10V HT11V hb9
            obtain ⟨U1, hU1⟩ : ∃ V, V = w9.setCell ⟨gl, i * 2 + 1, none⟩ (.int .i64 oh) := ⟨_, rfl⟩
            obtain ⟨Z1, hZ1⟩ : ∃ Y9, Y9 = Z.set i ⟨(sd Z i).lo, oh⟩ := ⟨_, rfl⟩
            have HZ1 : Hid (Z1 = Z.set i ⟨(sd Z i).lo, oh⟩) := hZ1
            have hlZ1 : Hid (Z1.length = 3) := by show _ = _; rw [hZ1, List.length_set]; exact hlZ.out
            have hL1 : Hid (LR U1 gl cl Z1) := by
              rw [hU1, hZ1]
              exact SRow.setHi HL9.out (i := i) (by rw [hlZ.out]; exact hlt) oh
            have hOx1 : Hid (∃ us, BOwn U1 Bo (.slice (some ⟨g9, 0, none⟩) (M.length + 1) cap9) (M ++ [Z.set i ⟨oh + 1, (sd Z i).hi⟩]) us) := by
              rw [hU1]
              obtain ⟨us9, ho9⟩ := HO9.out
              exact ⟨us9, ho9.setBelow (a := ⟨gl, i * 2 + 1, none⟩) hglB _⟩
            have hBB1 : Hid (Below w.heap.size w U1) := by rw [hU1]; exact HB9.out.setCell (p := ⟨gl, i * 2 + 1, none⟩) hglw _
            have hT101 : Hid (T9 U1 wr.heap.size ol oh (.slice (some ⟨g9, 0, none⟩) (M.length + 1) cap9)) := by rw [hU1]; exact HT10w.out.set (a := ⟨gl, i * 2 + 1, none⟩) (by show gl ≠ _; omega) _
            have hT111 : Hid (T9 U1 (wr.heap.size + 1) sl sh (.slice (some ⟨g9, 0, none⟩) (M.length + 1) cap9)) := by rw [hU1]; exact HT11w.out.set (a := ⟨gl, i * 2 + 1, none⟩) (by show gl ≠ _; omega) _
            have hBz1 : Bo ≤ U1.heap.size := by rw [hU1]; simp [World.setCell]; omega
            have hsz1 : wr.heap.size + 1 < U1.heap.size := hT111.out.2.2.1
            obtain ⟨o0, o1, o2, _⟩ := HT10w.out
            have l0 := (HL9.out.cell (i := i) (by rw [hlZ.out]; exact hlt)).1
            have l1 := (HL9.out.cell (i := i) (by rw [hlZ.out]; exact hlt)).2
            have lf := HL9.out.frozen (i * 2 + 1)
            have hgl9 : gl < w9.heap.size := HL9.out.lt
            clear hZ1
            go_upto_region 20 with fail
            rw [← hU1]
            clear hU1 o0 o1 o2 l0 l1 lf HL9 HB9 HT10w HT11w HO9
            obtain ⟨M1, hM1⟩ : ∃ N, N = M ++ [Z.set i ⟨oh + 1, (sd Z i).hi⟩] := ⟨_, rfl⟩
            have HM1 : Hid (M1 = M ++ [Z.set i ⟨oh + 1, (sd Z i).hi⟩]) := hM1
            have hMl1 : Hid (M.length + 1 = M1.length) := by show _ = _; rw [hM1]; simp
            rw [← hM1] at hOx1
            clear hM1
            obtain ⟨us1, hO01⟩ := hOx1.out
            obtain ⟨av1, cv1, hvv1⟩ := hO01.slice
            rw [hvv1] at hO01 hT101 hT111 ⊢
            have hO1 : Hid (BOwn U1 Bo (.slice av1 M1.length cv1) M1 us1) := hO01
            have hMb1 : M1.length ≤ 11 := by rw [← hMl1.out]; omega
            clear hOx1 hO01 hvv1
            have hZe : Z1 = ZZ (i + 1) := by
              rw [HNX.out, HZ1.out, HSD.out]
              unfold mee1
              dsimp only
              rw [if_neg (show ¬ sl < ol by omega), if_pos (show oh < sh by omega)]
            have hMe : M1 = MM (i + 1) := by
              rw [HMX.out, HM1.out, HSD.out]
              dsimp only
              rw [if_neg (show ¬ sl < ol by omega), if_pos (show oh < sh by omega)]
              simp
            have HLn : Hid (LR U1 gl cl (ZZ (i + 1))) := by rw [← hZe]; exact hL1.out
            have HOn : Hid (∃ us, BOwn U1 Bo (.slice av1 M1.length cv1) (MM (i + 1)) us) := by rw [← hMe]; exact ⟨_, hO1.out⟩
            clear hZe hMe
            go_wp2
            go_roundw
            case rel => first | exact ⟨i + 1, by omega, by go_num, HLn, HOn, hBB1, hBz1⟩ | ((repeat apply Exists.intro); exact ⟨⟨i + 1, by omega, by go_num, HLn, HOn, hBB1, hBz1⟩, rfl⟩)
            case measure => simp [intOf]; omega
          · skip
            have hZe : Z = ZZ (i + 1) := by
              rw [HNX.out]
              unfold mee1
              dsimp only
              rw [if_neg (show ¬ sl < ol by omega), if_neg (show ¬ oh < sh by omega)]
              exact (set_same (sd_get (by rw [hlZ.out]; exact hlt) HSD.out)).symm
            have hMe : M = MM (i + 1) := by
              rw [HMX.out]
              dsimp only
              rw [if_neg (show ¬ sl < ol by omega), if_neg (show ¬ oh < sh by omega)]
              simp
            have HLn : Hid (LR W5 gl cl (ZZ (i + 1))) := by rw [← hZe]; exact hL0.out
            have HOn : Hid (∃ us, BOwn W5 Bo (.slice av0 M.length cv0) (MM (i + 1)) us) := by rw [← hMe]; exact ⟨_, hO0.out⟩
            clear hZe hMe
            go_wp2
            go_roundw
            case rel => first | exact ⟨i + 1, by omega, by go_num, HLn, HOn, hBB0, hBz0⟩ | ((repeat apply Exists.intro); exact ⟨⟨i + 1, by omega, by go_num, HLn, HOn, hBB0, hBz0⟩, rfl⟩)
            case measure => simp [intOf]; omega
      · have hke : i = 3 := by omega
        subst hke
        obtain ⟨us9, ho9⟩ := hOi.out
        obtain ⟨av9, cv9, hvv9⟩ := ho9.slice
        subst hvv9
        have HO9 : Hid (∃ us, BOwn wr w.heap.size (.slice av9 (MM 3).length cv9) R us) := by
          rw [HM3.out]
          exact ⟨us9, own_lower ho9.1 hBow, fun j hj => by obtain ⟨u, h1, h2, h3⟩ := ho9.2.1 j hj; exact ⟨u, h1, h2.lower hBow, h3⟩, ho9.2.2⟩
        clear hLi hOi ho9
        go_wp2
        go_ret
        exact ⟨_, rfl, HO9.out, hBi.out⟩

end Go.Proofs.Ytnbaeplbnonhkaa
