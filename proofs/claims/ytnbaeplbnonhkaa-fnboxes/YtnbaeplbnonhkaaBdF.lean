/- The law FnBoxes from its lists on: the boxes that are needed. -/
import Derived.Test.YtnbaeplbnonhkaaHc
import Derived.Test.YtnbaeplbnonhkaaHb
import Derived.Test.YtnbaeplbnonhkaaBxP
import Derived.Test.YtnbaeplbnonhkaaByS
import Derived.Test.YtnbaeplbnonhkaaByU
import Derived.Deep.RegionHeld3
import Derived.Deep.DeepCutAuto
namespace Go.Proofs.Ytnbaeplbnonhkaa
open Go.RowKit Plain Sch Bxs

/-- an own row of boxes, whose sides lie anywhere else -/
def BFs (w : World) (B : Nat) (v : Value) (M : List (List Sd)) (us : List Value) : Prop :=
  w.ownsRow B 25 1 v M.length us ∧ ∀ i, i < M.length → ∃ u, us[i]? = some u ∧ SdsAt w w.heap.size u (mx M i) ∧ Apt w 0 u v.ownBlock

theorem BFs.nil (w : World) (B : Nat) : BFs w B (.slice none 0 0) [] [] := ⟨⟨rfl, .inl ⟨rfl, rfl⟩⟩, fun i hi => by simp at hi⟩

theorem BFs.at {w : World} {B : Nat} {v : Value} {M : List (List Sd)} {us : List Value} (h : BFs w B v M us) : BxsAt w w.heap.size v M := by
  obtain ⟨h1, h2⟩ := h
  have h0 := h1
  obtain ⟨_, ⟨rfl, hn0⟩ | ⟨g, cap, cur, rfl, hB, hb, hnc, hcm, _⟩⟩ := h1
  · exact ⟨none, 0, by rw [hn0], by omega, by unfold maxLen; omega, fun i hi => by omega⟩
  · refine ⟨some ⟨g, 0, none⟩, cap, rfl, hnc, hcm, fun i hi => ?_⟩
    obtain ⟨u, hu, hq, _⟩ := h2 i hi
    refine ⟨g, 0, u, rfl, (h0.lt g rfl).2, ?_, hq⟩
    rw [Nat.zero_add, h0.cellAt i (by omega)]
    exact hu

theorem BFs.slice {w : World} {B : Nat} {v : Value} {M : List (List Sd)} {us : List Value} (h : BFs w B v M us) : ∃ ao cap, v = Value.slice ao M.length cap := by
  rcases h.1.2 with ⟨rfl, h0⟩ | ⟨g, cap, _, rfl, _⟩
  · exact ⟨none, 0, by rw [h0]⟩
  · exact ⟨_, _, rfl⟩

theorem BFs.snoc {w w9 : World} {B g cap : Nat} {v u : Value} {M : List (List Sd)} {us : List Value} {L : List Sd} {o : Obj} (h : BFs w B v M us) (hq : SdsAt w w.heap.size u L) (ha : Apt w 0 u v.ownBlock)
    (hown : w9.ownsRow B 25 1 (.slice (some ⟨g, 0, none⟩) (M.length + 1) cap) (M.length + 1) (us ++ [u])) (hgrow : (w.alloc o).grownBy w9 v.ownBlock) (hat : v.ownBlock = some g ∨ g = w.heap.size + 1) :
    BFs w9 B (.slice (some ⟨g, 0, none⟩) (M.length + 1) cap) (M ++ [L]) (us ++ [u]) := by
  have hul : us.length = M.length := by have := h.1.1; omega
  have hba : Below w.heap.size w (w.alloc o) := (Below.refl _ w).alloc (Nat.le_refl _) o
  have key : ∀ x T, SdsAt w w.heap.size x T → Apt w 0 x v.ownBlock → SdsAt w9 w9.heap.size x T ∧ Apt w9 0 x (Value.slice (some ⟨g, 0, none⟩) (M.length + 1) cap).ownBlock := fun x T h1 h2 => by
    refine ⟨(h1.below hba).grown9 hgrow (fun a n c e => (h2 a n c e).2.1), fun a n c e => ?_⟩
    obtain ⟨q1, q2, q3⟩ := h2 a n c e
    refine ⟨Nat.lt_of_lt_of_le q1 (Nat.le_trans hba.size hgrow.size), fun e2 => ?_, q3⟩
    have e3 : g = a.block := by simpa [Value.ownBlock] using e2
    rcases hat with h3 | h3
    · exact q2 (by rw [h3, e3])
    · omega
  refine ⟨by rw [List.length_append]; exact hown, fun i hi => ?_⟩
  by_cases hl : i < M.length
  · obtain ⟨x, e, hs, hx⟩ := h.2 i hl
    obtain ⟨k1, k2⟩ := key x _ hs hx
    exact ⟨x, by rw [List.getElem?_append_left (by omega)]; exact e, by rw [mx_old hl]; exact k1, k2⟩
  · have hie : i = M.length := by simp at hi; omega
    subst hie
    obtain ⟨k1, k2⟩ := key u L hq ha
    exact ⟨u, by rw [List.getElem?_append_right (by omega), hul]; simp, by rw [mx_new]; exact k1, k2⟩

theorem few_step {M : List (List Sd)} {k j : Nat} (hk : (lco M)[k]? = some (j : Int)) : (fewL M).take (k + 1) = (fewL M).take k ++ [mx M j] := by
  have h1 := (List.getElem?_eq_some_iff.1 hk).1
  have h2 : (fewL M)[k]? = some (mx M j) := by unfold fewL; rw [List.getElem?_map, hk]; rfl
  rw [List.take_add_one, h2]
  rfl

/-- whether a statement begins with that region -/
def headIs (n : Nat) : Code → Bool
  | .region k _ _ => k == n
  | .seq a _ => headIs n a
  | .block _ c => headIs n c
  | .scope c => headIs n c
  | _ => false

/-- the code from that region's statement on -/
def tailAt (n : Nat) : Code → Option Code
  | .seq a b => if headIs n a then some (.seq a b) else tailAt n b
  | .block _ c => tailAt n c
  | .scope c => tailAt n c
  | _ => none

noncomputable def tail27 : Code := ((Try.f3.body.bind (tailAt 27)).getD .skip)

set_option maxRecDepth 1000000 in
set_option maxHeartbeats 16000000 in
theorem boxes_part3 (w wc : World) (a1 ap : Option Addr) (len1 cap1 cp : Nat) (L : List Int) (hcode : CodeAt wc a1 len1) (hZ : ZAt wc wc.heap.size (.slice ap L.length cp) L) (gP : gb (dup L) = true) (hB : Below w.heap.size w wc)
    (c0 c2 c3 c4 c5 c6 c7 c8 c9 c10 c11 c12 c13 c14 c15 c16 c17 c18 c20 c21 c22 c23 c24 c25 c26 c27 c28 c29 c30 c31 c32 c33 c34 c35 c36 c37 c38 c39 c40 c41 c42 c43 c44 c45 c46 c47 c48 c49 c50 c51 c52 c53 c54 c55 c56 c57 c58 c59 c60 c61 c62 c63 c64 c65 c66 c67 c68 c69 c70 c71 c72 c73 c74 c75 c76 c77 c78 c79 c80 c81 c82 c83 c84 c85 c86 c87 c88 c89 c90 c91 c92 c93 c94 c95 c96 c97 c98 c99 c100 c101 c102 c103 c104 c105 c106 c107 c108 c109 c110 c111 c112 c113 c114 c115 c116 c117 c118 c119 c120 c121 c122 c123 c124 c125 c126 c127 c128 c129 c130 c131 c132 c133 c134 c135 c136 c137 c138 c139 c140 c141 c142 c143 c144 c145 c146 c147 c148 c149 c150 c151 c152 c153 c154 c155 c156 c157 c158 c159 c160 c161 c162 c163 c164 c165 c166 c167 c168 c169 c170 c171 c172 c173 c174 c175 c176 c177 c178 c179 c180 c181 c182 c183 c184 c185 c186 c187 c188 c189 c190 c191 c192 c193 c194 c195 c196 c197 c198 c199 c200 c201 c202 c203 c204 c205 c206 c207 c208 c209 c210 c211 c212 c213 c214 c215 c216 c217 c218 c219 c220 c221 c222 c223 c224 c225 c226 c227 c228 c229 c230 c231 c232 c233 c234 c235 c236 c237 c238 c239 c240 c241 c242 c243 c244 c245 c246 c247 c248 c249 c250 c251 c252 c253 c254 c255 c256 c257 c258 c259 c260 c261 c262 c263 c264 c265 c266 c267 c268 c269 c270 c271 c272 c273 c274 c275 c276 c277 c278 c279 c280 c281 c282 c283 c284 c285 c286 c287 c288 c289 c290 c291 c292 c293 c294 c295 c296 c297 c298 c299 c300 c301 c302 c303 : Value) :
    Code.wp Try.prog tail27 (bodyPost Try.prog Try.f3 fun e w' => e = .returned (.bool true) ∧ Below w.heap.size w w') ⟨#[c0, .slice a1 len1 cap1, c2, c3, c4, c5, c6, c7, c8, c9, c10, c11, c12, c13, c14, c15, c16, c17, c18, .slice ap L.length cp, c20, c21, c22, c23, c24, c25, c26, c27, c28, c29, c30, c31, c32, c33, c34, c35, c36, c37, c38, c39, c40, c41, c42, c43, c44, c45, c46, c47, c48, c49, c50, c51, c52, c53, c54, c55, c56, c57, c58, c59, c60, c61, c62, c63, c64, c65, c66, c67, c68, c69, c70, c71, c72, c73, c74, c75, c76, c77, c78, c79, c80, c81, c82, c83, c84, c85, c86, c87, c88, c89, c90, c91, c92, c93, c94, c95, c96, c97, c98, c99, c100, c101, c102, c103, c104, c105, c106, c107, c108, c109, c110, c111, c112, c113, c114, c115, c116, c117, c118, c119, c120, c121, c122, c123, c124, c125, c126, c127, c128, c129, c130, c131, c132, c133, c134, c135, c136, c137, c138, c139, c140, c141, c142, c143, c144, c145, c146, c147, c148, c149, c150, c151, c152, c153, c154, c155, c156, c157, c158, c159, c160, c161, c162, c163, c164, c165, c166, c167, c168, c169, c170, c171, c172, c173, c174, c175, c176, c177, c178, c179, c180, c181, c182, c183, c184, c185, c186, c187, c188, c189, c190, c191, c192, c193, c194, c195, c196, c197, c198, c199, c200, c201, c202, c203, c204, c205, c206, c207, c208, c209, c210, c211, c212, c213, c214, c215, c216, c217, c218, c219, c220, c221, c222, c223, c224, c225, c226, c227, c228, c229, c230, c231, c232, c233, c234, c235, c236, c237, c238, c239, c240, c241, c242, c243, c244, c245, c246, c247, c248, c249, c250, c251, c252, c253, c254, c255, c256, c257, c258, c259, c260, c261, c262, c263, c264, c265, c266, c267, c268, c269, c270, c271, c272, c273, c274, c275, c276, c277, c278, c279, c280, c281, c282, c283, c284, c285, c286, c287, c288, c289, c290, c291, c292, c293, c294, c295, c296, c297, c298, c299, c300, c301, c302, c303], []⟩ wc := by
  obtain ⟨i0, hi0, hz0, hz1', hz2⟩ := info_parts Try.infoBx
  have ZP : Hid (∀ W, Below wc.heap.size wc W → ZAt W W.heap.size (.slice ap L.length cp) L) := fun W hW => hZ.below hW
  have HGP : Hid (gb (dup L) = true) := gP
  have HB : Hid (Below w.heap.size w wc) := hB
  have CD := drawLeast_any a1 len1 cap1 wc hcode
  clear hZ gP hcode hB
  conv => arg 2; whnf
  go_wp2_with fail
  refine CD.mono ?_
  rintro e w20 ⟨⟨vl, M, us, rfl, hM, hL⟩, hb20⟩
  obtain ⟨al, cl, hvl⟩ := hL.slice
  subst hvl
  have HL : Hid (BLs w20 wc.heap.size (.slice al M.length cl) M us) := hL
  clear CD hL
  have CI := implLeast M _ w20 HL.out.at
  have CS : Hid (∀ W, Below w20.heap.size w20 W → Calls Try.prog 19 #[.slice al M.length cl] W fun e w' => (∃ r, e = .returned (.tuple #[r, .bool (gl M)]) ∧ ZRow w' W.heap.size r (lco M)) ∧ Below W.heap.size W w') := fun W hW => specLeast M _ W (HL.out.at.below hW)
  obtain ⟨g, hg⟩ : ∃ g, g = gl M := ⟨_, rfl⟩
  rw [← hg] at CI CS
  have HG : Hid (g = gl M) := hg
  have hcl := lco_len M
  clear hg
  go_wp2_with fail
  refine CI.mono ?_
  rintro e w21 ⟨⟨r1, rfl, hr1⟩, hb21⟩
  obtain ⟨ar, cr, hr1e⟩ := hr1.slice
  subst hr1e
  clear CI
  go_wp2_with fail
  refine (CS.out w21 hb21).mono ?_
  rintro e w22 ⟨⟨r2, rfl, hr2⟩, hb22⟩
  obtain ⟨ar2, cr2, hr2e⟩ := hr2.slice
  subst hr2e
  have n1 : (g != g) = false := bne_self_eq_false _
  have hz1 : ZAt w22 w22.heap.size (.slice ar (lco M).length cr) (lco M) := (ZAt.own hr1).below hb22
  have SZ := sameZ_same (lco M) _ _ w22 hz1 (ZAt.own hr2) (by omega)
  clear hr1 hr2 CS
  go_wp2_with fail
  refine SZ.mono ?_
  rintro e w23 ⟨rfl, hb23⟩
  have hb0 : Below w20.heap.size w20 w22 := hb21.trans (hb22.mono hb21.size)
  have hb1 : Below w20.heap.size w20 w23 := hb0.trans (hb23.mono hb0.size)
  have hbc : Below wc.heap.size wc w23 := hb20.trans (hb1.mono hb20.size)
  have hBw : Below w.heap.size w w23 := HB.out.trans (hbc.mono HB.out.size)
  have LL : Hid (∀ W, Below w23.heap.size w23 W → BLs W wc.heap.size (.slice al M.length cl) M us) := fun W hW => (HL.out.below hb1).below hW
  have ZC : Hid (∀ W, Below w23.heap.size w23 W → ZAt W W.heap.size (.slice ar (lco M).length cr) (lco M)) := fun W hW => (hz1.below hb23).below hW
  have ZQ : Hid (∀ W, Below w23.heap.size w23 W → ZAt W W.heap.size (.slice ap L.length cp) L) := fun W hW => ZP.out W (hbc.trans (hW.mono hbc.size))
  clear SZ hz1 hb0 hb1 hb20 hb21 hb22 hb23 HL ZP HB n1 hbc
  cases g with
  | false =>
    have hlc : (lco M).length = 0 := by rw [lco_no HG.out.symm]; rfl
    go_wp2
    go_ret
    exact ⟨rfl, hBw⟩
  | true =>
    have gM : gl M = true := HG.out.symm
    have HGM : Hid (gl M = true) := gM
    have hfl := few_len M
    have HFL : Hid ((fewL M).length = (lco M).length) := hfl
    have hrr := Below.refl w23.heap.size w23
    clear hfl gM HG
    go_wp2_with fail
    go_loopw [34, 235] (fun vf vi wr => ∃ (k : Nat) (us2 : List Value), k ≤ (lco M).length ∧ vi = .int .i64 (k : Int) ∧ Hid (BFs wr w23.heap.size vf ((fewL M).take k) us2) ∧ Below w23.heap.size w23 wr)
      (fun _ vi _ => (lco M).length - (intOf vi).toNat)
    case atStart => exact ⟨0, [], by omega, rfl, BFs.nil _ _, hrr⟩
    case round =>
      obtain ⟨k, us2, hk, rfl, hBF, hbr⟩ := hrel
      have hsr := hbr.size
      by_cases hlt : k < (lco M).length
      · have hltI : (k : Int) < ((lco M).length : Int) := by omega
        obtain ⟨j, hj, hjM, _⟩ := lco_get HGM.out (List.getElem?_eq_getElem hlt)
        have hkj : (lco M)[k]? = some (j : Int) := by rw [List.getElem?_eq_getElem hlt, hj]
        obtain ⟨ao, cc, hzz, hzl, hzc, hzr⟩ := ZC.out wr hbr
        simp only [Value.slice.injEq, true_and] at hzz
        obtain ⟨hao, hcc⟩ := hzz
        rw [← hao] at hzr
        clear hao hcc hzl hzc
        obtain ⟨gz, oz, haz, hgz, cz⟩ := hzr k _ hkj
        subst haz
        have hLr := LL.out wr hbr
        obtain ⟨u, hu, hsu, hau⟩ := hLr.2 j hjM
        obtain ⟨gl9, hal⟩ : ∃ gv, al = some ⟨gv, 0, none⟩ := by
          rcases hLr.1.2 with ⟨e, h0⟩ | ⟨g, cap, cur, e, _⟩
          · omega
          · simp only [Value.slice.injEq] at e
            exact ⟨g, e.1⟩
        subst hal
        have cu := World.ownsRow.cellAt hLr.1 j (by omega)
        rw [hu] at cu
        have hlg := (World.ownsRow.lt hLr.1 gl9 rfl).2
        obtain ⟨au, cpu, hue, _⟩ := id hsu
        subst hue
        have hjI : (j : Int) < (M.length : Int) := by omega
        have hFS : Hid ((fewL M).take (k + 1) = (fewL M).take k ++ [mx M j]) := few_step hkj
        have htl : ((fewL M).take k).length = k := by rw [List.length_take, HFL.out]; omega
        have hAu : Apt wr 0 (.slice au (mx M j).length cpu) u34.ownBlock := fun a n c e => by
          obtain ⟨q1, q2, q3⟩ := hau a n c e
          refine ⟨q1, fun e2 => ?_, by omega⟩
          have h1 := (World.ownsRow.lt hBF.out.1 a.block e2).1
          have h2 := (hLr.bounds j _ a n c hu e)
          have h3 := ((LL.out w23 hrr).bounds j _ a n c hu e).1
          omega
        have hown' : wr.ownsRow w23.heap.size 25 1 u34 k us2 := by have := hBF.out.1; rwa [htl] at this
        clear hzr hkj hj hu hau hLr
        go_wp2_with (at_builtin; refine wpList_append_lies _ rfl _ _ 37 rfl w23.heap.size 25 i0 (.agg #[.slice none 0 0]) 1 24 Try.underlying37 hi0 hz0 hz1' hz2 rfl (by decide) _ k _ rfl (World.ownsRow.alloc hown' _) ⟨wr.heap.size, 0, none⟩ 1 1 [Value.slice au (mx M j).length cpu] rfl rfl (World.news_of_block (heap_alloc_new wr _)) (one_slice _ _ _) (by omega) (by unfold maxLen; omega) (by omega) (by simp; omega) (wr.heap.size + 1) (by simp) ?_)
        intro g9 cap9 w9 hown9 hgrow9 hat9 hlt9
        have hlt34 := World.ownsRow.lt hown'
        have hb9 : Below w23.heap.size w23 w9 := (hbr.alloc hsr _).grown hgrow9 (by simp; omega) (fun q hq => (hlt34 q hq).1)
        have K9 : Hid (BFs w9 w23.heap.size (.slice (some ⟨g9, 0, none⟩) (k + 1) cap9) ((fewL M).take (k + 1)) (us2 ++ [Value.slice au (mx M j).length cpu])) := by
          show BFs _ _ _ _ _
          rw [hFS.out]
          have := hBF.out.snoc hsu hAu (g := g9) (cap := cap9) (w9 := w9) (by rw [htl]; exact hown9) hgrow9 hat9
          rwa [htl] at this
        clear hown9 hgrow9 hat9 hown' hsu hAu hBF
        go_wp2
        go_roundw
        case rel => exact ⟨k + 1, _, by omega, by go_num, K9, hb9⟩
        case measure => simp [intOf]; omega
      · have hke : k = (lco M).length := by omega
        have hge : ¬ (k : Int) < ((lco M).length : Int) := by omega
        have hBFe : BFs wr w23.heap.size u34 (fewL M) us2 := by have := hBF.out; rwa [hke, ← HFL.out, List.take_length] at this
        obtain ⟨af, cf, hf⟩ := hBFe.slice
        have hfat : BxsAt wr wr.heap.size u34 (fewL M) := hBFe.at
        subst hf
        have FW : Hid (∀ W, Below wr.heap.size wr W → BxsAt W W.heap.size (.slice af (fewL M).length cf) (fewL M)) := fun W hW => hfat.below hW
        have U1 : Hid (Calls Try.prog 21 #[.slice al M.length cl, .slice ap L.length cp] wr fun e w' => e = .returned (.tuple #[.bool (uno M L), .bool true]) ∧ Below wr.heap.size wr w') := by
          have := implUnion M L _ _ wr (LL.out wr hbr).at (ZQ.out wr hbr)
          rwa [HGM.out, HGP.out] at this
        have U2 : Hid (∀ W, Below wr.heap.size wr W → Calls Try.prog 21 #[.slice af (fewL M).length cf, .slice ap L.length cp] W fun e w' => e = .returned (.tuple #[.bool (uno M L), .bool true]) ∧ Below W.heap.size W w') := fun W hW => by
          have := implUnion (fewL M) L _ _ W (FW.out W hW) (ZQ.out W (hbr.trans (hW.mono hbr.size)))
          rwa [few_good HGM.out, HGP.out, few_union HGM.out] at this
        have hBr : Below w.heap.size w wr := hBw.trans (hbr.mono hBw.size)
        generalize uno M L = x at U1 U2
        have n2 : (x != x) = false := bne_self_eq_false _
        clear hBF hBFe hfat hke
        go_wp2_with fail
        refine U1.out.mono ?_
        rintro e w30 ⟨rfl, hb30⟩
        go_wp2_with fail
        refine (U2.out _ hb30).mono ?_
        rintro e w31 ⟨rfl, hb31⟩
        have hB31 : Below wr.heap.size wr w31 := hb30.trans (hb31.mono hb30.size)
        have hfl20 : (fewL M).length ≤ 20 := by rw [HFL.out]; exact hcl
        have HCV : Hid (∀ i j, i < (fewL M).length → j < (fewL M).length → ∀ (W : World) (v u : Value), SdsAt W W.heap.size v (mx (fewL M) i) → SdsAt W W.heap.size u (mx (fewL M) j) → Calls Try.prog 6 #[.agg #[v], .agg #[u]] W fun e w' => (∃ b : Bool, e = .returned (.tuple #[.bool b, .bool true]) ∧ (i ≠ j → b = false)) ∧ Below W.heap.size W w') := fun i j hi hj W v u h1 h2 => by
          have gi := (gl_get (few_good HGM.out)).2 i hi
          have gj := (gl_get (few_good HGM.out)).2 j hj
          refine (implCov _ _ v u W h1 h2).mono ?_
          rintro e w' ⟨rfl, hb⟩
          rw [gi, gj]
          exact ⟨⟨_, rfl, fun hij => few_apart HGM.out hi hj hij⟩, hb⟩
        clear U1 U2 n2 hb30 hb31 LL ZC ZQ HGM HGP HFL hBw
        generalize fewL M = F at FW HCV hfl20 ⊢
        have hF20 : F.length ≤ 9223372036854775807 := by omega
        obtain ⟨wo, hwo⟩ : ∃ W, W = wr := ⟨_, rfl⟩
        rw [← hwo] at FW hB31 hBr
        clear hwo
        go_wp2_with fail
        go_loopw [272] (fun vi wr => ∃ (i : Nat), i ≤ F.length ∧ vi = .int .i64 (i : Int) ∧ Below wo.heap.size wo wr)
          (fun vi _ => F.length - (intOf vi).toNat)
        case atStart => exact ⟨0, by omega, rfl, hB31⟩
        case round =>
          obtain ⟨i, hi, rfl, hbi⟩ := hrel
          clear hB31
          by_cases hlt2 : i < F.length
          · have hltI2 : (i : Int) < (F.length : Int) := by omega
            obtain ⟨wo2, hwo2⟩ : ∃ W, W = wr := ⟨_, rfl⟩
            rw [← hwo2] at hbi ⊢
            clear hwo2
            go_wp2_with fail
            go_loopw [277] (fun vj wr => ∃ (j : Nat), j ≤ F.length ∧ vj = .int .i64 (j : Int) ∧ Below wo.heap.size wo wr)
              (fun vj _ => F.length - (intOf vj).toNat)
            case atStart => exact ⟨0, by omega, rfl, hbi⟩
            case round =>
              obtain ⟨j, hj, rfl, hbj⟩ := hrel
              clear hbi
              by_cases hlt3 : j < F.length
              · have hltI3 : (j : Int) < (F.length : Int) := by omega
                have hbd : Below wo.heap.size wo wr.drew := hbj.drew
                obtain ⟨ao, cc, hff, hfl, hfc, hfr⟩ := FW.out wr hbj
                simp only [Value.slice.injEq, true_and] at hff
                obtain ⟨hao, hcc⟩ := hff
                subst hao hcc
                obtain ⟨g1, o1, u1, ha1, hg1, c1, s1⟩ := hfr i hlt2
                obtain ⟨g2, o2, u2, ha2, hg2, c2, s2⟩ := hfr j hlt3
                subst ha1
                simp only [Option.some.injEq, Addr.mk.injEq, and_true] at ha2
                obtain ⟨rfl, rfl⟩ := ha2
                have CV := HCV.out i j hlt2 hlt3 wr.drew u1 u2 (s1.below (Below.refl _ wr).drew) (s2.below (Below.refl _ wr).drew)
                obtain ⟨b1, k1, hu1, _⟩ := id s1
                obtain ⟨b2, k2, hu2, _⟩ := id s2
                subst hu1 hu2
                have HCW : Hid (Calls Try.prog 6 #[.agg #[.slice b1 (mx F i).length k1], .agg #[.slice b2 (mx F j).length k2]] wr.drew fun e w' => (∃ b : Bool, e = .returned (.tuple #[.bool b, .bool true]) ∧ (i ≠ j → b = false)) ∧ Below wr.drew.heap.size wr.drew w') := CV
                clear CV s1 s2 hfr hfc hfl
                go_upto_region 50 with fail
                go_region_with (first
                  | (go_at_call 6; refine HCW.out.mono ?_; rintro e w40 ⟨⟨bb, rfl, hbb⟩, hb40⟩; have hB40 : Below wo.heap.size wo w40 := hbd.trans (hb40.mono hbd.size); have HBB : Hid (i ≠ j → bb = false) := hbb; clear hbb))
                all_goals
                  by_cases hij : i = j
                  · have d1 : ((i : Int) != (j : Int)) = false := by rw [hij]; simp
                    have d2 : (i != j) = false := by rw [hij]; simp
                    clear hij
                    go_wp2
                    go_roundw
                    case rel => exact ⟨j + 1, by omega, by go_num, hB40⟩
                    case measure => simp [intOf]; omega
                  · have d1 : ((i : Int) != (j : Int)) = true := by simp; omega
                    have d2 : (i != j) = true := by simpa using hij
                    have hb0 := HBB.out hij
                    subst hb0
                    clear hij
                    go_wp2
                    go_roundw
                    case rel => exact ⟨j + 1, by omega, by go_num, hB40⟩
                    case measure => simp [intOf]; omega
              · have hge3 : ¬ (j : Int) < (F.length : Int) := by omega
                go_wp2
                go_roundw
                case rel => exact ⟨i + 1, by omega, by go_num, hbj⟩
                case measure => simp [intOf]; omega
          · have hge2 : ¬ (i : Int) < (F.length : Int) := by omega
            have hBe : Below w.heap.size w wr := hBr.trans (hbi.mono hBr.size)
            go_wp2
            go_ret
            exact ⟨rfl, hBe⟩

end Go.Proofs.Ytnbaeplbnonhkaa
