/- The law FnCut from its point on. The law FnCut, walked: for what is drawn from the bytes it answers true. -/
import Derived.Test.YtnbaeplbnonhkaaHe
import Derived.Test.YtnbaeplbnonhkaaBxJ
import Derived.Test.YtnbaeplbnonhkaaByF
namespace Go.Proofs.Ytnbaeplbnonhkaa
open Go.RowKit Plain Sch Bxs

noncomputable def cut9 : Code := ((Try.f4.body.bind (kTail 9)).getD .skip)

set_option maxRecDepth 1000000 in
set_option maxHeartbeats 16000000 in
theorem cut_part9 (w wp : World) (a1 ap aA aB al : Option Addr) (len1 cap1 cp PA PB cl cA cB : Nat) (L : List Int) (A B : List Sd) (ok : Bool) (HOK : Hid (ok = (gb A && gb B)))
    (hA : VCt PA (.slice aA A.length cA) A wp) (hB2 : VCt PB (.slice aB B.length cB) B wp) (hL : BxsAt wp wp.heap.size (.slice al (cto A B).length cl) (cto A B))
    (hcode : CodeAt wp a1 len1) (hZ : ZAt wp wp.heap.size (.slice ap L.length cp) L) (gP : gb (dup L) = true ∧ (bx (dup L)).a.lo = (bx (dup L)).a.hi ∧ (bx (dup L)).b.lo = (bx (dup L)).b.hi ∧ (bx (dup L)).c.lo = (bx (dup L)).c.hi) (hB : Below w.heap.size w wp)
    (c0 c2 c3 c4 c9 c10 c12 c13 c14 c15 c16 c17 c18 c19 c20 c21 c22 c23 c24 c25 c26 c27 c28 c29 c30 c31 c32 c33 c34 c35 c36 c37 c38 c39 c40 c41 c42 c43 c44 c45 c46 c47 c48 c49 c50 c51 c52 c53 c54 c55 c56 c57 c58 c59 c60 c61 c62 c63 c64 c65 c66 c67 c68 c69 c70 c71 c72 c73 c74 c75 c76 c77 c78 c79 c80 c81 c82 c83 c84 c85 c86 c87 c88 c89 c90 c91 c92 c93 c94 c95 c96 c97 c98 c99 c100 c101 c102 c103 c104 c105 c106 c107 c108 c109 c110 c111 c112 c113 c114 c115 c116 c117 c118 c119 c120 c121 c122 c123 c124 c125 c126 c127 c128 c129 c130 c131 c132 c133 c134 c135 c136 c137 c138 c139 c140 c141 c142 c143 c144 c145 c146 c147 c148 c149 c150 c151 c152 c153 c154 c155 c156 c157 c158 c159 c160 c161 c162 c163 c164 c165 c166 c167 c168 c169 c170 c171 c172 c173 c174 c175 c176 c177 c178 c179 c180 c181 c182 c183 c184 c185 c186 c187 c188 c189 c190 c191 c192 c193 c194 c195 c196 c197 c198 c199 c200 c201 c202 c203 c204 c205 c206 c207 c208 c209 c210 c211 c212 c213 c214 c215 c216 c217 c218 c219 c220 c221 c222 c223 c224 c225 c226 c227 c228 c229 c230 c231 c232 c233 c234 c235 c236 c237 c238 c239 c240 c241 c242 c243 c244 c245 c246 c247 : Value) :
    Code.wp Try.prog cut9 (bodyPost Try.prog Try.f4 fun e w' => e = .returned (.bool true) ∧ Below w.heap.size w w') ⟨#[c0, .slice a1 len1 cap1, c2, c3, c4, .pointer (some ⟨PA, 0, none⟩), .pointer (some ⟨PB, 0, none⟩), .slice al (cto A B).length cl, .bool ok, c9, c10, .slice ap L.length cp, c12, c13, c14, c15, c16, c17, c18, c19, c20, c21, c22, c23, c24, c25, c26, c27, c28, c29, c30, c31, c32, c33, c34, c35, c36, c37, c38, c39, c40, c41, c42, c43, c44, c45, c46, c47, c48, c49, c50, c51, c52, c53, c54, c55, c56, c57, c58, c59, c60, c61, c62, c63, c64, c65, c66, c67, c68, c69, c70, c71, c72, c73, c74, c75, c76, c77, c78, c79, c80, c81, c82, c83, c84, c85, c86, c87, c88, c89, c90, c91, c92, c93, c94, c95, c96, c97, c98, c99, c100, c101, c102, c103, c104, c105, c106, c107, c108, c109, c110, c111, c112, c113, c114, c115, c116, c117, c118, c119, c120, c121, c122, c123, c124, c125, c126, c127, c128, c129, c130, c131, c132, c133, c134, c135, c136, c137, c138, c139, c140, c141, c142, c143, c144, c145, c146, c147, c148, c149, c150, c151, c152, c153, c154, c155, c156, c157, c158, c159, c160, c161, c162, c163, c164, c165, c166, c167, c168, c169, c170, c171, c172, c173, c174, c175, c176, c177, c178, c179, c180, c181, c182, c183, c184, c185, c186, c187, c188, c189, c190, c191, c192, c193, c194, c195, c196, c197, c198, c199, c200, c201, c202, c203, c204, c205, c206, c207, c208, c209, c210, c211, c212, c213, c214, c215, c216, c217, c218, c219, c220, c221, c222, c223, c224, c225, c226, c227, c228, c229, c230, c231, c232, c233, c234, c235, c236, c237, c238, c239, c240, c241, c242, c243, c244, c245, c246, c247], []⟩ wp := by
  have ZP : Hid (∀ W, Below wp.heap.size wp W → ZAt W W.heap.size (.slice ap L.length cp) L) := fun W hW => hZ.below hW
  have HGP : Hid (gb (dup L) = true ∧ (bx (dup L)).a.lo = (bx (dup L)).a.hi ∧ (bx (dup L)).b.lo = (bx (dup L)).b.hi ∧ (bx (dup L)).c.lo = (bx (dup L)).c.hi) := gP
  have HBp : Hid (Below w.heap.size w wp) := hB
  have HCp : Hid (∀ W, Below wp.heap.size wp W → CodeAt W a1 len1) := fun W hW => hcode.below hW
  have VA : Hid (∀ W, Below wp.heap.size wp W → VCt PA (.slice aA A.length cA) A W) := fun W hW => hA.below hW
  have VB : Hid (∀ W, Below wp.heap.size wp W → VCt PB (.slice aB B.length cB) B W) := fun W hW => hB2.below hW
  have VL : Hid (∀ W, Below wp.heap.size wp W → BxsAt W W.heap.size (.slice al (cto A B).length cl) (cto A B)) := fun W hW => hL.below hW
  clear hA hB2 hL hcode hZ gP hB
  conv => arg 2; whnf
  go_upto_if 80 with fail
  go_cut [8] (fun s8 wx => s8 = .bool ok ∧ Below wp.heap.size wp wx)
  case first =>
    have hrp := Below.refl wp.heap.size wp
    cases ok with
    | false =>
      go_wp2_with fail
      go_meet
      exact ⟨rfl, hrp⟩
    | true =>
      have hgg : gb A = true ∧ gb B = true := by have := HOK.out.symm; simpa using this
      obtain ⟨gA, gB⟩ := hgg
      have GA : Hid (gb A = true) := gA
      have GB : Hid (gb B = true) := gB
      obtain ⟨p1, p2, p3, p4⟩ := HGP.out
      have HCN : Hid (cntL (cto A B) (dup L) (cto A B).length = if (cvo A (dup L) && !cvo B (dup L)) = true then 1 else 0) := cntL_cut gA gB p1 p2 p3 p4
      have hl6 := cto_len gA gB
      have BA : Hid (∀ W : World, Below wp.heap.size wp W → Calls Try.prog 16 #[.agg #[.slice aA A.length cA], .slice ap L.length cp] W fun e w' => e = .returned (.tuple #[.bool (cvo A (dup L)), .bool true]) ∧ Below W.heap.size W w') := fun W hW => by
        have := implHas A L _ _ W (VA.out W hW).2.2 (ZP.out W hW)
        rwa [GA.out, HGP.out.1] at this
      have BB : Hid (∀ W : World, Below wp.heap.size wp W → Calls Try.prog 16 #[.agg #[.slice aB B.length cB], .slice ap L.length cp] W fun e w' => e = .returned (.tuple #[.bool (cvo B (dup L)), .bool true]) ∧ Below W.heap.size W w') := fun W hW => by
        have := implHas B L _ _ W (VB.out W hW).2.2 (ZP.out W hW)
        rwa [GB.out, HGP.out.1] at this
      have BC : Hid (∀ (k : Nat) (W : World) (u : Value), k < (cto A B).length → Below wp.heap.size wp W → SdsAt W W.heap.size u (mx (cto A B) k) → Calls Try.prog 16 #[.agg #[u], .slice ap L.length cp] W fun e w' => e = .returned (.tuple #[.bool (cvo (mx (cto A B) k) (dup L)), .bool true]) ∧ Below W.heap.size W w') := fun k W u hk hW hs => by
        have := implHas (mx (cto A B) k) L _ _ W hs (ZP.out W hW)
        rwa [(cto_mx GA.out GB.out hk).1, HGP.out.1] at this
      generalize cvo A (dup L) = X at HCN BA
      generalize cvo B (dup L) = Y at HCN BB
      clear gA gB p1 p2 p3 p4 HOK
      obtain ⟨qa1, la1, _⟩ := VA.out _ hrp
      go_wp2_with fail
      refine (BA.out _ hrp).mono ?_
      rintro e w20 ⟨rfl, hb20⟩
      obtain ⟨qb1, lb1, _⟩ := VB.out _ hb20
      clear qa1 la1
      go_wp2_with fail
      refine (BB.out _ hb20).mono ?_
      rintro e w21 ⟨rfl, hb21⟩
      have hB21 : Below wp.heap.size wp w21 := hb20.trans (hb21.mono hb20.size)
      clear qb1 lb1 hb20 hb21 BA BB
      go_wp2_with fail
      rename (∀ (a : Act) (w : World), Code.wp Try.prog _ _ a w → _) => hK22
      have HK22 : Hid (type_of% hK22) := hK22
      clear hK22
      go_loopw [16, 95] (fun vn vi wr => ∃ (k : Nat), k ≤ (cto A B).length ∧ vi = .int .i64 (k : Int) ∧ vn = .int .i64 ((cntL (cto A B) (dup L) k : Nat) : Int) ∧ Below wp.heap.size wp wr)
        (fun _ vi _ => (cto A B).length - (intOf vi).toNat)
      case atStart => exact ⟨0, by omega, rfl, rfl, hB21⟩
      case round =>
        obtain ⟨k, hk, rfl, rfl, hbr⟩ := hrel
        clear hB21
        by_cases hlt : k < (cto A B).length
        · have hltI : (k : Int) < ((cto A B).length : Int) := by omega
          have hcl := cntL_le (cto A B) (dup L) k
          have HST : Hid (cntL (cto A B) (dup L) (k + 1) = cntL (cto A B) (dup L) k + if cvo (mx (cto A B) k) (dup L) = true then 1 else 0) := cntL_step hlt
          obtain ⟨ao, cc, hll, hlc, hlm, hlr⟩ := VL.out wr hbr
          simp only [Value.slice.injEq, true_and] at hll
          obtain ⟨hao, hcc⟩ := hll
          rw [← hao] at hlr
          clear hao hcc hlc hlm
          obtain ⟨g, o, u, haz, hg, c, hs⟩ := hlr k hlt
          obtain ⟨au, cu, hue, _⟩ := id hs
          subst hue
          have hba : Below wp.heap.size wp (wr.alloc (.cells #[.slice au (mx (cto A B) k).length cu] 25)) := hbr.alloc hbr.size _
          have C := BC.out k _ _ hlt hba (hs.below ((Below.refl _ wr).alloc (Nat.le_refl _) _))
          have HC : Hid (Calls Try.prog 16 #[.agg #[.slice au (mx (cto A B) k).length cu], .slice ap L.length cp] (wr.alloc (.cells #[.slice au (mx (cto A B) k).length cu] 25)) fun e w' => e = .returned (.tuple #[.bool (cvo (mx (cto A B) k) (dup L)), .bool true]) ∧ Below (wr.alloc (.cells #[.slice au (mx (cto A B) k).length cu] 25)).heap.size (wr.alloc (.cells #[.slice au (mx (cto A B) k).length cu] 25)) w') := C
          subst haz
          generalize cvo (mx (cto A B) k) (dup L) = z at HST HC
          clear hlr hs C
          go_wp2_with fail
          refine HC.out.mono ?_
          rintro e w30 ⟨rfl, hb30⟩
          have hB30 : Below wp.heap.size wp w30 := hba.trans (hb30.mono hba.size)
          clear hb30 HC hba
          cases z with
          | false =>
            go_wp2
            go_roundw
            case rel => exact ⟨k + 1, by omega, by go_num, by rw [HST.out]; rfl, hB30⟩
            case measure => simp [intOf]; omega
          | true =>
            have hcb : ((cntL (cto A B) (dup L) k : Nat) : Int) ≤ 100 := by omega
            have e1 : Hid (cntL (cto A B) (dup L) (k + 1) = cntL (cto A B) (dup L) k + 1) := by show _ = _; rw [HST.out]; rfl
            generalize cntL (cto A B) (dup L) k = n at e1 hcb hcl ⊢
            go_wp2
            go_roundw
            case rel => exact ⟨k + 1, by omega, by go_num, by rw [e1.out]; go_num, hB30⟩
            case measure => simp [intOf]; omega
        · have hke : k = (cto A B).length := by omega
          have hge : ¬ (k : Int) < ((cto A B).length : Int) := by omega
          subst hke
          go_wp2_with fail
          refine HK22.out _ _ ?_
          exact cut_part22 wp _ PA PB _ cl cA cB _ aA aB al A B X Y HCN.out GA.out GB.out VA VB VL hl6 hbr _ _ _ _ _ _ _ _ _ _ _ _ _ _ _ _ _ _ _ _ _ _ _ _ _ _ _ _ _ _ _ _ _ _ _ _ _ _ _ _ _ _ _ _ _ _ _ _ _ _ _ _ _ _ _ _ _ _ _ _ _ _ _ _ _ _ _ _ _ _ _ _ _ _ _ _ _ _ _ _ _ _ _ _ _ _ _ _ _ _ _ _ _ _ _ _ _ _ _ _ _ _ _ _ _ _ _ _ _ _ _ _ _ _ _ _ _ _ _ _ _ _ _ _ _ _ _ _ _ _ _ _ _ _ _ _ _ _ _ _ _ _ _ _ _ _ _ _ _ _ _ _ _ _ _ _ _ _ _ _ _ _ _ _ _ _ _ _ _ _ _ _ _ _ _ _ _ _ _ _ _ _ _ _ _ _ _ _ _ _ _ _ _ _ _ _ _ _ _ _ _ _ _ _ _ _ _ _ _ _ _ _ _ _ _ _ _ _ _ _ _ _ _ _ _ _ _ _ _ _ _ _ _ _ _ _ _ _ _ _ _ (fun _ _ _ _ _ _ _ _ _ _ _ _ _ _ _ _ _ _ _ _ _ _ _ _ _ _ _ _ _ _ _ _ _ _ _ _ _ _ _ _ _ _ _ _ _ _ _ _ _ _ _ _ _ _ _ _ _ _ _ _ _ _ _ _ _ _ _ _ _ _ _ _ _ _ _ _ _ _ _ _ _ _ _ _ _ _ _ _ _ _ _ _ _ _ _ _ _ _ _ _ _ _ _ _ wx hx => by first | (go_meet; exact ⟨rfl, hx⟩) | (go_wp2_with fail; go_meet; exact ⟨rfl, hx⟩) | (go_meet; apply_assumption; exact ⟨rfl, hx⟩) | (go_meet; (repeat apply_assumption); exact ⟨rfl, hx⟩))
  case rest =>
    obtain ⟨rfl, hbd⟩ := hcut
    have hBd : Below w.heap.size w wc := HBp.out.trans (hbd.mono HBp.out.size)
    have hC := HCp.out wc hbd
    clear VA VB VL HOK HCp ZP HGP HBp
    apply_assumption
    exact cut_part40 w wc a1 len1 cap1 hC hBd _ _ _ _ _ _ _ _ _ _ _ _ _ _ _ _ _ _ _ _ _ _ _ _ _ _ _ _ _ _ _ _ _ _ _ _ _ _ _ _ _ _ _ _ _ _ _ _ _ _ _ _ _ _ _ _ _ _ _ _ _ _ _ _ _ _ _ _ _ _ _ _ _ _ _ _ _ _ _ _ _ _ _ _ _ _ _ _ _ _ _ _ _ _ _ _ _ _ _ _ _ _ _ _ _ _ _ _ _ _ _ _ _ _ _ _ _ _ _ _ _ _ _ _ _ _ _ _ _ _ _ _ _ _ _ _ _ _ _ _ _ _ _ _ _ _ _ _ _ _ _ _ _ _ _ _ _ _ _ _ _ _ _ _ _ _ _ _ _ _ _ _ _ _ _ _ _ _ _ _ _ _ _ _ _ _ _ _ _ _ _ _ _ _ _ _ _ _ _ _ _ _ _ _ _ _ _ _ _ _ _ _ _ _ _ _ _ _ _ _ _ _ _ _ _ _ _ _ _ _ _ _ _ _ _ _ _ _ _ _ _ _ _ _ _ _ _

end Go.Proofs.Ytnbaeplbnonhkaa

namespace Go.Proofs.Ytnbaeplbnonhkaa
open Go.RowKit Plain Sch Bxs

theorem cto_small (A B : List Sd) : (cto A B).length ≤ 6 := by
  unfold cto
  split
  · rw [List.length_map]; exact cut_six _ _
  · simp

set_option maxRecDepth 100000 in
set_option maxHeartbeats 16000000 in
theorem walkFnCut (a0 : Option Addr) (len0 cap0 : Nat) (a1 : Option Addr) (len1 cap1 : Nat) (w : World) (h0 : len0 ≤ 1048576 → CodeAt w a0 len0) (h1 : len1 ≤ 1048576 → CodeAt w a1 len1) (y0 : len0 ≤ 140737488351232) (y1 : len1 ≤ 140737488351232) :
    Calls Try.prog 4 #[.slice a0 len0 cap0, .slice a1 len1 cap1] w fun e w' => e = .returned (.bool true) ∧ Below w.heap.size w w' := by
  by_cases hbig : 1048576 < len0 + len1
  · have hbig' : (1048576 : Int) < (len0 : Int) + (len1 : Int) := by omega
    clear h0 h1
    go_enter Try.func4, Try.ntmps4
    go_wp2
    go_ret
    exact ⟨rfl, Below.refl _ _⟩
  have hbig' : ¬ (1048576 : Int) < (len0 : Int) + (len1 : Int) := by omega
  have H0 : Hid (CodeAt w a0 len0) := h0 (by omega)
  have H1 : Hid (CodeAt w a1 len1) := h1 (by omega)
  have hl1 : len1 ≤ 1048576 := by omega
  clear h0 h1 hbig
  go_enter Try.func4, Try.ntmps4
  go_wp2_with fail
  refine (drawCut_any a0 len0 cap0 w H0.out).mono ?_
  rintro e w1 ⟨va, vb, A, B, rfl, hqa, hqb, hB1⟩
  clear H0
  have hsa := hqa.at
  have hsb := hqb.at
  obtain ⟨aA, cA, hva, _⟩ := id hsa
  obtain ⟨aB, cB, hvb, _⟩ := id hsb
  subst hva hvb
  obtain ⟨W2, hW2⟩ : ∃ W, W = (w1.alloc (.cells #[.slice aA A.length cA] 25)).alloc (.cells #[.slice aB B.length cB] 25) := ⟨_, rfl⟩
  have hb12 : Below w1.heap.size w1 W2 := by rw [hW2]; exact ((Below.refl _ w1).alloc (Nat.le_refl _) _).alloc (by simp) _
  have hB2 : Below w.heap.size w W2 := hB1.trans (hb12.mono hB1.size)
  have HA : Hid (∀ W, Below W2.heap.size W2 W → VCt w1.heap.size (.slice aA A.length cA) A W) := fun W hW => by
    refine VCt.below ?_ hW
    rw [hW2]
    exact (VCt.new hsa).below ((Below.refl _ _).alloc (Nat.le_refl _) _)
  have HB : Hid (∀ W, Below W2.heap.size W2 W → VCt (w1.heap.size + 1) (.slice aB B.length cB) B W) := fun W hW => by
    refine VCt.below ?_ hW
    rw [hW2]
    have := VCt.new (W := w1.alloc (.cells #[.slice aA A.length cA] 25)) (hsb.below ((Below.refl _ w1).alloc (Nat.le_refl _) _))
    simpa using this
  have HW2 : Hid (W2 = (w1.alloc (.cells #[.slice aA A.length cA] 25)).alloc (.cells #[.slice aB B.length cB] 25)) := hW2
  clear hW2 hqa hqb hsa hsb hb12 hB1
  have hr2 := Below.refl W2.heap.size W2
  obtain ⟨qa2, la2, _⟩ := HA.out W2 hr2
  obtain ⟨qb2, lb2, _⟩ := HB.out W2 hr2
  go_upto_region 4 with fail
  rw [← HW2.out]
  clear HW2
  go_wp2_with fail
  refine (implCut A B _ _ W2 (HA.out _ hr2).2.2 (HB.out _ hr2).2.2).mono ?_
  rintro e w3 ⟨⟨r1, rfl, us1, ho1⟩, hb3⟩
  obtain ⟨al, cl, hr1⟩ := ho1.slice
  subst hr1
  have HL3 : Hid (BxsAt w3 w3.heap.size (.slice al (cto A B).length cl) (cto A B)) := ho1.at
  obtain ⟨qa3, la3, _⟩ := HA.out _ hb3
  obtain ⟨qb3, lb3, _⟩ := HB.out _ hb3
  clear qa2 la2 qb2 lb2 ho1
  go_wp2_with fail
  refine (specCut A B _ _ w3 (HA.out _ hb3).2.2 (HB.out _ hb3).2.2).mono ?_
  rintro e w4 ⟨⟨r2, rfl, us2, ho2⟩, hb4⟩
  obtain ⟨al2, cl2, hr2e⟩ := ho2.slice
  subst hr2e
  have hb24 : Below W2.heap.size W2 w4 := hb3.trans (hb4.mono hb3.size)
  have HL4 : Hid (BxsAt w4 w4.heap.size (.slice al (cto A B).length cl) (cto A B)) := HL3.out.below hb4
  have hc6 := cto_small A B
  have SB := sameBoxes_same (cto A B) _ _ w4 HL4.out ho2.at (by omega)
  obtain ⟨ok, hok⟩ : ∃ r, r = (gb A && gb B) := ⟨_, rfl⟩
  rw [← hok]
  have HOK : Hid (ok = (gb A && gb B)) := hok
  have n1 : (ok != ok) = false := bne_self_eq_false _
  clear qa3 la3 qb3 lb3 hb3 hb4 ho2 HL3 hok
  go_wp2_with fail
  refine SB.mono ?_
  rintro e w5 ⟨rfl, hb5⟩
  have hb25 : Below W2.heap.size W2 w5 := hb24.trans (hb5.mono hb24.size)
  have hL5 := HL4.out.below hb5
  have HL5 : Hid (BxsAt w5 w5.heap.size (.slice al (cto A B).length cl) (cto A B)) := hL5
  have hB5 : Below w.heap.size w w5 := hB2.trans (hb25.mono hB2.size)
  have hcd := H1.out.below hB5
  have CP := pointOf_any a1 len1 cap1 w5 hl1 hcd.2
  clear SB n1 hb24 hb5 HL4 hL5 hcd hc6
  go_wp2_with fail
  refine CP.mono ?_
  rintro e wp ⟨rp, rfl, ⟨L, hL3, hLb, hZp⟩, hbp⟩
  have gP := point_good hL3 hLb
  obtain ⟨ap, cp, hrp⟩ := hZp.slice
  subst hrp
  have hb2p : Below W2.heap.size W2 wp := hb25.trans (hbp.mono hb25.size)
  have hBp : Below w.heap.size w wp := hB5.trans (hbp.mono hB5.size)
  have hcdp := H1.out.below hBp
  have hA9 := HA.out wp hb2p
  have hB9 := HB.out wp hb2p
  have hL9 := HL5.out.below hbp
  have hz9 := ZAt.own hZp
  clear CP H1 hZp hbp hb25 hB5 HL5 HA HB hL3 hLb hb2p hr2 hB2
  rename (∀ (a : Act) (w : World), Code.wp Try.prog _ _ a w → _) => hK9
  have HK9 : Hid (type_of% hK9) := hK9
  clear hK9
  go_wp2_with fail
  refine HK9.out _ _ ?_
  exact cut_part9 w wp a1 ap aA aB al len1 cap1 cp w1.heap.size (w1.heap.size + 1) cl cA cB L A B ok HOK hA9 hB9 hL9 hcdp hz9 gP hBp _ _ _ _ _ _ _ _ _ _ _ _ _ _ _ _ _ _ _ _ _ _ _ _ _ _ _ _ _ _ _ _ _ _ _ _ _ _ _ _ _ _ _ _ _ _ _ _ _ _ _ _ _ _ _ _ _ _ _ _ _ _ _ _ _ _ _ _ _ _ _ _ _ _ _ _ _ _ _ _ _ _ _ _ _ _ _ _ _ _ _ _ _ _ _ _ _ _ _ _ _ _ _ _ _ _ _ _ _ _ _ _ _ _ _ _ _ _ _ _ _ _ _ _ _ _ _ _ _ _ _ _ _ _ _ _ _ _ _ _ _ _ _ _ _ _ _ _ _ _ _ _ _ _ _ _ _ _ _ _ _ _ _ _ _ _ _ _ _ _ _ _ _ _ _ _ _ _ _ _ _ _ _ _ _ _ _ _ _ _ _ _ _ _ _ _ _ _ _ _ _ _ _ _ _ _ _ _ _ _ _ _ _ _ _ _ _ _ _ _ _ _ _ _ _ _ _ _ _ _ _ _ _ _ _ _ _ _ _ _ _ _

end Go.Proofs.Ytnbaeplbnonhkaa
