/- The law FnBoxes from its point on: what two boxes have. -/
import Derived.Test.YtnbaeplbnonhkaaHd
import Derived.Test.YtnbaeplbnonhkaaBxJ
namespace Go.Proofs.Ytnbaeplbnonhkaa
open Go.RowKit Plain Sch Bxs

noncomputable def tail13 : Code := ((Try.f3.body.bind (tailAt 13)).getD .skip)

set_option maxRecDepth 1000000 in
set_option maxHeartbeats 16000000 in
theorem boxes_part2 (w wp : World) (a1 ap : Option Addr) (len1 cap1 cp PA PB PH PM cA cB cH cM : Nat) (aA aB aH aM : Option Addr) (L : List Int) (A B : List Sd) (is ok two : Bool) (HOK : Hid (ok = (gb A && gb B))) (HIS : Hid (is = cvo A B)) (HTWO : Hid (two = mok A B))
    (hA : VAt PA (.slice aA A.length cA) A wp) (hB2 : VAt PB (.slice aB B.length cB) B wp) (hH : VAt PH (.slice aH (hlo A B).length cH) (hlo A B) wp) (hM : VAt PM (.slice aM (mlo A B).length cM) (mlo A B) wp)
    (hcode : CodeAt wp a1 len1) (hZ : ZAt wp wp.heap.size (.slice ap L.length cp) L) (gP : gb (dup L) = true) (hB : Below w.heap.size w wp)
    (c0 c2 c3 c4 c9 c10 c13 c14 c17 c18 c20 c21 c22 c23 c24 c25 c26 c27 c28 c29 c30 c31 c32 c33 c34 c35 c36 c37 c38 c39 c40 c41 c42 c43 c44 c45 c46 c47 c48 c49 c50 c51 c52 c53 c54 c55 c56 c57 c58 c59 c60 c61 c62 c63 c64 c65 c66 c67 c68 c69 c70 c71 c72 c73 c74 c75 c76 c77 c78 c79 c80 c81 c82 c83 c84 c85 c86 c87 c88 c89 c90 c91 c92 c93 c94 c95 c96 c97 c98 c99 c100 c101 c102 c103 c104 c105 c106 c107 c108 c109 c110 c111 c112 c113 c114 c115 c116 c117 c118 c119 c120 c121 c122 c123 c124 c125 c126 c127 c128 c129 c130 c131 c132 c133 c134 c135 c136 c137 c138 c139 c140 c141 c142 c143 c144 c145 c146 c147 c148 c149 c150 c151 c152 c153 c154 c155 c156 c157 c158 c159 c160 c161 c162 c163 c164 c165 c166 c167 c168 c169 c170 c171 c172 c173 c174 c175 c176 c177 c178 c179 c180 c181 c182 c183 c184 c185 c186 c187 c188 c189 c190 c191 c192 c193 c194 c195 c196 c197 c198 c199 c200 c201 c202 c203 c204 c205 c206 c207 c208 c209 c210 c211 c212 c213 c214 c215 c216 c217 c218 c219 c220 c221 c222 c223 c224 c225 c226 c227 c228 c229 c230 c231 c232 c233 c234 c235 c236 c237 c238 c239 c240 c241 c242 c243 c244 c245 c246 c247 c248 c249 c250 c251 c252 c253 c254 c255 c256 c257 c258 c259 c260 c261 c262 c263 c264 c265 c266 c267 c268 c269 c270 c271 c272 c273 c274 c275 c276 c277 c278 c279 c280 c281 c282 c283 c284 c285 c286 c287 c288 c289 c290 c291 c292 c293 c294 c295 c296 c297 c298 c299 c300 c301 c302 c303 : Value) :
    Code.wp Try.prog tail13 (bodyPost Try.prog Try.f3 fun e w' => e = .returned (.bool true) ∧ Below w.heap.size w w') ⟨#[c0, .slice a1 len1 cap1, c2, c3, c4, .pointer (some ⟨PA, 0, none⟩), .pointer (some ⟨PB, 0, none⟩), .bool is, .bool ok, c9, c10, .pointer (some ⟨PH, 0, none⟩), .bool ok, c13, c14, .pointer (some ⟨PM, 0, none⟩), .bool two, c17, c18, .slice ap L.length cp, c20, c21, c22, c23, c24, c25, c26, c27, c28, c29, c30, c31, c32, c33, c34, c35, c36, c37, c38, c39, c40, c41, c42, c43, c44, c45, c46, c47, c48, c49, c50, c51, c52, c53, c54, c55, c56, c57, c58, c59, c60, c61, c62, c63, c64, c65, c66, c67, c68, c69, c70, c71, c72, c73, c74, c75, c76, c77, c78, c79, c80, c81, c82, c83, c84, c85, c86, c87, c88, c89, c90, c91, c92, c93, c94, c95, c96, c97, c98, c99, c100, c101, c102, c103, c104, c105, c106, c107, c108, c109, c110, c111, c112, c113, c114, c115, c116, c117, c118, c119, c120, c121, c122, c123, c124, c125, c126, c127, c128, c129, c130, c131, c132, c133, c134, c135, c136, c137, c138, c139, c140, c141, c142, c143, c144, c145, c146, c147, c148, c149, c150, c151, c152, c153, c154, c155, c156, c157, c158, c159, c160, c161, c162, c163, c164, c165, c166, c167, c168, c169, c170, c171, c172, c173, c174, c175, c176, c177, c178, c179, c180, c181, c182, c183, c184, c185, c186, c187, c188, c189, c190, c191, c192, c193, c194, c195, c196, c197, c198, c199, c200, c201, c202, c203, c204, c205, c206, c207, c208, c209, c210, c211, c212, c213, c214, c215, c216, c217, c218, c219, c220, c221, c222, c223, c224, c225, c226, c227, c228, c229, c230, c231, c232, c233, c234, c235, c236, c237, c238, c239, c240, c241, c242, c243, c244, c245, c246, c247, c248, c249, c250, c251, c252, c253, c254, c255, c256, c257, c258, c259, c260, c261, c262, c263, c264, c265, c266, c267, c268, c269, c270, c271, c272, c273, c274, c275, c276, c277, c278, c279, c280, c281, c282, c283, c284, c285, c286, c287, c288, c289, c290, c291, c292, c293, c294, c295, c296, c297, c298, c299, c300, c301, c302, c303], []⟩ wp := by
  have ZP : Hid (∀ W, Below wp.heap.size wp W → ZAt W W.heap.size (.slice ap L.length cp) L) := fun W hW => hZ.below hW
  have HGP : Hid (gb (dup L) = true) := gP
  have HBp : Hid (Below w.heap.size w wp) := hB
  have HCp : Hid (∀ W, Below wp.heap.size wp W → CodeAt W a1 len1) := fun W hW => hcode.below hW
  have VA : Hid (∀ W, Below wp.heap.size wp W → VAt PA (.slice aA A.length cA) A W) := fun W hW => hA.below hW
  have VB : Hid (∀ W, Below wp.heap.size wp W → VAt PB (.slice aB B.length cB) B W) := fun W hW => hB2.below hW
  have VH : Hid (∀ W, Below wp.heap.size wp W → VAt PH (.slice aH (hlo A B).length cH) (hlo A B) W) := fun W hW => hH.below hW
  have VM : Hid (∀ W, Below wp.heap.size wp W → VAt PM (.slice aM (mlo A B).length cM) (mlo A B) W) := fun W hW => hM.below hW
  have HHA : Hid (∀ W : World, Below wp.heap.size wp W → Calls Try.prog 12 #[.agg #[.slice aH (hlo A B).length cH], .agg #[.slice aA A.length cA]] W fun e w' => e = .returned (.bool (decide (hlo A B = A))) ∧ Below W.heap.size W w') := fun W hW => sameBox_any (hlo A B) A _ _ W (VH.out W hW).2.2 (VA.out W hW).2.2
  have GH : Hid (gb A = true → gb B = true → gb (hlo A B) = true) := hlo_good
  have GM : Hid (mok A B = true → gb (mlo A B) = true) := mlo_good
  have TH : Hid (gb A = true → gb B = true → decide (hlo A B = A) = cvo A B) := covers_hull
  have THas : Hid (gb A = true → gb B = true → ∀ P, gb P = true → ((cvo A P || cvo B P) && !cvo (hlo A B) P) = false ∧ (cvo A B && cvo B P && !cvo A P) = false ∧ (mok A B && cvo (mlo A B) P) = (cvo A P && cvo B P)) := fun p q P r => ⟨hull_has p q r, covers_has p q r, meet_has p q r⟩
  clear hA hB2 hH hM hcode hZ gP hB
  conv => arg 2; whnf
  go_upto_if 131 with fail
  go_cut [8] (fun s8 wx => s8 = .bool ok ∧ Below wp.heap.size wp wx)
  case first =>
    have hrp := Below.refl wp.heap.size wp
    cases ok with
    | false =>
      go_wp2_with fail
      go_meet
      exact ⟨rfl, hrp⟩
    | true =>
      have hgg : gb A = true ∧ gb B = true := by have := HOK.out.symm; simpa using this
      obtain ⟨gA, gB⟩ := hgg
      have gH := GH.out gA gB
      obtain ⟨f1, f2, f3⟩ := THas.out gA gB _ HGP.out
      have hdH := TH.out gA gB
      rw [← HIS.out] at f2 hdH
      rw [← HTWO.out] at f3
      rw [hdH] at HHA
      have BA : Hid (∀ W : World, Below wp.heap.size wp W → Calls Try.prog 16 #[.agg #[.slice aA A.length cA], .slice ap L.length cp] W fun e w' => e = .returned (.tuple #[.bool (cvo A (dup L)), .bool true]) ∧ Below W.heap.size W w') := fun W hW => by
        have := implHas A L _ _ W (VA.out W hW).2.2 (ZP.out W hW)
        rwa [gA, HGP.out] at this
      have BB : Hid (∀ W : World, Below wp.heap.size wp W → Calls Try.prog 16 #[.agg #[.slice aB B.length cB], .slice ap L.length cp] W fun e w' => e = .returned (.tuple #[.bool (cvo B (dup L)), .bool true]) ∧ Below W.heap.size W w') := fun W hW => by
        have := implHas B L _ _ W (VB.out W hW).2.2 (ZP.out W hW)
        rwa [gB, HGP.out] at this
      have BH : Hid (∀ W : World, Below wp.heap.size wp W → Calls Try.prog 16 #[.agg #[.slice aH (hlo A B).length cH], .slice ap L.length cp] W fun e w' => e = .returned (.tuple #[.bool (cvo (hlo A B) (dup L)), .bool true]) ∧ Below W.heap.size W w') := fun W hW => by
        have := implHas (hlo A B) L _ _ W (VH.out W hW).2.2 (ZP.out W hW)
        rwa [gH, HGP.out] at this
      have BM : Hid (two = true → ∀ W : World, Below wp.heap.size wp W → Calls Try.prog 16 #[.agg #[.slice aM (mlo A B).length cM], .slice ap L.length cp] W fun e w' => e = .returned (.tuple #[.bool (cvo (mlo A B) (dup L)), .bool true]) ∧ Below W.heap.size W w') := fun h2 W hW => by
        have := implHas (mlo A B) L _ _ W (VM.out W hW).2.2 (ZP.out W hW)
        rwa [GM.out (HTWO.out.symm.trans h2), HGP.out] at this
      generalize cvo A (dup L) = X at f1 f2 f3 BA
      generalize cvo B (dup L) = Y at f1 f2 f3 BB
      generalize cvo (hlo A B) (dup L) = Z at f1 BH
      generalize cvo (mlo A B) (dup L) = Q at f3 BM
      have F1 : Hid (((X || Y) && !Z) = false) := f1
      have F2 : Hid ((is && Y && !X) = false) := f2
      have F3 : Hid ((two && Q) = (X && Y)) := f3
      clear f1 f2 f3 hdH gA gB gH TH THas GH GM HOK HIS HTWO HGP
      obtain ⟨qa1, la1, _⟩ := VA.out _ hrp
      go_wp2_with fail
      refine (BA.out _ hrp).mono ?_
      rintro e w20 ⟨rfl, hb20⟩
      obtain ⟨qb1, lb1, _⟩ := VB.out _ hb20
      clear qa1 la1
      go_wp2_with fail
      refine (BB.out _ hb20).mono ?_
      rintro e w21 ⟨rfl, hb21⟩
      have hB21 : Below wp.heap.size wp w21 := hb20.trans (hb21.mono hb20.size)
      obtain ⟨qh1, lh1, _⟩ := VH.out _ hB21
      clear qb1 lb1 hb20 hb21
      go_wp2_with fail
      refine (BH.out _ hB21).mono ?_
      rintro e w22 ⟨rfl, hb22⟩
      have hB22 : Below wp.heap.size wp w22 := hB21.trans (hb22.mono hB21.size)
      obtain ⟨qh2, lh2, _⟩ := VH.out _ hB22
      obtain ⟨qa2, la2, _⟩ := VA.out _ hB22
      have CH := HHA.out _ hB22
      have VMc : Hid (∀ W : World, Below wp.heap.size wp W → W.cell? ⟨PM, 0, none⟩ = some (.slice aM (mlo A B).length cM)) := fun W hW => (VM.out W hW).1
      clear qh1 lh1 hB21 hb22 BA BB BH HHA
      rename (∀ (a : Act) (w : World), Code.wp Try.prog _ _ a w → _) => hK17
      have HK17 : Hid (type_of% hK17) := hK17
      clear hK17
      go_wp2_with fail
      refine HK17.out _ _ ?_
      exact part17 wp w22 PA PH PM _ _ _ _ _ _ _ _ X Y Z is two Q F1 F2 F3 hB22 qh2 qa2 lh2 la2 ⟨_, _, _, rfl⟩ ⟨_, _, _, rfl⟩ CH VMc BM _ _ _ _ _ _ _ _ _ _ _ _ _ _ _ _ _ _ _ _ _ _ _ _ _ _ _ _ _ _ _ _ _ _ _ _ _ _ _ _ _ _ _ _ _ _ _ _ _ _ _ _ _ _ _ _ _ _ _ _ _ _ _ _ _ _ _ _ _ _ _ _ _ _ _ _ _ _ _ _ _ _ _ _ _ _ _ _ _ _ _ _ _ _ _ _ _ _ _ _ _ _ _ _ _ _ _ _ _ _ _ _ _ _ _ _ _ _ _ _ _ _ _ _ _ _ _ _ _ _ _ _ _ _ _ _ _ _ _ _ _ _ _ _ _ _ _ _ _ _ _ _ _ _ _ _ _ _ _ _ _ _ _ _ _ _ _ _ _ _ _ _ _ _ _ _ _ _ _ _ _ _ _ _ _ _ _ _ _ _ _ _ _ _ _ _ _ _ _ _ _ _ _ _ _ _ _ _ _ _ _ _ _ _ _ _ _ _ _ _ _ _ _ _ _ _ _ _ _ _ _ _ _ _ _ _ _ _ _ _ _ _ _ _ _ _ _ _ _ _ _ _ _ _ _ _ _ _ _ _ _ _ _ _ _ _ _ _ _ _ _ _ _ _ _ _ _ _ _ _ _ _ _ _ _ _ _ _ _ _ _ _ (fun _ _ _ _ _ _ _ _ _ _ _ _ _ _ _ _ _ _ _ _ _ _ _ _ _ _ _ _ _ _ _ _ _ _ _ _ _ _ _ _ _ _ _ _ _ _ _ _ _ _ _ _ _ _ _ _ _ _ _ wx hx => by first | (go_meet; exact ⟨rfl, hx⟩) | (go_wp2_with fail; go_meet; exact ⟨rfl, hx⟩) | (go_meet; apply_assumption; exact ⟨rfl, hx⟩) | (go_meet; (repeat apply_assumption); exact ⟨rfl, hx⟩))
  case rest =>
    obtain ⟨rfl, hbd⟩ := hcut
    have hBd : Below w.heap.size w wc := HBp.out.trans (hbd.mono HBp.out.size)
    have hC := HCp.out wc hbd
    have hZ := ZP.out wc hbd
    have gP := HGP.out
    clear VA VB VH VM HHA TH THas GH GM HOK HIS HTWO HCp ZP HGP HBp
    apply_assumption
    exact boxes_part3 w wc a1 ap len1 cap1 cp L hC hZ gP hBd _ _ _ _ _ _ _ _ _ _ _ _ _ _ _ _ _ _ _ _ _ _ _ _ _ _ _ _ _ _ _ _ _ _ _ _ _ _ _ _ _ _ _ _ _ _ _ _ _ _ _ _ _ _ _ _ _ _ _ _ _ _ _ _ _ _ _ _ _ _ _ _ _ _ _ _ _ _ _ _ _ _ _ _ _ _ _ _ _ _ _ _ _ _ _ _ _ _ _ _ _ _ _ _ _ _ _ _ _ _ _ _ _ _ _ _ _ _ _ _ _ _ _ _ _ _ _ _ _ _ _ _ _ _ _ _ _ _ _ _ _ _ _ _ _ _ _ _ _ _ _ _ _ _ _ _ _ _ _ _ _ _ _ _ _ _ _ _ _ _ _ _ _ _ _ _ _ _ _ _ _ _ _ _ _ _ _ _ _ _ _ _ _ _ _ _ _ _ _ _ _ _ _ _ _ _ _ _ _ _ _ _ _ _ _ _ _ _ _ _ _ _ _ _ _ _ _ _ _ _ _ _ _ _ _ _ _ _ _ _ _ _ _ _ _ _ _ _ _ _ _ _ _ _ _ _ _ _ _ _ _ _ _ _ _ _ _ _ _ _ _ _ _ _ _ _ _ _ _ _ _ _ _ _ _ _ _ _ _ _ _ _ _ _ _ _ _ _ _ _ _ _

end Go.Proofs.Ytnbaeplbnonhkaa
