/- What FnCut tells, in plain words of boxes: pieces hold what is left, once; volumes add up. The law FnCut: its end, and its volumes. The law FnCut: how many pieces hold the point, and the volumes, case by case. -/
import Derived.Test.YtnbaeplbnonhkaaHc
import Derived.Test.YtnbaeplbnonhkaaHb
import Derived.Test.YtnbaeplbnonhkaaHa
import Derived.Test.YtnbaeplbnonhkaaByV
import Derived.Test.YtnbaeplbnonhkaaByX
import Derived.Deep.DeepCutAuto
namespace Go.Proofs.Ytnbaeplbnonhkaa
open Plain Sch Bxs

theorem gl_one {A : List Sd} (h : gb A = true) : gl [A] = true := by
  refine gl_all (by simp) fun i hi => ?_
  obtain rfl : i = 0 := by simpa using hi
  exact h

theorem gl_two {A B : List Sd} (h : gb A = true) (h2 : gb B = true) : gl [A, B] = true := by
  refine gl_all (by simp) fun i hi => ?_
  match i, hi with
  | 0, _ => exact h
  | 1, _ => exact h2

theorem cto_at {A B : List Sd} (ga : gb A = true) (g2 : gb B = true) : cto A B = (cut (bx A) (bx B)).map Bx.list := by
  unfold cto; rw [ga, g2]; rfl

theorem cto_bx {A B : List Sd} (ga : gb A = true) (g2 : gb B = true) : (cto A B).map bx = cut (bx A) (bx B) := by
  rw [cto_at ga g2, List.map_map]
  have : (bx ∘ Bx.list) = id := by funext x; exact bx_list x
  rw [this, List.map_id]

theorem cto_len {A B : List Sd} (ga : gb A = true) (g2 : gb B = true) : (cto A B).length ≤ 6 := by
  rw [cto_at ga g2, List.length_map]; exact cut_six _ _

theorem cto_mx {A B : List Sd} (ga : gb A = true) (g2 : gb B = true) {i : Nat} (hi : i < (cto A B).length) : gb (mx (cto A B) i) = true ∧ bx (mx (cto A B) i) ∈ cut (bx A) (bx B) := by
  have hm := mx_mem hi
  have e := cto_at ga g2
  rw [e] at hm
  obtain ⟨x, hx, ex⟩ := List.mem_map.1 hm
  rw [e, ← ex, gb_list, bx_list]
  exact ⟨cut_ok (gb_good ga).2 (gb_good g2).2 x hx, hx⟩

theorem cto_good {A B : List Sd} (ga : gb A = true) (g2 : gb B = true) : gl (cto A B) = true :=
  gl_all (by have := cto_len ga g2; omega) fun _ hi => (cto_mx ga g2 hi).1

theorem vol_at {M : List (List Sd)} (h : gl M = true) : volM M = vsum (M.map bx) M.length := by
  unfold volM; rw [h]; rfl

theorem vol_one {A : List Sd} (h : gb A = true) : volM [A] = pts (bx A) := by
  rw [vol_at (gl_one h)]; exact vsum_one _

theorem vol_cut {A B : List Sd} (ga : gb A = true) (g2 : gb B = true) : volM (cto A B) = sumP (cut (bx A) (bx B)) := by
  rw [vol_at (cto_good ga g2), cto_bx ga g2]
  have e : (cto A B).length = (cut (bx A) (bx B)).length := by rw [cto_at ga g2, List.length_map]
  rw [e]; exact vsum_cut _ _

theorem vol_two {A B : List Sd} (ga : gb A = true) (g2 : gb B = true) : volM [A, B] = volM (cto A B) + volM [B] := by
  rw [vol_at (gl_two ga g2), vol_cut ga g2, vol_one g2]
  exact (vsum_two _ _).trans (cut_turn _ _)

theorem vol_sum {A B : List Sd} (ga : gb A = true) (g2 : gb B = true) : (mok A B = true → volM (cto A B) + volM [mlo A B] = volM [A]) ∧ (mok A B = false → volM (cto A B) = volM [A]) := by
  rw [vol_cut ga g2, vol_one ga, cut_sum]
  constructor
  · intro h
    have hm : mlo A B = (mee (bx A) (bx B)).list := by unfold mlo; rw [h]; rfl
    have ha : apart (bx A) (bx B) = false := by
      unfold mok at h
      simp only [Bool.and_eq_true, Bool.not_eq_true'] at h
      exact h.2
    rw [vol_one (mlo_good h), hm, bx_list, ha, if_neg (by simp)]
    omega
  · intro h
    have ha : apart (bx A) (bx B) = true := by
      unfold mok at h
      rw [ga, g2] at h
      simpa using h
    rw [ha, if_pos rfl]

theorem vol_small {M : List (List Sd)} (h : gl M = true) : 0 ≤ volM M ∧ volM M ≤ 8012006001 * 20 := by
  rw [vol_at h]
  have h1 := vsum_bound (sal_ok h) (M.map bx).length (Nat.le_refl _)
  have h2 := (gl_get h).1
  rw [List.length_map] at h1
  omega

/-- how many of the first pieces hold a point -/
def cntL (M : List (List Sd)) (P : List Sd) (k : Nat) : Nat := ((M.take k).filter fun T => cvo T P).length

theorem cntL_step {M : List (List Sd)} {P : List Sd} {k : Nat} (h : k < M.length) : cntL M P (k + 1) = cntL M P k + if cvo (mx M k) P = true then 1 else 0 := by
  unfold cntL
  have e : M[k]? = some (mx M k) := by unfold mx; rw [List.getD, List.getElem?_eq_getElem h]; rfl
  rw [List.take_add_one, e, List.filter_append, List.length_append]
  cases hc : cvo (mx M k) P with
  | true => simp [hc]
  | false => simp [hc]

theorem cntL_le (M : List (List Sd)) (P : List Sd) (k : Nat) : cntL M P k ≤ k := by
  unfold cntL
  have h1 := List.length_filter_le (fun T => cvo T P) (M.take k)
  rw [List.length_take] at h1
  omega

theorem cntL_cut {A B P : List Sd} (ga : gb A = true) (g2 : gb B = true) (gp : gb P = true) (h1 : (bx P).a.lo = (bx P).a.hi) (h2 : (bx P).b.lo = (bx P).b.hi) (h3 : (bx P).c.lo = (bx P).c.hi) :
    cntL (cto A B) P (cto A B).length = if (cvo A P && !cvo B P) = true then 1 else 0 := by
  rw [cvo_at ga gp, cvo_at g2 gp, ← cut_cnt (gb_good gp).2 h1 h2 h3]
  unfold cntL cnt
  rw [List.take_length, cto_at ga g2, List.filter_map, List.length_map]
  congr 1
  refine List.filter_congr fun x hx => ?_
  show cvo x.list P = cov x (bx P)
  rw [cvo_at (by rw [gb_list]; exact cut_ok (gb_good ga).2 (gb_good g2).2 x hx) gp, bx_list]

end Go.Proofs.Ytnbaeplbnonhkaa

namespace Go.Proofs.Ytnbaeplbnonhkaa
open Go.RowKit Plain Sch Bxs

/-- whether a statement begins with that region -/
def kHead (n : Nat) : Code → Bool
  | .region k _ _ => k == n
  | .seq a _ => kHead n a
  | .block _ c => kHead n c
  | .scope c => kHead n c
  | _ => false

/-- the code from that region's statement on, within what an 'if' holds too -/
def kTail (n : Nat) : Code → Option Code
  | .seq a b => if kHead n a then some (.seq a b) else match kTail n a with
    | some c => some c
    | none => kTail n b
  | .cond _ a _ => kTail n a
  | .block _ c => kTail n c
  | .scope c => kTail n c
  | _ => none

noncomputable def cut40 : Code := ((Try.f4.body.bind (kTail 40)).getD .skip)
noncomputable def cut27 : Code := ((Try.f4.body.bind (kTail 27)).getD .skip)

/-- a box's variable: its slice and its sides -/
def VCt (b : Nat) (u : Value) (T : List Sd) (W : World) : Prop := W.cell? ⟨b, 0, none⟩ = some u ∧ b < W.heap.size ∧ SdsAt W W.heap.size u T

theorem VCt.below {b : Nat} {u : Value} {T : List Sd} {W W' : World} (h : VCt b u T W) (hb : Below W.heap.size W W') : VCt b u T W' :=
  ⟨(hb.cell (p := ⟨b, 0, none⟩) h.2.1).trans h.1, Nat.lt_of_lt_of_le h.2.1 hb.size, h.2.2.below hb⟩

theorem VCt.new {u : Value} {T : List Sd} {W : World} (h : SdsAt W W.heap.size u T) : VCt W.heap.size u T (W.alloc (.cells #[u] 25)) :=
  ⟨by go_simp, by simp, h.below ((Below.refl _ W).alloc (Nat.le_refl _) _)⟩

/-- the volume of a list that is written out -/
theorem vol_call1 {W : World} {u : Value} {T : List Sd} (h : SdsAt W W.heap.size u T) (g : gb T = true) : Calls Try.prog 26 #[.slice (some ⟨W.heap.size, 0, none⟩) 1 1] (W.alloc (.cells #[u] 25)) fun e w' => e = .returned (.tuple #[.int .i64 (volM [T]), .bool true]) ∧ Below W.heap.size W w' := by
  have hba : Below W.heap.size W (W.alloc (.cells #[u] 25)) := (Below.refl _ W).alloc (Nat.le_refl _) _
  refine (implVol [T] _ _ (one_box h)).mono ?_
  rintro e w' ⟨rfl, hb⟩
  rw [gl_one g]
  exact ⟨rfl, hba.trans (hb.mono hba.size)⟩

theorem vol_call2 {W : World} {u v : Value} {T U : List Sd} (h : SdsAt W W.heap.size u T) (h2 : SdsAt W W.heap.size v U) (g : gb T = true) (g2 : gb U = true) : Calls Try.prog 26 #[.slice (some ⟨W.heap.size, 0, none⟩) 2 2] (W.alloc (.cells #[u, v] 25)) fun e w' => e = .returned (.tuple #[.int .i64 (volM [T, U]), .bool true]) ∧ Below W.heap.size W w' := by
  have hba : Below W.heap.size W (W.alloc (.cells #[u, v] 25)) := (Below.refl _ W).alloc (Nat.le_refl _) _
  refine (implVol [T, U] _ _ (two_box h h2)).mono ?_
  rintro e w' ⟨rfl, hb⟩
  rw [gl_two g g2]
  exact ⟨rfl, hba.trans (hb.mono hba.size)⟩

set_option maxRecDepth 1000000 in
set_option maxHeartbeats 16000000 in
theorem cut_part40 (w wc : World) (a1 : Option Addr) (len1 cap1 : Nat) (hcode : CodeAt wc a1 len1) (hB : Below w.heap.size w wc)
    (c0 c2 c3 c4 c5 c6 c7 c8 c9 c10 c11 c12 c13 c14 c15 c16 c17 c18 c19 c20 c21 c22 c23 c24 c25 c26 c27 c28 c29 c30 c31 c32 c33 c34 c35 c36 c37 c38 c39 c40 c41 c42 c43 c44 c45 c46 c47 c48 c49 c50 c51 c52 c53 c54 c55 c56 c57 c58 c59 c60 c61 c62 c63 c64 c65 c66 c67 c68 c69 c70 c71 c72 c73 c74 c75 c76 c77 c78 c79 c80 c81 c82 c83 c84 c85 c86 c87 c88 c89 c90 c91 c92 c93 c94 c95 c96 c97 c98 c99 c100 c101 c102 c103 c104 c105 c106 c107 c108 c109 c110 c111 c112 c113 c114 c115 c116 c117 c118 c119 c120 c121 c122 c123 c124 c125 c126 c127 c128 c129 c130 c131 c132 c133 c134 c135 c136 c137 c138 c139 c140 c141 c142 c143 c144 c145 c146 c147 c148 c149 c150 c151 c152 c153 c154 c155 c156 c157 c158 c159 c160 c161 c162 c163 c164 c165 c166 c167 c168 c169 c170 c171 c172 c173 c174 c175 c176 c177 c178 c179 c180 c181 c182 c183 c184 c185 c186 c187 c188 c189 c190 c191 c192 c193 c194 c195 c196 c197 c198 c199 c200 c201 c202 c203 c204 c205 c206 c207 c208 c209 c210 c211 c212 c213 c214 c215 c216 c217 c218 c219 c220 c221 c222 c223 c224 c225 c226 c227 c228 c229 c230 c231 c232 c233 c234 c235 c236 c237 c238 c239 c240 c241 c242 c243 c244 c245 c246 c247 : Value) :
    Code.wp Try.prog cut40 (bodyPost Try.prog Try.f4 fun e w' => e = .returned (.bool true) ∧ Below w.heap.size w w') ⟨#[c0, .slice a1 len1 cap1, c2, c3, c4, c5, c6, c7, c8, c9, c10, c11, c12, c13, c14, c15, c16, c17, c18, c19, c20, c21, c22, c23, c24, c25, c26, c27, c28, c29, c30, c31, c32, c33, c34, c35, c36, c37, c38, c39, c40, c41, c42, c43, c44, c45, c46, c47, c48, c49, c50, c51, c52, c53, c54, c55, c56, c57, c58, c59, c60, c61, c62, c63, c64, c65, c66, c67, c68, c69, c70, c71, c72, c73, c74, c75, c76, c77, c78, c79, c80, c81, c82, c83, c84, c85, c86, c87, c88, c89, c90, c91, c92, c93, c94, c95, c96, c97, c98, c99, c100, c101, c102, c103, c104, c105, c106, c107, c108, c109, c110, c111, c112, c113, c114, c115, c116, c117, c118, c119, c120, c121, c122, c123, c124, c125, c126, c127, c128, c129, c130, c131, c132, c133, c134, c135, c136, c137, c138, c139, c140, c141, c142, c143, c144, c145, c146, c147, c148, c149, c150, c151, c152, c153, c154, c155, c156, c157, c158, c159, c160, c161, c162, c163, c164, c165, c166, c167, c168, c169, c170, c171, c172, c173, c174, c175, c176, c177, c178, c179, c180, c181, c182, c183, c184, c185, c186, c187, c188, c189, c190, c191, c192, c193, c194, c195, c196, c197, c198, c199, c200, c201, c202, c203, c204, c205, c206, c207, c208, c209, c210, c211, c212, c213, c214, c215, c216, c217, c218, c219, c220, c221, c222, c223, c224, c225, c226, c227, c228, c229, c230, c231, c232, c233, c234, c235, c236, c237, c238, c239, c240, c241, c242, c243, c244, c245, c246, c247], []⟩ wc := by
  have HC : Hid (∀ W, Below wc.heap.size wc W → CodeAt W a1 len1) := fun W hW => hcode.below hW
  have CD := drawVol_any a1 len1 cap1 wc hcode
  clear hcode
  conv => arg 2; whnf
  go_wp2_with fail
  refine CD.mono ?_
  rintro e w1 ⟨⟨vl, M, us, rfl, hM, hL⟩, hb1⟩
  obtain ⟨al, cl, hvl⟩ := hL.slice
  subst hvl
  have HL : Hid (∀ W, Below w1.heap.size w1 W → BxsAt W W.heap.size (.slice al M.length cl) M) := fun W hW => hL.at.below hW
  have CI := implVol M _ w1 (HL.out w1 (Below.refl _ _))
  have CS : Hid (∀ W, Below w1.heap.size w1 W → Calls Try.prog 28 #[.slice al M.length cl] W fun e w' => e = .returned (.tuple #[.int .i64 (volM M), .bool (gl M)]) ∧ Below W.heap.size W w') := fun W hW => specVol M _ W (HL.out W hW)
  generalize volM M = vol at CI CS
  generalize gl M = g at CI CS
  clear CD hL
  go_wp2_with fail
  refine CI.mono ?_
  rintro e w2 ⟨rfl, hb2⟩
  clear CI
  go_wp2_with fail
  refine (CS.out w2 hb2).mono ?_
  rintro e w3 ⟨rfl, hb3⟩
  have hb13 : Below w1.heap.size w1 w3 := hb2.trans (hb3.mono hb2.size)
  have hbc3 : Below wc.heap.size wc w3 := hb1.trans (hb13.mono hb1.size)
  have CU := drawUnion_any a1 len1 cap1 w3 (HC.out w3 hbc3)
  clear CS HL hb2 hb3 HC
  go_wp2_with fail
  refine CU.mono ?_
  rintro e w4 ⟨⟨v2, u2, M2, us2, L2, rfl, hM2, hL2, hZ2⟩, hb4⟩
  obtain ⟨al2, cl2, hv2⟩ := hL2.slice
  obtain ⟨au2, cu2, hu2⟩ := hZ2.slice
  subst hv2 hu2
  have UI := implUnion M2 L2 _ _ w4 hL2.at (ZAt.own hZ2)
  have US : Hid (∀ W, Below w4.heap.size w4 W → Calls Try.prog 30 #[.slice al2 M2.length cl2, .slice au2 L2.length cu2] W fun e w' => e = .returned (.tuple #[.bool (uno M2 L2), .bool (gl M2 && gb (dup L2))]) ∧ Below W.heap.size W w') := fun W hW => specUnion M2 L2 _ _ W (hL2.at.below hW) ((ZAt.own hZ2).below hW)
  generalize uno M2 L2 = x at UI US
  generalize (gl M2 && gb (dup L2)) = k at UI US
  have hb34 : Below wc.heap.size wc w4 := hbc3.trans (hb4.mono hbc3.size)
  clear CU hL2 hZ2 hb4 hbc3 hb13 hb1
  go_wp2_with fail
  refine UI.mono ?_
  rintro e w5 ⟨rfl, hb5⟩
  clear UI
  go_wp2_with fail
  refine (US.out w5 hb5).mono ?_
  rintro e w6 ⟨rfl, hb6⟩
  have hb46 : Below w4.heap.size w4 w6 := hb5.trans (hb6.mono hb5.size)
  have hb9 : Below wc.heap.size wc w6 := hb34.trans (hb46.mono hb34.size)
  have hBe : Below w.heap.size w w6 := hB.trans (hb9.mono hB.size)
  have n1 : (g == g) = true := beq_self_eq_true _
  have n2 : (vol == vol) = true := beq_self_eq_true _
  have n3 : (k == k) = true := beq_self_eq_true _
  have n4 : (x == x) = true := beq_self_eq_true _
  clear US hb5 hb6 hb34 hb46 hb9
  go_wp2
  go_ret
  exact ⟨rfl, hBe⟩

set_option maxRecDepth 1000000 in
set_option maxHeartbeats 16000000 in
theorem cut_part27_0 (wp wd : World) (PA PB nl cl cA cB : Nat) (aA aB al : Option Addr) (A B : List Sd) (hm : mok A B = false) (gA : gb A = true) (gB : gb B = true)
    (VA : Hid (∀ W, Below wp.heap.size wp W → VCt PA (.slice aA A.length cA) A W)) (VB : Hid (∀ W, Below wp.heap.size wp W → VCt PB (.slice aB B.length cB) B W)) (VL : Hid (∀ W, Below wp.heap.size wp W → BxsAt W W.heap.size (.slice al nl cl) (cto A B))) (hbd : Below wp.heap.size wp wd) (Q : Exit → Act → World → Prop)
    (c0 c1 c2 c3 c4 c8 c9 c10 c11 c12 c13 c14 c15 c16 c17 c18 c19 c20 c21 c22 c23 c24 c25 c26 c27 c28 c29 c30 c31 c32 c33 c34 c35 c36 c37 c38 c39 c40 c41 c42 c43 c44 c45 c46 c47 c48 c49 c50 c51 c52 c53 c54 c55 c56 c57 c58 c59 c60 c61 c62 c63 c64 c65 c66 c67 c68 c69 c70 c71 c72 c73 c74 c75 c76 c77 c78 c79 c80 c81 c82 c83 c84 c85 c86 c87 c88 c89 c90 c91 c92 c93 c94 c95 c96 c97 c98 c99 c100 c101 c102 c103 c104 c105 c106 c107 c108 c109 c110 c111 c112 c113 c114 c115 c116 c117 c118 c119 c120 c121 c122 c123 c124 c125 c126 c127 c128 c129 c130 c131 c132 c133 c134 c135 c136 c137 c138 c139 c140 c141 c142 c143 c144 c145 c146 c147 c148 c149 c150 c151 c152 c153 c154 c155 c156 c157 c158 c159 c160 c161 c162 c163 c164 c165 c166 c167 c168 c169 c170 c171 c172 c173 c174 c175 c176 c177 c178 c179 c180 c181 c182 c183 c184 c185 c186 c187 c188 c189 c190 c191 c192 c193 c194 c195 c196 c197 c198 c199 c200 c201 c202 c203 c204 c205 c206 c207 c208 c209 c210 c211 c212 c213 c214 c215 c216 c217 c218 c219 c220 c221 c222 c223 c224 c225 c226 c227 c228 c229 c230 c231 c232 c233 c234 c235 c236 c237 c238 c239 c240 c241 c242 c243 c244 c245 c246 c247 : Value)
    (hQ : ∀ (u22 u23 u24 u25 u26 u27 u28 u29 u30 u31 u32 u33 u34 u132 u133 u134 u135 u136 u137 u138 u139 u140 u141 u142 u143 u144 u145 u146 u147 u148 u149 u150 u151 u152 u153 u154 u155 u156 u157 u158 u159 u160 u161 u162 u163 u164 u165 u166 u167 u168 u169 u170 u171 u172 u173 u174 u175 u176 u177 u178 u179 u180 u181 u182 u183 u184 u185 u186 u187 u188 u189 u190 u191 u192 u193 u194 u195 u196 u197 u198 u199 u200 : Value) (wx : World), Below wp.heap.size wp wx → Q .normal ⟨#[c0, c1, c2, c3, c4, .pointer (some ⟨PA, 0, none⟩), .pointer (some ⟨PB, 0, none⟩), .slice al nl cl, c8, c9, c10, c11, c12, c13, c14, c15, c16, c17, c18, c19, c20, c21, u22, u23, u24, u25, u26, u27, u28, u29, u30, u31, u32, u33, u34, c35, c36, c37, c38, c39, c40, c41, c42, c43, c44, c45, c46, c47, c48, c49, c50, c51, c52, c53, c54, c55, c56, c57, c58, c59, c60, c61, c62, c63, c64, c65, c66, c67, c68, c69, c70, c71, c72, c73, c74, c75, c76, c77, c78, c79, c80, c81, c82, c83, c84, c85, c86, c87, c88, c89, c90, c91, c92, c93, c94, c95, c96, c97, c98, c99, c100, c101, c102, c103, c104, c105, c106, c107, c108, c109, c110, c111, c112, c113, c114, c115, c116, c117, c118, c119, c120, c121, c122, c123, c124, c125, c126, c127, c128, c129, c130, c131, u132, u133, u134, u135, u136, u137, u138, u139, u140, u141, u142, u143, u144, u145, u146, u147, u148, u149, u150, u151, u152, u153, u154, u155, u156, u157, u158, u159, u160, u161, u162, u163, u164, u165, u166, u167, u168, u169, u170, u171, u172, u173, u174, u175, u176, u177, u178, u179, u180, u181, u182, u183, u184, u185, u186, u187, u188, u189, u190, u191, u192, u193, u194, u195, u196, u197, u198, u199, u200, c201, c202, c203, c204, c205, c206, c207, c208, c209, c210, c211, c212, c213, c214, c215, c216, c217, c218, c219, c220, c221, c222, c223, c224, c225, c226, c227, c228, c229, c230, c231, c232, c233, c234, c235, c236, c237, c238, c239, c240, c241, c242, c243, c244, c245, c246, c247], []⟩ wx) :
    Code.wp Try.prog cut27 Q ⟨#[c0, c1, c2, c3, c4, .pointer (some ⟨PA, 0, none⟩), .pointer (some ⟨PB, 0, none⟩), .slice al nl cl, c8, c9, c10, c11, c12, c13, c14, c15, c16, c17, c18, c19, c20, c21, c22, c23, c24, c25, c26, c27, c28, c29, c30, c31, c32, c33, c34, c35, c36, c37, c38, c39, c40, c41, c42, c43, c44, c45, c46, c47, c48, c49, c50, c51, c52, c53, c54, c55, c56, c57, c58, c59, c60, c61, c62, c63, c64, c65, c66, c67, c68, c69, c70, c71, c72, c73, c74, c75, c76, c77, c78, c79, c80, c81, c82, c83, c84, c85, c86, c87, c88, c89, c90, c91, c92, c93, c94, c95, c96, c97, c98, c99, c100, c101, c102, c103, c104, c105, c106, c107, c108, c109, c110, c111, c112, c113, c114, c115, c116, c117, c118, c119, c120, c121, c122, c123, c124, c125, c126, c127, c128, c129, c130, c131, c132, c133, c134, c135, c136, c137, c138, c139, c140, c141, c142, c143, c144, c145, c146, c147, c148, c149, c150, c151, c152, c153, c154, c155, c156, c157, c158, c159, c160, c161, c162, c163, c164, c165, c166, c167, c168, c169, c170, c171, c172, c173, c174, c175, c176, c177, c178, c179, c180, c181, c182, c183, c184, c185, c186, c187, c188, c189, c190, c191, c192, c193, c194, c195, c196, c197, c198, c199, c200, c201, c202, c203, c204, c205, c206, c207, c208, c209, c210, c211, c212, c213, c214, c215, c216, c217, c218, c219, c220, c221, c222, c223, c224, c225, c226, c227, c228, c229, c230, c231, c232, c233, c234, c235, c236, c237, c238, c239, c240, c241, c242, c243, c244, c245, c246, c247], []⟩ wd := by
  have HQ : Hid (∀ (u22 u23 u24 u25 u26 u27 u28 u29 u30 u31 u32 u33 u34 u132 u133 u134 u135 u136 u137 u138 u139 u140 u141 u142 u143 u144 u145 u146 u147 u148 u149 u150 u151 u152 u153 u154 u155 u156 u157 u158 u159 u160 u161 u162 u163 u164 u165 u166 u167 u168 u169 u170 u171 u172 u173 u174 u175 u176 u177 u178 u179 u180 u181 u182 u183 u184 u185 u186 u187 u188 u189 u190 u191 u192 u193 u194 u195 u196 u197 u198 u199 u200 : Value) (wx : World), Below wp.heap.size wp wx → Q .normal ⟨#[c0, c1, c2, c3, c4, .pointer (some ⟨PA, 0, none⟩), .pointer (some ⟨PB, 0, none⟩), .slice al nl cl, c8, c9, c10, c11, c12, c13, c14, c15, c16, c17, c18, c19, c20, c21, u22, u23, u24, u25, u26, u27, u28, u29, u30, u31, u32, u33, u34, c35, c36, c37, c38, c39, c40, c41, c42, c43, c44, c45, c46, c47, c48, c49, c50, c51, c52, c53, c54, c55, c56, c57, c58, c59, c60, c61, c62, c63, c64, c65, c66, c67, c68, c69, c70, c71, c72, c73, c74, c75, c76, c77, c78, c79, c80, c81, c82, c83, c84, c85, c86, c87, c88, c89, c90, c91, c92, c93, c94, c95, c96, c97, c98, c99, c100, c101, c102, c103, c104, c105, c106, c107, c108, c109, c110, c111, c112, c113, c114, c115, c116, c117, c118, c119, c120, c121, c122, c123, c124, c125, c126, c127, c128, c129, c130, c131, u132, u133, u134, u135, u136, u137, u138, u139, u140, u141, u142, u143, u144, u145, u146, u147, u148, u149, u150, u151, u152, u153, u154, u155, u156, u157, u158, u159, u160, u161, u162, u163, u164, u165, u166, u167, u168, u169, u170, u171, u172, u173, u174, u175, u176, u177, u178, u179, u180, u181, u182, u183, u184, u185, u186, u187, u188, u189, u190, u191, u192, u193, u194, u195, u196, u197, u198, u199, u200, c201, c202, c203, c204, c205, c206, c207, c208, c209, c210, c211, c212, c213, c214, c215, c216, c217, c218, c219, c220, c221, c222, c223, c224, c225, c226, c227, c228, c229, c230, c231, c232, c233, c234, c235, c236, c237, c238, c239, c240, c241, c242, c243, c244, c245, c246, c247], []⟩ wx) := hQ
  clear hQ
  have GAv : Hid (gb A = true) := gA
  have GBv : Hid (gb B = true) := gB
  have hsum := (vol_sum gA gB).2 hm
  have htwo := vol_two gA gB
  have b1 := vol_small (gl_one gA)
  have b2 := vol_small (cto_good gA gB)
  have b3 := vol_small (gl_one gB)
  have b4 := vol_small (gl_two gA gB)
  have V1 : Hid (∀ W, Below wp.heap.size wp W → Calls Try.prog 26 #[.slice (some ⟨W.heap.size, 0, none⟩) 1 1] (W.alloc (.cells #[.slice aA A.length cA] 25)) fun e w' => e = .returned (.tuple #[.int .i64 (volM [A]), .bool true]) ∧ Below W.heap.size W w') := fun W hW => vol_call1 (VA.out W hW).2.2 gA
  have V4 : Hid (∀ W, Below wp.heap.size wp W → Calls Try.prog 26 #[.slice (some ⟨W.heap.size, 0, none⟩) 1 1] (W.alloc (.cells #[.slice aB B.length cB] 25)) fun e w' => e = .returned (.tuple #[.int .i64 (volM [B]), .bool true]) ∧ Below W.heap.size W w') := fun W hW => vol_call1 (VB.out W hW).2.2 gB
  have V3 : Hid (∀ W, Below wp.heap.size wp W → Calls Try.prog 26 #[.slice (some ⟨W.heap.size, 0, none⟩) 2 2] (W.alloc (.cells #[.slice aA A.length cA, .slice aB B.length cB] 25)) fun e w' => e = .returned (.tuple #[.int .i64 (volM [A, B]), .bool true]) ∧ Below W.heap.size W w') := fun W hW => vol_call2 (VA.out W hW).2.2 (VB.out W hW).2.2 gA gB
  have V2 : Hid (∀ W, Below wp.heap.size wp W → Calls Try.prog 26 #[.slice al nl cl] W fun e w' => e = .returned (.tuple #[.int .i64 (volM (cto A B)), .bool true]) ∧ Below W.heap.size W w') := fun W hW => by
    have := implVol (cto A B) _ W (VL.out W hW)
    rwa [cto_good gA gB] at this
  have V6 : Hid (∀ W, Below wp.heap.size wp W → Calls Try.prog 10 #[.agg #[.slice aA A.length cA], .agg #[.slice aB B.length cB]] W fun e w' => (∃ v, e = .returned (.tuple #[.agg #[v], .bool false]) ∧ SRow w' W.heap.size 60 v (mlo A B)) ∧ Below W.heap.size W w') := fun W hW => by
    have := implMeet9 A B _ _ W (VA.out W hW).2.2 (VB.out W hW).2.2
    rwa [hm] at this
  generalize volM [A] = v1 at V1 hsum b1
  generalize volM (cto A B) = v2 at V2 hsum htwo b2
  generalize volM [A, B] = v3 at V3 htwo b4
  generalize volM [B] = v4 at V4 htwo b3
  have d1 : (v2 != v1) = false := by simp [hsum]
  have d2 : (v3 != v2 + v4) = false := by simp [htwo]
  obtain ⟨b1a, b1b⟩ := b1
  obtain ⟨b2a, b2b⟩ := b2
  obtain ⟨b3a, b3b⟩ := b3
  obtain ⟨b4a, b4b⟩ := b4
  clear hsum htwo gA gB hm
  obtain ⟨qa1, la1, _⟩ := VA.out _ hbd
  conv => arg 2; whnf
  go_wp2_with fail
  refine (V1.out wd hbd).mono ?_
  rintro e w1 ⟨rfl, hb1⟩
  have hB1 : Below wp.heap.size wp w1 := hbd.trans (hb1.mono hbd.size)
  clear qa1 la1 hb1
  go_wp2_with fail
  refine (V2.out w1 hB1).mono ?_
  rintro e w2 ⟨rfl, hb2⟩
  have hB2 : Below wp.heap.size wp w2 := hB1.trans (hb2.mono hB1.size)
  obtain ⟨qa2, la2, _⟩ := VA.out _ hB2
  obtain ⟨qb2, lb2, _⟩ := VB.out _ hB2
  clear hb2 hB1
  go_wp2_with fail
  refine (V6.out w2 hB2).mono ?_
  rintro e w3 ⟨⟨vm, rfl, hrm⟩, hb3⟩
  have hB3 : Below wp.heap.size wp w3 := hB2.trans (hb3.mono hB2.size)
  have hsm : SdsAt w3 w3.heap.size vm (mlo A B) := QRow.at ⟨_, hrm⟩
  obtain ⟨aM, cM, hvm, _⟩ := id hsm
  subst hvm
  obtain ⟨W4, hW4⟩ : ∃ W, W = w3.alloc (.cells #[.slice aM (mlo A B).length cM] 25) := ⟨_, rfl⟩
  have hb34 : Below w3.heap.size w3 W4 := by rw [hW4]; exact (Below.refl _ w3).alloc (Nat.le_refl _) _
  have hB4 : Below wp.heap.size wp W4 := hB3.trans (hb34.mono hB3.size)
  have hV4 : VCt w3.heap.size (.slice aM (mlo A B).length cM) (mlo A B) W4 := by rw [hW4]; exact VCt.new hsm
  have HW4 : Hid (W4 = w3.alloc (.cells #[.slice aM (mlo A B).length cM] 25)) := hW4
  clear hW4 hrm hb3 hB2 qa2 la2 qb2 lb2 hsm hb34 hB3
  clear hV4
  obtain ⟨qa5, la5, _⟩ := VA.out _ hB4
  obtain ⟨qb5, lb5, _⟩ := VB.out _ hB4
  go_upto_region 31 with fail
  rw [← HW4.out]
  go_wp2_with fail
  refine (V3.out W4 hB4).mono ?_
  rintro e w6 ⟨rfl, hb6⟩
  have hB6 : Below wp.heap.size wp w6 := hB4.trans (hb6.mono hB4.size)
  obtain ⟨qb6, lb6, _⟩ := VB.out _ hB6
  clear qa5 la5 qb5 lb5 hb6
  go_wp2_with fail
  refine (V4.out w6 hB6).mono ?_
  rintro e w7 ⟨rfl, hb7⟩
  have hB7 : Below wp.heap.size wp w7 := hB6.trans (hb7.mono hB6.size)
  clear qb6 lb6 hb7 hB6
  go_wp2_with fail
  exact HQ.out _ _ _ _ _ _ _ _ _ _ _ _ _ _ _ _ _ _ _ _ _ _ _ _ _ _ _ _ _ _ _ _ _ _ _ _ _ _ _ _ _ _ _ _ _ _ _ _ _ _ _ _ _ _ _ _ _ _ _ _ _ _ _ _ _ _ _ _ _ _ _ _ _ _ _ _ _ _ _ _ _ _ w7 hB7

set_option maxRecDepth 1000000 in
set_option maxHeartbeats 16000000 in
theorem cut_part27_1 (wp wd : World) (PA PB nl cl cA cB : Nat) (aA aB al : Option Addr) (A B : List Sd) (hm : mok A B = true) (gA : gb A = true) (gB : gb B = true)
    (VA : Hid (∀ W, Below wp.heap.size wp W → VCt PA (.slice aA A.length cA) A W)) (VB : Hid (∀ W, Below wp.heap.size wp W → VCt PB (.slice aB B.length cB) B W)) (VL : Hid (∀ W, Below wp.heap.size wp W → BxsAt W W.heap.size (.slice al nl cl) (cto A B))) (hbd : Below wp.heap.size wp wd) (Q : Exit → Act → World → Prop)
    (c0 c1 c2 c3 c4 c8 c9 c10 c11 c12 c13 c14 c15 c16 c17 c18 c19 c20 c21 c22 c23 c24 c25 c26 c27 c28 c29 c30 c31 c32 c33 c34 c35 c36 c37 c38 c39 c40 c41 c42 c43 c44 c45 c46 c47 c48 c49 c50 c51 c52 c53 c54 c55 c56 c57 c58 c59 c60 c61 c62 c63 c64 c65 c66 c67 c68 c69 c70 c71 c72 c73 c74 c75 c76 c77 c78 c79 c80 c81 c82 c83 c84 c85 c86 c87 c88 c89 c90 c91 c92 c93 c94 c95 c96 c97 c98 c99 c100 c101 c102 c103 c104 c105 c106 c107 c108 c109 c110 c111 c112 c113 c114 c115 c116 c117 c118 c119 c120 c121 c122 c123 c124 c125 c126 c127 c128 c129 c130 c131 c132 c133 c134 c135 c136 c137 c138 c139 c140 c141 c142 c143 c144 c145 c146 c147 c148 c149 c150 c151 c152 c153 c154 c155 c156 c157 c158 c159 c160 c161 c162 c163 c164 c165 c166 c167 c168 c169 c170 c171 c172 c173 c174 c175 c176 c177 c178 c179 c180 c181 c182 c183 c184 c185 c186 c187 c188 c189 c190 c191 c192 c193 c194 c195 c196 c197 c198 c199 c200 c201 c202 c203 c204 c205 c206 c207 c208 c209 c210 c211 c212 c213 c214 c215 c216 c217 c218 c219 c220 c221 c222 c223 c224 c225 c226 c227 c228 c229 c230 c231 c232 c233 c234 c235 c236 c237 c238 c239 c240 c241 c242 c243 c244 c245 c246 c247 : Value)
    (hQ : ∀ (u22 u23 u24 u25 u26 u27 u28 u29 u30 u31 u32 u33 u34 u132 u133 u134 u135 u136 u137 u138 u139 u140 u141 u142 u143 u144 u145 u146 u147 u148 u149 u150 u151 u152 u153 u154 u155 u156 u157 u158 u159 u160 u161 u162 u163 u164 u165 u166 u167 u168 u169 u170 u171 u172 u173 u174 u175 u176 u177 u178 u179 u180 u181 u182 u183 u184 u185 u186 u187 u188 u189 u190 u191 u192 u193 u194 u195 u196 u197 u198 u199 u200 : Value) (wx : World), Below wp.heap.size wp wx → Q .normal ⟨#[c0, c1, c2, c3, c4, .pointer (some ⟨PA, 0, none⟩), .pointer (some ⟨PB, 0, none⟩), .slice al nl cl, c8, c9, c10, c11, c12, c13, c14, c15, c16, c17, c18, c19, c20, c21, u22, u23, u24, u25, u26, u27, u28, u29, u30, u31, u32, u33, u34, c35, c36, c37, c38, c39, c40, c41, c42, c43, c44, c45, c46, c47, c48, c49, c50, c51, c52, c53, c54, c55, c56, c57, c58, c59, c60, c61, c62, c63, c64, c65, c66, c67, c68, c69, c70, c71, c72, c73, c74, c75, c76, c77, c78, c79, c80, c81, c82, c83, c84, c85, c86, c87, c88, c89, c90, c91, c92, c93, c94, c95, c96, c97, c98, c99, c100, c101, c102, c103, c104, c105, c106, c107, c108, c109, c110, c111, c112, c113, c114, c115, c116, c117, c118, c119, c120, c121, c122, c123, c124, c125, c126, c127, c128, c129, c130, c131, u132, u133, u134, u135, u136, u137, u138, u139, u140, u141, u142, u143, u144, u145, u146, u147, u148, u149, u150, u151, u152, u153, u154, u155, u156, u157, u158, u159, u160, u161, u162, u163, u164, u165, u166, u167, u168, u169, u170, u171, u172, u173, u174, u175, u176, u177, u178, u179, u180, u181, u182, u183, u184, u185, u186, u187, u188, u189, u190, u191, u192, u193, u194, u195, u196, u197, u198, u199, u200, c201, c202, c203, c204, c205, c206, c207, c208, c209, c210, c211, c212, c213, c214, c215, c216, c217, c218, c219, c220, c221, c222, c223, c224, c225, c226, c227, c228, c229, c230, c231, c232, c233, c234, c235, c236, c237, c238, c239, c240, c241, c242, c243, c244, c245, c246, c247], []⟩ wx) :
    Code.wp Try.prog cut27 Q ⟨#[c0, c1, c2, c3, c4, .pointer (some ⟨PA, 0, none⟩), .pointer (some ⟨PB, 0, none⟩), .slice al nl cl, c8, c9, c10, c11, c12, c13, c14, c15, c16, c17, c18, c19, c20, c21, c22, c23, c24, c25, c26, c27, c28, c29, c30, c31, c32, c33, c34, c35, c36, c37, c38, c39, c40, c41, c42, c43, c44, c45, c46, c47, c48, c49, c50, c51, c52, c53, c54, c55, c56, c57, c58, c59, c60, c61, c62, c63, c64, c65, c66, c67, c68, c69, c70, c71, c72, c73, c74, c75, c76, c77, c78, c79, c80, c81, c82, c83, c84, c85, c86, c87, c88, c89, c90, c91, c92, c93, c94, c95, c96, c97, c98, c99, c100, c101, c102, c103, c104, c105, c106, c107, c108, c109, c110, c111, c112, c113, c114, c115, c116, c117, c118, c119, c120, c121, c122, c123, c124, c125, c126, c127, c128, c129, c130, c131, c132, c133, c134, c135, c136, c137, c138, c139, c140, c141, c142, c143, c144, c145, c146, c147, c148, c149, c150, c151, c152, c153, c154, c155, c156, c157, c158, c159, c160, c161, c162, c163, c164, c165, c166, c167, c168, c169, c170, c171, c172, c173, c174, c175, c176, c177, c178, c179, c180, c181, c182, c183, c184, c185, c186, c187, c188, c189, c190, c191, c192, c193, c194, c195, c196, c197, c198, c199, c200, c201, c202, c203, c204, c205, c206, c207, c208, c209, c210, c211, c212, c213, c214, c215, c216, c217, c218, c219, c220, c221, c222, c223, c224, c225, c226, c227, c228, c229, c230, c231, c232, c233, c234, c235, c236, c237, c238, c239, c240, c241, c242, c243, c244, c245, c246, c247], []⟩ wd := by
  have HQ : Hid (∀ (u22 u23 u24 u25 u26 u27 u28 u29 u30 u31 u32 u33 u34 u132 u133 u134 u135 u136 u137 u138 u139 u140 u141 u142 u143 u144 u145 u146 u147 u148 u149 u150 u151 u152 u153 u154 u155 u156 u157 u158 u159 u160 u161 u162 u163 u164 u165 u166 u167 u168 u169 u170 u171 u172 u173 u174 u175 u176 u177 u178 u179 u180 u181 u182 u183 u184 u185 u186 u187 u188 u189 u190 u191 u192 u193 u194 u195 u196 u197 u198 u199 u200 : Value) (wx : World), Below wp.heap.size wp wx → Q .normal ⟨#[c0, c1, c2, c3, c4, .pointer (some ⟨PA, 0, none⟩), .pointer (some ⟨PB, 0, none⟩), .slice al nl cl, c8, c9, c10, c11, c12, c13, c14, c15, c16, c17, c18, c19, c20, c21, u22, u23, u24, u25, u26, u27, u28, u29, u30, u31, u32, u33, u34, c35, c36, c37, c38, c39, c40, c41, c42, c43, c44, c45, c46, c47, c48, c49, c50, c51, c52, c53, c54, c55, c56, c57, c58, c59, c60, c61, c62, c63, c64, c65, c66, c67, c68, c69, c70, c71, c72, c73, c74, c75, c76, c77, c78, c79, c80, c81, c82, c83, c84, c85, c86, c87, c88, c89, c90, c91, c92, c93, c94, c95, c96, c97, c98, c99, c100, c101, c102, c103, c104, c105, c106, c107, c108, c109, c110, c111, c112, c113, c114, c115, c116, c117, c118, c119, c120, c121, c122, c123, c124, c125, c126, c127, c128, c129, c130, c131, u132, u133, u134, u135, u136, u137, u138, u139, u140, u141, u142, u143, u144, u145, u146, u147, u148, u149, u150, u151, u152, u153, u154, u155, u156, u157, u158, u159, u160, u161, u162, u163, u164, u165, u166, u167, u168, u169, u170, u171, u172, u173, u174, u175, u176, u177, u178, u179, u180, u181, u182, u183, u184, u185, u186, u187, u188, u189, u190, u191, u192, u193, u194, u195, u196, u197, u198, u199, u200, c201, c202, c203, c204, c205, c206, c207, c208, c209, c210, c211, c212, c213, c214, c215, c216, c217, c218, c219, c220, c221, c222, c223, c224, c225, c226, c227, c228, c229, c230, c231, c232, c233, c234, c235, c236, c237, c238, c239, c240, c241, c242, c243, c244, c245, c246, c247], []⟩ wx) := hQ
  clear hQ
  have GAv : Hid (gb A = true) := gA
  have GBv : Hid (gb B = true) := gB
  have hsum := (vol_sum gA gB).1 hm
  have htwo := vol_two gA gB
  have b1 := vol_small (gl_one gA)
  have b2 := vol_small (cto_good gA gB)
  have b3 := vol_small (gl_one gB)
  have b4 := vol_small (gl_two gA gB)
  have b5 := vol_small (gl_one (mlo_good hm))
  have GMv : Hid (gb (mlo A B) = true) := mlo_good hm
  have V1 : Hid (∀ W, Below wp.heap.size wp W → Calls Try.prog 26 #[.slice (some ⟨W.heap.size, 0, none⟩) 1 1] (W.alloc (.cells #[.slice aA A.length cA] 25)) fun e w' => e = .returned (.tuple #[.int .i64 (volM [A]), .bool true]) ∧ Below W.heap.size W w') := fun W hW => vol_call1 (VA.out W hW).2.2 gA
  have V4 : Hid (∀ W, Below wp.heap.size wp W → Calls Try.prog 26 #[.slice (some ⟨W.heap.size, 0, none⟩) 1 1] (W.alloc (.cells #[.slice aB B.length cB] 25)) fun e w' => e = .returned (.tuple #[.int .i64 (volM [B]), .bool true]) ∧ Below W.heap.size W w') := fun W hW => vol_call1 (VB.out W hW).2.2 gB
  have V3 : Hid (∀ W, Below wp.heap.size wp W → Calls Try.prog 26 #[.slice (some ⟨W.heap.size, 0, none⟩) 2 2] (W.alloc (.cells #[.slice aA A.length cA, .slice aB B.length cB] 25)) fun e w' => e = .returned (.tuple #[.int .i64 (volM [A, B]), .bool true]) ∧ Below W.heap.size W w') := fun W hW => vol_call2 (VA.out W hW).2.2 (VB.out W hW).2.2 gA gB
  have V2 : Hid (∀ W, Below wp.heap.size wp W → Calls Try.prog 26 #[.slice al nl cl] W fun e w' => e = .returned (.tuple #[.int .i64 (volM (cto A B)), .bool true]) ∧ Below W.heap.size W w') := fun W hW => by
    have := implVol (cto A B) _ W (VL.out W hW)
    rwa [cto_good gA gB] at this
  have V5 : Hid (∀ (W : World) (a : Option Addr) (c : Nat), SdsAt W W.heap.size (.slice a (mlo A B).length c) (mlo A B) → Calls Try.prog 26 #[.slice (some ⟨W.heap.size, 0, none⟩) 1 1] (W.alloc (.cells #[.slice a (mlo A B).length c] 25)) fun e w' => e = .returned (.tuple #[.int .i64 (volM [mlo A B]), .bool true]) ∧ Below W.heap.size W w') := fun W a c h => vol_call1 h GMv.out
  have V6 : Hid (∀ W, Below wp.heap.size wp W → Calls Try.prog 10 #[.agg #[.slice aA A.length cA], .agg #[.slice aB B.length cB]] W fun e w' => (∃ v, e = .returned (.tuple #[.agg #[v], .bool true]) ∧ SRow w' W.heap.size 60 v (mlo A B)) ∧ Below W.heap.size W w') := fun W hW => by
    have := implMeet9 A B _ _ W (VA.out W hW).2.2 (VB.out W hW).2.2
    rwa [hm] at this
  generalize volM [A] = v1 at V1 hsum b1
  generalize volM (cto A B) = v2 at V2 hsum htwo b2
  generalize volM [A, B] = v3 at V3 htwo b4
  generalize volM [B] = v4 at V4 htwo b3
  generalize volM [mlo A B] = v5 at V5 hsum b5
  have d1 : (v2 + v5 != v1) = false := by simp [hsum]
  obtain ⟨b5a, b5b⟩ := b5
  have d2 : (v3 != v2 + v4) = false := by simp [htwo]
  obtain ⟨b1a, b1b⟩ := b1
  obtain ⟨b2a, b2b⟩ := b2
  obtain ⟨b3a, b3b⟩ := b3
  obtain ⟨b4a, b4b⟩ := b4
  clear hsum htwo gA gB hm
  obtain ⟨qa1, la1, _⟩ := VA.out _ hbd
  conv => arg 2; whnf
  go_wp2_with fail
  refine (V1.out wd hbd).mono ?_
  rintro e w1 ⟨rfl, hb1⟩
  have hB1 : Below wp.heap.size wp w1 := hbd.trans (hb1.mono hbd.size)
  clear qa1 la1 hb1
  go_wp2_with fail
  refine (V2.out w1 hB1).mono ?_
  rintro e w2 ⟨rfl, hb2⟩
  have hB2 : Below wp.heap.size wp w2 := hB1.trans (hb2.mono hB1.size)
  obtain ⟨qa2, la2, _⟩ := VA.out _ hB2
  obtain ⟨qb2, lb2, _⟩ := VB.out _ hB2
  clear hb2 hB1
  go_wp2_with fail
  refine (V6.out w2 hB2).mono ?_
  rintro e w3 ⟨⟨vm, rfl, hrm⟩, hb3⟩
  have hB3 : Below wp.heap.size wp w3 := hB2.trans (hb3.mono hB2.size)
  have hsm : SdsAt w3 w3.heap.size vm (mlo A B) := QRow.at ⟨_, hrm⟩
  obtain ⟨aM, cM, hvm, _⟩ := id hsm
  subst hvm
  obtain ⟨W4, hW4⟩ : ∃ W, W = w3.alloc (.cells #[.slice aM (mlo A B).length cM] 25) := ⟨_, rfl⟩
  have hb34 : Below w3.heap.size w3 W4 := by rw [hW4]; exact (Below.refl _ w3).alloc (Nat.le_refl _) _
  have hB4 : Below wp.heap.size wp W4 := hB3.trans (hb34.mono hB3.size)
  have hV4 : VCt w3.heap.size (.slice aM (mlo A B).length cM) (mlo A B) W4 := by rw [hW4]; exact VCt.new hsm
  have HW4 : Hid (W4 = w3.alloc (.cells #[.slice aM (mlo A B).length cM] 25)) := hW4
  clear hW4 hrm hb3 hB2 qa2 la2 qb2 lb2 hsm hb34 hB3
  obtain ⟨qm4, lm4, hs4⟩ := hV4
  go_upto_region 31 with fail
  rw [← HW4.out]
  go_wp2_with fail
  refine (V5.out W4 aM cM hs4).mono ?_
  rintro e w5 ⟨rfl, hb5⟩
  have hB5 : Below wp.heap.size wp w5 := hB4.trans (hb5.mono hB4.size)
  obtain ⟨qa5, la5, _⟩ := VA.out _ hB5
  obtain ⟨qb5, lb5, _⟩ := VB.out _ hB5
  clear qm4 lm4 hs4 hb5 hB4
  go_wp2_with fail
  refine (V3.out w5 hB5).mono ?_
  rintro e w6 ⟨rfl, hb6⟩
  have hB6 : Below wp.heap.size wp w6 := hB5.trans (hb6.mono hB5.size)
  obtain ⟨qb6, lb6, _⟩ := VB.out _ hB6
  clear qa5 la5 qb5 lb5 hb6
  go_wp2_with fail
  refine (V4.out w6 hB6).mono ?_
  rintro e w7 ⟨rfl, hb7⟩
  have hB7 : Below wp.heap.size wp w7 := hB6.trans (hb7.mono hB6.size)
  clear qb6 lb6 hb7 hB6
  go_wp2_with fail
  exact HQ.out _ _ _ _ _ _ _ _ _ _ _ _ _ _ _ _ _ _ _ _ _ _ _ _ _ _ _ _ _ _ _ _ _ _ _ _ _ _ _ _ _ _ _ _ _ _ _ _ _ _ _ _ _ _ _ _ _ _ _ _ _ _ _ _ _ _ _ _ _ _ _ _ _ _ _ _ _ _ _ _ _ _ w7 hB7

end Go.Proofs.Ytnbaeplbnonhkaa

namespace Go.Proofs.Ytnbaeplbnonhkaa
open Go.RowKit Plain Sch Bxs

noncomputable def cut22 : Code := ((Try.f4.body.bind (kTail 22)).getD .skip)

set_option maxRecDepth 1000000 in
set_option maxHeartbeats 16000000 in
theorem cut_part22_000 (wp wd : World) (PA PB nl cl cA cB : Nat) (aA aB al : Option Addr) (A B : List Sd) (hm : mok A B = false) (gA : gb A = true) (gB : gb B = true)
    (VA : Hid (∀ W, Below wp.heap.size wp W → VCt PA (.slice aA A.length cA) A W)) (VB : Hid (∀ W, Below wp.heap.size wp W → VCt PB (.slice aB B.length cB) B W)) (VL : Hid (∀ W, Below wp.heap.size wp W → BxsAt W W.heap.size (.slice al nl cl) (cto A B))) (hnl : nl ≤ 6) (hbd : Below wp.heap.size wp wd) (Q : Exit → Act → World → Prop)
    (c0 c1 c2 c3 c4 c8 c9 c10 c11 c17 c18 c19 c20 c21 c22 c23 c24 c25 c26 c27 c28 c29 c30 c31 c32 c33 c34 c35 c36 c37 c38 c39 c40 c41 c42 c43 c44 c45 c46 c47 c48 c49 c50 c51 c52 c53 c54 c55 c56 c57 c58 c59 c60 c61 c62 c63 c64 c65 c66 c67 c68 c69 c70 c71 c72 c73 c74 c75 c76 c77 c78 c79 c80 c81 c82 c83 c84 c85 c86 c87 c88 c89 c90 c91 c92 c93 c94 c95 c96 c97 c98 c99 c100 c101 c102 c103 c104 c105 c106 c107 c108 c109 c110 c111 c112 c113 c114 c115 c116 c117 c118 c119 c120 c121 c122 c123 c124 c125 c126 c127 c128 c129 c130 c131 c132 c133 c134 c135 c136 c137 c138 c139 c140 c141 c142 c143 c144 c145 c146 c147 c148 c149 c150 c151 c152 c153 c154 c155 c156 c157 c158 c159 c160 c161 c162 c163 c164 c165 c166 c167 c168 c169 c170 c171 c172 c173 c174 c175 c176 c177 c178 c179 c180 c181 c182 c183 c184 c185 c186 c187 c188 c189 c190 c191 c192 c193 c194 c195 c196 c197 c198 c199 c200 c201 c202 c203 c204 c205 c206 c207 c208 c209 c210 c211 c212 c213 c214 c215 c216 c217 c218 c219 c220 c221 c222 c223 c224 c225 c226 c227 c228 c229 c230 c231 c232 c233 c234 c235 c236 c237 c238 c239 c240 c241 c242 c243 c244 c245 c246 c247 : Value)
    (hQ : ∀ (u21 u22 u23 u24 u25 u26 u27 u28 u29 u30 u31 u32 u33 u34 u111 u112 u113 u114 u115 u116 u117 u118 u119 u120 u121 u122 u123 u124 u125 u126 u127 u128 u129 u130 u131 u132 u133 u134 u135 u136 u137 u138 u139 u140 u141 u142 u143 u144 u145 u146 u147 u148 u149 u150 u151 u152 u153 u154 u155 u156 u157 u158 u159 u160 u161 u162 u163 u164 u165 u166 u167 u168 u169 u170 u171 u172 u173 u174 u175 u176 u177 u178 u179 u180 u181 u182 u183 u184 u185 u186 u187 u188 u189 u190 u191 u192 u193 u194 u195 u196 u197 u198 u199 u200 : Value) (wx : World), Below wp.heap.size wp wx → Q .normal ⟨#[c0, c1, c2, c3, c4, .pointer (some ⟨PA, 0, none⟩), .pointer (some ⟨PB, 0, none⟩), .slice al nl cl, c8, c9, c10, c11, .bool false, .bool true, .bool false, .bool true, .int .i64 0, c17, c18, c19, c20, u21, u22, u23, u24, u25, u26, u27, u28, u29, u30, u31, u32, u33, u34, c35, c36, c37, c38, c39, c40, c41, c42, c43, c44, c45, c46, c47, c48, c49, c50, c51, c52, c53, c54, c55, c56, c57, c58, c59, c60, c61, c62, c63, c64, c65, c66, c67, c68, c69, c70, c71, c72, c73, c74, c75, c76, c77, c78, c79, c80, c81, c82, c83, c84, c85, c86, c87, c88, c89, c90, c91, c92, c93, c94, c95, c96, c97, c98, c99, c100, c101, c102, c103, c104, c105, c106, c107, c108, c109, c110, u111, u112, u113, u114, u115, u116, u117, u118, u119, u120, u121, u122, u123, u124, u125, u126, u127, u128, u129, u130, u131, u132, u133, u134, u135, u136, u137, u138, u139, u140, u141, u142, u143, u144, u145, u146, u147, u148, u149, u150, u151, u152, u153, u154, u155, u156, u157, u158, u159, u160, u161, u162, u163, u164, u165, u166, u167, u168, u169, u170, u171, u172, u173, u174, u175, u176, u177, u178, u179, u180, u181, u182, u183, u184, u185, u186, u187, u188, u189, u190, u191, u192, u193, u194, u195, u196, u197, u198, u199, u200, c201, c202, c203, c204, c205, c206, c207, c208, c209, c210, c211, c212, c213, c214, c215, c216, c217, c218, c219, c220, c221, c222, c223, c224, c225, c226, c227, c228, c229, c230, c231, c232, c233, c234, c235, c236, c237, c238, c239, c240, c241, c242, c243, c244, c245, c246, c247], []⟩ wx) :
    Code.wp Try.prog cut22 Q ⟨#[c0, c1, c2, c3, c4, .pointer (some ⟨PA, 0, none⟩), .pointer (some ⟨PB, 0, none⟩), .slice al nl cl, c8, c9, c10, c11, .bool false, .bool true, .bool false, .bool true, .int .i64 0, c17, c18, c19, c20, c21, c22, c23, c24, c25, c26, c27, c28, c29, c30, c31, c32, c33, c34, c35, c36, c37, c38, c39, c40, c41, c42, c43, c44, c45, c46, c47, c48, c49, c50, c51, c52, c53, c54, c55, c56, c57, c58, c59, c60, c61, c62, c63, c64, c65, c66, c67, c68, c69, c70, c71, c72, c73, c74, c75, c76, c77, c78, c79, c80, c81, c82, c83, c84, c85, c86, c87, c88, c89, c90, c91, c92, c93, c94, c95, c96, c97, c98, c99, c100, c101, c102, c103, c104, c105, c106, c107, c108, c109, c110, c111, c112, c113, c114, c115, c116, c117, c118, c119, c120, c121, c122, c123, c124, c125, c126, c127, c128, c129, c130, c131, c132, c133, c134, c135, c136, c137, c138, c139, c140, c141, c142, c143, c144, c145, c146, c147, c148, c149, c150, c151, c152, c153, c154, c155, c156, c157, c158, c159, c160, c161, c162, c163, c164, c165, c166, c167, c168, c169, c170, c171, c172, c173, c174, c175, c176, c177, c178, c179, c180, c181, c182, c183, c184, c185, c186, c187, c188, c189, c190, c191, c192, c193, c194, c195, c196, c197, c198, c199, c200, c201, c202, c203, c204, c205, c206, c207, c208, c209, c210, c211, c212, c213, c214, c215, c216, c217, c218, c219, c220, c221, c222, c223, c224, c225, c226, c227, c228, c229, c230, c231, c232, c233, c234, c235, c236, c237, c238, c239, c240, c241, c242, c243, c244, c245, c246, c247], []⟩ wd := by
  have HQ : Hid (∀ (u21 u22 u23 u24 u25 u26 u27 u28 u29 u30 u31 u32 u33 u34 u111 u112 u113 u114 u115 u116 u117 u118 u119 u120 u121 u122 u123 u124 u125 u126 u127 u128 u129 u130 u131 u132 u133 u134 u135 u136 u137 u138 u139 u140 u141 u142 u143 u144 u145 u146 u147 u148 u149 u150 u151 u152 u153 u154 u155 u156 u157 u158 u159 u160 u161 u162 u163 u164 u165 u166 u167 u168 u169 u170 u171 u172 u173 u174 u175 u176 u177 u178 u179 u180 u181 u182 u183 u184 u185 u186 u187 u188 u189 u190 u191 u192 u193 u194 u195 u196 u197 u198 u199 u200 : Value) (wx : World), Below wp.heap.size wp wx → Q .normal ⟨#[c0, c1, c2, c3, c4, .pointer (some ⟨PA, 0, none⟩), .pointer (some ⟨PB, 0, none⟩), .slice al nl cl, c8, c9, c10, c11, .bool false, .bool true, .bool false, .bool true, .int .i64 0, c17, c18, c19, c20, u21, u22, u23, u24, u25, u26, u27, u28, u29, u30, u31, u32, u33, u34, c35, c36, c37, c38, c39, c40, c41, c42, c43, c44, c45, c46, c47, c48, c49, c50, c51, c52, c53, c54, c55, c56, c57, c58, c59, c60, c61, c62, c63, c64, c65, c66, c67, c68, c69, c70, c71, c72, c73, c74, c75, c76, c77, c78, c79, c80, c81, c82, c83, c84, c85, c86, c87, c88, c89, c90, c91, c92, c93, c94, c95, c96, c97, c98, c99, c100, c101, c102, c103, c104, c105, c106, c107, c108, c109, c110, u111, u112, u113, u114, u115, u116, u117, u118, u119, u120, u121, u122, u123, u124, u125, u126, u127, u128, u129, u130, u131, u132, u133, u134, u135, u136, u137, u138, u139, u140, u141, u142, u143, u144, u145, u146, u147, u148, u149, u150, u151, u152, u153, u154, u155, u156, u157, u158, u159, u160, u161, u162, u163, u164, u165, u166, u167, u168, u169, u170, u171, u172, u173, u174, u175, u176, u177, u178, u179, u180, u181, u182, u183, u184, u185, u186, u187, u188, u189, u190, u191, u192, u193, u194, u195, u196, u197, u198, u199, u200, c201, c202, c203, c204, c205, c206, c207, c208, c209, c210, c211, c212, c213, c214, c215, c216, c217, c218, c219, c220, c221, c222, c223, c224, c225, c226, c227, c228, c229, c230, c231, c232, c233, c234, c235, c236, c237, c238, c239, c240, c241, c242, c243, c244, c245, c246, c247], []⟩ wx) := hQ
  clear hQ
  have GAv : Hid (gb A = true) := gA
  have GBv : Hid (gb B = true) := gB
  have hsum := (vol_sum gA gB).2 hm
  have htwo := vol_two gA gB
  have b1 := vol_small (gl_one gA)
  have b2 := vol_small (cto_good gA gB)
  have b3 := vol_small (gl_one gB)
  have b4 := vol_small (gl_two gA gB)
  have V1 : Hid (∀ W, Below wp.heap.size wp W → Calls Try.prog 26 #[.slice (some ⟨W.heap.size, 0, none⟩) 1 1] (W.alloc (.cells #[.slice aA A.length cA] 25)) fun e w' => e = .returned (.tuple #[.int .i64 (volM [A]), .bool true]) ∧ Below W.heap.size W w') := fun W hW => vol_call1 (VA.out W hW).2.2 gA
  have V4 : Hid (∀ W, Below wp.heap.size wp W → Calls Try.prog 26 #[.slice (some ⟨W.heap.size, 0, none⟩) 1 1] (W.alloc (.cells #[.slice aB B.length cB] 25)) fun e w' => e = .returned (.tuple #[.int .i64 (volM [B]), .bool true]) ∧ Below W.heap.size W w') := fun W hW => vol_call1 (VB.out W hW).2.2 gB
  have V3 : Hid (∀ W, Below wp.heap.size wp W → Calls Try.prog 26 #[.slice (some ⟨W.heap.size, 0, none⟩) 2 2] (W.alloc (.cells #[.slice aA A.length cA, .slice aB B.length cB] 25)) fun e w' => e = .returned (.tuple #[.int .i64 (volM [A, B]), .bool true]) ∧ Below W.heap.size W w') := fun W hW => vol_call2 (VA.out W hW).2.2 (VB.out W hW).2.2 gA gB
  have V2 : Hid (∀ W, Below wp.heap.size wp W → Calls Try.prog 26 #[.slice al nl cl] W fun e w' => e = .returned (.tuple #[.int .i64 (volM (cto A B)), .bool true]) ∧ Below W.heap.size W w') := fun W hW => by
    have := implVol (cto A B) _ W (VL.out W hW)
    rwa [cto_good gA gB] at this
  have V6 : Hid (∀ W, Below wp.heap.size wp W → Calls Try.prog 10 #[.agg #[.slice aA A.length cA], .agg #[.slice aB B.length cB]] W fun e w' => (∃ v, e = .returned (.tuple #[.agg #[v], .bool false]) ∧ SRow w' W.heap.size 60 v (mlo A B)) ∧ Below W.heap.size W w') := fun W hW => by
    have := implMeet9 A B _ _ W (VA.out W hW).2.2 (VB.out W hW).2.2
    rwa [hm] at this
  generalize volM [A] = v1 at V1 hsum b1
  generalize volM (cto A B) = v2 at V2 hsum htwo b2
  generalize volM [A, B] = v3 at V3 htwo b4
  generalize volM [B] = v4 at V4 htwo b3
  have d1 : (v2 != v1) = false := by simp [hsum]
  have d2 : (v3 != v2 + v4) = false := by simp [htwo]
  obtain ⟨b1a, b1b⟩ := b1
  obtain ⟨b2a, b2b⟩ := b2
  obtain ⟨b3a, b3b⟩ := b3
  obtain ⟨b4a, b4b⟩ := b4
  clear hsum htwo gA gB hm
  obtain ⟨qa1, la1, _⟩ := VA.out _ hbd
  have dn : decide ((nl : Int) > 6) = false := decide_eq_false (by omega)
  have dn2 : ¬ (6 : Int) < (nl : Int) := by omega
  conv => arg 2; whnf
  go_wp2_with fail
  refine (V1.out wd hbd).mono ?_
  rintro e w1 ⟨rfl, hb1⟩
  have hB1 : Below wp.heap.size wp w1 := hbd.trans (hb1.mono hbd.size)
  clear qa1 la1 hb1
  go_wp2_with fail
  refine (V2.out w1 hB1).mono ?_
  rintro e w2 ⟨rfl, hb2⟩
  have hB2 : Below wp.heap.size wp w2 := hB1.trans (hb2.mono hB1.size)
  obtain ⟨qa2, la2, _⟩ := VA.out _ hB2
  obtain ⟨qb2, lb2, _⟩ := VB.out _ hB2
  clear hb2 hB1
  go_wp2_with fail
  refine (V6.out w2 hB2).mono ?_
  rintro e w3 ⟨⟨vm, rfl, hrm⟩, hb3⟩
  have hB3 : Below wp.heap.size wp w3 := hB2.trans (hb3.mono hB2.size)
  have hsm : SdsAt w3 w3.heap.size vm (mlo A B) := QRow.at ⟨_, hrm⟩
  obtain ⟨aM, cM, hvm, _⟩ := id hsm
  subst hvm
  obtain ⟨W4, hW4⟩ : ∃ W, W = w3.alloc (.cells #[.slice aM (mlo A B).length cM] 25) := ⟨_, rfl⟩
  have hb34 : Below w3.heap.size w3 W4 := by rw [hW4]; exact (Below.refl _ w3).alloc (Nat.le_refl _) _
  have hB4 : Below wp.heap.size wp W4 := hB3.trans (hb34.mono hB3.size)
  have hV4 : VCt w3.heap.size (.slice aM (mlo A B).length cM) (mlo A B) W4 := by rw [hW4]; exact VCt.new hsm
  have HW4 : Hid (W4 = w3.alloc (.cells #[.slice aM (mlo A B).length cM] 25)) := hW4
  clear hW4 hrm hb3 hB2 qa2 la2 qb2 lb2 hsm hb34 hB3
  clear hV4
  obtain ⟨qa5, la5, _⟩ := VA.out _ hB4
  obtain ⟨qb5, lb5, _⟩ := VB.out _ hB4
  go_upto_region 31 with fail
  rw [← HW4.out]
  go_wp2_with fail
  refine (V3.out W4 hB4).mono ?_
  rintro e w6 ⟨rfl, hb6⟩
  have hB6 : Below wp.heap.size wp w6 := hB4.trans (hb6.mono hB4.size)
  obtain ⟨qb6, lb6, _⟩ := VB.out _ hB6
  clear qa5 la5 qb5 lb5 hb6
  go_wp2_with fail
  refine (V4.out w6 hB6).mono ?_
  rintro e w7 ⟨rfl, hb7⟩
  have hB7 : Below wp.heap.size wp w7 := hB6.trans (hb7.mono hB6.size)
  clear qb6 lb6 hb7 hB6
  go_wp2_with fail
  exact HQ.out _ _ _ _ _ _ _ _ _ _ _ _ _ _ _ _ _ _ _ _ _ _ _ _ _ _ _ _ _ _ _ _ _ _ _ _ _ _ _ _ _ _ _ _ _ _ _ _ _ _ _ _ _ _ _ _ _ _ _ _ _ _ _ _ _ _ _ _ _ _ _ _ _ _ _ _ _ _ _ _ _ _ _ _ _ _ _ _ _ _ _ _ _ _ _ _ _ _ _ _ _ _ _ _ w7 hB7

set_option maxRecDepth 1000000 in
set_option maxHeartbeats 16000000 in
theorem cut_part22_001 (wp wd : World) (PA PB nl cl cA cB : Nat) (aA aB al : Option Addr) (A B : List Sd) (hm : mok A B = false) (gA : gb A = true) (gB : gb B = true)
    (VA : Hid (∀ W, Below wp.heap.size wp W → VCt PA (.slice aA A.length cA) A W)) (VB : Hid (∀ W, Below wp.heap.size wp W → VCt PB (.slice aB B.length cB) B W)) (VL : Hid (∀ W, Below wp.heap.size wp W → BxsAt W W.heap.size (.slice al nl cl) (cto A B))) (hnl : nl ≤ 6) (hbd : Below wp.heap.size wp wd) (Q : Exit → Act → World → Prop)
    (c0 c1 c2 c3 c4 c8 c9 c10 c11 c17 c18 c19 c20 c21 c22 c23 c24 c25 c26 c27 c28 c29 c30 c31 c32 c33 c34 c35 c36 c37 c38 c39 c40 c41 c42 c43 c44 c45 c46 c47 c48 c49 c50 c51 c52 c53 c54 c55 c56 c57 c58 c59 c60 c61 c62 c63 c64 c65 c66 c67 c68 c69 c70 c71 c72 c73 c74 c75 c76 c77 c78 c79 c80 c81 c82 c83 c84 c85 c86 c87 c88 c89 c90 c91 c92 c93 c94 c95 c96 c97 c98 c99 c100 c101 c102 c103 c104 c105 c106 c107 c108 c109 c110 c111 c112 c113 c114 c115 c116 c117 c118 c119 c120 c121 c122 c123 c124 c125 c126 c127 c128 c129 c130 c131 c132 c133 c134 c135 c136 c137 c138 c139 c140 c141 c142 c143 c144 c145 c146 c147 c148 c149 c150 c151 c152 c153 c154 c155 c156 c157 c158 c159 c160 c161 c162 c163 c164 c165 c166 c167 c168 c169 c170 c171 c172 c173 c174 c175 c176 c177 c178 c179 c180 c181 c182 c183 c184 c185 c186 c187 c188 c189 c190 c191 c192 c193 c194 c195 c196 c197 c198 c199 c200 c201 c202 c203 c204 c205 c206 c207 c208 c209 c210 c211 c212 c213 c214 c215 c216 c217 c218 c219 c220 c221 c222 c223 c224 c225 c226 c227 c228 c229 c230 c231 c232 c233 c234 c235 c236 c237 c238 c239 c240 c241 c242 c243 c244 c245 c246 c247 : Value)
    (hQ : ∀ (u21 u22 u23 u24 u25 u26 u27 u28 u29 u30 u31 u32 u33 u34 u111 u112 u113 u114 u115 u116 u117 u118 u119 u120 u121 u122 u123 u124 u125 u126 u127 u128 u129 u130 u131 u132 u133 u134 u135 u136 u137 u138 u139 u140 u141 u142 u143 u144 u145 u146 u147 u148 u149 u150 u151 u152 u153 u154 u155 u156 u157 u158 u159 u160 u161 u162 u163 u164 u165 u166 u167 u168 u169 u170 u171 u172 u173 u174 u175 u176 u177 u178 u179 u180 u181 u182 u183 u184 u185 u186 u187 u188 u189 u190 u191 u192 u193 u194 u195 u196 u197 u198 u199 u200 : Value) (wx : World), Below wp.heap.size wp wx → Q .normal ⟨#[c0, c1, c2, c3, c4, .pointer (some ⟨PA, 0, none⟩), .pointer (some ⟨PB, 0, none⟩), .slice al nl cl, c8, c9, c10, c11, .bool false, .bool true, .bool true, .bool true, .int .i64 0, c17, c18, c19, c20, u21, u22, u23, u24, u25, u26, u27, u28, u29, u30, u31, u32, u33, u34, c35, c36, c37, c38, c39, c40, c41, c42, c43, c44, c45, c46, c47, c48, c49, c50, c51, c52, c53, c54, c55, c56, c57, c58, c59, c60, c61, c62, c63, c64, c65, c66, c67, c68, c69, c70, c71, c72, c73, c74, c75, c76, c77, c78, c79, c80, c81, c82, c83, c84, c85, c86, c87, c88, c89, c90, c91, c92, c93, c94, c95, c96, c97, c98, c99, c100, c101, c102, c103, c104, c105, c106, c107, c108, c109, c110, u111, u112, u113, u114, u115, u116, u117, u118, u119, u120, u121, u122, u123, u124, u125, u126, u127, u128, u129, u130, u131, u132, u133, u134, u135, u136, u137, u138, u139, u140, u141, u142, u143, u144, u145, u146, u147, u148, u149, u150, u151, u152, u153, u154, u155, u156, u157, u158, u159, u160, u161, u162, u163, u164, u165, u166, u167, u168, u169, u170, u171, u172, u173, u174, u175, u176, u177, u178, u179, u180, u181, u182, u183, u184, u185, u186, u187, u188, u189, u190, u191, u192, u193, u194, u195, u196, u197, u198, u199, u200, c201, c202, c203, c204, c205, c206, c207, c208, c209, c210, c211, c212, c213, c214, c215, c216, c217, c218, c219, c220, c221, c222, c223, c224, c225, c226, c227, c228, c229, c230, c231, c232, c233, c234, c235, c236, c237, c238, c239, c240, c241, c242, c243, c244, c245, c246, c247], []⟩ wx) :
    Code.wp Try.prog cut22 Q ⟨#[c0, c1, c2, c3, c4, .pointer (some ⟨PA, 0, none⟩), .pointer (some ⟨PB, 0, none⟩), .slice al nl cl, c8, c9, c10, c11, .bool false, .bool true, .bool true, .bool true, .int .i64 0, c17, c18, c19, c20, c21, c22, c23, c24, c25, c26, c27, c28, c29, c30, c31, c32, c33, c34, c35, c36, c37, c38, c39, c40, c41, c42, c43, c44, c45, c46, c47, c48, c49, c50, c51, c52, c53, c54, c55, c56, c57, c58, c59, c60, c61, c62, c63, c64, c65, c66, c67, c68, c69, c70, c71, c72, c73, c74, c75, c76, c77, c78, c79, c80, c81, c82, c83, c84, c85, c86, c87, c88, c89, c90, c91, c92, c93, c94, c95, c96, c97, c98, c99, c100, c101, c102, c103, c104, c105, c106, c107, c108, c109, c110, c111, c112, c113, c114, c115, c116, c117, c118, c119, c120, c121, c122, c123, c124, c125, c126, c127, c128, c129, c130, c131, c132, c133, c134, c135, c136, c137, c138, c139, c140, c141, c142, c143, c144, c145, c146, c147, c148, c149, c150, c151, c152, c153, c154, c155, c156, c157, c158, c159, c160, c161, c162, c163, c164, c165, c166, c167, c168, c169, c170, c171, c172, c173, c174, c175, c176, c177, c178, c179, c180, c181, c182, c183, c184, c185, c186, c187, c188, c189, c190, c191, c192, c193, c194, c195, c196, c197, c198, c199, c200, c201, c202, c203, c204, c205, c206, c207, c208, c209, c210, c211, c212, c213, c214, c215, c216, c217, c218, c219, c220, c221, c222, c223, c224, c225, c226, c227, c228, c229, c230, c231, c232, c233, c234, c235, c236, c237, c238, c239, c240, c241, c242, c243, c244, c245, c246, c247], []⟩ wd := by
  have HQ : Hid (∀ (u21 u22 u23 u24 u25 u26 u27 u28 u29 u30 u31 u32 u33 u34 u111 u112 u113 u114 u115 u116 u117 u118 u119 u120 u121 u122 u123 u124 u125 u126 u127 u128 u129 u130 u131 u132 u133 u134 u135 u136 u137 u138 u139 u140 u141 u142 u143 u144 u145 u146 u147 u148 u149 u150 u151 u152 u153 u154 u155 u156 u157 u158 u159 u160 u161 u162 u163 u164 u165 u166 u167 u168 u169 u170 u171 u172 u173 u174 u175 u176 u177 u178 u179 u180 u181 u182 u183 u184 u185 u186 u187 u188 u189 u190 u191 u192 u193 u194 u195 u196 u197 u198 u199 u200 : Value) (wx : World), Below wp.heap.size wp wx → Q .normal ⟨#[c0, c1, c2, c3, c4, .pointer (some ⟨PA, 0, none⟩), .pointer (some ⟨PB, 0, none⟩), .slice al nl cl, c8, c9, c10, c11, .bool false, .bool true, .bool true, .bool true, .int .i64 0, c17, c18, c19, c20, u21, u22, u23, u24, u25, u26, u27, u28, u29, u30, u31, u32, u33, u34, c35, c36, c37, c38, c39, c40, c41, c42, c43, c44, c45, c46, c47, c48, c49, c50, c51, c52, c53, c54, c55, c56, c57, c58, c59, c60, c61, c62, c63, c64, c65, c66, c67, c68, c69, c70, c71, c72, c73, c74, c75, c76, c77, c78, c79, c80, c81, c82, c83, c84, c85, c86, c87, c88, c89, c90, c91, c92, c93, c94, c95, c96, c97, c98, c99, c100, c101, c102, c103, c104, c105, c106, c107, c108, c109, c110, u111, u112, u113, u114, u115, u116, u117, u118, u119, u120, u121, u122, u123, u124, u125, u126, u127, u128, u129, u130, u131, u132, u133, u134, u135, u136, u137, u138, u139, u140, u141, u142, u143, u144, u145, u146, u147, u148, u149, u150, u151, u152, u153, u154, u155, u156, u157, u158, u159, u160, u161, u162, u163, u164, u165, u166, u167, u168, u169, u170, u171, u172, u173, u174, u175, u176, u177, u178, u179, u180, u181, u182, u183, u184, u185, u186, u187, u188, u189, u190, u191, u192, u193, u194, u195, u196, u197, u198, u199, u200, c201, c202, c203, c204, c205, c206, c207, c208, c209, c210, c211, c212, c213, c214, c215, c216, c217, c218, c219, c220, c221, c222, c223, c224, c225, c226, c227, c228, c229, c230, c231, c232, c233, c234, c235, c236, c237, c238, c239, c240, c241, c242, c243, c244, c245, c246, c247], []⟩ wx) := hQ
  clear hQ
  have GAv : Hid (gb A = true) := gA
  have GBv : Hid (gb B = true) := gB
  have hsum := (vol_sum gA gB).2 hm
  have htwo := vol_two gA gB
  have b1 := vol_small (gl_one gA)
  have b2 := vol_small (cto_good gA gB)
  have b3 := vol_small (gl_one gB)
  have b4 := vol_small (gl_two gA gB)
  have V1 : Hid (∀ W, Below wp.heap.size wp W → Calls Try.prog 26 #[.slice (some ⟨W.heap.size, 0, none⟩) 1 1] (W.alloc (.cells #[.slice aA A.length cA] 25)) fun e w' => e = .returned (.tuple #[.int .i64 (volM [A]), .bool true]) ∧ Below W.heap.size W w') := fun W hW => vol_call1 (VA.out W hW).2.2 gA
  have V4 : Hid (∀ W, Below wp.heap.size wp W → Calls Try.prog 26 #[.slice (some ⟨W.heap.size, 0, none⟩) 1 1] (W.alloc (.cells #[.slice aB B.length cB] 25)) fun e w' => e = .returned (.tuple #[.int .i64 (volM [B]), .bool true]) ∧ Below W.heap.size W w') := fun W hW => vol_call1 (VB.out W hW).2.2 gB
  have V3 : Hid (∀ W, Below wp.heap.size wp W → Calls Try.prog 26 #[.slice (some ⟨W.heap.size, 0, none⟩) 2 2] (W.alloc (.cells #[.slice aA A.length cA, .slice aB B.length cB] 25)) fun e w' => e = .returned (.tuple #[.int .i64 (volM [A, B]), .bool true]) ∧ Below W.heap.size W w') := fun W hW => vol_call2 (VA.out W hW).2.2 (VB.out W hW).2.2 gA gB
  have V2 : Hid (∀ W, Below wp.heap.size wp W → Calls Try.prog 26 #[.slice al nl cl] W fun e w' => e = .returned (.tuple #[.int .i64 (volM (cto A B)), .bool true]) ∧ Below W.heap.size W w') := fun W hW => by
    have := implVol (cto A B) _ W (VL.out W hW)
    rwa [cto_good gA gB] at this
  have V6 : Hid (∀ W, Below wp.heap.size wp W → Calls Try.prog 10 #[.agg #[.slice aA A.length cA], .agg #[.slice aB B.length cB]] W fun e w' => (∃ v, e = .returned (.tuple #[.agg #[v], .bool false]) ∧ SRow w' W.heap.size 60 v (mlo A B)) ∧ Below W.heap.size W w') := fun W hW => by
    have := implMeet9 A B _ _ W (VA.out W hW).2.2 (VB.out W hW).2.2
    rwa [hm] at this
  generalize volM [A] = v1 at V1 hsum b1
  generalize volM (cto A B) = v2 at V2 hsum htwo b2
  generalize volM [A, B] = v3 at V3 htwo b4
  generalize volM [B] = v4 at V4 htwo b3
  have d1 : (v2 != v1) = false := by simp [hsum]
  have d2 : (v3 != v2 + v4) = false := by simp [htwo]
  obtain ⟨b1a, b1b⟩ := b1
  obtain ⟨b2a, b2b⟩ := b2
  obtain ⟨b3a, b3b⟩ := b3
  obtain ⟨b4a, b4b⟩ := b4
  clear hsum htwo gA gB hm
  obtain ⟨qa1, la1, _⟩ := VA.out _ hbd
  have dn : decide ((nl : Int) > 6) = false := decide_eq_false (by omega)
  have dn2 : ¬ (6 : Int) < (nl : Int) := by omega
  conv => arg 2; whnf
  go_wp2_with fail
  refine (V1.out wd hbd).mono ?_
  rintro e w1 ⟨rfl, hb1⟩
  have hB1 : Below wp.heap.size wp w1 := hbd.trans (hb1.mono hbd.size)
  clear qa1 la1 hb1
  go_wp2_with fail
  refine (V2.out w1 hB1).mono ?_
  rintro e w2 ⟨rfl, hb2⟩
  have hB2 : Below wp.heap.size wp w2 := hB1.trans (hb2.mono hB1.size)
  obtain ⟨qa2, la2, _⟩ := VA.out _ hB2
  obtain ⟨qb2, lb2, _⟩ := VB.out _ hB2
  clear hb2 hB1
  go_wp2_with fail
  refine (V6.out w2 hB2).mono ?_
  rintro e w3 ⟨⟨vm, rfl, hrm⟩, hb3⟩
  have hB3 : Below wp.heap.size wp w3 := hB2.trans (hb3.mono hB2.size)
  have hsm : SdsAt w3 w3.heap.size vm (mlo A B) := QRow.at ⟨_, hrm⟩
  obtain ⟨aM, cM, hvm, _⟩ := id hsm
  subst hvm
  obtain ⟨W4, hW4⟩ : ∃ W, W = w3.alloc (.cells #[.slice aM (mlo A B).length cM] 25) := ⟨_, rfl⟩
  have hb34 : Below w3.heap.size w3 W4 := by rw [hW4]; exact (Below.refl _ w3).alloc (Nat.le_refl _) _
  have hB4 : Below wp.heap.size wp W4 := hB3.trans (hb34.mono hB3.size)
  have hV4 : VCt w3.heap.size (.slice aM (mlo A B).length cM) (mlo A B) W4 := by rw [hW4]; exact VCt.new hsm
  have HW4 : Hid (W4 = w3.alloc (.cells #[.slice aM (mlo A B).length cM] 25)) := hW4
  clear hW4 hrm hb3 hB2 qa2 la2 qb2 lb2 hsm hb34 hB3
  clear hV4
  obtain ⟨qa5, la5, _⟩ := VA.out _ hB4
  obtain ⟨qb5, lb5, _⟩ := VB.out _ hB4
  go_upto_region 31 with fail
  rw [← HW4.out]
  go_wp2_with fail
  refine (V3.out W4 hB4).mono ?_
  rintro e w6 ⟨rfl, hb6⟩
  have hB6 : Below wp.heap.size wp w6 := hB4.trans (hb6.mono hB4.size)
  obtain ⟨qb6, lb6, _⟩ := VB.out _ hB6
  clear qa5 la5 qb5 lb5 hb6
  go_wp2_with fail
  refine (V4.out w6 hB6).mono ?_
  rintro e w7 ⟨rfl, hb7⟩
  have hB7 : Below wp.heap.size wp w7 := hB6.trans (hb7.mono hB6.size)
  clear qb6 lb6 hb7 hB6
  go_wp2_with fail
  exact HQ.out _ _ _ _ _ _ _ _ _ _ _ _ _ _ _ _ _ _ _ _ _ _ _ _ _ _ _ _ _ _ _ _ _ _ _ _ _ _ _ _ _ _ _ _ _ _ _ _ _ _ _ _ _ _ _ _ _ _ _ _ _ _ _ _ _ _ _ _ _ _ _ _ _ _ _ _ _ _ _ _ _ _ _ _ _ _ _ _ _ _ _ _ _ _ _ _ _ _ _ _ _ _ _ _ w7 hB7

set_option maxRecDepth 1000000 in
set_option maxHeartbeats 16000000 in
theorem cut_part22_010 (wp wd : World) (PA PB nl cl cA cB : Nat) (aA aB al : Option Addr) (A B : List Sd) (hm : mok A B = false) (gA : gb A = true) (gB : gb B = true)
    (VA : Hid (∀ W, Below wp.heap.size wp W → VCt PA (.slice aA A.length cA) A W)) (VB : Hid (∀ W, Below wp.heap.size wp W → VCt PB (.slice aB B.length cB) B W)) (VL : Hid (∀ W, Below wp.heap.size wp W → BxsAt W W.heap.size (.slice al nl cl) (cto A B))) (hnl : nl ≤ 6) (hbd : Below wp.heap.size wp wd) (Q : Exit → Act → World → Prop)
    (c0 c1 c2 c3 c4 c8 c9 c10 c11 c17 c18 c19 c20 c21 c22 c23 c24 c25 c26 c27 c28 c29 c30 c31 c32 c33 c34 c35 c36 c37 c38 c39 c40 c41 c42 c43 c44 c45 c46 c47 c48 c49 c50 c51 c52 c53 c54 c55 c56 c57 c58 c59 c60 c61 c62 c63 c64 c65 c66 c67 c68 c69 c70 c71 c72 c73 c74 c75 c76 c77 c78 c79 c80 c81 c82 c83 c84 c85 c86 c87 c88 c89 c90 c91 c92 c93 c94 c95 c96 c97 c98 c99 c100 c101 c102 c103 c104 c105 c106 c107 c108 c109 c110 c111 c112 c113 c114 c115 c116 c117 c118 c119 c120 c121 c122 c123 c124 c125 c126 c127 c128 c129 c130 c131 c132 c133 c134 c135 c136 c137 c138 c139 c140 c141 c142 c143 c144 c145 c146 c147 c148 c149 c150 c151 c152 c153 c154 c155 c156 c157 c158 c159 c160 c161 c162 c163 c164 c165 c166 c167 c168 c169 c170 c171 c172 c173 c174 c175 c176 c177 c178 c179 c180 c181 c182 c183 c184 c185 c186 c187 c188 c189 c190 c191 c192 c193 c194 c195 c196 c197 c198 c199 c200 c201 c202 c203 c204 c205 c206 c207 c208 c209 c210 c211 c212 c213 c214 c215 c216 c217 c218 c219 c220 c221 c222 c223 c224 c225 c226 c227 c228 c229 c230 c231 c232 c233 c234 c235 c236 c237 c238 c239 c240 c241 c242 c243 c244 c245 c246 c247 : Value)
    (hQ : ∀ (u21 u22 u23 u24 u25 u26 u27 u28 u29 u30 u31 u32 u33 u34 u111 u112 u113 u114 u115 u116 u117 u118 u119 u120 u121 u122 u123 u124 u125 u126 u127 u128 u129 u130 u131 u132 u133 u134 u135 u136 u137 u138 u139 u140 u141 u142 u143 u144 u145 u146 u147 u148 u149 u150 u151 u152 u153 u154 u155 u156 u157 u158 u159 u160 u161 u162 u163 u164 u165 u166 u167 u168 u169 u170 u171 u172 u173 u174 u175 u176 u177 u178 u179 u180 u181 u182 u183 u184 u185 u186 u187 u188 u189 u190 u191 u192 u193 u194 u195 u196 u197 u198 u199 u200 : Value) (wx : World), Below wp.heap.size wp wx → Q .normal ⟨#[c0, c1, c2, c3, c4, .pointer (some ⟨PA, 0, none⟩), .pointer (some ⟨PB, 0, none⟩), .slice al nl cl, c8, c9, c10, c11, .bool true, .bool true, .bool false, .bool true, .int .i64 1, c17, c18, c19, c20, u21, u22, u23, u24, u25, u26, u27, u28, u29, u30, u31, u32, u33, u34, c35, c36, c37, c38, c39, c40, c41, c42, c43, c44, c45, c46, c47, c48, c49, c50, c51, c52, c53, c54, c55, c56, c57, c58, c59, c60, c61, c62, c63, c64, c65, c66, c67, c68, c69, c70, c71, c72, c73, c74, c75, c76, c77, c78, c79, c80, c81, c82, c83, c84, c85, c86, c87, c88, c89, c90, c91, c92, c93, c94, c95, c96, c97, c98, c99, c100, c101, c102, c103, c104, c105, c106, c107, c108, c109, c110, u111, u112, u113, u114, u115, u116, u117, u118, u119, u120, u121, u122, u123, u124, u125, u126, u127, u128, u129, u130, u131, u132, u133, u134, u135, u136, u137, u138, u139, u140, u141, u142, u143, u144, u145, u146, u147, u148, u149, u150, u151, u152, u153, u154, u155, u156, u157, u158, u159, u160, u161, u162, u163, u164, u165, u166, u167, u168, u169, u170, u171, u172, u173, u174, u175, u176, u177, u178, u179, u180, u181, u182, u183, u184, u185, u186, u187, u188, u189, u190, u191, u192, u193, u194, u195, u196, u197, u198, u199, u200, c201, c202, c203, c204, c205, c206, c207, c208, c209, c210, c211, c212, c213, c214, c215, c216, c217, c218, c219, c220, c221, c222, c223, c224, c225, c226, c227, c228, c229, c230, c231, c232, c233, c234, c235, c236, c237, c238, c239, c240, c241, c242, c243, c244, c245, c246, c247], []⟩ wx) :
    Code.wp Try.prog cut22 Q ⟨#[c0, c1, c2, c3, c4, .pointer (some ⟨PA, 0, none⟩), .pointer (some ⟨PB, 0, none⟩), .slice al nl cl, c8, c9, c10, c11, .bool true, .bool true, .bool false, .bool true, .int .i64 1, c17, c18, c19, c20, c21, c22, c23, c24, c25, c26, c27, c28, c29, c30, c31, c32, c33, c34, c35, c36, c37, c38, c39, c40, c41, c42, c43, c44, c45, c46, c47, c48, c49, c50, c51, c52, c53, c54, c55, c56, c57, c58, c59, c60, c61, c62, c63, c64, c65, c66, c67, c68, c69, c70, c71, c72, c73, c74, c75, c76, c77, c78, c79, c80, c81, c82, c83, c84, c85, c86, c87, c88, c89, c90, c91, c92, c93, c94, c95, c96, c97, c98, c99, c100, c101, c102, c103, c104, c105, c106, c107, c108, c109, c110, c111, c112, c113, c114, c115, c116, c117, c118, c119, c120, c121, c122, c123, c124, c125, c126, c127, c128, c129, c130, c131, c132, c133, c134, c135, c136, c137, c138, c139, c140, c141, c142, c143, c144, c145, c146, c147, c148, c149, c150, c151, c152, c153, c154, c155, c156, c157, c158, c159, c160, c161, c162, c163, c164, c165, c166, c167, c168, c169, c170, c171, c172, c173, c174, c175, c176, c177, c178, c179, c180, c181, c182, c183, c184, c185, c186, c187, c188, c189, c190, c191, c192, c193, c194, c195, c196, c197, c198, c199, c200, c201, c202, c203, c204, c205, c206, c207, c208, c209, c210, c211, c212, c213, c214, c215, c216, c217, c218, c219, c220, c221, c222, c223, c224, c225, c226, c227, c228, c229, c230, c231, c232, c233, c234, c235, c236, c237, c238, c239, c240, c241, c242, c243, c244, c245, c246, c247], []⟩ wd := by
  have HQ : Hid (∀ (u21 u22 u23 u24 u25 u26 u27 u28 u29 u30 u31 u32 u33 u34 u111 u112 u113 u114 u115 u116 u117 u118 u119 u120 u121 u122 u123 u124 u125 u126 u127 u128 u129 u130 u131 u132 u133 u134 u135 u136 u137 u138 u139 u140 u141 u142 u143 u144 u145 u146 u147 u148 u149 u150 u151 u152 u153 u154 u155 u156 u157 u158 u159 u160 u161 u162 u163 u164 u165 u166 u167 u168 u169 u170 u171 u172 u173 u174 u175 u176 u177 u178 u179 u180 u181 u182 u183 u184 u185 u186 u187 u188 u189 u190 u191 u192 u193 u194 u195 u196 u197 u198 u199 u200 : Value) (wx : World), Below wp.heap.size wp wx → Q .normal ⟨#[c0, c1, c2, c3, c4, .pointer (some ⟨PA, 0, none⟩), .pointer (some ⟨PB, 0, none⟩), .slice al nl cl, c8, c9, c10, c11, .bool true, .bool true, .bool false, .bool true, .int .i64 1, c17, c18, c19, c20, u21, u22, u23, u24, u25, u26, u27, u28, u29, u30, u31, u32, u33, u34, c35, c36, c37, c38, c39, c40, c41, c42, c43, c44, c45, c46, c47, c48, c49, c50, c51, c52, c53, c54, c55, c56, c57, c58, c59, c60, c61, c62, c63, c64, c65, c66, c67, c68, c69, c70, c71, c72, c73, c74, c75, c76, c77, c78, c79, c80, c81, c82, c83, c84, c85, c86, c87, c88, c89, c90, c91, c92, c93, c94, c95, c96, c97, c98, c99, c100, c101, c102, c103, c104, c105, c106, c107, c108, c109, c110, u111, u112, u113, u114, u115, u116, u117, u118, u119, u120, u121, u122, u123, u124, u125, u126, u127, u128, u129, u130, u131, u132, u133, u134, u135, u136, u137, u138, u139, u140, u141, u142, u143, u144, u145, u146, u147, u148, u149, u150, u151, u152, u153, u154, u155, u156, u157, u158, u159, u160, u161, u162, u163, u164, u165, u166, u167, u168, u169, u170, u171, u172, u173, u174, u175, u176, u177, u178, u179, u180, u181, u182, u183, u184, u185, u186, u187, u188, u189, u190, u191, u192, u193, u194, u195, u196, u197, u198, u199, u200, c201, c202, c203, c204, c205, c206, c207, c208, c209, c210, c211, c212, c213, c214, c215, c216, c217, c218, c219, c220, c221, c222, c223, c224, c225, c226, c227, c228, c229, c230, c231, c232, c233, c234, c235, c236, c237, c238, c239, c240, c241, c242, c243, c244, c245, c246, c247], []⟩ wx) := hQ
  clear hQ
  have GAv : Hid (gb A = true) := gA
  have GBv : Hid (gb B = true) := gB
  have hsum := (vol_sum gA gB).2 hm
  have htwo := vol_two gA gB
  have b1 := vol_small (gl_one gA)
  have b2 := vol_small (cto_good gA gB)
  have b3 := vol_small (gl_one gB)
  have b4 := vol_small (gl_two gA gB)
  have V1 : Hid (∀ W, Below wp.heap.size wp W → Calls Try.prog 26 #[.slice (some ⟨W.heap.size, 0, none⟩) 1 1] (W.alloc (.cells #[.slice aA A.length cA] 25)) fun e w' => e = .returned (.tuple #[.int .i64 (volM [A]), .bool true]) ∧ Below W.heap.size W w') := fun W hW => vol_call1 (VA.out W hW).2.2 gA
  have V4 : Hid (∀ W, Below wp.heap.size wp W → Calls Try.prog 26 #[.slice (some ⟨W.heap.size, 0, none⟩) 1 1] (W.alloc (.cells #[.slice aB B.length cB] 25)) fun e w' => e = .returned (.tuple #[.int .i64 (volM [B]), .bool true]) ∧ Below W.heap.size W w') := fun W hW => vol_call1 (VB.out W hW).2.2 gB
  have V3 : Hid (∀ W, Below wp.heap.size wp W → Calls Try.prog 26 #[.slice (some ⟨W.heap.size, 0, none⟩) 2 2] (W.alloc (.cells #[.slice aA A.length cA, .slice aB B.length cB] 25)) fun e w' => e = .returned (.tuple #[.int .i64 (volM [A, B]), .bool true]) ∧ Below W.heap.size W w') := fun W hW => vol_call2 (VA.out W hW).2.2 (VB.out W hW).2.2 gA gB
  have V2 : Hid (∀ W, Below wp.heap.size wp W → Calls Try.prog 26 #[.slice al nl cl] W fun e w' => e = .returned (.tuple #[.int .i64 (volM (cto A B)), .bool true]) ∧ Below W.heap.size W w') := fun W hW => by
    have := implVol (cto A B) _ W (VL.out W hW)
    rwa [cto_good gA gB] at this
  have V6 : Hid (∀ W, Below wp.heap.size wp W → Calls Try.prog 10 #[.agg #[.slice aA A.length cA], .agg #[.slice aB B.length cB]] W fun e w' => (∃ v, e = .returned (.tuple #[.agg #[v], .bool false]) ∧ SRow w' W.heap.size 60 v (mlo A B)) ∧ Below W.heap.size W w') := fun W hW => by
    have := implMeet9 A B _ _ W (VA.out W hW).2.2 (VB.out W hW).2.2
    rwa [hm] at this
  generalize volM [A] = v1 at V1 hsum b1
  generalize volM (cto A B) = v2 at V2 hsum htwo b2
  generalize volM [A, B] = v3 at V3 htwo b4
  generalize volM [B] = v4 at V4 htwo b3
  have d1 : (v2 != v1) = false := by simp [hsum]
  have d2 : (v3 != v2 + v4) = false := by simp [htwo]
  obtain ⟨b1a, b1b⟩ := b1
  obtain ⟨b2a, b2b⟩ := b2
  obtain ⟨b3a, b3b⟩ := b3
  obtain ⟨b4a, b4b⟩ := b4
  clear hsum htwo gA gB hm
  obtain ⟨qa1, la1, _⟩ := VA.out _ hbd
  have dn : decide ((nl : Int) > 6) = false := decide_eq_false (by omega)
  have dn2 : ¬ (6 : Int) < (nl : Int) := by omega
  conv => arg 2; whnf
  go_wp2_with fail
  refine (V1.out wd hbd).mono ?_
  rintro e w1 ⟨rfl, hb1⟩
  have hB1 : Below wp.heap.size wp w1 := hbd.trans (hb1.mono hbd.size)
  clear qa1 la1 hb1
  go_wp2_with fail
  refine (V2.out w1 hB1).mono ?_
  rintro e w2 ⟨rfl, hb2⟩
  have hB2 : Below wp.heap.size wp w2 := hB1.trans (hb2.mono hB1.size)
  obtain ⟨qa2, la2, _⟩ := VA.out _ hB2
  obtain ⟨qb2, lb2, _⟩ := VB.out _ hB2
  clear hb2 hB1
  go_wp2_with fail
  refine (V6.out w2 hB2).mono ?_
  rintro e w3 ⟨⟨vm, rfl, hrm⟩, hb3⟩
  have hB3 : Below wp.heap.size wp w3 := hB2.trans (hb3.mono hB2.size)
  have hsm : SdsAt w3 w3.heap.size vm (mlo A B) := QRow.at ⟨_, hrm⟩
  obtain ⟨aM, cM, hvm, _⟩ := id hsm
  subst hvm
  obtain ⟨W4, hW4⟩ : ∃ W, W = w3.alloc (.cells #[.slice aM (mlo A B).length cM] 25) := ⟨_, rfl⟩
  have hb34 : Below w3.heap.size w3 W4 := by rw [hW4]; exact (Below.refl _ w3).alloc (Nat.le_refl _) _
  have hB4 : Below wp.heap.size wp W4 := hB3.trans (hb34.mono hB3.size)
  have hV4 : VCt w3.heap.size (.slice aM (mlo A B).length cM) (mlo A B) W4 := by rw [hW4]; exact VCt.new hsm
  have HW4 : Hid (W4 = w3.alloc (.cells #[.slice aM (mlo A B).length cM] 25)) := hW4
  clear hW4 hrm hb3 hB2 qa2 la2 qb2 lb2 hsm hb34 hB3
  clear hV4
  obtain ⟨qa5, la5, _⟩ := VA.out _ hB4
  obtain ⟨qb5, lb5, _⟩ := VB.out _ hB4
  go_upto_region 31 with fail
  rw [← HW4.out]
  go_wp2_with fail
  refine (V3.out W4 hB4).mono ?_
  rintro e w6 ⟨rfl, hb6⟩
  have hB6 : Below wp.heap.size wp w6 := hB4.trans (hb6.mono hB4.size)
  obtain ⟨qb6, lb6, _⟩ := VB.out _ hB6
  clear qa5 la5 qb5 lb5 hb6
  go_wp2_with fail
  refine (V4.out w6 hB6).mono ?_
  rintro e w7 ⟨rfl, hb7⟩
  have hB7 : Below wp.heap.size wp w7 := hB6.trans (hb7.mono hB6.size)
  clear qb6 lb6 hb7 hB6
  go_wp2_with fail
  exact HQ.out _ _ _ _ _ _ _ _ _ _ _ _ _ _ _ _ _ _ _ _ _ _ _ _ _ _ _ _ _ _ _ _ _ _ _ _ _ _ _ _ _ _ _ _ _ _ _ _ _ _ _ _ _ _ _ _ _ _ _ _ _ _ _ _ _ _ _ _ _ _ _ _ _ _ _ _ _ _ _ _ _ _ _ _ _ _ _ _ _ _ _ _ _ _ _ _ _ _ _ _ _ _ _ _ w7 hB7

set_option maxRecDepth 1000000 in
set_option maxHeartbeats 16000000 in
theorem cut_part22_011 (wp wd : World) (PA PB nl cl cA cB : Nat) (aA aB al : Option Addr) (A B : List Sd) (hm : mok A B = false) (gA : gb A = true) (gB : gb B = true)
    (VA : Hid (∀ W, Below wp.heap.size wp W → VCt PA (.slice aA A.length cA) A W)) (VB : Hid (∀ W, Below wp.heap.size wp W → VCt PB (.slice aB B.length cB) B W)) (VL : Hid (∀ W, Below wp.heap.size wp W → BxsAt W W.heap.size (.slice al nl cl) (cto A B))) (hnl : nl ≤ 6) (hbd : Below wp.heap.size wp wd) (Q : Exit → Act → World → Prop)
    (c0 c1 c2 c3 c4 c8 c9 c10 c11 c17 c18 c19 c20 c21 c22 c23 c24 c25 c26 c27 c28 c29 c30 c31 c32 c33 c34 c35 c36 c37 c38 c39 c40 c41 c42 c43 c44 c45 c46 c47 c48 c49 c50 c51 c52 c53 c54 c55 c56 c57 c58 c59 c60 c61 c62 c63 c64 c65 c66 c67 c68 c69 c70 c71 c72 c73 c74 c75 c76 c77 c78 c79 c80 c81 c82 c83 c84 c85 c86 c87 c88 c89 c90 c91 c92 c93 c94 c95 c96 c97 c98 c99 c100 c101 c102 c103 c104 c105 c106 c107 c108 c109 c110 c111 c112 c113 c114 c115 c116 c117 c118 c119 c120 c121 c122 c123 c124 c125 c126 c127 c128 c129 c130 c131 c132 c133 c134 c135 c136 c137 c138 c139 c140 c141 c142 c143 c144 c145 c146 c147 c148 c149 c150 c151 c152 c153 c154 c155 c156 c157 c158 c159 c160 c161 c162 c163 c164 c165 c166 c167 c168 c169 c170 c171 c172 c173 c174 c175 c176 c177 c178 c179 c180 c181 c182 c183 c184 c185 c186 c187 c188 c189 c190 c191 c192 c193 c194 c195 c196 c197 c198 c199 c200 c201 c202 c203 c204 c205 c206 c207 c208 c209 c210 c211 c212 c213 c214 c215 c216 c217 c218 c219 c220 c221 c222 c223 c224 c225 c226 c227 c228 c229 c230 c231 c232 c233 c234 c235 c236 c237 c238 c239 c240 c241 c242 c243 c244 c245 c246 c247 : Value)
    (hQ : ∀ (u21 u22 u23 u24 u25 u26 u27 u28 u29 u30 u31 u32 u33 u34 u111 u112 u113 u114 u115 u116 u117 u118 u119 u120 u121 u122 u123 u124 u125 u126 u127 u128 u129 u130 u131 u132 u133 u134 u135 u136 u137 u138 u139 u140 u141 u142 u143 u144 u145 u146 u147 u148 u149 u150 u151 u152 u153 u154 u155 u156 u157 u158 u159 u160 u161 u162 u163 u164 u165 u166 u167 u168 u169 u170 u171 u172 u173 u174 u175 u176 u177 u178 u179 u180 u181 u182 u183 u184 u185 u186 u187 u188 u189 u190 u191 u192 u193 u194 u195 u196 u197 u198 u199 u200 : Value) (wx : World), Below wp.heap.size wp wx → Q .normal ⟨#[c0, c1, c2, c3, c4, .pointer (some ⟨PA, 0, none⟩), .pointer (some ⟨PB, 0, none⟩), .slice al nl cl, c8, c9, c10, c11, .bool true, .bool true, .bool true, .bool true, .int .i64 0, c17, c18, c19, c20, u21, u22, u23, u24, u25, u26, u27, u28, u29, u30, u31, u32, u33, u34, c35, c36, c37, c38, c39, c40, c41, c42, c43, c44, c45, c46, c47, c48, c49, c50, c51, c52, c53, c54, c55, c56, c57, c58, c59, c60, c61, c62, c63, c64, c65, c66, c67, c68, c69, c70, c71, c72, c73, c74, c75, c76, c77, c78, c79, c80, c81, c82, c83, c84, c85, c86, c87, c88, c89, c90, c91, c92, c93, c94, c95, c96, c97, c98, c99, c100, c101, c102, c103, c104, c105, c106, c107, c108, c109, c110, u111, u112, u113, u114, u115, u116, u117, u118, u119, u120, u121, u122, u123, u124, u125, u126, u127, u128, u129, u130, u131, u132, u133, u134, u135, u136, u137, u138, u139, u140, u141, u142, u143, u144, u145, u146, u147, u148, u149, u150, u151, u152, u153, u154, u155, u156, u157, u158, u159, u160, u161, u162, u163, u164, u165, u166, u167, u168, u169, u170, u171, u172, u173, u174, u175, u176, u177, u178, u179, u180, u181, u182, u183, u184, u185, u186, u187, u188, u189, u190, u191, u192, u193, u194, u195, u196, u197, u198, u199, u200, c201, c202, c203, c204, c205, c206, c207, c208, c209, c210, c211, c212, c213, c214, c215, c216, c217, c218, c219, c220, c221, c222, c223, c224, c225, c226, c227, c228, c229, c230, c231, c232, c233, c234, c235, c236, c237, c238, c239, c240, c241, c242, c243, c244, c245, c246, c247], []⟩ wx) :
    Code.wp Try.prog cut22 Q ⟨#[c0, c1, c2, c3, c4, .pointer (some ⟨PA, 0, none⟩), .pointer (some ⟨PB, 0, none⟩), .slice al nl cl, c8, c9, c10, c11, .bool true, .bool true, .bool true, .bool true, .int .i64 0, c17, c18, c19, c20, c21, c22, c23, c24, c25, c26, c27, c28, c29, c30, c31, c32, c33, c34, c35, c36, c37, c38, c39, c40, c41, c42, c43, c44, c45, c46, c47, c48, c49, c50, c51, c52, c53, c54, c55, c56, c57, c58, c59, c60, c61, c62, c63, c64, c65, c66, c67, c68, c69, c70, c71, c72, c73, c74, c75, c76, c77, c78, c79, c80, c81, c82, c83, c84, c85, c86, c87, c88, c89, c90, c91, c92, c93, c94, c95, c96, c97, c98, c99, c100, c101, c102, c103, c104, c105, c106, c107, c108, c109, c110, c111, c112, c113, c114, c115, c116, c117, c118, c119, c120, c121, c122, c123, c124, c125, c126, c127, c128, c129, c130, c131, c132, c133, c134, c135, c136, c137, c138, c139, c140, c141, c142, c143, c144, c145, c146, c147, c148, c149, c150, c151, c152, c153, c154, c155, c156, c157, c158, c159, c160, c161, c162, c163, c164, c165, c166, c167, c168, c169, c170, c171, c172, c173, c174, c175, c176, c177, c178, c179, c180, c181, c182, c183, c184, c185, c186, c187, c188, c189, c190, c191, c192, c193, c194, c195, c196, c197, c198, c199, c200, c201, c202, c203, c204, c205, c206, c207, c208, c209, c210, c211, c212, c213, c214, c215, c216, c217, c218, c219, c220, c221, c222, c223, c224, c225, c226, c227, c228, c229, c230, c231, c232, c233, c234, c235, c236, c237, c238, c239, c240, c241, c242, c243, c244, c245, c246, c247], []⟩ wd := by
  have HQ : Hid (∀ (u21 u22 u23 u24 u25 u26 u27 u28 u29 u30 u31 u32 u33 u34 u111 u112 u113 u114 u115 u116 u117 u118 u119 u120 u121 u122 u123 u124 u125 u126 u127 u128 u129 u130 u131 u132 u133 u134 u135 u136 u137 u138 u139 u140 u141 u142 u143 u144 u145 u146 u147 u148 u149 u150 u151 u152 u153 u154 u155 u156 u157 u158 u159 u160 u161 u162 u163 u164 u165 u166 u167 u168 u169 u170 u171 u172 u173 u174 u175 u176 u177 u178 u179 u180 u181 u182 u183 u184 u185 u186 u187 u188 u189 u190 u191 u192 u193 u194 u195 u196 u197 u198 u199 u200 : Value) (wx : World), Below wp.heap.size wp wx → Q .normal ⟨#[c0, c1, c2, c3, c4, .pointer (some ⟨PA, 0, none⟩), .pointer (some ⟨PB, 0, none⟩), .slice al nl cl, c8, c9, c10, c11, .bool true, .bool true, .bool true, .bool true, .int .i64 0, c17, c18, c19, c20, u21, u22, u23, u24, u25, u26, u27, u28, u29, u30, u31, u32, u33, u34, c35, c36, c37, c38, c39, c40, c41, c42, c43, c44, c45, c46, c47, c48, c49, c50, c51, c52, c53, c54, c55, c56, c57, c58, c59, c60, c61, c62, c63, c64, c65, c66, c67, c68, c69, c70, c71, c72, c73, c74, c75, c76, c77, c78, c79, c80, c81, c82, c83, c84, c85, c86, c87, c88, c89, c90, c91, c92, c93, c94, c95, c96, c97, c98, c99, c100, c101, c102, c103, c104, c105, c106, c107, c108, c109, c110, u111, u112, u113, u114, u115, u116, u117, u118, u119, u120, u121, u122, u123, u124, u125, u126, u127, u128, u129, u130, u131, u132, u133, u134, u135, u136, u137, u138, u139, u140, u141, u142, u143, u144, u145, u146, u147, u148, u149, u150, u151, u152, u153, u154, u155, u156, u157, u158, u159, u160, u161, u162, u163, u164, u165, u166, u167, u168, u169, u170, u171, u172, u173, u174, u175, u176, u177, u178, u179, u180, u181, u182, u183, u184, u185, u186, u187, u188, u189, u190, u191, u192, u193, u194, u195, u196, u197, u198, u199, u200, c201, c202, c203, c204, c205, c206, c207, c208, c209, c210, c211, c212, c213, c214, c215, c216, c217, c218, c219, c220, c221, c222, c223, c224, c225, c226, c227, c228, c229, c230, c231, c232, c233, c234, c235, c236, c237, c238, c239, c240, c241, c242, c243, c244, c245, c246, c247], []⟩ wx) := hQ
  clear hQ
  have GAv : Hid (gb A = true) := gA
  have GBv : Hid (gb B = true) := gB
  have hsum := (vol_sum gA gB).2 hm
  have htwo := vol_two gA gB
  have b1 := vol_small (gl_one gA)
  have b2 := vol_small (cto_good gA gB)
  have b3 := vol_small (gl_one gB)
  have b4 := vol_small (gl_two gA gB)
  have V1 : Hid (∀ W, Below wp.heap.size wp W → Calls Try.prog 26 #[.slice (some ⟨W.heap.size, 0, none⟩) 1 1] (W.alloc (.cells #[.slice aA A.length cA] 25)) fun e w' => e = .returned (.tuple #[.int .i64 (volM [A]), .bool true]) ∧ Below W.heap.size W w') := fun W hW => vol_call1 (VA.out W hW).2.2 gA
  have V4 : Hid (∀ W, Below wp.heap.size wp W → Calls Try.prog 26 #[.slice (some ⟨W.heap.size, 0, none⟩) 1 1] (W.alloc (.cells #[.slice aB B.length cB] 25)) fun e w' => e = .returned (.tuple #[.int .i64 (volM [B]), .bool true]) ∧ Below W.heap.size W w') := fun W hW => vol_call1 (VB.out W hW).2.2 gB
  have V3 : Hid (∀ W, Below wp.heap.size wp W → Calls Try.prog 26 #[.slice (some ⟨W.heap.size, 0, none⟩) 2 2] (W.alloc (.cells #[.slice aA A.length cA, .slice aB B.length cB] 25)) fun e w' => e = .returned (.tuple #[.int .i64 (volM [A, B]), .bool true]) ∧ Below W.heap.size W w') := fun W hW => vol_call2 (VA.out W hW).2.2 (VB.out W hW).2.2 gA gB
  have V2 : Hid (∀ W, Below wp.heap.size wp W → Calls Try.prog 26 #[.slice al nl cl] W fun e w' => e = .returned (.tuple #[.int .i64 (volM (cto A B)), .bool true]) ∧ Below W.heap.size W w') := fun W hW => by
    have := implVol (cto A B) _ W (VL.out W hW)
    rwa [cto_good gA gB] at this
  have V6 : Hid (∀ W, Below wp.heap.size wp W → Calls Try.prog 10 #[.agg #[.slice aA A.length cA], .agg #[.slice aB B.length cB]] W fun e w' => (∃ v, e = .returned (.tuple #[.agg #[v], .bool false]) ∧ SRow w' W.heap.size 60 v (mlo A B)) ∧ Below W.heap.size W w') := fun W hW => by
    have := implMeet9 A B _ _ W (VA.out W hW).2.2 (VB.out W hW).2.2
    rwa [hm] at this
  generalize volM [A] = v1 at V1 hsum b1
  generalize volM (cto A B) = v2 at V2 hsum htwo b2
  generalize volM [A, B] = v3 at V3 htwo b4
  generalize volM [B] = v4 at V4 htwo b3
  have d1 : (v2 != v1) = false := by simp [hsum]
  have d2 : (v3 != v2 + v4) = false := by simp [htwo]
  obtain ⟨b1a, b1b⟩ := b1
  obtain ⟨b2a, b2b⟩ := b2
  obtain ⟨b3a, b3b⟩ := b3
  obtain ⟨b4a, b4b⟩ := b4
  clear hsum htwo gA gB hm
  obtain ⟨qa1, la1, _⟩ := VA.out _ hbd
  have dn : decide ((nl : Int) > 6) = false := decide_eq_false (by omega)
  have dn2 : ¬ (6 : Int) < (nl : Int) := by omega
  conv => arg 2; whnf
  go_wp2_with fail
  refine (V1.out wd hbd).mono ?_
  rintro e w1 ⟨rfl, hb1⟩
  have hB1 : Below wp.heap.size wp w1 := hbd.trans (hb1.mono hbd.size)
  clear qa1 la1 hb1
  go_wp2_with fail
  refine (V2.out w1 hB1).mono ?_
  rintro e w2 ⟨rfl, hb2⟩
  have hB2 : Below wp.heap.size wp w2 := hB1.trans (hb2.mono hB1.size)
  obtain ⟨qa2, la2, _⟩ := VA.out _ hB2
  obtain ⟨qb2, lb2, _⟩ := VB.out _ hB2
  clear hb2 hB1
  go_wp2_with fail
  refine (V6.out w2 hB2).mono ?_
  rintro e w3 ⟨⟨vm, rfl, hrm⟩, hb3⟩
  have hB3 : Below wp.heap.size wp w3 := hB2.trans (hb3.mono hB2.size)
  have hsm : SdsAt w3 w3.heap.size vm (mlo A B) := QRow.at ⟨_, hrm⟩
  obtain ⟨aM, cM, hvm, _⟩ := id hsm
  subst hvm
  obtain ⟨W4, hW4⟩ : ∃ W, W = w3.alloc (.cells #[.slice aM (mlo A B).length cM] 25) := ⟨_, rfl⟩
  have hb34 : Below w3.heap.size w3 W4 := by rw [hW4]; exact (Below.refl _ w3).alloc (Nat.le_refl _) _
  have hB4 : Below wp.heap.size wp W4 := hB3.trans (hb34.mono hB3.size)
  have hV4 : VCt w3.heap.size (.slice aM (mlo A B).length cM) (mlo A B) W4 := by rw [hW4]; exact VCt.new hsm
  have HW4 : Hid (W4 = w3.alloc (.cells #[.slice aM (mlo A B).length cM] 25)) := hW4
  clear hW4 hrm hb3 hB2 qa2 la2 qb2 lb2 hsm hb34 hB3
  clear hV4
  obtain ⟨qa5, la5, _⟩ := VA.out _ hB4
  obtain ⟨qb5, lb5, _⟩ := VB.out _ hB4
  go_upto_region 31 with fail
  rw [← HW4.out]
  go_wp2_with fail
  refine (V3.out W4 hB4).mono ?_
  rintro e w6 ⟨rfl, hb6⟩
  have hB6 : Below wp.heap.size wp w6 := hB4.trans (hb6.mono hB4.size)
  obtain ⟨qb6, lb6, _⟩ := VB.out _ hB6
  clear qa5 la5 qb5 lb5 hb6
  go_wp2_with fail
  refine (V4.out w6 hB6).mono ?_
  rintro e w7 ⟨rfl, hb7⟩
  have hB7 : Below wp.heap.size wp w7 := hB6.trans (hb7.mono hB6.size)
  clear qb6 lb6 hb7 hB6
  go_wp2_with fail
  exact HQ.out _ _ _ _ _ _ _ _ _ _ _ _ _ _ _ _ _ _ _ _ _ _ _ _ _ _ _ _ _ _ _ _ _ _ _ _ _ _ _ _ _ _ _ _ _ _ _ _ _ _ _ _ _ _ _ _ _ _ _ _ _ _ _ _ _ _ _ _ _ _ _ _ _ _ _ _ _ _ _ _ _ _ _ _ _ _ _ _ _ _ _ _ _ _ _ _ _ _ _ _ _ _ _ _ w7 hB7

set_option maxRecDepth 1000000 in
set_option maxHeartbeats 16000000 in
theorem cut_part22_100 (wp wd : World) (PA PB nl cl cA cB : Nat) (aA aB al : Option Addr) (A B : List Sd) (hm : mok A B = true) (gA : gb A = true) (gB : gb B = true)
    (VA : Hid (∀ W, Below wp.heap.size wp W → VCt PA (.slice aA A.length cA) A W)) (VB : Hid (∀ W, Below wp.heap.size wp W → VCt PB (.slice aB B.length cB) B W)) (VL : Hid (∀ W, Below wp.heap.size wp W → BxsAt W W.heap.size (.slice al nl cl) (cto A B))) (hnl : nl ≤ 6) (hbd : Below wp.heap.size wp wd) (Q : Exit → Act → World → Prop)
    (c0 c1 c2 c3 c4 c8 c9 c10 c11 c17 c18 c19 c20 c21 c22 c23 c24 c25 c26 c27 c28 c29 c30 c31 c32 c33 c34 c35 c36 c37 c38 c39 c40 c41 c42 c43 c44 c45 c46 c47 c48 c49 c50 c51 c52 c53 c54 c55 c56 c57 c58 c59 c60 c61 c62 c63 c64 c65 c66 c67 c68 c69 c70 c71 c72 c73 c74 c75 c76 c77 c78 c79 c80 c81 c82 c83 c84 c85 c86 c87 c88 c89 c90 c91 c92 c93 c94 c95 c96 c97 c98 c99 c100 c101 c102 c103 c104 c105 c106 c107 c108 c109 c110 c111 c112 c113 c114 c115 c116 c117 c118 c119 c120 c121 c122 c123 c124 c125 c126 c127 c128 c129 c130 c131 c132 c133 c134 c135 c136 c137 c138 c139 c140 c141 c142 c143 c144 c145 c146 c147 c148 c149 c150 c151 c152 c153 c154 c155 c156 c157 c158 c159 c160 c161 c162 c163 c164 c165 c166 c167 c168 c169 c170 c171 c172 c173 c174 c175 c176 c177 c178 c179 c180 c181 c182 c183 c184 c185 c186 c187 c188 c189 c190 c191 c192 c193 c194 c195 c196 c197 c198 c199 c200 c201 c202 c203 c204 c205 c206 c207 c208 c209 c210 c211 c212 c213 c214 c215 c216 c217 c218 c219 c220 c221 c222 c223 c224 c225 c226 c227 c228 c229 c230 c231 c232 c233 c234 c235 c236 c237 c238 c239 c240 c241 c242 c243 c244 c245 c246 c247 : Value)
    (hQ : ∀ (u21 u22 u23 u24 u25 u26 u27 u28 u29 u30 u31 u32 u33 u34 u111 u112 u113 u114 u115 u116 u117 u118 u119 u120 u121 u122 u123 u124 u125 u126 u127 u128 u129 u130 u131 u132 u133 u134 u135 u136 u137 u138 u139 u140 u141 u142 u143 u144 u145 u146 u147 u148 u149 u150 u151 u152 u153 u154 u155 u156 u157 u158 u159 u160 u161 u162 u163 u164 u165 u166 u167 u168 u169 u170 u171 u172 u173 u174 u175 u176 u177 u178 u179 u180 u181 u182 u183 u184 u185 u186 u187 u188 u189 u190 u191 u192 u193 u194 u195 u196 u197 u198 u199 u200 : Value) (wx : World), Below wp.heap.size wp wx → Q .normal ⟨#[c0, c1, c2, c3, c4, .pointer (some ⟨PA, 0, none⟩), .pointer (some ⟨PB, 0, none⟩), .slice al nl cl, c8, c9, c10, c11, .bool false, .bool true, .bool false, .bool true, .int .i64 0, c17, c18, c19, c20, u21, u22, u23, u24, u25, u26, u27, u28, u29, u30, u31, u32, u33, u34, c35, c36, c37, c38, c39, c40, c41, c42, c43, c44, c45, c46, c47, c48, c49, c50, c51, c52, c53, c54, c55, c56, c57, c58, c59, c60, c61, c62, c63, c64, c65, c66, c67, c68, c69, c70, c71, c72, c73, c74, c75, c76, c77, c78, c79, c80, c81, c82, c83, c84, c85, c86, c87, c88, c89, c90, c91, c92, c93, c94, c95, c96, c97, c98, c99, c100, c101, c102, c103, c104, c105, c106, c107, c108, c109, c110, u111, u112, u113, u114, u115, u116, u117, u118, u119, u120, u121, u122, u123, u124, u125, u126, u127, u128, u129, u130, u131, u132, u133, u134, u135, u136, u137, u138, u139, u140, u141, u142, u143, u144, u145, u146, u147, u148, u149, u150, u151, u152, u153, u154, u155, u156, u157, u158, u159, u160, u161, u162, u163, u164, u165, u166, u167, u168, u169, u170, u171, u172, u173, u174, u175, u176, u177, u178, u179, u180, u181, u182, u183, u184, u185, u186, u187, u188, u189, u190, u191, u192, u193, u194, u195, u196, u197, u198, u199, u200, c201, c202, c203, c204, c205, c206, c207, c208, c209, c210, c211, c212, c213, c214, c215, c216, c217, c218, c219, c220, c221, c222, c223, c224, c225, c226, c227, c228, c229, c230, c231, c232, c233, c234, c235, c236, c237, c238, c239, c240, c241, c242, c243, c244, c245, c246, c247], []⟩ wx) :
    Code.wp Try.prog cut22 Q ⟨#[c0, c1, c2, c3, c4, .pointer (some ⟨PA, 0, none⟩), .pointer (some ⟨PB, 0, none⟩), .slice al nl cl, c8, c9, c10, c11, .bool false, .bool true, .bool false, .bool true, .int .i64 0, c17, c18, c19, c20, c21, c22, c23, c24, c25, c26, c27, c28, c29, c30, c31, c32, c33, c34, c35, c36, c37, c38, c39, c40, c41, c42, c43, c44, c45, c46, c47, c48, c49, c50, c51, c52, c53, c54, c55, c56, c57, c58, c59, c60, c61, c62, c63, c64, c65, c66, c67, c68, c69, c70, c71, c72, c73, c74, c75, c76, c77, c78, c79, c80, c81, c82, c83, c84, c85, c86, c87, c88, c89, c90, c91, c92, c93, c94, c95, c96, c97, c98, c99, c100, c101, c102, c103, c104, c105, c106, c107, c108, c109, c110, c111, c112, c113, c114, c115, c116, c117, c118, c119, c120, c121, c122, c123, c124, c125, c126, c127, c128, c129, c130, c131, c132, c133, c134, c135, c136, c137, c138, c139, c140, c141, c142, c143, c144, c145, c146, c147, c148, c149, c150, c151, c152, c153, c154, c155, c156, c157, c158, c159, c160, c161, c162, c163, c164, c165, c166, c167, c168, c169, c170, c171, c172, c173, c174, c175, c176, c177, c178, c179, c180, c181, c182, c183, c184, c185, c186, c187, c188, c189, c190, c191, c192, c193, c194, c195, c196, c197, c198, c199, c200, c201, c202, c203, c204, c205, c206, c207, c208, c209, c210, c211, c212, c213, c214, c215, c216, c217, c218, c219, c220, c221, c222, c223, c224, c225, c226, c227, c228, c229, c230, c231, c232, c233, c234, c235, c236, c237, c238, c239, c240, c241, c242, c243, c244, c245, c246, c247], []⟩ wd := by
  have HQ : Hid (∀ (u21 u22 u23 u24 u25 u26 u27 u28 u29 u30 u31 u32 u33 u34 u111 u112 u113 u114 u115 u116 u117 u118 u119 u120 u121 u122 u123 u124 u125 u126 u127 u128 u129 u130 u131 u132 u133 u134 u135 u136 u137 u138 u139 u140 u141 u142 u143 u144 u145 u146 u147 u148 u149 u150 u151 u152 u153 u154 u155 u156 u157 u158 u159 u160 u161 u162 u163 u164 u165 u166 u167 u168 u169 u170 u171 u172 u173 u174 u175 u176 u177 u178 u179 u180 u181 u182 u183 u184 u185 u186 u187 u188 u189 u190 u191 u192 u193 u194 u195 u196 u197 u198 u199 u200 : Value) (wx : World), Below wp.heap.size wp wx → Q .normal ⟨#[c0, c1, c2, c3, c4, .pointer (some ⟨PA, 0, none⟩), .pointer (some ⟨PB, 0, none⟩), .slice al nl cl, c8, c9, c10, c11, .bool false, .bool true, .bool false, .bool true, .int .i64 0, c17, c18, c19, c20, u21, u22, u23, u24, u25, u26, u27, u28, u29, u30, u31, u32, u33, u34, c35, c36, c37, c38, c39, c40, c41, c42, c43, c44, c45, c46, c47, c48, c49, c50, c51, c52, c53, c54, c55, c56, c57, c58, c59, c60, c61, c62, c63, c64, c65, c66, c67, c68, c69, c70, c71, c72, c73, c74, c75, c76, c77, c78, c79, c80, c81, c82, c83, c84, c85, c86, c87, c88, c89, c90, c91, c92, c93, c94, c95, c96, c97, c98, c99, c100, c101, c102, c103, c104, c105, c106, c107, c108, c109, c110, u111, u112, u113, u114, u115, u116, u117, u118, u119, u120, u121, u122, u123, u124, u125, u126, u127, u128, u129, u130, u131, u132, u133, u134, u135, u136, u137, u138, u139, u140, u141, u142, u143, u144, u145, u146, u147, u148, u149, u150, u151, u152, u153, u154, u155, u156, u157, u158, u159, u160, u161, u162, u163, u164, u165, u166, u167, u168, u169, u170, u171, u172, u173, u174, u175, u176, u177, u178, u179, u180, u181, u182, u183, u184, u185, u186, u187, u188, u189, u190, u191, u192, u193, u194, u195, u196, u197, u198, u199, u200, c201, c202, c203, c204, c205, c206, c207, c208, c209, c210, c211, c212, c213, c214, c215, c216, c217, c218, c219, c220, c221, c222, c223, c224, c225, c226, c227, c228, c229, c230, c231, c232, c233, c234, c235, c236, c237, c238, c239, c240, c241, c242, c243, c244, c245, c246, c247], []⟩ wx) := hQ
  clear hQ
  have GAv : Hid (gb A = true) := gA
  have GBv : Hid (gb B = true) := gB
  have hsum := (vol_sum gA gB).1 hm
  have htwo := vol_two gA gB
  have b1 := vol_small (gl_one gA)
  have b2 := vol_small (cto_good gA gB)
  have b3 := vol_small (gl_one gB)
  have b4 := vol_small (gl_two gA gB)
  have b5 := vol_small (gl_one (mlo_good hm))
  have GMv : Hid (gb (mlo A B) = true) := mlo_good hm
  have V1 : Hid (∀ W, Below wp.heap.size wp W → Calls Try.prog 26 #[.slice (some ⟨W.heap.size, 0, none⟩) 1 1] (W.alloc (.cells #[.slice aA A.length cA] 25)) fun e w' => e = .returned (.tuple #[.int .i64 (volM [A]), .bool true]) ∧ Below W.heap.size W w') := fun W hW => vol_call1 (VA.out W hW).2.2 gA
  have V4 : Hid (∀ W, Below wp.heap.size wp W → Calls Try.prog 26 #[.slice (some ⟨W.heap.size, 0, none⟩) 1 1] (W.alloc (.cells #[.slice aB B.length cB] 25)) fun e w' => e = .returned (.tuple #[.int .i64 (volM [B]), .bool true]) ∧ Below W.heap.size W w') := fun W hW => vol_call1 (VB.out W hW).2.2 gB
  have V3 : Hid (∀ W, Below wp.heap.size wp W → Calls Try.prog 26 #[.slice (some ⟨W.heap.size, 0, none⟩) 2 2] (W.alloc (.cells #[.slice aA A.length cA, .slice aB B.length cB] 25)) fun e w' => e = .returned (.tuple #[.int .i64 (volM [A, B]), .bool true]) ∧ Below W.heap.size W w') := fun W hW => vol_call2 (VA.out W hW).2.2 (VB.out W hW).2.2 gA gB
  have V2 : Hid (∀ W, Below wp.heap.size wp W → Calls Try.prog 26 #[.slice al nl cl] W fun e w' => e = .returned (.tuple #[.int .i64 (volM (cto A B)), .bool true]) ∧ Below W.heap.size W w') := fun W hW => by
    have := implVol (cto A B) _ W (VL.out W hW)
    rwa [cto_good gA gB] at this
  have V5 : Hid (∀ (W : World) (a : Option Addr) (c : Nat), SdsAt W W.heap.size (.slice a (mlo A B).length c) (mlo A B) → Calls Try.prog 26 #[.slice (some ⟨W.heap.size, 0, none⟩) 1 1] (W.alloc (.cells #[.slice a (mlo A B).length c] 25)) fun e w' => e = .returned (.tuple #[.int .i64 (volM [mlo A B]), .bool true]) ∧ Below W.heap.size W w') := fun W a c h => vol_call1 h GMv.out
  have V6 : Hid (∀ W, Below wp.heap.size wp W → Calls Try.prog 10 #[.agg #[.slice aA A.length cA], .agg #[.slice aB B.length cB]] W fun e w' => (∃ v, e = .returned (.tuple #[.agg #[v], .bool true]) ∧ SRow w' W.heap.size 60 v (mlo A B)) ∧ Below W.heap.size W w') := fun W hW => by
    have := implMeet9 A B _ _ W (VA.out W hW).2.2 (VB.out W hW).2.2
    rwa [hm] at this
  generalize volM [A] = v1 at V1 hsum b1
  generalize volM (cto A B) = v2 at V2 hsum htwo b2
  generalize volM [A, B] = v3 at V3 htwo b4
  generalize volM [B] = v4 at V4 htwo b3
  generalize volM [mlo A B] = v5 at V5 hsum b5
  have d1 : (v2 + v5 != v1) = false := by simp [hsum]
  obtain ⟨b5a, b5b⟩ := b5
  have d2 : (v3 != v2 + v4) = false := by simp [htwo]
  obtain ⟨b1a, b1b⟩ := b1
  obtain ⟨b2a, b2b⟩ := b2
  obtain ⟨b3a, b3b⟩ := b3
  obtain ⟨b4a, b4b⟩ := b4
  clear hsum htwo gA gB hm
  obtain ⟨qa1, la1, _⟩ := VA.out _ hbd
  have dn : decide ((nl : Int) > 6) = false := decide_eq_false (by omega)
  have dn2 : ¬ (6 : Int) < (nl : Int) := by omega
  conv => arg 2; whnf
  go_wp2_with fail
  refine (V1.out wd hbd).mono ?_
  rintro e w1 ⟨rfl, hb1⟩
  have hB1 : Below wp.heap.size wp w1 := hbd.trans (hb1.mono hbd.size)
  clear qa1 la1 hb1
  go_wp2_with fail
  refine (V2.out w1 hB1).mono ?_
  rintro e w2 ⟨rfl, hb2⟩
  have hB2 : Below wp.heap.size wp w2 := hB1.trans (hb2.mono hB1.size)
  obtain ⟨qa2, la2, _⟩ := VA.out _ hB2
  obtain ⟨qb2, lb2, _⟩ := VB.out _ hB2
  clear hb2 hB1
  go_wp2_with fail
  refine (V6.out w2 hB2).mono ?_
  rintro e w3 ⟨⟨vm, rfl, hrm⟩, hb3⟩
  have hB3 : Below wp.heap.size wp w3 := hB2.trans (hb3.mono hB2.size)
  have hsm : SdsAt w3 w3.heap.size vm (mlo A B) := QRow.at ⟨_, hrm⟩
  obtain ⟨aM, cM, hvm, _⟩ := id hsm
  subst hvm
  obtain ⟨W4, hW4⟩ : ∃ W, W = w3.alloc (.cells #[.slice aM (mlo A B).length cM] 25) := ⟨_, rfl⟩
  have hb34 : Below w3.heap.size w3 W4 := by rw [hW4]; exact (Below.refl _ w3).alloc (Nat.le_refl _) _
  have hB4 : Below wp.heap.size wp W4 := hB3.trans (hb34.mono hB3.size)
  have hV4 : VCt w3.heap.size (.slice aM (mlo A B).length cM) (mlo A B) W4 := by rw [hW4]; exact VCt.new hsm
  have HW4 : Hid (W4 = w3.alloc (.cells #[.slice aM (mlo A B).length cM] 25)) := hW4
  clear hW4 hrm hb3 hB2 qa2 la2 qb2 lb2 hsm hb34 hB3
  obtain ⟨qm4, lm4, hs4⟩ := hV4
  go_upto_region 31 with fail
  rw [← HW4.out]
  go_wp2_with fail
  refine (V5.out W4 aM cM hs4).mono ?_
  rintro e w5 ⟨rfl, hb5⟩
  have hB5 : Below wp.heap.size wp w5 := hB4.trans (hb5.mono hB4.size)
  obtain ⟨qa5, la5, _⟩ := VA.out _ hB5
  obtain ⟨qb5, lb5, _⟩ := VB.out _ hB5
  clear qm4 lm4 hs4 hb5 hB4
  go_wp2_with fail
  refine (V3.out w5 hB5).mono ?_
  rintro e w6 ⟨rfl, hb6⟩
  have hB6 : Below wp.heap.size wp w6 := hB5.trans (hb6.mono hB5.size)
  obtain ⟨qb6, lb6, _⟩ := VB.out _ hB6
  clear qa5 la5 qb5 lb5 hb6
  go_wp2_with fail
  refine (V4.out w6 hB6).mono ?_
  rintro e w7 ⟨rfl, hb7⟩
  have hB7 : Below wp.heap.size wp w7 := hB6.trans (hb7.mono hB6.size)
  clear qb6 lb6 hb7 hB6
  go_wp2_with fail
  exact HQ.out _ _ _ _ _ _ _ _ _ _ _ _ _ _ _ _ _ _ _ _ _ _ _ _ _ _ _ _ _ _ _ _ _ _ _ _ _ _ _ _ _ _ _ _ _ _ _ _ _ _ _ _ _ _ _ _ _ _ _ _ _ _ _ _ _ _ _ _ _ _ _ _ _ _ _ _ _ _ _ _ _ _ _ _ _ _ _ _ _ _ _ _ _ _ _ _ _ _ _ _ _ _ _ _ w7 hB7

set_option maxRecDepth 1000000 in
set_option maxHeartbeats 16000000 in
theorem cut_part22_101 (wp wd : World) (PA PB nl cl cA cB : Nat) (aA aB al : Option Addr) (A B : List Sd) (hm : mok A B = true) (gA : gb A = true) (gB : gb B = true)
    (VA : Hid (∀ W, Below wp.heap.size wp W → VCt PA (.slice aA A.length cA) A W)) (VB : Hid (∀ W, Below wp.heap.size wp W → VCt PB (.slice aB B.length cB) B W)) (VL : Hid (∀ W, Below wp.heap.size wp W → BxsAt W W.heap.size (.slice al nl cl) (cto A B))) (hnl : nl ≤ 6) (hbd : Below wp.heap.size wp wd) (Q : Exit → Act → World → Prop)
    (c0 c1 c2 c3 c4 c8 c9 c10 c11 c17 c18 c19 c20 c21 c22 c23 c24 c25 c26 c27 c28 c29 c30 c31 c32 c33 c34 c35 c36 c37 c38 c39 c40 c41 c42 c43 c44 c45 c46 c47 c48 c49 c50 c51 c52 c53 c54 c55 c56 c57 c58 c59 c60 c61 c62 c63 c64 c65 c66 c67 c68 c69 c70 c71 c72 c73 c74 c75 c76 c77 c78 c79 c80 c81 c82 c83 c84 c85 c86 c87 c88 c89 c90 c91 c92 c93 c94 c95 c96 c97 c98 c99 c100 c101 c102 c103 c104 c105 c106 c107 c108 c109 c110 c111 c112 c113 c114 c115 c116 c117 c118 c119 c120 c121 c122 c123 c124 c125 c126 c127 c128 c129 c130 c131 c132 c133 c134 c135 c136 c137 c138 c139 c140 c141 c142 c143 c144 c145 c146 c147 c148 c149 c150 c151 c152 c153 c154 c155 c156 c157 c158 c159 c160 c161 c162 c163 c164 c165 c166 c167 c168 c169 c170 c171 c172 c173 c174 c175 c176 c177 c178 c179 c180 c181 c182 c183 c184 c185 c186 c187 c188 c189 c190 c191 c192 c193 c194 c195 c196 c197 c198 c199 c200 c201 c202 c203 c204 c205 c206 c207 c208 c209 c210 c211 c212 c213 c214 c215 c216 c217 c218 c219 c220 c221 c222 c223 c224 c225 c226 c227 c228 c229 c230 c231 c232 c233 c234 c235 c236 c237 c238 c239 c240 c241 c242 c243 c244 c245 c246 c247 : Value)
    (hQ : ∀ (u21 u22 u23 u24 u25 u26 u27 u28 u29 u30 u31 u32 u33 u34 u111 u112 u113 u114 u115 u116 u117 u118 u119 u120 u121 u122 u123 u124 u125 u126 u127 u128 u129 u130 u131 u132 u133 u134 u135 u136 u137 u138 u139 u140 u141 u142 u143 u144 u145 u146 u147 u148 u149 u150 u151 u152 u153 u154 u155 u156 u157 u158 u159 u160 u161 u162 u163 u164 u165 u166 u167 u168 u169 u170 u171 u172 u173 u174 u175 u176 u177 u178 u179 u180 u181 u182 u183 u184 u185 u186 u187 u188 u189 u190 u191 u192 u193 u194 u195 u196 u197 u198 u199 u200 : Value) (wx : World), Below wp.heap.size wp wx → Q .normal ⟨#[c0, c1, c2, c3, c4, .pointer (some ⟨PA, 0, none⟩), .pointer (some ⟨PB, 0, none⟩), .slice al nl cl, c8, c9, c10, c11, .bool false, .bool true, .bool true, .bool true, .int .i64 0, c17, c18, c19, c20, u21, u22, u23, u24, u25, u26, u27, u28, u29, u30, u31, u32, u33, u34, c35, c36, c37, c38, c39, c40, c41, c42, c43, c44, c45, c46, c47, c48, c49, c50, c51, c52, c53, c54, c55, c56, c57, c58, c59, c60, c61, c62, c63, c64, c65, c66, c67, c68, c69, c70, c71, c72, c73, c74, c75, c76, c77, c78, c79, c80, c81, c82, c83, c84, c85, c86, c87, c88, c89, c90, c91, c92, c93, c94, c95, c96, c97, c98, c99, c100, c101, c102, c103, c104, c105, c106, c107, c108, c109, c110, u111, u112, u113, u114, u115, u116, u117, u118, u119, u120, u121, u122, u123, u124, u125, u126, u127, u128, u129, u130, u131, u132, u133, u134, u135, u136, u137, u138, u139, u140, u141, u142, u143, u144, u145, u146, u147, u148, u149, u150, u151, u152, u153, u154, u155, u156, u157, u158, u159, u160, u161, u162, u163, u164, u165, u166, u167, u168, u169, u170, u171, u172, u173, u174, u175, u176, u177, u178, u179, u180, u181, u182, u183, u184, u185, u186, u187, u188, u189, u190, u191, u192, u193, u194, u195, u196, u197, u198, u199, u200, c201, c202, c203, c204, c205, c206, c207, c208, c209, c210, c211, c212, c213, c214, c215, c216, c217, c218, c219, c220, c221, c222, c223, c224, c225, c226, c227, c228, c229, c230, c231, c232, c233, c234, c235, c236, c237, c238, c239, c240, c241, c242, c243, c244, c245, c246, c247], []⟩ wx) :
    Code.wp Try.prog cut22 Q ⟨#[c0, c1, c2, c3, c4, .pointer (some ⟨PA, 0, none⟩), .pointer (some ⟨PB, 0, none⟩), .slice al nl cl, c8, c9, c10, c11, .bool false, .bool true, .bool true, .bool true, .int .i64 0, c17, c18, c19, c20, c21, c22, c23, c24, c25, c26, c27, c28, c29, c30, c31, c32, c33, c34, c35, c36, c37, c38, c39, c40, c41, c42, c43, c44, c45, c46, c47, c48, c49, c50, c51, c52, c53, c54, c55, c56, c57, c58, c59, c60, c61, c62, c63, c64, c65, c66, c67, c68, c69, c70, c71, c72, c73, c74, c75, c76, c77, c78, c79, c80, c81, c82, c83, c84, c85, c86, c87, c88, c89, c90, c91, c92, c93, c94, c95, c96, c97, c98, c99, c100, c101, c102, c103, c104, c105, c106, c107, c108, c109, c110, c111, c112, c113, c114, c115, c116, c117, c118, c119, c120, c121, c122, c123, c124, c125, c126, c127, c128, c129, c130, c131, c132, c133, c134, c135, c136, c137, c138, c139, c140, c141, c142, c143, c144, c145, c146, c147, c148, c149, c150, c151, c152, c153, c154, c155, c156, c157, c158, c159, c160, c161, c162, c163, c164, c165, c166, c167, c168, c169, c170, c171, c172, c173, c174, c175, c176, c177, c178, c179, c180, c181, c182, c183, c184, c185, c186, c187, c188, c189, c190, c191, c192, c193, c194, c195, c196, c197, c198, c199, c200, c201, c202, c203, c204, c205, c206, c207, c208, c209, c210, c211, c212, c213, c214, c215, c216, c217, c218, c219, c220, c221, c222, c223, c224, c225, c226, c227, c228, c229, c230, c231, c232, c233, c234, c235, c236, c237, c238, c239, c240, c241, c242, c243, c244, c245, c246, c247], []⟩ wd := by
  have HQ : Hid (∀ (u21 u22 u23 u24 u25 u26 u27 u28 u29 u30 u31 u32 u33 u34 u111 u112 u113 u114 u115 u116 u117 u118 u119 u120 u121 u122 u123 u124 u125 u126 u127 u128 u129 u130 u131 u132 u133 u134 u135 u136 u137 u138 u139 u140 u141 u142 u143 u144 u145 u146 u147 u148 u149 u150 u151 u152 u153 u154 u155 u156 u157 u158 u159 u160 u161 u162 u163 u164 u165 u166 u167 u168 u169 u170 u171 u172 u173 u174 u175 u176 u177 u178 u179 u180 u181 u182 u183 u184 u185 u186 u187 u188 u189 u190 u191 u192 u193 u194 u195 u196 u197 u198 u199 u200 : Value) (wx : World), Below wp.heap.size wp wx → Q .normal ⟨#[c0, c1, c2, c3, c4, .pointer (some ⟨PA, 0, none⟩), .pointer (some ⟨PB, 0, none⟩), .slice al nl cl, c8, c9, c10, c11, .bool false, .bool true, .bool true, .bool true, .int .i64 0, c17, c18, c19, c20, u21, u22, u23, u24, u25, u26, u27, u28, u29, u30, u31, u32, u33, u34, c35, c36, c37, c38, c39, c40, c41, c42, c43, c44, c45, c46, c47, c48, c49, c50, c51, c52, c53, c54, c55, c56, c57, c58, c59, c60, c61, c62, c63, c64, c65, c66, c67, c68, c69, c70, c71, c72, c73, c74, c75, c76, c77, c78, c79, c80, c81, c82, c83, c84, c85, c86, c87, c88, c89, c90, c91, c92, c93, c94, c95, c96, c97, c98, c99, c100, c101, c102, c103, c104, c105, c106, c107, c108, c109, c110, u111, u112, u113, u114, u115, u116, u117, u118, u119, u120, u121, u122, u123, u124, u125, u126, u127, u128, u129, u130, u131, u132, u133, u134, u135, u136, u137, u138, u139, u140, u141, u142, u143, u144, u145, u146, u147, u148, u149, u150, u151, u152, u153, u154, u155, u156, u157, u158, u159, u160, u161, u162, u163, u164, u165, u166, u167, u168, u169, u170, u171, u172, u173, u174, u175, u176, u177, u178, u179, u180, u181, u182, u183, u184, u185, u186, u187, u188, u189, u190, u191, u192, u193, u194, u195, u196, u197, u198, u199, u200, c201, c202, c203, c204, c205, c206, c207, c208, c209, c210, c211, c212, c213, c214, c215, c216, c217, c218, c219, c220, c221, c222, c223, c224, c225, c226, c227, c228, c229, c230, c231, c232, c233, c234, c235, c236, c237, c238, c239, c240, c241, c242, c243, c244, c245, c246, c247], []⟩ wx) := hQ
  clear hQ
  have GAv : Hid (gb A = true) := gA
  have GBv : Hid (gb B = true) := gB
  have hsum := (vol_sum gA gB).1 hm
  have htwo := vol_two gA gB
  have b1 := vol_small (gl_one gA)
  have b2 := vol_small (cto_good gA gB)
  have b3 := vol_small (gl_one gB)
  have b4 := vol_small (gl_two gA gB)
  have b5 := vol_small (gl_one (mlo_good hm))
  have GMv : Hid (gb (mlo A B) = true) := mlo_good hm
  have V1 : Hid (∀ W, Below wp.heap.size wp W → Calls Try.prog 26 #[.slice (some ⟨W.heap.size, 0, none⟩) 1 1] (W.alloc (.cells #[.slice aA A.length cA] 25)) fun e w' => e = .returned (.tuple #[.int .i64 (volM [A]), .bool true]) ∧ Below W.heap.size W w') := fun W hW => vol_call1 (VA.out W hW).2.2 gA
  have V4 : Hid (∀ W, Below wp.heap.size wp W → Calls Try.prog 26 #[.slice (some ⟨W.heap.size, 0, none⟩) 1 1] (W.alloc (.cells #[.slice aB B.length cB] 25)) fun e w' => e = .returned (.tuple #[.int .i64 (volM [B]), .bool true]) ∧ Below W.heap.size W w') := fun W hW => vol_call1 (VB.out W hW).2.2 gB
  have V3 : Hid (∀ W, Below wp.heap.size wp W → Calls Try.prog 26 #[.slice (some ⟨W.heap.size, 0, none⟩) 2 2] (W.alloc (.cells #[.slice aA A.length cA, .slice aB B.length cB] 25)) fun e w' => e = .returned (.tuple #[.int .i64 (volM [A, B]), .bool true]) ∧ Below W.heap.size W w') := fun W hW => vol_call2 (VA.out W hW).2.2 (VB.out W hW).2.2 gA gB
  have V2 : Hid (∀ W, Below wp.heap.size wp W → Calls Try.prog 26 #[.slice al nl cl] W fun e w' => e = .returned (.tuple #[.int .i64 (volM (cto A B)), .bool true]) ∧ Below W.heap.size W w') := fun W hW => by
    have := implVol (cto A B) _ W (VL.out W hW)
    rwa [cto_good gA gB] at this
  have V5 : Hid (∀ (W : World) (a : Option Addr) (c : Nat), SdsAt W W.heap.size (.slice a (mlo A B).length c) (mlo A B) → Calls Try.prog 26 #[.slice (some ⟨W.heap.size, 0, none⟩) 1 1] (W.alloc (.cells #[.slice a (mlo A B).length c] 25)) fun e w' => e = .returned (.tuple #[.int .i64 (volM [mlo A B]), .bool true]) ∧ Below W.heap.size W w') := fun W a c h => vol_call1 h GMv.out
  have V6 : Hid (∀ W, Below wp.heap.size wp W → Calls Try.prog 10 #[.agg #[.slice aA A.length cA], .agg #[.slice aB B.length cB]] W fun e w' => (∃ v, e = .returned (.tuple #[.agg #[v], .bool true]) ∧ SRow w' W.heap.size 60 v (mlo A B)) ∧ Below W.heap.size W w') := fun W hW => by
    have := implMeet9 A B _ _ W (VA.out W hW).2.2 (VB.out W hW).2.2
    rwa [hm] at this
  generalize volM [A] = v1 at V1 hsum b1
  generalize volM (cto A B) = v2 at V2 hsum htwo b2
  generalize volM [A, B] = v3 at V3 htwo b4
  generalize volM [B] = v4 at V4 htwo b3
  generalize volM [mlo A B] = v5 at V5 hsum b5
  have d1 : (v2 + v5 != v1) = false := by simp [hsum]
  obtain ⟨b5a, b5b⟩ := b5
  have d2 : (v3 != v2 + v4) = false := by simp [htwo]
  obtain ⟨b1a, b1b⟩ := b1
  obtain ⟨b2a, b2b⟩ := b2
  obtain ⟨b3a, b3b⟩ := b3
  obtain ⟨b4a, b4b⟩ := b4
  clear hsum htwo gA gB hm
  obtain ⟨qa1, la1, _⟩ := VA.out _ hbd
  have dn : decide ((nl : Int) > 6) = false := decide_eq_false (by omega)
  have dn2 : ¬ (6 : Int) < (nl : Int) := by omega
  conv => arg 2; whnf
  go_wp2_with fail
  refine (V1.out wd hbd).mono ?_
  rintro e w1 ⟨rfl, hb1⟩
  have hB1 : Below wp.heap.size wp w1 := hbd.trans (hb1.mono hbd.size)
  clear qa1 la1 hb1
  go_wp2_with fail
  refine (V2.out w1 hB1).mono ?_
  rintro e w2 ⟨rfl, hb2⟩
  have hB2 : Below wp.heap.size wp w2 := hB1.trans (hb2.mono hB1.size)
  obtain ⟨qa2, la2, _⟩ := VA.out _ hB2
  obtain ⟨qb2, lb2, _⟩ := VB.out _ hB2
  clear hb2 hB1
  go_wp2_with fail
  refine (V6.out w2 hB2).mono ?_
  rintro e w3 ⟨⟨vm, rfl, hrm⟩, hb3⟩
  have hB3 : Below wp.heap.size wp w3 := hB2.trans (hb3.mono hB2.size)
  have hsm : SdsAt w3 w3.heap.size vm (mlo A B) := QRow.at ⟨_, hrm⟩
  obtain ⟨aM, cM, hvm, _⟩ := id hsm
  subst hvm
  obtain ⟨W4, hW4⟩ : ∃ W, W = w3.alloc (.cells #[.slice aM (mlo A B).length cM] 25) := ⟨_, rfl⟩
  have hb34 : Below w3.heap.size w3 W4 := by rw [hW4]; exact (Below.refl _ w3).alloc (Nat.le_refl _) _
  have hB4 : Below wp.heap.size wp W4 := hB3.trans (hb34.mono hB3.size)
  have hV4 : VCt w3.heap.size (.slice aM (mlo A B).length cM) (mlo A B) W4 := by rw [hW4]; exact VCt.new hsm
  have HW4 : Hid (W4 = w3.alloc (.cells #[.slice aM (mlo A B).length cM] 25)) := hW4
  clear hW4 hrm hb3 hB2 qa2 la2 qb2 lb2 hsm hb34 hB3
  obtain ⟨qm4, lm4, hs4⟩ := hV4
  go_upto_region 31 with fail
  rw [← HW4.out]
  go_wp2_with fail
  refine (V5.out W4 aM cM hs4).mono ?_
  rintro e w5 ⟨rfl, hb5⟩
  have hB5 : Below wp.heap.size wp w5 := hB4.trans (hb5.mono hB4.size)
  obtain ⟨qa5, la5, _⟩ := VA.out _ hB5
  obtain ⟨qb5, lb5, _⟩ := VB.out _ hB5
  clear qm4 lm4 hs4 hb5 hB4
  go_wp2_with fail
  refine (V3.out w5 hB5).mono ?_
  rintro e w6 ⟨rfl, hb6⟩
  have hB6 : Below wp.heap.size wp w6 := hB5.trans (hb6.mono hB5.size)
  obtain ⟨qb6, lb6, _⟩ := VB.out _ hB6
  clear qa5 la5 qb5 lb5 hb6
  go_wp2_with fail
  refine (V4.out w6 hB6).mono ?_
  rintro e w7 ⟨rfl, hb7⟩
  have hB7 : Below wp.heap.size wp w7 := hB6.trans (hb7.mono hB6.size)
  clear qb6 lb6 hb7 hB6
  go_wp2_with fail
  exact HQ.out _ _ _ _ _ _ _ _ _ _ _ _ _ _ _ _ _ _ _ _ _ _ _ _ _ _ _ _ _ _ _ _ _ _ _ _ _ _ _ _ _ _ _ _ _ _ _ _ _ _ _ _ _ _ _ _ _ _ _ _ _ _ _ _ _ _ _ _ _ _ _ _ _ _ _ _ _ _ _ _ _ _ _ _ _ _ _ _ _ _ _ _ _ _ _ _ _ _ _ _ _ _ _ _ w7 hB7

set_option maxRecDepth 1000000 in
set_option maxHeartbeats 16000000 in
theorem cut_part22_110 (wp wd : World) (PA PB nl cl cA cB : Nat) (aA aB al : Option Addr) (A B : List Sd) (hm : mok A B = true) (gA : gb A = true) (gB : gb B = true)
    (VA : Hid (∀ W, Below wp.heap.size wp W → VCt PA (.slice aA A.length cA) A W)) (VB : Hid (∀ W, Below wp.heap.size wp W → VCt PB (.slice aB B.length cB) B W)) (VL : Hid (∀ W, Below wp.heap.size wp W → BxsAt W W.heap.size (.slice al nl cl) (cto A B))) (hnl : nl ≤ 6) (hbd : Below wp.heap.size wp wd) (Q : Exit → Act → World → Prop)
    (c0 c1 c2 c3 c4 c8 c9 c10 c11 c17 c18 c19 c20 c21 c22 c23 c24 c25 c26 c27 c28 c29 c30 c31 c32 c33 c34 c35 c36 c37 c38 c39 c40 c41 c42 c43 c44 c45 c46 c47 c48 c49 c50 c51 c52 c53 c54 c55 c56 c57 c58 c59 c60 c61 c62 c63 c64 c65 c66 c67 c68 c69 c70 c71 c72 c73 c74 c75 c76 c77 c78 c79 c80 c81 c82 c83 c84 c85 c86 c87 c88 c89 c90 c91 c92 c93 c94 c95 c96 c97 c98 c99 c100 c101 c102 c103 c104 c105 c106 c107 c108 c109 c110 c111 c112 c113 c114 c115 c116 c117 c118 c119 c120 c121 c122 c123 c124 c125 c126 c127 c128 c129 c130 c131 c132 c133 c134 c135 c136 c137 c138 c139 c140 c141 c142 c143 c144 c145 c146 c147 c148 c149 c150 c151 c152 c153 c154 c155 c156 c157 c158 c159 c160 c161 c162 c163 c164 c165 c166 c167 c168 c169 c170 c171 c172 c173 c174 c175 c176 c177 c178 c179 c180 c181 c182 c183 c184 c185 c186 c187 c188 c189 c190 c191 c192 c193 c194 c195 c196 c197 c198 c199 c200 c201 c202 c203 c204 c205 c206 c207 c208 c209 c210 c211 c212 c213 c214 c215 c216 c217 c218 c219 c220 c221 c222 c223 c224 c225 c226 c227 c228 c229 c230 c231 c232 c233 c234 c235 c236 c237 c238 c239 c240 c241 c242 c243 c244 c245 c246 c247 : Value)
    (hQ : ∀ (u21 u22 u23 u24 u25 u26 u27 u28 u29 u30 u31 u32 u33 u34 u111 u112 u113 u114 u115 u116 u117 u118 u119 u120 u121 u122 u123 u124 u125 u126 u127 u128 u129 u130 u131 u132 u133 u134 u135 u136 u137 u138 u139 u140 u141 u142 u143 u144 u145 u146 u147 u148 u149 u150 u151 u152 u153 u154 u155 u156 u157 u158 u159 u160 u161 u162 u163 u164 u165 u166 u167 u168 u169 u170 u171 u172 u173 u174 u175 u176 u177 u178 u179 u180 u181 u182 u183 u184 u185 u186 u187 u188 u189 u190 u191 u192 u193 u194 u195 u196 u197 u198 u199 u200 : Value) (wx : World), Below wp.heap.size wp wx → Q .normal ⟨#[c0, c1, c2, c3, c4, .pointer (some ⟨PA, 0, none⟩), .pointer (some ⟨PB, 0, none⟩), .slice al nl cl, c8, c9, c10, c11, .bool true, .bool true, .bool false, .bool true, .int .i64 1, c17, c18, c19, c20, u21, u22, u23, u24, u25, u26, u27, u28, u29, u30, u31, u32, u33, u34, c35, c36, c37, c38, c39, c40, c41, c42, c43, c44, c45, c46, c47, c48, c49, c50, c51, c52, c53, c54, c55, c56, c57, c58, c59, c60, c61, c62, c63, c64, c65, c66, c67, c68, c69, c70, c71, c72, c73, c74, c75, c76, c77, c78, c79, c80, c81, c82, c83, c84, c85, c86, c87, c88, c89, c90, c91, c92, c93, c94, c95, c96, c97, c98, c99, c100, c101, c102, c103, c104, c105, c106, c107, c108, c109, c110, u111, u112, u113, u114, u115, u116, u117, u118, u119, u120, u121, u122, u123, u124, u125, u126, u127, u128, u129, u130, u131, u132, u133, u134, u135, u136, u137, u138, u139, u140, u141, u142, u143, u144, u145, u146, u147, u148, u149, u150, u151, u152, u153, u154, u155, u156, u157, u158, u159, u160, u161, u162, u163, u164, u165, u166, u167, u168, u169, u170, u171, u172, u173, u174, u175, u176, u177, u178, u179, u180, u181, u182, u183, u184, u185, u186, u187, u188, u189, u190, u191, u192, u193, u194, u195, u196, u197, u198, u199, u200, c201, c202, c203, c204, c205, c206, c207, c208, c209, c210, c211, c212, c213, c214, c215, c216, c217, c218, c219, c220, c221, c222, c223, c224, c225, c226, c227, c228, c229, c230, c231, c232, c233, c234, c235, c236, c237, c238, c239, c240, c241, c242, c243, c244, c245, c246, c247], []⟩ wx) :
    Code.wp Try.prog cut22 Q ⟨#[c0, c1, c2, c3, c4, .pointer (some ⟨PA, 0, none⟩), .pointer (some ⟨PB, 0, none⟩), .slice al nl cl, c8, c9, c10, c11, .bool true, .bool true, .bool false, .bool true, .int .i64 1, c17, c18, c19, c20, c21, c22, c23, c24, c25, c26, c27, c28, c29, c30, c31, c32, c33, c34, c35, c36, c37, c38, c39, c40, c41, c42, c43, c44, c45, c46, c47, c48, c49, c50, c51, c52, c53, c54, c55, c56, c57, c58, c59, c60, c61, c62, c63, c64, c65, c66, c67, c68, c69, c70, c71, c72, c73, c74, c75, c76, c77, c78, c79, c80, c81, c82, c83, c84, c85, c86, c87, c88, c89, c90, c91, c92, c93, c94, c95, c96, c97, c98, c99, c100, c101, c102, c103, c104, c105, c106, c107, c108, c109, c110, c111, c112, c113, c114, c115, c116, c117, c118, c119, c120, c121, c122, c123, c124, c125, c126, c127, c128, c129, c130, c131, c132, c133, c134, c135, c136, c137, c138, c139, c140, c141, c142, c143, c144, c145, c146, c147, c148, c149, c150, c151, c152, c153, c154, c155, c156, c157, c158, c159, c160, c161, c162, c163, c164, c165, c166, c167, c168, c169, c170, c171, c172, c173, c174, c175, c176, c177, c178, c179, c180, c181, c182, c183, c184, c185, c186, c187, c188, c189, c190, c191, c192, c193, c194, c195, c196, c197, c198, c199, c200, c201, c202, c203, c204, c205, c206, c207, c208, c209, c210, c211, c212, c213, c214, c215, c216, c217, c218, c219, c220, c221, c222, c223, c224, c225, c226, c227, c228, c229, c230, c231, c232, c233, c234, c235, c236, c237, c238, c239, c240, c241, c242, c243, c244, c245, c246, c247], []⟩ wd := by
  have HQ : Hid (∀ (u21 u22 u23 u24 u25 u26 u27 u28 u29 u30 u31 u32 u33 u34 u111 u112 u113 u114 u115 u116 u117 u118 u119 u120 u121 u122 u123 u124 u125 u126 u127 u128 u129 u130 u131 u132 u133 u134 u135 u136 u137 u138 u139 u140 u141 u142 u143 u144 u145 u146 u147 u148 u149 u150 u151 u152 u153 u154 u155 u156 u157 u158 u159 u160 u161 u162 u163 u164 u165 u166 u167 u168 u169 u170 u171 u172 u173 u174 u175 u176 u177 u178 u179 u180 u181 u182 u183 u184 u185 u186 u187 u188 u189 u190 u191 u192 u193 u194 u195 u196 u197 u198 u199 u200 : Value) (wx : World), Below wp.heap.size wp wx → Q .normal ⟨#[c0, c1, c2, c3, c4, .pointer (some ⟨PA, 0, none⟩), .pointer (some ⟨PB, 0, none⟩), .slice al nl cl, c8, c9, c10, c11, .bool true, .bool true, .bool false, .bool true, .int .i64 1, c17, c18, c19, c20, u21, u22, u23, u24, u25, u26, u27, u28, u29, u30, u31, u32, u33, u34, c35, c36, c37, c38, c39, c40, c41, c42, c43, c44, c45, c46, c47, c48, c49, c50, c51, c52, c53, c54, c55, c56, c57, c58, c59, c60, c61, c62, c63, c64, c65, c66, c67, c68, c69, c70, c71, c72, c73, c74, c75, c76, c77, c78, c79, c80, c81, c82, c83, c84, c85, c86, c87, c88, c89, c90, c91, c92, c93, c94, c95, c96, c97, c98, c99, c100, c101, c102, c103, c104, c105, c106, c107, c108, c109, c110, u111, u112, u113, u114, u115, u116, u117, u118, u119, u120, u121, u122, u123, u124, u125, u126, u127, u128, u129, u130, u131, u132, u133, u134, u135, u136, u137, u138, u139, u140, u141, u142, u143, u144, u145, u146, u147, u148, u149, u150, u151, u152, u153, u154, u155, u156, u157, u158, u159, u160, u161, u162, u163, u164, u165, u166, u167, u168, u169, u170, u171, u172, u173, u174, u175, u176, u177, u178, u179, u180, u181, u182, u183, u184, u185, u186, u187, u188, u189, u190, u191, u192, u193, u194, u195, u196, u197, u198, u199, u200, c201, c202, c203, c204, c205, c206, c207, c208, c209, c210, c211, c212, c213, c214, c215, c216, c217, c218, c219, c220, c221, c222, c223, c224, c225, c226, c227, c228, c229, c230, c231, c232, c233, c234, c235, c236, c237, c238, c239, c240, c241, c242, c243, c244, c245, c246, c247], []⟩ wx) := hQ
  clear hQ
  have GAv : Hid (gb A = true) := gA
  have GBv : Hid (gb B = true) := gB
  have hsum := (vol_sum gA gB).1 hm
  have htwo := vol_two gA gB
  have b1 := vol_small (gl_one gA)
  have b2 := vol_small (cto_good gA gB)
  have b3 := vol_small (gl_one gB)
  have b4 := vol_small (gl_two gA gB)
  have b5 := vol_small (gl_one (mlo_good hm))
  have GMv : Hid (gb (mlo A B) = true) := mlo_good hm
  have V1 : Hid (∀ W, Below wp.heap.size wp W → Calls Try.prog 26 #[.slice (some ⟨W.heap.size, 0, none⟩) 1 1] (W.alloc (.cells #[.slice aA A.length cA] 25)) fun e w' => e = .returned (.tuple #[.int .i64 (volM [A]), .bool true]) ∧ Below W.heap.size W w') := fun W hW => vol_call1 (VA.out W hW).2.2 gA
  have V4 : Hid (∀ W, Below wp.heap.size wp W → Calls Try.prog 26 #[.slice (some ⟨W.heap.size, 0, none⟩) 1 1] (W.alloc (.cells #[.slice aB B.length cB] 25)) fun e w' => e = .returned (.tuple #[.int .i64 (volM [B]), .bool true]) ∧ Below W.heap.size W w') := fun W hW => vol_call1 (VB.out W hW).2.2 gB
  have V3 : Hid (∀ W, Below wp.heap.size wp W → Calls Try.prog 26 #[.slice (some ⟨W.heap.size, 0, none⟩) 2 2] (W.alloc (.cells #[.slice aA A.length cA, .slice aB B.length cB] 25)) fun e w' => e = .returned (.tuple #[.int .i64 (volM [A, B]), .bool true]) ∧ Below W.heap.size W w') := fun W hW => vol_call2 (VA.out W hW).2.2 (VB.out W hW).2.2 gA gB
  have V2 : Hid (∀ W, Below wp.heap.size wp W → Calls Try.prog 26 #[.slice al nl cl] W fun e w' => e = .returned (.tuple #[.int .i64 (volM (cto A B)), .bool true]) ∧ Below W.heap.size W w') := fun W hW => by
    have := implVol (cto A B) _ W (VL.out W hW)
    rwa [cto_good gA gB] at this
  have V5 : Hid (∀ (W : World) (a : Option Addr) (c : Nat), SdsAt W W.heap.size (.slice a (mlo A B).length c) (mlo A B) → Calls Try.prog 26 #[.slice (some ⟨W.heap.size, 0, none⟩) 1 1] (W.alloc (.cells #[.slice a (mlo A B).length c] 25)) fun e w' => e = .returned (.tuple #[.int .i64 (volM [mlo A B]), .bool true]) ∧ Below W.heap.size W w') := fun W a c h => vol_call1 h GMv.out
  have V6 : Hid (∀ W, Below wp.heap.size wp W → Calls Try.prog 10 #[.agg #[.slice aA A.length cA], .agg #[.slice aB B.length cB]] W fun e w' => (∃ v, e = .returned (.tuple #[.agg #[v], .bool true]) ∧ SRow w' W.heap.size 60 v (mlo A B)) ∧ Below W.heap.size W w') := fun W hW => by
    have := implMeet9 A B _ _ W (VA.out W hW).2.2 (VB.out W hW).2.2
    rwa [hm] at this
  generalize volM [A] = v1 at V1 hsum b1
  generalize volM (cto A B) = v2 at V2 hsum htwo b2
  generalize volM [A, B] = v3 at V3 htwo b4
  generalize volM [B] = v4 at V4 htwo b3
  generalize volM [mlo A B] = v5 at V5 hsum b5
  have d1 : (v2 + v5 != v1) = false := by simp [hsum]
  obtain ⟨b5a, b5b⟩ := b5
  have d2 : (v3 != v2 + v4) = false := by simp [htwo]
  obtain ⟨b1a, b1b⟩ := b1
  obtain ⟨b2a, b2b⟩ := b2
  obtain ⟨b3a, b3b⟩ := b3
  obtain ⟨b4a, b4b⟩ := b4
  clear hsum htwo gA gB hm
  obtain ⟨qa1, la1, _⟩ := VA.out _ hbd
  have dn : decide ((nl : Int) > 6) = false := decide_eq_false (by omega)
  have dn2 : ¬ (6 : Int) < (nl : Int) := by omega
  conv => arg 2; whnf
  go_wp2_with fail
  refine (V1.out wd hbd).mono ?_
  rintro e w1 ⟨rfl, hb1⟩
  have hB1 : Below wp.heap.size wp w1 := hbd.trans (hb1.mono hbd.size)
  clear qa1 la1 hb1
  go_wp2_with fail
  refine (V2.out w1 hB1).mono ?_
  rintro e w2 ⟨rfl, hb2⟩
  have hB2 : Below wp.heap.size wp w2 := hB1.trans (hb2.mono hB1.size)
  obtain ⟨qa2, la2, _⟩ := VA.out _ hB2
  obtain ⟨qb2, lb2, _⟩ := VB.out _ hB2
  clear hb2 hB1
  go_wp2_with fail
  refine (V6.out w2 hB2).mono ?_
  rintro e w3 ⟨⟨vm, rfl, hrm⟩, hb3⟩
  have hB3 : Below wp.heap.size wp w3 := hB2.trans (hb3.mono hB2.size)
  have hsm : SdsAt w3 w3.heap.size vm (mlo A B) := QRow.at ⟨_, hrm⟩
  obtain ⟨aM, cM, hvm, _⟩ := id hsm
  subst hvm
  obtain ⟨W4, hW4⟩ : ∃ W, W = w3.alloc (.cells #[.slice aM (mlo A B).length cM] 25) := ⟨_, rfl⟩
  have hb34 : Below w3.heap.size w3 W4 := by rw [hW4]; exact (Below.refl _ w3).alloc (Nat.le_refl _) _
  have hB4 : Below wp.heap.size wp W4 := hB3.trans (hb34.mono hB3.size)
  have hV4 : VCt w3.heap.size (.slice aM (mlo A B).length cM) (mlo A B) W4 := by rw [hW4]; exact VCt.new hsm
  have HW4 : Hid (W4 = w3.alloc (.cells #[.slice aM (mlo A B).length cM] 25)) := hW4
  clear hW4 hrm hb3 hB2 qa2 la2 qb2 lb2 hsm hb34 hB3
  obtain ⟨qm4, lm4, hs4⟩ := hV4
  go_upto_region 31 with fail
  rw [← HW4.out]
  go_wp2_with fail
  refine (V5.out W4 aM cM hs4).mono ?_
  rintro e w5 ⟨rfl, hb5⟩
  have hB5 : Below wp.heap.size wp w5 := hB4.trans (hb5.mono hB4.size)
  obtain ⟨qa5, la5, _⟩ := VA.out _ hB5
  obtain ⟨qb5, lb5, _⟩ := VB.out _ hB5
  clear qm4 lm4 hs4 hb5 hB4
  go_wp2_with fail
  refine (V3.out w5 hB5).mono ?_
  rintro e w6 ⟨rfl, hb6⟩
  have hB6 : Below wp.heap.size wp w6 := hB5.trans (hb6.mono hB5.size)
  obtain ⟨qb6, lb6, _⟩ := VB.out _ hB6
  clear qa5 la5 qb5 lb5 hb6
  go_wp2_with fail
  refine (V4.out w6 hB6).mono ?_
  rintro e w7 ⟨rfl, hb7⟩
  have hB7 : Below wp.heap.size wp w7 := hB6.trans (hb7.mono hB6.size)
  clear qb6 lb6 hb7 hB6
  go_wp2_with fail
  exact HQ.out _ _ _ _ _ _ _ _ _ _ _ _ _ _ _ _ _ _ _ _ _ _ _ _ _ _ _ _ _ _ _ _ _ _ _ _ _ _ _ _ _ _ _ _ _ _ _ _ _ _ _ _ _ _ _ _ _ _ _ _ _ _ _ _ _ _ _ _ _ _ _ _ _ _ _ _ _ _ _ _ _ _ _ _ _ _ _ _ _ _ _ _ _ _ _ _ _ _ _ _ _ _ _ _ w7 hB7

set_option maxRecDepth 1000000 in
set_option maxHeartbeats 16000000 in
theorem cut_part22_111 (wp wd : World) (PA PB nl cl cA cB : Nat) (aA aB al : Option Addr) (A B : List Sd) (hm : mok A B = true) (gA : gb A = true) (gB : gb B = true)
    (VA : Hid (∀ W, Below wp.heap.size wp W → VCt PA (.slice aA A.length cA) A W)) (VB : Hid (∀ W, Below wp.heap.size wp W → VCt PB (.slice aB B.length cB) B W)) (VL : Hid (∀ W, Below wp.heap.size wp W → BxsAt W W.heap.size (.slice al nl cl) (cto A B))) (hnl : nl ≤ 6) (hbd : Below wp.heap.size wp wd) (Q : Exit → Act → World → Prop)
    (c0 c1 c2 c3 c4 c8 c9 c10 c11 c17 c18 c19 c20 c21 c22 c23 c24 c25 c26 c27 c28 c29 c30 c31 c32 c33 c34 c35 c36 c37 c38 c39 c40 c41 c42 c43 c44 c45 c46 c47 c48 c49 c50 c51 c52 c53 c54 c55 c56 c57 c58 c59 c60 c61 c62 c63 c64 c65 c66 c67 c68 c69 c70 c71 c72 c73 c74 c75 c76 c77 c78 c79 c80 c81 c82 c83 c84 c85 c86 c87 c88 c89 c90 c91 c92 c93 c94 c95 c96 c97 c98 c99 c100 c101 c102 c103 c104 c105 c106 c107 c108 c109 c110 c111 c112 c113 c114 c115 c116 c117 c118 c119 c120 c121 c122 c123 c124 c125 c126 c127 c128 c129 c130 c131 c132 c133 c134 c135 c136 c137 c138 c139 c140 c141 c142 c143 c144 c145 c146 c147 c148 c149 c150 c151 c152 c153 c154 c155 c156 c157 c158 c159 c160 c161 c162 c163 c164 c165 c166 c167 c168 c169 c170 c171 c172 c173 c174 c175 c176 c177 c178 c179 c180 c181 c182 c183 c184 c185 c186 c187 c188 c189 c190 c191 c192 c193 c194 c195 c196 c197 c198 c199 c200 c201 c202 c203 c204 c205 c206 c207 c208 c209 c210 c211 c212 c213 c214 c215 c216 c217 c218 c219 c220 c221 c222 c223 c224 c225 c226 c227 c228 c229 c230 c231 c232 c233 c234 c235 c236 c237 c238 c239 c240 c241 c242 c243 c244 c245 c246 c247 : Value)
    (hQ : ∀ (u21 u22 u23 u24 u25 u26 u27 u28 u29 u30 u31 u32 u33 u34 u111 u112 u113 u114 u115 u116 u117 u118 u119 u120 u121 u122 u123 u124 u125 u126 u127 u128 u129 u130 u131 u132 u133 u134 u135 u136 u137 u138 u139 u140 u141 u142 u143 u144 u145 u146 u147 u148 u149 u150 u151 u152 u153 u154 u155 u156 u157 u158 u159 u160 u161 u162 u163 u164 u165 u166 u167 u168 u169 u170 u171 u172 u173 u174 u175 u176 u177 u178 u179 u180 u181 u182 u183 u184 u185 u186 u187 u188 u189 u190 u191 u192 u193 u194 u195 u196 u197 u198 u199 u200 : Value) (wx : World), Below wp.heap.size wp wx → Q .normal ⟨#[c0, c1, c2, c3, c4, .pointer (some ⟨PA, 0, none⟩), .pointer (some ⟨PB, 0, none⟩), .slice al nl cl, c8, c9, c10, c11, .bool true, .bool true, .bool true, .bool true, .int .i64 0, c17, c18, c19, c20, u21, u22, u23, u24, u25, u26, u27, u28, u29, u30, u31, u32, u33, u34, c35, c36, c37, c38, c39, c40, c41, c42, c43, c44, c45, c46, c47, c48, c49, c50, c51, c52, c53, c54, c55, c56, c57, c58, c59, c60, c61, c62, c63, c64, c65, c66, c67, c68, c69, c70, c71, c72, c73, c74, c75, c76, c77, c78, c79, c80, c81, c82, c83, c84, c85, c86, c87, c88, c89, c90, c91, c92, c93, c94, c95, c96, c97, c98, c99, c100, c101, c102, c103, c104, c105, c106, c107, c108, c109, c110, u111, u112, u113, u114, u115, u116, u117, u118, u119, u120, u121, u122, u123, u124, u125, u126, u127, u128, u129, u130, u131, u132, u133, u134, u135, u136, u137, u138, u139, u140, u141, u142, u143, u144, u145, u146, u147, u148, u149, u150, u151, u152, u153, u154, u155, u156, u157, u158, u159, u160, u161, u162, u163, u164, u165, u166, u167, u168, u169, u170, u171, u172, u173, u174, u175, u176, u177, u178, u179, u180, u181, u182, u183, u184, u185, u186, u187, u188, u189, u190, u191, u192, u193, u194, u195, u196, u197, u198, u199, u200, c201, c202, c203, c204, c205, c206, c207, c208, c209, c210, c211, c212, c213, c214, c215, c216, c217, c218, c219, c220, c221, c222, c223, c224, c225, c226, c227, c228, c229, c230, c231, c232, c233, c234, c235, c236, c237, c238, c239, c240, c241, c242, c243, c244, c245, c246, c247], []⟩ wx) :
    Code.wp Try.prog cut22 Q ⟨#[c0, c1, c2, c3, c4, .pointer (some ⟨PA, 0, none⟩), .pointer (some ⟨PB, 0, none⟩), .slice al nl cl, c8, c9, c10, c11, .bool true, .bool true, .bool true, .bool true, .int .i64 0, c17, c18, c19, c20, c21, c22, c23, c24, c25, c26, c27, c28, c29, c30, c31, c32, c33, c34, c35, c36, c37, c38, c39, c40, c41, c42, c43, c44, c45, c46, c47, c48, c49, c50, c51, c52, c53, c54, c55, c56, c57, c58, c59, c60, c61, c62, c63, c64, c65, c66, c67, c68, c69, c70, c71, c72, c73, c74, c75, c76, c77, c78, c79, c80, c81, c82, c83, c84, c85, c86, c87, c88, c89, c90, c91, c92, c93, c94, c95, c96, c97, c98, c99, c100, c101, c102, c103, c104, c105, c106, c107, c108, c109, c110, c111, c112, c113, c114, c115, c116, c117, c118, c119, c120, c121, c122, c123, c124, c125, c126, c127, c128, c129, c130, c131, c132, c133, c134, c135, c136, c137, c138, c139, c140, c141, c142, c143, c144, c145, c146, c147, c148, c149, c150, c151, c152, c153, c154, c155, c156, c157, c158, c159, c160, c161, c162, c163, c164, c165, c166, c167, c168, c169, c170, c171, c172, c173, c174, c175, c176, c177, c178, c179, c180, c181, c182, c183, c184, c185, c186, c187, c188, c189, c190, c191, c192, c193, c194, c195, c196, c197, c198, c199, c200, c201, c202, c203, c204, c205, c206, c207, c208, c209, c210, c211, c212, c213, c214, c215, c216, c217, c218, c219, c220, c221, c222, c223, c224, c225, c226, c227, c228, c229, c230, c231, c232, c233, c234, c235, c236, c237, c238, c239, c240, c241, c242, c243, c244, c245, c246, c247], []⟩ wd := by
  have HQ : Hid (∀ (u21 u22 u23 u24 u25 u26 u27 u28 u29 u30 u31 u32 u33 u34 u111 u112 u113 u114 u115 u116 u117 u118 u119 u120 u121 u122 u123 u124 u125 u126 u127 u128 u129 u130 u131 u132 u133 u134 u135 u136 u137 u138 u139 u140 u141 u142 u143 u144 u145 u146 u147 u148 u149 u150 u151 u152 u153 u154 u155 u156 u157 u158 u159 u160 u161 u162 u163 u164 u165 u166 u167 u168 u169 u170 u171 u172 u173 u174 u175 u176 u177 u178 u179 u180 u181 u182 u183 u184 u185 u186 u187 u188 u189 u190 u191 u192 u193 u194 u195 u196 u197 u198 u199 u200 : Value) (wx : World), Below wp.heap.size wp wx → Q .normal ⟨#[c0, c1, c2, c3, c4, .pointer (some ⟨PA, 0, none⟩), .pointer (some ⟨PB, 0, none⟩), .slice al nl cl, c8, c9, c10, c11, .bool true, .bool true, .bool true, .bool true, .int .i64 0, c17, c18, c19, c20, u21, u22, u23, u24, u25, u26, u27, u28, u29, u30, u31, u32, u33, u34, c35, c36, c37, c38, c39, c40, c41, c42, c43, c44, c45, c46, c47, c48, c49, c50, c51, c52, c53, c54, c55, c56, c57, c58, c59, c60, c61, c62, c63, c64, c65, c66, c67, c68, c69, c70, c71, c72, c73, c74, c75, c76, c77, c78, c79, c80, c81, c82, c83, c84, c85, c86, c87, c88, c89, c90, c91, c92, c93, c94, c95, c96, c97, c98, c99, c100, c101, c102, c103, c104, c105, c106, c107, c108, c109, c110, u111, u112, u113, u114, u115, u116, u117, u118, u119, u120, u121, u122, u123, u124, u125, u126, u127, u128, u129, u130, u131, u132, u133, u134, u135, u136, u137, u138, u139, u140, u141, u142, u143, u144, u145, u146, u147, u148, u149, u150, u151, u152, u153, u154, u155, u156, u157, u158, u159, u160, u161, u162, u163, u164, u165, u166, u167, u168, u169, u170, u171, u172, u173, u174, u175, u176, u177, u178, u179, u180, u181, u182, u183, u184, u185, u186, u187, u188, u189, u190, u191, u192, u193, u194, u195, u196, u197, u198, u199, u200, c201, c202, c203, c204, c205, c206, c207, c208, c209, c210, c211, c212, c213, c214, c215, c216, c217, c218, c219, c220, c221, c222, c223, c224, c225, c226, c227, c228, c229, c230, c231, c232, c233, c234, c235, c236, c237, c238, c239, c240, c241, c242, c243, c244, c245, c246, c247], []⟩ wx) := hQ
  clear hQ
  have GAv : Hid (gb A = true) := gA
  have GBv : Hid (gb B = true) := gB
  have hsum := (vol_sum gA gB).1 hm
  have htwo := vol_two gA gB
  have b1 := vol_small (gl_one gA)
  have b2 := vol_small (cto_good gA gB)
  have b3 := vol_small (gl_one gB)
  have b4 := vol_small (gl_two gA gB)
  have b5 := vol_small (gl_one (mlo_good hm))
  have GMv : Hid (gb (mlo A B) = true) := mlo_good hm
  have V1 : Hid (∀ W, Below wp.heap.size wp W → Calls Try.prog 26 #[.slice (some ⟨W.heap.size, 0, none⟩) 1 1] (W.alloc (.cells #[.slice aA A.length cA] 25)) fun e w' => e = .returned (.tuple #[.int .i64 (volM [A]), .bool true]) ∧ Below W.heap.size W w') := fun W hW => vol_call1 (VA.out W hW).2.2 gA
  have V4 : Hid (∀ W, Below wp.heap.size wp W → Calls Try.prog 26 #[.slice (some ⟨W.heap.size, 0, none⟩) 1 1] (W.alloc (.cells #[.slice aB B.length cB] 25)) fun e w' => e = .returned (.tuple #[.int .i64 (volM [B]), .bool true]) ∧ Below W.heap.size W w') := fun W hW => vol_call1 (VB.out W hW).2.2 gB
  have V3 : Hid (∀ W, Below wp.heap.size wp W → Calls Try.prog 26 #[.slice (some ⟨W.heap.size, 0, none⟩) 2 2] (W.alloc (.cells #[.slice aA A.length cA, .slice aB B.length cB] 25)) fun e w' => e = .returned (.tuple #[.int .i64 (volM [A, B]), .bool true]) ∧ Below W.heap.size W w') := fun W hW => vol_call2 (VA.out W hW).2.2 (VB.out W hW).2.2 gA gB
  have V2 : Hid (∀ W, Below wp.heap.size wp W → Calls Try.prog 26 #[.slice al nl cl] W fun e w' => e = .returned (.tuple #[.int .i64 (volM (cto A B)), .bool true]) ∧ Below W.heap.size W w') := fun W hW => by
    have := implVol (cto A B) _ W (VL.out W hW)
    rwa [cto_good gA gB] at this
  have V5 : Hid (∀ (W : World) (a : Option Addr) (c : Nat), SdsAt W W.heap.size (.slice a (mlo A B).length c) (mlo A B) → Calls Try.prog 26 #[.slice (some ⟨W.heap.size, 0, none⟩) 1 1] (W.alloc (.cells #[.slice a (mlo A B).length c] 25)) fun e w' => e = .returned (.tuple #[.int .i64 (volM [mlo A B]), .bool true]) ∧ Below W.heap.size W w') := fun W a c h => vol_call1 h GMv.out
  have V6 : Hid (∀ W, Below wp.heap.size wp W → Calls Try.prog 10 #[.agg #[.slice aA A.length cA], .agg #[.slice aB B.length cB]] W fun e w' => (∃ v, e = .returned (.tuple #[.agg #[v], .bool true]) ∧ SRow w' W.heap.size 60 v (mlo A B)) ∧ Below W.heap.size W w') := fun W hW => by
    have := implMeet9 A B _ _ W (VA.out W hW).2.2 (VB.out W hW).2.2
    rwa [hm] at this
  generalize volM [A] = v1 at V1 hsum b1
  generalize volM (cto A B) = v2 at V2 hsum htwo b2
  generalize volM [A, B] = v3 at V3 htwo b4
  generalize volM [B] = v4 at V4 htwo b3
  generalize volM [mlo A B] = v5 at V5 hsum b5
  have d1 : (v2 + v5 != v1) = false := by simp [hsum]
  obtain ⟨b5a, b5b⟩ := b5
  have d2 : (v3 != v2 + v4) = false := by simp [htwo]
  obtain ⟨b1a, b1b⟩ := b1
  obtain ⟨b2a, b2b⟩ := b2
  obtain ⟨b3a, b3b⟩ := b3
  obtain ⟨b4a, b4b⟩ := b4
  clear hsum htwo gA gB hm
  obtain ⟨qa1, la1, _⟩ := VA.out _ hbd
  have dn : decide ((nl : Int) > 6) = false := decide_eq_false (by omega)
  have dn2 : ¬ (6 : Int) < (nl : Int) := by omega
  conv => arg 2; whnf
  go_wp2_with fail
  refine (V1.out wd hbd).mono ?_
  rintro e w1 ⟨rfl, hb1⟩
  have hB1 : Below wp.heap.size wp w1 := hbd.trans (hb1.mono hbd.size)
  clear qa1 la1 hb1
  go_wp2_with fail
  refine (V2.out w1 hB1).mono ?_
  rintro e w2 ⟨rfl, hb2⟩
  have hB2 : Below wp.heap.size wp w2 := hB1.trans (hb2.mono hB1.size)
  obtain ⟨qa2, la2, _⟩ := VA.out _ hB2
  obtain ⟨qb2, lb2, _⟩ := VB.out _ hB2
  clear hb2 hB1
  go_wp2_with fail
  refine (V6.out w2 hB2).mono ?_
  rintro e w3 ⟨⟨vm, rfl, hrm⟩, hb3⟩
  have hB3 : Below wp.heap.size wp w3 := hB2.trans (hb3.mono hB2.size)
  have hsm : SdsAt w3 w3.heap.size vm (mlo A B) := QRow.at ⟨_, hrm⟩
  obtain ⟨aM, cM, hvm, _⟩ := id hsm
  subst hvm
  obtain ⟨W4, hW4⟩ : ∃ W, W = w3.alloc (.cells #[.slice aM (mlo A B).length cM] 25) := ⟨_, rfl⟩
  have hb34 : Below w3.heap.size w3 W4 := by rw [hW4]; exact (Below.refl _ w3).alloc (Nat.le_refl _) _
  have hB4 : Below wp.heap.size wp W4 := hB3.trans (hb34.mono hB3.size)
  have hV4 : VCt w3.heap.size (.slice aM (mlo A B).length cM) (mlo A B) W4 := by rw [hW4]; exact VCt.new hsm
  have HW4 : Hid (W4 = w3.alloc (.cells #[.slice aM (mlo A B).length cM] 25)) := hW4
  clear hW4 hrm hb3 hB2 qa2 la2 qb2 lb2 hsm hb34 hB3
  obtain ⟨qm4, lm4, hs4⟩ := hV4
  go_upto_region 31 with fail
  rw [← HW4.out]
  go_wp2_with fail
  refine (V5.out W4 aM cM hs4).mono ?_
  rintro e w5 ⟨rfl, hb5⟩
  have hB5 : Below wp.heap.size wp w5 := hB4.trans (hb5.mono hB4.size)
  obtain ⟨qa5, la5, _⟩ := VA.out _ hB5
  obtain ⟨qb5, lb5, _⟩ := VB.out _ hB5
  clear qm4 lm4 hs4 hb5 hB4
  go_wp2_with fail
  refine (V3.out w5 hB5).mono ?_
  rintro e w6 ⟨rfl, hb6⟩
  have hB6 : Below wp.heap.size wp w6 := hB5.trans (hb6.mono hB5.size)
  obtain ⟨qb6, lb6, _⟩ := VB.out _ hB6
  clear qa5 la5 qb5 lb5 hb6
  go_wp2_with fail
  refine (V4.out w6 hB6).mono ?_
  rintro e w7 ⟨rfl, hb7⟩
  have hB7 : Below wp.heap.size wp w7 := hB6.trans (hb7.mono hB6.size)
  clear qb6 lb6 hb7 hB6
  go_wp2_with fail
  exact HQ.out _ _ _ _ _ _ _ _ _ _ _ _ _ _ _ _ _ _ _ _ _ _ _ _ _ _ _ _ _ _ _ _ _ _ _ _ _ _ _ _ _ _ _ _ _ _ _ _ _ _ _ _ _ _ _ _ _ _ _ _ _ _ _ _ _ _ _ _ _ _ _ _ _ _ _ _ _ _ _ _ _ _ _ _ _ _ _ _ _ _ _ _ _ _ _ _ _ _ _ _ _ _ _ _ w7 hB7

theorem cut_part22 (wp wd : World) (PA PB nl cl cA cB n : Nat) (aA aB al : Option Addr) (A B : List Sd) (X Y : Bool) (hn : n = if (X && !Y) = true then 1 else 0) (gA : gb A = true) (gB : gb B = true)
    (VA : Hid (∀ W, Below wp.heap.size wp W → VCt PA (.slice aA A.length cA) A W)) (VB : Hid (∀ W, Below wp.heap.size wp W → VCt PB (.slice aB B.length cB) B W)) (VL : Hid (∀ W, Below wp.heap.size wp W → BxsAt W W.heap.size (.slice al nl cl) (cto A B))) (hnl : nl ≤ 6) (hbd : Below wp.heap.size wp wd) (Q : Exit → Act → World → Prop)
    (c0 c1 c2 c3 c4 c8 c9 c10 c11 c17 c18 c19 c20 c21 c22 c23 c24 c25 c26 c27 c28 c29 c30 c31 c32 c33 c34 c35 c36 c37 c38 c39 c40 c41 c42 c43 c44 c45 c46 c47 c48 c49 c50 c51 c52 c53 c54 c55 c56 c57 c58 c59 c60 c61 c62 c63 c64 c65 c66 c67 c68 c69 c70 c71 c72 c73 c74 c75 c76 c77 c78 c79 c80 c81 c82 c83 c84 c85 c86 c87 c88 c89 c90 c91 c92 c93 c94 c95 c96 c97 c98 c99 c100 c101 c102 c103 c104 c105 c106 c107 c108 c109 c110 c111 c112 c113 c114 c115 c116 c117 c118 c119 c120 c121 c122 c123 c124 c125 c126 c127 c128 c129 c130 c131 c132 c133 c134 c135 c136 c137 c138 c139 c140 c141 c142 c143 c144 c145 c146 c147 c148 c149 c150 c151 c152 c153 c154 c155 c156 c157 c158 c159 c160 c161 c162 c163 c164 c165 c166 c167 c168 c169 c170 c171 c172 c173 c174 c175 c176 c177 c178 c179 c180 c181 c182 c183 c184 c185 c186 c187 c188 c189 c190 c191 c192 c193 c194 c195 c196 c197 c198 c199 c200 c201 c202 c203 c204 c205 c206 c207 c208 c209 c210 c211 c212 c213 c214 c215 c216 c217 c218 c219 c220 c221 c222 c223 c224 c225 c226 c227 c228 c229 c230 c231 c232 c233 c234 c235 c236 c237 c238 c239 c240 c241 c242 c243 c244 c245 c246 c247 : Value)
    (hQ : ∀ (u21 u22 u23 u24 u25 u26 u27 u28 u29 u30 u31 u32 u33 u34 u111 u112 u113 u114 u115 u116 u117 u118 u119 u120 u121 u122 u123 u124 u125 u126 u127 u128 u129 u130 u131 u132 u133 u134 u135 u136 u137 u138 u139 u140 u141 u142 u143 u144 u145 u146 u147 u148 u149 u150 u151 u152 u153 u154 u155 u156 u157 u158 u159 u160 u161 u162 u163 u164 u165 u166 u167 u168 u169 u170 u171 u172 u173 u174 u175 u176 u177 u178 u179 u180 u181 u182 u183 u184 u185 u186 u187 u188 u189 u190 u191 u192 u193 u194 u195 u196 u197 u198 u199 u200 : Value) (wx : World), Below wp.heap.size wp wx → Q .normal ⟨#[c0, c1, c2, c3, c4, .pointer (some ⟨PA, 0, none⟩), .pointer (some ⟨PB, 0, none⟩), .slice al nl cl, c8, c9, c10, c11, .bool X, .bool true, .bool Y, .bool true, .int .i64 (n : Int), c17, c18, c19, c20, u21, u22, u23, u24, u25, u26, u27, u28, u29, u30, u31, u32, u33, u34, c35, c36, c37, c38, c39, c40, c41, c42, c43, c44, c45, c46, c47, c48, c49, c50, c51, c52, c53, c54, c55, c56, c57, c58, c59, c60, c61, c62, c63, c64, c65, c66, c67, c68, c69, c70, c71, c72, c73, c74, c75, c76, c77, c78, c79, c80, c81, c82, c83, c84, c85, c86, c87, c88, c89, c90, c91, c92, c93, c94, c95, c96, c97, c98, c99, c100, c101, c102, c103, c104, c105, c106, c107, c108, c109, c110, u111, u112, u113, u114, u115, u116, u117, u118, u119, u120, u121, u122, u123, u124, u125, u126, u127, u128, u129, u130, u131, u132, u133, u134, u135, u136, u137, u138, u139, u140, u141, u142, u143, u144, u145, u146, u147, u148, u149, u150, u151, u152, u153, u154, u155, u156, u157, u158, u159, u160, u161, u162, u163, u164, u165, u166, u167, u168, u169, u170, u171, u172, u173, u174, u175, u176, u177, u178, u179, u180, u181, u182, u183, u184, u185, u186, u187, u188, u189, u190, u191, u192, u193, u194, u195, u196, u197, u198, u199, u200, c201, c202, c203, c204, c205, c206, c207, c208, c209, c210, c211, c212, c213, c214, c215, c216, c217, c218, c219, c220, c221, c222, c223, c224, c225, c226, c227, c228, c229, c230, c231, c232, c233, c234, c235, c236, c237, c238, c239, c240, c241, c242, c243, c244, c245, c246, c247], []⟩ wx) :
    Code.wp Try.prog cut22 Q ⟨#[c0, c1, c2, c3, c4, .pointer (some ⟨PA, 0, none⟩), .pointer (some ⟨PB, 0, none⟩), .slice al nl cl, c8, c9, c10, c11, .bool X, .bool true, .bool Y, .bool true, .int .i64 (n : Int), c17, c18, c19, c20, c21, c22, c23, c24, c25, c26, c27, c28, c29, c30, c31, c32, c33, c34, c35, c36, c37, c38, c39, c40, c41, c42, c43, c44, c45, c46, c47, c48, c49, c50, c51, c52, c53, c54, c55, c56, c57, c58, c59, c60, c61, c62, c63, c64, c65, c66, c67, c68, c69, c70, c71, c72, c73, c74, c75, c76, c77, c78, c79, c80, c81, c82, c83, c84, c85, c86, c87, c88, c89, c90, c91, c92, c93, c94, c95, c96, c97, c98, c99, c100, c101, c102, c103, c104, c105, c106, c107, c108, c109, c110, c111, c112, c113, c114, c115, c116, c117, c118, c119, c120, c121, c122, c123, c124, c125, c126, c127, c128, c129, c130, c131, c132, c133, c134, c135, c136, c137, c138, c139, c140, c141, c142, c143, c144, c145, c146, c147, c148, c149, c150, c151, c152, c153, c154, c155, c156, c157, c158, c159, c160, c161, c162, c163, c164, c165, c166, c167, c168, c169, c170, c171, c172, c173, c174, c175, c176, c177, c178, c179, c180, c181, c182, c183, c184, c185, c186, c187, c188, c189, c190, c191, c192, c193, c194, c195, c196, c197, c198, c199, c200, c201, c202, c203, c204, c205, c206, c207, c208, c209, c210, c211, c212, c213, c214, c215, c216, c217, c218, c219, c220, c221, c222, c223, c224, c225, c226, c227, c228, c229, c230, c231, c232, c233, c234, c235, c236, c237, c238, c239, c240, c241, c242, c243, c244, c245, c246, c247], []⟩ wd := by
  subst hn
  cases hm : mok A B with
  | false =>
    cases X with
    | false =>
      cases Y with
      | false => exact cut_part22_000 wp wd PA PB nl cl cA cB aA aB al A B hm gA gB VA VB VL hnl hbd Q c0 c1 c2 c3 c4 c8 c9 c10 c11 c17 c18 c19 c20 c21 c22 c23 c24 c25 c26 c27 c28 c29 c30 c31 c32 c33 c34 c35 c36 c37 c38 c39 c40 c41 c42 c43 c44 c45 c46 c47 c48 c49 c50 c51 c52 c53 c54 c55 c56 c57 c58 c59 c60 c61 c62 c63 c64 c65 c66 c67 c68 c69 c70 c71 c72 c73 c74 c75 c76 c77 c78 c79 c80 c81 c82 c83 c84 c85 c86 c87 c88 c89 c90 c91 c92 c93 c94 c95 c96 c97 c98 c99 c100 c101 c102 c103 c104 c105 c106 c107 c108 c109 c110 c111 c112 c113 c114 c115 c116 c117 c118 c119 c120 c121 c122 c123 c124 c125 c126 c127 c128 c129 c130 c131 c132 c133 c134 c135 c136 c137 c138 c139 c140 c141 c142 c143 c144 c145 c146 c147 c148 c149 c150 c151 c152 c153 c154 c155 c156 c157 c158 c159 c160 c161 c162 c163 c164 c165 c166 c167 c168 c169 c170 c171 c172 c173 c174 c175 c176 c177 c178 c179 c180 c181 c182 c183 c184 c185 c186 c187 c188 c189 c190 c191 c192 c193 c194 c195 c196 c197 c198 c199 c200 c201 c202 c203 c204 c205 c206 c207 c208 c209 c210 c211 c212 c213 c214 c215 c216 c217 c218 c219 c220 c221 c222 c223 c224 c225 c226 c227 c228 c229 c230 c231 c232 c233 c234 c235 c236 c237 c238 c239 c240 c241 c242 c243 c244 c245 c246 c247 hQ
      | true => exact cut_part22_001 wp wd PA PB nl cl cA cB aA aB al A B hm gA gB VA VB VL hnl hbd Q c0 c1 c2 c3 c4 c8 c9 c10 c11 c17 c18 c19 c20 c21 c22 c23 c24 c25 c26 c27 c28 c29 c30 c31 c32 c33 c34 c35 c36 c37 c38 c39 c40 c41 c42 c43 c44 c45 c46 c47 c48 c49 c50 c51 c52 c53 c54 c55 c56 c57 c58 c59 c60 c61 c62 c63 c64 c65 c66 c67 c68 c69 c70 c71 c72 c73 c74 c75 c76 c77 c78 c79 c80 c81 c82 c83 c84 c85 c86 c87 c88 c89 c90 c91 c92 c93 c94 c95 c96 c97 c98 c99 c100 c101 c102 c103 c104 c105 c106 c107 c108 c109 c110 c111 c112 c113 c114 c115 c116 c117 c118 c119 c120 c121 c122 c123 c124 c125 c126 c127 c128 c129 c130 c131 c132 c133 c134 c135 c136 c137 c138 c139 c140 c141 c142 c143 c144 c145 c146 c147 c148 c149 c150 c151 c152 c153 c154 c155 c156 c157 c158 c159 c160 c161 c162 c163 c164 c165 c166 c167 c168 c169 c170 c171 c172 c173 c174 c175 c176 c177 c178 c179 c180 c181 c182 c183 c184 c185 c186 c187 c188 c189 c190 c191 c192 c193 c194 c195 c196 c197 c198 c199 c200 c201 c202 c203 c204 c205 c206 c207 c208 c209 c210 c211 c212 c213 c214 c215 c216 c217 c218 c219 c220 c221 c222 c223 c224 c225 c226 c227 c228 c229 c230 c231 c232 c233 c234 c235 c236 c237 c238 c239 c240 c241 c242 c243 c244 c245 c246 c247 hQ
    | true =>
      cases Y with
      | false => exact cut_part22_010 wp wd PA PB nl cl cA cB aA aB al A B hm gA gB VA VB VL hnl hbd Q c0 c1 c2 c3 c4 c8 c9 c10 c11 c17 c18 c19 c20 c21 c22 c23 c24 c25 c26 c27 c28 c29 c30 c31 c32 c33 c34 c35 c36 c37 c38 c39 c40 c41 c42 c43 c44 c45 c46 c47 c48 c49 c50 c51 c52 c53 c54 c55 c56 c57 c58 c59 c60 c61 c62 c63 c64 c65 c66 c67 c68 c69 c70 c71 c72 c73 c74 c75 c76 c77 c78 c79 c80 c81 c82 c83 c84 c85 c86 c87 c88 c89 c90 c91 c92 c93 c94 c95 c96 c97 c98 c99 c100 c101 c102 c103 c104 c105 c106 c107 c108 c109 c110 c111 c112 c113 c114 c115 c116 c117 c118 c119 c120 c121 c122 c123 c124 c125 c126 c127 c128 c129 c130 c131 c132 c133 c134 c135 c136 c137 c138 c139 c140 c141 c142 c143 c144 c145 c146 c147 c148 c149 c150 c151 c152 c153 c154 c155 c156 c157 c158 c159 c160 c161 c162 c163 c164 c165 c166 c167 c168 c169 c170 c171 c172 c173 c174 c175 c176 c177 c178 c179 c180 c181 c182 c183 c184 c185 c186 c187 c188 c189 c190 c191 c192 c193 c194 c195 c196 c197 c198 c199 c200 c201 c202 c203 c204 c205 c206 c207 c208 c209 c210 c211 c212 c213 c214 c215 c216 c217 c218 c219 c220 c221 c222 c223 c224 c225 c226 c227 c228 c229 c230 c231 c232 c233 c234 c235 c236 c237 c238 c239 c240 c241 c242 c243 c244 c245 c246 c247 hQ
      | true => exact cut_part22_011 wp wd PA PB nl cl cA cB aA aB al A B hm gA gB VA VB VL hnl hbd Q c0 c1 c2 c3 c4 c8 c9 c10 c11 c17 c18 c19 c20 c21 c22 c23 c24 c25 c26 c27 c28 c29 c30 c31 c32 c33 c34 c35 c36 c37 c38 c39 c40 c41 c42 c43 c44 c45 c46 c47 c48 c49 c50 c51 c52 c53 c54 c55 c56 c57 c58 c59 c60 c61 c62 c63 c64 c65 c66 c67 c68 c69 c70 c71 c72 c73 c74 c75 c76 c77 c78 c79 c80 c81 c82 c83 c84 c85 c86 c87 c88 c89 c90 c91 c92 c93 c94 c95 c96 c97 c98 c99 c100 c101 c102 c103 c104 c105 c106 c107 c108 c109 c110 c111 c112 c113 c114 c115 c116 c117 c118 c119 c120 c121 c122 c123 c124 c125 c126 c127 c128 c129 c130 c131 c132 c133 c134 c135 c136 c137 c138 c139 c140 c141 c142 c143 c144 c145 c146 c147 c148 c149 c150 c151 c152 c153 c154 c155 c156 c157 c158 c159 c160 c161 c162 c163 c164 c165 c166 c167 c168 c169 c170 c171 c172 c173 c174 c175 c176 c177 c178 c179 c180 c181 c182 c183 c184 c185 c186 c187 c188 c189 c190 c191 c192 c193 c194 c195 c196 c197 c198 c199 c200 c201 c202 c203 c204 c205 c206 c207 c208 c209 c210 c211 c212 c213 c214 c215 c216 c217 c218 c219 c220 c221 c222 c223 c224 c225 c226 c227 c228 c229 c230 c231 c232 c233 c234 c235 c236 c237 c238 c239 c240 c241 c242 c243 c244 c245 c246 c247 hQ
  | true =>
    cases X with
    | false =>
      cases Y with
      | false => exact cut_part22_100 wp wd PA PB nl cl cA cB aA aB al A B hm gA gB VA VB VL hnl hbd Q c0 c1 c2 c3 c4 c8 c9 c10 c11 c17 c18 c19 c20 c21 c22 c23 c24 c25 c26 c27 c28 c29 c30 c31 c32 c33 c34 c35 c36 c37 c38 c39 c40 c41 c42 c43 c44 c45 c46 c47 c48 c49 c50 c51 c52 c53 c54 c55 c56 c57 c58 c59 c60 c61 c62 c63 c64 c65 c66 c67 c68 c69 c70 c71 c72 c73 c74 c75 c76 c77 c78 c79 c80 c81 c82 c83 c84 c85 c86 c87 c88 c89 c90 c91 c92 c93 c94 c95 c96 c97 c98 c99 c100 c101 c102 c103 c104 c105 c106 c107 c108 c109 c110 c111 c112 c113 c114 c115 c116 c117 c118 c119 c120 c121 c122 c123 c124 c125 c126 c127 c128 c129 c130 c131 c132 c133 c134 c135 c136 c137 c138 c139 c140 c141 c142 c143 c144 c145 c146 c147 c148 c149 c150 c151 c152 c153 c154 c155 c156 c157 c158 c159 c160 c161 c162 c163 c164 c165 c166 c167 c168 c169 c170 c171 c172 c173 c174 c175 c176 c177 c178 c179 c180 c181 c182 c183 c184 c185 c186 c187 c188 c189 c190 c191 c192 c193 c194 c195 c196 c197 c198 c199 c200 c201 c202 c203 c204 c205 c206 c207 c208 c209 c210 c211 c212 c213 c214 c215 c216 c217 c218 c219 c220 c221 c222 c223 c224 c225 c226 c227 c228 c229 c230 c231 c232 c233 c234 c235 c236 c237 c238 c239 c240 c241 c242 c243 c244 c245 c246 c247 hQ
      | true => exact cut_part22_101 wp wd PA PB nl cl cA cB aA aB al A B hm gA gB VA VB VL hnl hbd Q c0 c1 c2 c3 c4 c8 c9 c10 c11 c17 c18 c19 c20 c21 c22 c23 c24 c25 c26 c27 c28 c29 c30 c31 c32 c33 c34 c35 c36 c37 c38 c39 c40 c41 c42 c43 c44 c45 c46 c47 c48 c49 c50 c51 c52 c53 c54 c55 c56 c57 c58 c59 c60 c61 c62 c63 c64 c65 c66 c67 c68 c69 c70 c71 c72 c73 c74 c75 c76 c77 c78 c79 c80 c81 c82 c83 c84 c85 c86 c87 c88 c89 c90 c91 c92 c93 c94 c95 c96 c97 c98 c99 c100 c101 c102 c103 c104 c105 c106 c107 c108 c109 c110 c111 c112 c113 c114 c115 c116 c117 c118 c119 c120 c121 c122 c123 c124 c125 c126 c127 c128 c129 c130 c131 c132 c133 c134 c135 c136 c137 c138 c139 c140 c141 c142 c143 c144 c145 c146 c147 c148 c149 c150 c151 c152 c153 c154 c155 c156 c157 c158 c159 c160 c161 c162 c163 c164 c165 c166 c167 c168 c169 c170 c171 c172 c173 c174 c175 c176 c177 c178 c179 c180 c181 c182 c183 c184 c185 c186 c187 c188 c189 c190 c191 c192 c193 c194 c195 c196 c197 c198 c199 c200 c201 c202 c203 c204 c205 c206 c207 c208 c209 c210 c211 c212 c213 c214 c215 c216 c217 c218 c219 c220 c221 c222 c223 c224 c225 c226 c227 c228 c229 c230 c231 c232 c233 c234 c235 c236 c237 c238 c239 c240 c241 c242 c243 c244 c245 c246 c247 hQ
    | true =>
      cases Y with
      | false => exact cut_part22_110 wp wd PA PB nl cl cA cB aA aB al A B hm gA gB VA VB VL hnl hbd Q c0 c1 c2 c3 c4 c8 c9 c10 c11 c17 c18 c19 c20 c21 c22 c23 c24 c25 c26 c27 c28 c29 c30 c31 c32 c33 c34 c35 c36 c37 c38 c39 c40 c41 c42 c43 c44 c45 c46 c47 c48 c49 c50 c51 c52 c53 c54 c55 c56 c57 c58 c59 c60 c61 c62 c63 c64 c65 c66 c67 c68 c69 c70 c71 c72 c73 c74 c75 c76 c77 c78 c79 c80 c81 c82 c83 c84 c85 c86 c87 c88 c89 c90 c91 c92 c93 c94 c95 c96 c97 c98 c99 c100 c101 c102 c103 c104 c105 c106 c107 c108 c109 c110 c111 c112 c113 c114 c115 c116 c117 c118 c119 c120 c121 c122 c123 c124 c125 c126 c127 c128 c129 c130 c131 c132 c133 c134 c135 c136 c137 c138 c139 c140 c141 c142 c143 c144 c145 c146 c147 c148 c149 c150 c151 c152 c153 c154 c155 c156 c157 c158 c159 c160 c161 c162 c163 c164 c165 c166 c167 c168 c169 c170 c171 c172 c173 c174 c175 c176 c177 c178 c179 c180 c181 c182 c183 c184 c185 c186 c187 c188 c189 c190 c191 c192 c193 c194 c195 c196 c197 c198 c199 c200 c201 c202 c203 c204 c205 c206 c207 c208 c209 c210 c211 c212 c213 c214 c215 c216 c217 c218 c219 c220 c221 c222 c223 c224 c225 c226 c227 c228 c229 c230 c231 c232 c233 c234 c235 c236 c237 c238 c239 c240 c241 c242 c243 c244 c245 c246 c247 hQ
      | true => exact cut_part22_111 wp wd PA PB nl cl cA cB aA aB al A B hm gA gB VA VB VL hnl hbd Q c0 c1 c2 c3 c4 c8 c9 c10 c11 c17 c18 c19 c20 c21 c22 c23 c24 c25 c26 c27 c28 c29 c30 c31 c32 c33 c34 c35 c36 c37 c38 c39 c40 c41 c42 c43 c44 c45 c46 c47 c48 c49 c50 c51 c52 c53 c54 c55 c56 c57 c58 c59 c60 c61 c62 c63 c64 c65 c66 c67 c68 c69 c70 c71 c72 c73 c74 c75 c76 c77 c78 c79 c80 c81 c82 c83 c84 c85 c86 c87 c88 c89 c90 c91 c92 c93 c94 c95 c96 c97 c98 c99 c100 c101 c102 c103 c104 c105 c106 c107 c108 c109 c110 c111 c112 c113 c114 c115 c116 c117 c118 c119 c120 c121 c122 c123 c124 c125 c126 c127 c128 c129 c130 c131 c132 c133 c134 c135 c136 c137 c138 c139 c140 c141 c142 c143 c144 c145 c146 c147 c148 c149 c150 c151 c152 c153 c154 c155 c156 c157 c158 c159 c160 c161 c162 c163 c164 c165 c166 c167 c168 c169 c170 c171 c172 c173 c174 c175 c176 c177 c178 c179 c180 c181 c182 c183 c184 c185 c186 c187 c188 c189 c190 c191 c192 c193 c194 c195 c196 c197 c198 c199 c200 c201 c202 c203 c204 c205 c206 c207 c208 c209 c210 c211 c212 c213 c214 c215 c216 c217 c218 c219 c220 c221 c222 c223 c224 c225 c226 c227 c228 c229 c230 c231 c232 c233 c234 c235 c236 c237 c238 c239 c240 c241 c242 c243 c244 c245 c246 c247 hQ

end Go.Proofs.Ytnbaeplbnonhkaa
