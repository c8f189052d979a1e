/- The law FnLeast from its two machines on. -/
import Derived.Test.YtecgjhnihagleaaMcLc
import Derived.Test.YtecgjhnihagleaaXn
import Derived.Test.YtecgjhnihagleaaMcGe
import Derived.Test.YtecgjhnihagleaaMcEd
import Derived.Test.YtecgjhnihagleaaMcSi
import Derived.Test.YtecgjhnihagleaaMcSs
namespace Go.Proofs.Ytecgjhnihagleaa
open Go.RowKit Plain Mch Tpc

theorem smt_size (A : List (List Int)) (E : List Bool) (B : List (List Int)) (F : List Bool) : (smt A E B F).size ≤ 144 := by
  unfold smt
  split
  · rename_i h
    have hg := h.1
    rw [Bool.and_eq_true] at hg
    have hm := prs_met hg.1 hg.2
    have h1 := hm.txt _ h.2
    have h2 := hm.le hg.1 hg.2
    omega
  · show (0 : Nat) ≤ 144
    omega

theorem emptyList : ByteArray.empty.toList.isEmpty = true := by first | decide | (rw [Lib.toList_data]; rfl) | simp

noncomputable def lea21Code : Code := ((Try.f6.body.bind (mTail 21)).getD .skip)

set_option maxRecDepth 1000000 in
set_option maxHeartbeats 16000000 in
theorem lea21 (w wz : World) (a1 : Option Addr) (len1 cap1 : Nat) (hcode : CodeAt wz a1 len1) (hB : Below w.heap.size w wz)
    (c0 c2 c3 c4 c5 c6 c7 c8 c9 c10 c11 c12 c13 c14 c15 c16 c17 c18 c19 c20 c21 c22 c23 c24 c25 c26 c27 c28 c29 c30 c31 c32 c33 c34 c35 c36 c37 c38 c39 c40 c41 c42 c43 c44 c45 c46 c47 c48 c49 c50 c51 c52 c53 c54 c55 c56 c57 c58 c59 c60 c61 c62 c63 c64 c65 c66 c67 c68 c69 c70 c71 c72 c73 c74 c75 c76 c77 c78 c79 c80 c81 c82 c83 c84 c85 c86 c87 c88 c89 c90 c91 c92 c93 c94 c95 c96 c97 c98 c99 c100 c101 c102 c103 c104 c105 c106 c107 c108 c109 c110 c111 c112 c113 c114 c115 c116 c117 c118 c119 c120 c121 c122 c123 c124 c125 c126 c127 c128 c129 c130 c131 c132 c133 c134 c135 c136 c137 c138 c139 c140 c141 c142 c143 c144 c145 c146 c147 c148 c149 c150 c151 c152 c153 c154 c155 c156 c157 c158 c159 c160 c161 c162 c163 c164 c165 c166 c167 c168 c169 c170 c171 c172 c173 c174 c175 c176 c177 c178 c179 c180 c181 c182 c183 c184 c185 c186 c187 c188 c189 c190 c191 c192 c193 c194 c195 c196 c197 c198 c199 c200 c201 c202 c203 c204 c205 c206 c207 c208 c209 c210 c211 c212 c213 c214 c215 c216 c217 c218 c219 c220 c221 c222 c223 c224 c225 c226 c227 c228 c229 c230 c231 c232 c233 : Value) :
    Code.wp Try.prog lea21Code (bodyPost Try.prog Try.f6 fun e w' => e = .returned (.bool true) ∧ Below w.heap.size w w') ⟨#[c0, .slice a1 len1 cap1, c2, c3, c4, c5, c6, c7, c8, c9, c10, c11, c12, c13, c14, c15, c16, c17, c18, c19, c20, c21, c22, c23, c24, c25, c26, c27, c28, c29, c30, c31, c32, c33, c34, c35, c36, c37, c38, c39, c40, c41, c42, c43, c44, c45, c46, c47, c48, c49, c50, c51, c52, c53, c54, c55, c56, c57, c58, c59, c60, c61, c62, c63, c64, c65, c66, c67, c68, c69, c70, c71, c72, c73, c74, c75, c76, c77, c78, c79, c80, c81, c82, c83, c84, c85, c86, c87, c88, c89, c90, c91, c92, c93, c94, c95, c96, c97, c98, c99, c100, c101, c102, c103, c104, c105, c106, c107, c108, c109, c110, c111, c112, c113, c114, c115, c116, c117, c118, c119, c120, c121, c122, c123, c124, c125, c126, c127, c128, c129, c130, c131, c132, c133, c134, c135, c136, c137, c138, c139, c140, c141, c142, c143, c144, c145, c146, c147, c148, c149, c150, c151, c152, c153, c154, c155, c156, c157, c158, c159, c160, c161, c162, c163, c164, c165, c166, c167, c168, c169, c170, c171, c172, c173, c174, c175, c176, c177, c178, c179, c180, c181, c182, c183, c184, c185, c186, c187, c188, c189, c190, c191, c192, c193, c194, c195, c196, c197, c198, c199, c200, c201, c202, c203, c204, c205, c206, c207, c208, c209, c210, c211, c212, c213, c214, c215, c216, c217, c218, c219, c220, c221, c222, c223, c224, c225, c226, c227, c228, c229, c230, c231, c232, c233], []⟩ wz := by
  conv => arg 2; whnf
  have H1 : Hid (CodeAt wz a1 len1) := hcode
  clear hcode
  go_wp2_with fail
  refine (drawTwo_any a1 len1 cap1 _ H1.out).mono ?_
  rintro e w1 ⟨⟨ra, qa, rb, qb, rfl, A, F, B, J, us, ts, ⟨hoA, hsA⟩, hoB, hsB⟩, hb⟩
  obtain ⟨pax, pcx, hz1⟩ := hoA.1.slice
  obtain ⟨pbx, pdx, hz2⟩ := ERow.slice hoA.2.1
  subst hz1 hz2
  have HMx : Hid (MAt w1 w1.heap.size (.slice pax A.length pcx) A) := hoA.1.at
  have HEx : Hid (EAt w1 w1.heap.size (.slice pbx F.length pdx) F) := EAt.own hoA.2.1
  clear hoA
  obtain ⟨pay, pcy, hz1⟩ := hoB.1.slice
  obtain ⟨pby, pdy, hz2⟩ := ERow.slice hoB.2.1
  subst hz1 hz2
  have HMy : Hid (MAt w1 w1.heap.size (.slice pay B.length pcy) B) := hoB.1.at
  have HEy : Hid (EAt w1 w1.heap.size (.slice pby J.length pdy) J) := EAt.own hoB.2.1
  clear hoB
  clear hsA hsB H1
  replace hB : Below w.heap.size w w1 := hB.trans (hb.mono hB.size)
  clear hb
  have K4 : Hid (Below w1.heap.size w1 w1) := Below.refl _ _
  obtain ⟨T, hT⟩ : ∃ x, x = smt A F B J := ⟨_, rfl⟩
  obtain ⟨sm, hsm⟩ : ∃ x, x = smb A F B J := ⟨_, rfl⟩
  obtain ⟨on, hon⟩ : ∃ x, x = (gm A F && gm B J) := ⟨_, rfl⟩
  obtain ⟨ga, hga⟩ : ∃ x, x = gm A F := ⟨_, rfl⟩
  obtain ⟨gb, hgb⟩ : ∃ x, x = gm B J := ⟨_, rfl⟩
  obtain ⟨LA, hLA⟩ : ∃ x, x = leM A F := ⟨_, rfl⟩
  obtain ⟨EA, hEA⟩ : ∃ x, x = leE A F := ⟨_, rfl⟩
  obtain ⟨LB, hLB⟩ : ∃ x, x = leM B J := ⟨_, rfl⟩
  obtain ⟨EB, hEB⟩ : ∃ x, x = leE B J := ⟨_, rfl⟩
  obtain ⟨ka, hka⟩ : ∃ x, x = rok A F T := ⟨_, rfl⟩
  obtain ⟨kb, hkb⟩ : ∃ x, x = rok B J T := ⟨_, rfl⟩
  obtain ⟨ua, hua⟩ : ∃ x, x = rto A F T := ⟨_, rfl⟩
  obtain ⟨ub, hub⟩ : ∃ x, x = rto B J T := ⟨_, rfl⟩
  have hTs : T.size ≤ 144 := by rw [hT]; exact smt_size A F B J
  have hTm : T.size ≤ maxLen := by unfold maxLen; omega
  have HTE : Hid (on = false → T.toList.isEmpty = true) := fun h => by
    rw [hon] at h
    rw [hT, smt_bad h]
    exact emptyList
  have HON : Hid (on = true → ga = true ∧ gb = true) := fun h => by
    rw [hon, Bool.and_eq_true] at h
    rw [hga, hgb]
    exact h
  have HSD : Hid (on = true → decide (LA = LB ∧ EA = EB) = sm) := fun h => by
    rw [hon] at h
    rw [hLA, hLB, hEA, hEB, hsm]
    exact (same_of h).symm
  have HPT : Hid (on = true → sm = false → T.size ≤ 60 → (ka = true ∧ kb = true) ∧ ua ≠ ub) := fun h h2 h3 => by
    rw [hon, Bool.and_eq_true] at h
    rw [hsm] at h2
    rw [hT] at h3
    rw [hka, hkb, hua, hub, hT]
    exact smt_parts h.1 h.2 h2 h3
  have HLL : Hid (LA.length ≤ 12 ∧ EA.length ≤ 12 ∧ ∀ i, i < LA.length → (rx LA i).length ≤ 3) := by show _ ∧ _; rw [hLA, hEA]; exact le_len A F
  have CS : Hid (∀ W : World, MAt W W.heap.size (.slice pax A.length pcx) A → EAt W W.heap.size (.slice pbx F.length pdx) F → MAt W W.heap.size (.slice pay B.length pcy) B → EAt W W.heap.size (.slice pby J.length pdy) J → (Calls Try.prog 34 #[.agg #[.slice pax A.length pcx, .slice pbx F.length pdx], .agg #[.slice pay B.length pcy, .slice pby J.length pdy]] W fun x w' => x = .returned (.tuple #[.string T, .bool sm, .bool on]) ∧ Below W.heap.size W w') ∧ Calls Try.prog 36 #[.agg #[.slice pax A.length pcx, .slice pbx F.length pdx], .agg #[.slice pay B.length pcy, .slice pby J.length pdy]] W fun x w' => x = .returned (.tuple #[.string T, .bool sm, .bool on]) ∧ Below W.heap.size W w') := fun W h1 h2 h3 h4 => by rw [hT, hsm, hon]; exact ⟨implSame A F _ _ B J _ _ W h1 h2 h3 h4, specSame A F _ _ B J _ _ W h1 h2 h3 h4⟩
  have CA : Hid (∀ W : World, MAt W W.heap.size (.slice pax A.length pcx) A → EAt W W.heap.size (.slice pbx F.length pdx) F → Calls Try.prog 17 #[.agg #[.slice pax A.length pcx, .slice pbx F.length pdx]] W fun x w' => (∃ r q, x = .returned (.tuple #[.agg #[r, q], .bool ga]) ∧ ∃ us, MaOwn w' W.heap.size r q LA EA us) ∧ Below W.heap.size W w') := fun W h1 h2 => by rw [hga, hLA, hEA]; exact implLeastM A F _ _ W h1 h2
  have CB : Hid (∀ W : World, MAt W W.heap.size (.slice pay B.length pcy) B → EAt W W.heap.size (.slice pby J.length pdy) J → Calls Try.prog 17 #[.agg #[.slice pay B.length pcy, .slice pby J.length pdy]] W fun x w' => (∃ r q, x = .returned (.tuple #[.agg #[r, q], .bool gb]) ∧ ∃ us, MaOwn w' W.heap.size r q LB EB us) ∧ Below W.heap.size W w') := fun W h1 h2 => by rw [hgb, hLB, hEB]; exact implLeastM B J _ _ W h1 h2
  have RA : Hid (∀ W : World, MAt W W.heap.size (.slice pax A.length pcx) A → EAt W W.heap.size (.slice pbx F.length pdx) F → Calls Try.prog 20 #[.agg #[.slice pax A.length pcx, .slice pbx F.length pdx], .string T] W fun x w' => x = .returned (.tuple #[.bool ua, .bool ka]) ∧ Below W.heap.size W w') := fun W h1 h2 => by rw [hua, hka]; exact implRunM A F _ _ T W h1 h2 hTm
  have RB : Hid (∀ W : World, MAt W W.heap.size (.slice pay B.length pcy) B → EAt W W.heap.size (.slice pby J.length pdy) J → Calls Try.prog 20 #[.agg #[.slice pay B.length pcy, .slice pby J.length pdy], .string T] W fun x w' => x = .returned (.tuple #[.bool ub, .bool kb]) ∧ Below W.heap.size W w') := fun W h1 h2 => by rw [hub, hkb]; exact implRunM B J _ _ T W h1 h2 hTm
  clear hT hsm hon hga hgb hLA hEA hLB hEB hka hkb hua hub
  obtain ⟨W2, hW2⟩ : ∃ W, W = (w1.alloc (.cells #[.slice pax A.length pcx, .slice pbx F.length pdx] 30)).alloc (.cells #[.slice pay B.length pcy, .slice pby J.length pdy] 30) := ⟨_, rfl⟩
  have hb : Below w1.heap.size w1 W2 := by rw [hW2]; exact ((Below.refl _ _).alloc (Nat.le_refl _) _).alloc (by simp) _
  have lx : w1.heap.size < W2.heap.size := by rw [hW2]; simp only [World.size_alloc]; omega
  have vx : W2.cell? ⟨w1.heap.size, 0, none⟩ = some (.slice pax A.length pcx) := by rw [hW2]; go_simp
  have ux : W2.cell? ⟨w1.heap.size, 1, none⟩ = some (.slice pbx F.length pdx) := by rw [hW2]; go_simp
  have ly : w1.heap.size + 1 < W2.heap.size := by rw [hW2]; simp only [World.size_alloc]; omega
  have vy : W2.cell? ⟨w1.heap.size + 1, 0, none⟩ = some (.slice pay B.length pcy) := by rw [hW2]; go_simp
  have uy : W2.cell? ⟨w1.heap.size + 1, 1, none⟩ = some (.slice pby J.length pdy) := by rw [hW2]; go_simp
  have K4' : Hid (Below w1.heap.size w1 W2) := K4.out.trans (hb.mono K4.out.size)
  clear K4
  have K4 := K4'
  clear K4'
  replace hB : Below w.heap.size w W2 := hB.trans (hb.mono hB.size)
  clear hb
  go_upto_region 22 with fail
  rw [← hW2]
  clear hW2
  go_wp2_with fail
  refine ((CS.out _ (HMx.out.below K4.out) (HEx.out.below K4.out) (HMy.out.below K4.out) (HEy.out.below K4.out)).1).mono ?_
  rintro e w3 ⟨rfl, hb⟩
  replace vx := (hb.cell (p := ⟨w1.heap.size, 0, none⟩) lx).trans vx
  replace ux := (hb.cell (p := ⟨w1.heap.size, 1, none⟩) lx).trans ux
  replace vy := (hb.cell (p := ⟨w1.heap.size + 1, 0, none⟩) ly).trans vy
  replace uy := (hb.cell (p := ⟨w1.heap.size + 1, 1, none⟩) ly).trans uy
  have K4' : Hid (Below w1.heap.size w1 w3) := K4.out.trans (hb.mono K4.out.size)
  clear K4
  have K4 := K4'
  clear K4'
  replace hB : Below w.heap.size w w3 := hB.trans (hb.mono hB.size)
  replace lx : w1.heap.size < w3.heap.size := by have := hb.size; omega
  replace ly : w1.heap.size + 1 < w3.heap.size := by have := hb.size; omega
  clear hb
  go_wp2_with fail
  refine ((CS.out _ (HMx.out.below K4.out) (HEx.out.below K4.out) (HMy.out.below K4.out) (HEy.out.below K4.out)).2).mono ?_
  rintro e w4 ⟨rfl, hb⟩
  replace vx := (hb.cell (p := ⟨w1.heap.size, 0, none⟩) lx).trans vx
  replace ux := (hb.cell (p := ⟨w1.heap.size, 1, none⟩) lx).trans ux
  replace vy := (hb.cell (p := ⟨w1.heap.size + 1, 0, none⟩) ly).trans vy
  replace uy := (hb.cell (p := ⟨w1.heap.size + 1, 1, none⟩) ly).trans uy
  have K4' : Hid (Below w1.heap.size w1 w4) := K4.out.trans (hb.mono K4.out.size)
  clear K4
  have K4 := K4'
  clear K4'
  replace hB : Below w.heap.size w w4 := hB.trans (hb.mono hB.size)
  replace lx : w1.heap.size < w4.heap.size := by have := hb.size; omega
  replace ly : w1.heap.size + 1 < w4.heap.size := by have := hb.size; omega
  clear hb
  have n1 : (on != on) = false := bne_self_eq_false _
  have n2 : (sm != sm) = false := bne_self_eq_false _
  have n3 : (T.toList == T.toList) = true := beq_self_eq_true _
  clear CS
  cases on with
  | false =>
    have hTe := HTE.out (by trivial)
    go_wp2
    go_ret
    exact ⟨by first | rfl | (rw [hTe]) | (simp [hTe]), hB⟩
  | true =>
    obtain ⟨g1, g2⟩ := HON.out (by trivial)
    subst g1 g2
    have HSD' : Hid (decide (LA = LB ∧ EA = EB) = sm) := HSD.out (by trivial)
    have HPT' : Hid (sm = false → T.size ≤ 60 → (ka = true ∧ kb = true) ∧ ua ≠ ub) := HPT.out (by trivial)
    clear HON HSD HPT HTE
    go_wp2_with fail
    refine (CA.out _ (HMx.out.below K4.out) (HEx.out.below K4.out)).mono ?_
    rintro e w5 ⟨⟨r, q, rfl, us, ho⟩, hb⟩
    obtain ⟨pap, pcp, hz1⟩ := ho.1.slice
    obtain ⟨pbp, pdp, hz2⟩ := ERow.slice ho.2.1
    subst hz1 hz2
    have HMp : Hid (MAt w5 w5.heap.size (.slice pap LA.length pcp) LA) := ho.1.at
    have HEp : Hid (EAt w5 w5.heap.size (.slice pbp EA.length pdp) EA) := EAt.own ho.2.1
    clear ho
    replace vx := (hb.cell (p := ⟨w1.heap.size, 0, none⟩) lx).trans vx
    replace ux := (hb.cell (p := ⟨w1.heap.size, 1, none⟩) lx).trans ux
    replace vy := (hb.cell (p := ⟨w1.heap.size + 1, 0, none⟩) ly).trans vy
    replace uy := (hb.cell (p := ⟨w1.heap.size + 1, 1, none⟩) ly).trans uy
    have K4' : Hid (Below w1.heap.size w1 w5) := K4.out.trans (hb.mono K4.out.size)
    clear K4
    have K4 := K4'
    clear K4'
    replace hB : Below w.heap.size w w5 := hB.trans (hb.mono hB.size)
    replace lx : w1.heap.size < w5.heap.size := by have := hb.size; omega
    replace ly : w1.heap.size + 1 < w5.heap.size := by have := hb.size; omega
    clear hb
    have K5 : Hid (Below w5.heap.size w5 w5) := Below.refl _ _
    obtain ⟨W6, hW6⟩ : ∃ W, W = w5.alloc (.cells #[.slice pap LA.length pcp, .slice pbp EA.length pdp] 30) := ⟨_, rfl⟩
    have hb : Below w5.heap.size w5 W6 := by rw [hW6]; exact (Below.refl _ _).alloc (Nat.le_refl _) _
    have lp : w5.heap.size < W6.heap.size := by rw [hW6]; simp only [World.size_alloc]; omega
    have vp : W6.cell? ⟨w5.heap.size, 0, none⟩ = some (.slice pap LA.length pcp) := by rw [hW6]; go_simp
    have up : W6.cell? ⟨w5.heap.size, 1, none⟩ = some (.slice pbp EA.length pdp) := by rw [hW6]; go_simp
    replace vx := (hb.cell (p := ⟨w1.heap.size, 0, none⟩) lx).trans vx
    replace ux := (hb.cell (p := ⟨w1.heap.size, 1, none⟩) lx).trans ux
    replace vy := (hb.cell (p := ⟨w1.heap.size + 1, 0, none⟩) ly).trans vy
    replace uy := (hb.cell (p := ⟨w1.heap.size + 1, 1, none⟩) ly).trans uy
    have K4' : Hid (Below w1.heap.size w1 W6) := K4.out.trans (hb.mono K4.out.size)
    clear K4
    have K4 := K4'
    clear K4'
    have K5' : Hid (Below w5.heap.size w5 W6) := K5.out.trans (hb.mono K5.out.size)
    clear K5
    have K5 := K5'
    clear K5'
    replace hB : Below w.heap.size w W6 := hB.trans (hb.mono hB.size)
    replace lx : w1.heap.size < W6.heap.size := by have := hb.size; omega
    replace ly : w1.heap.size + 1 < W6.heap.size := by have := hb.size; omega
    clear hb
    go_upto_region 29 with fail
    rw [← hW6]
    clear hW6
    go_wp2_with fail
    refine (CB.out _ (HMy.out.below K4.out) (HEy.out.below K4.out)).mono ?_
    rintro e w7 ⟨⟨r, q, rfl, us, ho⟩, hb⟩
    obtain ⟨paq, pcq, hz1⟩ := ho.1.slice
    obtain ⟨pbq, pdq, hz2⟩ := ERow.slice ho.2.1
    subst hz1 hz2
    have HMq : Hid (MAt w7 w7.heap.size (.slice paq LB.length pcq) LB) := ho.1.at
    have HEq : Hid (EAt w7 w7.heap.size (.slice pbq EB.length pdq) EB) := EAt.own ho.2.1
    clear ho
    replace vx := (hb.cell (p := ⟨w1.heap.size, 0, none⟩) lx).trans vx
    replace ux := (hb.cell (p := ⟨w1.heap.size, 1, none⟩) lx).trans ux
    replace vy := (hb.cell (p := ⟨w1.heap.size + 1, 0, none⟩) ly).trans vy
    replace uy := (hb.cell (p := ⟨w1.heap.size + 1, 1, none⟩) ly).trans uy
    replace vp := (hb.cell (p := ⟨w5.heap.size, 0, none⟩) lp).trans vp
    replace up := (hb.cell (p := ⟨w5.heap.size, 1, none⟩) lp).trans up
    have K4' : Hid (Below w1.heap.size w1 w7) := K4.out.trans (hb.mono K4.out.size)
    clear K4
    have K4 := K4'
    clear K4'
    have K5' : Hid (Below w5.heap.size w5 w7) := K5.out.trans (hb.mono K5.out.size)
    clear K5
    have K5 := K5'
    clear K5'
    replace hB : Below w.heap.size w w7 := hB.trans (hb.mono hB.size)
    replace lx : w1.heap.size < w7.heap.size := by have := hb.size; omega
    replace ly : w1.heap.size + 1 < w7.heap.size := by have := hb.size; omega
    replace lp : w5.heap.size < w7.heap.size := by have := hb.size; omega
    clear hb
    have K6 : Hid (Below w7.heap.size w7 w7) := Below.refl _ _
    obtain ⟨W8, hW8⟩ : ∃ W, W = w7.alloc (.cells #[.slice paq LB.length pcq, .slice pbq EB.length pdq] 30) := ⟨_, rfl⟩
    have hb : Below w7.heap.size w7 W8 := by rw [hW8]; exact (Below.refl _ _).alloc (Nat.le_refl _) _
    have lq : w7.heap.size < W8.heap.size := by rw [hW8]; simp only [World.size_alloc]; omega
    have vq : W8.cell? ⟨w7.heap.size, 0, none⟩ = some (.slice paq LB.length pcq) := by rw [hW8]; go_simp
    have uq : W8.cell? ⟨w7.heap.size, 1, none⟩ = some (.slice pbq EB.length pdq) := by rw [hW8]; go_simp
    replace vx := (hb.cell (p := ⟨w1.heap.size, 0, none⟩) lx).trans vx
    replace ux := (hb.cell (p := ⟨w1.heap.size, 1, none⟩) lx).trans ux
    replace vy := (hb.cell (p := ⟨w1.heap.size + 1, 0, none⟩) ly).trans vy
    replace uy := (hb.cell (p := ⟨w1.heap.size + 1, 1, none⟩) ly).trans uy
    replace vp := (hb.cell (p := ⟨w5.heap.size, 0, none⟩) lp).trans vp
    replace up := (hb.cell (p := ⟨w5.heap.size, 1, none⟩) lp).trans up
    have K4' : Hid (Below w1.heap.size w1 W8) := K4.out.trans (hb.mono K4.out.size)
    clear K4
    have K4 := K4'
    clear K4'
    have K5' : Hid (Below w5.heap.size w5 W8) := K5.out.trans (hb.mono K5.out.size)
    clear K5
    have K5 := K5'
    clear K5'
    have K6' : Hid (Below w7.heap.size w7 W8) := K6.out.trans (hb.mono K6.out.size)
    clear K6
    have K6 := K6'
    clear K6'
    replace hB : Below w.heap.size w W8 := hB.trans (hb.mono hB.size)
    replace lx : w1.heap.size < W8.heap.size := by have := hb.size; omega
    replace ly : w1.heap.size + 1 < W8.heap.size := by have := hb.size; omega
    replace lp : w5.heap.size < W8.heap.size := by have := hb.size; omega
    clear hb
    go_upto_region 30 with fail
    rw [← hW8]
    clear hW8
    go_wp2_with fail
    refine (sameM_any LA LB EA EB _ _ _ _ _ (HMp.out.below K5.out) (HMq.out.below K6.out) (HEp.out.below K5.out) (HEq.out.below K6.out) (by have := HLL.out.1; omega) (fun i hi => by have := HLL.out.2.2 i hi; omega) (by have := HLL.out.2.1; omega)).mono ?_
    rintro e w9 ⟨rfl, hb⟩
    rw [HSD'.out]
    replace vx := (hb.cell (p := ⟨w1.heap.size, 0, none⟩) lx).trans vx
    replace ux := (hb.cell (p := ⟨w1.heap.size, 1, none⟩) lx).trans ux
    replace vy := (hb.cell (p := ⟨w1.heap.size + 1, 0, none⟩) ly).trans vy
    replace uy := (hb.cell (p := ⟨w1.heap.size + 1, 1, none⟩) ly).trans uy
    replace vp := (hb.cell (p := ⟨w5.heap.size, 0, none⟩) lp).trans vp
    replace up := (hb.cell (p := ⟨w5.heap.size, 1, none⟩) lp).trans up
    replace vq := (hb.cell (p := ⟨w7.heap.size, 0, none⟩) lq).trans vq
    replace uq := (hb.cell (p := ⟨w7.heap.size, 1, none⟩) lq).trans uq
    have K4' : Hid (Below w1.heap.size w1 w9) := K4.out.trans (hb.mono K4.out.size)
    clear K4
    have K4 := K4'
    clear K4'
    have K5' : Hid (Below w5.heap.size w5 w9) := K5.out.trans (hb.mono K5.out.size)
    clear K5
    have K5 := K5'
    clear K5'
    have K6' : Hid (Below w7.heap.size w7 w9) := K6.out.trans (hb.mono K6.out.size)
    clear K6
    have K6 := K6'
    clear K6'
    replace hB : Below w.heap.size w w9 := hB.trans (hb.mono hB.size)
    replace lx : w1.heap.size < w9.heap.size := by have := hb.size; omega
    replace ly : w1.heap.size + 1 < w9.heap.size := by have := hb.size; omega
    replace lp : w5.heap.size < w9.heap.size := by have := hb.size; omega
    replace lq : w7.heap.size < w9.heap.size := by have := hb.size; omega
    clear hb CA CB HSD'
    clear vp up lp
    clear vq uq lq
    clear HMp HEp HMq HEq K5 K6
    cases sm with
    | true =>
      go_wp2
      go_ret
      exact ⟨rfl, hB⟩
    | false =>
      have HQ : Hid (T.size ≤ 60 → (ka = true ∧ kb = true) ∧ ua ≠ ub) := HPT'.out (by trivial)
      clear HPT'
      go_wp2_with fail
      refine (RA.out _ (HMx.out.below K4.out) (HEx.out.below K4.out)).mono ?_
      rintro e w10 ⟨rfl, hb⟩
      replace vx := (hb.cell (p := ⟨w1.heap.size, 0, none⟩) lx).trans vx
      replace ux := (hb.cell (p := ⟨w1.heap.size, 1, none⟩) lx).trans ux
      replace vy := (hb.cell (p := ⟨w1.heap.size + 1, 0, none⟩) ly).trans vy
      replace uy := (hb.cell (p := ⟨w1.heap.size + 1, 1, none⟩) ly).trans uy
      have K4' : Hid (Below w1.heap.size w1 w10) := K4.out.trans (hb.mono K4.out.size)
      clear K4
      have K4 := K4'
      clear K4'
      replace hB : Below w.heap.size w w10 := hB.trans (hb.mono hB.size)
      replace lx : w1.heap.size < w10.heap.size := by have := hb.size; omega
      replace ly : w1.heap.size + 1 < w10.heap.size := by have := hb.size; omega
      clear hb
      go_wp2_with fail
      refine (RB.out _ (HMy.out.below K4.out) (HEy.out.below K4.out)).mono ?_
      rintro e w11 ⟨rfl, hb⟩
      replace vx := (hb.cell (p := ⟨w1.heap.size, 0, none⟩) lx).trans vx
      replace ux := (hb.cell (p := ⟨w1.heap.size, 1, none⟩) lx).trans ux
      replace vy := (hb.cell (p := ⟨w1.heap.size + 1, 0, none⟩) ly).trans vy
      replace uy := (hb.cell (p := ⟨w1.heap.size + 1, 1, none⟩) ly).trans uy
      have K4' : Hid (Below w1.heap.size w1 w11) := K4.out.trans (hb.mono K4.out.size)
      clear K4
      have K4 := K4'
      clear K4'
      replace hB : Below w.heap.size w w11 := hB.trans (hb.mono hB.size)
      replace lx : w1.heap.size < w11.heap.size := by have := hb.size; omega
      replace ly : w1.heap.size + 1 < w11.heap.size := by have := hb.size; omega
      clear hb
      by_cases h60 : 60 < T.size
      · have d : decide ((60 : Int) < (T.size : Int)) = true := by simp; omega
        have d2 : (60 : Int) < (T.size : Int) := by omega
        go_wp2
        go_ret
        exact ⟨rfl, hB⟩
      · have d : decide ((60 : Int) < (T.size : Int)) = false := by simp; omega
        have d2 : ¬ ((60 : Int) < (T.size : Int)) := by omega
        obtain ⟨⟨k1, k2⟩, k3⟩ := HQ.out (by omega)
        subst k1 k2
        clear HQ
        cases ua <;> cases ub
        · exact absurd rfl k3
        · clear k3
          go_wp2
          go_ret
          exact ⟨rfl, hB⟩
        · clear k3
          go_wp2
          go_ret
          exact ⟨rfl, hB⟩
        · exact absurd rfl k3

end Go.Proofs.Ytecgjhnihagleaa
