/- The law FnLanguages from its two machines on. -/
import Derived.Test.YtecgjhnihagleaaMcLc
import Derived.Test.YtecgjhnihagleaaMcHa
import Derived.Test.YtecgjhnihagleaaMcGg
import Derived.Test.YtecgjhnihagleaaXo
import Derived.Test.YtecgjhnihagleaaMcMs
import Derived.Test.YtecgjhnihagleaaMcDf
namespace Go.Proofs.Ytecgjhnihagleaa
open Go.RowKit Plain Mch Tpc

noncomputable def lan14Code : Code := ((Try.f5.body.bind (mTail 14)).getD .skip)

set_option maxRecDepth 1000000 in
set_option maxHeartbeats 16000000 in
theorem lan14 (w wz : World) (a1 : Option Addr) (len1 cap1 : Nat) (s : ByteArray) (ok : Bool) (hsx : s.size ≤ maxLen) (HOK : Hid (ok = true → s.size ≤ 60 ∧ abc s = true)) (hcode : CodeAt wz a1 len1) (hB : Below w.heap.size w wz)
    (c0 c2 c3 c4 c5 c7 c9 c10 c11 c12 c13 c14 c15 c16 c17 c18 c19 c20 c21 c22 c23 c24 c25 c26 c27 c28 c29 c30 c31 c32 c33 c34 c35 c36 c37 c38 c39 c40 c41 c42 c43 c44 c45 c46 c47 c48 c49 c50 c51 c52 c53 c54 c55 c56 c57 c58 c59 c60 c61 c62 c63 c64 c65 c66 c67 c68 c69 c70 c71 c72 c73 c74 c75 c76 c77 c78 c79 c80 c81 c82 c83 c84 c85 c86 c87 c88 c89 c90 c91 c92 c93 c94 c95 c96 c97 c98 c99 c100 c101 c102 c103 c104 c105 c106 c107 c108 c109 c110 c111 c112 c113 c114 c115 c116 c117 c118 c119 c120 c121 c122 c123 c124 c125 c126 c127 c128 c129 c130 c131 c132 c133 c134 c135 c136 c137 c138 c139 c140 c141 c142 c143 c144 c145 c146 c147 c148 c149 c150 c151 c152 c153 c154 c155 c156 c157 c158 c159 c160 c161 c162 c163 c164 c165 c166 c167 c168 c169 c170 c171 c172 c173 c174 c175 c176 c177 c178 c179 c180 c181 c182 c183 c184 c185 c186 c187 c188 c189 c190 c191 c192 c193 c194 c195 c196 c197 c198 c199 c200 c201 c202 c203 c204 c205 c206 c207 c208 c209 c210 c211 c212 c213 c214 c215 c216 c217 c218 c219 c220 c221 c222 c223 : Value) :
    Code.wp Try.prog lan14Code (bodyPost Try.prog Try.f5 fun e w' => e = .returned (.bool true) ∧ Below w.heap.size w w') ⟨#[c0, .slice a1 len1 cap1, c2, c3, c4, c5, .string s, c7, .bool ok, c9, c10, c11, c12, c13, c14, c15, c16, c17, c18, c19, c20, c21, c22, c23, c24, c25, c26, c27, c28, c29, c30, c31, c32, c33, c34, c35, c36, c37, c38, c39, c40, c41, c42, c43, c44, c45, c46, c47, c48, c49, c50, c51, c52, c53, c54, c55, c56, c57, c58, c59, c60, c61, c62, c63, c64, c65, c66, c67, c68, c69, c70, c71, c72, c73, c74, c75, c76, c77, c78, c79, c80, c81, c82, c83, c84, c85, c86, c87, c88, c89, c90, c91, c92, c93, c94, c95, c96, c97, c98, c99, c100, c101, c102, c103, c104, c105, c106, c107, c108, c109, c110, c111, c112, c113, c114, c115, c116, c117, c118, c119, c120, c121, c122, c123, c124, c125, c126, c127, c128, c129, c130, c131, c132, c133, c134, c135, c136, c137, c138, c139, c140, c141, c142, c143, c144, c145, c146, c147, c148, c149, c150, c151, c152, c153, c154, c155, c156, c157, c158, c159, c160, c161, c162, c163, c164, c165, c166, c167, c168, c169, c170, c171, c172, c173, c174, c175, c176, c177, c178, c179, c180, c181, c182, c183, c184, c185, c186, c187, c188, c189, c190, c191, c192, c193, c194, c195, c196, c197, c198, c199, c200, c201, c202, c203, c204, c205, c206, c207, c208, c209, c210, c211, c212, c213, c214, c215, c216, c217, c218, c219, c220, c221, c222, c223], []⟩ wz := by
  conv => arg 2; whnf
  have H1 : Hid (CodeAt wz a1 len1) := hcode
  clear hcode
  have HS0 : Hid (Below wz.heap.size wz wz) := Below.refl _ _
  go_wp2_with fail
  refine (drawMeetM_any a1 len1 cap1 _ H1.out).mono ?_
  rintro e w1 ⟨⟨ra, qa, rb, qb, rfl, A, F, B, J, us, ts, ⟨hoA, hsA⟩, hoB, hsB⟩, hb⟩
  obtain ⟨pax, pcx, hz1⟩ := hoA.1.slice
  obtain ⟨pbx, pdx, hz2⟩ := ERow.slice hoA.2.1
  subst hz1 hz2
  have HMx : Hid (MAt w1 w1.heap.size (.slice pax A.length pcx) A) := hoA.1.at
  have HEx : Hid (EAt w1 w1.heap.size (.slice pbx F.length pdx) F) := EAt.own hoA.2.1
  clear hoA
  obtain ⟨pay, pcy, hz1⟩ := hoB.1.slice
  obtain ⟨pby, pdy, hz2⟩ := ERow.slice hoB.2.1
  subst hz1 hz2
  have HMy : Hid (MAt w1 w1.heap.size (.slice pay B.length pcy) B) := hoB.1.at
  have HEy : Hid (EAt w1 w1.heap.size (.slice pby J.length pdy) J) := EAt.own hoB.2.1
  clear hoB
  have HSA : Hid (Sml A F) := hsA
  have HSB : Hid (Sml B J) := hsB
  clear hsA hsB
  have HS0' : Hid (Below wz.heap.size wz w1) := HS0.out.trans (hb.mono HS0.out.size)
  clear HS0
  have HS0 := HS0'
  clear HS0'
  replace hB : Below w.heap.size w w1 := hB.trans (hb.mono hB.size)
  clear hb
  have K4 : Hid (Below w1.heap.size w1 w1) := Below.refl _ _
  obtain ⟨mo, hmo⟩ : ∃ x, x = mok A F B J := ⟨_, rfl⟩
  obtain ⟨RM, hRM⟩ : ∃ x, x = meM A F B J := ⟨_, rfl⟩
  obtain ⟨RE, hRE⟩ : ∃ x, x = meE A F B J := ⟨_, rfl⟩
  obtain ⟨ga, hga⟩ : ∃ x, x = gm A F := ⟨_, rfl⟩
  obtain ⟨CO, hCO⟩ : ∃ x, x = clo A F := ⟨_, rfl⟩
  obtain ⟨cn, hcn⟩ : ∃ x, x = clw A F := ⟨_, rfl⟩
  have HRL : Hid (RM.length ≤ 12 ∧ RE.length ≤ 12 ∧ ∀ i, i < RM.length → (rx RM i).length ≤ 3) := by show _ ∧ _; rw [hRM, hRE]; exact me_len A F B J
  have HCL : Hid (CO.length ≤ 12) := by show _ ≤ _; rw [hCO]; exact clo_len A F
  have HME : Hid (mo = true → ok = true → (rok A F s = true ∧ rok B J s = true ∧ rok RM RE s = true) ∧ rto RM RE s = (rto A F s && rto B J s)) := fun h h2 => by
    rw [hmo] at h
    obtain ⟨k1, k2⟩ := HOK.out h2
    rw [hRM, hRE]
    exact me_run h k1 k2
  have CM : Hid (∀ W : World, MAt W W.heap.size (.slice pax A.length pcx) A → EAt W W.heap.size (.slice pbx F.length pdx) F → MAt W W.heap.size (.slice pay B.length pcy) B → EAt W W.heap.size (.slice pby J.length pdy) J → (Calls Try.prog 26 #[.agg #[.slice pax A.length pcx, .slice pbx F.length pdx], .agg #[.slice pay B.length pcy, .slice pby J.length pdy]] W fun x w' => (∃ r q, x = .returned (.tuple #[.agg #[r, q], .bool mo]) ∧ ∃ us, MaOwn w' W.heap.size r q RM RE us) ∧ Below W.heap.size W w') ∧ Calls Try.prog 27 #[.agg #[.slice pax A.length pcx, .slice pbx F.length pdx], .agg #[.slice pay B.length pcy, .slice pby J.length pdy]] W fun x w' => (∃ r q, x = .returned (.tuple #[.agg #[r, q], .bool mo]) ∧ ∃ us, MaOwn w' W.heap.size r q RM RE us) ∧ Below W.heap.size W w') := fun W h1 h2 h3 h4 => by rw [hmo, hRM, hRE]; exact ⟨implMeet A F _ _ B J _ _ W h1 h2 h3 h4, specMeet A F _ _ B J _ _ W h1 h2 h3 h4⟩
  have CC : Hid (∀ W : World, MAt W W.heap.size (.slice pax A.length pcx) A → EAt W W.heap.size (.slice pbx F.length pdx) F → (Calls Try.prog 10 #[.agg #[.slice pax A.length pcx, .slice pbx F.length pdx]] W fun x w' => (∃ r, x = .returned (.tuple #[r, .int .i64 (cn : Int), .bool ga]) ∧ ZRow w' W.heap.size r CO) ∧ Below W.heap.size W w') ∧ Calls Try.prog 8 #[.agg #[.slice pax A.length pcx, .slice pbx F.length pdx]] W fun x w' => (∃ r, x = .returned (.tuple #[r, .int .i64 (cn : Int), .bool ga]) ∧ ZRow w' W.heap.size r CO) ∧ Below W.heap.size W w') := fun W h1 h2 => by rw [hga, hCO, hcn]; exact ⟨implClasses A F _ _ W h1 h2, specClasses A F _ _ W h1 h2⟩
  clear hmo hRM hRE hga hCO hcn
  obtain ⟨W2, hW2⟩ : ∃ W, W = (w1.alloc (.cells #[.slice pax A.length pcx, .slice pbx F.length pdx] 30)).alloc (.cells #[.slice pay B.length pcy, .slice pby J.length pdy] 30) := ⟨_, rfl⟩
  have hb : Below w1.heap.size w1 W2 := by rw [hW2]; exact ((Below.refl _ _).alloc (Nat.le_refl _) _).alloc (by simp) _
  have lx : w1.heap.size < W2.heap.size := by rw [hW2]; simp only [World.size_alloc]; omega
  have vx : W2.cell? ⟨w1.heap.size, 0, none⟩ = some (.slice pax A.length pcx) := by rw [hW2]; go_simp
  have ux : W2.cell? ⟨w1.heap.size, 1, none⟩ = some (.slice pbx F.length pdx) := by rw [hW2]; go_simp
  have ly : w1.heap.size + 1 < W2.heap.size := by rw [hW2]; simp only [World.size_alloc]; omega
  have vy : W2.cell? ⟨w1.heap.size + 1, 0, none⟩ = some (.slice pay B.length pcy) := by rw [hW2]; go_simp
  have uy : W2.cell? ⟨w1.heap.size + 1, 1, none⟩ = some (.slice pby J.length pdy) := by rw [hW2]; go_simp
  have HS0' : Hid (Below wz.heap.size wz W2) := HS0.out.trans (hb.mono HS0.out.size)
  clear HS0
  have HS0 := HS0'
  clear HS0'
  have K4' : Hid (Below w1.heap.size w1 W2) := K4.out.trans (hb.mono K4.out.size)
  clear K4
  have K4 := K4'
  clear K4'
  replace hB : Below w.heap.size w W2 := hB.trans (hb.mono hB.size)
  clear hb
  go_upto_region 15 with fail
  rw [← hW2]
  clear hW2
  go_wp2_with fail
  refine ((CM.out _ (HMx.out.below K4.out) (HEx.out.below K4.out) (HMy.out.below K4.out) (HEy.out.below K4.out)).1).mono ?_
  rintro e w3 ⟨⟨r, q, rfl, us, ho⟩, hb⟩
  obtain ⟨pap, pcp, hz1⟩ := ho.1.slice
  obtain ⟨pbp, pdp, hz2⟩ := ERow.slice ho.2.1
  subst hz1 hz2
  have HMp : Hid (MAt w3 w3.heap.size (.slice pap RM.length pcp) RM) := ho.1.at
  have HEp : Hid (EAt w3 w3.heap.size (.slice pbp RE.length pdp) RE) := EAt.own ho.2.1
  clear ho
  replace vx := (hb.cell (p := ⟨w1.heap.size, 0, none⟩) lx).trans vx
  replace ux := (hb.cell (p := ⟨w1.heap.size, 1, none⟩) lx).trans ux
  replace vy := (hb.cell (p := ⟨w1.heap.size + 1, 0, none⟩) ly).trans vy
  replace uy := (hb.cell (p := ⟨w1.heap.size + 1, 1, none⟩) ly).trans uy
  have HS0' : Hid (Below wz.heap.size wz w3) := HS0.out.trans (hb.mono HS0.out.size)
  clear HS0
  have HS0 := HS0'
  clear HS0'
  have K4' : Hid (Below w1.heap.size w1 w3) := K4.out.trans (hb.mono K4.out.size)
  clear K4
  have K4 := K4'
  clear K4'
  replace hB : Below w.heap.size w w3 := hB.trans (hb.mono hB.size)
  replace lx : w1.heap.size < w3.heap.size := by have := hb.size; omega
  replace ly : w1.heap.size + 1 < w3.heap.size := by have := hb.size; omega
  clear hb
  have K5 : Hid (Below w3.heap.size w3 w3) := Below.refl _ _
  obtain ⟨W4, hW4⟩ : ∃ W, W = w3.alloc (.cells #[.slice pap RM.length pcp, .slice pbp RE.length pdp] 30) := ⟨_, rfl⟩
  have hb : Below w3.heap.size w3 W4 := by rw [hW4]; exact (Below.refl _ _).alloc (Nat.le_refl _) _
  have lp : w3.heap.size < W4.heap.size := by rw [hW4]; simp only [World.size_alloc]; omega
  have vp : W4.cell? ⟨w3.heap.size, 0, none⟩ = some (.slice pap RM.length pcp) := by rw [hW4]; go_simp
  have up : W4.cell? ⟨w3.heap.size, 1, none⟩ = some (.slice pbp RE.length pdp) := by rw [hW4]; go_simp
  replace vx := (hb.cell (p := ⟨w1.heap.size, 0, none⟩) lx).trans vx
  replace ux := (hb.cell (p := ⟨w1.heap.size, 1, none⟩) lx).trans ux
  replace vy := (hb.cell (p := ⟨w1.heap.size + 1, 0, none⟩) ly).trans vy
  replace uy := (hb.cell (p := ⟨w1.heap.size + 1, 1, none⟩) ly).trans uy
  have HS0' : Hid (Below wz.heap.size wz W4) := HS0.out.trans (hb.mono HS0.out.size)
  clear HS0
  have HS0 := HS0'
  clear HS0'
  have K4' : Hid (Below w1.heap.size w1 W4) := K4.out.trans (hb.mono K4.out.size)
  clear K4
  have K4 := K4'
  clear K4'
  have K5' : Hid (Below w3.heap.size w3 W4) := K5.out.trans (hb.mono K5.out.size)
  clear K5
  have K5 := K5'
  clear K5'
  replace hB : Below w.heap.size w W4 := hB.trans (hb.mono hB.size)
  replace lx : w1.heap.size < W4.heap.size := by have := hb.size; omega
  replace ly : w1.heap.size + 1 < W4.heap.size := by have := hb.size; omega
  clear hb
  go_upto_region 16 with fail
  rw [← hW4]
  clear hW4
  go_wp2_with fail
  refine ((CM.out _ (HMx.out.below K4.out) (HEx.out.below K4.out) (HMy.out.below K4.out) (HEy.out.below K4.out)).2).mono ?_
  rintro e w5 ⟨⟨r, q, rfl, us, ho⟩, hb⟩
  obtain ⟨paz, pcz, hz1⟩ := ho.1.slice
  obtain ⟨pbz, pdz, hz2⟩ := ERow.slice ho.2.1
  subst hz1 hz2
  have HMz : Hid (MAt w5 w5.heap.size (.slice paz RM.length pcz) RM) := ho.1.at
  have HEz : Hid (EAt w5 w5.heap.size (.slice pbz RE.length pdz) RE) := EAt.own ho.2.1
  clear ho
  replace vx := (hb.cell (p := ⟨w1.heap.size, 0, none⟩) lx).trans vx
  replace ux := (hb.cell (p := ⟨w1.heap.size, 1, none⟩) lx).trans ux
  replace vy := (hb.cell (p := ⟨w1.heap.size + 1, 0, none⟩) ly).trans vy
  replace uy := (hb.cell (p := ⟨w1.heap.size + 1, 1, none⟩) ly).trans uy
  replace vp := (hb.cell (p := ⟨w3.heap.size, 0, none⟩) lp).trans vp
  replace up := (hb.cell (p := ⟨w3.heap.size, 1, none⟩) lp).trans up
  have HS0' : Hid (Below wz.heap.size wz w5) := HS0.out.trans (hb.mono HS0.out.size)
  clear HS0
  have HS0 := HS0'
  clear HS0'
  have K4' : Hid (Below w1.heap.size w1 w5) := K4.out.trans (hb.mono K4.out.size)
  clear K4
  have K4 := K4'
  clear K4'
  have K5' : Hid (Below w3.heap.size w3 w5) := K5.out.trans (hb.mono K5.out.size)
  clear K5
  have K5 := K5'
  clear K5'
  replace hB : Below w.heap.size w w5 := hB.trans (hb.mono hB.size)
  replace lx : w1.heap.size < w5.heap.size := by have := hb.size; omega
  replace ly : w1.heap.size + 1 < w5.heap.size := by have := hb.size; omega
  replace lp : w3.heap.size < w5.heap.size := by have := hb.size; omega
  clear hb
  have K6 : Hid (Below w5.heap.size w5 w5) := Below.refl _ _
  obtain ⟨W6, hW6⟩ : ∃ W, W = w5.alloc (.cells #[.slice paz RM.length pcz, .slice pbz RE.length pdz] 30) := ⟨_, rfl⟩
  have hb : Below w5.heap.size w5 W6 := by rw [hW6]; exact (Below.refl _ _).alloc (Nat.le_refl _) _
  have lz : w5.heap.size < W6.heap.size := by rw [hW6]; simp only [World.size_alloc]; omega
  have vz : W6.cell? ⟨w5.heap.size, 0, none⟩ = some (.slice paz RM.length pcz) := by rw [hW6]; go_simp
  have uz : W6.cell? ⟨w5.heap.size, 1, none⟩ = some (.slice pbz RE.length pdz) := by rw [hW6]; go_simp
  replace vx := (hb.cell (p := ⟨w1.heap.size, 0, none⟩) lx).trans vx
  replace ux := (hb.cell (p := ⟨w1.heap.size, 1, none⟩) lx).trans ux
  replace vy := (hb.cell (p := ⟨w1.heap.size + 1, 0, none⟩) ly).trans vy
  replace uy := (hb.cell (p := ⟨w1.heap.size + 1, 1, none⟩) ly).trans uy
  replace vp := (hb.cell (p := ⟨w3.heap.size, 0, none⟩) lp).trans vp
  replace up := (hb.cell (p := ⟨w3.heap.size, 1, none⟩) lp).trans up
  have HS0' : Hid (Below wz.heap.size wz W6) := HS0.out.trans (hb.mono HS0.out.size)
  clear HS0
  have HS0 := HS0'
  clear HS0'
  have K4' : Hid (Below w1.heap.size w1 W6) := K4.out.trans (hb.mono K4.out.size)
  clear K4
  have K4 := K4'
  clear K4'
  have K5' : Hid (Below w3.heap.size w3 W6) := K5.out.trans (hb.mono K5.out.size)
  clear K5
  have K5 := K5'
  clear K5'
  have K6' : Hid (Below w5.heap.size w5 W6) := K6.out.trans (hb.mono K6.out.size)
  clear K6
  have K6 := K6'
  clear K6'
  replace hB : Below w.heap.size w W6 := hB.trans (hb.mono hB.size)
  replace lx : w1.heap.size < W6.heap.size := by have := hb.size; omega
  replace ly : w1.heap.size + 1 < W6.heap.size := by have := hb.size; omega
  replace lp : w3.heap.size < W6.heap.size := by have := hb.size; omega
  clear hb
  go_upto_region 17 with fail
  rw [← hW6]
  clear hW6
  go_wp2_with fail
  refine ((CC.out _ (HMx.out.below K4.out) (HEx.out.below K4.out)).1).mono ?_
  rintro e w7 ⟨⟨r, rfl, ho⟩, hb⟩
  obtain ⟨ag1, cg1, hz⟩ := ZRow.slice ho
  subst hz
  have HZ1 : Hid (ZAt w7 w7.heap.size (.slice ag1 CO.length cg1) CO) := ZAt.own ho
  clear ho
  replace vx := (hb.cell (p := ⟨w1.heap.size, 0, none⟩) lx).trans vx
  replace ux := (hb.cell (p := ⟨w1.heap.size, 1, none⟩) lx).trans ux
  replace vy := (hb.cell (p := ⟨w1.heap.size + 1, 0, none⟩) ly).trans vy
  replace uy := (hb.cell (p := ⟨w1.heap.size + 1, 1, none⟩) ly).trans uy
  replace vp := (hb.cell (p := ⟨w3.heap.size, 0, none⟩) lp).trans vp
  replace up := (hb.cell (p := ⟨w3.heap.size, 1, none⟩) lp).trans up
  replace vz := (hb.cell (p := ⟨w5.heap.size, 0, none⟩) lz).trans vz
  replace uz := (hb.cell (p := ⟨w5.heap.size, 1, none⟩) lz).trans uz
  have HS0' : Hid (Below wz.heap.size wz w7) := HS0.out.trans (hb.mono HS0.out.size)
  clear HS0
  have HS0 := HS0'
  clear HS0'
  have K4' : Hid (Below w1.heap.size w1 w7) := K4.out.trans (hb.mono K4.out.size)
  clear K4
  have K4 := K4'
  clear K4'
  have K5' : Hid (Below w3.heap.size w3 w7) := K5.out.trans (hb.mono K5.out.size)
  clear K5
  have K5 := K5'
  clear K5'
  have K6' : Hid (Below w5.heap.size w5 w7) := K6.out.trans (hb.mono K6.out.size)
  clear K6
  have K6 := K6'
  clear K6'
  replace hB : Below w.heap.size w w7 := hB.trans (hb.mono hB.size)
  replace lx : w1.heap.size < w7.heap.size := by have := hb.size; omega
  replace ly : w1.heap.size + 1 < w7.heap.size := by have := hb.size; omega
  replace lp : w3.heap.size < w7.heap.size := by have := hb.size; omega
  replace lz : w5.heap.size < w7.heap.size := by have := hb.size; omega
  clear hb
  have K7 : Hid (Below w7.heap.size w7 w7) := Below.refl _ _
  go_wp2_with fail
  refine ((CC.out _ (HMx.out.below K4.out) (HEx.out.below K4.out)).2).mono ?_
  rintro e w8 ⟨⟨r, rfl, ho⟩, hb⟩
  obtain ⟨ag2, cg2, hz⟩ := ZRow.slice ho
  subst hz
  have HZ2 : Hid (ZAt w8 w8.heap.size (.slice ag2 CO.length cg2) CO) := ZAt.own ho
  clear ho
  replace vx := (hb.cell (p := ⟨w1.heap.size, 0, none⟩) lx).trans vx
  replace ux := (hb.cell (p := ⟨w1.heap.size, 1, none⟩) lx).trans ux
  replace vy := (hb.cell (p := ⟨w1.heap.size + 1, 0, none⟩) ly).trans vy
  replace uy := (hb.cell (p := ⟨w1.heap.size + 1, 1, none⟩) ly).trans uy
  replace vp := (hb.cell (p := ⟨w3.heap.size, 0, none⟩) lp).trans vp
  replace up := (hb.cell (p := ⟨w3.heap.size, 1, none⟩) lp).trans up
  replace vz := (hb.cell (p := ⟨w5.heap.size, 0, none⟩) lz).trans vz
  replace uz := (hb.cell (p := ⟨w5.heap.size, 1, none⟩) lz).trans uz
  have HS0' : Hid (Below wz.heap.size wz w8) := HS0.out.trans (hb.mono HS0.out.size)
  clear HS0
  have HS0 := HS0'
  clear HS0'
  have K4' : Hid (Below w1.heap.size w1 w8) := K4.out.trans (hb.mono K4.out.size)
  clear K4
  have K4 := K4'
  clear K4'
  have K5' : Hid (Below w3.heap.size w3 w8) := K5.out.trans (hb.mono K5.out.size)
  clear K5
  have K5 := K5'
  clear K5'
  have K6' : Hid (Below w5.heap.size w5 w8) := K6.out.trans (hb.mono K6.out.size)
  clear K6
  have K6 := K6'
  clear K6'
  have K7' : Hid (Below w7.heap.size w7 w8) := K7.out.trans (hb.mono K7.out.size)
  clear K7
  have K7 := K7'
  clear K7'
  replace hB : Below w.heap.size w w8 := hB.trans (hb.mono hB.size)
  replace lx : w1.heap.size < w8.heap.size := by have := hb.size; omega
  replace ly : w1.heap.size + 1 < w8.heap.size := by have := hb.size; omega
  replace lp : w3.heap.size < w8.heap.size := by have := hb.size; omega
  replace lz : w5.heap.size < w8.heap.size := by have := hb.size; omega
  clear hb
  have K8 : Hid (Below w8.heap.size w8 w8) := Below.refl _ _
  have n4 : (mo != mo) = false := bne_self_eq_false _
  have n5 : (ga != ga) = false := bne_self_eq_false _
  have n6 : ((cn : Int) != (cn : Int)) = false := bne_self_eq_false _
  go_wp2_with fail
  refine (sameM_any RM RM RE RE _ _ _ _ _ (HMp.out.below K5.out) (HMz.out.below K6.out) (HEp.out.below K5.out) (HEz.out.below K6.out) (by have := HRL.out.1; omega) (fun i hi => by have := HRL.out.2.2 i hi; omega) (by have := HRL.out.2.1; omega)).mono ?_
  rintro e w9 ⟨rfl, hb⟩
  rw [show decide (RM = RM ∧ RE = RE) = true by simp]
  replace vx := (hb.cell (p := ⟨w1.heap.size, 0, none⟩) lx).trans vx
  replace ux := (hb.cell (p := ⟨w1.heap.size, 1, none⟩) lx).trans ux
  replace vy := (hb.cell (p := ⟨w1.heap.size + 1, 0, none⟩) ly).trans vy
  replace uy := (hb.cell (p := ⟨w1.heap.size + 1, 1, none⟩) ly).trans uy
  replace vp := (hb.cell (p := ⟨w3.heap.size, 0, none⟩) lp).trans vp
  replace up := (hb.cell (p := ⟨w3.heap.size, 1, none⟩) lp).trans up
  replace vz := (hb.cell (p := ⟨w5.heap.size, 0, none⟩) lz).trans vz
  replace uz := (hb.cell (p := ⟨w5.heap.size, 1, none⟩) lz).trans uz
  have HS0' : Hid (Below wz.heap.size wz w9) := HS0.out.trans (hb.mono HS0.out.size)
  clear HS0
  have HS0 := HS0'
  clear HS0'
  have K4' : Hid (Below w1.heap.size w1 w9) := K4.out.trans (hb.mono K4.out.size)
  clear K4
  have K4 := K4'
  clear K4'
  have K5' : Hid (Below w3.heap.size w3 w9) := K5.out.trans (hb.mono K5.out.size)
  clear K5
  have K5 := K5'
  clear K5'
  have K6' : Hid (Below w5.heap.size w5 w9) := K6.out.trans (hb.mono K6.out.size)
  clear K6
  have K6 := K6'
  clear K6'
  have K7' : Hid (Below w7.heap.size w7 w9) := K7.out.trans (hb.mono K7.out.size)
  clear K7
  have K7 := K7'
  clear K7'
  have K8' : Hid (Below w8.heap.size w8 w9) := K8.out.trans (hb.mono K8.out.size)
  clear K8
  have K8 := K8'
  clear K8'
  replace hB : Below w.heap.size w w9 := hB.trans (hb.mono hB.size)
  replace lx : w1.heap.size < w9.heap.size := by have := hb.size; omega
  replace ly : w1.heap.size + 1 < w9.heap.size := by have := hb.size; omega
  replace lp : w3.heap.size < w9.heap.size := by have := hb.size; omega
  replace lz : w5.heap.size < w9.heap.size := by have := hb.size; omega
  clear hb
  go_wp2_with fail
  refine (sameZ_any CO CO _ _ _ (HZ1.out.below K7.out) (HZ2.out.below K8.out) (by have := HCL.out; omega)).mono ?_
  rintro e w10 ⟨rfl, hb⟩
  rw [show decide (CO = CO) = true by simp]
  replace vx := (hb.cell (p := ⟨w1.heap.size, 0, none⟩) lx).trans vx
  replace ux := (hb.cell (p := ⟨w1.heap.size, 1, none⟩) lx).trans ux
  replace vy := (hb.cell (p := ⟨w1.heap.size + 1, 0, none⟩) ly).trans vy
  replace uy := (hb.cell (p := ⟨w1.heap.size + 1, 1, none⟩) ly).trans uy
  replace vp := (hb.cell (p := ⟨w3.heap.size, 0, none⟩) lp).trans vp
  replace up := (hb.cell (p := ⟨w3.heap.size, 1, none⟩) lp).trans up
  replace vz := (hb.cell (p := ⟨w5.heap.size, 0, none⟩) lz).trans vz
  replace uz := (hb.cell (p := ⟨w5.heap.size, 1, none⟩) lz).trans uz
  have HS0' : Hid (Below wz.heap.size wz w10) := HS0.out.trans (hb.mono HS0.out.size)
  clear HS0
  have HS0 := HS0'
  clear HS0'
  have K4' : Hid (Below w1.heap.size w1 w10) := K4.out.trans (hb.mono K4.out.size)
  clear K4
  have K4 := K4'
  clear K4'
  have K5' : Hid (Below w3.heap.size w3 w10) := K5.out.trans (hb.mono K5.out.size)
  clear K5
  have K5 := K5'
  clear K5'
  have K6' : Hid (Below w5.heap.size w5 w10) := K6.out.trans (hb.mono K6.out.size)
  clear K6
  have K6 := K6'
  clear K6'
  have K7' : Hid (Below w7.heap.size w7 w10) := K7.out.trans (hb.mono K7.out.size)
  clear K7
  have K7 := K7'
  clear K7'
  have K8' : Hid (Below w8.heap.size w8 w10) := K8.out.trans (hb.mono K8.out.size)
  clear K8
  have K8 := K8'
  clear K8'
  replace hB : Below w.heap.size w w10 := hB.trans (hb.mono hB.size)
  replace lx : w1.heap.size < w10.heap.size := by have := hb.size; omega
  replace ly : w1.heap.size + 1 < w10.heap.size := by have := hb.size; omega
  replace lp : w3.heap.size < w10.heap.size := by have := hb.size; omega
  replace lz : w5.heap.size < w10.heap.size := by have := hb.size; omega
  clear hb
  clear vz uz lz
  clear CM CC HMz HEz HZ1 HZ2 K6 K7 K8 n4 n5 n6
  go_upto_region 21 with fail
  go_cut [167] (fun s167 wx => s167 = .bool (mo && ok) ∧ wx = w10)
  case first =>
    cases mo <;> cases ok
    all_goals
      go_wp2_with fail
      go_meet
      exact ⟨rfl, rfl⟩
  case rest =>
    obtain ⟨hs167, hwc⟩ := hcut
    subst hs167 hwc
    obtain ⟨dd, hdd⟩ : ∃ d, d = (mo && ok) := ⟨_, rfl⟩
    have HMD : Hid (dd = true → (rok A F s = true ∧ rok B J s = true ∧ rok RM RE s = true) ∧ rto RM RE s = (rto A F s && rto B J s)) := fun h => by
      rw [hdd, Bool.and_eq_true] at h
      exact HME.out h.1 h.2
    rw [← hdd]
    clear hdd HME
    obtain ⟨wb, hwb⟩ : ∃ W, W = wc := ⟨_, rfl⟩
    subst hwb
    go_upto_if 167 with fail
    go_cut [167] (fun s167 wx => s167 = .bool dd ∧ Hid (Below wb.heap.size wb wx))
    case first =>
      cases dd with
      | false =>
        go_wp2_with fail
        go_meet
        exact ⟨rfl, Below.refl _ _⟩
      | true =>
        obtain ⟨⟨t1, t2, t3⟩, t4⟩ := HMD.out (by trivial)
        obtain ⟨ra, hra⟩ : ∃ x, x = rto A F s := ⟨_, rfl⟩
        obtain ⟨rb, hrb⟩ : ∃ x, x = rto B J s := ⟨_, rfl⟩
        have RA : Hid (∀ W : World, MAt W W.heap.size (.slice pax A.length pcx) A → EAt W W.heap.size (.slice pbx F.length pdx) F → Calls Try.prog 20 #[.agg #[.slice pax A.length pcx, .slice pbx F.length pdx], .string s] W fun x w' => x = .returned (.tuple #[.bool ra, .bool true]) ∧ Below W.heap.size W w') := fun W h1 h2 => by rw [← t1, hra]; exact implRunM A F _ _ s W h1 h2 hsx
        have RB : Hid (∀ W : World, MAt W W.heap.size (.slice pay B.length pcy) B → EAt W W.heap.size (.slice pby J.length pdy) J → Calls Try.prog 20 #[.agg #[.slice pay B.length pcy, .slice pby J.length pdy], .string s] W fun x w' => x = .returned (.tuple #[.bool rb, .bool true]) ∧ Below W.heap.size W w') := fun W h1 h2 => by rw [← t2, hrb]; exact implRunM B J _ _ s W h1 h2 hsx
        have RC : Hid (∀ W : World, MAt W W.heap.size (.slice pap RM.length pcp) RM → EAt W W.heap.size (.slice pbp RE.length pdp) RE → Calls Try.prog 20 #[.agg #[.slice pap RM.length pcp, .slice pbp RE.length pdp], .string s] W fun x w' => x = .returned (.tuple #[.bool (ra && rb), .bool true]) ∧ Below W.heap.size W w') := fun W h1 h2 => by rw [← t3, hra, hrb, ← t4]; exact implRunM RM RE _ _ s W h1 h2 hsx
        clear t1 t2 t3 t4 hra hrb HMD
        have hbe : Hid (Below wb.heap.size wb wb) := Below.refl _ _
        go_wp2_with fail
        refine (RA.out _ (HMx.out.below K4.out) (HEx.out.below K4.out)).mono ?_
        rintro e w11 ⟨rfl, hb⟩
        replace vx := (hb.cell (p := ⟨w1.heap.size, 0, none⟩) lx).trans vx
        replace ux := (hb.cell (p := ⟨w1.heap.size, 1, none⟩) lx).trans ux
        replace vy := (hb.cell (p := ⟨w1.heap.size + 1, 0, none⟩) ly).trans vy
        replace uy := (hb.cell (p := ⟨w1.heap.size + 1, 1, none⟩) ly).trans uy
        replace vp := (hb.cell (p := ⟨w3.heap.size, 0, none⟩) lp).trans vp
        replace up := (hb.cell (p := ⟨w3.heap.size, 1, none⟩) lp).trans up
        have HS0' : Hid (Below wz.heap.size wz w11) := HS0.out.trans (hb.mono HS0.out.size)
        clear HS0
        have HS0 := HS0'
        clear HS0'
        have K4' : Hid (Below w1.heap.size w1 w11) := K4.out.trans (hb.mono K4.out.size)
        clear K4
        have K4 := K4'
        clear K4'
        have K5' : Hid (Below w3.heap.size w3 w11) := K5.out.trans (hb.mono K5.out.size)
        clear K5
        have K5 := K5'
        clear K5'
        have hbe' : Hid (Below wb.heap.size wb w11) := hbe.out.trans (hb.mono hbe.out.size)
        clear hbe
        have hbe := hbe'
        clear hbe'
        replace hB : Below w.heap.size w w11 := hB.trans (hb.mono hB.size)
        replace lx : w1.heap.size < w11.heap.size := by have := hb.size; omega
        replace ly : w1.heap.size + 1 < w11.heap.size := by have := hb.size; omega
        replace lp : w3.heap.size < w11.heap.size := by have := hb.size; omega
        clear hb
        go_wp2_with fail
        refine (RB.out _ (HMy.out.below K4.out) (HEy.out.below K4.out)).mono ?_
        rintro e w12 ⟨rfl, hb⟩
        replace vx := (hb.cell (p := ⟨w1.heap.size, 0, none⟩) lx).trans vx
        replace ux := (hb.cell (p := ⟨w1.heap.size, 1, none⟩) lx).trans ux
        replace vy := (hb.cell (p := ⟨w1.heap.size + 1, 0, none⟩) ly).trans vy
        replace uy := (hb.cell (p := ⟨w1.heap.size + 1, 1, none⟩) ly).trans uy
        replace vp := (hb.cell (p := ⟨w3.heap.size, 0, none⟩) lp).trans vp
        replace up := (hb.cell (p := ⟨w3.heap.size, 1, none⟩) lp).trans up
        have HS0' : Hid (Below wz.heap.size wz w12) := HS0.out.trans (hb.mono HS0.out.size)
        clear HS0
        have HS0 := HS0'
        clear HS0'
        have K4' : Hid (Below w1.heap.size w1 w12) := K4.out.trans (hb.mono K4.out.size)
        clear K4
        have K4 := K4'
        clear K4'
        have K5' : Hid (Below w3.heap.size w3 w12) := K5.out.trans (hb.mono K5.out.size)
        clear K5
        have K5 := K5'
        clear K5'
        have hbe' : Hid (Below wb.heap.size wb w12) := hbe.out.trans (hb.mono hbe.out.size)
        clear hbe
        have hbe := hbe'
        clear hbe'
        replace hB : Below w.heap.size w w12 := hB.trans (hb.mono hB.size)
        replace lx : w1.heap.size < w12.heap.size := by have := hb.size; omega
        replace ly : w1.heap.size + 1 < w12.heap.size := by have := hb.size; omega
        replace lp : w3.heap.size < w12.heap.size := by have := hb.size; omega
        clear hb
        go_wp2_with fail
        refine (RC.out _ (HMp.out.below K5.out) (HEp.out.below K5.out)).mono ?_
        rintro e w13 ⟨rfl, hb⟩
        replace vx := (hb.cell (p := ⟨w1.heap.size, 0, none⟩) lx).trans vx
        replace ux := (hb.cell (p := ⟨w1.heap.size, 1, none⟩) lx).trans ux
        replace vy := (hb.cell (p := ⟨w1.heap.size + 1, 0, none⟩) ly).trans vy
        replace uy := (hb.cell (p := ⟨w1.heap.size + 1, 1, none⟩) ly).trans uy
        replace vp := (hb.cell (p := ⟨w3.heap.size, 0, none⟩) lp).trans vp
        replace up := (hb.cell (p := ⟨w3.heap.size, 1, none⟩) lp).trans up
        have HS0' : Hid (Below wz.heap.size wz w13) := HS0.out.trans (hb.mono HS0.out.size)
        clear HS0
        have HS0 := HS0'
        clear HS0'
        have K4' : Hid (Below w1.heap.size w1 w13) := K4.out.trans (hb.mono K4.out.size)
        clear K4
        have K4 := K4'
        clear K4'
        have K5' : Hid (Below w3.heap.size w3 w13) := K5.out.trans (hb.mono K5.out.size)
        clear K5
        have K5 := K5'
        clear K5'
        have hbe' : Hid (Below wb.heap.size wb w13) := hbe.out.trans (hb.mono hbe.out.size)
        clear hbe
        have hbe := hbe'
        clear hbe'
        replace hB : Below w.heap.size w w13 := hB.trans (hb.mono hB.size)
        replace lx : w1.heap.size < w13.heap.size := by have := hb.size; omega
        replace ly : w1.heap.size + 1 < w13.heap.size := by have := hb.size; omega
        replace lp : w3.heap.size < w13.heap.size := by have := hb.size; omega
        clear hb
        cases ra <;> cases rb
        all_goals
          go_wp2_with fail
          go_meet
          exact ⟨rfl, hbe⟩
    case rest =>
      obtain ⟨_, hbc⟩ := hcut
      have hb := hbc.out
      clear hbc HMD
      replace vx := (hb.cell (p := ⟨w1.heap.size, 0, none⟩) lx).trans vx
      replace ux := (hb.cell (p := ⟨w1.heap.size, 1, none⟩) lx).trans ux
      replace vy := (hb.cell (p := ⟨w1.heap.size + 1, 0, none⟩) ly).trans vy
      replace uy := (hb.cell (p := ⟨w1.heap.size + 1, 1, none⟩) ly).trans uy
      replace vp := (hb.cell (p := ⟨w3.heap.size, 0, none⟩) lp).trans vp
      replace up := (hb.cell (p := ⟨w3.heap.size, 1, none⟩) lp).trans up
      have HS0' : Hid (Below wz.heap.size wz wc) := HS0.out.trans (hb.mono HS0.out.size)
      clear HS0
      have HS0 := HS0'
      clear HS0'
      have K4' : Hid (Below w1.heap.size w1 wc) := K4.out.trans (hb.mono K4.out.size)
      clear K4
      have K4 := K4'
      clear K4'
      have K5' : Hid (Below w3.heap.size w3 wc) := K5.out.trans (hb.mono K5.out.size)
      clear K5
      have K5 := K5'
      clear K5'
      replace hB : Below w.heap.size w wc := hB.trans (hb.mono hB.size)
      replace lx : w1.heap.size < wc.heap.size := by have := hb.size; omega
      replace ly : w1.heap.size + 1 < wc.heap.size := by have := hb.size; omega
      replace lp : w3.heap.size < wc.heap.size := by have := hb.size; omega
      clear hb
      clear vx ux lx
      clear vy uy ly
      clear vp up lp
      clear HMx HEx HMy HEy HMp HEp K4 K5
      rename (∀ (a : Act) (w : World), Code.wp Try.prog _ _ a w → _) => hK
      refine hK _ _ ?_
      exact lan27 w wc a1 len1 cap1 (H1.out.below HS0.out) hB _ _ _ _ _ _ _ _ _ _ _ _ _ _ _ _ _ _ _ _ _ _ _ _ _ _ _ _ _ _ _ _ _ _ _ _ _ _ _ _ _ _ _ _ _ _ _ _ _ _ _ _ _ _ _ _ _ _ _ _ _ _ _ _ _ _ _ _ _ _ _ _ _ _ _ _ _ _ _ _ _ _ _ _ _ _ _ _ _ _ _ _ _ _ _ _ _ _ _ _ _ _ _ _ _ _ _ _ _ _ _ _ _ _ _ _ _ _ _ _ _ _ _ _ _ _ _ _ _ _ _ _ _ _ _ _ _ _ _ _ _ _ _ _ _ _ _ _ _ _ _ _ _ _ _ _ _ _ _ _ _ _ _ _ _ _ _ _ _ _ _ _ _ _ _ _ _ _ _ _ _ _ _ _ _ _ _ _ _ _ _ _ _ _ _ _ _ _ _ _ _ _ _ _ _ _ _ _ _ _ _ _ _ _ _ _ _ _ _ _ _ _ _

end Go.Proofs.Ytecgjhnihagleaa
