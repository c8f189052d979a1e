/- The law FnLanguages from its last machine on. -/
import Derived.Test.YtecgjhnihagleaaMcGf
import Derived.Test.YtecgjhnihagleaaXm
import Derived.Test.YtecgjhnihagleaaMcRt
import Derived.Deep.DeepCutAuto
namespace Go.Proofs.Ytecgjhnihagleaa
open Go.RowKit Plain Mch Tpc

/-- whether a statement begins with that region -/
def mHead (n : Nat) : Code → Bool
  | .region k _ _ => k == n
  | .seq a _ => mHead n a
  | .block _ c => mHead n c
  | .scope c => mHead n c
  | _ => false

/-- the code from that region's statement on -/
def mTail (n : Nat) : Code → Option Code
  | .seq a b => if mHead n a then some (.seq a b) else match mTail n a with
    | some c => some c
    | none => mTail n b
  | .cond _ a _ => mTail n a
  | .block _ c => mTail n c
  | .scope c => mTail n c
  | _ => none

noncomputable def lan27Code : Code := ((Try.f5.body.bind (mTail 27)).getD .skip)

set_option maxRecDepth 1000000 in
set_option maxHeartbeats 16000000 in
theorem lan27 (w wz : World) (a1 : Option Addr) (len1 cap1 : Nat) (hcode : CodeAt wz a1 len1) (hB : Below w.heap.size w wz)
    (c0 c2 c3 c4 c5 c6 c7 c8 c9 c10 c11 c12 c13 c14 c15 c16 c17 c18 c19 c20 c21 c22 c23 c24 c25 c26 c27 c28 c29 c30 c31 c32 c33 c34 c35 c36 c37 c38 c39 c40 c41 c42 c43 c44 c45 c46 c47 c48 c49 c50 c51 c52 c53 c54 c55 c56 c57 c58 c59 c60 c61 c62 c63 c64 c65 c66 c67 c68 c69 c70 c71 c72 c73 c74 c75 c76 c77 c78 c79 c80 c81 c82 c83 c84 c85 c86 c87 c88 c89 c90 c91 c92 c93 c94 c95 c96 c97 c98 c99 c100 c101 c102 c103 c104 c105 c106 c107 c108 c109 c110 c111 c112 c113 c114 c115 c116 c117 c118 c119 c120 c121 c122 c123 c124 c125 c126 c127 c128 c129 c130 c131 c132 c133 c134 c135 c136 c137 c138 c139 c140 c141 c142 c143 c144 c145 c146 c147 c148 c149 c150 c151 c152 c153 c154 c155 c156 c157 c158 c159 c160 c161 c162 c163 c164 c165 c166 c167 c168 c169 c170 c171 c172 c173 c174 c175 c176 c177 c178 c179 c180 c181 c182 c183 c184 c185 c186 c187 c188 c189 c190 c191 c192 c193 c194 c195 c196 c197 c198 c199 c200 c201 c202 c203 c204 c205 c206 c207 c208 c209 c210 c211 c212 c213 c214 c215 c216 c217 c218 c219 c220 c221 c222 c223 : Value) :
    Code.wp Try.prog lan27Code (bodyPost Try.prog Try.f5 fun e w' => e = .returned (.bool true) ∧ Below w.heap.size w w') ⟨#[c0, .slice a1 len1 cap1, c2, c3, c4, c5, c6, c7, c8, c9, c10, c11, c12, c13, c14, c15, c16, c17, c18, c19, c20, c21, c22, c23, c24, c25, c26, c27, c28, c29, c30, c31, c32, c33, c34, c35, c36, c37, c38, c39, c40, c41, c42, c43, c44, c45, c46, c47, c48, c49, c50, c51, c52, c53, c54, c55, c56, c57, c58, c59, c60, c61, c62, c63, c64, c65, c66, c67, c68, c69, c70, c71, c72, c73, c74, c75, c76, c77, c78, c79, c80, c81, c82, c83, c84, c85, c86, c87, c88, c89, c90, c91, c92, c93, c94, c95, c96, c97, c98, c99, c100, c101, c102, c103, c104, c105, c106, c107, c108, c109, c110, c111, c112, c113, c114, c115, c116, c117, c118, c119, c120, c121, c122, c123, c124, c125, c126, c127, c128, c129, c130, c131, c132, c133, c134, c135, c136, c137, c138, c139, c140, c141, c142, c143, c144, c145, c146, c147, c148, c149, c150, c151, c152, c153, c154, c155, c156, c157, c158, c159, c160, c161, c162, c163, c164, c165, c166, c167, c168, c169, c170, c171, c172, c173, c174, c175, c176, c177, c178, c179, c180, c181, c182, c183, c184, c185, c186, c187, c188, c189, c190, c191, c192, c193, c194, c195, c196, c197, c198, c199, c200, c201, c202, c203, c204, c205, c206, c207, c208, c209, c210, c211, c212, c213, c214, c215, c216, c217, c218, c219, c220, c221, c222, c223], []⟩ wz := by
  conv => arg 2; whnf
  have H1 : Hid (CodeAt wz a1 len1) := hcode
  clear hcode
  go_wp2_with fail
  refine (drawReach_any a1 len1 cap1 _ H1.out).mono ?_
  rintro e w1 ⟨⟨r, q, rfl, D, P, us, ho, hsm⟩, hb⟩
  obtain ⟨pan, pcn, hz1⟩ := ho.1.slice
  obtain ⟨pbn, pdn, hz2⟩ := ERow.slice ho.2.1
  subst hz1 hz2
  have HMn : Hid (MAt w1 w1.heap.size (.slice pan D.length pcn) D) := ho.1.at
  have HEn : Hid (EAt w1 w1.heap.size (.slice pbn P.length pdn) P) := EAt.own ho.2.1
  clear ho
  clear hsm
  replace hB : Below w.heap.size w w1 := hB.trans (hb.mono hB.size)
  clear hb
  have K9 : Hid (Below w1.heap.size w1 w1) := Below.refl _ _
  obtain ⟨gd, hgd⟩ : ∃ x, x = gm D P := ⟨_, rfl⟩
  obtain ⟨RC, hRC⟩ : ∃ x, x = rch D P := ⟨_, rfl⟩
  have HRC : Hid (RC.length ≤ 12) := by show _ ≤ _; rw [hRC]; exact reach_len D P
  have CI : Hid (∀ W : World, MAt W W.heap.size (.slice pan D.length pcn) D → EAt W W.heap.size (.slice pbn P.length pdn) P → (Calls Try.prog 30 #[.agg #[.slice pan D.length pcn, .slice pbn P.length pdn]] W fun x w' => (∃ r, x = .returned (.tuple #[r, .bool gd]) ∧ ZRow w' W.heap.size r RC) ∧ Below W.heap.size W w') ∧ Calls Try.prog 31 #[.agg #[.slice pan D.length pcn, .slice pbn P.length pdn]] W fun x w' => (∃ r, x = .returned (.tuple #[r, .bool gd]) ∧ ZAt w' w'.heap.size r RC) ∧ Below W.heap.size W w') := fun W h1 h2 => by rw [hgd, hRC]; exact ⟨implReach D P _ _ W h1 h2, specReach D P _ _ W h1 h2⟩
  clear hgd hRC
  obtain ⟨W2, hW2⟩ : ∃ W, W = w1.alloc (.cells #[.slice pan D.length pcn, .slice pbn P.length pdn] 30) := ⟨_, rfl⟩
  have hb : Below w1.heap.size w1 W2 := by rw [hW2]; exact (Below.refl _ _).alloc (Nat.le_refl _) _
  have ln : w1.heap.size < W2.heap.size := by rw [hW2]; simp only [World.size_alloc]; omega
  have vn : W2.cell? ⟨w1.heap.size, 0, none⟩ = some (.slice pan D.length pcn) := by rw [hW2]; go_simp
  have un : W2.cell? ⟨w1.heap.size, 1, none⟩ = some (.slice pbn P.length pdn) := by rw [hW2]; go_simp
  have K9' : Hid (Below w1.heap.size w1 W2) := K9.out.trans (hb.mono K9.out.size)
  clear K9
  have K9 := K9'
  clear K9'
  replace hB : Below w.heap.size w W2 := hB.trans (hb.mono hB.size)
  clear hb
  go_upto_region 28 with fail
  rw [← hW2]
  clear hW2
  go_wp2_with fail
  refine ((CI.out _ (HMn.out.below K9.out) (HEn.out.below K9.out)).1).mono ?_
  rintro e w3 ⟨⟨r, rfl, ho⟩, hb⟩
  obtain ⟨ag1, cg1, hz⟩ := ZRow.slice ho
  subst hz
  have HZ1 : Hid (ZAt w3 w3.heap.size (.slice ag1 RC.length cg1) RC) := ZAt.own ho
  clear ho
  replace vn := (hb.cell (p := ⟨w1.heap.size, 0, none⟩) ln).trans vn
  replace un := (hb.cell (p := ⟨w1.heap.size, 1, none⟩) ln).trans un
  have K9' : Hid (Below w1.heap.size w1 w3) := K9.out.trans (hb.mono K9.out.size)
  clear K9
  have K9 := K9'
  clear K9'
  replace hB : Below w.heap.size w w3 := hB.trans (hb.mono hB.size)
  replace ln : w1.heap.size < w3.heap.size := by have := hb.size; omega
  clear hb
  have K7 : Hid (Below w3.heap.size w3 w3) := Below.refl _ _
  go_wp2_with fail
  refine ((CI.out _ (HMn.out.below K9.out) (HEn.out.below K9.out)).2).mono ?_
  rintro e w4 ⟨⟨r, rfl, ho⟩, hb⟩
  obtain ⟨ag2, cg2, hz, _⟩ := id ho
  subst hz
  have HZ2 : Hid (ZAt w4 w4.heap.size (.slice ag2 RC.length cg2) RC) := ho
  clear ho
  replace vn := (hb.cell (p := ⟨w1.heap.size, 0, none⟩) ln).trans vn
  replace un := (hb.cell (p := ⟨w1.heap.size, 1, none⟩) ln).trans un
  have K9' : Hid (Below w1.heap.size w1 w4) := K9.out.trans (hb.mono K9.out.size)
  clear K9
  have K9 := K9'
  clear K9'
  have K7' : Hid (Below w3.heap.size w3 w4) := K7.out.trans (hb.mono K7.out.size)
  clear K7
  have K7 := K7'
  clear K7'
  replace hB : Below w.heap.size w w4 := hB.trans (hb.mono hB.size)
  replace ln : w1.heap.size < w4.heap.size := by have := hb.size; omega
  clear hb
  have K8 : Hid (Below w4.heap.size w4 w4) := Below.refl _ _
  have n4 : (gd == gd) = true := beq_self_eq_true _
  go_wp2_with fail
  refine (sameZ_any RC RC _ _ _ (HZ1.out.below K7.out) (HZ2.out.below K8.out) (by have := HRC.out; omega)).mono ?_
  rintro e w5 ⟨rfl, hb⟩
  rw [show decide (RC = RC) = true by simp]
  replace vn := (hb.cell (p := ⟨w1.heap.size, 0, none⟩) ln).trans vn
  replace un := (hb.cell (p := ⟨w1.heap.size, 1, none⟩) ln).trans un
  have K9' : Hid (Below w1.heap.size w1 w5) := K9.out.trans (hb.mono K9.out.size)
  clear K9
  have K9 := K9'
  clear K9'
  have K7' : Hid (Below w3.heap.size w3 w5) := K7.out.trans (hb.mono K7.out.size)
  clear K7
  have K7 := K7'
  clear K7'
  have K8' : Hid (Below w4.heap.size w4 w5) := K8.out.trans (hb.mono K8.out.size)
  clear K8
  have K8 := K8'
  clear K8'
  replace hB : Below w.heap.size w w5 := hB.trans (hb.mono hB.size)
  replace ln : w1.heap.size < w5.heap.size := by have := hb.size; omega
  clear hb
  go_wp2
  go_ret
  exact ⟨rfl, hB⟩

end Go.Proofs.Ytecgjhnihagleaa
