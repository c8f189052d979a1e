/- The program's walkPairs. -/
import Derived.Test.YtecgjhnihagleaaMcYb
namespace Go.Proofs.Ytecgjhnihagleaa
open Go.RowKit Plain Mch Tpc

theorem abcSl (k : Nat) (W : World) (hk : k < 3) : (Instr.slice 9 (.string { data := #[97, 98, 99] }) (some (.int .i64 (k : Int))) (some (.int .i64 ((k : Int) + 1))) none).run Try.prog W = .ok (.string (ch k)) W := by
  rw [run_slice_string W 9 ⟨#[97, 98, 99]⟩ .i64 .i64 (k : Int) ((k : Int) + 1) Try.underlying9 (by omega) (by omega) (by show (k : Int) + 1 ≤ 3; omega)]
  rw [show (k : Int).toNat = k by omega, show ((k : Int) + 1).toNat = k + 1 by omega, abc_cut hk]

theorem abcSlw (k : Nat) (W : World) (hk : k < 3) : (Instr.slice 9 (.string { data := #[97, 98, 99] }) (some (.int .i64 (k : Int))) (some (.int .i64 (IntKind.i64.wrap ((k : Int) + 1)))) none).run Try.prog W = .ok (.string (ch k)) W := by
  rw [show IntKind.i64.wrap ((k : Int) + 1) = (k : Int) + 1 by rw [IntKind.wrap_i64]; omega]
  exact abcSl k W hk

attribute [local go_sem ↓] abcSl abcSlw

/-- what walkPairs leaves: a walk over all pairs that are reached -/
def WalkR (A B : List (List Int)) (w : World) (e : Ending) (w' : World) : Prop :=
  ∃ b vp vn vt us, e = .returned (.pointer (some ⟨b, 0, none⟩)) ∧ PWa w' w.heap.size b vp vn vt (prs A B) ((prs A B).map Pq.s) (NR A B (prs A B).length) us ∧ Below w.heap.size w w'

set_option maxRecDepth 100000 in
set_option maxHeartbeats 8000000 in
theorem walkPairs_any (A B : List (List Int)) (E F : List Bool) (va ea vb eb : Value) (w : World) (hA : MAt w w.heap.size va A) (hB : MAt w w.heap.size vb B) (hEA : EAt w w.heap.size ea E) (hEB : EAt w w.heap.size eb F) (hgA : gm A E = true) (hgB : gm B F = true) :
    Calls Try.prog 50 #[.agg #[va, ea], .agg #[vb, eb]] w (WalkR A B w) := by
  obtain ⟨i0, hi, hz0, hz1, hz2⟩ := info_parts Try.infoZs
  obtain ⟨k0, hk, kz0, kz1, kz2⟩ := info_parts Try.infoInt
  have HA : Hid (MAt w w.heap.size va A) := hA
  have HB : Hid (MAt w w.heap.size vb B) := hB
  have HGA : Hid (gm A E = true) := hgA
  have HGB : Hid (gm B F = true) := hgB
  clear hgA hgB
  obtain ⟨aA, cA, rfl, hlcA, hcmA, _⟩ := hA
  obtain ⟨aB, cB, rfl, hlcB, hcmB, _⟩ := hB
  obtain ⟨aE, cE, rfl, _⟩ := hEA
  obtain ⟨aF, cF, rfl, _⟩ := hEB
  unfold maxLen at hcmA hcmB
  have hmk : ∀ W : World, (Instr.makeSlice 27 (.int .i64 3) (.int .i64 3)).run Try.prog W = .ok (.slice (some ⟨W.heap.size, 0, none⟩) 3 3) (W.alloc (.cells #[.int .i64 0, .int .i64 0, .int .i64 0] 3)) := fun W => by
    have h := run_make (P := Try.prog) W 27 3 k0 (.int .i64 0) Try.underlying27 hk kz0 .i64 .i64 3 3 (by omega) (by omega) (by rw [kz2]; omega) (by omega)
    rw [kz1] at h
    have e : madeCells (Value.int .i64 0).cells ((3 : Int).toNat * 1) = #[.int .i64 0, .int .i64 0, .int .i64 0] := by kernel_rfl
    rw [e] at h
    exact h
  obtain ⟨W1, hW1⟩ : ∃ W, W = ((((w.alloc (.cells #[.slice aA A.length cA, .slice aE E.length cE] 30)).alloc (.cells #[.slice aB B.length cB, .slice aF F.length cF] 30)).alloc (.cells #[.int .i64 0, .int .i64 0] 86)).alloc (.cells #[.string ⟨#[]⟩] 9)).alloc (.cells #[.slice (some ⟨w.heap.size + 2, 0, none⟩) 1 1, .slice none 0 0, .slice (some ⟨w.heap.size + 3, 0, none⟩) 1 1] 79) := ⟨_, rfl⟩
  have HS1 : Hid (W1.heap.size = w.heap.size + 5) := by show _ = _; rw [hW1]; simp
  have hB1 : Below w.heap.size w W1 := by rw [hW1]; exact (((((Below.refl _ w).alloc (Nat.le_refl _) _).alloc (by simp) _).alloc (by simp; omega) _).alloc (by simp; omega) _).alloc (by simp; omega) _
  have q0 : W1.cell? ⟨w.heap.size, 0, none⟩ = some (.slice aA A.length cA) := by rw [hW1]; go_simp
  have q1 : W1.cell? ⟨w.heap.size + 1, 0, none⟩ = some (.slice aB B.length cB) := by rw [hW1]; go_simp
  have Q0 : Hid (W1.cell? ⟨w.heap.size, 0, none⟩ = some (.slice aA A.length cA)) := q0
  have Q1 : Hid (W1.cell? ⟨w.heap.size + 1, 0, none⟩ = some (.slice aB B.length cB)) := q1
  have HW1 : Hid (PWa W1 (w.heap.size + 2) (w.heap.size + 4) (.slice (some ⟨w.heap.size + 2, 0, none⟩) 1 1) (.slice none 0 0) (.slice (some ⟨w.heap.size + 3, 0, none⟩) 1 1) [⟨0, 0, ByteArray.empty⟩] [ByteArray.empty] [] []) := by
    refine ⟨by rw [HS1.out]; omega, by omega, by rw [hW1]; go_simp, by rw [hW1]; go_simp, by rw [hW1]; go_simp, by rw [hW1]; go_simp, by rw [hW1]; go_simp, by rw [hW1]; go_simp, ?_, MOwn.nil _ _, ?_, ?_, ?_, ?_, ?_⟩
    · refine ⟨rfl, .inr ⟨w.heap.size + 2, 1, #[.int .i64 0, .int .i64 0], rfl, Nat.le_refl _, ?_, Nat.le_refl _, by unfold maxLen; omega, rfl, rfl⟩⟩
      rw [hW1, Below.heap_alloc _ _ _ (by simp), Below.heap_alloc _ _ _ (by simp)]
      have h := heap_alloc_new ((w.alloc (.cells #[.slice aA A.length cA, .slice aE E.length cE] 30)).alloc (.cells #[.slice aB B.length cB, .slice aF F.length cF] 30)) (.cells #[.int .i64 0, .int .i64 0] 86)
      simpa using h
    · refine ⟨rfl, .inr ⟨w.heap.size + 3, 1, #[.string ByteArray.empty], rfl, by omega, ?_, Nat.le_refl _, by unfold maxLen; omega, rfl, rfl⟩⟩
      rw [hW1, Below.heap_alloc _ _ _ (by simp)]
      have h := heap_alloc_new (((w.alloc (.cells #[.slice aA A.length cA, .slice aE E.length cE] 30)).alloc (.cells #[.slice aB B.length cB, .slice aF F.length cF] 30)).alloc (.cells #[.int .i64 0, .int .i64 0] 86)) (.cells #[.string ⟨#[]⟩] 9)
      rw [World.size_alloc, World.size_alloc, World.size_alloc] at h
      exact h
    · intro g hg
      simp [Value.ownBlock] at hg
      subst hg
      exact ⟨by omega, by simp [Value.ownBlock], by simp [Value.ownBlock], fun u hu => by simp at hu⟩
    · intro g hg
      simp [Value.ownBlock] at hg
      subst hg
      exact ⟨by omega, by simp [Value.ownBlock], fun u hu => by simp at hu⟩
    · intro g hg
      simp [Value.ownBlock] at hg
    · intro u hu
      simp at hu
  go_enter Try.func50, Try.ntmps50
  go_upto_region 2 with fail
  rw [← hW1]
  clear hW1
  go_wp2
  go_loopw [6] (fun vi wr => ∃ (i : Nat) (l : List Pq) (vp vn vt : Value) (us : List Value), vi = .int .i64 (i : Int) ∧ Hid (At A B i l) ∧ Hid (PWa wr (w.heap.size + 2) (w.heap.size + 4) vp vn vt l (l.map Pq.s) (NR A B i) us) ∧ Hid (Below (w.heap.size + 2) W1 wr))
    (fun vi _ => 145 - (intOf vi).toNat)
  case atStart => exact ⟨0, _, _, _, _, _, rfl, At.start HGA.out HGB.out, HW1, Below.refl _ _⟩
  case round =>
    obtain ⟨i, l, vp, vn, vt, us, rfl, hAt, hP, hbw⟩ := hrel
    have hl144 : l.length ≤ 144 := hAt.out.met.le HGA.out HGB.out
    have hil : i ≤ l.length := hAt.out.le
    obtain ⟨ap, cp, hvp, hcp⟩ := hP.out.rp.slice
    subst hvp
    unfold maxLen at hcp
    have p0 := hP.out.c0
    clear HW1 q0 q1
    by_cases hlt : i < l.length
    · have hlt' : (i : Int) < (l.length : Int) := by omega
      obtain ⟨gp, hap, hgpl, hgpB, e0, e1⟩ := hP.out.rp.cells hlt
      subst hap
      obtain ⟨p, hp⟩ : ∃ p, pq l i = p := ⟨_, rfl⟩
      have HPP : Hid (pq l i = p) := hp
      rw [hp] at e0 e1
      clear hp
      obtain ⟨W3, hW3⟩ : ∃ W, W = (wr.alloc (.cells #[.int .i64 (p.a : Int), .int .i64 (p.b : Int)] 86)).alloc (.cells #[.int .i64 0, .int .i64 0, .int .i64 0] 3) := ⟨_, rfl⟩
      have HS3 : Hid (W3.heap.size = wr.heap.size + 2) := by show _ = _; rw [hW3]; simp
      have hb3 : Below wr.heap.size wr W3 := by rw [hW3]; exact ((Below.refl _ wr).alloc (Nat.le_refl _) _).alloc (by simp) _
      have HP3 : Hid (PWa W3 (w.heap.size + 2) (w.heap.size + 4) (.slice (some ⟨gp, 0, none⟩) l.length cp) vn vt l (l.map Pq.s) (NR A B i) us) := hP.out.below hb3
      have hwl := hP.out.lb
      have HSd : Hid (Side W3 (w.heap.size + 4) wr.heap.size (wr.heap.size + 1) (.slice (some ⟨gp, 0, none⟩) l.length cp) vn vt us p [.int .i64 0, .int .i64 0, .int .i64 0] (w.heap.size + 2)) := by
        have lim : ∀ v ∈ [Value.slice (some ⟨gp, 0, none⟩) l.length cp, vn, vt], ∀ g, v.ownBlock = some g → g < wr.heap.size := fun v hv g hg => by
          simp at hv
          rcases hv with rfl | rfl | rfl
          · exact (World.ownsRow.lt hP.out.rp g hg).2
          · exact (World.ownsRow.lt hP.out.rn.1 g hg).2
          · exact (World.ownsRow.lt hP.out.rt g hg).2
        refine ⟨by rw [HS3.out]; omega, by rw [hW3]; go_simp, by rw [hW3]; go_simp, ⟨rfl, .inr ⟨wr.heap.size + 1, 3, #[.int .i64 0, .int .i64 0, .int .i64 0], rfl, by omega, ?_, Nat.le_refl _, by unfold maxLen; omega, rfl, rfl⟩⟩, by omega, by omega, by omega, fun v hv e => ?_, fun v hv e => ?_, fun u hu e => ?_⟩
        · rw [hW3]
          have h := heap_alloc_new (wr.alloc (.cells #[.int .i64 (p.a : Int), .int .i64 (p.b : Int)] 86)) (.cells #[.int .i64 0, .int .i64 0, .int .i64 0] 3)
          simpa using h
        · have := lim v hv _ e; omega
        · have := lim v hv _ e; omega
        · have := (hP.out.rn.rows u hu _ e).2; omega
      have HB3 : Hid (Below (w.heap.size + 2) W1 W3) := hbw.out.trans (hb3.mono (by omega))
      have hpa : p.a < A.length ∧ p.b < B.length := by rw [← HPP.out]; exact hAt.out.met.lo i hlt
      clear hb3
      go_upto_region 7 with fail
      rw [← hW3]
      clear hW3 e0 e1 p0
      go_wp2
      obtain ⟨wo, hwo⟩ : ∃ W, W = wr := ⟨_, rfl⟩
      rw [← hwo] at HS3 HSd hwl
      rw [← hwo]
      clear hP hbw hgpl hwo
      go_loopw [35] (fun vk wr => ∃ (k : Nat) (vp' vt' : Value) (ys : List Value), k ≤ 3 ∧ vk = .int .i64 (k : Int) ∧ Hid (PWa wr (w.heap.size + 2) (w.heap.size + 4) vp' vn vt' (stk A B l p k) ((stk A B l p k).map Pq.s) (NR A B i) us) ∧ Hid (Side wr (w.heap.size + 4) wo.heap.size (wo.heap.size + 1) vp' vn vt' us p ys (w.heap.size + 2)) ∧ Hid (∀ m, m < k → ys[m]? = (zints (nri A B i))[m]?) ∧ Hid (Below (w.heap.size + 2) W1 wr))
        (fun vk _ => 3 - (intOf vk).toNat)
      case atStart => exact ⟨0, _, _, _, by omega, rfl, HP3, HSd, fun m hm => by omega, HB3⟩
      case round =>
        obtain ⟨k, vp', vt', ys, hk3, rfl, hPk, hSk, hys, hbk⟩ := hrel
        clear HP3 HSd HB3
        by_cases hlk : k < 3
        · have hlk' : (k : Int) < 3 := by omega
          have hBr : Below w.heap.size w wr := hB1.trans (hbk.out.mono (by omega))
          obtain ⟨gA, oA, guA, ouA, cuA, hA1, hA2, hA3, hA4, hA5⟩ := (HA.out.below hBr).to HGA.out hpa.1 hlk
          obtain ⟨gB, oB, guB, ouB, cuB, hB1', hB2, hB3, hB4, hB5⟩ := (HB.out.below hBr).to HGB.out hpa.2 hlk
          subst hA1 hB1'
          have s1 := (hbk.out.cell (p := ⟨w.heap.size, 0, none⟩) (by show w.heap.size < _; omega)).trans Q0.out
          have s2 := (hbk.out.cell (p := ⟨w.heap.size + 1, 0, none⟩) (by show w.heap.size + 1 < _; omega)).trans Q1.out
          have s3 := hSk.out.c0
          have s4 := hSk.out.c1
          have hlf := hSk.out.lf
          have hll : w.heap.size + 1 < wr.heap.size := by have := hPk.out.lb; omega
          have HSX : Hid (∀ w' : World, Below wr.heap.size wr w' → w'.cell? ⟨w.heap.size, 0, none⟩ = some (.slice (some ⟨gA, oA, none⟩) A.length cA) ∧ w'.cell? ⟨w.heap.size + 1, 0, none⟩ = some (.slice (some ⟨gB, oB, none⟩) B.length cB) ∧ w'.cell? ⟨wo.heap.size, 0, none⟩ = some (.int .i64 (p.a : Int)) ∧ w'.cell? ⟨wo.heap.size, 1, none⟩ = some (.int .i64 (p.b : Int)) ∧ w'.cell? ⟨gA, oA + p.a, none⟩ = some (.slice (some ⟨guA, ouA, none⟩) 3 cuA) ∧ w'.cell? ⟨guA, ouA + k, none⟩ = some (.int .i64 ((nt A p.a k : Nat) : Int)) ∧ w'.cell? ⟨gB, oB + p.b, none⟩ = some (.slice (some ⟨guB, ouB, none⟩) 3 cuB) ∧ w'.cell? ⟨guB, ouB + k, none⟩ = some (.int .i64 ((nt B p.b k : Nat) : Int))) := fun w' h => ⟨(h.cell (p := ⟨w.heap.size, 0, none⟩) (by show w.heap.size < _; omega)).trans s1, (h.cell (p := ⟨w.heap.size + 1, 0, none⟩) hll).trans s2, (h.cell (p := ⟨wo.heap.size, 0, none⟩) hlf).trans s3, (h.cell (p := ⟨wo.heap.size, 1, none⟩) hlf).trans s4, (h.cell (p := ⟨gA, oA + p.a, none⟩) hA2).trans hA3, (h.cell (p := ⟨guA, ouA + k, none⟩) hA4).trans hA5, (h.cell (p := ⟨gB, oB + p.b, none⟩) hB2).trans hB3, (h.cell (p := ⟨guB, ouB + k, none⟩) hB4).trans hB5⟩
          have hpaA : (p.a : Int) < (A.length : Int) := by omega
          have hpbB : (p.b : Int) < (B.length : Int) := by omega
          have sd := HSX.out _ ((Below.refl _ wr).drew)
          have sa : ∀ o, _ := fun o => HSX.out _ (((Below.refl _ wr).drew).alloc (Nat.le_refl _) o)
          have ss : ∀ o x y, _ := fun o x y => HSX.out _ (((((Below.refl _ wr).drew).alloc (Nat.le_refl _) o).setCell (p := ⟨wr.heap.size, 0, none⟩) (Nat.le_refl _) x).setCell (p := ⟨wr.heap.size, 1, none⟩) (Nat.le_refl _) y)
          clear s1 s2 s3 s4 hA3 hA5 hB3 hB5
          go_upto_region 10 with fail
          go_region_held3 (fun w' => w'.cell? ⟨w.heap.size, 0, none⟩ = some (.slice (some ⟨gA, oA, none⟩) A.length cA) ∧ w'.cell? ⟨w.heap.size + 1, 0, none⟩ = some (.slice (some ⟨gB, oB, none⟩) B.length cB) ∧ w'.cell? ⟨wo.heap.size, 0, none⟩ = some (.int .i64 (p.a : Int)) ∧ w'.cell? ⟨wo.heap.size, 1, none⟩ = some (.int .i64 (p.b : Int)) ∧ w'.cell? ⟨gA, oA + p.a, none⟩ = some (.slice (some ⟨guA, ouA, none⟩) 3 cuA) ∧ w'.cell? ⟨guA, ouA + k, none⟩ = some (.int .i64 ((nt A p.a k : Nat) : Int)) ∧ w'.cell? ⟨gB, oB + p.b, none⟩ = some (.slice (some ⟨guB, ouB, none⟩) 3 cuB) ∧ w'.cell? ⟨guB, ouB + k, none⟩ = some (.int .i64 ((nt B p.b k : Nat) : Int)))
            (first | with_reducible exact sd | with_reducible exact sa _ | with_reducible exact ss _ _ _ | exact ss _ _ _ | exact sa _ | exact sd)
            (fail)
          obtain ⟨W4, hW4⟩ : ∃ W, W = (wr.alloc (.cells #[.int .i64 ((nt A p.a k : Nat) : Int), .int .i64 ((nt B p.b k : Nat) : Int)] 86)).drew := ⟨_, rfl⟩
          have hb4 : Below wr.heap.size wr W4 := by rw [hW4]; exact ((Below.refl _ wr).alloc (Nat.le_refl _) _).drew
          have x0 : W4.cell? ⟨wr.heap.size, 0, none⟩ = some (.int .i64 ((nt A p.a k : Nat) : Int)) := by rw [hW4]; go_simp
          have x1 : W4.cell? ⟨wr.heap.size, 1, none⟩ = some (.int .i64 ((nt B p.b k : Nat) : Int)) := by rw [hW4]; go_simp
          have hl4 : wr.heap.size < W4.heap.size := by rw [hW4]; simp
          have HP4 : Hid (PWa W4 (w.heap.size + 2) (w.heap.size + 4) vp' vn vt' (stk A B l p k) ((stk A B l p k).map Pq.s) (NR A B i) us) := hPk.out.below hb4
          have HS4 : Hid (Side W4 (w.heap.size + 4) wo.heap.size (wo.heap.size + 1) vp' vn vt' us p ys (w.heap.size + 2)) := hSk.out.below hb4
          have HB4 : Hid (Below (w.heap.size + 2) W1 W4) := hbk.out.trans (hb4.mono (by omega))
          have hgr : ∃ m, stk A B l p k = l ++ m := stk_grows A B l p k
          have hik : i < (stk A B l p k).length := by obtain ⟨m, e⟩ := hgr; rw [e, List.length_append]; omega
          have HPK : Hid (pq (stk A B l p k) i = p) := by obtain ⟨m, e⟩ := hgr; show _ = _; rw [e, pq_left hlt]; exact HPP.out
          obtain ⟨L, hL⟩ : ∃ L, L = stk A B l p k := ⟨_, rfl⟩
          obtain ⟨T, hT⟩ : ∃ T, T = L.map Pq.s := ⟨_, rfl⟩
          have HLL : Hid (L = stk A B l p k) := hL
          have HTT : Hid (T = L.map Pq.s) := hT
          rw [← hL] at HP4 hik HPK
          rw [← hT] at HP4
          have HTL : Hid (T.length = L.length) := by show _ = _; rw [hT]; simp
          have hTi : lq T i = p.s := by
            rw [hT]
            unfold lq
            rw [List.getD_eq_getElem?_getD, List.getElem?_map, pq_at hik, HPK.out]
            rfl
          have hL145 : L.length ≤ 145 := by rw [hL, ← HPP.out]; have := (stk_met HGA.out HGB.out hAt.out.met hlt k hk3).le HGA.out HGB.out; omega
          clear hL hT
          have hiT : (i : Int) < (T.length : Int) := by have := HTL.out; omega
          obtain ⟨at', ct, hvt⟩ := StRow.slice HP4.out.rt
          subst hvt
          obtain ⟨a2, c2, hv2, _, _, htx⟩ := StAt.own HP4.out.rt
          simp only [Value.slice.injEq, true_and] at hv2
          obtain ⟨rfl, rfl⟩ := hv2
          obtain ⟨gt, ot, hat, hgt, hct⟩ := htx i (by have := HTL.out; omega)
          subst hat
          rw [hTi] at hct
          have hps : p.s.size ≤ 144 := by rw [← HPP.out]; have := hAt.out.met.txt i hlt; omega
          have t2 := HP4.out.c2
          have x0d : W4.drew.cell? ⟨wr.heap.size, 0, none⟩ = some (.int .i64 ((nt A p.a k : Nat) : Int)) := x0
          have x1d : W4.drew.cell? ⟨wr.heap.size, 1, none⟩ = some (.int .i64 ((nt B p.b k : Nat) : Int)) := x1
          have t2d : W4.drew.cell? ⟨w.heap.size + 4, 2, none⟩ = some (.slice (some ⟨gt, ot, none⟩) T.length ct) := t2
          have ctd : W4.drew.cell? ⟨gt, ot + i, none⟩ = some (.string p.s) := hct
          have HP4d : Hid (PWa W4.drew (w.heap.size + 2) (w.heap.size + 4) vp' vn (.slice (some ⟨gt, ot, none⟩) T.length ct) L T (NR A B i) us) := HP4.out.below ((Below.refl _ W4).drew)
          have HS4d : Hid (Side W4.drew (w.heap.size + 4) wo.heap.size (wo.heap.size + 1) vp' vn (.slice (some ⟨gt, ot, none⟩) T.length ct) us p ys (w.heap.size + 2)) := HS4.out.below ((Below.refl _ W4).drew)
          have hcs : (ch k).size = 1 := ch_size k
          obtain ⟨a0, ha0⟩ : ∃ a, ys[k]? = some a := ⟨_, List.getElem?_eq_getElem (by have := HS4.out.row.1; omega)⟩
          have CT : Hid (Calls Try.prog 76 #[.pointer (some ⟨w.heap.size + 4, 0, none⟩), .agg #[.int .i64 ((nt A p.a k : Nat) : Int), .int .i64 ((nt B p.b k : Nat) : Int)], .string (p.s ++ ch k)] W4.drew fun e w' => e = .returned (.int .i64 ((ix L (nt A p.a k) (nt B p.b k) : Nat) : Int)) ∧ ∃ vp5 vt5, PWa w' (w.heap.size + 2) (w.heap.size + 4) vp5 vn vt5 (pu L (qn A B p k)) ((pu L (qn A B p k)).map Pq.s) (NR A B i) us ∧ PG W4.drew w' (w.heap.size + 4) [vp', vn, .slice (some ⟨gt, ot, none⟩) T.length ct] [vp5, vn, vt5]) := comeTo_any _ _ _ _ _ L _ _ (qn A B p k) _ (by rw [← HTT.out]; exact HP4d.out) (by omega)
          clear hgr hPk hSk hbk sd sa ss HSX hb4 htx hTi
          go_upto_region 11 with fail
          rw [← hW4]
          clear hW4
          go_region_with (go_at_call 76; refine CT.out.mono ?_; rintro e w5 ⟨rfl, vp5, vt5, hP5, hG5⟩; have hS5 := HS4d.out.gone hG5; have r5 := hS5.row.cellAt k (by omega); rw [ha0] at r5; have z5 := hS5.row.frozenAt k)
          all_goals
            obtain ⟨W6, hW6⟩ : ∃ W, W = w5.setCell ⟨wo.heap.size + 1, k, none⟩ (.int .i64 ((ix L (nt A p.a k) (nt B p.b k) : Nat) : Int)) := ⟨_, rfl⟩
            have HP6 : Hid (PWa W6 (w.heap.size + 2) (w.heap.size + 4) vp5 vn vt5 (stk A B l p (k + 1)) ((stk A B l p (k + 1)).map Pq.s) (NR A B i) us) := by
              show PWa _ _ _ _ _ _ _ _ _ _
              rw [hW6, stk, ← HLL.out]
              exact hP5.put _ hS5.nb hS5.vn' hS5.un
            have HS6 : Hid (Side W6 (w.heap.size + 4) wo.heap.size (wo.heap.size + 1) vp5 vn vt5 us p (ys.set k (.int .i64 ((ix L (nt A p.a k) (nt B p.b k) : Nat) : Int))) (w.heap.size + 2)) := by
              show Side _ _ _ _ _ _ _ _ _ _ _
              rw [hW6]
              exact hS5.put _ _
            have hyl : ys.length = 3 := by have := hS5.row.1; omega
            have HY6 : Hid (∀ m, m < k + 1 → (ys.set k (.int .i64 ((ix L (nt A p.a k) (nt B p.b k) : Nat) : Int)))[m]? = (zints (nri A B i))[m]?) := by
              refine set_nri hyl hlk hys.out ?_
              have h := stk_ix HGA.out HGB.out hAt.out hlt hlk
              rw [HPP.out, ← HLL.out] at h
              exact h
            have HB6 : Hid (Below (w.heap.size + 2) W1 W6) := by
              show Below _ _ _
              rw [hW6]
              exact ((HB4.out.drew).trans (HP4d.out.keeps hG5)).setCell (p := ⟨wo.heap.size + 1, k, none⟩) (by show w.heap.size + 2 ≤ wo.heap.size + 1; omega) _
            clear hP5 hG5 hS5 r5 z5 hyl
            go_wp2_with fail
            go_roundw
            case rel => exact ⟨k + 1, vp5, vt5, _, by omega, by go_num, by rw [← hW6]; exact HP6, by rw [← hW6]; exact HS6, HY6, by rw [← hW6]; exact HB6⟩
            case measure => simp [intOf]; omega
        · have hk3' : k = 3 := by omega
          subst hk3'
          have hge : ¬ ((3 : Int) < 3) := by omega
          have HN : Hid (At A B (i + 1) (stk A B l p 3)) := by
            show At _ _ _ _
            rw [stk_3, ← HPP.out]
            exact hAt.out.next HGA.out HGB.out hlt
          have HZ : Hid (ZRow wr (w.heap.size + 2) (.slice (some ⟨wo.heap.size + 1, 0, none⟩) (nri A B i).length 3) (nri A B i)) := by
            have h := hSk.out.row
            rw [full_nri (by have := h.1; omega) hys.out] at h
            show World.ownsRow _ _ _ _ _ _ _
            rw [nri_len]
            exact h
          have HNR : Hid ((NR A B i).length = i) := NR_len A B i
          have HUU : Hid (∀ g', (Value.slice (some ⟨wo.heap.size + 1, 0, none⟩) (nri A B i).length 3).ownBlock = some g' → g' ≠ w.heap.size + 4 ∧ (∀ v ∈ [vp', vn, vt'], v.ownBlock ≠ some g') ∧ ∀ u' ∈ us, u'.ownBlock ≠ some g') := fun g' hg' => by
            simp [Value.ownBlock] at hg'
            subst hg'
            exact ⟨hSk.out.nb, hSk.out.vn', hSk.out.un⟩
          obtain ⟨an, cn, hvn⟩ := hPk.out.rn.slice
          subst hvn
          obtain ⟨RR, hRR⟩ : ∃ RR, RR = NR A B i := ⟨_, rfl⟩
          have HRR : Hid (RR = NR A B i) := hRR
          rw [← hRR] at hPk HNR HUU
          have n1 := hPk.out.c1
          have hwb := hPk.out.lb
          have HN3 : Hid ((nri A B i).length = 3) := nri_len A B i
          clear hSk hys hRR
          have hi144 : i ≤ 144 := by omega
          go_wp2_with (at_builtin; refine wpList_append_lies _ rfl _ _ 22 rfl (w.heap.size + 2) 27 i0 (.slice none 0 0) 1 24 Try.underlying22 hi hz0 hz1 hz2 rfl (by decide) _ RR.length _ rfl (World.ownsRow.alloc hPk.out.rn.1 _) ⟨wr.heap.size, 0, none⟩ 1 1 [.slice (some ⟨wo.heap.size + 1, 0, none⟩) 3 3] rfl rfl (World.news_of_block (heap_alloc_new wr _)) (one1M _ _ _) (by omega) (by unfold maxLen; have := HNR.out; omega) (by have := HNR.out; omega) (by simp; omega) (wr.heap.size + 1) (by simp) ?_)
          intro g9 cap9 w9 hown9 hgrow9 hat9 hlt9
          obtain ⟨⟨q9, f9, k9⟩, hT9, hB9⟩ := hPk.out.next (r := nri A B i) HZ.out HUU.out (by rw [HN3.out]; exact hown9) hgrow9 hat9
          have HT9 : Hid (PWa (w9.setCell ⟨w.heap.size + 4, 1, none⟩ (.slice (some ⟨g9, 0, none⟩) (RR.length + 1) cap9)) (w.heap.size + 2) (w.heap.size + 4) vp' (.slice (some ⟨g9, 0, none⟩) (RR.length + 1) cap9) vt' (stk A B l p 3) ((stk A B l p 3).map Pq.s) (NR A B (i + 1)) (us ++ [.slice (some ⟨wo.heap.size + 1, 0, none⟩) (nri A B i).length 3])) := by
            rw [NR_succ, ← HRR.out]
            exact hT9
          have HB9 : Hid (Below (w.heap.size + 2) W1 (w9.setCell ⟨w.heap.size + 4, 1, none⟩ (.slice (some ⟨g9, 0, none⟩) (RR.length + 1) cap9))) := hbk.out.trans hB9
          clear hT9 hB9 hown9 hgrow9 hat9 n1 hPk
          go_wp2
          go_roundw
          case rel => exact ⟨i + 1, _, _, _, _, _, by go_num, HN, HT9, HB9⟩
          case measure => simp [intOf]; omega
    · have hke : i = l.length := by omega
      have hge : ¬ ((i : Int) < (l.length : Int)) := by omega
      have HD : Hid (l = prs A B) := hAt.out.done HGA.out HGB.out hke
      have HF : Hid (PWa wr w.heap.size (w.heap.size + 4) (.slice ap l.length cp) vn vt (prs A B) ((prs A B).map Pq.s) (NR A B (prs A B).length) us) := by
        have h := hP.out
        rw [hke] at h
        show PWa _ _ _ _ _ _ _ _ _ _
        rw [← HD.out]
        exact ⟨h.lb, by omega, h.c0, h.c1, h.c2, h.f0, h.f1, h.f2, own_lowerM h.rp (by omega), h.rn.lower (by omega), own_lowerM h.rt (by omega), h.ap, h.at', h.an, h.au⟩
      have HBe : Hid (Below w.heap.size w wr) := hB1.trans (hbw.out.mono (by omega))
      clear hke hP hAt
      go_wp2
      go_ret
      exact ⟨_, _, _, _, _, rfl, HF.out, HBe.out⟩

end Go.Proofs.Ytecgjhnihagleaa
