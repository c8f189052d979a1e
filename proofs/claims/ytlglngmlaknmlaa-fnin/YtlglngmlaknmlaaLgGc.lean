/- The program's ProveGrew. -/
import Derived.Test.YtlglngmlaknmlaaLgX
import Derived.Test.YtlglngmlaknmlaaLgGb
namespace Go.Proofs.Ytlglngmlaknmlaa
open Go.RowKit Plain Lgs Tpc

set_option maxRecDepth 100000 in
set_option maxHeartbeats 4000000 in
theorem implProveGrew (l : List ByteArray) (k : Int) (v : Value) (w : World) (hv : StAt w w.heap.size v l) (hSz : ∀ i, i < l.length → (lq l i).size ≤ 9223372036854775807) :
    Calls Try.prog 35 #[v, .int .i64 k] w fun e w' => OPr w w' e (pgr l k) := by
  have rc := fun (tmps : Array Value) (P : Program) (w : World) => results_cell_tmpL (fn := Try.f35) (p := 4) (u := 5) (ty := 37) rfl tmps P w
  have HV : Hid (StAt w w.heap.size v l) := hv
  obtain ⟨ao, cap, rfl, hlc, hcm, _⟩ := hv
  unfold maxLen at hcm
  obtain ⟨W0, hW0⟩ : ∃ W, W = w.alloc (.cells #[.slice none 0 0] 37) := ⟨_, rfl⟩
  have hB0 : Below w.heap.size w W0 := by rw [hW0]; exact (Below.refl _ w).alloc (Nat.le_refl _) _
  have hs0 : W0.heap.size = w.heap.size + 1 := by rw [hW0]; simp
  have q2 : W0.cell? ⟨w.heap.size, 0, none⟩ = some (.slice none 0 0) := by rw [hW0]; go_simp
  have qf2 : W0.frozen? ⟨w.heap.size, 0, none⟩ = false := by rw [hW0]; go_simp
  have HV0 : Hid (StAt W0 W0.heap.size (.slice ao l.length cap) l) := HV.out.below hB0
  have CL : Hid (Calls Try.prog 56 #[.slice ao l.length cap] W0 fun e w' => e = .returned (.bool (lok l)) ∧ w' = W0) := isLog_any l _ W0 HV0.out hSz
  obtain ⟨R, hR⟩ : ∃ R, R = pgr l k := ⟨_, rfl⟩
  have HR : Hid (R = pgr l k) := hR
  rw [← hR]
  clear hR hSz
  have bad : ¬ (lok l = true ∧ 1 ≤ k ∧ k ≤ (l.length : Int)) → R = ([], false) := fun h => by rw [HR.out]; unfold pgr; rw [if_neg h]
  have HBAD : Hid (R = ([], false) → ∀ w', Below w.heap.size w w' → OPr w w' (.returned (.tuple #[.agg #[.slice none 0 0], .bool false])) R) := fun h w' hb => by rw [h]; exact ⟨⟨_, rfl, zrow_nil _ _⟩, hb⟩
  have hBS : Below w.heap.size w (W0.setCell ⟨w.heap.size, 0, none⟩ (.slice none 0 0)) := hB0.setCell (p := ⟨w.heap.size, 0, none⟩) (Nat.le_refl _) _
  by_cases hl : lok l = true
  case neg =>
    have hl' : lok l = false := by simpa using hl
    rw [hl'] at CL
    have hF := HBAD.out (bad (fun h => hl h.1))
    clear HBAD bad HR hl hl' HV HV0
    go_enter Try.func35, Try.ntmps35
    go_upto_region 1 with fail
    rw [← hW0]
    clear hW0
    go_wp2_with fail
    go_at_call 56
    refine CL.out.mono ?_
    rintro e w' ⟨rfl, rfl⟩
    go_wp2
    (try simp only [Exit.inBlock, Exit.then])
    refine bodyPost_ret (v := .tuple #[.agg #[.slice none 0 0], .bool false]) ?_ rfl (hF _ ?_)
    · rw [rc]
      go_simp
    · exact hBS
  rw [hl] at CL
  by_cases h0 : k < 1
  · have hF := HBAD.out (bad (fun h => by omega))
    clear HBAD bad HR hl HV HV0
    go_enter Try.func35, Try.ntmps35
    go_upto_region 1 with fail
    rw [← hW0]
    clear hW0
    go_wp2_with fail
    go_at_call 56
    refine CL.out.mono ?_
    rintro e w' ⟨rfl, rfl⟩
    go_wp2
    (try simp only [Exit.inBlock, Exit.then])
    refine bodyPost_ret (v := .tuple #[.agg #[.slice none 0 0], .bool false]) ?_ rfl (hF _ ?_)
    · rw [rc]
      go_simp
    · exact hBS
  by_cases h1 : (l.length : Int) < k
  · have hF := HBAD.out (bad (fun h => by omega))
    clear HBAD bad HR hl HV HV0
    go_enter Try.func35, Try.ntmps35
    go_upto_region 1 with fail
    rw [← hW0]
    clear hW0
    go_wp2_with fail
    go_at_call 56
    refine CL.out.mono ?_
    rintro e w' ⟨rfl, rfl⟩
    go_wp2
    (try simp only [Exit.inBlock, Exit.then])
    refine bodyPost_ret (v := .tuple #[.agg #[.slice none 0 0], .bool false]) ?_ rfl (hF _ ?_)
    · rw [rc]
      go_simp
    · exact hBS
  obtain ⟨n, rfl⟩ : ∃ n : Nat, k = (n : Int) + 1 := ⟨(k - 1).toNat, by omega⟩
  obtain ⟨h40, h20⟩ := lok_parts hl
  have hn : n < l.length := by omega
  have hn1 : ¬ l.length < n + 1 := by omega
  have hn2 : decide (l.length < n + 1) = false := by simp; omega
  have CI : Hid (Calls Try.prog 74 #[.int .i64 (l.length : Int), .int .i64 ((n : Int) + 1)] W0 fun e w' => ORt W0 w' e (rt (isEld (n + 1)) n 41 0 l.length)) := routeOfElder_any l.length n W0 hn h40
  have HF : Hid (R = ((if (rt (isEld (n + 1)) n 41 0 l.length).1.1 = 0 then [] else [root (sub l (rt (isEld (n + 1)) n 41 0 l.length).1.1 (rt (isEld (n + 1)) n 41 0 l.length).1.2)]) ++ (rt (isEld (n + 1)) n 41 0 l.length).2.map (rootS l), true)) := by
    show _ = _
    rw [HR.out]
    unfold pgr
    rw [if_pos ⟨hl, by omega, by omega⟩, show ((n : Int) + 1).toNat = n + 1 by omega, ← gro_rt l n 41 0 l.length (by omega) hn (Nat.le_refl _) (by omega) (by omega), sub_all]
    rfl
  obtain ⟨⟨g1, g2, g3⟩, g4⟩ := rt_in (eld_fit n) 41 0 l.length (by omega) hn (by omega) (by omega)
  have HIN : Hid (∀ a ∈ (rt (isEld (n + 1)) n 41 0 l.length).2, a.fr < a.tt ∧ a.tt ≤ l.length) := fun a ha => (g4 a ha).2
  have HLN : Hid ((rt (isEld (n + 1)) n 41 0 l.length).2.length ≤ 6) := rt_len (eld_fit n) 41 6 0 l.length (by omega) (by omega) hn (by omega) (by omega)
  have H20 : Hid (∀ i, i < l.length → (lq l i).size ≤ 20) := h20
  clear HBAD bad HR hl HV h20 g1 g4
  generalize rt (isEld (n + 1)) n 41 0 l.length = Q at HF CI HIN HLN g2 g3
  have HG : Hid (Q.1.1 < Q.1.2 ∧ Q.1.2 ≤ l.length) := ⟨g2, g3⟩
  clear g2 g3
  go_enter Try.func35, Try.ntmps35
  go_upto_region 1 with fail
  rw [← hW0]
  clear hW0
  go_wp2_with fail
  go_at_call 56
  refine CL.out.mono ?_
  rintro e w' ⟨rfl, h9⟩
  have h9 := h9.symm
  subst h9
  go_wp2_with fail
  go_at_call 74
  refine CI.out.mono ?_
  rintro e w2 ⟨u, rfl, hr2, hb2⟩
  have hs2 := hb2.size
  obtain ⟨ar, cr, hu, _, _⟩ := hr2.slice
  subst hu
  have hRt := Rt.made (x := Q.1.1) (y := Q.1.2) hr2
  obtain ⟨W3, hW3⟩ : ∃ W, W = w2.alloc (.cells #[.int .i64 (Q.1.1 : Int), .int .i64 (Q.1.2 : Int), .slice ar Q.2.length cr] 75) := ⟨_, rfl⟩
  have hB3 : Below w2.heap.size w2 W3 := by rw [hW3]; exact (Below.refl _ w2).alloc (Nat.le_refl _) _
  have hs3 : Hid (W3.heap.size = w2.heap.size + 1) := by show _ = _; rw [hW3]; simp
  rw [← hW3] at hRt
  obtain ⟨W4, hW4⟩ : ∃ W, W = W3.alloc (.cells #[.slice none 0 0] 79) := ⟨_, rfl⟩
  have hB4 : Below W3.heap.size W3 W4 := by rw [hW4]; exact (Below.refl _ W3).alloc (Nat.le_refl _) _
  have hs4 : Hid (W4.heap.size = W3.heap.size + 1) := by show _ = _; rw [hW4]; simp
  have HRt : Hid (Rt W4 w2.heap.size W0.heap.size (.slice ar Q.2.length cr) Q.1.1 Q.1.2 Q.2) := hRt.below hB4
  have HLv : Hid (Lv W4 (w2.heap.size + 1) W0.heap.size (.slice none 0 0) []) := by
    show Lv _ _ _ _ _
    rw [← hs3.out]
    exact ⟨by have := hs4.out; omega, by rw [hW4]; go_simp, by rw [hW4]; go_simp, zrow_nil _ _, fun g hg => by simp [Value.ownBlock] at hg⟩
  have HB04 : Hid (Below W0.heap.size W0 W4) := hb2.trans ((hB3.trans (hB4.mono hB3.size)).mono hs2)
  have hs04 : Hid (W0.heap.size ≤ w2.heap.size ∧ w2.heap.size + 2 = W4.heap.size) := by have h1 := hs3.out; have h2 := hs4.out; exact ⟨hs2, by omega⟩
  have CW : Hid (Calls Try.prog 75 #[.pointer (some ⟨w2.heap.size, 0, none⟩)] W4 fun e w' => e = .returned (.bool (decide (Q.1.1 = 0))) ∧ w' = W4) := isWhole_any w2.heap.size W0.heap.size _ Q.1.1 Q.1.2 Q.2 W4 HRt.out
  obtain ⟨bw, hbw⟩ : ∃ b, b = decide (Q.1.1 = 0) := ⟨_, rfl⟩
  rw [← hbw] at CW
  have HBW : Hid (bw = decide (Q.1.1 = 0)) := hbw
  clear hbw
  have HAV : Hid (∀ g, (Value.slice ar Q.2.length cr).ownBlock = some g → g < w2.heap.size) := fun g hg => (World.ownsRow.lt hr2 g hg).2
  have END : Hid (∀ (w4 : World) (u : Value) (P : List Nat), Below W0.heap.size W0 w4 → ZRow w4 W0.heap.size u (zl P) → R = (P, true) → (w4.cell? ⟨w.heap.size, 0, none⟩ = some (.slice none 0 0) ∧ w4.frozen? ⟨w.heap.size, 0, none⟩ = false ∧ w.heap.size < w4.heap.size) ∧ OPr w (w4.setCell ⟨w.heap.size, 0, none⟩ u) (.returned (.tuple #[.agg #[u], .bool true])) R) := fun w4 u P hb hz hF => by
    have hs4 := hb.size
    refine ⟨⟨(hb.cell (p := ⟨w.heap.size, 0, none⟩) (by show w.heap.size < _; omega)).trans q2, (hb.frozen (p := ⟨w.heap.size, 0, none⟩) (by show w.heap.size < _; omega)).trans qf2, by omega⟩, ?_⟩
    rw [hF]
    refine ⟨⟨_, rfl, ?_⟩, ?_⟩
    · exact (hz.lower (by omega)).aside (Lib.grownBy_setCell _ w.heap.size 0 _) (fun g hg h => by
        have := (World.ownsRow.lt hz g hg).1
        simp only [Option.some.injEq] at h
        omega)
    · exact (hB0.trans (hb.mono (by omega))).setCell (p := ⟨w.heap.size, 0, none⟩) (Nat.le_refl _) _
  clear hr2 hb2 hRt CI CL q2 qf2 hBS
  go_upto_region 5 with fail
  rw [← hW3, ← hW4]
  clear hW3 hW4
  go_wp2_with fail
  go_at_call 75
  refine CW.out.mono ?_
  rintro e w' ⟨rfl, h9⟩
  have h9 := h9.symm
  subst h9
  cases bw with
  | true =>
    have hx : Q.1.1 = 0 := of_decide_eq_true HBW.out.symm
    have CP : Hid (Calls Try.prog 60 #[.pointer (some ⟨w2.heap.size, 0, none⟩), .slice ao l.length cap, .agg #[.slice none 0 0]] W4 fun e w' => ∃ v', e = .returned (.agg #[v']) ∧ ZRow w' W0.heap.size v' (zl ([] ++ Q.2.map (rootS l))) ∧ Below W0.heap.size W4 w') :=
      proofOf_any l Q.2 [] w2.heap.size W0.heap.size Q.1.1 Q.1.2 _ (.slice none 0 0) _ W4 HRt.out (HV0.out.keep HB04.out) HIN.out h40 H20.out (zrow_nil _ _) (by have := hs04.out; omega) (fun g hg => by simp [Value.ownBlock] at hg) (by have := HLN.out; omega) (by simp)
    have HF2 : Hid (R = ([] ++ Q.2.map (rootS l), true)) := by show _ = _; rw [HF.out, if_pos hx]
    have l0 := HLv.out.row
    have l1 := HLv.out.low
    clear HRt HV0 HIN HLN H20 CW HF HLv HG hx
    generalize ([] : List Nat) ++ Q.2.map (rootS l) = P at CP HF2
    go_wp2_with fail
    go_at_call 60
    refine CP.out.mono ?_
    rintro e w4 ⟨u, rfl, hz, hb⟩
    obtain ⟨⟨r2, rf2, rl2⟩, hend⟩ := END.out w4 u P (HB04.out.trans hb) hz HF2.out
    have HEND : Hid (OPr w (w4.setCell ⟨w.heap.size, 0, none⟩ u) (.returned (.tuple #[.agg #[u], .bool true])) R) := hend
    obtain ⟨a2, c2, rfl⟩ := hz.slice
    clear hz hb hend
    go_wp2
    (try simp only [Exit.inBlock, Exit.then])
    refine bodyPost_ret (v := .tuple #[.agg #[.slice a2 (zl P).length c2], .bool true]) ?_ rfl HEND.out
    rw [rc]
    go_simp
  | false =>
    have hx : ¬ Q.1.1 = 0 := of_decide_eq_false HBW.out.symm
    have HF2 : Hid (R = ([root (sub l Q.1.1 Q.1.2)] ++ Q.2.map (rootS l), true)) := by show _ = _; rw [HF.out, if_neg hx]
    have CR : Hid (Calls Try.prog 77 #[.agg #[.int .i64 (Q.1.1 : Int), .int .i64 (Q.1.2 : Int)], .slice ao l.length cap] W4 fun e w' => e = .returned (.int .i64 ((root (sub l Q.1.1 Q.1.2) : Nat) : Int)) ∧ Below W4.heap.size W4 w') := rootIn_any l Q.1.1 Q.1.2 _ W4 HG.out.1 HG.out.2 h40 H20.out (HV0.out.below HB04.out)
    have n0 := HRt.out.fr
    have n1 := HRt.out.tt
    have nl := HRt.out.low
    generalize root (sub l Q.1.1 Q.1.2) = N at CR HF2
    clear CW HF HG hx
    go_wp2_with fail
    go_at_call 77
    refine CR.out.mono ?_
    rintro e w5 ⟨rfl, hb5⟩
    have hs5 := hb5.size
    have hL5 := HLv.out.below hb5
    have HR5 : Hid (Rt w5 w2.heap.size W0.heap.size (.slice ar Q.2.length cr) Q.1.1 Q.1.2 Q.2) := HRt.out.below hb5
    have HB5 : Hid (Below W0.heap.size W0 w5) := HB04.out.trans (hb5.mono HB04.out.size)
    have CA : Hid (Calls Try.prog 76 #[.pointer (some ⟨w2.heap.size + 1, 0, none⟩), .int .i64 (N : Int)] w5 fun e w' => e = .returned (.tuple #[]) ∧ ∃ v', Lv w' (w2.heap.size + 1) W0.heap.size v' ([] ++ [(N : Int)]) ∧ Pl w5 w' (w2.heap.size + 1) (.slice none 0 0) v') := addZ_any (N : Int) (w2.heap.size + 1) W0.heap.size _ [] w5 hL5 (by have := hs04.out; omega) (by simp)
    clear hL5 hb5 CR HRt HLv n0 n1 nl
    go_wp2_with fail
    go_at_call 76
    refine CA.out.mono ?_
    rintro e w6 ⟨rfl, v6, hL6, hP6⟩
    have hs6 := hP6.size
    have hR6 : Rt w6 w2.heap.size W0.heap.size (.slice ar Q.2.length cr) Q.1.1 Q.1.2 Q.2 := by
      have h0 := HR5.out
      have hz4 := hs04.out
      have hbk : ∀ j, j < w2.heap.size + 1 → w6.heap[j]? = w5.heap[j]? := fun j hj => hP6.block j (by omega) (by omega) (fun e => by simp [Value.ownBlock] at e)
      have hrb := hbk w2.heap.size (by omega)
      refine ⟨by omega, (World.cell?_of_block (w := w5) hrb).trans h0.fr, (World.cell?_of_block (w := w5) hrb).trans h0.tt, (World.cell?_of_block (w := w5) hrb).trans h0.row, (World.frozen?_of_block (w := w5) hrb).trans h0.frz, ?_, h0.apt⟩
      have hown := h0.own
      refine ⟨hown.1, ?_⟩
      rcases hown.2 with hn | ⟨g, cap, cur, hv, hgB, hgg, rest⟩
      · exact .inl hn
      · have := HAV.out g (by rw [hv]; rfl)
        exact .inr ⟨g, cap, cur, hv, hgB, (hbk g (by omega)).trans hgg, rest⟩
    have hB6 : Below W0.heap.size w5 w6 := hP6.below (by have := hs04.out; omega) (by have := hs04.out; omega) (fun g hg => by simp [Value.ownBlock] at hg)
    have HB6 : Hid (Below W0.heap.size W0 w6) := HB5.out.trans hB6
    have hz6 : ZRow w6 W0.heap.size v6 (zl [N]) := hL6.own
    have l0 := hL6.row
    have l1 := hL6.low
    obtain ⟨a6, c6, hv6⟩ := hz6.slice
    subst hv6
    have CP : Hid (Calls Try.prog 60 #[.pointer (some ⟨w2.heap.size, 0, none⟩), .slice ao l.length cap, .agg #[.slice a6 (zl [N]).length c6]] w6 fun e w' => ∃ v', e = .returned (.agg #[v']) ∧ ZRow w' W0.heap.size v' (zl ([N] ++ Q.2.map (rootS l))) ∧ Below W0.heap.size w6 w') :=
      proofOf_any l Q.2 [N] w2.heap.size W0.heap.size Q.1.1 Q.1.2 _ _ _ w6 hR6 (HV0.out.keep HB6.out) HIN.out h40 H20.out hz6 (by have := hs04.out; omega) (fun g hg => by
        have hz4 := hs04.out
        rcases hP6.new g hg with h | h
        · simp [Value.ownBlock] at h
        · exact ⟨by omega, fun e => by have := HAV.out g e; omega⟩) (by have := HLN.out; omega) (by simp)
    clear hL6 hP6 hR6 hz6 HV0 HIN HLN H20 CA hB6
    generalize [N] ++ Q.2.map (rootS l) = P at CP HF2
    go_wp2_with fail
    go_at_call 60
    refine CP.out.mono ?_
    rintro e w7 ⟨u, rfl, hz, hb⟩
    obtain ⟨⟨r2, rf2, rl2⟩, hend⟩ := END.out w7 u P (HB6.out.trans hb) hz HF2.out
    have HEND : Hid (OPr w (w7.setCell ⟨w.heap.size, 0, none⟩ u) (.returned (.tuple #[.agg #[u], .bool true])) R) := hend
    obtain ⟨a2, c2, rfl⟩ := hz.slice
    clear hz hb hend
    go_wp2
    (try simp only [Exit.inBlock, Exit.then])
    refine bodyPost_ret (v := .tuple #[.agg #[.slice a2 (zl P).length c2], .bool true]) ?_ rfl HEND.out
    rw [rc]
    go_simp

end Go.Proofs.Ytlglngmlaknmlaa
