/- The program's outlookOf. -/
import Derived.Test.YtecgjhnihagleaaMcDb
import Derived.Test.YtecgjhnihagleaaMcT
namespace Go.Proofs.Ytecgjhnihagleaa
open Go.RowKit Plain Mch Tpc

/-- an outlook's variable -/
structure LC (w : World) (b : Nat) (e : Bool) (x y z : Nat) : Prop where
  lb : b < w.heap.size
  c0 : w.cell? ⟨b, 0, none⟩ = some (.bool e)
  c1 : w.cell? ⟨b, 1, none⟩ = some (.int .i64 (x : Int))
  c2 : w.cell? ⟨b, 2, none⟩ = some (.int .i64 (y : Int))
  c3 : w.cell? ⟨b, 3, none⟩ = some (.int .i64 (z : Int))
  f0 : w.frozen? ⟨b, 0, none⟩ = false
  f1 : w.frozen? ⟨b, 1, none⟩ = false
  f2 : w.frozen? ⟨b, 2, none⟩ = false
  f3 : w.frozen? ⟨b, 3, none⟩ = false

theorem LC.below {w w' : World} {b : Nat} {e : Bool} {x y z : Nat} (h : LC w b e x y z) (hb : Below w.heap.size w w') : LC w' b e x y z :=
  ⟨Nat.lt_of_lt_of_le h.lb hb.size, (hb.cell (p := ⟨b, 0, none⟩) h.lb).trans h.c0, (hb.cell (p := ⟨b, 1, none⟩) h.lb).trans h.c1, (hb.cell (p := ⟨b, 2, none⟩) h.lb).trans h.c2, (hb.cell (p := ⟨b, 3, none⟩) h.lb).trans h.c3, (hb.frozen (p := ⟨b, 0, none⟩) h.lb).trans h.f0, (hb.frozen (p := ⟨b, 1, none⟩) h.lb).trans h.f1, (hb.frozen (p := ⟨b, 2, none⟩) h.lb).trans h.f2, (hb.frozen (p := ⟨b, 3, none⟩) h.lb).trans h.f3⟩

theorem LC.made (w : World) (e : Bool) (x y z : Nat) : LC (w.alloc (.cells #[.bool e, .int .i64 (x : Int), .int .i64 (y : Int), .int .i64 (z : Int)] 96)) w.heap.size e x y z := by
  refine ⟨by simp, ?_, ?_, ?_, ?_, ?_, ?_, ?_, ?_⟩ <;> go_simp

theorem LC.set1 {w : World} {b : Nat} {e : Bool} {x y z : Nat} (h : LC w b e x y z) (u : Nat) : LC (w.setCell ⟨b, 1, none⟩ (.int .i64 (u : Int))) b e u y z :=
  ⟨by rw [World.size_setCell]; exact h.lb, by rw [World.cell?_setCell_other _ _ _ _ (by simp)]; exact h.c0, World.cell?_setCell_same _ _ _ h.c1, by rw [World.cell?_setCell_other _ _ _ _ (by simp)]; exact h.c2, by rw [World.cell?_setCell_other _ _ _ _ (by simp)]; exact h.c3, by rw [World.frozen?_setCell]; exact h.f0, by rw [World.frozen?_setCell]; exact h.f1, by rw [World.frozen?_setCell]; exact h.f2, by rw [World.frozen?_setCell]; exact h.f3⟩
theorem LC.set2 {w : World} {b : Nat} {e : Bool} {x y z : Nat} (h : LC w b e x y z) (u : Nat) : LC (w.setCell ⟨b, 2, none⟩ (.int .i64 (u : Int))) b e x u z :=
  ⟨by rw [World.size_setCell]; exact h.lb, by rw [World.cell?_setCell_other _ _ _ _ (by simp)]; exact h.c0, by rw [World.cell?_setCell_other _ _ _ _ (by simp)]; exact h.c1, World.cell?_setCell_same _ _ _ h.c2, by rw [World.cell?_setCell_other _ _ _ _ (by simp)]; exact h.c3, by rw [World.frozen?_setCell]; exact h.f0, by rw [World.frozen?_setCell]; exact h.f1, by rw [World.frozen?_setCell]; exact h.f2, by rw [World.frozen?_setCell]; exact h.f3⟩
theorem LC.set3 {w : World} {b : Nat} {e : Bool} {x y z : Nat} (h : LC w b e x y z) (u : Nat) : LC (w.setCell ⟨b, 3, none⟩ (.int .i64 (u : Int))) b e x y u :=
  ⟨by rw [World.size_setCell]; exact h.lb, by rw [World.cell?_setCell_other _ _ _ _ (by simp)]; exact h.c0, by rw [World.cell?_setCell_other _ _ _ _ (by simp)]; exact h.c1, by rw [World.cell?_setCell_other _ _ _ _ (by simp)]; exact h.c2, World.cell?_setCell_same _ _ _ h.c3, by rw [World.frozen?_setCell]; exact h.f0, by rw [World.frozen?_setCell]; exact h.f1, by rw [World.frozen?_setCell]; exact h.f2, by rw [World.frozen?_setCell]; exact h.f3⟩

/-- the outlook in the making -/
def Mch.lks (q : Bool × Nat × Nat × Nat) (i : Nat) : Bool × Nat × Nat × Nat := (q.1, if 0 < i then q.2.1 else 0, if 1 < i then q.2.2.1 else 0, if 2 < i then q.2.2.2 else 0)

set_option maxRecDepth 100000 in
set_option maxHeartbeats 8000000 in
theorem outlookOf_any (M : List (List Int)) (E : List Bool) (c : List Nat) (vM eM v : Value) (x : Nat) (w : World) (hM : MAt w w.heap.size vM M) (hE : EAt w w.heap.size eM E) (hv : ZAt w w.heap.size v (zn c)) (hg : gm M E = true) (hl : c.length = M.length) (hx : x < M.length) :
    Calls Try.prog 75 #[.agg #[vM, eM], .int .i64 (x : Int), v] w fun e w' => e = .returned (lkv (lo4 M E c x)) ∧ Below w.heap.size w w' := by
  have rc := fun (tmps : Array Value) (P : Program) (w : World) => results_cellM (fn := Try.f75) (p := 6) (ty := 96) rfl tmps P w
  have HM : Hid (MAt w w.heap.size vM M) := hM
  have HE : Hid (EAt w w.heap.size eM E) := hE
  have HV : Hid (ZAt w w.heap.size v (zn c)) := hv
  have HG : Hid (gm M E = true) := hg
  have HL : Hid (c.length = M.length) := hl
  have HLE : Hid (E.length = M.length) := (gm_iff.1 hg).1.2.2
  obtain ⟨aM, cM, rfl, hm1, hm2, _⟩ := hM
  obtain ⟨aE, cE, rfl, he1, he2, _⟩ := hE
  obtain ⟨av, cv, rfl, hc1, hc2, _⟩ := hv
  rw [zn_len] at hc1 HV
  rw [zn_len]
  unfold maxLen at hm2 hc2 he2
  have h12 : M.length ≤ 12 := (gm_iff.1 hg).1.2.1
  rw [hl] at HV hc1
  rw [hl]
  obtain ⟨⟨ra, rb, rd, re⟩, hR⟩ : ∃ R, R = lo4 M E c x := ⟨_, rfl⟩
  have HR : Hid ((ra, rb, rd, re) = lo4 M E c x) := hR
  rw [← hR]
  unfold lkv
  dsimp only
  clear hR hg hl
  obtain ⟨ga, oa, gu, ou, cu, hA1, hA2, hA3, hA4, hA5⟩ := HM.out.row HG.out hx
  subst hA1
  obtain ⟨gE, oE, hvE, hgE, cO⟩ := HE.out.to (i := x) (by rw [HLE.out]; exact hx)
  subst hvE
  have hv0 : 0 < c.length := by rw [HL.out]; omega
  obtain ⟨gv, ov, hv1, hv2, _⟩ := HV.out.cx (i := 0) hv0
  subst hv1
  have HVC : Hid (∀ y, y < M.length → w.cell? ⟨gv, ov + y, none⟩ = some (.int .i64 ((cx c y : Nat) : Int))) := fun y hy => by
    obtain ⟨g', o', e1, e2, e3⟩ := HV.out.cx (i := y) (by rw [HL.out]; exact hy)
    simp only [Option.some.injEq, Addr.mk.injEq] at e1
    obtain ⟨rfl, rfl, _⟩ := e1
    exact e3
  have HA5 : Hid (∀ k, k < 3 → w.cell? ⟨gu, ou + k, none⟩ = some (.int .i64 ((nt M x k : Nat) : Int)) ∧ nt M x k < M.length) := fun k hk => ⟨hA5 k hk, (gm_next HG.out hx hk).2.1⟩
  have hxM : (x : Int) < (M.length : Int) := by omega
  have hxE : (x : Int) < (E.length : Int) := by have := HLE.out; omega
  obtain ⟨W0, hW0⟩ : ∃ W, W = (w.alloc (.cells #[.slice (some ⟨ga, oa, none⟩) M.length cM, .slice (some ⟨gE, oE, none⟩) E.length cE] 30)).alloc (.cells #[.bool false, .int .i64 0, .int .i64 0, .int .i64 0] 96) := ⟨_, rfl⟩
  have HS0 : Hid (W0.heap.size = w.heap.size + 2) := by show _ = _; rw [hW0]; simp
  have hB0 : Below w.heap.size w W0 := by rw [hW0]; exact ((Below.refl _ w).alloc (Nat.le_refl _) _).alloc (by simp) _
  have q0 : W0.cell? ⟨w.heap.size, 0, none⟩ = some (.slice (some ⟨ga, oa, none⟩) M.length cM) := by rw [hW0]; go_simp
  have q1 : W0.cell? ⟨w.heap.size, 1, none⟩ = some (.slice (some ⟨gE, oE, none⟩) E.length cE) := by rw [hW0]; go_simp
  have hz0 : w.heap.size < W0.heap.size := by rw [hW0]; simp; omega
  have L0 : Hid (LC W0 (w.heap.size + 1) false 0 0 0) := by
    have h := LC.made (w.alloc (.cells #[.slice (some ⟨ga, oa, none⟩) M.length cM, .slice (some ⟨gE, oE, none⟩) E.length cE] 30)) false 0 0 0
    rw [World.size_alloc] at h
    rw [hW0]
    exact h
  obtain ⟨W1, hW1⟩ : ∃ W, W = W0.alloc (.cells #[.bool (en E x), .int .i64 0, .int .i64 0, .int .i64 0] 96) := ⟨_, rfl⟩
  have hB01 : Below W0.heap.size W0 W1 := by rw [hW1]; exact (Below.refl _ W0).alloc (Nat.le_refl _) _
  have L1 : Hid (LC W1 (w.heap.size + 2) (en E x) 0 0 0) := by
    have h := LC.made W0 (en E x) 0 0 0
    rw [HS0.out] at h
    rw [hW1]
    exact h
  have hB1 : Below w.heap.size w W1 := hB0.trans (hB01.mono hB0.size)
  have P0 : Hid (LC W1 (w.heap.size + 1) false 0 0 0) := L0.out.below hB01
  have HS1 : Hid (W1.heap.size = w.heap.size + 3) := by show _ = _; rw [hW1, World.size_alloc, HS0.out]
  have r0 := (hB01.cell (p := ⟨w.heap.size, 0, none⟩) hz0).trans q0
  have hz1 : w.heap.size < W1.heap.size := by rw [HS1.out]; omega
  have cE0 := (hB0.cell (p := ⟨gE, oE + x, none⟩) hgE).trans cO
  have r3 := (hB1.cell (p := ⟨ga, oa + x, none⟩) hA2).trans hA3
  have HFS : Hid (lks (ra, rb, rd, re) 0 = (en E x, 0, 0, 0)) := by show _ = _; rw [HR.out]; rfl
  have HF3 : Hid (lks (ra, rb, rd, re) 3 = (ra, rb, rd, re)) := by show _ = _; rw [HR.out]; rfl
  have HX1 : Hid (ra = en E x) := congrArg Prod.fst HR.out
  have HX : Hid (cx c (nt M x 0) = rb ∧ cx c (nt M x 1) = rd ∧ cx c (nt M x 2) = re) := by
    have h := HR.out
    unfold lo4 at h
    simp only [Prod.mk.injEq] at h
    exact ⟨h.2.1.symm, h.2.2.1.symm, h.2.2.2.symm⟩
  clear hA3 hA5 HR cO
  generalize en E x = ex at hW1 L1 cE0 HFS HX1
  go_enter Try.func75, Try.ntmps75
  go_upto_region 1 with fail
  rw [← hW0]
  clear hW0
  have hs0 : W0.heap.size = w.heap.size + 2 := HS0.out
  go_upto_region 2 with fail
  rw [← hW1]
  clear hW1 hs0 q0 q1 cE0
  go_wp2
  clear r0 r3
  go_loopw [22] (fun vi wr => ∃ i : Nat, i ≤ 3 ∧ vi = .int .i64 (i : Int) ∧ Hid (LC wr (w.heap.size + 2) ra (lks (ra, rb, rd, re) i).2.1 (lks (ra, rb, rd, re) i).2.2.1 (lks (ra, rb, rd, re) i).2.2.2) ∧ Hid (Below (w.heap.size + 2) W1 wr))
    (fun vi _ => 3 - (intOf vi).toNat)
  case atStart => exact ⟨0, by omega, rfl, by rw [HFS.out, HX1.out]; exact L1, Below.refl _ _⟩
  case round =>
    obtain ⟨i, hi, rfl, hLC, hbw⟩ := hrel
    clear L1 L0
    have hBr : Below w.heap.size w wr := hB1.trans (hbw.out.mono (by omega))
    have hsz : w.heap.size + 2 < wr.heap.size := hLC.out.lb
    have hcase : i = 0 ∨ i = 1 ∨ i = 2 ∨ i = 3 := by omega
    rcases hcase with rfl | rfl | rfl | rfl
    · obtain ⟨n1, n3⟩ := HA5.out 0 (by omega)
      replace n1 := (hBr.cell (p := ⟨gu, ou + 0, none⟩) hA4).trans n1
      have k1 := (hBr.cell (p := ⟨gv, ov + nt M x 0, none⟩) hv2).trans (HVC.out _ n3)
      have HK : Hid (cx c (nt M x 0) = rb) := HX.out.1
      rw [Nat.add_zero] at n1
      have L2 : Hid (LC (wr.setCell ⟨w.heap.size + 2, 1, none⟩ (.int .i64 ((cx c (nt M x 0) : Nat) : Int))) (w.heap.size + 2) ra (lks (ra, rb, rd, re) 1).2.1 (lks (ra, rb, rd, re) 1).2.2.1 (lks (ra, rb, rd, re) 1).2.2.2) := by
        show LC _ _ _ _ _ _
        rw [HK.out]
        exact hLC.out.set1 _
      have HB2 : Hid (Below (w.heap.size + 2) W1 (wr.setCell ⟨w.heap.size + 2, 1, none⟩ (.int .i64 ((cx c (nt M x 0) : Nat) : Int)))) := hbw.out.setCell (p := ⟨w.heap.size + 2, 1, none⟩) (Nat.le_refl _) _
      have d1 := hLC.out.c1
      have d2 := hLC.out.f1
      generalize cx c (nt M x 0) = p at k1 L2 HB2
      generalize nt M x 0 = s at n1 n3 k1
      have n3' : (s : Int) < (M.length : Int) := by omega
      clear hLC HK
      go_wp2
      go_roundw
      case rel => exact ⟨1, by omega, rfl, L2, HB2⟩
      case measure => simp [intOf]
    · obtain ⟨n1, n3⟩ := HA5.out 1 (by omega)
      replace n1 := (hBr.cell (p := ⟨gu, ou + 1, none⟩) hA4).trans n1
      have k1 := (hBr.cell (p := ⟨gv, ov + nt M x 1, none⟩) hv2).trans (HVC.out _ n3)
      have HK : Hid (cx c (nt M x 1) = rd) := HX.out.2.1
      have L2 : Hid (LC (wr.setCell ⟨w.heap.size + 2, 2, none⟩ (.int .i64 ((cx c (nt M x 1) : Nat) : Int))) (w.heap.size + 2) ra (lks (ra, rb, rd, re) 2).2.1 (lks (ra, rb, rd, re) 2).2.2.1 (lks (ra, rb, rd, re) 2).2.2.2) := by
        show LC _ _ _ _ _ _
        rw [HK.out]
        exact hLC.out.set2 _
      have HB2 : Hid (Below (w.heap.size + 2) W1 (wr.setCell ⟨w.heap.size + 2, 2, none⟩ (.int .i64 ((cx c (nt M x 1) : Nat) : Int)))) := hbw.out.setCell (p := ⟨w.heap.size + 2, 2, none⟩) (Nat.le_refl _) _
      have d1 := hLC.out.c2
      have d2 := hLC.out.f2
      generalize cx c (nt M x 1) = p at k1 L2 HB2
      generalize nt M x 1 = s at n1 n3 k1
      have n3' : (s : Int) < (M.length : Int) := by omega
      clear hLC HK
      go_wp2
      go_roundw
      case rel => exact ⟨2, by omega, rfl, L2, HB2⟩
      case measure => simp [intOf]
    · obtain ⟨n1, n3⟩ := HA5.out 2 (by omega)
      replace n1 := (hBr.cell (p := ⟨gu, ou + 2, none⟩) hA4).trans n1
      have k1 := (hBr.cell (p := ⟨gv, ov + nt M x 2, none⟩) hv2).trans (HVC.out _ n3)
      have HK : Hid (cx c (nt M x 2) = re) := HX.out.2.2
      have L2 : Hid (LC (wr.setCell ⟨w.heap.size + 2, 3, none⟩ (.int .i64 ((cx c (nt M x 2) : Nat) : Int))) (w.heap.size + 2) ra (lks (ra, rb, rd, re) 3).2.1 (lks (ra, rb, rd, re) 3).2.2.1 (lks (ra, rb, rd, re) 3).2.2.2) := by
        show LC _ _ _ _ _ _
        rw [HK.out]
        exact hLC.out.set3 _
      have HB2 : Hid (Below (w.heap.size + 2) W1 (wr.setCell ⟨w.heap.size + 2, 3, none⟩ (.int .i64 ((cx c (nt M x 2) : Nat) : Int)))) := hbw.out.setCell (p := ⟨w.heap.size + 2, 3, none⟩) (Nat.le_refl _) _
      have d1 := hLC.out.c3
      have d2 := hLC.out.f3
      generalize cx c (nt M x 2) = p at k1 L2 HB2
      generalize nt M x 2 = s at n1 n3 k1
      have n3' : (s : Int) < (M.length : Int) := by omega
      clear hLC HK
      go_wp2
      go_roundw
      case rel => exact ⟨3, by omega, rfl, L2, HB2⟩
      case measure => simp [intOf]
    · have hge : ¬ ((3 : Int) < 3) := by omega
      have hLC' : LC wr (w.heap.size + 2) ra rb rd re := hLC.out
      have hP : LC wr (w.heap.size + 1) false 0 0 0 := ⟨by omega, (hbw.out.cell (p := ⟨w.heap.size + 1, 0, none⟩) (by show w.heap.size + 1 < _; omega)).trans P0.out.c0, (hbw.out.cell (p := ⟨w.heap.size + 1, 1, none⟩) (by show w.heap.size + 1 < _; omega)).trans P0.out.c1, (hbw.out.cell (p := ⟨w.heap.size + 1, 2, none⟩) (by show w.heap.size + 1 < _; omega)).trans P0.out.c2, (hbw.out.cell (p := ⟨w.heap.size + 1, 3, none⟩) (by show w.heap.size + 1 < _; omega)).trans P0.out.c3, (hbw.out.frozen (p := ⟨w.heap.size + 1, 0, none⟩) (by show w.heap.size + 1 < _; omega)).trans P0.out.f0, (hbw.out.frozen (p := ⟨w.heap.size + 1, 1, none⟩) (by show w.heap.size + 1 < _; omega)).trans P0.out.f1, (hbw.out.frozen (p := ⟨w.heap.size + 1, 2, none⟩) (by show w.heap.size + 1 < _; omega)).trans P0.out.f2, (hbw.out.frozen (p := ⟨w.heap.size + 1, 3, none⟩) (by show w.heap.size + 1 < _; omega)).trans P0.out.f3⟩
      obtain ⟨_, d0, d1, d2, d3, _, _, _, _⟩ := hLC'
      obtain ⟨_, p0, p1, p2, p3, y0, y1, y2, y3⟩ := hP
      clear hLC P0
      go_wp2
      (try simp only [Exit.inBlock, Exit.then])
      refine bodyPost_ret (v := .agg #[.bool ra, .int .i64 (rb : Int), .int .i64 (rd : Int), .int .i64 (re : Int)]) ?_ rfl ⟨rfl, ?_⟩
      · rw [rc]
        go_simp
      · exact (((hBr.setCell (p := ⟨w.heap.size + 1, 0, none⟩) (by show w.heap.size ≤ w.heap.size + 1; omega) _).setCell (p := ⟨w.heap.size + 1, 1, none⟩) (by show w.heap.size ≤ w.heap.size + 1; omega) _).setCell (p := ⟨w.heap.size + 1, 2, none⟩) (by show w.heap.size ≤ w.heap.size + 1; omega) _).setCell (p := ⟨w.heap.size + 1, 3, none⟩) (by show w.heap.size ≤ w.heap.size + 1; omega) _

end Go.Proofs.Ytecgjhnihagleaa
