/- The program's ClassesOf. -/
import Derived.Test.YtecgjhnihagleaaHa
namespace Go.Proofs.Ytecgjhnihagleaa
open Go.RowKit Plain Mch Tpc

set_option maxRecDepth 100000 in
set_option maxHeartbeats 4000000 in
theorem implClasses (M : List (List Int)) (E : List Bool) (v e : Value) (w : World) (hM : MAt w w.heap.size v M) (hE : EAt w w.heap.size e E) :
    Calls Try.prog 10 #[.agg #[v, e]] w fun x w' => (∃ r, x = .returned (.tuple #[r, .int .i64 ((clw M E : Nat) : Int), .bool (gm M E)]) ∧ ZRow w' w.heap.size r (clo M E)) ∧ Below w.heap.size w w' := by
  have HM : Hid (MAt w w.heap.size v M) := hM
  have HE : Hid (EAt w w.heap.size e E) := hE
  obtain ⟨aM, cM, rfl, hm1, hm2, _⟩ := hM
  obtain ⟨aE, cE, rfl, he1, he2, _⟩ := hE
  obtain ⟨W1, hW1⟩ : ∃ W, W = w.alloc (.cells #[.slice aM M.length cM, .slice aE E.length cE] 30) := ⟨_, rfl⟩
  have hB1 : Below w.heap.size w W1 := by rw [hW1]; exact (Below.refl _ w).alloc (Nat.le_refl _) _
  have q0 : W1.cell? ⟨w.heap.size, 0, none⟩ = some (.slice aM M.length cM) := by rw [hW1]; go_simp
  have q1 : W1.cell? ⟨w.heap.size, 1, none⟩ = some (.slice aE E.length cE) := by rw [hW1]; go_simp
  have hl0 : w.heap.size < W1.heap.size := by rw [hW1]; simp
  obtain ⟨G, hG⟩ : ∃ G, G = gm M E := ⟨_, rfl⟩
  obtain ⟨C, hC⟩ : ∃ C, C = clo M E := ⟨_, rfl⟩
  obtain ⟨N, hN⟩ : ∃ N, N = clw M E := ⟨_, rfl⟩
  have HG : Hid (G = gm M E) := hG
  have HC : Hid (C = clo M E) := hC
  have HN : Hid (N = clw M E) := hN
  rw [← hG, ← hC, ← hN]
  clear hG hC hN
  go_enter Try.func10, Try.ntmps10
  go_wp2_with fail
  rw [← hW1]
  clear hW1
  refine (implGoodM M E _ _ _ (HM.out.below hB1) (HE.out.below hB1)).mono ?_
  rintro x w2 ⟨rfl, hb2⟩
  replace q0 := (hb2.cell (p := ⟨w.heap.size, 0, none⟩) hl0).trans q0
  replace q1 := (hb2.cell (p := ⟨w.heap.size, 1, none⟩) hl0).trans q1
  have hB2 : Below w.heap.size w w2 := hB1.trans (hb2.mono hB1.size)
  replace hl0 : w.heap.size < w2.heap.size := by have := hb2.size; omega
  clear hb2 hB1
  cases hg : gm M E with
  | false =>
    have hF : Hid (G = false ∧ C = [] ∧ N = 0) := ⟨HG.out.trans hg, by rw [HC.out]; unfold clo; rw [hg]; rfl, by rw [HN.out]; unfold clw; rw [hg]; rfl⟩
    clear hg
    go_wp2
    go_ret3
    exact ⟨⟨_, by rw [hF.out.1, hF.out.2.2]; rfl, by rw [hF.out.2.1]; exact ⟨rfl, .inl ⟨rfl, rfl⟩⟩⟩, hB2⟩
  | true =>
    have hF : Hid (G = true ∧ C = zn (cls M E) ∧ N = cln M E) := ⟨HG.out.trans hg, by rw [HC.out]; unfold clo; rw [hg]; rfl, by rw [HN.out]; unfold clw; rw [hg]; rfl⟩
    have HGT : Hid (gm M E = true) := hg
    clear hg
    go_wp2_with fail
    refine (classesOf_any M E _ _ _ (HM.out.below hB2) (HE.out.below hB2) HGT.out).mono ?_
    rintro x w3 ⟨⟨r3, rfl, ho3⟩, hb3⟩
    have HO3 : Hid (ZRow w3 w.heap.size r3 C) := by
      show World.ownsRow _ _ _ _ _ _ _
      rw [hF.out.2.1]
      exact own_lowerM ho3 hB2.size
    have hB3 : Below w.heap.size w w3 := hB2.trans (hb3.mono hB2.size)
    rw [← hF.out.2.2]
    clear ho3 hb3 hB2 q0 q1
    obtain ⟨a3, c3, hv3⟩ := ZRow.slice HO3.out
    subst hv3
    go_wp2
    go_ret3
    exact ⟨⟨_, by rw [hF.out.1]; rfl, HO3.out⟩, hB3⟩

end Go.Proofs.Ytecgjhnihagleaa
