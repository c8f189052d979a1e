/- Two machines drawn, by the other name. -/
import Derived.Test.YtecgjhnihagleaaMcGe
namespace Go.Proofs.Ytecgjhnihagleaa
open Go.RowKit Plain Mch Tpc

set_option maxRecDepth 100000 in
set_option maxHeartbeats 4000000 in
theorem drawMeetM_any (ao : Option Addr) (len cap : Nat) (w : World) (hcode : CodeAt w ao len) :
    Calls Try.prog 25 #[.slice ao len cap] w fun e w' => (∃ ra qa rb qb, e = .returned (.tuple #[.agg #[ra, qa], .agg #[rb, qb]]) ∧ TwoM w' w.heap.size ra qa rb qb) ∧ Below w.heap.size w w' := by
  have rc := fun (tmps : Array Value) (P : Program) (w : World) => results_cell_cellM (fn := Try.f25) (p := 2) (u := 3) (ty := 30) (ty' := 30) rfl tmps P w
  obtain ⟨W1, hW1⟩ : ∃ W, W = (w.alloc (.cells #[.slice none 0 0, .slice none 0 0] 30)).alloc (.cells #[.slice none 0 0, .slice none 0 0] 30) := ⟨_, rfl⟩
  have hb1 : Below w.heap.size w W1 := by rw [hW1]; exact ((Below.refl _ w).alloc (Nat.le_refl _) _).alloc (by simp) _
  have HS1 : Hid (W1.heap.size = w.heap.size + 2) := by show _ = _; rw [hW1]; simp
  have P1 : Hid (∀ k, k < 2 → (W1.cell? ⟨w.heap.size, k, none⟩ = some (.slice none 0 0) ∧ W1.cell? ⟨w.heap.size + 1, k, none⟩ = some (.slice none 0 0)) ∧ W1.frozen? ⟨w.heap.size, k, none⟩ = false ∧ W1.frozen? ⟨w.heap.size + 1, k, none⟩ = false) := fun k hk => by
    rcases (show k = 0 ∨ k = 1 by omega) with rfl | rfl <;> refine ⟨⟨?_, ?_⟩, ?_, ?_⟩ <;> rw [hW1] <;> go_simp
  have CD : Hid (type_of% (drawTwo_any ao len cap W1 (hcode.below hb1))) := drawTwo_any ao len cap W1 (hcode.below hb1)
  go_enter Try.func25, Try.ntmps25
  go_wp2_with fail
  rw [← hW1]
  clear hW1
  refine CD.out.mono ?_
  rintro e w3 ⟨⟨va, ea, vb, eb, rfl, A, E, B, F, us, ts, ⟨hoA, hsA⟩, hoB, hsB⟩, hb3⟩
  have HSA : Hid (Sml A E) := hsA
  have HSB : Hid (Sml B F) := hsB
  have e1 := HS1.out
  have HOA : Hid (MaOwn w3 W1.heap.size va ea A E us) := hoA
  have HOB : Hid (MaOwn w3 W1.heap.size vb eb B F ts) := hoB
  obtain ⟨aA, cA, h1⟩ := hoA.1.slice
  obtain ⟨aE, cE, h2⟩ := ERow.slice hoA.2.1
  obtain ⟨aB, cB, h3⟩ := hoB.1.slice
  obtain ⟨aF, cF, h4⟩ := ERow.slice hoB.2.1
  subst h1 h2 h3 h4
  have l1 : w.heap.size < W1.heap.size := by omega
  have l2 : w.heap.size + 1 < W1.heap.size := by omega
  have a00 := (hb3.cell (p := ⟨w.heap.size, 0, none⟩) l1).trans (P1.out 0 (by omega)).1.1
  have a01 := (hb3.cell (p := ⟨w.heap.size, 1, none⟩) l1).trans (P1.out 1 (by omega)).1.1
  have a10 := (hb3.cell (p := ⟨w.heap.size + 1, 0, none⟩) l2).trans (P1.out 0 (by omega)).1.2
  have a11 := (hb3.cell (p := ⟨w.heap.size + 1, 1, none⟩) l2).trans (P1.out 1 (by omega)).1.2
  have f00 := (hb3.frozen (p := ⟨w.heap.size, 0, none⟩) l1).trans (P1.out 0 (by omega)).2.1
  have f01 := (hb3.frozen (p := ⟨w.heap.size, 1, none⟩) l1).trans (P1.out 1 (by omega)).2.1
  have f10 := (hb3.frozen (p := ⟨w.heap.size + 1, 0, none⟩) l2).trans (P1.out 0 (by omega)).2.2
  have f11 := (hb3.frozen (p := ⟨w.heap.size + 1, 1, none⟩) l2).trans (P1.out 1 (by omega)).2.2
  have hl3 : w.heap.size + 1 < w3.heap.size := by have := hb3.size; omega
  have hB3 : Below w.heap.size w w3 := hb1.trans (hb3.mono hb1.size)
  obtain ⟨f1, f2⟩ := two_fin HOA.out HOB.out HSA.out HSB.out (by omega) hB3 (.slice aA A.length cA) (.slice aE E.length cE) (.slice aB B.length cB) (.slice aF F.length cF)
  have F1 : Hid (type_of% f1) := f1
  have F2 : Hid (type_of% f2) := f2
  clear f1 f2 hoA hoB hb3 CD P1 e1
  go_wp2
  (try simp only [Exit.inBlock, Exit.then])
  refine bodyPost_ret (v := .tuple #[.agg #[.slice aA A.length cA, .slice aE E.length cE], .agg #[.slice aB B.length cB, .slice aF F.length cF]]) ?_ rfl ⟨⟨_, _, _, _, rfl, F1.out⟩, F2.out⟩
  rw [rc]
  go_simp

end Go.Proofs.Ytecgjhnihagleaa
