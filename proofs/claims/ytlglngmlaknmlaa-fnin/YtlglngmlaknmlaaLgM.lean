/- The model's proof that a text is in, its right arm. -/
import Derived.Test.YtlglngmlaknmlaaLgI
namespace Go.Proofs.Ytlglngmlaknmlaa
open Go.RowKit Plain Lgs Tpc

set_option maxRecDepth 100000 in
set_option maxHeartbeats 4000000 in
theorem l13In_right (n h k cap g o r : Nat) (q : List Int) (w : World) (h2 : 2 ≤ n) (hn : n ≤ 40) (hc : n ≤ cap) (_hcm : cap ≤ 2 ^ 63 - 1) (hk : ¬ (k : Int) < (h : Int)) (hd : IntKind.i64.wrap ((k : Int) - (h : Int)) = (k : Int) - (h : Int)) (hs : (h : Int) < (n : Int)) (hq : q.length ≤ 40)
    (CS : Hid (Calls Try.prog 48 #[.int .i64 (n : Int)] w fun e w' => e = .returned (.int .i64 (h : Int)) ∧ w' = w))
    (CI : Hid (Calls Try.prog 58 #[.slice (some ⟨g, o + h, none⟩) (n - h) (cap - h), .int .i64 ((k : Int) - (h : Int))] w.drew fun e w' => ∃ v, e = .returned v ∧ ZRow w' w.heap.size v q ∧ Below w.heap.size w w'))
    (CR : Hid (∀ W, Below w.heap.size w W → Calls Try.prog 55 #[.slice (some ⟨g, o, none⟩) h cap] W fun e w' => e = .returned (.int .i64 (r : Int)) ∧ Below w.heap.size w w' ∧ ∀ v (p : List Int), ZRow W w.heap.size v p → ZRow w' w.heap.size v p)) :
    Calls Try.prog 58 #[.slice (some ⟨g, o, none⟩) n cap, .int .i64 (k : Int)] w fun e w' => ∃ v, e = .returned v ∧ ZRow w' w.heap.size v (q ++ [(r : Int)]) ∧ Below w.heap.size w w' := by
  have h1' : ¬ (n : Int) = 1 := by omega
  have hcne : ¬ cap = h := by omega
  have hk0 : (0 : Int) ≤ (h : Int) := by omega
  have hkn : (h : Int) ≤ (n : Int) := by omega
  have hkc : (h : Int) ≤ (cap : Int) := by omega
  obtain ⟨i0, hi, hz0, hz1, hz2⟩ := info_parts LgInfo
  go_enter Try.func58, Try.ntmps58
  go_wp2_with fail
  go_at_call 48
  refine CS.out.mono ?_
  rintro e w0 ⟨rfl, h0⟩
  have h0 := h0.symm
  subst h0
  go_wp2_with fail
  go_region_held3 (fun _ => True) (exact trivial)
    (first
      | (go_at_call 58; refine CI.out.mono ?_; rintro e w2 ⟨v2, rfl, hr2, hb2⟩; obtain ⟨a2, c2, rfl⟩ := hr2.slice)
      | (go_at_call 55; refine (CR.out _ hb2).mono ?_; rintro e w3 ⟨rfl, hb3, hk3⟩; have hr3 := hk3 _ _ hr2; have hsz3 : w.heap.size ≤ w3.heap.size := hb3.size)
      | (refine step_append_lies _ (by rfl) _ _ _ (by rfl) w.heap.size 3 i0 (.int .i64 0) 1 8 Try.underlying35 hi hz0 hz1 hz2 rfl (by decide) _ q.length _ (by rfl) (World.ownsRow.alloc (show w3.ownsRow w.heap.size 3 1 (.slice a2 q.length c2) q.length (zints q) from hr3) _) ⟨w3.heap.size, 0, none⟩ 1 1 [Value.int .i64 (r : Int)] (by rfl) rfl (World.news_of_block (heap_alloc_new w3 _)) (by intro u hu; simp at hu; subst hu; rfl) (by omega) (by unfold maxLen; omega) (by omega) (by simp; omega) (w3.heap.size + 1) (by simp) ?_; intro g9 cap9 w4 hown4 hgrow hat hlt4))
  have hE : ZRow w4 w.heap.size (.slice (some ⟨g9, 0, none⟩) (q.length + 1) cap9) (q ++ [(r : Int)]) := by
    have h := hown4
    unfold ZRow
    unfold zints at h ⊢
    rw [List.length_append, List.map_append]
    exact h
  have hBE : Below w.heap.size w w4 := (hb3.alloc hsz3 _).grown hgrow (by simp; omega) (fun k hk => (World.ownsRow.lt hr3 k hk).1)
  clear hown4 hgrow hat hlt4 hr3 hb3 hk3
  go_wp2_with fail
  go_ret
  exact ⟨_, rfl, hE, hBE⟩


end Go.Proofs.Ytlglngmlaknmlaa
