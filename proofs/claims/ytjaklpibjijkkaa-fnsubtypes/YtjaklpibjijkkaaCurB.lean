/- The cursor from which the model draws: pick, one, among. -/
import Derived.Test.YtjaklpibjijkkaaCurA
namespace Go.Proofs.Ytjaklpibjijkkaa
open Go.RowKit

set_option maxRecDepth 100000 in
set_option maxHeartbeats 4000000 in
theorem pick_any (b m : Nat) (k : Int) (w : World) (hc : Cur w b m) (hm : m ≤ 1000000000) :
    Calls Try.prog 75 #[.pointer (some ⟨b, 0, none⟩), .int .i64 k] w fun e w' => ∃ x : Nat, e = .returned (.int .i64 (x : Int)) ∧ ((x : Int) < k ∨ x = 0) ∧ Cur w' b (m + 2) ∧ w.grownBy w' (some b) := by
  by_cases h1 : k ≤ 1
  · go_enter Try.func75, Try.ntmps75
    go_wp2
    go_ret
    exact ⟨0, rfl, .inr rfl, hc.le (by omega), World.grownBy.refl _ _⟩
  have h1' : 1 < k := by omega
  clear h1
  by_cases h2 : 200 < k
  · go_enter Try.func75, Try.ntmps75
    go_wp2_with fail
    refine (next_any b m _ hc (by omega)).mono ?_
    rintro e w1 ⟨x, rfl, hx, hc1, hg1⟩
    go_wp2_with fail
    refine (next_any b (m + 1) _ hc1 (by omega)).mono ?_
    rintro e w2 ⟨y, rfl, hy, hc2, hg2⟩
    clear hc1 hc
    go_wp2
    go_ret
    obtain ⟨z, hz⟩ : ∃ z : Nat, (z : Int) = ((x : Int) * 256 + (y : Int)) % k := ⟨(((x : Int) * 256 + (y : Int)) % k).toNat, Int.toNat_of_nonneg (Int.emod_nonneg _ (by omega))⟩
    refine ⟨z, ?_, .inl (by rw [hz]; exact Int.emod_lt_of_pos _ (by omega)), hc2, Lib.grownBy_trans hg1 hg2⟩
    rw [hz]; rfl
  · have h2' : k ≤ 200 := by omega
    clear h2
    go_enter Try.func75, Try.ntmps75
    go_wp2_with fail
    refine (next_any b m _ hc (by omega)).mono ?_
    rintro e w1 ⟨x, rfl, hx, hc1, hg1⟩
    clear hc
    go_wp2
    go_ret
    obtain ⟨z, hz⟩ : ∃ z : Nat, (z : Int) = (x : Int) % k := ⟨((x : Int) % k).toNat, Int.toNat_of_nonneg (Int.emod_nonneg _ (by omega))⟩
    refine ⟨z, ?_, .inl (by rw [hz]; exact Int.emod_lt_of_pos _ (by omega)), hc1.le (by omega), hg1⟩
    rw [hz]; rfl

set_option maxRecDepth 100000 in
set_option maxHeartbeats 4000000 in
theorem among_any (b m g len cap : Nat) (zs : Nat → Int) (w : World) (hc : Cur w b m) (hm : m ≤ 1000000000) (hl : 0 < len) (hlc : len ≤ 1000) (hg : g ≠ b) (hz : ∀ i, i < len → w.cell? ⟨g, i, none⟩ = some (.int .i64 (zs i))) :
    Calls Try.prog 76 #[.pointer (some ⟨b, 0, none⟩), .slice (some ⟨g, 0, none⟩) len cap] w fun e w' => ∃ i, i < len ∧ e = .returned (.int .i64 (zs i)) ∧ Cur w' b (m + 2) ∧ w.grownBy w' (some b) := by
  go_enter Try.func76, Try.ntmps76
  go_wp2_with fail
  refine (pick_any b m _ _ hc hm).mono ?_
  rintro e w1 ⟨x, rfl, hx, hc1, hg1⟩
  have hx' : (x : Int) < (len : Int) := by omega
  have hxl : x < len := by omega
  have hcell : w1.cell? ⟨g, x, none⟩ = some (.int .i64 (zs x)) := hg1.cell (hz x hxl) (by simp; exact hg)
  clear hz hc hx
  go_wp2
  go_ret
  exact ⟨x, hxl, rfl, hc1, hg1⟩

set_option maxRecDepth 100000 in
set_option maxHeartbeats 4000000 in
theorem one_any (b m : Nat) (k : Int) (w : World) (hc : Cur w b m) (hm : m ≤ 1000000000) :
    Calls Try.prog 49 #[.pointer (some ⟨b, 0, none⟩), .int .i64 k] w fun e w' => ∃ t : Bool, e = .returned (.bool t) ∧ Cur w' b (m + 2) ∧ w.grownBy w' (some b) := by
  go_enter Try.func49, Try.ntmps49
  go_wp2_with fail
  refine (pick_any b m _ _ hc hm).mono ?_
  rintro e w1 ⟨x, rfl, hx, hc1, hg1⟩
  clear hx hc
  go_wp2
  go_ret
  exact ⟨_, rfl, hc1, hg1⟩

end Go.Proofs.Ytjaklpibjijkkaa
