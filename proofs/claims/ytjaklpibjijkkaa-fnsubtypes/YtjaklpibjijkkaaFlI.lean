/- A message of a schema as a schema of its own: the program's and the model's SubSchema. -/
import Derived.Test.YtjaklpibjijkkaaFlE
import Derived.Test.YtjaklpibjijkkaaFlH
import Derived.Test.YtjaklpibjijkkaaSpC
import Derived.Test.YtjaklpibjijkkaaSchQ
namespace Go.Proofs.Ytjaklpibjijkkaa
open Go.RowKit Plain Sch

set_option maxRecDepth 100000 in
set_option maxHeartbeats 4000000 in
theorem wholeSchema_any (d : Nat) (l : List Tr) (c : Value) (S : Nat → Prop) (w : World) (hk : PartsIn d w S c l) (hS : ∀ g, S g → g < w.heap.size) (hz : sizeL l + 1 ≤ 1000000) (hl : ∀ x ∈ l, NmT x ∧ FG x) :
    Calls Try.prog 41 #[c] w fun e w' => ∃ rv, e = .returned (.agg #[rv]) ∧ TyRow w' w.heap.size rv (flat (.mk 5 ⟨#[]⟩ 0 false 0 l) (-1) 0) ∧ Below w.heap.size w w' := by
  have HK : Hid (PartsIn d w S c l) := hk
  obtain ⟨ao, cap, rfl, _⟩ := hk
  obtain ⟨W2, hW2⟩ : ∃ W, W = (w.alloc (.cells #[.slice none 0 0] 30)).alloc (.cells #[.string ⟨#[]⟩, .int .i64 0, .bool false, .iface 103 (.agg #[.slice ao l.length cap])] 95) := ⟨_, rfl⟩
  have hB2 : Below w.heap.size w W2 := by rw [hW2]; exact ((Below.refl _ w).alloc (Nat.le_refl _) _).alloc (by simp) _
  have HS2 : Hid (W2.heap.size = w.heap.size + 2) := by show _ = _; rw [hW2]; simp
  have x0 : W2.cell? ⟨w.heap.size, 0, none⟩ = some (.slice none 0 0) := by rw [hW2]; go_simp
  have z0 : W2.frozen? ⟨w.heap.size, 0, none⟩ = false := by rw [hW2]; go_simp
  have hk2 : PartsIn d W2 S (.slice ao l.length cap) l := HK.out.kept (fun g hg => hB2.block g (hS g hg)) (fun _ h => h)
  have FC := appendPartMsg d l ao cap (.slice none 0 0) ⟨#[]⟩ 0 false (-1) [] S W2.heap.size W2 hk2 (fun g hg => by have h1 := hS g hg; have h2 := hB2.size; omega) (fun g hg => by simp [Value.ownBlock] at hg) (World.ownsRow_nil _ _ _ _) (Nat.le_refl _) (by simp; omega) (by simp [ByteArray.size]) (fun x hx => ⟨appendPart_any d x, (hl x hx).1, (hl x hx).2⟩)
  simp only [List.nil_append, List.length_nil] at FC
  have FC' : Hid (Calls Try.prog 69 #[.slice none 0 0, .agg #[.string ⟨#[]⟩, .int .i64 0, .bool false, .iface 103 (.agg #[.slice ao l.length cap])], .int .i64 (-1)] W2 fun e w' => ∃ rv', e = .returned rv' ∧ TyRow w' W2.heap.size rv' (flat (.mk 5 ⟨#[]⟩ 0 false 0 l) (-1) 0) ∧ Grow W2 w' (.slice none 0 0) rv') := FC
  clear FC hS hl hz HK hk2
  generalize flat (.mk 5 ⟨#[]⟩ 0 false 0 l) (-1) 0 = F at *
  generalize l.length = nl at *
  go_enter Try.func41, Try.ntmps41
  go_wp2_with fail
  rw [← hW2]
  clear hW2
  refine FC'.out.mono ?_
  rintro e w5 ⟨rv, rfl, hrow, hg5⟩
  have hb5 := hg5.toBelow
  have hs2 := HS2.out
  have hs5 := hb5.size
  have hB5 : Below w.heap.size w w5 := hB2.trans (hb5.mono hB2.size)
  have x5 := (hb5.cell (p := ⟨w.heap.size, 0, none⟩) (by show w.heap.size < _; omega)).trans x0
  have z5 := (hb5.frozen (p := ⟨w.heap.size, 0, none⟩) (by show w.heap.size < _; omega)).trans z0
  have hz5 : w.heap.size < w5.heap.size := by omega
  have HROW : Hid (TyRow (w5.setCell ⟨w.heap.size, 0, none⟩ rv) w.heap.size rv F) := (hrow.setCell (a := ⟨w.heap.size, 0, none⟩) (by show w.heap.size < _; omega) rv).lower hB2.size
  obtain ⟨ar, capr, rfl, _⟩ := ownSlice hrow
  clear hrow hg5 hb5 FC' x0 z0 hs2 hs5
  go_wp2
  (try simp only [Exit.inBlock, Exit.then])
  refine bodyPost_ret (v := .agg #[.slice ar F.length capr]) ?_ rfl ⟨.slice ar F.length capr, rfl, HROW.out, ?_⟩
  · rw [results_cell1 rfl]
    go_simp
  · exact hB5.setCell (p := ⟨w.heap.size, 0, none⟩) (Nat.le_refl _) _

/-- what SubSchema answers -/
def ssof (T : List Ty) (k : Int) : List Ty × Bool := if gs T = true ∧ 0 ≤ k ∧ k < T.length ∧ (ty T k.toNat).kind = 5 then (flat (bareT (tree T 41 k.toNat)) (-1) 0, true) else ([], false)

theorem ssof_no (T : List Ty) (k : Int) (h : ¬ (gs T = true ∧ 0 ≤ k ∧ k < T.length ∧ (ty T k.toNat).kind = 5)) : ssof T k = ([], false) := by unfold ssof; rw [if_neg h]
theorem ssof_yes (T : List Ty) (k : Nat) (h : gs T = true) (h2 : k < T.length) (h5 : (ty T k).kind = 5) : ssof T (k : Int) = (flat (bareT (tree T 41 k)) (-1) 0, true) := by
  unfold ssof; rw [if_pos ⟨h, by omega, by omega, by rw [Int.toNat_natCast]; exact h5⟩, Int.toNat_natCast]

theorem tree_most (T : List Ty) (h : gs T = true) (f k : Nat) (hk : k < T.length) (h5 : (ty T k).kind = 5) : (tree T f k).most = 0 := by
  have := (gs_parts T h).2.2.1 k hk
  unfold typeOk okKind at this
  simp only [Bool.and_eq_true] at this
  have h1 := this.1.2
  rw [if_neg (by omega)] at h1
  have h2 : (ty T k).most = 0 := by simpa using h1
  cases f <;> exact h2

theorem bare_message (T : List Ty) (h : gs T = true) (k : Nat) (hk : k < T.length) (h5 : (ty T k).kind = 5) : bareT (tree T 41 k) = .mk 5 ⟨#[]⟩ 0 false 0 ((kids T k).map (tree T 40)) := by
  unfold bareT
  rw [tree_most T h 41 k hk h5]
  show Tr.mk (ty T k).kind _ _ _ _ _ = _
  rw [h5]
  rfl

def OSchema (w w' : World) (e : Ending) (R : List Ty × Bool) : Prop := ∃ rv, e = .returned (.tuple #[.agg #[rv], .bool R.2]) ∧ TyRow w' w.heap.size rv R.1 ∧ Below w.heap.size w w'

end Go.Proofs.Ytjaklpibjijkkaa
