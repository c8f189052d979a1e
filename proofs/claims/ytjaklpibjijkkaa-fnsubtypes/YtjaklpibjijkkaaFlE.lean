/- The model's l2Tell: a tree told as a schema that must be good. -/
import Derived.Test.YtjaklpibjijkkaaFlD
import Derived.Test.YtjaklpibjijkkaaFltC
import Derived.Test.YtjaklpibjijkkaaSchP
namespace Go.Proofs.Ytjaklpibjijkkaa
open Go.RowKit Plain Sch

theorem TyRow.at {w : World} {B : Nat} {v : Value} {L : List Ty} (h : TyRow w B v L) (hn : ∀ x ∈ L, x.name.size ≤ 10) : TysAt w w.heap.size v L := by
  refine TysAt.own h (fun i hi => ?_)
  have : ty L i ∈ L := by
    unfold ty
    rw [List.getD, List.getElem?_eq_getElem hi]
    exact List.getElem_mem hi
  have := hn _ this
  unfold maxLen
  omega

theorem TyRow.lower {w : World} {B B' : Nat} {v : Value} {L : List Ty} (h : TyRow w B v L) (hB : B' ≤ B) : TyRow w B' v L := by
  refine ⟨h.1, ?_⟩
  rcases h.2 with hn | ⟨g, cap, cur, hv, hg, rest⟩
  · exact .inl hn
  · exact .inr ⟨g, cap, cur, hv, by omega, rest⟩

theorem TyRow.below {w w' : World} {B : Nat} {v : Value} {L : List Ty} (h : TyRow w B v L) (hb : Below w.heap.size w w') : TyRow w' B v L := own_below h hb

/-- a row that was made behind B is not touched by writing a cell of an elder block -/
theorem TyRow.setCell {w : World} {B : Nat} {v : Value} {L : List Ty} (h : TyRow w B v L) {a : Addr} (ha : a.block < B) (u : Value) : TyRow (w.setCell a u) B v L := ownsRow_setCell_below h ha u

set_option maxRecDepth 100000 in
set_option maxHeartbeats 4000000 in
theorem l2Tell_any (d : Nat) (t : Tr) (ac : Option Addr) (lc cc : Nat) (S : Nat → Prop) (w : World) (hk : KidsIn d w S (.slice ac lc cc) t.kids) (hS : ∀ g, S g → g < w.heap.size) (hz : t.size ≤ 1000000) (hnm : NmT t) :
    Calls Try.prog 40 #[tv t ac lc cc] w fun e w' => ∃ rv, e = .returned (.tuple #[.agg #[rv], .bool (tell t).2]) ∧ TyRow w' w.heap.size rv (tell t).1 ∧ Below w.heap.size w w' := by
  obtain ⟨R, hR⟩ : ∃ R, R = tell t := ⟨_, rfl⟩
  rw [← hR]
  have HR : Hid (R = tell t) := hR
  clear hR
  obtain ⟨W2, hW2⟩ : ∃ W, W = (w.alloc (.cells #[.int .i64 t.kind, .string t.name, .int .i64 t.no, .bool t.must, .int .i64 t.most, .slice ac lc cc] 57)).alloc (.cells #[.slice none 0 0] 30) := ⟨_, rfl⟩
  have hB2 : Below w.heap.size w W2 := by rw [hW2]; exact ((Below.refl _ w).alloc (Nat.le_refl _) _).alloc (by simp) _
  have HS2 : Hid (W2.heap.size = w.heap.size + 2) := by show _ = _; rw [hW2]; simp
  have x0 : W2.cell? ⟨w.heap.size + 1, 0, none⟩ = some (.slice none 0 0) := by rw [hW2]; go_simp
  have z0 : W2.frozen? ⟨w.heap.size + 1, 0, none⟩ = false := by rw [hW2]; go_simp
  have FC := l2Flat_any d t ac lc cc (-1) (.slice none 0 0) [] S W2.heap.size W2 (hk.kept (fun g hg => hB2.block g (hS g hg)) (fun _ h => h)) (fun g hg => by have h1 := hS g hg; have h2 := hB2.size; omega) (fun g hg => by simp [Value.ownBlock] at hg) (World.ownsRow_nil _ _ _ _) (Nat.le_refl _) (by simpa using hz)
  simp only [List.nil_append, List.length_nil] at FC
  have FC' : Hid (Calls Try.prog 68 #[tv t ac lc cc, .int .i64 (-1), .slice none 0 0] W2 fun e w' => ∃ rv', e = .returned rv' ∧ TyRow w' W2.heap.size rv' (flat t (-1) 0) ∧ Grow W2 w' (.slice none 0 0) rv') := FC
  have HN : Hid (∀ x ∈ flat t (-1) 0, x.name.size ≤ 10) := flat_names t (-1) 0 hnm
  have HYES : Hid (gs (flat t (-1) 0) = true → R = (flat t (-1) 0, true)) := fun h => HR.out.trans (tell_yes t h)
  have HNO : Hid (gs (flat t (-1) 0) = false → R = ([], false)) := fun h => HR.out.trans (tell_no t h)
  clear FC hk hS HR hnm hz
  unfold tv at FC' ⊢
  generalize flat t (-1) 0 = F at *
  go_enter Try.func40, Try.ntmps40
  go_wp2_with fail
  rw [← hW2]
  clear hW2
  refine FC'.out.mono ?_
  rintro e w5 ⟨rv, rfl, hrow, hg5⟩
  have hb5 := hg5.toBelow
  have hs5 := hb5.size
  have hs2 := HS2.out
  have hB5 : Below w.heap.size w w5 := hB2.trans (hb5.mono hB2.size)
  have x5 := (hb5.cell (p := ⟨w.heap.size + 1, 0, none⟩) (by show w.heap.size + 1 < _; omega)).trans x0
  have z5 := (hb5.frozen (p := ⟨w.heap.size + 1, 0, none⟩) (by show w.heap.size + 1 < _; omega)).trans z0
  have hz5 : w.heap.size + 1 < w5.heap.size := by omega
  have hB6 : Below w5.heap.size w5 (w5.alloc (.cells #[rv] 30)) := (Below.refl _ w5).alloc (Nat.le_refl _) _
  have HROW : Hid (TyRow w5 W2.heap.size rv F) := hrow
  obtain ⟨ar, capr, rfl, _⟩ := ownSlice hrow
  have HT6 : Hid (TysAt (w5.alloc (.cells #[.slice ar F.length capr] 30)) (w5.alloc (.cells #[.slice ar F.length capr] 30)).heap.size (.slice ar F.length capr) F) := (hrow.at HN.out).below hB6
  clear hrow hg5 hb5 FC' x0 z0 hs2
  go_wp2_with fail
  refine (specGood_any F _ _ HT6.out).mono ?_
  rintro e w7 ⟨rfl, hb7⟩
  have hs7 : w5.heap.size < w7.heap.size := by have := hb7.size; simp at this; omega
  have hB7 : Below w.heap.size w w7 := (hB5.alloc hB5.size _).trans (hb7.mono (by simp; omega))
  have x7 := (hb7.cell (p := ⟨w.heap.size + 1, 0, none⟩) (by simp; omega)).trans ((hB6.cell (p := ⟨w.heap.size + 1, 0, none⟩) hz5).trans x5)
  have z7 := (hb7.frozen (p := ⟨w.heap.size + 1, 0, none⟩) (by simp; omega)).trans ((hB6.frozen (p := ⟨w.heap.size + 1, 0, none⟩) hz5).trans z5)
  have y7 : w7.cell? ⟨w5.heap.size, 0, none⟩ = some (.slice ar F.length capr) := (hb7.cell (p := ⟨w5.heap.size, 0, none⟩) (by simp)).trans (by simp)
  have HROW7 : Hid (TyRow w7 W2.heap.size (.slice ar F.length capr) F) := (HROW.out.below hB6).below hb7
  have hz7 : w.heap.size + 1 < w7.heap.size := by omega
  have hle : w.heap.size ≤ w.heap.size + 1 := by omega
  clear hb7 HT6 hB6 HROW x5 z5
  by_cases hgd : gs F = true
  · have hn : Hid (R = (F, true)) := HYES.out hgd
    rw [hgd]
    clear hgd HYES HNO
    go_wp2
    (try simp only [Exit.inBlock, Exit.then])
    refine bodyPost_ret (v := .tuple #[.agg #[.slice ar F.length capr], .bool true]) ?_ rfl ⟨.slice ar F.length capr, by rw [hn.out], ?_, ?_⟩
    · rw [results_cell_tmp rfl]
      go_simp
    · rw [hn.out]
      exact (HROW7.out.setCell (a := ⟨w.heap.size + 1, 0, none⟩) (by have := HS2.out; show w.heap.size + 1 < _; omega) _).lower hB2.size
    · exact hB7.setCell (p := ⟨w.heap.size + 1, 0, none⟩) hle _
  · have hgd' : gs F = false := by simpa using hgd
    have hn : Hid (R = ([], false)) := HNO.out hgd'
    rw [hgd']
    clear hgd hgd' HYES HNO
    go_wp2
    (try simp only [Exit.inBlock, Exit.then])
    refine bodyPost_ret (v := .tuple #[.agg #[.slice none 0 0], .bool false]) ?_ rfl ⟨.slice none 0 0, by rw [hn.out], ?_, ?_⟩
    · rw [results_cell_tmp rfl]
      go_simp
    · rw [hn.out]
      exact World.ownsRow_nil _ _ _ _
    · exact hB7.setCell (p := ⟨w.heap.size + 1, 0, none⟩) hle _

end Go.Proofs.Ytjaklpibjijkkaa
