/- Whether a schema takes in another: the program's and the model's IsSubtype. -/
import Derived.Test.YtjaklpibjijkkaaSpC
import Derived.Test.YtjaklpibjijkkaaSpF
import Derived.Test.YtjaklpibjijkkaaSchQ
namespace Go.Proofs.Ytjaklpibjijkkaa
open Go.RowKit Plain Sch

/-- the model's wish: lists have a part -/
theorem tree_lg {T : List Ty} (hG : gs T = true) : ∀ (f k : Nat), k < T.length → T.length ≤ f + k → LG f (tree T f k)
  | 0, k, hk, hf => by omega
  | f + 1, k, hk, hf => by
    refine ⟨fun h4 => ?_, fun x hx => ?_⟩
    · have h4' : (ty T k).kind = 4 := h4
      show (kids T k).map (tree T f) ≠ []
      rw [(list_kid hG hk h4').1]
      simp
    · have hx' : x ∈ (kids T k).map (tree T f) := hx
      obtain ⟨c, hc, rfl⟩ := List.mem_map.1 hx'
      have m := (mem_kids T k c).1 hc
      exact tree_lg hG f c m.1 (by omega)

theorem tree_kind5 {T : List Ty} (hG : gs T = true) (f : Nat) : (tree T f 0).kind = 5 := (tree_top T hG f).1

/-- what IsSubtype answers: 40 steps suffice for all depths -/
def sof (A B : List Ty) : Bool × Bool := if gs A = true ∧ gs B = true then (subP 40 (tree A 41 0).kids (tree B 41 0).kids, true) else (false, false)

theorem sof_no (A B : List Ty) (h : ¬ (gs A = true ∧ gs B = true)) : sof A B = (false, false) := by unfold sof; rw [if_neg h]
theorem sof_yes (A B : List Ty) (ha : gs A = true) (hb : gs B = true) : sof A B = (subP 40 (tree A 41 0).kids (tree B 41 0).kids, true) := by unfold sof; rw [if_pos ⟨ha, hb⟩]

theorem sof_sub (A B : List Ty) (ha : gs A = true) (hb : gs B = true) : sof A B = (subT 41 (tree A 41 0) (tree B 41 0), true) := by
  rw [sof_yes A B ha hb, subT_message 40 _ _ (tree_kind5 ha 41) (tree_kind5 hb 41)]

set_option maxRecDepth 100000 in
set_option maxHeartbeats 4000000 in
theorem specSub (A B : List Ty) (v1 v2 : Value) (w : World) (hA : TysAt w w.heap.size v1 A) (hB : TysAt w w.heap.size v2 B) :
    Calls Try.prog 10 #[.agg #[v1], .agg #[v2]] w fun e w' => e = .returned (.tuple #[.bool (sof A B).1, .bool (sof A B).2]) ∧ Below w.heap.size w w' := by
  have HA : Hid (TysAt w w.heap.size v1 A) := hA
  have HB : Hid (TysAt w w.heap.size v2 B) := hB
  obtain ⟨R, hR⟩ : ∃ R, R = sof A B := ⟨_, rfl⟩
  rw [← hR]
  have HR : Hid (R = sof A B) := hR
  clear hR
  obtain ⟨aa, capa, rfl, _⟩ := hA
  obtain ⟨ab, capb, rfl, _⟩ := hB
  obtain ⟨W2, hW2⟩ : ∃ W, W = (w.alloc (.cells #[.slice aa A.length capa] 30)).alloc (.cells #[.slice ab B.length capb] 30) := ⟨_, rfl⟩
  have hB1 : Below w.heap.size w W2 := by rw [hW2]; exact ((Below.refl _ w).alloc (Nat.le_refl _) _).alloc (by simp) _
  have hs2 : W2.heap.size = w.heap.size + 2 := by rw [hW2]; simp
  have x0 : W2.cell? ⟨w.heap.size, 0, none⟩ = some (.slice aa A.length capa) := by rw [hW2]; go_simp
  have x1 : W2.cell? ⟨w.heap.size + 1, 0, none⟩ = some (.slice ab B.length capb) := by rw [hW2]; go_simp
  go_enter Try.func10, Try.ntmps10
  go_wp2_with fail
  rw [← hW2]
  clear hW2
  refine (specGood_any A _ _ (HA.out.below hB1)).mono ?_
  rintro e w3 ⟨rfl, hb3⟩
  have hB3 : Below w.heap.size w w3 := hB1.trans (hb3.mono hB1.size)
  have hs3 : w.heap.size + 2 ≤ w3.heap.size := by have := hb3.size; omega
  have x0 := (hb3.cell (p := ⟨w.heap.size, 0, none⟩) (by show w.heap.size < _; omega)).trans x0
  have x1 := (hb3.cell (p := ⟨w.heap.size + 1, 0, none⟩) (by show w.heap.size + 1 < _; omega)).trans x1
  clear hb3
  by_cases ha : gs A = true
  · rw [ha]
    go_wp2_with fail
    refine (specGood_any B _ _ (HB.out.below hB3)).mono ?_
    rintro e w4 ⟨rfl, hb4⟩
    have hB4 : Below w.heap.size w w4 := hB3.trans (hb4.mono hB3.size)
    have hs4 : w.heap.size + 2 ≤ w4.heap.size := by have := hb4.size; omega
    have x0 := (hb4.cell (p := ⟨w.heap.size, 0, none⟩) (by show w.heap.size < _; omega)).trans x0
    have x1 := (hb4.cell (p := ⟨w.heap.size + 1, 0, none⟩) (by show w.heap.size + 1 < _; omega)).trans x1
    clear hb4
    by_cases hb : gs B = true
    · rw [hb]
      have hn : Hid (R = (subT 41 (tree A 41 0) (tree B 41 0), true)) := HR.out.trans (sof_sub A B ha hb)
      have pa := gs_types A ha
      have pb := gs_types B hb
      have la : Hid (LG 41 (tree A 41 0)) := tree_lg ha 41 0 (by omega) (by omega)
      have lb : Hid (LG 41 (tree B 41 0)) := tree_lg hb 41 0 (by omega) (by omega)
      have CA : Hid (∀ W : World, Below w.heap.size w W → Calls Try.prog 35 #[.agg #[.slice aa A.length capa], .int .i64 0] W fun e w' => ∃ ac lc cc, e = .returned (tv (tree A 41 0) ac lc cc) ∧ KidsIn 41 w' (fun g => g < w'.heap.size) (.slice ac lc cc) (tree A 41 0).kids ∧ Below W.heap.size W w') := fun W hW => by
        refine (l2Tree_any A _ (by omega) 41 0 W (HA.out.below hW) (by omega) (by omega)).mono ?_
        rintro e w' ⟨c, rfl, hk, hb⟩
        obtain ⟨ac, cc, rfl, _⟩ := hk.form
        exact ⟨ac, _, cc, rfl, hk.kept (fun _ _ => rfl) (fun g hg => hg.2), hb⟩
      have CB : Hid (∀ W : World, Below w.heap.size w W → Calls Try.prog 35 #[.agg #[.slice ab B.length capb], .int .i64 0] W fun e w' => ∃ ac lc cc, e = .returned (tv (tree B 41 0) ac lc cc) ∧ KidsIn 41 w' (fun g => g < w'.heap.size) (.slice ac lc cc) (tree B 41 0).kids ∧ Below W.heap.size W w') := fun W hW => by
        refine (l2Tree_any B _ (by omega) 41 0 W (HB.out.below hW) (by omega) (by omega)).mono ?_
        rintro e w' ⟨c, rfl, hk, hb⟩
        obtain ⟨ac, cc, rfl, _⟩ := hk.form
        exact ⟨ac, _, cc, rfl, hk.kept (fun _ _ => rfl) (fun g hg => hg.2), hb⟩
      clear pa pb ha hb
      generalize tree A 41 0 = TA at *
      generalize tree B 41 0 = TB at *
      have hB4d : Hid (Below w.heap.size w w4.drew) := hB4.drew
      go_wp2_with fail
      go_region_with (first
        | (go_at_call 34; refine (l2Sub_any 41 TA TB ac bc lc cc ld cd _ _ w6 hka6 hkb (fun g h => h) (fun g h => h) la.out lb.out).mono ?_; rintro e w7 ⟨rfl, hb7⟩; have hB7 : Below w.heap.size w w7 := hB6.trans (hb7.mono hB6.size))
        | (go_at_call 35; refine (CB.out _ hB5).mono ?_; rintro e w6 ⟨bc, ld, cd, rfl, hkb, hb6⟩; have hB6 : Below w.heap.size w w6 := hB5.trans (hb6.mono hB5.size); have hka6 := hka.kept (w' := w6) (S' := fun g => g < w6.heap.size) (fun g hg => hb6.block g hg) (fun g hg => by have := hb6.size; omega))
        | (go_at_call 35; refine (CA.out _ hB4d.out).mono ?_; rintro e w5 ⟨ac, lc, cc, rfl, hka, hb5⟩; have hB5 : Below w.heap.size w w5 := hB4.drew.trans (hb5.mono hB4.size); have x15 := (hb5.cell (p := ⟨w.heap.size + 1, 0, none⟩) (by show w.heap.size + 1 < w4.heap.size; omega)).trans x1))
      all_goals
        clear hka hkb hka6 la lb CA CB hb5 hb6 hb7
        generalize subT 41 TA TB = r at hn ⊢
        go_wp2
        go_ret2
        exact ⟨by rw [hn.out]; rfl, hB7⟩
    · have hb' : gs B = false := by simpa using hb
      have hn : Hid (R = (false, false)) := HR.out.trans (sof_no A B (fun h => hb h.2))
      rw [hb']
      clear hb hb' ha
      go_wp2
      go_ret2
      exact ⟨by rw [hn.out]; rfl, hB4⟩
  · have ha' : gs A = false := by simpa using ha
    have hn : Hid (R = (false, false)) := HR.out.trans (sof_no A B (fun h => ha h.1))
    rw [ha']
    clear ha ha'
    go_wp2
    go_ret2
    exact ⟨by rw [hn.out]; rfl, hB3⟩

set_option maxRecDepth 100000 in
set_option maxHeartbeats 4000000 in
theorem implSub (A B : List Ty) (v1 v2 : Value) (w : World) (hA : TysAt w w.heap.size v1 A) (hB : TysAt w w.heap.size v2 B) :
    Calls Try.prog 12 #[.agg #[v1], .agg #[v2]] w fun e w' => e = .returned (.tuple #[.bool (sof A B).1, .bool (sof A B).2]) ∧ Below w.heap.size w w' := by
  have HA : Hid (TysAt w w.heap.size v1 A) := hA
  have HB : Hid (TysAt w w.heap.size v2 B) := hB
  obtain ⟨R, hR⟩ : ∃ R, R = sof A B := ⟨_, rfl⟩
  rw [← hR]
  have HR : Hid (R = sof A B) := hR
  clear hR
  obtain ⟨aa, capa, rfl, _⟩ := hA
  obtain ⟨ab, capb, rfl, _⟩ := hB
  obtain ⟨W2, hW2⟩ : ∃ W, W = (w.alloc (.cells #[.slice aa A.length capa] 30)).alloc (.cells #[.slice ab B.length capb] 30) := ⟨_, rfl⟩
  have hB1 : Below w.heap.size w W2 := by rw [hW2]; exact ((Below.refl _ w).alloc (Nat.le_refl _) _).alloc (by simp) _
  have hs2 : W2.heap.size = w.heap.size + 2 := by rw [hW2]; simp
  have x0 : W2.cell? ⟨w.heap.size, 0, none⟩ = some (.slice aa A.length capa) := by rw [hW2]; go_simp
  have x1 : W2.cell? ⟨w.heap.size + 1, 0, none⟩ = some (.slice ab B.length capb) := by rw [hW2]; go_simp
  go_enter Try.func12, Try.ntmps12
  go_wp2_with fail
  rw [← hW2]
  clear hW2
  refine (implGoodT A _ _ (HA.out.below hB1)).mono ?_
  rintro e w3 ⟨rfl, hb3⟩
  have hB3 : Below w.heap.size w w3 := hB1.trans (hb3.mono hB1.size)
  have hs3 : w.heap.size + 2 ≤ w3.heap.size := by have := hb3.size; omega
  have x0 := (hb3.cell (p := ⟨w.heap.size, 0, none⟩) (by show w.heap.size < _; omega)).trans x0
  have x1 := (hb3.cell (p := ⟨w.heap.size + 1, 0, none⟩) (by show w.heap.size + 1 < _; omega)).trans x1
  clear hb3
  by_cases ha : gs A = true
  · rw [ha]
    go_wp2_with fail
    refine (implGoodT B _ _ (HB.out.below hB3)).mono ?_
    rintro e w4 ⟨rfl, hb4⟩
    have hB4 : Below w.heap.size w w4 := hB3.trans (hb4.mono hB3.size)
    have hs4 : w.heap.size + 2 ≤ w4.heap.size := by have := hb4.size; omega
    have x0 := (hb4.cell (p := ⟨w.heap.size, 0, none⟩) (by show w.heap.size < _; omega)).trans x0
    have x1 := (hb4.cell (p := ⟨w.heap.size + 1, 0, none⟩) (by show w.heap.size + 1 < _; omega)).trans x1
    clear hb4
    by_cases hb : gs B = true
    · rw [hb]
      have hn : Hid (R = (subP 40 (tree A 41 0).kids (tree B 41 0).kids, true)) := HR.out.trans (sof_yes A B ha hb)
      have pa := gs_types A ha
      have pb := gs_types B hb
      have CA : Hid (∀ W : World, Below w.heap.size w W → Calls Try.prog 38 #[.slice aa A.length capa, .int .i64 0] W fun e w' => ∃ c, e = .returned c ∧ PartsIn 40 w' (fun g => g < w'.heap.size) c (tree A 41 0).kids ∧ Below W.heap.size W w') := fun W hW => by
        refine (ownParts_any A _ ha 40 0 W (HA.out.below hW) (by omega) (by omega)).mono ?_
        rintro e w' ⟨c, rfl, hk, hb⟩
        exact ⟨c, rfl, hk.kept (fun _ _ => rfl) (fun g hg => hg.2), hb⟩
      have CB : Hid (∀ W : World, Below w.heap.size w W → Calls Try.prog 38 #[.slice ab B.length capb, .int .i64 0] W fun e w' => ∃ c, e = .returned c ∧ PartsIn 40 w' (fun g => g < w'.heap.size) c (tree B 41 0).kids ∧ Below W.heap.size W w') := fun W hW => by
        refine (ownParts_any B _ hb 40 0 W (HB.out.below hW) (by omega) (by omega)).mono ?_
        rintro e w' ⟨c, rfl, hk, hb⟩
        exact ⟨c, rfl, hk.kept (fun _ _ => rfl) (fun g hg => hg.2), hb⟩
      clear pa pb ha hb
      generalize (tree A 41 0).kids = TA at *
      generalize (tree B 41 0).kids = TB at *
      have hB4d : Hid (Below w.heap.size w w4.drew) := hB4.drew
      go_wp2_with fail
      go_region_with (first
        | (go_at_call 37; refine (areSubparts_any 40 TA TB ca cb _ _ w6 hka6 hkb (fun g h => h) (fun g h => h)).mono ?_; rintro e w7 ⟨rfl, hb7⟩; have hB7 : Below w.heap.size w w7 := hB6.trans (hb7.mono hB6.size))
        | (go_at_call 38; refine (CB.out _ hB5).mono ?_; rintro e w6 ⟨cb, rfl, hkb, hb6⟩; have hB6 : Below w.heap.size w w6 := hB5.trans (hb6.mono hB5.size); have hka6 := hka.kept (w' := w6) (S' := fun g => g < w6.heap.size) (fun g hg => hb6.block g hg) (fun g hg => by have := hb6.size; omega))
        | (go_at_call 38; refine (CA.out _ hB4d.out).mono ?_; rintro e w5 ⟨ca, rfl, hka, hb5⟩; have hB5 : Below w.heap.size w w5 := hB4.drew.trans (hb5.mono hB4.size); have x15 := (hb5.cell (p := ⟨w.heap.size + 1, 0, none⟩) (by show w.heap.size + 1 < w4.heap.size; omega)).trans x1))
      all_goals
        clear hka hkb hka6 CA CB hb5 hb6 hb7
        generalize subP 40 TA TB = r at hn ⊢
        go_wp2
        go_ret2
        exact ⟨by rw [hn.out]; rfl, hB7⟩
    · have hb' : gs B = false := by simpa using hb
      have hn : Hid (R = (false, false)) := HR.out.trans (sof_no A B (fun h => hb h.2))
      rw [hb']
      clear hb hb' ha
      go_wp2
      go_ret2
      exact ⟨by rw [hn.out]; rfl, hB4⟩
  · have ha' : gs A = false := by simpa using ha
    have hn : Hid (R = (false, false)) := HR.out.trans (sof_no A B (fun h => ha h.1))
    rw [ha']
    clear ha ha'
    go_wp2
    go_ret2
    exact ⟨by rw [hn.out]; rfl, hB3⟩

end Go.Proofs.Ytjaklpibjijkkaa
