/- The model's JoinOf. -/
import Derived.Test.YtbkdpcfghaiimaaJoJ
import Derived.Test.YtbkdpcfghaiimaaGj
import Derived.Test.YtbkdpcfghaiimaaGi
import Derived.Test.YtbkdpcfghaiimaaGl
namespace Go.Proofs.Ytbkdpcfghaiimaa
open Go.RowKit Plain Sch
attribute [local go_sem ↓] Go.wp_at_zero Go.wp_at_succ

theorem six_lt {W w6 : World} (hb : Below (W.alloc zer).heap.size (W.alloc zer) w6) : W.heap.size < w6.heap.size := by
  have h := hb.size
  simp at h
  omega

theorem six_new {W w6 : World} (hb : Below (W.alloc zer).heap.size (W.alloc zer) w6) : Six w6 W.heap.size (.int .i64 0) (.string ⟨#[]⟩) (.int .i64 0) (.bool false) (.int .i64 0) (.slice none 0 0) := by
  have h0 : Six (W.alloc zer) W.heap.size (.int .i64 0) (.string ⟨#[]⟩) (.int .i64 0) (.bool false) (.int .i64 0) (.slice none 0 0) :=
    ⟨⟨by go_simp, by go_simp, by go_simp, by go_simp, by go_simp, by go_simp⟩, by go_simp, by go_simp, by go_simp, by go_simp, by go_simp, by go_simp⟩
  exact h0.kept (hb.block _ (by simp))

theorem six_below {W w6 : World} (hb : Below (W.alloc zer).heap.size (W.alloc zer) w6) : Below W.heap.size W w6 :=
  ((Below.refl _ W).alloc (Nat.le_refl _) zer).trans (hb.mono (by simp))

/-- what holds behind the joining: the tree t lies in the block zb -/
def SCut (t : Tr) (w5 : World) (s6 : Value) (wx : World) : Prop :=
  ∃ (zb : Nat) (ar : Option Addr) (lr cr : Nat) (S : Nat → Prop), s6 = .pointer (some ⟨zb, 0, none⟩) ∧ NdIn wx zb 0 t (.slice ar lr cr) ∧ KidsIn 41 wx S (.slice ar lr cr) t.kids ∧ (∀ g, S g → g < wx.heap.size) ∧ zb < wx.heap.size ∧ Below w5.heap.size w5 wx

theorem scut_A {t : Tr} {w5 w8 : World} {zb : Nat} {a8 : Option Addr} {l8 c8 : Nat} {S8 : Nat → Prop} (h58 : Below w5.heap.size w5 w8) (hge : w5.heap.size ≤ zb) (hlt : zb < w8.heap.size) (P8 : Six w8 zb (.int .i64 0) (.string ⟨#[]⟩) (.int .i64 0) (.bool false) (.int .i64 0) (.slice none 0 0)) (hk8 : KidsIn 41 w8 S8 (.slice a8 l8 c8) t.kids) (hS : ∀ g, S8 g → g < w8.heap.size ∧ g ≠ zb) :
    SCut t w5 (.pointer (some ⟨zb, 0, none⟩)) ((((((w8.setCell ⟨zb, 0, none⟩ (.int .i64 t.kind)).setCell ⟨zb, 1, none⟩ (.string t.name)).setCell ⟨zb, 2, none⟩ (.int .i64 t.no)).setCell ⟨zb, 3, none⟩ (.bool t.must)).setCell ⟨zb, 4, none⟩ (.int .i64 t.most)).setCell ⟨zb, 5, none⟩ (.slice a8 l8 c8)) := by
  obtain ⟨⟨q0, q1, q2, q3, q4, q5⟩, _⟩ := six6_six P8 (.int .i64 t.kind) (.string t.name) (.int .i64 t.no) (.bool t.must) (.int .i64 t.most) (.slice a8 l8 c8)
  show SCut t w5 _ (six6 w8 zb (.int .i64 t.kind) (.string t.name) (.int .i64 t.no) (.bool t.must) (.int .i64 t.most) (.slice a8 l8 c8))
  refine ⟨zb, a8, l8, c8, S8, rfl, ⟨q0, q1, q2, q3, q4, q5⟩, hk8.kept (fun g hg => six6_block _ _ _ _ _ _ _ _ g (hS g hg).2) (fun _ h => h), fun g hg => by rw [six6_size]; exact (hS g hg).1, by rw [six6_size]; exact hlt, ?_⟩
  unfold six6
  exact (((((h58.setCell (p := ⟨zb, 0, none⟩) hge _).setCell (p := ⟨zb, 1, none⟩) hge _).setCell (p := ⟨zb, 2, none⟩) hge _).setCell (p := ⟨zb, 3, none⟩) hge _).setCell (p := ⟨zb, 4, none⟩) hge _).setCell (p := ⟨zb, 5, none⟩) hge _

theorem scut_B {t : Tr} {w5 w8 : World} {a8 : Option Addr} {l8 c8 : Nat} {S8 : Nat → Prop} (h58 : Below w5.heap.size w5 w8) (hk8 : KidsIn 41 w8 S8 (.slice a8 l8 c8) t.kids) (hS : ∀ g, S8 g → g < w8.heap.size) :
    SCut t w5 (.pointer (some ⟨w8.heap.size, 0, none⟩)) (w8.alloc (.cells #[.int .i64 t.kind, .string t.name, .int .i64 t.no, .bool t.must, .int .i64 t.most, .slice a8 l8 c8] 75)) :=
  ⟨w8.heap.size, a8, l8, c8, S8, rfl, ⟨by go_simp, by go_simp, by go_simp, by go_simp, by go_simp, by go_simp⟩, hk8.kept (fun g hg => Below.heap_alloc _ _ _ (hS g hg)) (fun _ h => h), fun g hg => by have := hS g hg; simp; omega, by simp, h58.alloc h58.size _⟩

set_option maxRecDepth 100000 in
set_option maxHeartbeats 4000000 in
theorem specJoin (A B : List Ty) (v1 v2 : Value) (w : World) (hA : TysAt w w.heap.size v1 A) (hB : TysAt w w.heap.size v2 B) :
    Calls Try.prog 15 #[.agg #[v1], .agg #[v2]] w fun e w' => OSchema w w' e (jof A B) := by
  have HA : Hid (TysAt w w.heap.size v1 A) := hA
  have HB : Hid (TysAt w w.heap.size v2 B) := hB
  obtain ⟨R, hR⟩ : ∃ R, R = jof A B := ⟨_, rfl⟩
  rw [← hR]
  have HR : Hid (R = jof A B) := hR
  clear hR
  obtain ⟨aa, capa, rfl, _⟩ := hA
  obtain ⟨ab, capb, rfl, _⟩ := hB
  obtain ⟨W3, hW3⟩ : ∃ W, W = ((w.alloc (.cells #[.slice aa A.length capa] 25)).alloc (.cells #[.slice ab B.length capb] 25)).alloc (.cells #[.slice none 0 0] 25) := ⟨_, rfl⟩
  have hB3 : Below w.heap.size w W3 := by rw [hW3]; exact (((Below.refl _ w).alloc (Nat.le_refl _) _).alloc (by simp) _).alloc (by simp; omega) _
  have HS3 : Hid (W3.heap.size = w.heap.size + 3) := by show _ = _; rw [hW3]; simp
  have HC3 : Hid (∀ W : World, Below W3.heap.size W3 W → (W.cell? ⟨w.heap.size, 0, none⟩ = some (.slice aa A.length capa) ∧ W.cell? ⟨w.heap.size + 1, 0, none⟩ = some (.slice ab B.length capb) ∧ W.cell? ⟨w.heap.size + 1 + 1, 0, none⟩ = some (.slice none 0 0) ∧ W.frozen? ⟨w.heap.size + 1 + 1, 0, none⟩ = false ∧ w.heap.size + 1 + 1 < W.heap.size) ∧ Below w.heap.size w W) := fun W hW => by
    have hs := HS3.out
    have h2 := hW.size
    refine ⟨⟨(hW.cell (p := ⟨w.heap.size, 0, none⟩) (by show w.heap.size < _; omega)).trans ?_, (hW.cell (p := ⟨w.heap.size + 1, 0, none⟩) (by show w.heap.size + 1 < _; omega)).trans ?_, (hW.cell (p := ⟨w.heap.size + 1 + 1, 0, none⟩) (by show w.heap.size + 1 + 1 < _; omega)).trans ?_, (hW.frozen (p := ⟨w.heap.size + 1 + 1, 0, none⟩) (by show w.heap.size + 1 + 1 < _; omega)).trans ?_, by omega⟩, hB3.trans (hW.mono hB3.size)⟩
    · rw [hW3]; go_simp
    · rw [hW3]; go_simp
    · rw [hW3]; go_simp
    · rw [hW3]; go_simp
  have hle : w.heap.size ≤ w.heap.size + 1 + 1 := by omega
  unfold OSchema
  go_enter Try.func15, Try.ntmps15
  go_wp2_with fail
  rw [← hW3]
  clear hW3
  refine (specGood_any A _ _ (HA.out.below hB3)).mono ?_
  rintro e w4 ⟨rfl, hb4⟩
  obtain ⟨⟨qa4, qb4, x4, z4, hz4⟩, hB4⟩ := HC3.out _ hb4
  by_cases hga : gs A = true
  · rw [hga]
    go_wp2_with fail
    refine (specGood_any B _ _ (HB.out.below hB4)).mono ?_
    rintro e w5 ⟨rfl, hb5⟩
    have hb35 : Below W3.heap.size W3 w5 := hb4.trans (hb5.mono hb4.size)
    obtain ⟨⟨qa5, qb5, x5, z5, hz5⟩, hB5⟩ := HC3.out _ hb35
    clear qa4 qb4 x4 z4 hz4 hb4 hb5 hB4
    by_cases hgb : gs B = true
    · rw [hgb]
      have hn : Hid (R = (flat (joinRoot A B) (-1) 0, true)) := HR.out.trans (jof_yes A B hga hgb)
      have HTELL : Hid (tell (joinRoot A B) = (flat (joinRoot A B) (-1) 0, true)) := (join_tell A B hga hgb).trans (jof_yes A B hga hgb)
      have a1 := gs_types A hga
      have b1 := gs_types B hgb
      have HL : Hid (Like (joinRoot A B) (tree A 41 0)) := join_root_like A B hga hgb
      have hts := tree_size A hga 41 0 (by omega) (by omega)
      have HNM : Hid (NmT (joinRoot A B)) := join_names A B hga hgb
      have TA : Hid (∀ W, Below W3.heap.size W3 W → Calls Try.prog 47 #[.agg #[.slice aa A.length capa], .int .i64 0] W fun e w' => ∃ a6 l6 c6, e = .returned (.agg #[.int .i64 (Tr.kind (tree A 41 0)), .string (Tr.name (tree A 41 0)), .int .i64 (Tr.no (tree A 41 0)), .bool (Tr.must (tree A 41 0)), .int .i64 (Tr.most (tree A 41 0)), .slice a6 l6 c6]) ∧ KidsIn 41 w' (fun g => W.heap.size ≤ g ∧ g < w'.heap.size) (.slice a6 l6 c6) (tree A 41 0).kids ∧ Below W.heap.size W w') := fun W hW => by
        refine (l2Tree_any A _ (by omega) 41 0 W (HA.out.below (HC3.out W hW).2) (by omega) (by omega)).mono ?_
        rintro e w' ⟨c, rfl, hk, hb⟩
        obtain ⟨ac, cc, rfl, _⟩ := hk.form
        exact ⟨ac, _, cc, rfl, hk, hb⟩
      have TB : Hid (∀ W, Below W3.heap.size W3 W → Calls Try.prog 47 #[.agg #[.slice ab B.length capb], .int .i64 0] W fun e w' => ∃ a6 l6 c6, e = .returned (.agg #[.int .i64 (Tr.kind (tree B 41 0)), .string (Tr.name (tree B 41 0)), .int .i64 (Tr.no (tree B 41 0)), .bool (Tr.must (tree B 41 0)), .int .i64 (Tr.most (tree B 41 0)), .slice a6 l6 c6]) ∧ KidsIn 41 w' (fun g => W.heap.size ≤ g ∧ g < w'.heap.size) (.slice a6 l6 c6) (tree B 41 0).kids ∧ Below W.heap.size W w') := fun W hW => by
        refine (l2Tree_any B _ (by omega) 41 0 W (HB.out.below (HC3.out W hW).2) (by omega) (by omega)).mono ?_
        rintro e w' ⟨c, rfl, hk, hb⟩
        obtain ⟨ac, cc, rfl, _⟩ := hk.form
        exact ⟨ac, _, cc, rfl, hk, hb⟩
      have JN : Hid (∀ (W : World) (ax : Option Addr) (lx cx : Nat) (ay : Option Addr) (ly cy : Nat) (Sa Sb : Nat → Prop), KidsIn 41 W Sa (.slice ax lx cx) (tree A 41 0).kids → KidsIn 41 W Sb (.slice ay ly cy) (tree B 41 0).kids → (∀ g, Sa g → g < W.heap.size) → (∀ g, Sb g → g < W.heap.size) → Calls Try.prog 50 #[.agg #[.int .i64 (Tr.kind (tree A 41 0)), .string (Tr.name (tree A 41 0)), .int .i64 (Tr.no (tree A 41 0)), .bool (Tr.must (tree A 41 0)), .int .i64 (Tr.most (tree A 41 0)), .slice ax lx cx], .agg #[.int .i64 (Tr.kind (tree B 41 0)), .string (Tr.name (tree B 41 0)), .int .i64 (Tr.no (tree B 41 0)), .bool (Tr.must (tree B 41 0)), .int .i64 (Tr.most (tree B 41 0)), .slice ay ly cy]] W fun e w' => ∃ a8 l8 c8, e = .returned (.tuple #[.agg #[.int .i64 (Tr.kind (joinRoot A B)), .string (Tr.name (joinRoot A B)), .int .i64 (Tr.no (joinRoot A B)), .bool (Tr.must (joinRoot A B)), .int .i64 (Tr.most (joinRoot A B)), .slice a8 l8 c8], .bool true]) ∧ KidsIn 41 w' (fun g => ((Sa g ∨ Sb g) ∨ W.heap.size ≤ g) ∧ g < w'.heap.size) (.slice a8 l8 c8) (joinRoot A B).kids ∧ Below W.heap.size W w') := fun W ax lx cx ay ly cy Sa Sb h1 h2 h3 h4 => by
        refine (l2Join_any 41 _ _ ax ay lx cx ly cy (fun g => Sa g ∨ Sb g) W (h1.kept (fun _ _ => rfl) (fun _ h => .inl h)) (h2.kept (fun _ _ => rfl) (fun _ h => .inr h)) (fun g hg => hg.elim (h3 g) (h4 g)) (tree_good A hga 41 0 (by omega) (by omega)) (tree_lg hga 41 0 (by omega) (by omega)) (tree_lg hgb 41 0 (by omega) (by omega)) (by omega)).mono ?_
        rintro e w' ⟨h | ⟨h, _⟩, hb⟩
        · obtain ⟨t, ar, lr, cr, ht, rfl, hk⟩ := h
          rw [join_root A B hga hgb] at ht
          cases ht
          exact ⟨ar, lr, cr, rfl, hk, hb⟩
        · rw [join_root A B hga hgb] at h
          cases h
      have TL : Hid (∀ (W : World) (ac : Option Addr) (lc cc : Nat) (S : Nat → Prop), KidsIn 41 W S (.slice ac lc cc) (joinRoot A B).kids → (∀ g, S g → g < W.heap.size) → Calls Try.prog 48 #[.agg #[.int .i64 (Tr.kind (joinRoot A B)), .string (Tr.name (joinRoot A B)), .int .i64 (Tr.no (joinRoot A B)), .bool (Tr.must (joinRoot A B)), .int .i64 (Tr.most (joinRoot A B)), .slice ac lc cc]] W fun e w' => ∃ rv, e = .returned (.tuple #[.agg #[rv], .bool true]) ∧ TyRow w' W.heap.size rv (flat (joinRoot A B) (-1) 0) ∧ Below W.heap.size W w') := fun W ac lc cc S h1 h2 => by
        have h := l2Tell_any 41 (joinRoot A B) ac lc cc S W h1 h2 (by have h := HL.out.size; omega) HNM.out
        rw [HTELL.out] at h
        exact h
      clear HL hts HNM HTELL a1 b1 HA HB hga hgb
      have HF : Hid (∀ W : World, Below W3.heap.size W3 W → W.cell? ⟨w.heap.size, 0, none⟩ = some (.slice aa A.length capa) ∧ W.cell? ⟨w.heap.size + 1, 0, none⟩ = some (.slice ab B.length capb)) := fun W hW => ⟨(HC3.out W hW).1.1, (HC3.out W hW).1.2.1⟩
      have HBd : Hid (Below W3.heap.size W3 w5.drew) := hb35.drew
      have HBe : Hid (Below W3.heap.size W3 (w5.alloc zer).drew) := (hb35.alloc hb35.size zer).drew
      have HAe : Hid (Below w5.heap.size w5 (w5.alloc zer).drew) := ((Below.refl _ w5).alloc (Nat.le_refl _) zer).drew
      have HS1 : Hid ((w5.alloc zer).drew.heap.size = w5.heap.size + 1) := by show (w5.alloc zer).heap.size = _; simp
      have HSe : Hid (w5.heap.size ≤ (w5.alloc zer).drew.heap.size) := by have h := HS1.out; show _ ≤ _; omega
      have hSd := HF.out _ HBd.out
      have HL5 : Hid (W3.heap.size ≤ w5.heap.size) := hb35.size
      generalize flat (joinRoot A B) (-1) 0 = F at *
      generalize joinRoot A B = JR at *
      go_upto_region 3 with fail
      go_cut [6, 7] from 17 to 24 (fun s6 s7 wx => s7 = .bool true ∧ SCut JR w5 s6 wx)
      case first =>
        clear x5 z5 hz5 HC3
        go_region_held3 (fun w' => w'.cell? ⟨w.heap.size, 0, none⟩ = some (.slice aa A.length capa) ∧ w'.cell? ⟨w.heap.size + 1, 0, none⟩ = some (.slice ab B.length capb))
          (first
            | with_reducible exact hSd
            | with_reducible exact HF.out _ HBe.out
            | with_reducible exact hS8
            | with_reducible exact hS7
            | with_reducible exact hS6
            | with_reducible exact HF.out _ (hb36.alloc hb36.size _)
            | with_reducible exact HF.out _ (hb37.alloc hb37.size _)
            | with_reducible exact HF.out _ (hb38.alloc hb38.size _)
            | with_reducible exact HF.out _ ((((((hb38.setCell (p := ⟨w5.heap.size, 0, none⟩) HL5.out _).setCell (p := ⟨w5.heap.size, 1, none⟩) HL5.out _).setCell (p := ⟨w5.heap.size, 2, none⟩) HL5.out _).setCell (p := ⟨w5.heap.size, 3, none⟩) HL5.out _).setCell (p := ⟨w5.heap.size, 4, none⟩) HL5.out _).setCell (p := ⟨w5.heap.size, 5, none⟩) HL5.out _)
            | with_reducible exact HF.out _ ((((((hb38.setCell (p := ⟨w6.heap.size, 0, none⟩) hb36.size _).setCell (p := ⟨w6.heap.size, 1, none⟩) hb36.size _).setCell (p := ⟨w6.heap.size, 2, none⟩) hb36.size _).setCell (p := ⟨w6.heap.size, 3, none⟩) hb36.size _).setCell (p := ⟨w6.heap.size, 4, none⟩) hb36.size _).setCell (p := ⟨w6.heap.size, 5, none⟩) hb36.size _)
            | with_reducible exact HF.out _ ((((((hb38.setCell (p := ⟨w7.heap.size, 0, none⟩) hb37.size _).setCell (p := ⟨w7.heap.size, 1, none⟩) hb37.size _).setCell (p := ⟨w7.heap.size, 2, none⟩) hb37.size _).setCell (p := ⟨w7.heap.size, 3, none⟩) hb37.size _).setCell (p := ⟨w7.heap.size, 4, none⟩) hb37.size _).setCell (p := ⟨w7.heap.size, 5, none⟩) hb37.size _)
            | go_keep)
          (first
            | (go_at_call 50; refine (JN.out w7 _ _ _ _ _ _ _ _ HA7 HB7.out (fun g hg => by have h := h67.size; omega) (fun g hg => hg.2)).mono ?_; rintro e w8 ⟨a8, l8, c8, rfl, hk8, hb8⟩; have h78 : Below w7.heap.size w7 w8 := hb8; have h58 : Below w5.heap.size w5 w8 := h57.trans (h78.mono h57.size); have hb38 := hb37.trans (h78.mono hb37.size); have hS8 := HF.out _ hb38; have e56 := h56.size; have e67 := h67.size; have e78 := h78.size; have hp7 := P7.out; have P8 := hp7.1.kept (h78.block _ (by omega)); have hz8 := Nat.lt_of_lt_of_le hp7.2 (by assumption); have HREL := scut_A h58 (by omega) (by omega) P8 hk8 (fun g hg => ⟨hg.2, by rcases hg.1 with (h | h) | h <;> omega⟩); obtain ⟨⟨q0, q1, q2, q3, q4, q5⟩, ⟨p0, p1, p2, p3, p4, p5⟩⟩ := P8)
            | (go_at_call 50; refine (JN.out (w7.alloc zer) _ _ _ _ _ _ _ _ (HA7.kept (fun g hg => Below.heap_alloc _ _ _ (by have h := h67.size; omega)) (fun _ h => h)) (HB7.out.kept (fun g hg => Below.heap_alloc _ _ _ (by omega)) (fun _ h => h)) (fun g hg => by have h := h67.size; simp; omega) (fun g hg => by simp; omega)).mono ?_; rintro e w8 ⟨a8, l8, c8, rfl, hk8, hb8⟩; have h78 : Below w7.heap.size w7 w8 := six_below hb8; have h58 : Below w5.heap.size w5 w8 := h57.trans (h78.mono h57.size); have hb38 := hb37.trans (h78.mono hb37.size); have hS8 := HF.out _ hb38; have e56 := h56.size; have e67 := h67.size; have e78 := h78.size; have P8 := six_new hb8; have hz8 := six_lt hb8; have HREL := scut_A h58 (by omega) hz8 P8 hk8 (fun g hg => ⟨hg.2, by rcases hg.1 with (h | h) | h; omega; omega; (have h' : (w7.alloc zer).heap.size ≤ g := h; simp at h'; omega)⟩); obtain ⟨⟨q0, q1, q2, q3, q4, q5⟩, ⟨p0, p1, p2, p3, p4, p5⟩⟩ := P8)
            | (go_at_call 50; refine (JN.out w7 _ _ _ _ _ _ _ _ HA7 HB7.out (fun g hg => by have h := h67.size; omega) (fun g hg => hg.2)).mono ?_; rintro e w8 ⟨a8, l8, c8, rfl, hk8, hb8⟩; have h78 : Below w7.heap.size w7 w8 := hb8; have h58 : Below w5.heap.size w5 w8 := h57.trans (h78.mono h57.size); have hb38 := hb37.trans (h78.mono hb37.size); have hS8 := HF.out _ hb38; have e56 := h56.size; have e67 := h67.size; have e78 := h78.size; have HREL := scut_B h58 hk8 (fun g hg => hg.2))
            | (go_at_call 47; refine (TB.out _ hb36).mono ?_; rintro e w7 ⟨a7, l7, c7, rfl, hkB7, hb7⟩; have h67 : Below w6.heap.size w6 w7 := hb7; have hp6 := P6.out; have P7 : Hid (Six w7 w5.heap.size (.int .i64 0) (.string ⟨#[]⟩) (.int .i64 0) (.bool false) (.int .i64 0) (.slice none 0 0) ∧ w5.heap.size < w6.heap.size) := ⟨hp6.1.kept (h67.block _ hp6.2), hp6.2⟩; have HB7 : Hid (KidsIn 41 w7 (fun g => w6.heap.size ≤ g ∧ g < w7.heap.size) (.slice a7 l7 c7) (tree B 41 0).kids) := hkB7; have h57 : Below w5.heap.size w5 w7 := h56.trans (h67.mono h56.size); have hb37 := hb36.trans (h67.mono hb36.size); have hS7 := HF.out _ hb37; have HA7 := HA6.out.kept (fun g hg => h67.block g hg.2) (fun _ h => h))
            | (go_at_call 47; refine (TB.out _ (hb36.alloc hb36.size zer)).mono ?_; rintro e w7 ⟨a7, l7, c7, rfl, hkB7, hb7⟩; have h67 : Below w6.heap.size w6 w7 := six_below hb7; have P7 : Hid (Six w7 w6.heap.size (.int .i64 0) (.string ⟨#[]⟩) (.int .i64 0) (.bool false) (.int .i64 0) (.slice none 0 0) ∧ w6.heap.size < w7.heap.size) := ⟨six_new hb7, six_lt hb7⟩; have HB7 : Hid (KidsIn 41 w7 (fun g => w6.heap.size + 1 ≤ g ∧ g < w7.heap.size) (.slice a7 l7 c7) (tree B 41 0).kids) := hkB7.kept (fun _ _ => rfl) (fun g hg => ⟨by have h := hg.1; simpa using h, hg.2⟩); have h57 : Below w5.heap.size w5 w7 := h56.trans (h67.mono h56.size); have hb37 := hb36.trans (h67.mono hb36.size); have hS7 := HF.out _ hb37; have HA7 := HA6.out.kept (fun g hg => h67.block g hg.2) (fun _ h => h))
            | (go_at_call 47; refine (TB.out _ hb36).mono ?_; rintro e w7 ⟨a7, l7, c7, rfl, hkB7, hb7⟩; have h67 : Below w6.heap.size w6 w7 := hb7; have HB7 : Hid (KidsIn 41 w7 (fun g => w6.heap.size ≤ g ∧ g < w7.heap.size) (.slice a7 l7 c7) (tree B 41 0).kids) := hkB7; have h57 : Below w5.heap.size w5 w7 := h56.trans (h67.mono h56.size); have hb37 := hb36.trans (h67.mono hb36.size); have hS7 := HF.out _ hb37; have HA7 := HA6.out.kept (fun g hg => h67.block g hg.2) (fun _ h => h))
            | (go_at_call 47; refine (TA.out _ HBe.out).mono ?_; rintro e w6 ⟨a6, l6, c6, rfl, hkA6, hb6⟩; have h56 : Below w5.heap.size w5 w6 := HAe.out.trans (hb6.mono HSe.out); have P6 : Hid (Six w6 w5.heap.size (.int .i64 0) (.string ⟨#[]⟩) (.int .i64 0) (.bool false) (.int .i64 0) (.slice none 0 0) ∧ w5.heap.size < w6.heap.size) := ⟨lcut_six hb6, lcut_lt hb6⟩; have HA6 : Hid (KidsIn 41 w6 (fun g => w5.heap.size + 1 ≤ g ∧ g < w6.heap.size) (.slice a6 l6 c6) (tree A 41 0).kids) := hkA6.kept (fun _ _ => rfl) (fun g hg => ⟨by have h := hg.1; rwa [HS1.out] at h, hg.2⟩); have hb36 := hb35.trans (h56.mono hb35.size); have hS6 := HF.out _ hb36)
            | (go_at_call 47; refine (TA.out _ HBd.out).mono ?_; rintro e w6 ⟨a6, l6, c6, rfl, hkA6, hb6⟩; have h56 : Below w5.heap.size w5 w6 := (Below.refl _ w5).drew.trans hb6; have HA6 : Hid (KidsIn 41 w6 (fun g => w5.heap.size ≤ g ∧ g < w6.heap.size) (.slice a6 l6 c6) (tree A 41 0).kids) := hkA6; have hb36 := hb35.trans (h56.mono hb35.size); have hS6 := HF.out _ hb36))
        all_goals
          go_wp2_with fail
          go_meet
          exact ⟨rfl, HREL⟩
      case rest =>
        obtain ⟨rfl, zb, a8, l8, c8, S8, rfl, hnd, hk8, hS8, hz8, h58⟩ := hcut
        have hb38 := hb35.trans (h58.mono hb35.size)
        clear x5 z5 hz5 qa5 qb5 hSd hB5 HF HBd HBe HAe HS1 HSe HL5 TA TB JN
        obtain ⟨⟨_, _, x8, z8, hz8'⟩, hB8⟩ := HC3.out _ hb38
        obtain ⟨d0, d1, d2, d3, d4, d5⟩ := hnd
        rw [Nat.zero_add] at d1 d2 d3 d4 d5
        have TLc := TL.out wc a8 l8 c8 S8 hk8 hS8
        clear TL hk8 hS8
        go_wp2_with fail
        refine TLc.mono ?_
        rintro e w9 ⟨rv, rfl, hrow, hb9⟩
        have hb39 := hb38.trans (hb9.mono hb38.size)
        clear x8 z8 TLc
        obtain ⟨⟨_, _, x9, z9, hz9⟩, hB9⟩ := HC3.out _ hb39
        have HROW : Hid (TyRow (w9.setCell ⟨w.heap.size + 1 + 1, 0, none⟩ rv) w.heap.size rv F) := (TyRow.setCell hrow (a := ⟨w.heap.size + 1 + 1, 0, none⟩) (by show w.heap.size + 1 + 1 < _; omega) rv).lower (by omega)
        obtain ⟨ar, capr, rfl, _⟩ := ownSlice hrow
        clear hrow hb9 d0 d1 d2 d3 d4 d5
        go_wp2
        (try simp only [Exit.inBlock, Exit.then])
        refine bodyPost_ret (v := .tuple #[.agg #[.slice ar F.length capr], .bool true]) ?_ rfl ⟨.slice ar F.length capr, by rw [hn.out], ?_, ?_⟩
        · rw [results_cell_tmp rfl]
          go_simp
        · rw [hn.out]
          exact HROW.out
        · exact hB9.setCell (p := ⟨w.heap.size + 1 + 1, 0, none⟩) hle _
    · have hg' : gs B = false := by simpa using hgb
      have hn : Hid (R = ([], false)) := HR.out.trans (jof_no A B (fun h => hgb h.2))
      rw [hg']
      clear hgb hg' hga
      go_wp2
      (try simp only [Exit.inBlock, Exit.then])
      refine bodyPost_ret (v := .tuple #[.agg #[.slice none 0 0], .bool false]) ?_ rfl ⟨.slice none 0 0, by rw [hn.out], ?_, ?_⟩
      · rw [results_cell_tmp rfl]
        go_simp
      · rw [hn.out]
        exact World.ownsRow_nil _ _ _ _
      · exact hB5.setCell (p := ⟨w.heap.size + 1 + 1, 0, none⟩) hle _
  · have hg' : gs A = false := by simpa using hga
    have hn : Hid (R = ([], false)) := HR.out.trans (jof_no A B (fun h => hga h.1))
    rw [hg']
    clear hg' hga
    go_wp2
    (try simp only [Exit.inBlock, Exit.then])
    refine bodyPost_ret (v := .tuple #[.agg #[.slice none 0 0], .bool false]) ?_ rfl ⟨.slice none 0 0, by rw [hn.out], ?_, ?_⟩
    · rw [results_cell_tmp rfl]
      go_simp
    · rw [hn.out]
      exact World.ownsRow_nil _ _ _ _
    · exact hB4.setCell (p := ⟨w.heap.size + 1 + 1, 0, none⟩) hle _

end Go.Proofs.Ytbkdpcfghaiimaa
