/- The model's l2Meet of lists. -/
import Derived.Test.YtbkdpcfghaiimaaMeA
import Derived.Test.YtbkdpcfghaiimaaJoJ
import Derived.Test.YtbkdpcfghaiimaaMeD
import Derived.Deep.RegionWith
import Derived.Deep.DeepCutAuto
import Derived.Deep.RegionHeld3
import Derived.Deep.DrawnRows
namespace Go.Proofs.Ytbkdpcfghaiimaa
open Go.RowKit Plain Sch
attribute [local go_sem ↓] Go.wp_at_zero Go.wp_at_succ

/-- what holds behind the call of a list's parts: z is what it told, laid into the block zb -/
def MLCut (D : Nat) (x y : Tr) (S : Nat → Prop) (W5 : World) (s7 s8 : Value) (wx : World) : Prop :=
  ∃ (z : Tr) (az : Option Addr) (lz cz zb : Nat) (ok : Bool), s7 = .pointer (some ⟨zb, 0, none⟩) ∧ s8 = .bool ok ∧ NdIn wx zb 0 z (.slice az lz cz) ∧ W5.heap.size ≤ zb ∧ zb < wx.heap.size ∧ Below W5.heap.size W5 wx ∧ ((ok = true ∧ meetT D x y = some z ∧ KidsIn D wx (fun g => (S g ∨ W5.heap.size ≤ g) ∧ g < wx.heap.size) (.slice az lz cz) z.kids) ∨ (ok = false ∧ meetT D x y = none))

/-- the block was made ahead of the call -/
theorem mlcut_A {D : Nat} {x y z : Tr} {S : Nat → Prop} {w W5 w6 : World} {az : Option Addr} {lz cz : Nat} {ok : Bool} (hw : w.heap.size ≤ W5.heap.size) (hS : ∀ g, S g → g < w.heap.size) (hb : Below (W5.alloc zer).drew.heap.size (W5.alloc zer).drew w6)
    (hj : (ok = true ∧ meetT D x y = some z ∧ KidsIn D w6 (fun g => (S g ∨ (W5.alloc zer).drew.heap.size ≤ g) ∧ g < w6.heap.size) (.slice az lz cz) z.kids) ∨ (ok = false ∧ meetT D x y = none)) :
    MLCut D x y S W5 (.pointer (some ⟨W5.heap.size, 0, none⟩)) (.bool ok) ((((((w6.setCell ⟨W5.heap.size, 0, none⟩ (.int .i64 z.kind)).setCell ⟨W5.heap.size, 1, none⟩ (.string z.name)).setCell ⟨W5.heap.size, 2, none⟩ (.int .i64 z.no)).setCell ⟨W5.heap.size, 3, none⟩ (.bool z.must)).setCell ⟨W5.heap.size, 4, none⟩ (.int .i64 z.most)).setCell ⟨W5.heap.size, 5, none⟩ (.slice az lz cz)) := by
  have h2 : (W5.alloc zer).drew.heap.size = W5.heap.size + 1 := by show (W5.alloc zer).heap.size = _; simp
  have h3 := lcut_lt hb
  obtain ⟨⟨q0, q1, q2, q3, q4, q5⟩, _⟩ := six6_six (lcut_six hb) (.int .i64 z.kind) (.string z.name) (.int .i64 z.no) (.bool z.must) (.int .i64 z.most) (.slice az lz cz)
  have h4 : Below W5.heap.size W5 w6 := (((Below.refl _ W5).alloc (Nat.le_refl _) zer).drew).trans (hb.mono (by omega))
  show MLCut D x y S W5 _ _ (six6 w6 W5.heap.size (.int .i64 z.kind) (.string z.name) (.int .i64 z.no) (.bool z.must) (.int .i64 z.most) (.slice az lz cz))
  refine ⟨z, az, lz, cz, W5.heap.size, ok, rfl, rfl, ⟨q0, q1, q2, q3, q4, q5⟩, Nat.le_refl _, by rw [six6_size]; exact h3, ?_, ?_⟩
  · unfold six6
    exact (((((h4.setCell (p := ⟨W5.heap.size, 0, none⟩) (Nat.le_refl _) _).setCell (p := ⟨W5.heap.size, 1, none⟩) (Nat.le_refl _) _).setCell (p := ⟨W5.heap.size, 2, none⟩) (Nat.le_refl _) _).setCell (p := ⟨W5.heap.size, 3, none⟩) (Nat.le_refl _) _).setCell (p := ⟨W5.heap.size, 4, none⟩) (Nat.le_refl _) _).setCell (p := ⟨W5.heap.size, 5, none⟩) (Nat.le_refl _) _
  · rcases hj with ⟨h, hz, hk⟩ | h
    · refine .inl ⟨h, hz, hk.kept (fun g hg => six6_block _ _ _ _ _ _ _ _ g ?_) (fun g hg => ?_)⟩
      · rcases hg.1 with h | h
        · have := hS g h; omega
        · omega
      · rw [six6_size]
        refine ⟨?_, hg.2⟩
        rcases hg.1 with h | h
        · exact .inl h
        · exact .inr (by omega)
    · exact .inr h

/-- the block was made behind the call -/
theorem mlcut_B {D : Nat} {x y z : Tr} {S : Nat → Prop} {w W5 w6 : World} {az : Option Addr} {lz cz : Nat} {ok : Bool} (_hw : w.heap.size ≤ W5.heap.size) (_hS : ∀ g, S g → g < w.heap.size) (hb : Below W5.drew.heap.size W5.drew w6)
    (hj : (ok = true ∧ meetT D x y = some z ∧ KidsIn D w6 (fun g => (S g ∨ W5.drew.heap.size ≤ g) ∧ g < w6.heap.size) (.slice az lz cz) z.kids) ∨ (ok = false ∧ meetT D x y = none)) :
    MLCut D x y S W5 (.pointer (some ⟨w6.heap.size, 0, none⟩)) (.bool ok) (w6.alloc (.cells #[.int .i64 z.kind, .string z.name, .int .i64 z.no, .bool z.must, .int .i64 z.most, .slice az lz cz] 75)) := by
  have h3 : W5.heap.size ≤ w6.heap.size := hb.size
  have h4 : Below W5.heap.size W5 w6 := (Below.refl _ W5).drew.trans (hb.mono (Nat.le_refl _))
  refine ⟨z, az, lz, cz, w6.heap.size, ok, rfl, rfl, ⟨by go_simp, by go_simp, by go_simp, by go_simp, by go_simp, by go_simp⟩, h3, by simp, h4.alloc h3 _, ?_⟩
  rcases hj with ⟨h, hz, hk⟩ | h
  · refine .inl ⟨h, hz, hk.kept (fun g hg => Below.heap_alloc _ _ _ hg.2) (fun g hg => ⟨hg.1, by have := hg.2; simp; omega⟩)⟩
  · exact .inr h

set_option maxRecDepth 100000 in
set_option maxHeartbeats 8000000 in
theorem l2Meet_list (D : Nat) (a b x y : Tr) (la lb : List Tr) (aa ab : Option Addr) (ca cb : Nat) (S : Nat → Prop) (w : World) (hka : a.kids = x :: la) (hkb : b.kids = y :: lb) (hkA : KidsIn (D + 1) w S (.slice aa a.kids.length ca) a.kids) (hkB : KidsIn (D + 1) w S (.slice ab b.kids.length cb) b.kids) (hS : ∀ g, S g → g < w.heap.size)
    (hk4 : a.kind = 4) (hkk : b.kind = 4)
    (IH0 : ∀ (ax ay : Option Addr) (lx cx ly cy : Nat) (S : Nat → Prop) (w : World), KidsIn D w S (.slice ax lx cx) x.kids → KidsIn D w S (.slice ay ly cy) y.kids → (∀ g, S g → g < w.heap.size) → Calls Try.prog 46 #[.agg #[.int .i64 x.kind, .string x.name, .int .i64 x.no, .bool x.must, .int .i64 x.most, .slice ax lx cx], .agg #[.int .i64 y.kind, .string y.name, .int .i64 y.no, .bool y.must, .int .i64 y.most, .slice ay ly cy]] w fun e w' => (∃ t ar lr cr ok, e = .returned (.tuple #[.agg #[.int .i64 (Tr.kind t), .string t.name, .int .i64 t.no, .bool t.must, .int .i64 t.most, .slice ar lr cr], .bool ok]) ∧ ((ok = true ∧ meetT D x y = some t ∧ KidsIn D w' (fun g => (S g ∨ w.heap.size ≤ g) ∧ g < w'.heap.size) (.slice ar lr cr) t.kids) ∨ (ok = false ∧ meetT D x y = none))) ∧ Below w.heap.size w w') :
    Calls Try.prog 46 #[tv a aa a.kids.length ca, tv b ab b.kids.length cb] w fun e w' => ((∃ z ar lr cr, meetT D x y = some z ∧ e = .returned (.tuple #[tv (mn a b [z]) ar lr cr, .bool true]) ∧ KidsIn (D + 1) w' (fun g => (S g ∨ w.heap.size ≤ g) ∧ g < w'.heap.size) (.slice ar lr cr) [z]) ∨ (meetT D x y = none ∧ ∃ t ar lr cr, e = .returned (.tuple #[tv t ar lr cr, .bool false]))) ∧ Below w.heap.size w w' := by
  have hlA : 1 ≤ a.kids.length := by rw [hka]; simp
  have hlB : 1 ≤ b.kids.length := by rw [hkb]; simp
  obtain ⟨ao', cap', hcc, hlc, hcm, hrow⟩ := hkA
  simp only [Value.slice.injEq, true_and] at hcc
  obtain ⟨rfl, rfl⟩ := hcc
  obtain ⟨ao', cap', hcc, hlc2, hcm2, hrow2⟩ := hkB
  simp only [Value.slice.injEq, true_and] at hcc
  obtain ⟨rfl, rfl⟩ := hcc
  obtain ⟨g, o, c', rfl, hSg, hnd, hkx⟩ := hrow 0 x (by rw [hka]; rfl)
  obtain ⟨g2, o2, c2', rfl, hSg2, hnd2, hky⟩ := hrow2 0 y (by rw [hkb]; rfl)
  have hcm' : ca ≤ 9223372036854775807 := by unfold maxLen at hcm; omega
  have hcm2' : cb ≤ 9223372036854775807 := by unfold maxLen at hcm2; omega
  have hg := hS g hSg
  have hg2 := hS g2 hSg2
  obtain ⟨ax, cx, rfl, _⟩ := hkx.form
  obtain ⟨ay, cy, rfl, _⟩ := hky.form
  rw [Nat.zero_mul, Nat.add_zero] at hnd hnd2
  have HJN : Hid (∀ ks, mn a b ks = .mk a.kind a.name a.no (a.must || b.must) (if b.most < a.most then b.most else a.most) ks) := fun _ => rfl
  have HS : Hid (∀ g, S g → g < w.heap.size) := hS
  have HIC : Hid (∀ W : World, Below w.heap.size w W → Calls Try.prog 46 #[.agg #[.int .i64 x.kind, .string x.name, .int .i64 x.no, .bool x.must, .int .i64 x.most, .slice ax x.kids.length cx], .agg #[.int .i64 y.kind, .string y.name, .int .i64 y.no, .bool y.must, .int .i64 y.most, .slice ay y.kids.length cy]] W fun e w' => (∃ t ar lr cr ok, e = .returned (.tuple #[.agg #[.int .i64 (Tr.kind t), .string t.name, .int .i64 t.no, .bool t.must, .int .i64 t.most, .slice ar lr cr], .bool ok]) ∧ ((ok = true ∧ meetT D x y = some t ∧ KidsIn D w' (fun g => (S g ∨ W.heap.size ≤ g) ∧ g < w'.heap.size) (.slice ar lr cr) t.kids) ∨ (ok = false ∧ meetT D x y = none))) ∧ Below W.heap.size W w') := fun W hW => IH0 ax ay _ cx _ cy S W (hkx.kept (fun g hg => hW.block g (hS g hg)) (fun _ h => h)) (hky.kept (fun g hg => hW.block g (hS g hg)) (fun _ h => h)) (fun g hg => by have h1 := hS g hg; have h2 := hW.size; omega)
  clear hrow hrow2 IH0 hkx hky hS
  generalize a.kids.length = la' at *
  generalize b.kids.length = lb' at *
  have hla' : (0 : Int) < (la' : Int) := by omega
  have hlb' : (0 : Int) < (lb' : Int) := by omega
  unfold tv
  obtain ⟨ka, na, noa, mua, moa, kia⟩ := a
  obtain ⟨kb, nb, nob, mub, mob, kib⟩ := b
  dsimp only [Tr.kind, Tr.name, Tr.no, Tr.must, Tr.most] at hk4 hkk HJN ⊢
  subst hk4
  subst hkk
  obtain ⟨W3, hW3⟩ : ∃ W, W = ((w.alloc (.cells #[.int .i64 4, .string na, .int .i64 noa, .bool mua, .int .i64 moa, .slice (some ⟨g, o, none⟩) la' ca] 75)).alloc (.cells #[.int .i64 4, .string nb, .int .i64 nob, .bool mub, .int .i64 mob, .slice (some ⟨g2, o2, none⟩) lb' cb] 75)).alloc (.cells #[.int .i64 0, .string ⟨#[]⟩, .int .i64 0, .bool false, .int .i64 0, .slice none 0 0] 75) := ⟨_, rfl⟩
  have hB3 : Below w.heap.size w W3 := by rw [hW3]; exact (((Below.refl _ w).alloc (Nat.le_refl _) _).alloc (by simp) _).alloc (by simp; omega) _
  have HS3 : Hid (W3.heap.size = w.heap.size + 3) := by show _ = _; rw [hW3]; simp
  have HC3 : Hid (∀ W : World, Below (w.heap.size + 3) W3 W → (Six W w.heap.size (.int .i64 4) (.string na) (.int .i64 noa) (.bool mua) (.int .i64 moa) (.slice (some ⟨g, o, none⟩) la' ca) ∧ Six W (w.heap.size + 1) (.int .i64 4) (.string nb) (.int .i64 nob) (.bool mub) (.int .i64 mob) (.slice (some ⟨g2, o2, none⟩) lb' cb) ∧ Six W (w.heap.size + 1 + 1) (.int .i64 0) (.string ⟨#[]⟩) (.int .i64 0) (.bool false) (.int .i64 0) (.slice none 0 0)) ∧ Below w.heap.size w W ∧ w.heap.size + 1 + 1 < W.heap.size) := fun W hW => by
    have hs := HS3.out
    have h2 := hW.size
    have h0 : Six W3 w.heap.size (.int .i64 4) (.string na) (.int .i64 noa) (.bool mua) (.int .i64 moa) (.slice (some ⟨g, o, none⟩) la' ca) := by
      rw [hW3]; exact ⟨⟨by go_simp, by go_simp, by go_simp, by go_simp, by go_simp, by go_simp⟩, by go_simp, by go_simp, by go_simp, by go_simp, by go_simp, by go_simp⟩
    have h1 : Six W3 (w.heap.size + 1) (.int .i64 4) (.string nb) (.int .i64 nob) (.bool mub) (.int .i64 mob) (.slice (some ⟨g2, o2, none⟩) lb' cb) := by
      rw [hW3]; exact ⟨⟨by go_simp, by go_simp, by go_simp, by go_simp, by go_simp, by go_simp⟩, by go_simp, by go_simp, by go_simp, by go_simp, by go_simp, by go_simp⟩
    have h3 : Six W3 (w.heap.size + 1 + 1) (.int .i64 0) (.string ⟨#[]⟩) (.int .i64 0) (.bool false) (.int .i64 0) (.slice none 0 0) := by
      rw [hW3]; exact ⟨⟨by go_simp, by go_simp, by go_simp, by go_simp, by go_simp, by go_simp⟩, by go_simp, by go_simp, by go_simp, by go_simp, by go_simp, by go_simp⟩
    exact ⟨⟨h0.kept (hW.block _ (by omega)), h1.kept (hW.block _ (by omega)), h3.kept (hW.block _ (by omega))⟩, hB3.trans (hW.mono (by omega)), by omega⟩
  go_enter Try.func46, Try.ntmps46
  go_wp2_with fail
  rw [← hW3]
  clear hW3
  have SH := l2Shell_any (.mk 4 na noa mua moa kia) (some ⟨g, o, none⟩) la' ca W3
  unfold tv at SH
  dsimp only [Tr.kind, Tr.name, Tr.no, Tr.must, Tr.most] at SH
  refine SH.mono ?_
  clear SH
  rintro e w4 ⟨rfl, hb4⟩
  have hb34 : Below (w.heap.size + 3) W3 w4 := hb4.mono (by rw [HS3.out]; exact Nat.le_refl _)
  clear hb4
  obtain ⟨⟨⟨⟨a0, a1, a2, a3, a4, a5⟩, _⟩, ⟨⟨b0, b1, b2, b3, b4, b5⟩, _⟩, _⟩, hBw, hsw⟩ := HC3.out _ hb34
  have hs0 : w.heap.size < w4.heap.size := by omega
  have hs1 : w.heap.size + 1 < w4.heap.size := by omega
  have HS2 : Hid (w.heap.size + 1 + 1 < w4.heap.size) := hsw
  have hg4 : g < w4.heap.size := by omega
  have hg24 : g2 < w4.heap.size := by omega
  cases hm : mua with
  | true =>
    rw [hm] at a3
    by_cases hl : mob < moa
    · have hl' : decide (mob < moa) = true := by simpa using hl
      obtain ⟨W5, hW5⟩ : ∃ W, W = w4.alloc (.cells #[.int .i64 4, .string na, .int .i64 noa, .bool true, .int .i64 mob, .slice none 0 0] 75) := ⟨_, rfl⟩
      have hb45 : Below w4.heap.size w4 W5 := by rw [hW5]; exact (Below.refl _ w4).alloc (Nat.le_refl _) _
      have HS5 : Hid (W5.heap.size = w4.heap.size + 1) := by show _ = _; rw [hW5]; simp
      have SX5 : Hid (Six W5 w4.heap.size (.int .i64 4) (.string na) (.int .i64 noa) (.bool true) (.int .i64 mob) (.slice none 0 0)) := by
        show Six _ _ _ _ _ _ _ _
        rw [hW5]
        exact ⟨⟨by go_simp, by go_simp, by go_simp, by go_simp, by go_simp, by go_simp⟩, by go_simp, by go_simp, by go_simp, by go_simp, by go_simp, by go_simp⟩
      have HJ : Hid (∀ ks, mn (.mk 4 na noa mua moa kia) (.mk 4 nb nob mub mob kib) ks = .mk 4 na noa true mob ks) := fun ks => by rw [HJN.out]; congr 1 <;> first | rfl | (rw [hm]; rfl) | (first | exact if_pos hl | exact if_neg hl)
      clear hl
      go_upto_region 8 with fail
      rw [← hW5]
      clear hW5
      have hb35 : Below (w.heap.size + 3) W3 W5 := hb34.trans (hb45.mono (by have h := hb34.size; have h2 := HS3.out; omega))
      clear a0 a1 a2 a3 a4 a5 b0 b1 b2 b3 b4 b5 hBw hsw
      obtain ⟨⟨⟨⟨_, _, _, _, _, a5⟩, _⟩, ⟨⟨_, _, _, _, _, b5⟩, _⟩, _⟩, hBw, _⟩ := HC3.out _ hb35
      obtain ⟨c0, c1, c2, c3, c4, c5⟩ := hnd.kept (hBw.block g hg)
      obtain ⟨e0, e1, e2, e3, e4, e5⟩ := hnd2.kept (hBw.block g2 hg2)
      have hBwd : Hid (Below w.heap.size w W5.drew) := hBw.drew
      have hBwd2 : Hid (Below w.heap.size w (W5.alloc (.cells #[.int .i64 0, .string ⟨#[]⟩, .int .i64 0, .bool false, .int .i64 0, .slice none 0 0] 75)).drew) := (hBw.alloc hBw.size _).drew
      have hW50 : w.heap.size ≤ W5.heap.size := hBw.size
      have hgW5 : g < W5.heap.size := by omega
      have hg2W5 : g2 < W5.heap.size := by omega
      have hw0W5 : w.heap.size < W5.heap.size := by have := hb45.size; omega
      have hw1W5 : w.heap.size + 1 < W5.heap.size := by have := hb45.size; omega
      go_cut [7, 8] from 45 to 56 (fun s7 s8 wx => MLCut D x y S W5 s7 s8 wx)
      case first =>
        have HF : Hid (∀ W : World, Below (w.heap.size + 3) W3 W → W.cell? ⟨w.heap.size, 5, none⟩ = some (.slice (some ⟨g, o, none⟩) la' ca) ∧ W.cell? ⟨w.heap.size + 1, 5, none⟩ = some (.slice (some ⟨g2, o2, none⟩) lb' cb) ∧ W.cell? ⟨g, o, none⟩ = some (.int .i64 x.kind) ∧ W.cell? ⟨g, o + 1, none⟩ = some (.string x.name) ∧ W.cell? ⟨g, o + 2, none⟩ = some (.int .i64 x.no) ∧ W.cell? ⟨g, o + 3, none⟩ = some (.bool x.must) ∧ W.cell? ⟨g, o + 4, none⟩ = some (.int .i64 x.most) ∧ W.cell? ⟨g, o + 5, none⟩ = some (.slice ax x.kids.length cx) ∧ W.cell? ⟨g2, o2, none⟩ = some (.int .i64 y.kind) ∧ W.cell? ⟨g2, o2 + 1, none⟩ = some (.string y.name) ∧ W.cell? ⟨g2, o2 + 2, none⟩ = some (.int .i64 y.no) ∧ W.cell? ⟨g2, o2 + 3, none⟩ = some (.bool y.must) ∧ W.cell? ⟨g2, o2 + 4, none⟩ = some (.int .i64 y.most) ∧ W.cell? ⟨g2, o2 + 5, none⟩ = some (.slice ay y.kids.length cy)) := fun W hW => by
          have hq := HC3.out _ hW
          have h1 := hnd.kept (hq.2.1.block g hg)
          have h2 := hnd2.kept (hq.2.1.block g2 hg2)
          exact ⟨hq.1.1.1.2.2.2.2.2, hq.1.2.1.1.2.2.2.2.2, h1.1, h1.2.1, h1.2.2.1, h1.2.2.2.1, h1.2.2.2.2.1, h1.2.2.2.2.2, h2.1, h2.2.1, h2.2.2.1, h2.2.2.2.1, h2.2.2.2.2.1, h2.2.2.2.2.2⟩
        have HBd : Hid (Below (w.heap.size + 3) W3 W5.drew) := hb35.drew
        have HBe : Hid (Below (w.heap.size + 3) W3 (W5.alloc zer).drew) := (hb35.alloc (by have h := hb35.size; have h2 := HS3.out; omega) zer).drew
        have HSZ : Hid (w.heap.size + 3 ≤ W5.heap.size) := by have h := hb35.size; have h2 := HS3.out; show _ ≤ _; omega
        have hSd := HF.out _ HBd.out
        clear hb34 hb35 hb45 SX5 HC3 HJN hnd hnd2
        have hp1 : 0 < la' := by omega
        have hp2 : 0 < lb' := by omega
        have hp1' : (0 : Int) < (la' : Int) := by omega
        have hp2' : (0 : Int) < (lb' : Int) := by omega
        go_region_held3 (fun w' => w'.cell? ⟨w.heap.size, 5, none⟩ = some (.slice (some ⟨g, o, none⟩) la' ca) ∧ w'.cell? ⟨w.heap.size + 1, 5, none⟩ = some (.slice (some ⟨g2, o2, none⟩) lb' cb) ∧ w'.cell? ⟨g, o, none⟩ = some (.int .i64 x.kind) ∧ w'.cell? ⟨g, o + 1, none⟩ = some (.string x.name) ∧ w'.cell? ⟨g, o + 2, none⟩ = some (.int .i64 x.no) ∧ w'.cell? ⟨g, o + 3, none⟩ = some (.bool x.must) ∧ w'.cell? ⟨g, o + 4, none⟩ = some (.int .i64 x.most) ∧ w'.cell? ⟨g, o + 5, none⟩ = some (.slice ax x.kids.length cx) ∧ w'.cell? ⟨g2, o2, none⟩ = some (.int .i64 y.kind) ∧ w'.cell? ⟨g2, o2 + 1, none⟩ = some (.string y.name) ∧ w'.cell? ⟨g2, o2 + 2, none⟩ = some (.int .i64 y.no) ∧ w'.cell? ⟨g2, o2 + 3, none⟩ = some (.bool y.must) ∧ w'.cell? ⟨g2, o2 + 4, none⟩ = some (.int .i64 y.most) ∧ w'.cell? ⟨g2, o2 + 5, none⟩ = some (.slice ay y.kids.length cy))
          (first
            | with_reducible exact hSd
            | with_reducible exact HF.out _ HBe.out
            | with_reducible exact hS6
            | with_reducible exact HF.out _ (hb36.alloc hsz36 _)
            | with_reducible exact HF.out _ ((((((hb36.setCell (p := ⟨W5.heap.size, 0, none⟩) HSZ.out _).setCell (p := ⟨W5.heap.size, 1, none⟩) HSZ.out _).setCell (p := ⟨W5.heap.size, 2, none⟩) HSZ.out _).setCell (p := ⟨W5.heap.size, 3, none⟩) HSZ.out _).setCell (p := ⟨W5.heap.size, 4, none⟩) HSZ.out _).setCell (p := ⟨W5.heap.size, 5, none⟩) HSZ.out _)
            | go_keep)
          (first
            | (go_at_call 46; refine (HIC.out _ hBwd2.out).mono ?_; rintro e w6 ⟨⟨z, az, lz, cz, ok, rfl, hj⟩, hb6⟩; obtain ⟨⟨q0, q1, q2, q3, q4, q5⟩, ⟨p0, p1, p2, p3, p4, p5⟩⟩ := lcut_six hb6; have hzb := lcut_lt hb6; have hb36 : Below (w.heap.size + 3) W3 w6 := HBe.out.trans (hb6.mono (by have h := HSZ.out; show w.heap.size + 3 ≤ (W5.alloc zer).heap.size; simp; omega)); have hsz36 : w.heap.size + 3 ≤ w6.heap.size := (by have h := HSZ.out; omega); have hS6 := HF.out _ hb36)
            | (go_at_call 46; refine (HIC.out _ hBwd.out).mono ?_; rintro e w6 ⟨⟨z, az, lz, cz, ok, rfl, hj⟩, hb6⟩; have hb36 : Below (w.heap.size + 3) W3 w6 := HBd.out.trans (hb6.mono HSZ.out); have hsz36 : w.heap.size + 3 ≤ w6.heap.size := (by have h := HSZ.out; have h2 : W5.heap.size ≤ w6.heap.size := hb6.size; omega); have hS6 := HF.out _ hb36))
        all_goals
          go_wp2_with fail
          go_meet
          first
          | with_reducible exact mlcut_B hW50 HS.out hb6 hj
          | with_reducible exact mlcut_A hW50 HS.out hb6 hj
          | exact mlcut_A hW50 HS.out hb6 hj
      case rest =>
        obtain ⟨z, az, lz, cz, zb, ok, rfl, rfl, hzn, hz1, hz2, hb6, hj⟩ := hcut
        clear a5 b5 c0 c1 c2 c3 c4 c5 e0 e1 e2 e3 e4 e5
        have h36 : Below (w.heap.size + 3) W3 wc := hb35.trans (hb6.mono (by have h := hb35.size; have h2 := HS3.out; omega))
        obtain ⟨⟨_, _, ⟨⟨y0, y1, y2, y3, y4, y5⟩, ⟨z0, z1, z2, z3, z4, z5⟩⟩⟩, hB6, hr6⟩ := HC3.out _ h36
        have h5 := HS5.out
        have hs6 : w4.heap.size < wc.heap.size := by have := hb6.size; omega
        obtain ⟨⟨q0, q1, q2, q3, q4, q5⟩, ⟨p0, p1, p2, p3, p4, p5⟩⟩ := SX5.out.kept (hb6.block _ (by omega))
        obtain ⟨d0, d1, d2, d3, d4, d5⟩ := hzn
        rw [Nat.zero_add] at d1 d2 d3 d4 d5
        have hle : w.heap.size ≤ w.heap.size + 1 + 1 := by omega
        have hne : w.heap.size + 1 + 1 < w4.heap.size := HS2.out
        have HW5 : Hid (W5.heap.size = w4.heap.size + 1) := h5
        clear h5 hb34 hb35 hb45 SX5 HC3 HJN
        clear HIC hBwd hBwd2
        go_upto_region 10 with fail
        obtain ⟨W10, hW10⟩ : ∃ W, W = (wc.setCell ⟨w4.heap.size, 5, none⟩ (.slice (some ⟨wc.heap.size, 0, none⟩) 1 1)).alloc (.cells #[.int .i64 z.kind, .string z.name, .int .i64 z.no, .bool z.must, .int .i64 z.most, .slice az lz cz] 75) := ⟨_, rfl⟩
        have hB10 : Below w.heap.size w W10 := by rw [hW10]; exact (hB6.setCell (p := ⟨w4.heap.size, 5, none⟩) (by show w.heap.size ≤ w4.heap.size; omega) _).alloc (by have := hB6.size; simp; omega) _
        have HBLK : Hid (∀ g, g < wc.heap.size → g ≠ w4.heap.size → W10.heap[g]? = wc.heap[g]?) := fun g h1 h2 => by
          rw [hW10, Below.heap_alloc _ _ _ (by simp; omega), Below.heap_setCell _ _ _ _ (by show g ≠ w4.heap.size; omega)]
        have HS10 : Hid (W10.heap.size = wc.heap.size + 1) := by show _ = _; rw [hW10]; simp
        have HZ10 : Hid (NdIn W10 wc.heap.size 0 z (.slice az lz cz)) := by
          show NdIn _ _ _ _ _
          have hw : (wc.setCell ⟨w4.heap.size, 5, none⟩ (.slice (some ⟨wc.heap.size, 0, none⟩) 1 1)).heap.size = wc.heap.size := by simp
          rw [hW10, ← hw]
          exact ⟨by go_simp, by go_simp, by go_simp, by go_simp, by go_simp, by go_simp⟩
        have Q10 : Six W10 w4.heap.size (.int .i64 4) (.string na) (.int .i64 noa) (.bool true) (.int .i64 mob) (.slice (some ⟨wc.heap.size, 0, none⟩) 1 1) := by
          have h0 : Six (wc.setCell ⟨w4.heap.size, 5, none⟩ (.slice (some ⟨wc.heap.size, 0, none⟩) 1 1)) w4.heap.size (.int .i64 4) (.string na) (.int .i64 noa) (.bool true) (.int .i64 mob) (.slice (some ⟨wc.heap.size, 0, none⟩) 1 1) := by
            have ne : ∀ j : Nat, 5 ≠ j → (⟨w4.heap.size, 5, none⟩ : Addr) ≠ ⟨w4.heap.size, j, none⟩ := fun j h e => h (congrArg Addr.off e)
            exact ⟨⟨(World.cell?_setCell_other _ _ _ _ (ne 0 (by omega))).trans q0, (World.cell?_setCell_other _ _ _ _ (ne 1 (by omega))).trans q1, (World.cell?_setCell_other _ _ _ _ (ne 2 (by omega))).trans q2, (World.cell?_setCell_other _ _ _ _ (ne 3 (by omega))).trans q3, (World.cell?_setCell_other _ _ _ _ (ne 4 (by omega))).trans q4, World.cell?_setCell_same _ _ _ q5⟩, by rw [World.frozen?_setCell]; exact p0, by rw [World.frozen?_setCell]; exact p1, by rw [World.frozen?_setCell]; exact p2, by rw [World.frozen?_setCell]; exact p3, by rw [World.frozen?_setCell]; exact p4, by rw [World.frozen?_setCell]; exact p5⟩
          rw [hW10]
          exact h0.kept (Below.heap_alloc _ _ _ (by simp; omega))
        have Y10 : Six W10 (w.heap.size + 1 + 1) (.int .i64 0) (.string ⟨#[]⟩) (.int .i64 0) (.bool false) (.int .i64 0) (.slice none 0 0) := Six.kept (w := wc) ⟨⟨y0, y1, y2, y3, y4, y5⟩, z0, z1, z2, z3, z4, z5⟩ (HBLK.out _ hr6 (by omega))
        rw [← hW10]
        clear hW10 q0 q1 q2 q3 q4 q5 p0 p1 p2 p3 p4 p5 y0 y1 y2 y3 y4 y5 z0 z1 z2 z3 z4 z5 d0 d1 d2 d3 d4 d5
        obtain ⟨⟨q0, q1, q2, q3, q4, q5⟩, _⟩ := Q10
        obtain ⟨⟨y0, y1, y2, y3, y4, y5⟩, ⟨z0, z1, z2, z3, z4, z5⟩⟩ := Y10
        go_wp2
        (try simp only [Exit.inBlock, Exit.then])
        have hBs := (((((hB10.setCell (p := ⟨w.heap.size + 1 + 1, 0, none⟩) hle (.int .i64 4)).setCell (p := ⟨w.heap.size + 1 + 1, 1, none⟩) hle (.string na)).setCell (p := ⟨w.heap.size + 1 + 1, 2, none⟩) hle (.int .i64 noa)).setCell (p := ⟨w.heap.size + 1 + 1, 3, none⟩) hle (.bool true)).setCell (p := ⟨w.heap.size + 1 + 1, 4, none⟩) hle (.int .i64 mob)).setCell (p := ⟨w.heap.size + 1 + 1, 5, none⟩) hle (.slice (some ⟨wc.heap.size, 0, none⟩) 1 1)
        refine bodyPost_ret (v := .tuple #[.agg #[.int .i64 4, .string na, .int .i64 noa, .bool true, .int .i64 mob, .slice (some ⟨wc.heap.size, 0, none⟩) 1 1], .bool ok]) ?_ rfl ⟨?_, hBs⟩
        · rw [results_cell_tmp rfl]
          go_simp
        · have h10 := HS10.out
          have hsw := hB6.size
          rcases hj with ⟨rfl, hz, hkz⟩ | ⟨rfl, hz⟩
          · refine .inl ⟨z, some ⟨wc.heap.size, 0, none⟩, 1, 1, hz, by rw [HJ.out] <;> rfl, kid_one (c := .slice az lz cz) (HZ10.out.kept ?_) ?_ ?_⟩
            · repeat rw [Below.heap_setCell _ _ _ _ (by show wc.heap.size ≠ w.heap.size + 1 + 1; omega)]
            · exact ⟨.inr (by omega), by simp; omega⟩
            · refine hkz.kept (fun g hg => ?_) (fun g hg => ?_)
              · have hg2 : g < wc.heap.size := hg.2
                have hgn : g ≠ w4.heap.size ∧ g ≠ w.heap.size + 1 + 1 := by
                  have h5 := HW5.out
                  rcases hg.1 with h | h
                  · have := HS.out g h; omega
                  · omega
                repeat rw [Below.heap_setCell _ _ _ _ (by show g ≠ w.heap.size + 1 + 1; omega)]
                exact HBLK.out g hg2 hgn.1
              · refine ⟨?_, by have := hg.2; simp; omega⟩
                rcases hg.1 with h | h
                · exact .inl h
                · exact .inr (by omega)
          · exact .inr ⟨hz, .mk 4 na noa true mob [], some ⟨wc.heap.size, 0, none⟩, 1, 1, rfl⟩
    · have hl' : decide (mob < moa) = false := by simpa using hl
      obtain ⟨W5, hW5⟩ : ∃ W, W = w4.alloc (.cells #[.int .i64 4, .string na, .int .i64 noa, .bool true, .int .i64 moa, .slice none 0 0] 75) := ⟨_, rfl⟩
      have hb45 : Below w4.heap.size w4 W5 := by rw [hW5]; exact (Below.refl _ w4).alloc (Nat.le_refl _) _
      have HS5 : Hid (W5.heap.size = w4.heap.size + 1) := by show _ = _; rw [hW5]; simp
      have SX5 : Hid (Six W5 w4.heap.size (.int .i64 4) (.string na) (.int .i64 noa) (.bool true) (.int .i64 moa) (.slice none 0 0)) := by
        show Six _ _ _ _ _ _ _ _
        rw [hW5]
        exact ⟨⟨by go_simp, by go_simp, by go_simp, by go_simp, by go_simp, by go_simp⟩, by go_simp, by go_simp, by go_simp, by go_simp, by go_simp, by go_simp⟩
      have HJ : Hid (∀ ks, mn (.mk 4 na noa mua moa kia) (.mk 4 nb nob mub mob kib) ks = .mk 4 na noa true moa ks) := fun ks => by rw [HJN.out]; congr 1 <;> first | rfl | (rw [hm]; rfl) | (first | exact if_pos hl | exact if_neg hl)
      clear hl
      go_upto_region 8 with fail
      rw [← hW5]
      clear hW5
      have hb35 : Below (w.heap.size + 3) W3 W5 := hb34.trans (hb45.mono (by have h := hb34.size; have h2 := HS3.out; omega))
      clear a0 a1 a2 a3 a4 a5 b0 b1 b2 b3 b4 b5 hBw hsw
      obtain ⟨⟨⟨⟨_, _, _, _, _, a5⟩, _⟩, ⟨⟨_, _, _, _, _, b5⟩, _⟩, _⟩, hBw, _⟩ := HC3.out _ hb35
      obtain ⟨c0, c1, c2, c3, c4, c5⟩ := hnd.kept (hBw.block g hg)
      obtain ⟨e0, e1, e2, e3, e4, e5⟩ := hnd2.kept (hBw.block g2 hg2)
      have hBwd : Hid (Below w.heap.size w W5.drew) := hBw.drew
      have hBwd2 : Hid (Below w.heap.size w (W5.alloc (.cells #[.int .i64 0, .string ⟨#[]⟩, .int .i64 0, .bool false, .int .i64 0, .slice none 0 0] 75)).drew) := (hBw.alloc hBw.size _).drew
      have hW50 : w.heap.size ≤ W5.heap.size := hBw.size
      have hgW5 : g < W5.heap.size := by omega
      have hg2W5 : g2 < W5.heap.size := by omega
      have hw0W5 : w.heap.size < W5.heap.size := by have := hb45.size; omega
      have hw1W5 : w.heap.size + 1 < W5.heap.size := by have := hb45.size; omega
      go_cut [7, 8] from 45 to 56 (fun s7 s8 wx => MLCut D x y S W5 s7 s8 wx)
      case first =>
        have HF : Hid (∀ W : World, Below (w.heap.size + 3) W3 W → W.cell? ⟨w.heap.size, 5, none⟩ = some (.slice (some ⟨g, o, none⟩) la' ca) ∧ W.cell? ⟨w.heap.size + 1, 5, none⟩ = some (.slice (some ⟨g2, o2, none⟩) lb' cb) ∧ W.cell? ⟨g, o, none⟩ = some (.int .i64 x.kind) ∧ W.cell? ⟨g, o + 1, none⟩ = some (.string x.name) ∧ W.cell? ⟨g, o + 2, none⟩ = some (.int .i64 x.no) ∧ W.cell? ⟨g, o + 3, none⟩ = some (.bool x.must) ∧ W.cell? ⟨g, o + 4, none⟩ = some (.int .i64 x.most) ∧ W.cell? ⟨g, o + 5, none⟩ = some (.slice ax x.kids.length cx) ∧ W.cell? ⟨g2, o2, none⟩ = some (.int .i64 y.kind) ∧ W.cell? ⟨g2, o2 + 1, none⟩ = some (.string y.name) ∧ W.cell? ⟨g2, o2 + 2, none⟩ = some (.int .i64 y.no) ∧ W.cell? ⟨g2, o2 + 3, none⟩ = some (.bool y.must) ∧ W.cell? ⟨g2, o2 + 4, none⟩ = some (.int .i64 y.most) ∧ W.cell? ⟨g2, o2 + 5, none⟩ = some (.slice ay y.kids.length cy)) := fun W hW => by
          have hq := HC3.out _ hW
          have h1 := hnd.kept (hq.2.1.block g hg)
          have h2 := hnd2.kept (hq.2.1.block g2 hg2)
          exact ⟨hq.1.1.1.2.2.2.2.2, hq.1.2.1.1.2.2.2.2.2, h1.1, h1.2.1, h1.2.2.1, h1.2.2.2.1, h1.2.2.2.2.1, h1.2.2.2.2.2, h2.1, h2.2.1, h2.2.2.1, h2.2.2.2.1, h2.2.2.2.2.1, h2.2.2.2.2.2⟩
        have HBd : Hid (Below (w.heap.size + 3) W3 W5.drew) := hb35.drew
        have HBe : Hid (Below (w.heap.size + 3) W3 (W5.alloc zer).drew) := (hb35.alloc (by have h := hb35.size; have h2 := HS3.out; omega) zer).drew
        have HSZ : Hid (w.heap.size + 3 ≤ W5.heap.size) := by have h := hb35.size; have h2 := HS3.out; show _ ≤ _; omega
        have hSd := HF.out _ HBd.out
        clear hb34 hb35 hb45 SX5 HC3 HJN hnd hnd2
        have hp1 : 0 < la' := by omega
        have hp2 : 0 < lb' := by omega
        have hp1' : (0 : Int) < (la' : Int) := by omega
        have hp2' : (0 : Int) < (lb' : Int) := by omega
        go_region_held3 (fun w' => w'.cell? ⟨w.heap.size, 5, none⟩ = some (.slice (some ⟨g, o, none⟩) la' ca) ∧ w'.cell? ⟨w.heap.size + 1, 5, none⟩ = some (.slice (some ⟨g2, o2, none⟩) lb' cb) ∧ w'.cell? ⟨g, o, none⟩ = some (.int .i64 x.kind) ∧ w'.cell? ⟨g, o + 1, none⟩ = some (.string x.name) ∧ w'.cell? ⟨g, o + 2, none⟩ = some (.int .i64 x.no) ∧ w'.cell? ⟨g, o + 3, none⟩ = some (.bool x.must) ∧ w'.cell? ⟨g, o + 4, none⟩ = some (.int .i64 x.most) ∧ w'.cell? ⟨g, o + 5, none⟩ = some (.slice ax x.kids.length cx) ∧ w'.cell? ⟨g2, o2, none⟩ = some (.int .i64 y.kind) ∧ w'.cell? ⟨g2, o2 + 1, none⟩ = some (.string y.name) ∧ w'.cell? ⟨g2, o2 + 2, none⟩ = some (.int .i64 y.no) ∧ w'.cell? ⟨g2, o2 + 3, none⟩ = some (.bool y.must) ∧ w'.cell? ⟨g2, o2 + 4, none⟩ = some (.int .i64 y.most) ∧ w'.cell? ⟨g2, o2 + 5, none⟩ = some (.slice ay y.kids.length cy))
          (first
            | with_reducible exact hSd
            | with_reducible exact HF.out _ HBe.out
            | with_reducible exact hS6
            | with_reducible exact HF.out _ (hb36.alloc hsz36 _)
            | with_reducible exact HF.out _ ((((((hb36.setCell (p := ⟨W5.heap.size, 0, none⟩) HSZ.out _).setCell (p := ⟨W5.heap.size, 1, none⟩) HSZ.out _).setCell (p := ⟨W5.heap.size, 2, none⟩) HSZ.out _).setCell (p := ⟨W5.heap.size, 3, none⟩) HSZ.out _).setCell (p := ⟨W5.heap.size, 4, none⟩) HSZ.out _).setCell (p := ⟨W5.heap.size, 5, none⟩) HSZ.out _)
            | go_keep)
          (first
            | (go_at_call 46; refine (HIC.out _ hBwd2.out).mono ?_; rintro e w6 ⟨⟨z, az, lz, cz, ok, rfl, hj⟩, hb6⟩; obtain ⟨⟨q0, q1, q2, q3, q4, q5⟩, ⟨p0, p1, p2, p3, p4, p5⟩⟩ := lcut_six hb6; have hzb := lcut_lt hb6; have hb36 : Below (w.heap.size + 3) W3 w6 := HBe.out.trans (hb6.mono (by have h := HSZ.out; show w.heap.size + 3 ≤ (W5.alloc zer).heap.size; simp; omega)); have hsz36 : w.heap.size + 3 ≤ w6.heap.size := (by have h := HSZ.out; omega); have hS6 := HF.out _ hb36)
            | (go_at_call 46; refine (HIC.out _ hBwd.out).mono ?_; rintro e w6 ⟨⟨z, az, lz, cz, ok, rfl, hj⟩, hb6⟩; have hb36 : Below (w.heap.size + 3) W3 w6 := HBd.out.trans (hb6.mono HSZ.out); have hsz36 : w.heap.size + 3 ≤ w6.heap.size := (by have h := HSZ.out; have h2 : W5.heap.size ≤ w6.heap.size := hb6.size; omega); have hS6 := HF.out _ hb36))
        all_goals
          go_wp2_with fail
          go_meet
          first
          | with_reducible exact mlcut_B hW50 HS.out hb6 hj
          | with_reducible exact mlcut_A hW50 HS.out hb6 hj
          | exact mlcut_A hW50 HS.out hb6 hj
      case rest =>
        obtain ⟨z, az, lz, cz, zb, ok, rfl, rfl, hzn, hz1, hz2, hb6, hj⟩ := hcut
        clear a5 b5 c0 c1 c2 c3 c4 c5 e0 e1 e2 e3 e4 e5
        have h36 : Below (w.heap.size + 3) W3 wc := hb35.trans (hb6.mono (by have h := hb35.size; have h2 := HS3.out; omega))
        obtain ⟨⟨_, _, ⟨⟨y0, y1, y2, y3, y4, y5⟩, ⟨z0, z1, z2, z3, z4, z5⟩⟩⟩, hB6, hr6⟩ := HC3.out _ h36
        have h5 := HS5.out
        have hs6 : w4.heap.size < wc.heap.size := by have := hb6.size; omega
        obtain ⟨⟨q0, q1, q2, q3, q4, q5⟩, ⟨p0, p1, p2, p3, p4, p5⟩⟩ := SX5.out.kept (hb6.block _ (by omega))
        obtain ⟨d0, d1, d2, d3, d4, d5⟩ := hzn
        rw [Nat.zero_add] at d1 d2 d3 d4 d5
        have hle : w.heap.size ≤ w.heap.size + 1 + 1 := by omega
        have hne : w.heap.size + 1 + 1 < w4.heap.size := HS2.out
        have HW5 : Hid (W5.heap.size = w4.heap.size + 1) := h5
        clear h5 hb34 hb35 hb45 SX5 HC3 HJN
        clear HIC hBwd hBwd2
        go_upto_region 10 with fail
        obtain ⟨W10, hW10⟩ : ∃ W, W = (wc.setCell ⟨w4.heap.size, 5, none⟩ (.slice (some ⟨wc.heap.size, 0, none⟩) 1 1)).alloc (.cells #[.int .i64 z.kind, .string z.name, .int .i64 z.no, .bool z.must, .int .i64 z.most, .slice az lz cz] 75) := ⟨_, rfl⟩
        have hB10 : Below w.heap.size w W10 := by rw [hW10]; exact (hB6.setCell (p := ⟨w4.heap.size, 5, none⟩) (by show w.heap.size ≤ w4.heap.size; omega) _).alloc (by have := hB6.size; simp; omega) _
        have HBLK : Hid (∀ g, g < wc.heap.size → g ≠ w4.heap.size → W10.heap[g]? = wc.heap[g]?) := fun g h1 h2 => by
          rw [hW10, Below.heap_alloc _ _ _ (by simp; omega), Below.heap_setCell _ _ _ _ (by show g ≠ w4.heap.size; omega)]
        have HS10 : Hid (W10.heap.size = wc.heap.size + 1) := by show _ = _; rw [hW10]; simp
        have HZ10 : Hid (NdIn W10 wc.heap.size 0 z (.slice az lz cz)) := by
          show NdIn _ _ _ _ _
          have hw : (wc.setCell ⟨w4.heap.size, 5, none⟩ (.slice (some ⟨wc.heap.size, 0, none⟩) 1 1)).heap.size = wc.heap.size := by simp
          rw [hW10, ← hw]
          exact ⟨by go_simp, by go_simp, by go_simp, by go_simp, by go_simp, by go_simp⟩
        have Q10 : Six W10 w4.heap.size (.int .i64 4) (.string na) (.int .i64 noa) (.bool true) (.int .i64 moa) (.slice (some ⟨wc.heap.size, 0, none⟩) 1 1) := by
          have h0 : Six (wc.setCell ⟨w4.heap.size, 5, none⟩ (.slice (some ⟨wc.heap.size, 0, none⟩) 1 1)) w4.heap.size (.int .i64 4) (.string na) (.int .i64 noa) (.bool true) (.int .i64 moa) (.slice (some ⟨wc.heap.size, 0, none⟩) 1 1) := by
            have ne : ∀ j : Nat, 5 ≠ j → (⟨w4.heap.size, 5, none⟩ : Addr) ≠ ⟨w4.heap.size, j, none⟩ := fun j h e => h (congrArg Addr.off e)
            exact ⟨⟨(World.cell?_setCell_other _ _ _ _ (ne 0 (by omega))).trans q0, (World.cell?_setCell_other _ _ _ _ (ne 1 (by omega))).trans q1, (World.cell?_setCell_other _ _ _ _ (ne 2 (by omega))).trans q2, (World.cell?_setCell_other _ _ _ _ (ne 3 (by omega))).trans q3, (World.cell?_setCell_other _ _ _ _ (ne 4 (by omega))).trans q4, World.cell?_setCell_same _ _ _ q5⟩, by rw [World.frozen?_setCell]; exact p0, by rw [World.frozen?_setCell]; exact p1, by rw [World.frozen?_setCell]; exact p2, by rw [World.frozen?_setCell]; exact p3, by rw [World.frozen?_setCell]; exact p4, by rw [World.frozen?_setCell]; exact p5⟩
          rw [hW10]
          exact h0.kept (Below.heap_alloc _ _ _ (by simp; omega))
        have Y10 : Six W10 (w.heap.size + 1 + 1) (.int .i64 0) (.string ⟨#[]⟩) (.int .i64 0) (.bool false) (.int .i64 0) (.slice none 0 0) := Six.kept (w := wc) ⟨⟨y0, y1, y2, y3, y4, y5⟩, z0, z1, z2, z3, z4, z5⟩ (HBLK.out _ hr6 (by omega))
        rw [← hW10]
        clear hW10 q0 q1 q2 q3 q4 q5 p0 p1 p2 p3 p4 p5 y0 y1 y2 y3 y4 y5 z0 z1 z2 z3 z4 z5 d0 d1 d2 d3 d4 d5
        obtain ⟨⟨q0, q1, q2, q3, q4, q5⟩, _⟩ := Q10
        obtain ⟨⟨y0, y1, y2, y3, y4, y5⟩, ⟨z0, z1, z2, z3, z4, z5⟩⟩ := Y10
        go_wp2
        (try simp only [Exit.inBlock, Exit.then])
        have hBs := (((((hB10.setCell (p := ⟨w.heap.size + 1 + 1, 0, none⟩) hle (.int .i64 4)).setCell (p := ⟨w.heap.size + 1 + 1, 1, none⟩) hle (.string na)).setCell (p := ⟨w.heap.size + 1 + 1, 2, none⟩) hle (.int .i64 noa)).setCell (p := ⟨w.heap.size + 1 + 1, 3, none⟩) hle (.bool true)).setCell (p := ⟨w.heap.size + 1 + 1, 4, none⟩) hle (.int .i64 moa)).setCell (p := ⟨w.heap.size + 1 + 1, 5, none⟩) hle (.slice (some ⟨wc.heap.size, 0, none⟩) 1 1)
        refine bodyPost_ret (v := .tuple #[.agg #[.int .i64 4, .string na, .int .i64 noa, .bool true, .int .i64 moa, .slice (some ⟨wc.heap.size, 0, none⟩) 1 1], .bool ok]) ?_ rfl ⟨?_, hBs⟩
        · rw [results_cell_tmp rfl]
          go_simp
        · have h10 := HS10.out
          have hsw := hB6.size
          rcases hj with ⟨rfl, hz, hkz⟩ | ⟨rfl, hz⟩
          · refine .inl ⟨z, some ⟨wc.heap.size, 0, none⟩, 1, 1, hz, by rw [HJ.out] <;> rfl, kid_one (c := .slice az lz cz) (HZ10.out.kept ?_) ?_ ?_⟩
            · repeat rw [Below.heap_setCell _ _ _ _ (by show wc.heap.size ≠ w.heap.size + 1 + 1; omega)]
            · exact ⟨.inr (by omega), by simp; omega⟩
            · refine hkz.kept (fun g hg => ?_) (fun g hg => ?_)
              · have hg2 : g < wc.heap.size := hg.2
                have hgn : g ≠ w4.heap.size ∧ g ≠ w.heap.size + 1 + 1 := by
                  have h5 := HW5.out
                  rcases hg.1 with h | h
                  · have := HS.out g h; omega
                  · omega
                repeat rw [Below.heap_setCell _ _ _ _ (by show g ≠ w.heap.size + 1 + 1; omega)]
                exact HBLK.out g hg2 hgn.1
              · refine ⟨?_, by have := hg.2; simp; omega⟩
                rcases hg.1 with h | h
                · exact .inl h
                · exact .inr (by omega)
          · exact .inr ⟨hz, .mk 4 na noa true moa [], some ⟨wc.heap.size, 0, none⟩, 1, 1, rfl⟩
  | false =>
    rw [hm] at a3
    by_cases hl : mob < moa
    · have hl' : decide (mob < moa) = true := by simpa using hl
      obtain ⟨W5, hW5⟩ : ∃ W, W = w4.alloc (.cells #[.int .i64 4, .string na, .int .i64 noa, .bool mub, .int .i64 mob, .slice none 0 0] 75) := ⟨_, rfl⟩
      have hb45 : Below w4.heap.size w4 W5 := by rw [hW5]; exact (Below.refl _ w4).alloc (Nat.le_refl _) _
      have HS5 : Hid (W5.heap.size = w4.heap.size + 1) := by show _ = _; rw [hW5]; simp
      have SX5 : Hid (Six W5 w4.heap.size (.int .i64 4) (.string na) (.int .i64 noa) (.bool mub) (.int .i64 mob) (.slice none 0 0)) := by
        show Six _ _ _ _ _ _ _ _
        rw [hW5]
        exact ⟨⟨by go_simp, by go_simp, by go_simp, by go_simp, by go_simp, by go_simp⟩, by go_simp, by go_simp, by go_simp, by go_simp, by go_simp, by go_simp⟩
      have HJ : Hid (∀ ks, mn (.mk 4 na noa mua moa kia) (.mk 4 nb nob mub mob kib) ks = .mk 4 na noa mub mob ks) := fun ks => by rw [HJN.out]; congr 1 <;> first | rfl | (rw [hm]; rfl) | (first | exact if_pos hl | exact if_neg hl)
      clear hl
      go_upto_region 8 with fail
      rw [← hW5]
      clear hW5
      have hb35 : Below (w.heap.size + 3) W3 W5 := hb34.trans (hb45.mono (by have h := hb34.size; have h2 := HS3.out; omega))
      clear a0 a1 a2 a3 a4 a5 b0 b1 b2 b3 b4 b5 hBw hsw
      obtain ⟨⟨⟨⟨_, _, _, _, _, a5⟩, _⟩, ⟨⟨_, _, _, _, _, b5⟩, _⟩, _⟩, hBw, _⟩ := HC3.out _ hb35
      obtain ⟨c0, c1, c2, c3, c4, c5⟩ := hnd.kept (hBw.block g hg)
      obtain ⟨e0, e1, e2, e3, e4, e5⟩ := hnd2.kept (hBw.block g2 hg2)
      have hBwd : Hid (Below w.heap.size w W5.drew) := hBw.drew
      have hBwd2 : Hid (Below w.heap.size w (W5.alloc (.cells #[.int .i64 0, .string ⟨#[]⟩, .int .i64 0, .bool false, .int .i64 0, .slice none 0 0] 75)).drew) := (hBw.alloc hBw.size _).drew
      have hW50 : w.heap.size ≤ W5.heap.size := hBw.size
      have hgW5 : g < W5.heap.size := by omega
      have hg2W5 : g2 < W5.heap.size := by omega
      have hw0W5 : w.heap.size < W5.heap.size := by have := hb45.size; omega
      have hw1W5 : w.heap.size + 1 < W5.heap.size := by have := hb45.size; omega
      go_cut [7, 8] from 45 to 56 (fun s7 s8 wx => MLCut D x y S W5 s7 s8 wx)
      case first =>
        have HF : Hid (∀ W : World, Below (w.heap.size + 3) W3 W → W.cell? ⟨w.heap.size, 5, none⟩ = some (.slice (some ⟨g, o, none⟩) la' ca) ∧ W.cell? ⟨w.heap.size + 1, 5, none⟩ = some (.slice (some ⟨g2, o2, none⟩) lb' cb) ∧ W.cell? ⟨g, o, none⟩ = some (.int .i64 x.kind) ∧ W.cell? ⟨g, o + 1, none⟩ = some (.string x.name) ∧ W.cell? ⟨g, o + 2, none⟩ = some (.int .i64 x.no) ∧ W.cell? ⟨g, o + 3, none⟩ = some (.bool x.must) ∧ W.cell? ⟨g, o + 4, none⟩ = some (.int .i64 x.most) ∧ W.cell? ⟨g, o + 5, none⟩ = some (.slice ax x.kids.length cx) ∧ W.cell? ⟨g2, o2, none⟩ = some (.int .i64 y.kind) ∧ W.cell? ⟨g2, o2 + 1, none⟩ = some (.string y.name) ∧ W.cell? ⟨g2, o2 + 2, none⟩ = some (.int .i64 y.no) ∧ W.cell? ⟨g2, o2 + 3, none⟩ = some (.bool y.must) ∧ W.cell? ⟨g2, o2 + 4, none⟩ = some (.int .i64 y.most) ∧ W.cell? ⟨g2, o2 + 5, none⟩ = some (.slice ay y.kids.length cy)) := fun W hW => by
          have hq := HC3.out _ hW
          have h1 := hnd.kept (hq.2.1.block g hg)
          have h2 := hnd2.kept (hq.2.1.block g2 hg2)
          exact ⟨hq.1.1.1.2.2.2.2.2, hq.1.2.1.1.2.2.2.2.2, h1.1, h1.2.1, h1.2.2.1, h1.2.2.2.1, h1.2.2.2.2.1, h1.2.2.2.2.2, h2.1, h2.2.1, h2.2.2.1, h2.2.2.2.1, h2.2.2.2.2.1, h2.2.2.2.2.2⟩
        have HBd : Hid (Below (w.heap.size + 3) W3 W5.drew) := hb35.drew
        have HBe : Hid (Below (w.heap.size + 3) W3 (W5.alloc zer).drew) := (hb35.alloc (by have h := hb35.size; have h2 := HS3.out; omega) zer).drew
        have HSZ : Hid (w.heap.size + 3 ≤ W5.heap.size) := by have h := hb35.size; have h2 := HS3.out; show _ ≤ _; omega
        have hSd := HF.out _ HBd.out
        clear hb34 hb35 hb45 SX5 HC3 HJN hnd hnd2
        have hp1 : 0 < la' := by omega
        have hp2 : 0 < lb' := by omega
        have hp1' : (0 : Int) < (la' : Int) := by omega
        have hp2' : (0 : Int) < (lb' : Int) := by omega
        go_region_held3 (fun w' => w'.cell? ⟨w.heap.size, 5, none⟩ = some (.slice (some ⟨g, o, none⟩) la' ca) ∧ w'.cell? ⟨w.heap.size + 1, 5, none⟩ = some (.slice (some ⟨g2, o2, none⟩) lb' cb) ∧ w'.cell? ⟨g, o, none⟩ = some (.int .i64 x.kind) ∧ w'.cell? ⟨g, o + 1, none⟩ = some (.string x.name) ∧ w'.cell? ⟨g, o + 2, none⟩ = some (.int .i64 x.no) ∧ w'.cell? ⟨g, o + 3, none⟩ = some (.bool x.must) ∧ w'.cell? ⟨g, o + 4, none⟩ = some (.int .i64 x.most) ∧ w'.cell? ⟨g, o + 5, none⟩ = some (.slice ax x.kids.length cx) ∧ w'.cell? ⟨g2, o2, none⟩ = some (.int .i64 y.kind) ∧ w'.cell? ⟨g2, o2 + 1, none⟩ = some (.string y.name) ∧ w'.cell? ⟨g2, o2 + 2, none⟩ = some (.int .i64 y.no) ∧ w'.cell? ⟨g2, o2 + 3, none⟩ = some (.bool y.must) ∧ w'.cell? ⟨g2, o2 + 4, none⟩ = some (.int .i64 y.most) ∧ w'.cell? ⟨g2, o2 + 5, none⟩ = some (.slice ay y.kids.length cy))
          (first
            | with_reducible exact hSd
            | with_reducible exact HF.out _ HBe.out
            | with_reducible exact hS6
            | with_reducible exact HF.out _ (hb36.alloc hsz36 _)
            | with_reducible exact HF.out _ ((((((hb36.setCell (p := ⟨W5.heap.size, 0, none⟩) HSZ.out _).setCell (p := ⟨W5.heap.size, 1, none⟩) HSZ.out _).setCell (p := ⟨W5.heap.size, 2, none⟩) HSZ.out _).setCell (p := ⟨W5.heap.size, 3, none⟩) HSZ.out _).setCell (p := ⟨W5.heap.size, 4, none⟩) HSZ.out _).setCell (p := ⟨W5.heap.size, 5, none⟩) HSZ.out _)
            | go_keep)
          (first
            | (go_at_call 46; refine (HIC.out _ hBwd2.out).mono ?_; rintro e w6 ⟨⟨z, az, lz, cz, ok, rfl, hj⟩, hb6⟩; obtain ⟨⟨q0, q1, q2, q3, q4, q5⟩, ⟨p0, p1, p2, p3, p4, p5⟩⟩ := lcut_six hb6; have hzb := lcut_lt hb6; have hb36 : Below (w.heap.size + 3) W3 w6 := HBe.out.trans (hb6.mono (by have h := HSZ.out; show w.heap.size + 3 ≤ (W5.alloc zer).heap.size; simp; omega)); have hsz36 : w.heap.size + 3 ≤ w6.heap.size := (by have h := HSZ.out; omega); have hS6 := HF.out _ hb36)
            | (go_at_call 46; refine (HIC.out _ hBwd.out).mono ?_; rintro e w6 ⟨⟨z, az, lz, cz, ok, rfl, hj⟩, hb6⟩; have hb36 : Below (w.heap.size + 3) W3 w6 := HBd.out.trans (hb6.mono HSZ.out); have hsz36 : w.heap.size + 3 ≤ w6.heap.size := (by have h := HSZ.out; have h2 : W5.heap.size ≤ w6.heap.size := hb6.size; omega); have hS6 := HF.out _ hb36))
        all_goals
          go_wp2_with fail
          go_meet
          first
          | with_reducible exact mlcut_B hW50 HS.out hb6 hj
          | with_reducible exact mlcut_A hW50 HS.out hb6 hj
          | exact mlcut_A hW50 HS.out hb6 hj
      case rest =>
        obtain ⟨z, az, lz, cz, zb, ok, rfl, rfl, hzn, hz1, hz2, hb6, hj⟩ := hcut
        clear a5 b5 c0 c1 c2 c3 c4 c5 e0 e1 e2 e3 e4 e5
        have h36 : Below (w.heap.size + 3) W3 wc := hb35.trans (hb6.mono (by have h := hb35.size; have h2 := HS3.out; omega))
        obtain ⟨⟨_, _, ⟨⟨y0, y1, y2, y3, y4, y5⟩, ⟨z0, z1, z2, z3, z4, z5⟩⟩⟩, hB6, hr6⟩ := HC3.out _ h36
        have h5 := HS5.out
        have hs6 : w4.heap.size < wc.heap.size := by have := hb6.size; omega
        obtain ⟨⟨q0, q1, q2, q3, q4, q5⟩, ⟨p0, p1, p2, p3, p4, p5⟩⟩ := SX5.out.kept (hb6.block _ (by omega))
        obtain ⟨d0, d1, d2, d3, d4, d5⟩ := hzn
        rw [Nat.zero_add] at d1 d2 d3 d4 d5
        have hle : w.heap.size ≤ w.heap.size + 1 + 1 := by omega
        have hne : w.heap.size + 1 + 1 < w4.heap.size := HS2.out
        have HW5 : Hid (W5.heap.size = w4.heap.size + 1) := h5
        clear h5 hb34 hb35 hb45 SX5 HC3 HJN
        clear HIC hBwd hBwd2
        go_upto_region 10 with fail
        obtain ⟨W10, hW10⟩ : ∃ W, W = (wc.setCell ⟨w4.heap.size, 5, none⟩ (.slice (some ⟨wc.heap.size, 0, none⟩) 1 1)).alloc (.cells #[.int .i64 z.kind, .string z.name, .int .i64 z.no, .bool z.must, .int .i64 z.most, .slice az lz cz] 75) := ⟨_, rfl⟩
        have hB10 : Below w.heap.size w W10 := by rw [hW10]; exact (hB6.setCell (p := ⟨w4.heap.size, 5, none⟩) (by show w.heap.size ≤ w4.heap.size; omega) _).alloc (by have := hB6.size; simp; omega) _
        have HBLK : Hid (∀ g, g < wc.heap.size → g ≠ w4.heap.size → W10.heap[g]? = wc.heap[g]?) := fun g h1 h2 => by
          rw [hW10, Below.heap_alloc _ _ _ (by simp; omega), Below.heap_setCell _ _ _ _ (by show g ≠ w4.heap.size; omega)]
        have HS10 : Hid (W10.heap.size = wc.heap.size + 1) := by show _ = _; rw [hW10]; simp
        have HZ10 : Hid (NdIn W10 wc.heap.size 0 z (.slice az lz cz)) := by
          show NdIn _ _ _ _ _
          have hw : (wc.setCell ⟨w4.heap.size, 5, none⟩ (.slice (some ⟨wc.heap.size, 0, none⟩) 1 1)).heap.size = wc.heap.size := by simp
          rw [hW10, ← hw]
          exact ⟨by go_simp, by go_simp, by go_simp, by go_simp, by go_simp, by go_simp⟩
        have Q10 : Six W10 w4.heap.size (.int .i64 4) (.string na) (.int .i64 noa) (.bool mub) (.int .i64 mob) (.slice (some ⟨wc.heap.size, 0, none⟩) 1 1) := by
          have h0 : Six (wc.setCell ⟨w4.heap.size, 5, none⟩ (.slice (some ⟨wc.heap.size, 0, none⟩) 1 1)) w4.heap.size (.int .i64 4) (.string na) (.int .i64 noa) (.bool mub) (.int .i64 mob) (.slice (some ⟨wc.heap.size, 0, none⟩) 1 1) := by
            have ne : ∀ j : Nat, 5 ≠ j → (⟨w4.heap.size, 5, none⟩ : Addr) ≠ ⟨w4.heap.size, j, none⟩ := fun j h e => h (congrArg Addr.off e)
            exact ⟨⟨(World.cell?_setCell_other _ _ _ _ (ne 0 (by omega))).trans q0, (World.cell?_setCell_other _ _ _ _ (ne 1 (by omega))).trans q1, (World.cell?_setCell_other _ _ _ _ (ne 2 (by omega))).trans q2, (World.cell?_setCell_other _ _ _ _ (ne 3 (by omega))).trans q3, (World.cell?_setCell_other _ _ _ _ (ne 4 (by omega))).trans q4, World.cell?_setCell_same _ _ _ q5⟩, by rw [World.frozen?_setCell]; exact p0, by rw [World.frozen?_setCell]; exact p1, by rw [World.frozen?_setCell]; exact p2, by rw [World.frozen?_setCell]; exact p3, by rw [World.frozen?_setCell]; exact p4, by rw [World.frozen?_setCell]; exact p5⟩
          rw [hW10]
          exact h0.kept (Below.heap_alloc _ _ _ (by simp; omega))
        have Y10 : Six W10 (w.heap.size + 1 + 1) (.int .i64 0) (.string ⟨#[]⟩) (.int .i64 0) (.bool false) (.int .i64 0) (.slice none 0 0) := Six.kept (w := wc) ⟨⟨y0, y1, y2, y3, y4, y5⟩, z0, z1, z2, z3, z4, z5⟩ (HBLK.out _ hr6 (by omega))
        rw [← hW10]
        clear hW10 q0 q1 q2 q3 q4 q5 p0 p1 p2 p3 p4 p5 y0 y1 y2 y3 y4 y5 z0 z1 z2 z3 z4 z5 d0 d1 d2 d3 d4 d5
        obtain ⟨⟨q0, q1, q2, q3, q4, q5⟩, _⟩ := Q10
        obtain ⟨⟨y0, y1, y2, y3, y4, y5⟩, ⟨z0, z1, z2, z3, z4, z5⟩⟩ := Y10
        go_wp2
        (try simp only [Exit.inBlock, Exit.then])
        have hBs := (((((hB10.setCell (p := ⟨w.heap.size + 1 + 1, 0, none⟩) hle (.int .i64 4)).setCell (p := ⟨w.heap.size + 1 + 1, 1, none⟩) hle (.string na)).setCell (p := ⟨w.heap.size + 1 + 1, 2, none⟩) hle (.int .i64 noa)).setCell (p := ⟨w.heap.size + 1 + 1, 3, none⟩) hle (.bool mub)).setCell (p := ⟨w.heap.size + 1 + 1, 4, none⟩) hle (.int .i64 mob)).setCell (p := ⟨w.heap.size + 1 + 1, 5, none⟩) hle (.slice (some ⟨wc.heap.size, 0, none⟩) 1 1)
        refine bodyPost_ret (v := .tuple #[.agg #[.int .i64 4, .string na, .int .i64 noa, .bool mub, .int .i64 mob, .slice (some ⟨wc.heap.size, 0, none⟩) 1 1], .bool ok]) ?_ rfl ⟨?_, hBs⟩
        · rw [results_cell_tmp rfl]
          go_simp
        · have h10 := HS10.out
          have hsw := hB6.size
          rcases hj with ⟨rfl, hz, hkz⟩ | ⟨rfl, hz⟩
          · refine .inl ⟨z, some ⟨wc.heap.size, 0, none⟩, 1, 1, hz, by rw [HJ.out] <;> rfl, kid_one (c := .slice az lz cz) (HZ10.out.kept ?_) ?_ ?_⟩
            · repeat rw [Below.heap_setCell _ _ _ _ (by show wc.heap.size ≠ w.heap.size + 1 + 1; omega)]
            · exact ⟨.inr (by omega), by simp; omega⟩
            · refine hkz.kept (fun g hg => ?_) (fun g hg => ?_)
              · have hg2 : g < wc.heap.size := hg.2
                have hgn : g ≠ w4.heap.size ∧ g ≠ w.heap.size + 1 + 1 := by
                  have h5 := HW5.out
                  rcases hg.1 with h | h
                  · have := HS.out g h; omega
                  · omega
                repeat rw [Below.heap_setCell _ _ _ _ (by show g ≠ w.heap.size + 1 + 1; omega)]
                exact HBLK.out g hg2 hgn.1
              · refine ⟨?_, by have := hg.2; simp; omega⟩
                rcases hg.1 with h | h
                · exact .inl h
                · exact .inr (by omega)
          · exact .inr ⟨hz, .mk 4 na noa mub mob [], some ⟨wc.heap.size, 0, none⟩, 1, 1, rfl⟩
    · have hl' : decide (mob < moa) = false := by simpa using hl
      obtain ⟨W5, hW5⟩ : ∃ W, W = w4.alloc (.cells #[.int .i64 4, .string na, .int .i64 noa, .bool mub, .int .i64 moa, .slice none 0 0] 75) := ⟨_, rfl⟩
      have hb45 : Below w4.heap.size w4 W5 := by rw [hW5]; exact (Below.refl _ w4).alloc (Nat.le_refl _) _
      have HS5 : Hid (W5.heap.size = w4.heap.size + 1) := by show _ = _; rw [hW5]; simp
      have SX5 : Hid (Six W5 w4.heap.size (.int .i64 4) (.string na) (.int .i64 noa) (.bool mub) (.int .i64 moa) (.slice none 0 0)) := by
        show Six _ _ _ _ _ _ _ _
        rw [hW5]
        exact ⟨⟨by go_simp, by go_simp, by go_simp, by go_simp, by go_simp, by go_simp⟩, by go_simp, by go_simp, by go_simp, by go_simp, by go_simp, by go_simp⟩
      have HJ : Hid (∀ ks, mn (.mk 4 na noa mua moa kia) (.mk 4 nb nob mub mob kib) ks = .mk 4 na noa mub moa ks) := fun ks => by rw [HJN.out]; congr 1 <;> first | rfl | (rw [hm]; rfl) | (first | exact if_pos hl | exact if_neg hl)
      clear hl
      go_upto_region 8 with fail
      rw [← hW5]
      clear hW5
      have hb35 : Below (w.heap.size + 3) W3 W5 := hb34.trans (hb45.mono (by have h := hb34.size; have h2 := HS3.out; omega))
      clear a0 a1 a2 a3 a4 a5 b0 b1 b2 b3 b4 b5 hBw hsw
      obtain ⟨⟨⟨⟨_, _, _, _, _, a5⟩, _⟩, ⟨⟨_, _, _, _, _, b5⟩, _⟩, _⟩, hBw, _⟩ := HC3.out _ hb35
      obtain ⟨c0, c1, c2, c3, c4, c5⟩ := hnd.kept (hBw.block g hg)
      obtain ⟨e0, e1, e2, e3, e4, e5⟩ := hnd2.kept (hBw.block g2 hg2)
      have hBwd : Hid (Below w.heap.size w W5.drew) := hBw.drew
      have hBwd2 : Hid (Below w.heap.size w (W5.alloc (.cells #[.int .i64 0, .string ⟨#[]⟩, .int .i64 0, .bool false, .int .i64 0, .slice none 0 0] 75)).drew) := (hBw.alloc hBw.size _).drew
      have hW50 : w.heap.size ≤ W5.heap.size := hBw.size
      have hgW5 : g < W5.heap.size := by omega
      have hg2W5 : g2 < W5.heap.size := by omega
      have hw0W5 : w.heap.size < W5.heap.size := by have := hb45.size; omega
      have hw1W5 : w.heap.size + 1 < W5.heap.size := by have := hb45.size; omega
      go_cut [7, 8] from 45 to 56 (fun s7 s8 wx => MLCut D x y S W5 s7 s8 wx)
      case first =>
        have HF : Hid (∀ W : World, Below (w.heap.size + 3) W3 W → W.cell? ⟨w.heap.size, 5, none⟩ = some (.slice (some ⟨g, o, none⟩) la' ca) ∧ W.cell? ⟨w.heap.size + 1, 5, none⟩ = some (.slice (some ⟨g2, o2, none⟩) lb' cb) ∧ W.cell? ⟨g, o, none⟩ = some (.int .i64 x.kind) ∧ W.cell? ⟨g, o + 1, none⟩ = some (.string x.name) ∧ W.cell? ⟨g, o + 2, none⟩ = some (.int .i64 x.no) ∧ W.cell? ⟨g, o + 3, none⟩ = some (.bool x.must) ∧ W.cell? ⟨g, o + 4, none⟩ = some (.int .i64 x.most) ∧ W.cell? ⟨g, o + 5, none⟩ = some (.slice ax x.kids.length cx) ∧ W.cell? ⟨g2, o2, none⟩ = some (.int .i64 y.kind) ∧ W.cell? ⟨g2, o2 + 1, none⟩ = some (.string y.name) ∧ W.cell? ⟨g2, o2 + 2, none⟩ = some (.int .i64 y.no) ∧ W.cell? ⟨g2, o2 + 3, none⟩ = some (.bool y.must) ∧ W.cell? ⟨g2, o2 + 4, none⟩ = some (.int .i64 y.most) ∧ W.cell? ⟨g2, o2 + 5, none⟩ = some (.slice ay y.kids.length cy)) := fun W hW => by
          have hq := HC3.out _ hW
          have h1 := hnd.kept (hq.2.1.block g hg)
          have h2 := hnd2.kept (hq.2.1.block g2 hg2)
          exact ⟨hq.1.1.1.2.2.2.2.2, hq.1.2.1.1.2.2.2.2.2, h1.1, h1.2.1, h1.2.2.1, h1.2.2.2.1, h1.2.2.2.2.1, h1.2.2.2.2.2, h2.1, h2.2.1, h2.2.2.1, h2.2.2.2.1, h2.2.2.2.2.1, h2.2.2.2.2.2⟩
        have HBd : Hid (Below (w.heap.size + 3) W3 W5.drew) := hb35.drew
        have HBe : Hid (Below (w.heap.size + 3) W3 (W5.alloc zer).drew) := (hb35.alloc (by have h := hb35.size; have h2 := HS3.out; omega) zer).drew
        have HSZ : Hid (w.heap.size + 3 ≤ W5.heap.size) := by have h := hb35.size; have h2 := HS3.out; show _ ≤ _; omega
        have hSd := HF.out _ HBd.out
        clear hb34 hb35 hb45 SX5 HC3 HJN hnd hnd2
        have hp1 : 0 < la' := by omega
        have hp2 : 0 < lb' := by omega
        have hp1' : (0 : Int) < (la' : Int) := by omega
        have hp2' : (0 : Int) < (lb' : Int) := by omega
        go_region_held3 (fun w' => w'.cell? ⟨w.heap.size, 5, none⟩ = some (.slice (some ⟨g, o, none⟩) la' ca) ∧ w'.cell? ⟨w.heap.size + 1, 5, none⟩ = some (.slice (some ⟨g2, o2, none⟩) lb' cb) ∧ w'.cell? ⟨g, o, none⟩ = some (.int .i64 x.kind) ∧ w'.cell? ⟨g, o + 1, none⟩ = some (.string x.name) ∧ w'.cell? ⟨g, o + 2, none⟩ = some (.int .i64 x.no) ∧ w'.cell? ⟨g, o + 3, none⟩ = some (.bool x.must) ∧ w'.cell? ⟨g, o + 4, none⟩ = some (.int .i64 x.most) ∧ w'.cell? ⟨g, o + 5, none⟩ = some (.slice ax x.kids.length cx) ∧ w'.cell? ⟨g2, o2, none⟩ = some (.int .i64 y.kind) ∧ w'.cell? ⟨g2, o2 + 1, none⟩ = some (.string y.name) ∧ w'.cell? ⟨g2, o2 + 2, none⟩ = some (.int .i64 y.no) ∧ w'.cell? ⟨g2, o2 + 3, none⟩ = some (.bool y.must) ∧ w'.cell? ⟨g2, o2 + 4, none⟩ = some (.int .i64 y.most) ∧ w'.cell? ⟨g2, o2 + 5, none⟩ = some (.slice ay y.kids.length cy))
          (first
            | with_reducible exact hSd
            | with_reducible exact HF.out _ HBe.out
            | with_reducible exact hS6
            | with_reducible exact HF.out _ (hb36.alloc hsz36 _)
            | with_reducible exact HF.out _ ((((((hb36.setCell (p := ⟨W5.heap.size, 0, none⟩) HSZ.out _).setCell (p := ⟨W5.heap.size, 1, none⟩) HSZ.out _).setCell (p := ⟨W5.heap.size, 2, none⟩) HSZ.out _).setCell (p := ⟨W5.heap.size, 3, none⟩) HSZ.out _).setCell (p := ⟨W5.heap.size, 4, none⟩) HSZ.out _).setCell (p := ⟨W5.heap.size, 5, none⟩) HSZ.out _)
            | go_keep)
          (first
            | (go_at_call 46; refine (HIC.out _ hBwd2.out).mono ?_; rintro e w6 ⟨⟨z, az, lz, cz, ok, rfl, hj⟩, hb6⟩; obtain ⟨⟨q0, q1, q2, q3, q4, q5⟩, ⟨p0, p1, p2, p3, p4, p5⟩⟩ := lcut_six hb6; have hzb := lcut_lt hb6; have hb36 : Below (w.heap.size + 3) W3 w6 := HBe.out.trans (hb6.mono (by have h := HSZ.out; show w.heap.size + 3 ≤ (W5.alloc zer).heap.size; simp; omega)); have hsz36 : w.heap.size + 3 ≤ w6.heap.size := (by have h := HSZ.out; omega); have hS6 := HF.out _ hb36)
            | (go_at_call 46; refine (HIC.out _ hBwd.out).mono ?_; rintro e w6 ⟨⟨z, az, lz, cz, ok, rfl, hj⟩, hb6⟩; have hb36 : Below (w.heap.size + 3) W3 w6 := HBd.out.trans (hb6.mono HSZ.out); have hsz36 : w.heap.size + 3 ≤ w6.heap.size := (by have h := HSZ.out; have h2 : W5.heap.size ≤ w6.heap.size := hb6.size; omega); have hS6 := HF.out _ hb36))
        all_goals
          go_wp2_with fail
          go_meet
          first
          | with_reducible exact mlcut_B hW50 HS.out hb6 hj
          | with_reducible exact mlcut_A hW50 HS.out hb6 hj
          | exact mlcut_A hW50 HS.out hb6 hj
      case rest =>
        obtain ⟨z, az, lz, cz, zb, ok, rfl, rfl, hzn, hz1, hz2, hb6, hj⟩ := hcut
        clear a5 b5 c0 c1 c2 c3 c4 c5 e0 e1 e2 e3 e4 e5
        have h36 : Below (w.heap.size + 3) W3 wc := hb35.trans (hb6.mono (by have h := hb35.size; have h2 := HS3.out; omega))
        obtain ⟨⟨_, _, ⟨⟨y0, y1, y2, y3, y4, y5⟩, ⟨z0, z1, z2, z3, z4, z5⟩⟩⟩, hB6, hr6⟩ := HC3.out _ h36
        have h5 := HS5.out
        have hs6 : w4.heap.size < wc.heap.size := by have := hb6.size; omega
        obtain ⟨⟨q0, q1, q2, q3, q4, q5⟩, ⟨p0, p1, p2, p3, p4, p5⟩⟩ := SX5.out.kept (hb6.block _ (by omega))
        obtain ⟨d0, d1, d2, d3, d4, d5⟩ := hzn
        rw [Nat.zero_add] at d1 d2 d3 d4 d5
        have hle : w.heap.size ≤ w.heap.size + 1 + 1 := by omega
        have hne : w.heap.size + 1 + 1 < w4.heap.size := HS2.out
        have HW5 : Hid (W5.heap.size = w4.heap.size + 1) := h5
        clear h5 hb34 hb35 hb45 SX5 HC3 HJN
        clear HIC hBwd hBwd2
        go_upto_region 10 with fail
        obtain ⟨W10, hW10⟩ : ∃ W, W = (wc.setCell ⟨w4.heap.size, 5, none⟩ (.slice (some ⟨wc.heap.size, 0, none⟩) 1 1)).alloc (.cells #[.int .i64 z.kind, .string z.name, .int .i64 z.no, .bool z.must, .int .i64 z.most, .slice az lz cz] 75) := ⟨_, rfl⟩
        have hB10 : Below w.heap.size w W10 := by rw [hW10]; exact (hB6.setCell (p := ⟨w4.heap.size, 5, none⟩) (by show w.heap.size ≤ w4.heap.size; omega) _).alloc (by have := hB6.size; simp; omega) _
        have HBLK : Hid (∀ g, g < wc.heap.size → g ≠ w4.heap.size → W10.heap[g]? = wc.heap[g]?) := fun g h1 h2 => by
          rw [hW10, Below.heap_alloc _ _ _ (by simp; omega), Below.heap_setCell _ _ _ _ (by show g ≠ w4.heap.size; omega)]
        have HS10 : Hid (W10.heap.size = wc.heap.size + 1) := by show _ = _; rw [hW10]; simp
        have HZ10 : Hid (NdIn W10 wc.heap.size 0 z (.slice az lz cz)) := by
          show NdIn _ _ _ _ _
          have hw : (wc.setCell ⟨w4.heap.size, 5, none⟩ (.slice (some ⟨wc.heap.size, 0, none⟩) 1 1)).heap.size = wc.heap.size := by simp
          rw [hW10, ← hw]
          exact ⟨by go_simp, by go_simp, by go_simp, by go_simp, by go_simp, by go_simp⟩
        have Q10 : Six W10 w4.heap.size (.int .i64 4) (.string na) (.int .i64 noa) (.bool mub) (.int .i64 moa) (.slice (some ⟨wc.heap.size, 0, none⟩) 1 1) := by
          have h0 : Six (wc.setCell ⟨w4.heap.size, 5, none⟩ (.slice (some ⟨wc.heap.size, 0, none⟩) 1 1)) w4.heap.size (.int .i64 4) (.string na) (.int .i64 noa) (.bool mub) (.int .i64 moa) (.slice (some ⟨wc.heap.size, 0, none⟩) 1 1) := by
            have ne : ∀ j : Nat, 5 ≠ j → (⟨w4.heap.size, 5, none⟩ : Addr) ≠ ⟨w4.heap.size, j, none⟩ := fun j h e => h (congrArg Addr.off e)
            exact ⟨⟨(World.cell?_setCell_other _ _ _ _ (ne 0 (by omega))).trans q0, (World.cell?_setCell_other _ _ _ _ (ne 1 (by omega))).trans q1, (World.cell?_setCell_other _ _ _ _ (ne 2 (by omega))).trans q2, (World.cell?_setCell_other _ _ _ _ (ne 3 (by omega))).trans q3, (World.cell?_setCell_other _ _ _ _ (ne 4 (by omega))).trans q4, World.cell?_setCell_same _ _ _ q5⟩, by rw [World.frozen?_setCell]; exact p0, by rw [World.frozen?_setCell]; exact p1, by rw [World.frozen?_setCell]; exact p2, by rw [World.frozen?_setCell]; exact p3, by rw [World.frozen?_setCell]; exact p4, by rw [World.frozen?_setCell]; exact p5⟩
          rw [hW10]
          exact h0.kept (Below.heap_alloc _ _ _ (by simp; omega))
        have Y10 : Six W10 (w.heap.size + 1 + 1) (.int .i64 0) (.string ⟨#[]⟩) (.int .i64 0) (.bool false) (.int .i64 0) (.slice none 0 0) := Six.kept (w := wc) ⟨⟨y0, y1, y2, y3, y4, y5⟩, z0, z1, z2, z3, z4, z5⟩ (HBLK.out _ hr6 (by omega))
        rw [← hW10]
        clear hW10 q0 q1 q2 q3 q4 q5 p0 p1 p2 p3 p4 p5 y0 y1 y2 y3 y4 y5 z0 z1 z2 z3 z4 z5 d0 d1 d2 d3 d4 d5
        obtain ⟨⟨q0, q1, q2, q3, q4, q5⟩, _⟩ := Q10
        obtain ⟨⟨y0, y1, y2, y3, y4, y5⟩, ⟨z0, z1, z2, z3, z4, z5⟩⟩ := Y10
        go_wp2
        (try simp only [Exit.inBlock, Exit.then])
        have hBs := (((((hB10.setCell (p := ⟨w.heap.size + 1 + 1, 0, none⟩) hle (.int .i64 4)).setCell (p := ⟨w.heap.size + 1 + 1, 1, none⟩) hle (.string na)).setCell (p := ⟨w.heap.size + 1 + 1, 2, none⟩) hle (.int .i64 noa)).setCell (p := ⟨w.heap.size + 1 + 1, 3, none⟩) hle (.bool mub)).setCell (p := ⟨w.heap.size + 1 + 1, 4, none⟩) hle (.int .i64 moa)).setCell (p := ⟨w.heap.size + 1 + 1, 5, none⟩) hle (.slice (some ⟨wc.heap.size, 0, none⟩) 1 1)
        refine bodyPost_ret (v := .tuple #[.agg #[.int .i64 4, .string na, .int .i64 noa, .bool mub, .int .i64 moa, .slice (some ⟨wc.heap.size, 0, none⟩) 1 1], .bool ok]) ?_ rfl ⟨?_, hBs⟩
        · rw [results_cell_tmp rfl]
          go_simp
        · have h10 := HS10.out
          have hsw := hB6.size
          rcases hj with ⟨rfl, hz, hkz⟩ | ⟨rfl, hz⟩
          · refine .inl ⟨z, some ⟨wc.heap.size, 0, none⟩, 1, 1, hz, by rw [HJ.out] <;> rfl, kid_one (c := .slice az lz cz) (HZ10.out.kept ?_) ?_ ?_⟩
            · repeat rw [Below.heap_setCell _ _ _ _ (by show wc.heap.size ≠ w.heap.size + 1 + 1; omega)]
            · exact ⟨.inr (by omega), by simp; omega⟩
            · refine hkz.kept (fun g hg => ?_) (fun g hg => ?_)
              · have hg2 : g < wc.heap.size := hg.2
                have hgn : g ≠ w4.heap.size ∧ g ≠ w.heap.size + 1 + 1 := by
                  have h5 := HW5.out
                  rcases hg.1 with h | h
                  · have := HS.out g h; omega
                  · omega
                repeat rw [Below.heap_setCell _ _ _ _ (by show g ≠ w.heap.size + 1 + 1; omega)]
                exact HBLK.out g hg2 hgn.1
              · refine ⟨?_, by have := hg.2; simp; omega⟩
                rcases hg.1 with h | h
                · exact .inl h
                · exact .inr (by omega)
          · exact .inr ⟨hz, .mk 4 na noa mub moa [], some ⟨wc.heap.size, 0, none⟩, 1, 1, rfl⟩

end Go.Proofs.Ytbkdpcfghaiimaa
