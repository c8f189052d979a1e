/- The model's l2Meet of messages: one of four ways. -/
import Derived.Test.YtbkdpcfghaiimaaMeH
namespace Go.Proofs.Ytbkdpcfghaiimaa
open Go.RowKit Plain Sch

set_option maxRecDepth 100000 in
set_option maxHeartbeats 8000000 in
theorem l2Meet_parts4 (D : Nat) (a b : Tr) (aa ab : Option Addr) (ca cb : Nat) (S : Nat → Prop) (w : World) (hkA : KidsIn (D + 1) w S (.slice aa a.kids.length ca) a.kids) (hkB : KidsIn (D + 1) w S (.slice ab b.kids.length cb) b.kids) (hS : ∀ g, S g → g < w.heap.size)
    (hkk : a.kind = b.kind) (h4 : a.kind ≠ 4) (hlen : a.kids.length ≤ 400) (hlenb : b.kids.length ≤ 400)
    (IH0 : ∀ (x y : Tr) (ax ay : Option Addr) (lx cx ly cy : Nat) (S : Nat → Prop) (w : World), x ∈ a.kids → y ∈ b.kids → KidsIn D w S (.slice ax lx cx) x.kids → KidsIn D w S (.slice ay ly cy) y.kids → (∀ g, S g → g < w.heap.size) → Calls Try.prog 46 #[.agg #[.int .i64 x.kind, .string x.name, .int .i64 x.no, .bool x.must, .int .i64 x.most, .slice ax lx cx], .agg #[.int .i64 y.kind, .string y.name, .int .i64 y.no, .bool y.must, .int .i64 y.most, .slice ay ly cy]] w fun e w' => MeR D x y S w w' e ∧ Below w.heap.size w w') (hm0 : Hid (a.must = false)) (hl0 : Hid (¬ b.most < a.most)) :
    Calls Try.prog 46 #[tv a aa a.kids.length ca, tv b ab b.kids.length cb] w fun e w' => ((∃ L, spA (meetT D) a.kids b.kids a.kids.length = some L ∧ ∃ ar lr cr, e = .returned (.tuple #[tv (mn a b (spB a.kids b.kids L b.kids.length)) ar lr cr, .bool true]) ∧ KidsIn (D + 1) w' (fun g => (S g ∨ w.heap.size ≤ g) ∧ g < w'.heap.size) (.slice ar lr cr) (spB a.kids b.kids L b.kids.length)) ∨ (spA (meetT D) a.kids b.kids a.kids.length = none ∧ ∃ t ar lr cr, e = .returned (.tuple #[tv t ar lr cr, .bool false]))) ∧ Below w.heap.size w w' := by
  have hk' : (a.kind != b.kind) = false := by simpa using hkk
  have h4' : (a.kind == 4) = false := by simpa using h4
  clear hkk h4
  have HKA : Hid (KidsIn (D + 1) w S (.slice aa a.kids.length ca) a.kids) := hkA
  have HKB : Hid (KidsIn (D + 1) w S (.slice ab b.kids.length cb) b.kids) := hkB
  obtain ⟨ao', cap', hcc, _, hcm, hrow⟩ := hkA
  simp only [Value.slice.injEq, true_and] at hcc
  obtain ⟨rfl, rfl⟩ := hcc
  obtain ⟨ao', cap', hcc, _, hcmb, hrowb⟩ := hkB
  simp only [Value.slice.injEq, true_and] at hcc
  obtain ⟨rfl, rfl⟩ := hcc
  have hcm' : ca ≤ 9223372036854775807 := by unfold maxLen at hcm; omega
  have hcmb' : cb ≤ 9223372036854775807 := by unfold maxLen at hcmb; omega
  have IH : Hid (∀ (x y : Tr) (ax ay : Option Addr) (lx cx ly cy : Nat) (S : Nat → Prop) (w : World), x ∈ a.kids → y ∈ b.kids → KidsIn D w S (.slice ax lx cx) x.kids → KidsIn D w S (.slice ay ly cy) y.kids → (∀ g, S g → g < w.heap.size) → Calls Try.prog 46 #[.agg #[.int .i64 x.kind, .string x.name, .int .i64 x.no, .bool x.must, .int .i64 x.most, .slice ax lx cx], .agg #[.int .i64 y.kind, .string y.name, .int .i64 y.no, .bool y.must, .int .i64 y.most, .slice ay ly cy]] w fun e w' => MeR D x y S w w' e ∧ Below w.heap.size w w') := IH0
  have HROW : Hid (∀ i y, a.kids[i]? = some y → ∃ g o c', aa = some ⟨g, o, none⟩ ∧ S g ∧ NdIn w g (o + i * 6) y c' ∧ KidsIn D w S c' y.kids) := hrow
  have HROWB : Hid (∀ i y, b.kids[i]? = some y → ∃ g o c', ab = some ⟨g, o, none⟩ ∧ S g ∧ NdIn w g (o + i * 6) y c' ∧ KidsIn D w S c' y.kids) := hrowb
  have HS : Hid (∀ g, S g → g < w.heap.size) := hS
  clear hrow hrowb hS IH0
  have HJN : Hid (∀ ks, mn a b ks = .mk a.kind a.name a.no (a.must || b.must) (if b.most < a.most then b.most else a.most) ks) := fun _ => rfl
  unfold tv
  obtain ⟨W3, hW3⟩ : ∃ W, W = ((w.alloc (.cells #[.int .i64 a.kind, .string a.name, .int .i64 a.no, .bool a.must, .int .i64 a.most, .slice aa a.kids.length ca] 75)).alloc (.cells #[.int .i64 b.kind, .string b.name, .int .i64 b.no, .bool b.must, .int .i64 b.most, .slice ab b.kids.length cb] 75)).alloc (.cells #[.int .i64 0, .string ⟨#[]⟩, .int .i64 0, .bool false, .int .i64 0, .slice none 0 0] 75) := ⟨_, rfl⟩
  have hB3 : Below w.heap.size w W3 := by rw [hW3]; exact (((Below.refl _ w).alloc (Nat.le_refl _) _).alloc (by simp) _).alloc (by simp; omega) _
  have HS3 : Hid (W3.heap.size = w.heap.size + 3) := by show _ = _; rw [hW3]; simp
  have HC3 : Hid (∀ W : World, Below (w.heap.size + 3) W3 W → (Six W w.heap.size (.int .i64 a.kind) (.string a.name) (.int .i64 a.no) (.bool a.must) (.int .i64 a.most) (.slice aa a.kids.length ca) ∧ Six W (w.heap.size + 1) (.int .i64 b.kind) (.string b.name) (.int .i64 b.no) (.bool b.must) (.int .i64 b.most) (.slice ab b.kids.length cb) ∧ Six W (w.heap.size + 1 + 1) (.int .i64 0) (.string ⟨#[]⟩) (.int .i64 0) (.bool false) (.int .i64 0) (.slice none 0 0)) ∧ Below w.heap.size w W ∧ w.heap.size + 1 + 1 < W.heap.size) := fun W hW => by
    have hs := HS3.out
    have h2 := hW.size
    have h0 : Six W3 w.heap.size (.int .i64 a.kind) (.string a.name) (.int .i64 a.no) (.bool a.must) (.int .i64 a.most) (.slice aa a.kids.length ca) := by
      rw [hW3]; exact ⟨⟨by go_simp, by go_simp, by go_simp, by go_simp, by go_simp, by go_simp⟩, by go_simp, by go_simp, by go_simp, by go_simp, by go_simp, by go_simp⟩
    have h1 : Six W3 (w.heap.size + 1) (.int .i64 b.kind) (.string b.name) (.int .i64 b.no) (.bool b.must) (.int .i64 b.most) (.slice ab b.kids.length cb) := by
      rw [hW3]; exact ⟨⟨by go_simp, by go_simp, by go_simp, by go_simp, by go_simp, by go_simp⟩, by go_simp, by go_simp, by go_simp, by go_simp, by go_simp, by go_simp⟩
    have h3 : Six W3 (w.heap.size + 1 + 1) (.int .i64 0) (.string ⟨#[]⟩) (.int .i64 0) (.bool false) (.int .i64 0) (.slice none 0 0) := by
      rw [hW3]; exact ⟨⟨by go_simp, by go_simp, by go_simp, by go_simp, by go_simp, by go_simp⟩, by go_simp, by go_simp, by go_simp, by go_simp, by go_simp, by go_simp⟩
    exact ⟨⟨h0.kept (hW.block _ (by omega)), h1.kept (hW.block _ (by omega)), h3.kept (hW.block _ (by omega))⟩, hB3.trans (hW.mono (by omega)), by omega⟩
  go_enter Try.func46, Try.ntmps46
  go_wp2_with fail
  rw [← hW3]
  clear hW3
  have SH := l2Shell_any a aa a.kids.length ca W3
  unfold tv at SH
  refine SH.mono ?_
  clear SH
  rintro e w4 ⟨rfl, hb4⟩
  have hb34 : Below (w.heap.size + 3) W3 w4 := hb4.mono (by rw [HS3.out]; exact Nat.le_refl _)
  clear hb4
  obtain ⟨⟨⟨⟨a0, a1, a2, a3, a4, a5⟩, _⟩, ⟨⟨b0, b1, b2, b3, b4, b5⟩, _⟩, _⟩, hBw, hsw⟩ := HC3.out _ hb34
  have hs0 : w.heap.size < w4.heap.size := by omega
  have hs1 : w.heap.size + 1 < w4.heap.size := by omega
  have HS2 : Hid (w.heap.size + 1 + 1 < w4.heap.size) := hsw
  have hm := hm0.out
  have hl : ¬ b.most < a.most := by have h := hl0.out; omega
  rw [hm] at a3
  have hl' : decide (b.most < a.most) = false := by simpa using hl
  obtain ⟨W5, hW5⟩ : ∃ W, W = w4.alloc (.cells #[.int .i64 a.kind, .string a.name, .int .i64 a.no, .bool b.must, .int .i64 a.most, .slice none 0 0] 75) := ⟨_, rfl⟩
  have hb45 : Below w4.heap.size w4 W5 := by rw [hW5]; exact (Below.refl _ w4).alloc (Nat.le_refl _) _
  have HS5 : Hid (W5.heap.size = w4.heap.size + 1) := by show _ = _; rw [hW5]; simp
  have SX5 : Hid (Six W5 w4.heap.size (.int .i64 a.kind) (.string a.name) (.int .i64 a.no) (.bool b.must) (.int .i64 a.most) (.slice none 0 0)) := by
    show Six _ _ _ _ _ _ _ _
    rw [hW5]
    exact ⟨⟨by go_simp, by go_simp, by go_simp, by go_simp, by go_simp, by go_simp⟩, by go_simp, by go_simp, by go_simp, by go_simp, by go_simp, by go_simp⟩
  have HJ : Hid (∀ ks, mn a b ks = .mk a.kind a.name a.no b.must a.most ks) := fun ks => by rw [HJN.out]; congr 1 <;> first | rfl | (rw [hm]; rfl) | (first | exact if_pos hl | exact if_neg hl)
  clear hl
  go_upto_region 7 with fail
  rw [← hW5]
  clear hW5
  have HW4 : Hid (∀ W : World, Below w4.heap.size w4 W → Below (w.heap.size + 3) W3 W) := fun W hW => hb34.trans (hW.mono (by have h := hb34.size; have h2 := HS3.out; omega))
  have hb35 := HW4.out _ hb45
  clear a0 a1 a2 a3 a4 a5 b0 b1 b2 b3 b4 b5 hBw hsw hb34
  obtain ⟨⟨⟨⟨a0, a1, a2, a3, a4, a5⟩, _⟩, _, _⟩, _, _⟩ := HC3.out _ hb35
  have HINI : Hid (MeInv D a b.must a.most S w4 w4.heap.size [] W5) := ⟨none, 0, SX5.out, nil_kids, hb45, by rw [HS5.out]; omega⟩
  clear SX5 hb45 hb35
  go_wp2_with fail
  clear a0 a1 a2 a3 a4 a5
  go_loopw [65] (fun vi wr => ∃ (i : Nat) (L : List Tr), i ≤ a.kids.length ∧ vi = .int .i64 (i : Int) ∧ Hid (spA (meetT D) a.kids b.kids i = some L) ∧ Hid (MeInv D a b.must a.most S w4 w4.heap.size L wr))
    (fun vi _ => a.kids.length - (intOf vi).toNat)
  case atStart => exact ⟨0, [], by omega, rfl, rfl, HINI.out⟩
  case round =>
    clear HINI
    obtain ⟨i, L, hil, rfl, HSP, hinv⟩ := hrel
    obtain ⟨ar, cr, SX, hkr, hbw, hob⟩ := hinv.out
    have hLl : L.length ≤ i := spA_len HSP.out
    have hbwr := HW4.out _ hbw
    obtain ⟨⟨⟨⟨a0, a1, a2, a3, a4, a5⟩, _⟩, ⟨⟨b0, b1, b2, b3, b4, b5⟩, _⟩, ⟨⟨y0, y1, y2, y3, y4, y5⟩, ⟨z0, z1, z2, z3, z4, z5⟩⟩⟩, hBw, hsw⟩ := HC3.out _ hbwr
    have hsr0 : w.heap.size < wr.heap.size := by omega
    have hsr1 : w.heap.size + 1 < wr.heap.size := by omega
    by_cases hlt : i < a.kids.length
    · have hlt' : (i : Int) < (a.kids.length : Int) := by omega
      obtain ⟨x, hx⟩ : ∃ x, a.kids[i]? = some x := ⟨_, List.getElem?_eq_getElem hlt⟩
      obtain ⟨g, o, c', hao, hSg, hnd, hkx⟩ := HROW.out i x hx
      have hg := HS.out g hSg
      have hgr : g < wr.heap.size := by omega
      obtain ⟨c0, c1, c2, c3, c4, c5⟩ := hnd.kept (hBw.block g hg)
      obtain ⟨ac, cc, rfl, _⟩ := hkx.form
      have hxm : x ∈ a.kids := List.mem_of_getElem? hx
      have HST : Hid (spA (meetT D) a.kids b.kids (i + 1) = (mg (meetT D) b.kids x).map (putL L)) := spA_step hx HSP.out
      obtain ⟨WX, hWX⟩ : ∃ W, W = wr.alloc (.cells #[.int .i64 x.kind, .string x.name, .int .i64 x.no, .bool x.must, .int .i64 x.most, .slice ac x.kids.length cc] 75) := ⟨_, rfl⟩
      have hBX : Below wr.heap.size wr WX := by rw [hWX]; exact (Below.refl _ wr).alloc (Nat.le_refl _) _
      have HSX : Hid (WX.heap.size = wr.heap.size + 1) := by show _ = _; rw [hWX]; simp
      have SXX : Hid (Six WX wr.heap.size (.int .i64 x.kind) (.string x.name) (.int .i64 x.no) (.bool x.must) (.int .i64 x.most) (.slice ac x.kids.length cc)) := by
        show Six _ _ _ _ _ _ _ _
        rw [hWX]
        exact ⟨⟨by go_simp, by go_simp, by go_simp, by go_simp, by go_simp, by go_simp⟩, by go_simp, by go_simp, by go_simp, by go_simp, by go_simp, by go_simp⟩
      have hBwX : Below w.heap.size w WX := hBw.trans (hBX.mono (by omega))
      have HBY' : Hid (Calls Try.prog 64 #[.agg #[.int .i64 b.kind, .string b.name, .int .i64 b.no, .bool b.must, .int .i64 b.most, .slice ab b.kids.length cb], .int .i64 x.no] WX fun e w' => ByR D w' S b.kids x.no e ∧ Below WX.heap.size WX w') := l2By_any D b.kind b.name b.no b.must b.most b.kids ab cb x.no S WX (HKB.out.kept (fun g hg => hBwX.block g (HS.out g hg)) (fun _ h => h)) (fun g hg => by have h1 := HS.out g hg; have h2 := hBwX.size; omega)
      clear hnd
      subst hao
      go_wp2_with fail
      rw [← hWX]
      clear hWX
      refine HBY'.out.mono ?_
      rintro e w5 ⟨hby, hb5⟩
      have hBX5 : Below wr.heap.size wr w5 := hBX.trans (hb5.mono hBX.size)
      have hs5 : wr.heap.size < w5.heap.size := by have h1 := hb5.size; have h2 := HSX.out; omega
      have SXX5 : Six w5 wr.heap.size (.int .i64 x.kind) (.string x.name) (.int .i64 x.no) (.bool x.must) (.int .i64 x.most) (.slice ac x.kids.length cc) := SXX.out.kept (hb5.block _ (by have h2 := HSX.out; omega))
      have hBw5 : Below w.heap.size w w5 := hBw.trans (hBX5.mono hBw.size)
      clear HBY' hb5 hBX HSX SXX hBwX a0 a1 a2 a3 a4 a5 b0 b1 b2 b3 b4 b5 y0 y1 y2 y3 y4 y5 z0 z1 z2 z3 z4 z5 c0 c1 c2 c3 c4 c5 hbwr
      obtain ⟨⟨k0, k1, k2, k3, k4, k5⟩, _⟩ := SXX5
      rcases hby with ⟨y, ay, ly, cy, hfy, rfl, hky⟩ | ⟨hfy, rfl⟩
      · have hym := byNo_mem b.kids x.no y hfy
        obtain ⟨WY, hWY⟩ : ∃ W, W = w5.alloc (.cells #[.int .i64 y.kind, .string y.name, .int .i64 y.no, .bool y.must, .int .i64 y.most, .slice ay ly cy] 75) := ⟨_, rfl⟩
        have hBY : Below w5.heap.size w5 WY := by rw [hWY]; exact (Below.refl _ w5).alloc (Nat.le_refl _) _
        have hBwY : Below w.heap.size w WY := hBw5.trans (hBY.mono hBw5.size)
        have HIC : Hid (Calls Try.prog 46 #[.agg #[.int .i64 x.kind, .string x.name, .int .i64 x.no, .bool x.must, .int .i64 x.most, .slice ac x.kids.length cc], .agg #[.int .i64 y.kind, .string y.name, .int .i64 y.no, .bool y.must, .int .i64 y.most, .slice ay ly cy]] WY fun e w' => MeR D x y S WY w' e ∧ Below WY.heap.size WY w') := IH.out x y ac ay x.kids.length cc ly cy S WY hxm hym (hkx.kept (fun g hg => hBwY.block g (HS.out g hg)) (fun _ h => h)) (hky.kept (fun g hg => hBY.block g (by have h1 := HS.out g hg; have h2 := hBw5.size; omega)) (fun _ h => h)) (fun g hg => by have h1 := HS.out g hg; have h2 := hBwY.size; omega)
        have hBXY : Below wr.heap.size wr WY := hBX5.trans (hBY.mono hBX5.size)
        clear hky
        go_wp2_with fail
        rw [← hWY]
        clear hWY
        refine HIC.out.mono ?_
        rintro e w6 ⟨hjo, hb6⟩
        have hBX6 : Below wr.heap.size wr w6 := hBXY.trans (hb6.mono hBXY.size)
        have hs6 : wr.heap.size < w6.heap.size := by have h1 := hb6.size; have h2 := hBY.size; omega
        have hob6 : w4.heap.size < w6.heap.size := by omega
        have hBw6 : Below w.heap.size w w6 := hBw.trans (hBX6.mono hBw.size)
        have hY6 : wr.heap.size ≤ WY.heap.size := hBXY.size
        clear HIC hBY hBwY hBXY hBw5 k0 k1 k2 k3 k4 k5
        rcases hjo with ⟨z, az, lz, cz, hjz, rfl, hkz⟩ | ⟨hjz, z, az, lz, cz, rfl⟩
        · have HSP2 : Hid (spA (meetT D) a.kids b.kids (i + 1) = some (putL L z)) := by
            show _ = _
            rw [HST.out]
            unfold mg
            rw [hfy]
            dsimp only
            rw [hjz]; rfl
          obtain ⟨WZ, hWZ⟩ : ∃ W, W = w6.alloc (.cells #[.int .i64 z.kind, .string z.name, .int .i64 z.no, .bool z.must, .int .i64 z.most, .slice az lz cz] 75) := ⟨_, rfl⟩
          have hBZ : Below w6.heap.size w6 WZ := by rw [hWZ]; exact (Below.refl _ w6).alloc (Nat.le_refl _) _
          have hbWp : Below wr.heap.size wr WZ := hBX6.trans (hBZ.mono hBX6.size)
          have hBwP : Below w.heap.size w WZ := hBw.trans (hbWp.mono hBw.size)
          have hsWZ : w6.heap.size ≤ WZ.heap.size := hBZ.size
          have SO6 := SX.kept (hBX6.block _ hob)
          obtain ⟨⟨q0, q1, q2, q3, q4, q5⟩, _⟩ := SO6
          have hPUT := l2PutKid_any D (.mk a.kind a.name a.no b.must a.most (L)) z ar az cr lz cz (fun g => S g ∨ (w4.heap.size < g ∧ g < WZ.heap.size)) WZ (hkr.kept (fun g hg => hbWp.block g (by rcases hg with hg | hg; (have := HS.out g hg; omega); exact hg.2)) (fun g hg => by rcases hg with hg | hg; exact .inl hg; exact .inr ⟨hg.1, by have := hbWp.size; omega⟩)) (hkz.kept (fun g hg => hBZ.block g hg.2) (fun g hg => by rcases hg.1 with h | h; exact .inl h; exact .inr ⟨by omega, by have := hg.2; omega⟩)) (fun g hg => by rcases hg with hg | hg; (have h1 := HS.out g hg; have h2 := hBwP.size; omega); exact hg.2) (by show L.length ≤ 1000; omega)
          unfold tv at hPUT
          have HPUT : Hid (Calls Try.prog 93 #[.agg #[.int .i64 a.kind, .string a.name, .int .i64 a.no, .bool b.must, .int .i64 a.most, .slice ar (L).length cr], .agg #[.int .i64 z.kind, .string z.name, .int .i64 z.no, .bool z.must, .int .i64 z.most, .slice az lz cz]] WZ fun e w' => ∃ ar' cr', e = .returned (.agg #[.int .i64 a.kind, .string a.name, .int .i64 a.no, .bool b.must, .int .i64 a.most, .slice ar' ((L).length + 1) cr']) ∧ KidsIn (D + 1) w' (fun g => ((S g ∨ (w4.heap.size < g ∧ g < WZ.heap.size)) ∨ WZ.heap.size ≤ g) ∧ g < w'.heap.size) (.slice ar' ((L).length + 1) cr') (putL (L) z) ∧ Below WZ.heap.size WZ w') := hPUT
          clear hPUT
          clear hkz hkr
          go_wp2_with fail
          rw [← hWZ]
          clear hWZ
          refine HPUT.out.mono ?_
          rintro e w7 ⟨ar', cr', rfl, hk7, hb7⟩
          have hBX7 : Below wr.heap.size wr w7 := hbWp.trans (hb7.mono hbWp.size)
          have hob7 : w4.heap.size < w7.heap.size := by have h1 := hBX7.size; omega
          have hWps : w4.heap.size < WZ.heap.size := by have h1 := hbWp.size; omega
          have SO7 := SX.kept (hBX7.block _ hob)
          have HNEW0 : Hid (MeInv D a b.must a.most S w4 w4.heap.size (putL (L) z) (six6 w7 w4.heap.size (.int .i64 a.kind) (.string a.name) (.int .i64 a.no) (.bool b.must) (.int .i64 a.most) (.slice ar' ((L).length + 1) cr'))) := by
            refine ⟨ar', cr', ?_, ?_, ?_, by rw [six6_size]; exact hob7⟩
            · rw [putL_len]
              exact six6_six SO7 _ _ _ _ _ _
            · rw [putL_len]
              refine hk7.kept (fun g hg => six6_block _ _ _ _ _ _ _ _ g ?_) (fun g hg => ?_)
              · rcases hg.1 with (h | h) | h
                · have h1 := HS.out g h; omega
                · omega
                · omega
              · rw [six6_size]
                rcases hg.1 with (h | h) | h
                · exact .inl h
                · exact .inr ⟨h.1, hg.2⟩
                · exact .inr ⟨by omega, hg.2⟩
            · unfold six6
              have h0 := hbw.trans (hBX7.mono hbw.size)
              exact (((((h0.setCell (p := ⟨w4.heap.size, 0, none⟩) (Nat.le_refl _) _).setCell (p := ⟨w4.heap.size, 1, none⟩) (Nat.le_refl _) _).setCell (p := ⟨w4.heap.size, 2, none⟩) (Nat.le_refl _) _).setCell (p := ⟨w4.heap.size, 3, none⟩) (Nat.le_refl _) _).setCell (p := ⟨w4.heap.size, 4, none⟩) (Nat.le_refl _) _).setCell (p := ⟨w4.heap.size, 5, none⟩) (Nat.le_refl _) _
          clear hk7 hb7 HPUT
          unfold six6 at HNEW0
          obtain ⟨⟨o0, o1, o2, o3, o4, o5⟩, ⟨p0, p1, p2, p3, p4, p5⟩⟩ := SO7
          clear q0 q1 q2 q3 q4 q5
          go_wp2
          go_roundw
          case rel => exact ⟨i + 1, putL L z, by omega, by go_num, HSP2, HNEW0⟩
          case measure => simp [intOf]; omega
        · have HNO : Hid (spA (meetT D) a.kids b.kids a.kids.length = none) := by
            have h1 : spA (meetT D) a.kids b.kids (i + 1) = none := by
              rw [HST.out]
              unfold mg
              rw [hfy]
              dsimp only
              rw [hjz]; rfl
            have h2 := spA_gone h1 (a.kids.length - (i + 1))
            rwa [show i + 1 + (a.kids.length - (i + 1)) = a.kids.length by omega] at h2
          obtain ⟨WZ, hWZ⟩ : ∃ W, W = w6.alloc (.cells #[.int .i64 z.kind, .string z.name, .int .i64 z.no, .bool z.must, .int .i64 z.most, .slice az lz cz] 75) := ⟨_, rfl⟩
          have hBZ : Below w6.heap.size w6 WZ := by rw [hWZ]; exact (Below.refl _ w6).alloc (Nat.le_refl _) _
          have hb36 := HW4.out _ ((hbw.trans (hBX6.mono hbw.size)).trans (hBZ.mono (Nat.le_of_lt hob6)))
          obtain ⟨⟨_, _, ⟨⟨y0, y1, y2, y3, y4, y5⟩, ⟨z0, z1, z2, z3, z4, z5⟩⟩⟩, hBz, hsw6⟩ := HC3.out _ hb36
          have hle : w.heap.size ≤ w.heap.size + 1 + 1 := by omega
          clear hkr hinv HROW HKB HROWB IH hbw hkx hjz hfy HKA
          go_upto_region 19 with fail
          rw [← hWZ]
          clear hWZ hBZ HC3
          go_wp2
          (try simp only [Exit.inBlock, Exit.then])
          have hBs := (((((hBz.setCell (p := ⟨w.heap.size + 1 + 1, 0, none⟩) hle (.int .i64 0)).setCell (p := ⟨w.heap.size + 1 + 1, 1, none⟩) hle (.string ⟨#[]⟩)).setCell (p := ⟨w.heap.size + 1 + 1, 2, none⟩) hle (.int .i64 0)).setCell (p := ⟨w.heap.size + 1 + 1, 3, none⟩) hle (.bool false)).setCell (p := ⟨w.heap.size + 1 + 1, 4, none⟩) hle (.int .i64 0)).setCell (p := ⟨w.heap.size + 1 + 1, 5, none⟩) hle (.slice none 0 0)
          refine bodyPost_ret (v := .tuple #[.agg #[.int .i64 0, .string ⟨#[]⟩, .int .i64 0, .bool false, .int .i64 0, .slice none 0 0], .bool false]) ?_ rfl ⟨.inr ⟨HNO.out, .mk 0 ⟨#[]⟩ 0 false 0 [], none, 0, 0, rfl⟩, hBs⟩
          rw [results_cell_tmp rfl]
          go_simp
      · have HSP2 : Hid (spA (meetT D) a.kids b.kids (i + 1) = some (putL L x)) := by
          show _ = _
          rw [HST.out]
          unfold mg
          rw [hfy]
          rfl
        obtain ⟨WY, hWY⟩ : ∃ W, W = w5.alloc (.cells #[.int .i64 0, .string ⟨#[]⟩, .int .i64 0, .bool false, .int .i64 0, .slice none 0 0] 75) := ⟨_, rfl⟩
        have hBY : Below w5.heap.size w5 WY := by rw [hWY]; exact (Below.refl _ w5).alloc (Nat.le_refl _) _
        have hbWp : Below wr.heap.size wr WY := hBX5.trans (hBY.mono hBX5.size)
        have hBwP : Below w.heap.size w WY := hBw.trans (hbWp.mono hBw.size)
        have SO5 := SX.kept (hBX5.block _ hob)
        obtain ⟨⟨q0, q1, q2, q3, q4, q5⟩, _⟩ := SO5
        have hob5 : w4.heap.size < w5.heap.size := by omega
        have hPUT := l2PutKid_any D (.mk a.kind a.name a.no b.must a.most (L)) x ar ac cr x.kids.length cc (fun g => S g ∨ (w4.heap.size < g ∧ g < WY.heap.size)) WY (hkr.kept (fun g hg => hbWp.block g (by rcases hg with hg | hg; (have := HS.out g hg; omega); exact hg.2)) (fun g hg => by rcases hg with hg | hg; exact .inl hg; exact .inr ⟨hg.1, by have := hbWp.size; omega⟩)) (hkx.kept (fun g hg => hBwP.block g (HS.out g hg)) (fun g hg => .inl hg)) (fun g hg => by rcases hg with hg | hg; (have h1 := HS.out g hg; have h2 := hBwP.size; omega); exact hg.2) (by show L.length ≤ 1000; omega)
        unfold tv at hPUT
        have HPUT : Hid (Calls Try.prog 93 #[.agg #[.int .i64 a.kind, .string a.name, .int .i64 a.no, .bool b.must, .int .i64 a.most, .slice ar (L).length cr], .agg #[.int .i64 x.kind, .string x.name, .int .i64 x.no, .bool x.must, .int .i64 x.most, .slice ac x.kids.length cc]] WY fun e w' => ∃ ar' cr', e = .returned (.agg #[.int .i64 a.kind, .string a.name, .int .i64 a.no, .bool b.must, .int .i64 a.most, .slice ar' ((L).length + 1) cr']) ∧ KidsIn (D + 1) w' (fun g => ((S g ∨ (w4.heap.size < g ∧ g < WY.heap.size)) ∨ WY.heap.size ≤ g) ∧ g < w'.heap.size) (.slice ar' ((L).length + 1) cr') (putL (L) x) ∧ Below WY.heap.size WY w') := hPUT
        clear hPUT
        clear hkr
        go_wp2_with fail
        rw [← hWY]
        clear hWY
        refine HPUT.out.mono ?_
        rintro e w7 ⟨ar', cr', rfl, hk7, hb7⟩
        have hBX7 : Below wr.heap.size wr w7 := hbWp.trans (hb7.mono hbWp.size)
        have hob7 : w4.heap.size < w7.heap.size := by have h1 := hBX7.size; omega
        have hWps : w4.heap.size < WY.heap.size := by have h1 := hbWp.size; omega
        have SO7 := SX.kept (hBX7.block _ hob)
        have HNEW0 : Hid (MeInv D a b.must a.most S w4 w4.heap.size (putL (L) x) (six6 w7 w4.heap.size (.int .i64 a.kind) (.string a.name) (.int .i64 a.no) (.bool b.must) (.int .i64 a.most) (.slice ar' ((L).length + 1) cr'))) := by
          refine ⟨ar', cr', ?_, ?_, ?_, by rw [six6_size]; exact hob7⟩
          · rw [putL_len]
            exact six6_six SO7 _ _ _ _ _ _
          · rw [putL_len]
            refine hk7.kept (fun g hg => six6_block _ _ _ _ _ _ _ _ g ?_) (fun g hg => ?_)
            · rcases hg.1 with (h | h) | h
              · have h1 := HS.out g h; omega
              · omega
              · omega
            · rw [six6_size]
              rcases hg.1 with (h | h) | h
              · exact .inl h
              · exact .inr ⟨h.1, hg.2⟩
              · exact .inr ⟨by omega, hg.2⟩
          · unfold six6
            have h0 := hbw.trans (hBX7.mono hbw.size)
            exact (((((h0.setCell (p := ⟨w4.heap.size, 0, none⟩) (Nat.le_refl _) _).setCell (p := ⟨w4.heap.size, 1, none⟩) (Nat.le_refl _) _).setCell (p := ⟨w4.heap.size, 2, none⟩) (Nat.le_refl _) _).setCell (p := ⟨w4.heap.size, 3, none⟩) (Nat.le_refl _) _).setCell (p := ⟨w4.heap.size, 4, none⟩) (Nat.le_refl _) _).setCell (p := ⟨w4.heap.size, 5, none⟩) (Nat.le_refl _) _
        clear hk7 hb7 HPUT
        unfold six6 at HNEW0
        obtain ⟨⟨o0, o1, o2, o3, o4, o5⟩, ⟨p0, p1, p2, p3, p4, p5⟩⟩ := SO7
        clear q0 q1 q2 q3 q4 q5 k0 k1 k2 k3 k4 k5
        go_wp2
        go_roundw
        case rel => exact ⟨i + 1, putL L x, by omega, by go_num, HSP2, HNEW0⟩
        case measure => simp [intOf]; omega
    · have hke : i = a.kids.length := by omega
      subst hke
      have hge : ¬ ((a.kids.length : Int) < (a.kids.length : Int)) := by omega
      have HINV : Hid (MeInv D a b.must a.most S w4 w4.heap.size L wr) := hinv
      have HSPE : Hid (spA (meetT D) a.kids b.kids a.kids.length = some L) := HSP
      have hLl2 : L.length ≤ 400 := by omega
      clear SX hkr hbw hob hinv HSP a0 a1 a2 a3 a4 a5 y0 y1 y2 y3 y4 y5 z0 z1 z2 z3 z4 z5 hLl hlt
      go_wp2_with fail
      clear b0 b1 b2 b3 b4 b5 hBw hsw hsr0 hsr1 hbwr
      go_loopw [97] (fun vi wr => ∃ (j : Nat), j ≤ b.kids.length ∧ vi = .int .i64 (j : Int) ∧ Hid (MeInv D a b.must a.most S w4 w4.heap.size (spB a.kids b.kids L j) wr))
        (fun vi _ => b.kids.length - (intOf vi).toNat)
      case atStart => exact ⟨0, by omega, rfl, HINV.out⟩
      case round =>
        clear HINV
        obtain ⟨j, hjl, rfl, hinv⟩ := hrel
        obtain ⟨ar, cr, SX, hkr, hbw, hob⟩ := hinv.out
        have hLl : (spB a.kids b.kids L j).length ≤ 1000 := Nat.le_trans (spB_len _ _ _ _) (by omega)
        have hbwr := HW4.out _ hbw
        obtain ⟨⟨⟨⟨a0, a1, a2, a3, a4, a5⟩, _⟩, ⟨⟨b0, b1, b2, b3, b4, b5⟩, _⟩, ⟨⟨y0, y1, y2, y3, y4, y5⟩, ⟨z0, z1, z2, z3, z4, z5⟩⟩⟩, hBw, hsw⟩ := HC3.out _ hbwr
        have hsr0 : w.heap.size < wr.heap.size := by omega
        have hsr1 : w.heap.size + 1 < wr.heap.size := by omega
        by_cases hlt : j < b.kids.length
        · have hlt' : (j : Int) < (b.kids.length : Int) := by omega
          obtain ⟨x, hx⟩ : ∃ x, b.kids[j]? = some x := ⟨_, List.getElem?_eq_getElem hlt⟩
          obtain ⟨g, o, c', hao, hSg, hnd, hkx⟩ := HROWB.out j x hx
          have hg := HS.out g hSg
          have hgr : g < wr.heap.size := by omega
          obtain ⟨c0, c1, c2, c3, c4, c5⟩ := hnd.kept (hBw.block g hg)
          obtain ⟨ac, cc, rfl, _⟩ := hkx.form
          have HST : Hid (spB a.kids b.kids L (j + 1) = if byNo a.kids x.no = none then putL (spB a.kids b.kids L j) x else spB a.kids b.kids L j) := spB_step hx
          obtain ⟨WX, hWX⟩ : ∃ W, W = wr.alloc (.cells #[.int .i64 x.kind, .string x.name, .int .i64 x.no, .bool x.must, .int .i64 x.most, .slice ac x.kids.length cc] 75) := ⟨_, rfl⟩
          have hBX : Below wr.heap.size wr WX := by rw [hWX]; exact (Below.refl _ wr).alloc (Nat.le_refl _) _
          have HSX : Hid (WX.heap.size = wr.heap.size + 1) := by show _ = _; rw [hWX]; simp
          have SXX : Hid (Six WX wr.heap.size (.int .i64 x.kind) (.string x.name) (.int .i64 x.no) (.bool x.must) (.int .i64 x.most) (.slice ac x.kids.length cc)) := by
            show Six _ _ _ _ _ _ _ _
            rw [hWX]
            exact ⟨⟨by go_simp, by go_simp, by go_simp, by go_simp, by go_simp, by go_simp⟩, by go_simp, by go_simp, by go_simp, by go_simp, by go_simp, by go_simp⟩
          have hBwX : Below w.heap.size w WX := hBw.trans (hBX.mono (by omega))
          have HBY' : Hid (Calls Try.prog 64 #[.agg #[.int .i64 a.kind, .string a.name, .int .i64 a.no, .bool a.must, .int .i64 a.most, .slice aa a.kids.length ca], .int .i64 x.no] WX fun e w' => ByR D w' S a.kids x.no e ∧ Below WX.heap.size WX w') := l2By_any D a.kind a.name a.no a.must a.most a.kids aa ca x.no S WX (HKA.out.kept (fun g hg => hBwX.block g (HS.out g hg)) (fun _ h => h)) (fun g hg => by have h1 := HS.out g hg; have h2 := hBwX.size; omega)
          clear hnd
          subst hao
          rw [hm] at a3
          rw [hm] at HBY'
          go_wp2_with fail
          rw [← hWX]
          clear hWX
          refine HBY'.out.mono ?_
          rintro e w5 ⟨hby, hb5⟩
          have hBX5 : Below wr.heap.size wr w5 := hBX.trans (hb5.mono hBX.size)
          have hs5 : wr.heap.size < w5.heap.size := by have h1 := hb5.size; have h2 := HSX.out; omega
          have SXX5 : Six w5 wr.heap.size (.int .i64 x.kind) (.string x.name) (.int .i64 x.no) (.bool x.must) (.int .i64 x.most) (.slice ac x.kids.length cc) := SXX.out.kept (hb5.block _ (by have h2 := HSX.out; omega))
          have hBw5 : Below w.heap.size w w5 := hBw.trans (hBX5.mono hBw.size)
          clear HBY' hb5 hBX HSX SXX hBwX a0 a1 a2 a3 a4 a5 b0 b1 b2 b3 b4 b5 y0 y1 y2 y3 y4 y5 z0 z1 z2 z3 z4 z5 c0 c1 c2 c3 c4 c5 hbwr
          obtain ⟨⟨k0, k1, k2, k3, k4, k5⟩, _⟩ := SXX5
          rcases hby with ⟨y, ay, ly, cy, hfy, rfl, hky⟩ | ⟨hfy, rfl⟩
          · have HSAME : Hid (spB a.kids b.kids L (j + 1) = spB a.kids b.kids L j) := by
              show _ = _
              rw [HST.out, if_neg (by rw [hfy]; simp)]
            have HNEW : Hid (MeInv D a b.must a.most S w4 w4.heap.size (spB a.kids b.kids L (j + 1)) (w5.alloc (.cells #[.int .i64 y.kind, .string y.name, .int .i64 y.no, .bool y.must, .int .i64 y.most, .slice ay ly cy] 75))) := by
              show MeInv _ _ _ _ _ _ _ _ _
              rw [HSAME.out]
              exact hinv.out.more (fun g hg => by have h1 := HS.out g hg; omega) (hBX5.alloc hBX5.size _)
            go_wp2
            go_roundw
            case rel => exact ⟨j + 1, by omega, by go_num, HNEW⟩
            case measure => simp [intOf]; omega
          · have HPL : Hid (spB a.kids b.kids L (j + 1) = putL (spB a.kids b.kids L j) x) := by
              show _ = _
              rw [HST.out, if_pos hfy]
            obtain ⟨WY, hWY⟩ : ∃ W, W = w5.alloc (.cells #[.int .i64 0, .string ⟨#[]⟩, .int .i64 0, .bool false, .int .i64 0, .slice none 0 0] 75) := ⟨_, rfl⟩
            have hBY : Below w5.heap.size w5 WY := by rw [hWY]; exact (Below.refl _ w5).alloc (Nat.le_refl _) _
            have hbWp : Below wr.heap.size wr WY := hBX5.trans (hBY.mono hBX5.size)
            have hBwP : Below w.heap.size w WY := hBw.trans (hbWp.mono hBw.size)
            have SO5 := SX.kept (hBX5.block _ hob)
            obtain ⟨⟨q0, q1, q2, q3, q4, q5⟩, _⟩ := SO5
            have hob5 : w4.heap.size < w5.heap.size := by omega
            have hPUT := l2PutKid_any D (.mk a.kind a.name a.no b.must a.most (spB a.kids b.kids L j)) x ar ac cr x.kids.length cc (fun g => S g ∨ (w4.heap.size < g ∧ g < WY.heap.size)) WY (hkr.kept (fun g hg => hbWp.block g (by rcases hg with hg | hg; (have := HS.out g hg; omega); exact hg.2)) (fun g hg => by rcases hg with hg | hg; exact .inl hg; exact .inr ⟨hg.1, by have := hbWp.size; omega⟩)) (hkx.kept (fun g hg => hBwP.block g (HS.out g hg)) (fun g hg => .inl hg)) (fun g hg => by rcases hg with hg | hg; (have h1 := HS.out g hg; have h2 := hBwP.size; omega); exact hg.2) (hLl)
            unfold tv at hPUT
            have HPUT : Hid (Calls Try.prog 93 #[.agg #[.int .i64 a.kind, .string a.name, .int .i64 a.no, .bool b.must, .int .i64 a.most, .slice ar (spB a.kids b.kids L j).length cr], .agg #[.int .i64 x.kind, .string x.name, .int .i64 x.no, .bool x.must, .int .i64 x.most, .slice ac x.kids.length cc]] WY fun e w' => ∃ ar' cr', e = .returned (.agg #[.int .i64 a.kind, .string a.name, .int .i64 a.no, .bool b.must, .int .i64 a.most, .slice ar' ((spB a.kids b.kids L j).length + 1) cr']) ∧ KidsIn (D + 1) w' (fun g => ((S g ∨ (w4.heap.size < g ∧ g < WY.heap.size)) ∨ WY.heap.size ≤ g) ∧ g < w'.heap.size) (.slice ar' ((spB a.kids b.kids L j).length + 1) cr') (putL (spB a.kids b.kids L j) x) ∧ Below WY.heap.size WY w') := hPUT
            clear hPUT
            clear hkr
            go_wp2_with fail
            rw [← hWY]
            clear hWY
            refine HPUT.out.mono ?_
            rintro e w7 ⟨ar', cr', rfl, hk7, hb7⟩
            have hBX7 : Below wr.heap.size wr w7 := hbWp.trans (hb7.mono hbWp.size)
            have hob7 : w4.heap.size < w7.heap.size := by have h1 := hBX7.size; omega
            have hWps : w4.heap.size < WY.heap.size := by have h1 := hbWp.size; omega
            have SO7 := SX.kept (hBX7.block _ hob)
            have HNEW0 : Hid (MeInv D a b.must a.most S w4 w4.heap.size (putL (spB a.kids b.kids L j) x) (six6 w7 w4.heap.size (.int .i64 a.kind) (.string a.name) (.int .i64 a.no) (.bool b.must) (.int .i64 a.most) (.slice ar' ((spB a.kids b.kids L j).length + 1) cr'))) := by
              refine ⟨ar', cr', ?_, ?_, ?_, by rw [six6_size]; exact hob7⟩
              · rw [putL_len]
                exact six6_six SO7 _ _ _ _ _ _
              · rw [putL_len]
                refine hk7.kept (fun g hg => six6_block _ _ _ _ _ _ _ _ g ?_) (fun g hg => ?_)
                · rcases hg.1 with (h | h) | h
                  · have h1 := HS.out g h; omega
                  · omega
                  · omega
                · rw [six6_size]
                  rcases hg.1 with (h | h) | h
                  · exact .inl h
                  · exact .inr ⟨h.1, hg.2⟩
                  · exact .inr ⟨by omega, hg.2⟩
              · unfold six6
                have h0 := hbw.trans (hBX7.mono hbw.size)
                exact (((((h0.setCell (p := ⟨w4.heap.size, 0, none⟩) (Nat.le_refl _) _).setCell (p := ⟨w4.heap.size, 1, none⟩) (Nat.le_refl _) _).setCell (p := ⟨w4.heap.size, 2, none⟩) (Nat.le_refl _) _).setCell (p := ⟨w4.heap.size, 3, none⟩) (Nat.le_refl _) _).setCell (p := ⟨w4.heap.size, 4, none⟩) (Nat.le_refl _) _).setCell (p := ⟨w4.heap.size, 5, none⟩) (Nat.le_refl _) _
            clear hk7 hb7 HPUT
            unfold six6 at HNEW0
            obtain ⟨⟨o0, o1, o2, o3, o4, o5⟩, ⟨p0, p1, p2, p3, p4, p5⟩⟩ := SO7
            clear q0 q1 q2 q3 q4 q5 k0 k1 k2 k3 k4 k5
            have HNEW1 : Hid (MeInv D a b.must a.most S w4 w4.heap.size (spB a.kids b.kids L (j + 1)) _) := HPL.out.symm ▸ HNEW0.out
            go_wp2
            go_roundw
            case rel => exact ⟨j + 1, by omega, by go_num, HNEW1⟩
            case measure => simp [intOf]; omega
        · have hke : j = b.kids.length := by omega
          subst hke
          have hge2 : ¬ ((b.kids.length : Int) < (b.kids.length : Int)) := by omega
          obtain ⟨⟨q0, q1, q2, q3, q4, q5⟩, _⟩ := SX
          have hle : w.heap.size ≤ w.heap.size + 1 + 1 := by omega
          have hob2 : w.heap.size + 1 + 1 < w4.heap.size := HS2.out
          have HK : Hid (∀ w' : World, w'.heap.size = wr.heap.size → (∀ g, g ≠ w.heap.size + 1 + 1 → w'.heap[g]? = wr.heap[g]?) → KidsIn (D + 1) w' (fun g => (S g ∨ w.heap.size ≤ g) ∧ g < w'.heap.size) (.slice ar (spB a.kids b.kids L b.kids.length).length cr) (spB a.kids b.kids L b.kids.length)) := fun w' hs' hblk => by
            refine hkr.kept (fun g hg => hblk g ?_) (fun g hg => ?_)
            · rcases hg with hg | hg
              · have := HS.out g hg; omega
              · omega
            · rcases hg with hg | hg
              · exact ⟨.inl hg, by have := HS.out g hg; omega⟩
              · exact ⟨.inr (by omega), by omega⟩
          clear hkr hinv HROW HKB IH hbw HROWB HKA
          go_wp2
          (try simp only [Exit.inBlock, Exit.then])
          have hBs := (((((hBw.setCell (p := ⟨w.heap.size + 1 + 1, 0, none⟩) hle (.int .i64 a.kind)).setCell (p := ⟨w.heap.size + 1 + 1, 1, none⟩) hle (.string a.name)).setCell (p := ⟨w.heap.size + 1 + 1, 2, none⟩) hle (.int .i64 a.no)).setCell (p := ⟨w.heap.size + 1 + 1, 3, none⟩) hle (.bool b.must)).setCell (p := ⟨w.heap.size + 1 + 1, 4, none⟩) hle (.int .i64 a.most)).setCell (p := ⟨w.heap.size + 1 + 1, 5, none⟩) hle (.slice ar (spB a.kids b.kids L b.kids.length).length cr)
          refine bodyPost_ret (v := .tuple #[.agg #[.int .i64 a.kind, .string a.name, .int .i64 a.no, .bool b.must, .int .i64 a.most, .slice ar (spB a.kids b.kids L b.kids.length).length cr], .bool true]) ?_ rfl ⟨.inl ⟨L, HSPE.out, ar, (spB a.kids b.kids L b.kids.length).length, cr, ?_, ?_⟩, ?_⟩
          · rw [results_cell_tmp rfl]
            go_simp
          · rw [HJ.out]; rfl
          · refine HK.out _ (by simp) (fun g hg => ?_)
            repeat rw [Below.heap_setCell _ _ _ _ (by show g ≠ w.heap.size + 1 + 1; omega)]
          · exact hBs

end Go.Proofs.Ytbkdpcfghaiimaa
