/- The program's FindAll. -/
import Derived.Test.YtbmgcnondeoddaaKmF
namespace Go.Proofs.Ytbmgcnondeoddaa
open Go.RowKit Plain Tpc Kmp

theorem one1 (x : Int) : ∀ u ∈ [Value.int .i64 x], u.oneCell' = true := by
  intro u hu; simp at hu; subst hu; rfl

theorem alloc_size (w : World) (o : Obj) : (w.alloc o).heap.size = w.heap.size + 1 := by simp

theorem st_fin (p s : ByteArray) (B : List Nat) (i : Nat) (h : nx p B (bt s i) (st p s B i).1 = p.size) : st p s B (i + 1) = (tkK p B (bt s i) (st p s B i).1, (st p s B i).2.1 + lk p B (bt s i) (st p s B i).1, (st p s B i).2.2 ++ [i + 1 - p.size]) := by
  rw [st, if_pos h]; unfold tkK; rw [if_pos h]
theorem st_go (p s : ByteArray) (B : List Nat) (i : Nat) (h : ¬ nx p B (bt s i) (st p s B i).1 = p.size) : st p s B (i + 1) = (tkK p B (bt s i) (st p s B i).1, (st p s B i).2.1 + lk p B (bt s i) (st p s B i).1, (st p s B i).2.2) := by
  rw [st, if_neg h]; unfold tkK; rw [if_neg h]

/-- p stands nowhere ahead of its own length -/
theorem st_room (p s : ByteArray) (hp : 0 < p.size) (i : Nat) (h : nx p (bors p p.size) (bt s i) (st p s (bors p p.size) i).1 = p.size) : p.size ≤ i + 1 := by
  obtain ⟨e1, e2, _⟩ := st_tells p s hp i
  have hs := bors_sh p p.size
  have hlt := st_lt p s hs hp i
  obtain ⟨n1, _⟩ := nx_tells hs (bors_good p p.size) (bt s) i (p.size - 1) _ (by omega) (by omega) e1 (fun m hm hM hEm => absurd hEm (e2 m hm (by omega)))
  rw [h] at n1
  exact n1.1

set_option maxRecDepth 100000 in
set_option maxHeartbeats 4000000 in
theorem implFind_in (s p : ByteArray) (w : World) (hs : s.size ≤ 200) (hp1 : 1 ≤ p.size) (hp2 : p.size ≤ 200) :
    Calls Try.prog 20 #[.string s, .string p] w fun e w' => OFind w w' e ((st p s (bors p p.size) s.size).2.2, (st p s (bors p p.size) s.size).2.1, true) := by
  obtain ⟨i0, hi, hz0, hz1, hz2⟩ := info_parts Try.infoInt
  have C1 : Hid (Calls Try.prog 49 #[.int .i64 0, .int .i64 200, .slice (some ⟨w.heap.size, 0, none⟩) 1 1] (w.alloc (.cells #[.string s] 9)) fun e w' => e = .returned (.bool true) ∧ w' = w.alloc (.cells #[.string s] 9)) := by
    have := hv_any (W := w) 0 200 s (by unfold maxLen; omega)
    rw [show decide (0 ≤ s.size ∧ s.size ≤ 200) = true by simpa using hs] at this
    exact this
  have C2 : Hid (Calls Try.prog 49 #[.int .i64 1, .int .i64 200, .slice (some ⟨w.heap.size + 1, 0, none⟩) 1 1] ((w.alloc (.cells #[.string s] 9)).alloc (.cells #[.string p] 9)) fun e w' => e = .returned (.bool true) ∧ w' = (w.alloc (.cells #[.string s] 9)).alloc (.cells #[.string p] 9)) := by
    have := hv_any (W := w.alloc (.cells #[.string s] 9)) 1 200 p (by unfold maxLen; omega)
    rw [alloc_size] at this
    rw [show decide (1 ≤ p.size ∧ p.size ≤ 200) = true by simpa using ⟨hp1, hp2⟩] at this
    exact this
  have C3 : Hid (∀ W : World, Calls Try.prog 50 #[.string p] W fun e w' => ∃ v, e = .returned v ∧ NRow w' W.heap.size v (bors p p.size) ∧ Below W.heap.size W w') := fun W => bordersOf_any p W (by omega) (by omega)
  obtain ⟨W1, hW1⟩ : ∃ W, W = (w.alloc (.cells #[.string s] 9)).alloc (.cells #[.string p] 9) := ⟨_, rfl⟩
  have hB1 : Below w.heap.size w W1 := by rw [hW1]; exact ((Below.refl _ w).alloc (Nat.le_refl _) _).alloc (by simp) _
  have HW1 : Hid (W1 = (w.alloc (.cells #[.string s] 9)).alloc (.cells #[.string p] 9)) := hW1
  clear hW1
  have hBsh := bors_sh p p.size
  have hBlen := bors_len p p.size
  have HLT : Hid (∀ i, (st p s (bors p p.size) i).1 < p.size) := st_lt p s hBsh (by omega)
  have HLOOK : Hid (∀ i, (st p s (bors p p.size) i).2.1 + (st p s (bors p p.size) i).1 ≤ 2 * i) := st_looks p s hBsh (by omega)
  have HLEN : Hid (∀ i, (st p s (bors p p.size) i).2.2.length ≤ i) := st_len p s _
  have HROOM : Hid (∀ i, nx p (bors p p.size) (bt s i) (st p s (bors p p.size) i).1 = p.size → p.size ≤ i + 1) := fun i => st_room p s (by omega) i
  generalize bors p p.size = BB at C3 hBsh hBlen HLT HLOOK HLEN HROOM
  have HSH : Hid (Sh BB) := hBsh
  have HBL : Hid (BB.length = p.size) := hBlen
  clear hBsh hBlen
  obtain ⟨R, hR⟩ : ∃ R, R = ((st p s BB s.size).2.2, (st p s BB s.size).2.1, true) := ⟨_, rfl⟩
  rw [← hR]
  have HR : Hid (R = ((st p s BB s.size).2.2, (st p s BB s.size).2.1, true)) := hR
  clear hR
  unfold OFind
  go_enter Try.func20, Try.ntmps20
  go_wp2_with fail
  refine C1.out.mono ?_
  rintro e w2 ⟨rfl, rfl⟩
  go_wp2_with fail
  refine C2.out.mono ?_
  rintro e w2 ⟨rfl, rfl⟩
  rw [← HW1.out]
  go_wp2_with fail
  refine (C3.out _).mono ?_
  rintro e w3 ⟨vb, rfl, hrow, hb3⟩
  obtain ⟨aob, capb, hvb, _⟩ := hrow.slice
  subst hvb
  have hB3 : Below w.heap.size w w3 := hB1.trans (hb3.mono hB1.size)
  have hltb := World.ownsRow.lt hrow
  obtain ⟨W4, hW4⟩ : ∃ W, W = w3.alloc (.cells #[.string p, (Value.slice aob BB.length capb), .int .i64 0, .int .i64 0] 74) := ⟨_, rfl⟩
  have hB4 : Below w.heap.size w W4 := by rw [hW4]; exact hB3.alloc hB3.size _
  have hs4 : W4.heap.size = w3.heap.size + 1 := by rw [hW4]; simp
  have hH4 : Hol W4 w3.heap.size p (Value.slice aob BB.length capb) 0 0 := by
    rw [hW4]
    refine ⟨by simp, ?_, ?_, ?_, ?_, ?_, ?_, ?_⟩ <;> first | go_simp | simp
  have hR4 : NRow W4 W1.heap.size (Value.slice aob BB.length capb) BB := by rw [hW4]; exact World.ownsRow.alloc hrow _
  have HNE : Hid (∀ g, (Value.slice aob BB.length capb).ownBlock = some g → g < w3.heap.size) := fun g hg => (hltb g hg).2
  have HW4 : Hid (W4 = w3.alloc (.cells #[.string p, (Value.slice aob BB.length capb), .int .i64 0, .int .i64 0] 74)) := hW4
  have HS4 : Hid (W4.heap.size = w3.heap.size + 1) := hs4
  have hw3 := hB3.size
  obtain ⟨hb, hhb⟩ : ∃ hb, hb = w3.heap.size := ⟨_, rfl⟩
  rw [← hhb] at hH4 HNE HS4 hw3
  have HHB : Hid (hb = w3.heap.size) := hhb
  clear hW4 hrow hb3 hltb hB1 hB3 C1 C2 C3 hs4 hhb
  go_upto_region 4 with fail
  rw [← HW4.out, ← HHB.out]
  clear HW4
  go_wp2
  go_loopw [8, 26] (fun vo vi wr => ∃ (i : Nat), i ≤ s.size ∧ vi = .int .i64 (i : Int) ∧ Hol wr hb p (Value.slice aob BB.length capb) (st p s BB i).1 (st p s BB i).2.1 ∧ NRow wr W1.heap.size (Value.slice aob BB.length capb) BB ∧ NRow wr (hb + 1) vo (st p s BB i).2.2 ∧ Below w.heap.size w wr)
    (fun _ vi _ => s.size - (intOf vi).toNat)
  case atStart => exact ⟨0, by omega, rfl, hH4, hR4, World.ownsRow_nil _ _ _ _, hB4⟩
  case round =>
    obtain ⟨i, his, rfl, H1, hR1, hO1, hb1⟩ := hrel
    have HH1 : Hid (Hol wr hb p (Value.slice aob BB.length capb) (st p s BB i).1 (st p s BB i).2.1) := H1
    have HR1 : Hid (NRow wr W1.heap.size (Value.slice aob BB.length capb) BB) := hR1
    have HO1 : Hid (NRow wr (hb + 1) u8 (st p s BB i).2.2) := hO1
    have hs1 := hb1.size
    have hhl : hb < wr.heap.size := H1.lt
    clear H1 hR1 hO1 hH4 hR4 hB4
    by_cases hlt : i < s.size
    · have hltI : (i : Int) < (s.size : Int) := by omega
      have hbt := bt_get s i hlt
      have hl9 := HLEN.out i
      have hk9 := HLT.out i
      have CT := take_any hb _ (st p s BB i).2.1 (bt s i) W1.heap.size p (Value.slice aob BB.length capb) BB wr HH1.out HR1.out (fun g hg => by have := HNE.out g hg; omega) HSH.out hk9 (by rw [HBL.out]; omega) (fun _ => by rw [HBL.out]; exact Nat.le_refl _) (by omega) (by have := HLOOK.out i; omega)
      have CT' : Hid (Calls Try.prog 51 #[.pointer (some ⟨hb, 0, none⟩), .int .u8 ((bt s i : Nat) : Int)] wr fun e w' => e = .returned (.bool (decide (nx p BB (bt s i) (st p s BB i).1 = p.size))) ∧ Hol w' hb p (Value.slice aob BB.length capb) (tkK p BB (bt s i) (st p s BB i).1) ((st p s BB i).2.1 + lk p BB (bt s i) (st p s BB i).1) ∧ wr.grownBy w' (some hb)) := CT
      clear CT hk9 HH1
      by_cases hfull : nx p BB (bt s i) (st p s BB i).1 = p.size
      · have hd : decide (nx p BB (bt s i) (st p s BB i).1 = p.size) = true := by simpa using hfull
        have HST : Hid (st p s BB (i + 1) = (tkK p BB (bt s i) (st p s BB i).1, (st p s BB i).2.1 + lk p BB (bt s i) (st p s BB i).1, (st p s BB i).2.2 ++ [i + 1 - p.size])) := st_fin p s BB i hfull
        have hroom := HROOM.out i hfull
        rw [hd] at CT'
        clear hd hfull
        generalize tkK p BB (bt s i) (st p s BB i).1 = k2 at CT' HST
        generalize (st p s BB i).2.1 + lk p BB (bt s i) (st p s BB i).1 = l2 at CT' HST
        generalize (st p s BB i).2.2 = L at HST HO1 hl9
        go_wp2_with fail
        refine CT'.out.mono ?_
        rintro e w2 ⟨rfl, H2, hg2⟩
        have HH2 : Hid (Hol w2 hb p (Value.slice aob BB.length capb) k2 l2) := H2
        have hb2 : Below w.heap.size w w2 := hb1.grown hg2 hs1 (fun k hk => by simp at hk; omega)
        have HR2 : Hid (NRow w2 W1.heap.size (Value.slice aob BB.length capb) BB) := HR1.out.grown hg2 (fun g hg e => by have := HNE.out g hg; simp at e; omega)
        have hO2 : NRow w2 (hb + 1) u8 L := HO1.out.grown hg2 (fun g hg e => by have := (World.ownsRow.lt HO1.out g hg).1; simp at e; omega)
        have hown' : w2.ownsRow (hb + 1) 3 1 u8 L.length (ints L) := hO2
        have hhl2 : hb + 1 ≤ w2.heap.size := H2.lt
        have hs2 := hb2.size
        have hval : ((i : Int) + 1 - (p.size : Int)) = ((i + 1 - p.size : Nat) : Int) := by omega
        have HVAL : Hid (((i : Int) + 1 - (p.size : Int)) = ((i + 1 - p.size : Nat) : Int)) := hval
        clear H2 hg2 HR1 HO1 hb1 hs1 CT' hO2 hval hhl
        go_wp2_with (at_builtin; refine wpList_append_lies _ rfl _ _ 22 rfl (hb + 1) 3 i0 (.int .i64 0) 1 8 Try.underlying22 hi hz0 hz1 hz2 rfl (by decide) _ L.length _ rfl (World.ownsRow.alloc hown' _) ⟨w2.heap.size, 0, none⟩ 1 1 [Value.int .i64 ((i : Int) + 1 - (p.size : Int))] rfl rfl (World.news_of_block (heap_alloc_new w2 _)) (one1 _) (by omega) (by unfold maxLen; omega) (by omega) (by simp; omega) (w2.heap.size + 1) (by simp) ?_)
        intro g9 cap9 w4 hown4 hgrow hat hlt4
        have hgA := (Below.refl w2.heap.size w2).alloc (Nat.le_refl _) (.cells #[Value.int .i64 ((i : Int) + 1 - (p.size : Int))] 3)
        have H4 : Hol w4 hb p (Value.slice aob BB.length capb) k2 l2 := (HH2.out.below hgA).grown hgrow (fun e => by have := (World.ownsRow.lt hown' hb e.symm).1; omega)
        have hR4 : NRow w4 W1.heap.size (Value.slice aob BB.length capb) BB := (HR2.out.below hgA).grown hgrow (fun g hg e => by have h1 := HNE.out g hg; have h2 := (World.ownsRow.lt hown' g e.symm).1; omega)
        have hb4 : Below w.heap.size w w4 := (hb2.alloc hs2 _).grown hgrow (by simp; omega) (fun k hk => by have := (World.ownsRow.lt hown' k hk).1; omega)
        have hO4 : NRow w4 (hb + 1) (.slice (some ⟨g9, 0, none⟩) (L.length + 1) cap9) (L ++ [i + 1 - p.size]) := NRow.snoc hown4 rfl (by rw [HVAL.out])
        clear hown4 hgrow hat hown' hb2 hgA
        go_wp2
        go_roundw
        case rel => exact ⟨i + 1, by omega, by go_num, by rw [HST.out]; exact H4, hR4, by rw [HST.out]; exact hO4, hb4⟩
        case measure => simp [intOf]; omega
      · have hd : decide (nx p BB (bt s i) (st p s BB i).1 = p.size) = false := by simpa using hfull
        have HST : Hid (st p s BB (i + 1) = (tkK p BB (bt s i) (st p s BB i).1, (st p s BB i).2.1 + lk p BB (bt s i) (st p s BB i).1, (st p s BB i).2.2)) := st_go p s BB i hfull
        rw [hd] at CT'
        clear hd hfull
        generalize tkK p BB (bt s i) (st p s BB i).1 = k2 at CT' HST
        generalize (st p s BB i).2.1 + lk p BB (bt s i) (st p s BB i).1 = l2 at CT' HST
        generalize (st p s BB i).2.2 = L at HST HO1 hl9
        go_wp2_with fail
        refine CT'.out.mono ?_
        rintro e w2 ⟨rfl, H2, hg2⟩
        have HH2 : Hid (Hol w2 hb p (Value.slice aob BB.length capb) k2 l2) := H2
        have hb2 : Below w.heap.size w w2 := hb1.grown hg2 hs1 (fun k hk => by simp at hk; omega)
        have HR2 : Hid (NRow w2 W1.heap.size (Value.slice aob BB.length capb) BB) := HR1.out.grown hg2 (fun g hg e => by have := HNE.out g hg; simp at e; omega)
        have HO2 : Hid (NRow w2 (hb + 1) u8 L) := HO1.out.grown hg2 (fun g hg e => by have := (World.ownsRow.lt HO1.out g hg).1; simp at e; omega)
        clear H2 hg2 HR1 HO1 hb1 hs1 CT'
        go_wp2
        go_roundw
        case rel => exact ⟨i + 1, by omega, by go_num, by rw [HST.out]; exact HH2.out, HR2.out, by rw [HST.out]; exact HO2.out, hb2⟩
        case measure => simp [intOf]; omega
    · have hke : i = s.size := by omega
      have hge : ¬ ((i : Int) < (s.size : Int)) := by omega
      obtain ⟨h0, c0, c1, c2, c3, f1, f2, f3⟩ := HH1.out
      obtain ⟨ao, cap, hu8, _⟩ := HO1.out.slice
      have HOE : Hid (NRow wr w.heap.size u8 R.1) := by show NRow _ _ _ _; rw [HR.out, ← hke]; exact HO1.out.lower (by omega)
      have HRE : Hid (R = ((st p s BB i).2.2, (st p s BB i).2.1, true)) := by show _ = _; rw [HR.out, hke]
      have hl9 := HLOOK.out i
      subst hu8
      generalize (st p s BB i).2.1 = l2 at c3 HRE hl9
      clear hke HO1
      go_wp2_with fail
      go_quiet (fail)
      go_wp2
      go_ret3
      exact ⟨_, by rw [HRE.out]; rfl, HOE.out, below_drewT hb1⟩

set_option maxRecDepth 100000 in
set_option maxHeartbeats 4000000 in
theorem implFind (s p : ByteArray) (w : World) (hs : s.size ≤ maxLen) (hm : p.size ≤ maxLen) :
    Calls Try.prog 20 #[.string s, .string p] w fun e w' => OFind w w' e (fof s p) := by
  obtain ⟨R, hR⟩ : ∃ R, R = fof s p := ⟨_, rfl⟩
  by_cases h : s.size ≤ 200 ∧ 1 ≤ p.size ∧ p.size ≤ 200
  · rw [show fof s p = ((st p s (bors p p.size) s.size).2.2, (st p s (bors p p.size) s.size).2.1, true) by unfold fof; rw [if_pos h]]
    exact implFind_in s p w h.1 h.2.1 h.2.2
  · rw [← hR]
    have HR : Hid (R = ([], 0, false)) := by show _ = _; rw [hR]; unfold fof; rw [if_neg h]
    have C1 : Hid (Calls Try.prog 49 #[.int .i64 0, .int .i64 200, .slice (some ⟨w.heap.size, 0, none⟩) 1 1] (w.alloc (.cells #[.string s] 9)) fun e w' => e = .returned (.bool (decide (0 ≤ s.size ∧ s.size ≤ 200))) ∧ w' = w.alloc (.cells #[.string s] 9)) := hv_any (W := w) 0 200 s hs
    have C2 : Hid (Calls Try.prog 49 #[.int .i64 1, .int .i64 200, .slice (some ⟨w.heap.size + 1, 0, none⟩) 1 1] ((w.alloc (.cells #[.string s] 9)).alloc (.cells #[.string p] 9)) fun e w' => e = .returned (.bool (decide (1 ≤ p.size ∧ p.size ≤ 200))) ∧ w' = (w.alloc (.cells #[.string s] 9)).alloc (.cells #[.string p] 9)) := by
      have := hv_any (W := w.alloc (.cells #[.string s] 9)) 1 200 p hm
      rw [alloc_size] at this
      exact this
    have hB1 : Below w.heap.size w (w.alloc (.cells #[.string s] 9)) := (Below.refl _ w).alloc (Nat.le_refl _) _
    have hB2 : Below w.heap.size w ((w.alloc (.cells #[.string s] 9)).alloc (.cells #[.string p] 9)) := hB1.alloc (by simp) _
    unfold OFind
    by_cases h1 : s.size ≤ 200
    · have e1 : decide (0 ≤ s.size ∧ s.size ≤ 200) = true := by simpa using h1
      have e2 : decide (1 ≤ p.size ∧ p.size ≤ 200) = false := by simp; omega
      rw [e1] at C1
      rw [e2] at C2
      clear hR h h1 e1 e2
      go_enter Try.func20, Try.ntmps20
      go_wp2_with fail
      refine C1.out.mono ?_
      rintro e w2 ⟨rfl, rfl⟩
      go_wp2_with fail
      refine C2.out.mono ?_
      rintro e w2 ⟨rfl, rfl⟩
      go_wp2
      go_ret3
      exact ⟨_, by rw [HR.out]; rfl, by rw [HR.out]; exact World.ownsRow_nil _ _ _ _, hB2⟩
    · have e1 : decide (0 ≤ s.size ∧ s.size ≤ 200) = false := by simp; omega
      rw [e1] at C1
      clear hR h h1 e1
      go_enter Try.func20, Try.ntmps20
      go_wp2_with fail
      refine C1.out.mono ?_
      rintro e w2 ⟨rfl, rfl⟩
      go_wp2
      go_ret3
      exact ⟨_, by rw [HR.out]; rfl, by rw [HR.out]; exact World.ownsRow_nil _ _ _ _, hB1⟩

end Go.Proofs.Ytbmgcnondeoddaa
