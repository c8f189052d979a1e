/- The program's meetParts. -/
import Derived.Test.YtbkdpcfghaiimaaMeA
import Derived.Test.YtbkdpcfghaiimaaJoB
namespace Go.Proofs.Ytbkdpcfghaiimaa
open Go.RowKit Plain Sch

def MeetSh (d : Nat) : Prop := ∀ (a b : Tr) (va vb : Value) (Sa Sb : Nat → Prop) (w : World), ShIn d w Sa va a → ShIn d w Sb vb b → (∀ g, Sa g → g < w.heap.size) → (∀ g, Sb g → g < w.heap.size) →
  Calls Try.prog 84 #[va, vb] w fun e w' => ShR d w w' Sa Sb e (meetT d a b) ∧ Below w.heap.size w w'

theorem meetTo_len {F : Tr → Tr → Option Tr} {la lb : List Tr} : ∀ {n : Nat} {l : List Tr}, meetTo F la lb n = some l → l.length ≤ n
  | 0, l, h => by rw [meetTo] at h; cases h; simp
  | n + 1, l, h => by
    rw [meetTo] at h
    obtain ⟨l0, hl0, hl⟩ := Option.bind_eq_some_iff.1 h
    obtain ⟨s, hs, rfl⟩ := Option.map_eq_some_iff.1 hl
    have h1 := meetTo_len hl0
    have h2 : s.length ≤ 1 := by
      unfold stepL at hs
      split at hs
      · obtain ⟨z, _, rfl⟩ := Option.map_eq_some_iff.1 hs; simp
      · cases hs; simp
      · cases hs; simp
      · cases hs; simp
    rw [List.length_append]
    omega

theorem meetTo_gone {F : Tr → Tr → Option Tr} {la lb : List Tr} {n : Nat} (h : meetTo F la lb n = none) : ∀ m, meetTo F la lb (n + m) = none
  | 0 => h
  | m + 1 => by
    show meetTo F la lb (n + m + 1) = none
    rw [meetTo, meetTo_gone h m]; rfl

/-- what meetParts answers -/
def MpR (d : Nat) (la lb : List Tr) (Sa Sb : Nat → Prop) (w w' : World) (e : Ending) : Prop :=
  (∃ L rv, meetTo (meetT d) la lb 30 = some L ∧ e = .returned (.tuple #[rv, .bool true]) ∧ PartsIn d w' (fun g => ((Sa g ∨ Sb g) ∨ w.heap.size ≤ g) ∧ g < w'.heap.size) rv L) ∨
  (meetTo (meetT d) la lb 30 = none ∧ e = .returned (.tuple #[.slice none 0 0, .bool false]))

set_option maxRecDepth 100000 in
set_option maxHeartbeats 8000000 in
theorem meetParts_of (d : Nat) (ih0 : MeetSh d) (la lb : List Tr) (ca cb : Value) (Sa Sb : Nat → Prop) (w : World) (hA : PartsIn d w Sa ca la) (hB : PartsIn d w Sb cb lb) (hSa : ∀ g, Sa g → g < w.heap.size) (hSb : ∀ g, Sb g → g < w.heap.size) :
    Calls Try.prog 42 #[ca, cb] w fun e w' => MpR d la lb Sa Sb w w' e ∧ Below w.heap.size w w' := by
  obtain ⟨i0, hi, hz0, hz1, hz2⟩ := info_parts Try.infoPt
  have ih : Hid (MeetSh d) := ih0
  have HKA : Hid (PartsIn d w Sa ca la) := hA
  have HKB : Hid (PartsIn d w Sb cb lb) := hB
  obtain ⟨aa, capa, rfl, _, _, _⟩ := hA
  obtain ⟨ab, capb, rfl, _, _, _⟩ := hB
  have HSa : Hid (∀ g, Sa g → g < w.heap.size) := hSa
  have HSb : Hid (∀ g, Sb g → g < w.heap.size) := hSb
  clear hSa hSb ih0
  go_enter Try.func42, Try.ntmps42
  go_wp2
  go_loopw [6, 7] (fun s6 vi wr => ∃ (n : Nat) (L : List Tr) (vr : Value), n ≤ 30 ∧ vr = s6 ∧ vi = .int .i64 ((n : Int) + 1) ∧ Hid (meetTo (meetT d) la lb n = some L) ∧ Hid (PJ (fun g => Sa g ∨ Sb g) w.heap.size d w L vr wr))
    (fun _ vi _ => 31 - (intOf vi).toNat)
  case atStart => exact ⟨0, [], _, by omega, rfl, rfl, rfl, PJ.start⟩
  case round =>
    obtain ⟨n, L, vr, hn30, hvr, rfl, HMT, hinv⟩ := hrel
    subst hvr
    have hB0 := hinv.out.below
    have hs0 := hB0.size
    have hll := meetTo_len HMT.out
    by_cases hlt : n < 30
    · have hlt' : ((n : Int) + 1) ≤ 30 := by omega
      have HVR : Hid (∀ g, vr.ownBlock = some g → w.heap.size ≤ g ∧ g < wr.heap.size) := fun g hg => by obtain ⟨xs, hown⟩ := hinv.out.own; exact hown.lt g hg
      go_wp2_with fail
      refine (partByNo_any d la _ ((n : Int) + 1) Sa _ (HKA.out.kept (fun g hg => hB0.block g (HSa.out g hg)) (fun _ h => h)) (fun g hg => by have h1 := HSa.out g hg; omega)).mono ?_
      rintro e w3 ⟨hbx, hb3⟩
      have hB3 : Below w.heap.size w w3 := hB0.trans (hb3.mono hs0)
      have hs3 := hb3.size
      rcases hbx with ⟨x, xa, xv, hfx, rfl, hkx⟩ | ⟨hfx, rfl⟩
      · have HKX : Hid (∀ W : World, Below w3.heap.size w3 W → ShIn d W Sa (.iface xa xv) x) := fun W hW => hkx.kept (fun g hg => hW.block g (by have h := HSa.out g hg; omega)) (fun _ h => h)
        clear hkx
        obtain ⟨W4, hW4⟩ : ∃ W, W = w3.alloc (.cells #[.string x.name, .int .i64 x.no, .bool x.must, .iface xa xv] 86) := ⟨_, rfl⟩
        have hb34 : Below w3.heap.size w3 W4 := by rw [hW4]; exact (Below.refl _ w3).alloc (Nat.le_refl _) _
        have HS4 : Hid (W4.heap.size = w3.heap.size + 1) := by show _ = _; rw [hW4]; simp
        have hB4 : Below w.heap.size w W4 := hB3.trans (hb34.mono hB3.size)
        have hb04 : Below wr.heap.size wr W4 := hb3.trans (hb34.mono hs3)
        have HX4 : Hid (W4.cell? ⟨w3.heap.size, 0, none⟩ = some (.string x.name) ∧ W4.cell? ⟨w3.heap.size, 1, none⟩ = some (.int .i64 x.no) ∧ W4.cell? ⟨w3.heap.size, 2, none⟩ = some (.bool x.must) ∧ W4.cell? ⟨w3.heap.size, 3, none⟩ = some (.iface xa xv)) := by rw [hW4]; exact ⟨by simp, by simp, by simp, by simp⟩
        go_wp2_with fail
        rw [← hW4]
        clear hW4
        refine (partByNo_any d lb _ ((n : Int) + 1) Sb _ (HKB.out.kept (fun g hg => hB4.block g (HSb.out g hg)) (fun _ h => h)) (fun g hg => by have h1 := HSb.out g hg; have h2 := hB4.size; omega)).mono ?_
        rintro e w5 ⟨hby, hb5⟩
        have hs5 := hb5.size
        have hz5 : w3.heap.size < w5.heap.size := by have := HS4.out; omega
        have hB5 : Below w.heap.size w w5 := hB4.trans (hb5.mono hB4.size)
        have hb05 : Below wr.heap.size wr w5 := hb04.trans (hb5.mono hb04.size)
        obtain ⟨k0, k1, k2, k3⟩ : w5.cell? ⟨w3.heap.size, 0, none⟩ = some (.string x.name) ∧ w5.cell? ⟨w3.heap.size, 1, none⟩ = some (.int .i64 x.no) ∧ w5.cell? ⟨w3.heap.size, 2, none⟩ = some (.bool x.must) ∧ w5.cell? ⟨w3.heap.size, 3, none⟩ = some (.iface xa xv) := by
          have h4 := HS4.out
          have f : ∀ j, w5.cell? ⟨w3.heap.size, j, none⟩ = W4.cell? ⟨w3.heap.size, j, none⟩ := fun j => hb5.cell (p := ⟨w3.heap.size, j, none⟩) (by show w3.heap.size < _; omega)
          obtain ⟨h0, h1, h2, h3⟩ := HX4.out
          exact ⟨(f 0).trans h0, (f 1).trans h1, (f 2).trans h2, (f 3).trans h3⟩
        have H35 : Hid (Below w3.heap.size w3 w5) := hb34.trans (hb5.mono hb34.size)
        clear hb34 hb04 hB4 HX4 hb5
        rcases hby with ⟨y, ya, yv, hfy, rfl, hky⟩ | ⟨hfy, rfl⟩
        · obtain ⟨W6, hW6⟩ : ∃ W, W = w5.alloc (.cells #[.string y.name, .int .i64 y.no, .bool y.must, .iface ya yv] 86) := ⟨_, rfl⟩
          have hb56 : Below w5.heap.size w5 W6 := by rw [hW6]; exact (Below.refl _ w5).alloc (Nat.le_refl _) _
          have HS6 : Hid (W6.heap.size = w5.heap.size + 1) := by show _ = _; rw [hW6]; simp
          have hB6 : Below w.heap.size w W6 := hB5.trans (hb56.mono hB5.size)
          have HP6 : Hid (PJ (fun g => Sa g ∨ Sb g) w.heap.size d w L vr W6) := hinv.out.more (hb05.trans (hb56.mono hb05.size)) hs0

          have r0 : W6.cell? ⟨w5.heap.size, 0, none⟩ = some (.string y.name) := by rw [hW6]; simp
          have r1 : W6.cell? ⟨w5.heap.size, 1, none⟩ = some (.int .i64 y.no) := by rw [hW6]; simp
          have r2 : W6.cell? ⟨w5.heap.size, 2, none⟩ = some (.bool y.must) := by rw [hW6]; simp
          have r3 : W6.cell? ⟨w5.heap.size, 3, none⟩ = some (.iface ya yv) := by rw [hW6]; simp
          have hz56 : w5.heap.size < W6.heap.size := by have := HS6.out; omega

          have kx : ∀ j, W6.cell? ⟨w3.heap.size, j, none⟩ = w5.cell? ⟨w3.heap.size, j, none⟩ := fun j => hb56.cell (p := ⟨w3.heap.size, j, none⟩) hz5
          have q0 := (kx 0).trans k0
          have q1 := (kx 1).trans k1
          have q2 := (kx 2).trans k2
          have q3 := (kx 3).trans k3
          have hz36 : w3.heap.size < W6.heap.size := by have := HS6.out; omega
          clear kx k0 k1 k2 k3

          have HC6 : Hid (∀ W : World, Below W6.heap.size W6 W → (W.cell? ⟨w3.heap.size, 0, none⟩ = some (.string x.name) ∧ W.cell? ⟨w3.heap.size, 2, none⟩ = some (.bool x.must) ∧ W.cell? ⟨w5.heap.size, 2, none⟩ = some (.bool y.must)) ∧ w3.heap.size < W.heap.size ∧ w5.heap.size < W.heap.size) := fun W hW => ⟨⟨(hW.cell (p := ⟨w3.heap.size, 0, none⟩) hz36).trans q0, (hW.cell (p := ⟨w3.heap.size, 2, none⟩) hz36).trans q2, (hW.cell (p := ⟨w5.heap.size, 2, none⟩) hz56).trans r2⟩, by have := hW.size; omega, by have := hW.size; omega⟩
          have IC : Hid (Calls Try.prog 84 #[.iface xa xv, .iface ya yv] W6 fun e w' => ShR d W6 w' Sa Sb e (meetT d x y) ∧ Below W6.heap.size W6 w') := ih.out x y (.iface xa xv) (.iface ya yv) Sa Sb W6 (HKX.out W6 (H35.out.trans (hb56.mono H35.out.size))) (hky.kept (fun g hg => hb56.block g (by have h := HSb.out g hg; have h2 := hB5.size; omega)) (fun _ h => h)) (fun g hg => by have h1 := HSa.out g hg; have h2 := hB6.size; omega) (fun g hg => by have h1 := HSb.out g hg; have h2 := hB6.size; omega)
          unfold ShR at IC
          clear hky
          have hxn : Hid (x.no = (n : Int) + 1) := (byNo_hit hfx).1
          go_upto_region 8 with fail
          rw [← hW6]
          clear hW6
          go_wp2_with fail
          refine IC.out.mono ?_
          rintro e w7 ⟨hres, hb7⟩
          have hs7 := hb7.size
          obtain ⟨⟨u0, u2, u5⟩, hz37, hz57⟩ := HC6.out w7 hb7
          have HPW : Hid (PJ (fun g => Sa g ∨ Sb g) w.heap.size d w L vr w7) := HP6.out.more hb7 (by have := hB6.size; omega)
          have hw07 : w.heap.size ≤ w7.heap.size := by have := hB6.size; omega
          have HW6r : Hid (wr.heap.size ≤ W6.heap.size) := by have h1 := HS6.out; have h2 := HS4.out; show _ ≤ _; omega
          have HB7 : Hid (Below w.heap.size w w7) := hB6.trans (hb7.mono hB6.size)
          clear hb7 HP6 IC HC6 q0 q1 q2 q3 r0 r1 r2 r3 hb56
          rcases hres with ⟨t, ta, tv, hjt, rfl, hsht⟩ | ⟨hjt, v, rfl, hv⟩
          · have HJT : Hid (meetT d x y = some t) := hjt
            have HFX : Hid (byNo la ((n : Int) + 1) = some x ∧ byNo lb ((n : Int) + 1) = some y) := ⟨hfx, hfy⟩
            clear hjt hfx hfy
            cases hm : x.must
            · rw [hm] at u2
              obtain ⟨xsW, hownW⟩ := HPW.out.own
              go_wp2_with (at_builtin; refine wpList_append_lies _ rfl _ _ 68 rfl w.heap.size 86 i0 (.agg #[.string ⟨#[]⟩, .int .i64 0, .bool false, .nilIface]) 4 48 Try.underlying68 hi hz0 hz1 hz2 rfl (by decide) _ L.length _ rfl (hownW.alloc _) ⟨w7.heap.size, 0, none⟩ 1 1 [Value.string x.name, .int .i64 ((n : Int) + 1), .bool y.must, .iface ta tv] rfl rfl ?c1 one4 ?c2 ?c3 ?c4 ?c5 (w7.heap.size + 1) ?c6 ?_)
              case c1 => exact World.news_of_block (heap_alloc_new w7 _)
              case c2 => omega
              case c3 => unfold maxLen; omega
              case c4 => omega
              case c5 => simp; omega
              case c6 => simp
              intro g9 cap9 w9 hown9 hgrow9 hat9 hlt9
              have hWa : Below w7.heap.size w7 (w7.alloc (.cells #[Value.string x.name, .int .i64 ((n : Int) + 1), .bool y.must, .iface ta tv] 86)) := (Below.refl _ w7).alloc (Nat.le_refl _) _
              have hstep : Hid (PJ (fun g => Sa g ∨ Sb g) w.heap.size d w (L ++ [t]) (.slice (some ⟨g9, 0, none⟩) (L.length + 1) cap9) w9) := by
                show PJ _ _ _ _ _ _ _
                refine PJ.step (t := t) (u := (ta, tv)) (S2 := fun g => ((Sa g ∨ Sb g) ∨ W6.heap.size ≤ g) ∧ g < w7.heap.size) HPW.out (by omega) hWa ((hsht).kept (fun g hg => hWa.block g ?_) (fun _ h => h)) (fun g hg => ⟨?_, ?_, fun e => ?_⟩) hownW ?_ (by simpa using hown9) hgrow9 (by rcases hat9 with h | h; exact .inl h; exact .inr (by simp; omega))
                · exact hg.2
                · rcases hg.1 with h | h
                  · exact .inl h
                  · exact .inr (by have h2 := HW6r.out; omega)
                · have := hWa.size; have := hg.2; omega
                · have h1 := HVR.out g e
                  rcases hg.1 with (h | h) | h
                  · have := HSa.out g h; omega
                  · have := HSb.out g h; omega
                  · have h2 := HW6r.out; omega
                · have hf := meetT_form HJT.out; unfold ptCells; rw [hf.1, hf.2.1, hf.2.2, hm, hxn.out]; rfl
              have HMT2 : Hid (meetTo (meetT d) la lb (n + 1) = some (L ++ [t])) := by
                show _ = _
                rw [meetTo, HMT.out]
                show (stepL (meetT d) la lb n).map _ = _
                unfold stepL; rw [HFX.out.1, HFX.out.2]; dsimp only; rw [HJT.out]; rfl
              clear hown9 hgrow9 hat9 HPW hownW hsht u0 u2 u5
              go_wp2
              go_roundw
              case rel => exact ⟨n + 1, L ++ [t], _, by omega, rfl, by go_num, HMT2, by simpa using hstep⟩
              case measure => simp [intOf]; omega
            · rw [hm] at u2
              obtain ⟨xsW, hownW⟩ := HPW.out.own
              go_wp2_with (at_builtin; refine wpList_append_lies _ rfl _ _ 68 rfl w.heap.size 86 i0 (.agg #[.string ⟨#[]⟩, .int .i64 0, .bool false, .nilIface]) 4 48 Try.underlying68 hi hz0 hz1 hz2 rfl (by decide) _ L.length _ rfl (hownW.alloc _) ⟨w7.heap.size, 0, none⟩ 1 1 [Value.string x.name, .int .i64 ((n : Int) + 1), .bool true, .iface ta tv] rfl rfl ?c1 one4 ?c2 ?c3 ?c4 ?c5 (w7.heap.size + 1) ?c6 ?_)
              case c1 => exact World.news_of_block (heap_alloc_new w7 _)
              case c2 => omega
              case c3 => unfold maxLen; omega
              case c4 => omega
              case c5 => simp; omega
              case c6 => simp
              intro g9 cap9 w9 hown9 hgrow9 hat9 hlt9
              have hWa : Below w7.heap.size w7 (w7.alloc (.cells #[Value.string x.name, .int .i64 ((n : Int) + 1), .bool true, .iface ta tv] 86)) := (Below.refl _ w7).alloc (Nat.le_refl _) _
              have hstep : Hid (PJ (fun g => Sa g ∨ Sb g) w.heap.size d w (L ++ [t]) (.slice (some ⟨g9, 0, none⟩) (L.length + 1) cap9) w9) := by
                show PJ _ _ _ _ _ _ _
                refine PJ.step (t := t) (u := (ta, tv)) (S2 := fun g => ((Sa g ∨ Sb g) ∨ W6.heap.size ≤ g) ∧ g < w7.heap.size) HPW.out (by omega) hWa ((hsht).kept (fun g hg => hWa.block g ?_) (fun _ h => h)) (fun g hg => ⟨?_, ?_, fun e => ?_⟩) hownW ?_ (by simpa using hown9) hgrow9 (by rcases hat9 with h | h; exact .inl h; exact .inr (by simp; omega))
                · exact hg.2
                · rcases hg.1 with h | h
                  · exact .inl h
                  · exact .inr (by have h2 := HW6r.out; omega)
                · have := hWa.size; have := hg.2; omega
                · have h1 := HVR.out g e
                  rcases hg.1 with (h | h) | h
                  · have := HSa.out g h; omega
                  · have := HSb.out g h; omega
                  · have h2 := HW6r.out; omega
                · have hf := meetT_form HJT.out; unfold ptCells; rw [hf.1, hf.2.1, hf.2.2, hm, hxn.out]; rfl
              have HMT2 : Hid (meetTo (meetT d) la lb (n + 1) = some (L ++ [t])) := by
                show _ = _
                rw [meetTo, HMT.out]
                show (stepL (meetT d) la lb n).map _ = _
                unfold stepL; rw [HFX.out.1, HFX.out.2]; dsimp only; rw [HJT.out]; rfl
              clear hown9 hgrow9 hat9 HPW hownW hsht u0 u2 u5
              go_wp2
              go_roundw
              case rel => exact ⟨n + 1, L ++ [t], _, by omega, rfl, by go_num, HMT2, by simpa using hstep⟩
              case measure => simp [intOf]; omega
          · have HNO : Hid (meetTo (meetT d) la lb 30 = none) := by
              have h1 : meetTo (meetT d) la lb (n + 1) = none := by
                rw [meetTo, HMT.out]
                show (stepL (meetT d) la lb n).map _ = none
                unfold stepL
                rw [hfx, hfy]
                dsimp only
                rw [hjt]; rfl
              have h2 := meetTo_gone h1 (29 - n)
              rwa [show n + 1 + (29 - n) = 30 by omega] at h2
            clear hjt hfx hfy HPW
            rcases hv with rfl | ⟨va, vx, rfl⟩
            · go_wp2
              go_ret2
              exact ⟨.inr ⟨HNO.out, rfl⟩, HB7.out⟩
            · go_wp2
              go_ret2
              exact ⟨.inr ⟨HNO.out, rfl⟩, HB7.out⟩
        · obtain ⟨W6, hW6⟩ : ∃ W, W = w5.alloc (.cells #[.string ⟨#[]⟩, .int .i64 0, .bool false, .nilIface] 86) := ⟨_, rfl⟩
          have hb56 : Below w5.heap.size w5 W6 := by rw [hW6]; exact (Below.refl _ w5).alloc (Nat.le_refl _) _
          have HS6 : Hid (W6.heap.size = w5.heap.size + 1) := by show _ = _; rw [hW6]; simp
          have hB6 : Below w.heap.size w W6 := hB5.trans (hb56.mono hB5.size)
          have HP6 : Hid (PJ (fun g => Sa g ∨ Sb g) w.heap.size d w L vr W6) := hinv.out.more (hb05.trans (hb56.mono hb05.size)) hs0

          have kx : ∀ j, W6.cell? ⟨w3.heap.size, j, none⟩ = w5.cell? ⟨w3.heap.size, j, none⟩ := fun j => hb56.cell (p := ⟨w3.heap.size, j, none⟩) hz5
          have q0 := (kx 0).trans k0
          have q1 := (kx 1).trans k1
          have q2 := (kx 2).trans k2
          have q3 := (kx 3).trans k3
          have hz36 : w3.heap.size < W6.heap.size := by have := HS6.out; omega
          clear kx k0 k1 k2 k3

          have hw06 : w.heap.size ≤ W6.heap.size := hB6.size
          have HFX : Hid (byNo la ((n : Int) + 1) = some x ∧ byNo lb ((n : Int) + 1) = none) := ⟨hfx, hfy⟩
          have HSH : Hid (ShIn d W6 Sa (.iface xa xv) x) := HKX.out W6 (H35.out.trans (hb56.mono H35.out.size))
          have HPW := HP6
          clear hfx hfy HP6 hb56
          go_upto_region 13 with fail
          rw [← hW6]
          clear hW6

          obtain ⟨xsW, hownW⟩ := HPW.out.own
          go_wp2_with (at_builtin; refine wpList_append_lies _ rfl _ _ 68 rfl w.heap.size 86 i0 (.agg #[.string ⟨#[]⟩, .int .i64 0, .bool false, .nilIface]) 4 48 Try.underlying68 hi hz0 hz1 hz2 rfl (by decide) _ L.length _ rfl (hownW.alloc _) ⟨W6.heap.size, 0, none⟩ 1 1 [Value.string x.name, .int .i64 x.no, .bool x.must, .iface xa xv] rfl rfl ?c1 one4 ?c2 ?c3 ?c4 ?c5 (W6.heap.size + 1) ?c6 ?_)
          case c1 => exact World.news_of_block (heap_alloc_new W6 _)
          case c2 => omega
          case c3 => unfold maxLen; omega
          case c4 => omega
          case c5 => simp; omega
          case c6 => simp
          intro g9 cap9 w9 hown9 hgrow9 hat9 hlt9
          have hWa : Below W6.heap.size W6 (W6.alloc (.cells #[Value.string x.name, .int .i64 x.no, .bool x.must, .iface xa xv] 86)) := (Below.refl _ W6).alloc (Nat.le_refl _) _
          have hstep : Hid (PJ (fun g => Sa g ∨ Sb g) w.heap.size d w (L ++ [x]) (.slice (some ⟨g9, 0, none⟩) (L.length + 1) cap9) w9) := by
            show PJ _ _ _ _ _ _ _
            refine PJ.step (t := x) (u := (xa, xv)) (S2 := Sa) HPW.out (by omega) hWa ((HSH.out).kept (fun g hg => hWa.block g ?_) (fun _ h => h)) (fun g hg => ⟨?_, ?_, fun e => ?_⟩) hownW ?_ (by simpa using hown9) hgrow9 (by rcases hat9 with h | h; exact .inl h; exact .inr (by simp; omega))
            · have h := HSa.out g hg; have h2 := hB6.size; omega
            · exact .inl (.inl hg)
            · have h := HSa.out g hg; have h2 := hB6.size; have h3 := hWa.size; omega
            · have h1 := HVR.out g e; have h := HSa.out g hg; omega
            · rfl
          have HMT2 : Hid (meetTo (meetT d) la lb (n + 1) = some (L ++ [x])) := by
            show _ = _
            rw [meetTo, HMT.out]
            show (stepL (meetT d) la lb n).map _ = _
            unfold stepL; rw [HFX.out.1, HFX.out.2]; rfl
          clear hown9 hgrow9 hat9 HPW hownW q0 q1 q2 q3
          go_wp2
          go_roundw
          case rel => exact ⟨n + 1, L ++ [x], _, by omega, rfl, by go_num, HMT2, by simpa using hstep⟩
          case measure => simp [intOf]; omega
      · obtain ⟨W4, hW4⟩ : ∃ W, W = w3.alloc (.cells #[.string ⟨#[]⟩, .int .i64 0, .bool false, .nilIface] 86) := ⟨_, rfl⟩
        have hb34 : Below w3.heap.size w3 W4 := by rw [hW4]; exact (Below.refl _ w3).alloc (Nat.le_refl _) _
        have HS4 : Hid (W4.heap.size = w3.heap.size + 1) := by show _ = _; rw [hW4]; simp
        have hB4 : Below w.heap.size w W4 := hB3.trans (hb34.mono hB3.size)
        have hb04 : Below wr.heap.size wr W4 := hb3.trans (hb34.mono hs3)
        have HX4 : Hid (W4.cell? ⟨w3.heap.size, 0, none⟩ = some (.string ⟨#[]⟩) ∧ W4.cell? ⟨w3.heap.size, 1, none⟩ = some (.int .i64 0) ∧ W4.cell? ⟨w3.heap.size, 2, none⟩ = some (.bool false) ∧ W4.cell? ⟨w3.heap.size, 3, none⟩ = some (.nilIface)) := by rw [hW4]; exact ⟨by simp, by simp, by simp, by simp⟩
        go_wp2_with fail
        rw [← hW4]
        clear hW4
        refine (partByNo_any d lb _ ((n : Int) + 1) Sb _ (HKB.out.kept (fun g hg => hB4.block g (HSb.out g hg)) (fun _ h => h)) (fun g hg => by have h1 := HSb.out g hg; have h2 := hB4.size; omega)).mono ?_
        rintro e w5 ⟨hby, hb5⟩
        have hs5 := hb5.size
        have hz5 : w3.heap.size < w5.heap.size := by have := HS4.out; omega
        have hB5 : Below w.heap.size w w5 := hB4.trans (hb5.mono hB4.size)
        have hb05 : Below wr.heap.size wr w5 := hb04.trans (hb5.mono hb04.size)
        obtain ⟨k0, k1, k2, k3⟩ : w5.cell? ⟨w3.heap.size, 0, none⟩ = some (.string ⟨#[]⟩) ∧ w5.cell? ⟨w3.heap.size, 1, none⟩ = some (.int .i64 0) ∧ w5.cell? ⟨w3.heap.size, 2, none⟩ = some (.bool false) ∧ w5.cell? ⟨w3.heap.size, 3, none⟩ = some (.nilIface) := by
          have h4 := HS4.out
          have f : ∀ j, w5.cell? ⟨w3.heap.size, j, none⟩ = W4.cell? ⟨w3.heap.size, j, none⟩ := fun j => hb5.cell (p := ⟨w3.heap.size, j, none⟩) (by show w3.heap.size < _; omega)
          obtain ⟨h0, h1, h2, h3⟩ := HX4.out
          exact ⟨(f 0).trans h0, (f 1).trans h1, (f 2).trans h2, (f 3).trans h3⟩
        have H35 : Hid (Below w3.heap.size w3 w5) := hb34.trans (hb5.mono hb34.size)
        clear hb34 hb04 hB4 HX4 hb5
        rcases hby with ⟨y, ya, yv, hfy, rfl, hky⟩ | ⟨hfy, rfl⟩
        · obtain ⟨W6, hW6⟩ : ∃ W, W = w5.alloc (.cells #[.string y.name, .int .i64 y.no, .bool y.must, .iface ya yv] 86) := ⟨_, rfl⟩
          have hb56 : Below w5.heap.size w5 W6 := by rw [hW6]; exact (Below.refl _ w5).alloc (Nat.le_refl _) _
          have HS6 : Hid (W6.heap.size = w5.heap.size + 1) := by show _ = _; rw [hW6]; simp
          have hB6 : Below w.heap.size w W6 := hB5.trans (hb56.mono hB5.size)
          have HP6 : Hid (PJ (fun g => Sa g ∨ Sb g) w.heap.size d w L vr W6) := hinv.out.more (hb05.trans (hb56.mono hb05.size)) hs0

          have r0 : W6.cell? ⟨w5.heap.size, 0, none⟩ = some (.string y.name) := by rw [hW6]; simp
          have r1 : W6.cell? ⟨w5.heap.size, 1, none⟩ = some (.int .i64 y.no) := by rw [hW6]; simp
          have r2 : W6.cell? ⟨w5.heap.size, 2, none⟩ = some (.bool y.must) := by rw [hW6]; simp
          have r3 : W6.cell? ⟨w5.heap.size, 3, none⟩ = some (.iface ya yv) := by rw [hW6]; simp
          have hz56 : w5.heap.size < W6.heap.size := by have := HS6.out; omega

          have hw06 : w.heap.size ≤ W6.heap.size := hB6.size
          have HFX : Hid (byNo la ((n : Int) + 1) = none ∧ byNo lb ((n : Int) + 1) = some y) := ⟨hfx, hfy⟩
          have HSH : Hid (ShIn d W6 Sb (.iface ya yv) y) := hky.kept (fun g hg => hb56.block g (by have h := HSb.out g hg; have h2 := hB5.size; omega)) (fun _ h => h)
          have HPW := HP6
          clear hfx hfy HP6 hb56 hky k0 k1 k2 k3
          go_upto_region 15 with fail
          rw [← hW6]
          clear hW6

          obtain ⟨xsW, hownW⟩ := HPW.out.own
          go_wp2_with (at_builtin; refine wpList_append_lies _ rfl _ _ 68 rfl w.heap.size 86 i0 (.agg #[.string ⟨#[]⟩, .int .i64 0, .bool false, .nilIface]) 4 48 Try.underlying68 hi hz0 hz1 hz2 rfl (by decide) _ L.length _ rfl (hownW.alloc _) ⟨W6.heap.size, 0, none⟩ 1 1 [Value.string y.name, .int .i64 y.no, .bool y.must, .iface ya yv] rfl rfl ?c1 one4 ?c2 ?c3 ?c4 ?c5 (W6.heap.size + 1) ?c6 ?_)
          case c1 => exact World.news_of_block (heap_alloc_new W6 _)
          case c2 => omega
          case c3 => unfold maxLen; omega
          case c4 => omega
          case c5 => simp; omega
          case c6 => simp
          intro g9 cap9 w9 hown9 hgrow9 hat9 hlt9
          have hWa : Below W6.heap.size W6 (W6.alloc (.cells #[Value.string y.name, .int .i64 y.no, .bool y.must, .iface ya yv] 86)) := (Below.refl _ W6).alloc (Nat.le_refl _) _
          have hstep : Hid (PJ (fun g => Sa g ∨ Sb g) w.heap.size d w (L ++ [y]) (.slice (some ⟨g9, 0, none⟩) (L.length + 1) cap9) w9) := by
            show PJ _ _ _ _ _ _ _
            refine PJ.step (t := y) (u := (ya, yv)) (S2 := Sb) HPW.out (by omega) hWa ((HSH.out).kept (fun g hg => hWa.block g ?_) (fun _ h => h)) (fun g hg => ⟨?_, ?_, fun e => ?_⟩) hownW ?_ (by simpa using hown9) hgrow9 (by rcases hat9 with h | h; exact .inl h; exact .inr (by simp; omega))
            · have h := HSb.out g hg; have h2 := hB6.size; omega
            · exact .inl (.inr hg)
            · have h := HSb.out g hg; have h2 := hB6.size; have h3 := hWa.size; omega
            · have h1 := HVR.out g e; have h := HSb.out g hg; omega
            · rfl
          have HMT2 : Hid (meetTo (meetT d) la lb (n + 1) = some (L ++ [y])) := by
            show _ = _
            rw [meetTo, HMT.out]
            show (stepL (meetT d) la lb n).map _ = _
            unfold stepL; rw [HFX.out.1, HFX.out.2]; rfl
          clear hown9 hgrow9 hat9 HPW hownW r0 r1 r2 r3
          go_wp2
          go_roundw
          case rel => exact ⟨n + 1, L ++ [y], _, by omega, rfl, by go_num, HMT2, by simpa using hstep⟩
          case measure => simp [intOf]; omega
        · obtain ⟨W6, hW6⟩ : ∃ W, W = w5.alloc (.cells #[.string ⟨#[]⟩, .int .i64 0, .bool false, .nilIface] 86) := ⟨_, rfl⟩
          have hb56 : Below w5.heap.size w5 W6 := by rw [hW6]; exact (Below.refl _ w5).alloc (Nat.le_refl _) _
          have HS6 : Hid (W6.heap.size = w5.heap.size + 1) := by show _ = _; rw [hW6]; simp
          have hB6 : Below w.heap.size w W6 := hB5.trans (hb56.mono hB5.size)
          have HP6 : Hid (PJ (fun g => Sa g ∨ Sb g) w.heap.size d w L vr W6) := hinv.out.more (hb05.trans (hb56.mono hb05.size)) hs0

          have HMT2 : Hid (meetTo (meetT d) la lb (n + 1) = some L) := by
            show _ = _
            rw [meetTo, HMT.out]
            show (stepL (meetT d) la lb n).map _ = _
            unfold stepL
            rw [hfx, hfy]
            simp
          rw [hW6] at HP6
          clear hfx hfy hb56 hW6 HS6 hB6 k0 k1 k2 k3
          go_wp2
          go_roundw
          case rel => exact ⟨n + 1, L, _, by omega, rfl, by go_num, HMT2, HP6⟩
          case measure => simp [intOf]; omega
    · have hke : n = 30 := by omega
      subst hke
      have HP : Hid (PartsIn d wr (fun g => ((Sa g ∨ Sb g) ∨ w.heap.size ≤ g) ∧ g < wr.heap.size) vr L) := hinv.out.parts
      clear hinv
      obtain ⟨ar, cr, rfl, _⟩ := id HP.out
      go_wp2
      go_ret2
      exact ⟨.inl ⟨L, _, HMT.out, rfl, HP.out⟩, hB0⟩

end Go.Proofs.Ytbkdpcfghaiimaa
