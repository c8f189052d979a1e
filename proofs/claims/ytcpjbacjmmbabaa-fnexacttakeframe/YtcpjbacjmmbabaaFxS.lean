/- A reader fed: the model's FeedReader. -/
import Derived.Test.YtcpjbacjmmbabaaFxR
namespace Go.Proofs.Ytcpjbacjmmbabaa
open Go.RowKit Plain Tpc Frm
attribute [local go_sem ↓] Go.wp_at_zero Go.wp_at_succ

theorem cap_step (L T : List ByteArray) (i : Nat) (hi : i < T.length) :
    (((L ++ T.take i).take 40).length < 40 → (L ++ T.take (i + 1)).take 40 = (L ++ T.take i).take 40 ++ [lq T i]) ∧ (¬ ((L ++ T.take i).take 40).length < 40 → (L ++ T.take (i + 1)).take 40 = (L ++ T.take i).take 40) := by
  have e : L ++ T.take (i + 1) = (L ++ T.take i) ++ [lq T i] := by
    rw [List.take_add_one, List.append_assoc]
    unfold lq
    rw [List.getD_eq_getElem?_getD, List.getElem?_eq_getElem hi]
    rfl
  rw [e]
  generalize L ++ T.take i = M
  rw [List.length_take]
  refine ⟨fun h => ?_, fun h => ?_⟩
  · rw [List.take_of_length_le (by rw [List.length_append, List.length_singleton]; omega), List.take_of_length_le (by omega)]
  · rw [List.take_append_of_le_length (by omega)]

theorem alc (w : World) (o : Obj) : w.heap.size ≤ (w.alloc o).heap.size := by simp

theorem Rv.grown {w w' : World} {b : Nat} {x y z : Value} {row : Option Nat} (h : Rv w b x y z) (hg : w.grownBy w' row) (hne : some b ≠ row) : Rv w' b x y z := by
  have hb := hg.block b h.low hne
  exact ⟨Nat.lt_of_lt_of_le h.low hg.size, (World.cell?_of_block (w := w) hb).trans h.c0, (World.cell?_of_block (w := w) hb).trans h.c1, (World.cell?_of_block (w := w) hb).trans h.c2, (World.frozen?_of_block (w := w) hb).trans h.f0, (World.frozen?_of_block (w := w) hb).trans h.f1, (World.frozen?_of_block (w := w) hb).trans h.f2⟩

/-- the reader that is being fed, in memory -/
structure Fed (w w2 wx : World) (b6 : Nat) (q : ByteArray) (v : Value) (L : List ByteArray) (bad : Bool) : Prop where
  var : Rv wx b6 (.string q) v (.bool bad)
  row : StRow wx w2.heap.size v L
  far : w2.heap.size ≤ b6
  own : ∀ g, v.ownBlock = some g → g ≠ b6
  blw : Below w2.heap.size w2 wx

theorem Rv.set {w : World} {b : Nat} {x y z : Value} (h : Rv w b x y z) (x' y' z' : Value) : Rv (((w.setCell ⟨b, 0, none⟩ x').setCell ⟨b, 1, none⟩ y').setCell ⟨b, 2, none⟩ z') b x' y' z' := by
  obtain ⟨h1, h2, h3, h4, h5, h6, h7⟩ := h
  have e1 : (w.setCell ⟨b, 0, none⟩ x').cell? ⟨b, 1, none⟩ = some y := by rw [World.cell?_setCell_other _ _ _ _ (by simp)]; exact h3
  have e2 : ((w.setCell ⟨b, 0, none⟩ x').setCell ⟨b, 1, none⟩ y').cell? ⟨b, 2, none⟩ = some z := by rw [World.cell?_setCell_other _ _ _ _ (by simp), World.cell?_setCell_other _ _ _ _ (by simp)]; exact h4
  refine ⟨by simp; exact h1, ?_, ?_, World.cell?_setCell_same _ _ _ e2, by simp [World.frozen?_setCell]; exact h5, by simp [World.frozen?_setCell]; exact h6, by simp [World.frozen?_setCell]; exact h7⟩
  · rw [World.cell?_setCell_other _ _ _ _ (by simp), World.cell?_setCell_other _ _ _ _ (by simp)]; exact World.cell?_setCell_same _ _ _ h2
  · rw [World.cell?_setCell_other _ _ _ _ (by simp)]; exact World.cell?_setCell_same _ _ _ e1

theorem Fed.mk1 {w w2 w9 : World} {q : ByteArray} {v : Value} {L : List ByteArray} {bad : Bool} (hb9 : Below w2.heap.size w2 w9) (hr : StRow w9 w2.heap.size v L) : Fed w w2 (w9.alloc (.cells #[.string q, v, .bool bad] 33)) w9.heap.size q v L bad :=
  ⟨Rv.fresh w9 _ _ _ _, hr.below ((Below.refl _ _).alloc (Nat.le_refl _) _), hb9.size, fun g hg e => by have := (World.ownsRow.lt hr g hg).2; omega, hb9.alloc hb9.size _⟩

theorem Fed.mk2 {w w2 w9 : World} {b6 : Nat} {q : ByteArray} {v x y z : Value} {L : List ByteArray} {bad : Bool} (hb9 : Below w2.heap.size w2 w9) (hr : StRow w9 w2.heap.size v L) (hV : Rv w9 b6 x y z) (hf : w2.heap.size ≤ b6) (ho : ∀ g, v.ownBlock = some g → g ≠ b6) :
    Fed w w2 (((w9.setCell ⟨b6, 0, none⟩ (.string q)).setCell ⟨b6, 1, none⟩ v).setCell ⟨b6, 2, none⟩ (.bool bad)) b6 q v L bad :=
  ⟨hV.set _ _ _, own_setCell (own_setCell (own_setCell hr _ 0 _ ho) _ 1 _ ho) _ 2 _ ho, hf, ho, ((hb9.setCell (p := ⟨b6, 0, none⟩) hf _).setCell (p := ⟨b6, 1, none⟩) hf _).setCell (p := ⟨b6, 2, none⟩) hf _⟩

theorem lower_rowS {w : World} {B B' : Nat} {v : Value} {L : List ByteArray} (h : StRow w B v L) (hB : B' ≤ B) : StRow w B' v L := by
  refine ⟨h.1, ?_⟩
  rcases h.2 with hn | ⟨g, cap, cur, hv, hg, rest⟩
  · exact .inl hn
  · exact .inr ⟨g, cap, cur, hv, by omega, rest⟩

/-- a round's reader -/
structure FdI (w2 wc wr : World) (b6 : Nat) (q : ByteArray) (vT vg : Value) (T G : List ByteArray) : Prop where
  var : Rv wr b6 (.string q) vg (.bool false)
  row : StRow wr w2.heap.size vg G
  own : ∀ g, vg.ownBlock = some g → g ≠ b6
  tex : StRow wr wc.heap.size vT T
  apt : ∀ g, vg.ownBlock = some g → vT.ownBlock ≠ some g
  blw : Below w2.heap.size w2 wr

theorem Rv.set1 {w : World} {b : Nat} {x y z : Value} (h : Rv w b x y z) (y' : Value) : Rv (w.setCell ⟨b, 1, none⟩ y') b x y' z := by
  obtain ⟨h1, h2, h3, h4, h5, h6, h7⟩ := h
  refine ⟨by simp; exact h1, ?_, World.cell?_setCell_same _ _ _ h3, ?_, by simp [World.frozen?_setCell]; exact h5, by simp [World.frozen?_setCell]; exact h6, by simp [World.frozen?_setCell]; exact h7⟩
  · rw [World.cell?_setCell_other _ _ _ _ (by simp)]; exact h2
  · rw [World.cell?_setCell_other _ _ _ _ (by simp)]; exact h4

theorem FdI.push {w2 wc wr w9 : World} {b6 g9 cap9 : Nat} {q x : ByteArray} {vT vg : Value} {T G : List ByteArray} {o : Obj} (h : FdI w2 wc wr b6 q vT vg T G) (hb6 : w2.heap.size ≤ b6) (hbc : b6 < wc.heap.size)
    (hown9 : w9.ownsRow w2.heap.size 9 1 (.slice (some ⟨g9, 0, none⟩) (G.length + 1) cap9) (G.length + 1) (strs G ++ [.string x])) (hgrow : (wr.alloc o).grownBy w9 vg.ownBlock) (hat : vg.ownBlock = some g9 ∨ g9 = wr.heap.size + 1) :
    FdI w2 wc (w9.setCell ⟨b6, 1, none⟩ (.slice (some ⟨g9, 0, none⟩) (G.length + 1) cap9)) b6 q vT (.slice (some ⟨g9, 0, none⟩) (G.length + 1) cap9) T (G ++ [x]) := by
  obtain ⟨h1, h2, h3, h4, h5, h6⟩ := h
  have hBa : Below wr.heap.size wr (wr.alloc o) := (Below.refl _ wr).alloc (Nat.le_refl _) o
  have hlT := World.ownsRow.lt h4
  have hlo := h1.low
  have hne : some b6 ≠ vg.ownBlock := fun e => h3 b6 e.symm rfl
  have hg9 : g9 ≠ b6 := by
    rcases hat with h | h
    · exact h3 g9 h
    · omega
  have hTb : ∀ g, vT.ownBlock = some g → g ≠ b6 := fun g hg => by have := (hlT g hg).1; omega
  refine ⟨((h1.below hBa).grown hgrow hne).set1 _, own_setCell (StRow.snocF hown9 rfl rfl) b6 1 _ (fun g hg => by simp [Value.ownBlock] at hg; omega), fun g hg => by simp [Value.ownBlock] at hg; omega,
    own_setCell (own_asideF (own_belowY h4 hBa) hgrow (fun g hg e => h5 g e.symm hg)) b6 1 _ hTb, fun g hg e => ?_, ((h6.alloc h6.size o).grown hgrow (by have := h6.size; simp; omega) (fun k hk => (World.ownsRow.lt h2 k hk).1)).setCell (p := ⟨b6, 1, none⟩) hb6 _⟩
  simp [Value.ownBlock] at hg
  subst hg
  rcases hat with h | h
  · exact h5 g9 h e
  · have := (hlT g9 e).2
    omega

theorem row_zero {w9 : World} {B n : Nat} {a : Option Addr} {c : Nat} {L : List ByteArray} (h : w9.ownsRow B 9 1 (.slice a (0 + L.length) c) (0 + L.length) ([] ++ strs L)) (hn : n = L.length) : StRow w9 B (.slice a n c) L := by
  rw [Nat.zero_add, List.nil_append] at h
  subst hn
  exact h

set_option maxRecDepth 100000 in
set_option maxHeartbeats 16000000 in
theorem specFeed (r : Rdr) (v : Value) (s : ByteArray) (w : World) (hT : StAt w w.heap.size v r.got) (hN : ∀ i, i < r.got.length → (lq r.got i).size ≤ 9223372036854775807) (hR : r.rest.size ≤ 2000000) (hs : s.size ≤ maxLen) :
    Calls Try.prog 31 #[r.val v, .string s] w fun e w' => FeO w w' e r s := by
  have rc := fun (tmps : Array Value) (P : Program) (w : World) => results_cell_tmp (fn := Try.f31) (p := 4) (u := 5) (ty := 33) rfl tmps P w
  obtain ⟨i0, hi, hz0, hz1, hz2⟩ := info_parts infoStr
  unfold maxLen at hs
  have HNO : Hid (fdK r s = false → ∀ w', Below w.heap.size w w' → FeO w w' (.returned (.tuple #[.agg #[.string ⟨#[]⟩, .slice none 0 0, .bool false], .bool false])) r s) := fun h w' hb => FeO.no h hb
  have HYES : Hid (fdK r s = true → ∀ w' v, StRow w' w.heap.size v (fdG r s).got → Below w.heap.size w w' → FeO w w' (.returned (.tuple #[.agg #[.string (fdG r s).rest, v, .bool (fdG r s).bad], .bool true])) r s) := fun h w' v hr hb => FeO.yes h hr hb
  have HGP : Hid (gdr r = true → r.got.length ≤ 40 ∧ mor (ul r.rest) = true) := fun h => ⟨(gdr_parts h).1, (gdr_parts h).2.2.1⟩
  have hK : Hid (fdK r s = (gdr r && decide (s.size ≤ 300))) := rfl
  obtain ⟨W0, hW0⟩ : ∃ W, W = (w.alloc (.cells #[.string r.rest, v, .bool r.bad] 33)).alloc (.cells #[.string ⟨#[]⟩, .slice none 0 0, .bool false] 33) := ⟨_, rfl⟩
  have hB0 : Below w.heap.size w W0 := by rw [hW0]; exact ((Below.refl _ w).alloc (Nat.le_refl _) _).alloc (by simp) _
  have hb1 := Rv.fresh w (.string r.rest) v (.bool r.bad) 33
  have V1 : Rv W0 w.heap.size (.string r.rest) v (.bool r.bad) := by rw [hW0]; exact hb1.below ((Below.refl _ _).alloc (Nat.le_refl _) _)
  have V2 : Rv W0 (w.heap.size + 1) (.string ⟨#[]⟩) (.slice none 0 0) (.bool false) := by
    have h := Rv.fresh (w.alloc (.cells #[.string r.rest, v, .bool r.bad] 33)) (.string ⟨#[]⟩) (.slice none 0 0) (.bool false) 33
    rw [hW0]
    simpa using h
  have CG : Hid (Calls Try.prog 28 #[r.val v] W0 fun e w' => e = .returned (.bool (gdr r)) ∧ Below W0.heap.size W0 w') := specGood r v W0 (hT.below hB0) hN hR
  have hTT := hT
  obtain ⟨ao, cap, rfl, hlc, hcm, hrow⟩ := hT
  unfold maxLen at hcm
  have HB0 : Hid (Below w.heap.size w W0) := hB0
  have HT : Hid (StAt w w.heap.size (.slice ao r.got.length cap) r.got) := hTT
  have HG1 : Hid (r.bad = true → fdG r s = r) := fun h => by unfold fdG; rw [if_pos h]
  have HG2 : Hid (r.bad = false → fdG r s = ⟨tx (unR (ul (r.rest ++ s))), (r.got ++ unT (ul (r.rest ++ s))).take 40, unB (ul (r.rest ++ s))⟩) := fun h => by unfold fdG; rw [if_neg (by rw [h]; simp), ul_append]
  unfold Rdr.val at CG ⊢
  generalize fdG r s = F at HYES HG1 HG2
  obtain ⟨q, L, bad⟩ := r
  dsimp only at *
  have HV1 : Hid (Rv W0 w.heap.size (.string q) (.slice ao L.length cap) (.bool bad)) := V1
  have HV2 : Hid (Rv W0 (w.heap.size + 1) (.string ⟨#[]⟩) (.slice none 0 0) (.bool false)) := V2
  have y0 := V1.c0
  have y1 := V1.c1
  have y2 := V1.c2
  clear hTT hrow hN V1 V2 hb1 hB0
  generalize gdr ⟨q, L, bad⟩ = gd at CG hK HGP
  generalize fdK ⟨q, L, bad⟩ s = K at HNO HYES hK
  go_enter Try.func31, Try.ntmps31
  go_upto_region 1 with fail
  rw [← hW0]
  clear hW0
  go_wp2_with fail
  go_at_call 28
  refine CG.out.mono ?_
  rintro e w2 ⟨rfl, hb2⟩
  have HB2 : Hid (Below w.heap.size w w2) := HB0.out.trans (hb2.mono HB0.out.size)
  have V1 := HV1.out.below hb2
  have V2 := HV2.out.below hb2
  have hs2 := HB2.out.size
  clear y0 y1 y2 CG hb2 HB0 HV1 HV2
  have y0 := V1.c0
  have y1 := V1.c1
  have y2 := V1.c2
  have x0 := V2.c0
  have x1 := V2.c1
  have x2 := V2.c2
  have u0 := V2.f0
  have u1 := V2.f1
  have u2 := V2.f2
  by_cases hgs : gd = true ∧ s.size ≤ 300
  case neg =>
    have hF := HNO.out (by
      rw [hK.out]
      by_cases h1 : gd = true
      · rw [h1, decide_eq_false (fun h => hgs ⟨h1, h⟩)]; rfl
      · have : gd = false := by simpa using h1
        rw [this]; rfl)
    have HF : Hid (type_of% hF) := hF
    clear hF HNO HYES hK HG1 HG2 HGP
    cases gd with
    | false =>
      go_wp2_with fail
      (try simp only [Exit.inBlock, Exit.then])
      refine bodyPost_ret (v := .tuple #[.agg #[.string ⟨#[]⟩, .slice none 0 0, .bool false], .bool false]) ?_ rfl (HF.out _ ?_)
      · rw [rc]
        go_simp
      · exact ((HB2.out.setCell (p := ⟨w.heap.size + 1, 0, none⟩) (by simp) _).setCell (p := ⟨w.heap.size + 1, 1, none⟩) (by simp) _).setCell (p := ⟨w.heap.size + 1, 2, none⟩) (by simp) _
    | true =>
      have h300 : (300 : Int) < (s.size : Int) := by
        have : ¬ s.size ≤ 300 := fun h => hgs ⟨rfl, h⟩
        omega
      clear hgs
      go_wp2_with fail
      (try simp only [Exit.inBlock, Exit.then])
      refine bodyPost_ret (v := .tuple #[.agg #[.string ⟨#[]⟩, .slice none 0 0, .bool false], .bool false]) ?_ rfl (HF.out _ ?_)
      · rw [rc]
        go_simp
      · exact ((HB2.out.setCell (p := ⟨w.heap.size + 1, 0, none⟩) (by simp) _).setCell (p := ⟨w.heap.size + 1, 1, none⟩) (by simp) _).setCell (p := ⟨w.heap.size + 1, 2, none⟩) (by simp) _
  case pos =>
    obtain ⟨hg1, hs300⟩ := hgs
    subst hg1
    have hY := HYES.out (by rw [hK.out, decide_eq_true hs300]; rfl)
    have HY : Hid (type_of% hY) := hY
    obtain ⟨hl40, hmor⟩ := HGP.out rfl
    have hq62 := mor_short hmor
    rw [ul_len] at hq62
    have h300 : ¬ (300 : Int) < (s.size : Int) := by omega
    have l1 := V1.low
    have l2 := V2.low
    have KW : Hid (∀ W, Below w2.heap.size w2 W → Below w.heap.size w W ∧ (W.cell? ⟨w.heap.size, 0, none⟩ = some (.string q) ∧ W.cell? ⟨w.heap.size, 1, none⟩ = some (.slice ao L.length cap) ∧ W.cell? ⟨w.heap.size, 2, none⟩ = some (.bool bad)) ∧ Rv W (w.heap.size + 1) (.string ⟨#[]⟩) (.slice none 0 0) (.bool false)) := fun W hW => by
      have h1 := V1.below hW
      exact ⟨HB2.out.trans (hW.mono hs2), ⟨h1.c0, h1.c1, h1.c2⟩, V2.below hW⟩
    have hOm : ∀ W : World, w2.heap.size ≤ W.heap.size → (W.alloc (.cells #[] 9)).ownsRow w2.heap.size 9 1 (.slice (some ⟨W.heap.size, 0, none⟩) 0 0) 0 [] := fun W hW => World.ownsRow_made W #[] 0 hW (by unfold maxLen; omega) rfl
    have O1 : Hid (((w2.alloc (.cells #[] 9)).drew).ownsRow w2.heap.size 9 1 (.slice (some ⟨w2.heap.size, 0, none⟩) 0 0) 0 []) := own_belowY (hOm w2 (Nat.le_refl _)) (Below.refl _ _).drew
    have O2 : Hid ((((w2.alloc (.cells #[] 9)).alloc (.cells #[.string ⟨#[]⟩, .slice none 0 0, .bool false] 33)).drew).ownsRow w2.heap.size 9 1 (.slice (some ⟨w2.heap.size, 0, none⟩) 0 0) 0 []) := own_belowY (World.ownsRow.alloc (hOm w2 (Nat.le_refl _)) _) (Below.refl _ _).drew
    have O3 : Hid ((((w2.alloc (.cells #[.string ⟨#[]⟩, .slice none 0 0, .bool false] 33)).alloc (.cells #[] 9)).drew).ownsRow w2.heap.size 9 1 (.slice (some ⟨w2.heap.size + 1, 0, none⟩) 0 0) 0 []) := by
      have h := own_belowY (hOm (w2.alloc (.cells #[.string ⟨#[]⟩, .slice none 0 0, .bool false] 33)) (alc _ _)) (Below.refl _ _).drew
      rw [World.size_alloc] at h
      exact h
    clear hOm
    have hrow0 : ∀ k, (Value.slice (some ⟨w2.heap.size, 0, none⟩) 0 0).ownBlock = some k → w2.heap.size ≤ k := fun k hk => by simp [Value.ownBlock] at hk; omega
    have hrow1 : ∀ k, (Value.slice (some ⟨w2.heap.size + 1, 0, none⟩) 0 0).ownBlock = some k → w2.heap.size ≤ k := fun k hk => by simp [Value.ownBlock] at hk; omega
    have F2 : Rv (((w2.alloc (.cells #[] 9)).alloc (.cells #[.string ⟨#[]⟩, .slice none 0 0, .bool false] 33)).drew) (w2.heap.size + 1) (.string ⟨#[]⟩) (.slice none 0 0) (.bool false) := by
      have h := (Rv.fresh (w2.alloc (.cells #[] 9)) (.string ⟨#[]⟩) (.slice none 0 0) (.bool false) 33).below (Below.refl _ _).drew
      rw [World.size_alloc] at h
      exact h
    have F3 : Rv (((w2.alloc (.cells #[.string ⟨#[]⟩, .slice none 0 0, .bool false] 33)).alloc (.cells #[] 9)).drew) w2.heap.size (.string ⟨#[]⟩) (.slice none 0 0) (.bool false) :=
      ((Rv.fresh w2 (.string ⟨#[]⟩) (.slice none 0 0) (.bool false) 33).below ((Below.refl _ _).alloc (Nat.le_refl _) _)).below (Below.refl _ _).drew
    have HF2 : Hid (type_of% F2) := F2
    have HF3 : Hid (type_of% F3) := F3
    clear F2 F3
    have hlL : Hid ((strs L).length = L.length * 1) := by show _ = _; unfold strs; rw [List.length_map, Nat.mul_one]
    clear hY HNO HYES hK HGP x0 x1 x2 u0 u1 u2 V1 V2
    go_upto_region 3 with fail
    go_cut [6] from 21 to 30 (fun s6 wx => ∃ (b6 : Nat) (a : Option Addr) (c : Nat), s6 = .pointer (some ⟨b6, 0, none⟩) ∧ Fed w w2 wx b6 q (.slice a L.length c) L bad)
    case first =>
      go_region_held3 (fun W => W.cell? ⟨w.heap.size, 0, none⟩ = some (.string q) ∧ W.cell? ⟨w.heap.size, 1, none⟩ = some (.slice ao L.length cap) ∧ W.cell? ⟨w.heap.size, 2, none⟩ = some (.bool bad))
        (first | with_reducible exact (KW.out _ (Below.refl _ w2).drew).2.1 | with_reducible exact (KW.out _ ((Below.refl w2.heap.size w2).alloc (Nat.le_refl _) _).drew).2.1 | with_reducible exact (KW.out _ (((Below.refl w2.heap.size w2).alloc (Nat.le_refl _) _).alloc (alc _ _) _).drew).2.1 | with_reducible exact (KW.out _ hb9).2.1 | with_reducible exact (KW.out _ (hb9.alloc hb9.size _)).2.1 | exact (KW.out _ (((hb9.setCell (p := ⟨w2.heap.size, 0, none⟩) (Nat.le_refl _) _).setCell (p := ⟨w2.heap.size, 1, none⟩) (Nat.le_refl _) _).setCell (p := ⟨w2.heap.size, 2, none⟩) (Nat.le_refl _) _)).2.1 | exact (KW.out _ (((hb9.setCell (p := ⟨w2.heap.size + 1, 0, none⟩) (Nat.le_succ _) _).setCell (p := ⟨w2.heap.size + 1, 1, none⟩) (Nat.le_succ _) _).setCell (p := ⟨w2.heap.size + 1, 2, none⟩) (Nat.le_succ _) _)).2.1)
        ((refine step_append_mayF _ (by rfl) _ _ _ (by rfl) w2.heap.size 9 i0 (.string ByteArray.empty) 1 16 Try.underlying27 hi hz0 hz1 hz2 rfl (by decide) _ 0 [] (by rfl) ?_ _ L.length _ (strs L) (by rfl) hlL.out (StAt.news (HT.out.keep (KW.out _ ?_).1)) (one_strs _) (by unfold maxLen; omega) (by omega) (by simp; try omega) ?_; (first | exact O1.out | exact O2.out | exact O3.out); (first | with_reducible exact ((Below.refl w2.heap.size w2).alloc (Nat.le_refl _) _).drew | with_reducible exact (((Below.refl w2.heap.size w2).alloc (Nat.le_refl _) _).alloc (alc _ _) _).drew); intro a9 c9 w9 hown9 hgrow9 hnew9; first | (have hb9 : Below w2.heap.size w2 w9 := (((Below.refl w2.heap.size w2).alloc (Nat.le_refl _) _).drew).grown (row := (Value.slice (some ⟨w2.heap.size, 0, none⟩) 0 0).ownBlock) hgrow9 (alc _ _) hrow0; have hn9 : ∀ g, (Value.slice a9 (0 + L.length) c9).ownBlock = some g → g = w2.heap.size + 0 ∨ w2.heap.size + 1 ≤ g := fun g hg => (hnew9 g hg).elim (fun h => .inl (Option.some.inj (show some (w2.heap.size + 0) = some g from h)).symm) (fun h => .inr (by (simp at h; omega)))) | (have hb9 : Below w2.heap.size w2 w9 := ((((Below.refl w2.heap.size w2).alloc (Nat.le_refl _) _).alloc (alc _ _) _).drew).grown (row := (Value.slice (some ⟨w2.heap.size, 0, none⟩) 0 0).ownBlock) hgrow9 (Nat.le_trans (alc _ _) (alc _ _)) hrow0; have hn9 : ∀ g, (Value.slice a9 (0 + L.length) c9).ownBlock = some g → g = w2.heap.size + 0 ∨ w2.heap.size + 2 ≤ g := fun g hg => (hnew9 g hg).elim (fun h => .inl (Option.some.inj (show some (w2.heap.size + 0) = some g from h)).symm) (fun h => .inr (by (simp at h; omega))); have V6 := HF2.out.grown (row := (Value.slice (some ⟨w2.heap.size, 0, none⟩) 0 0).ownBlock) hgrow9 (by simp [Value.ownBlock]); have z0 := V6.c0; have z1 := V6.c1; have z2 := V6.c2; have zf0 := V6.f0; have zf1 := V6.f1; have zf2 := V6.f2) | (have hb9 : Below w2.heap.size w2 w9 := ((((Below.refl w2.heap.size w2).alloc (Nat.le_refl _) _).alloc (alc _ _) _).drew).grown (row := (Value.slice (some ⟨w2.heap.size + 1, 0, none⟩) 0 0).ownBlock) hgrow9 (Nat.le_trans (alc _ _) (alc _ _)) hrow1; have hn9 : ∀ g, (Value.slice a9 (0 + L.length) c9).ownBlock = some g → g = w2.heap.size + 1 ∨ w2.heap.size + 2 ≤ g := fun g hg => (hnew9 g hg).elim (fun h => .inl (Option.some.inj (show some (w2.heap.size + 1) = some g from h)).symm) (fun h => .inr (by (simp at h; omega))); have V6 := HF3.out.grown (row := (Value.slice (some ⟨w2.heap.size + 1, 0, none⟩) 0 0).ownBlock) hgrow9 (by simp [Value.ownBlock]); have z0 := V6.c0; have z1 := V6.c1; have z2 := V6.c2; have zf0 := V6.f0; have zf1 := V6.f1; have zf2 := V6.f2)))
      all_goals
        have hr9 := row_zero hown9 rfl
        have HB9 : Hid (type_of% hb9) := hb9
        have HR9 : Hid (type_of% hr9) := hr9
        go_wp2_with fail
        go_meet
        first
          | exact ⟨_, a9, c9, rfl, Fed.mk1 hb9 hr9⟩
          | exact ⟨_, a9, c9, rfl, Fed.mk2 hb9 hr9 V6 (Nat.le_refl _) (fun g hg => by have := hn9 g (by rw [Nat.zero_add]; exact hg); omega)⟩
          | exact ⟨_, a9, c9, rfl, Fed.mk2 hb9 hr9 V6 (Nat.le_succ _) (fun g hg => by have := hn9 g (by rw [Nat.zero_add]; exact hg); omega)⟩
    case rest =>
      obtain ⟨b6, a6, c6, rfl, hF6⟩ := hcut
      have HF6 : Hid (type_of% hF6) := hF6
      have hbw := hF6.blw
      have q0 := (KW.out _ hbw).2.1.1
      have q1 := (KW.out _ hbw).2.1.2.1
      have q2 := (KW.out _ hbw).2.1.2.2
      have d0 := hF6.var.c0
      have d1 := hF6.var.c1
      have d2 := hF6.var.c2
      have V2 := (KW.out _ hbw).2.2
      have x0 := V2.c0
      have x1 := V2.c1
      have x2 := V2.c2
      have u0 := V2.f0
      have u1 := V2.f1
      have u2 := V2.f2
      have hfar := hF6.far
      have hb6l := hF6.var.low
      have hsx := hbw.size
      clear y0 y1 y2 hF6 HF2 HF3 O1 O2 O3 hrow0 hrow1
      cases bad with
      | true =>
        have hFr := HG1.out rfl
        subst hFr
        have HRx : Hid (StRow wc w.heap.size (.slice a6 L.length c6) L) := lower_rowS HF6.out.row hs2
        have HNB : Hid (∀ g, (Value.slice a6 L.length c6).ownBlock = some g → g ≠ w.heap.size + 1) := fun g hg => by have := (World.ownsRow.lt HF6.out.row g hg).1; omega
        have HBS : Hid (∀ x y z, Below w.heap.size w (((wc.setCell ⟨w.heap.size + 1, 0, none⟩ x).setCell ⟨w.heap.size + 1, 1, none⟩ y).setCell ⟨w.heap.size + 1, 2, none⟩ z)) := fun x y z => (((KW.out _ hbw).1.setCell (p := ⟨w.heap.size + 1, 0, none⟩) (by simp) _).setCell (p := ⟨w.heap.size + 1, 1, none⟩) (by simp) _).setCell (p := ⟨w.heap.size + 1, 2, none⟩) (by simp) _
        clear HG1 HG2 KW HF6 hbw V2
        go_wp2_with fail
        (try simp only [Exit.inBlock, Exit.then])
        refine bodyPost_ret (v := .tuple #[.agg #[.string q, .slice a6 L.length c6, .bool true], .bool true]) ?_ rfl (HY.out _ _ ?_ ?_)
        · rw [rc]
          go_simp
        · exact own_setCell (own_setCell (own_setCell HRx.out _ 0 _ HNB.out) _ 1 _ HNB.out) _ 2 _ HNB.out
        · exact HBS.out _ _ _
      | false =>
        have hFr := HG2.out rfl
        subst hFr
        have hqs : (q ++ s).size ≤ 400 := by rw [ByteArray.size_append]; omega
        have CU := l14Unframe_any (q ++ s) wc (by omega)
        have hTl : (unT (ul (q ++ s))).length ≤ 400 := by have := unT_len (ul (q ++ s)); rw [ul_len] at this; omega
        dsimp only at HY
        generalize unT (ul (q ++ s)) = T at CU HY hTl
        generalize tx (unR (ul (q ++ s))) = R at CU HY
        generalize unB (ul (q ++ s)) = bb at CU HY
        clear HG1 HG2 hqs
        go_wp2_with fail
        go_at_call 49
        refine CU.mono ?_
        rintro e w4 ⟨⟨vT, rfl, hrT⟩, hb4⟩
        obtain ⟨aT, cT, rfl⟩ := hrT.slice
        have HI0 : Hid (FdI w2 wc w4 b6 q (.slice aT T.length cT) (.slice a6 L.length c6) T ((L ++ T.take 0).take 40)) := by
          refine ⟨HF6.out.var.below hb4, ?_, HF6.out.own, hrT, fun g hg e => ?_, HF6.out.blw.trans (hb4.mono hsx)⟩
          · rw [List.take_zero, List.append_nil, List.take_of_length_le hl40]
            exact HF6.out.row.below hb4
          · have h1 := (World.ownsRow.lt HF6.out.row g hg).2
            have h2 := (World.ownsRow.lt hrT g e).1
            omega
        clear q0 q1 q2 d0 d1 d2 x0 x1 x2 u0 u1 u2 V2 hrT hb4 CU HF6 hbw
        go_wp2_with fail
        go_loopw [44] (fun vi wr => ∃ (i : Nat) (vg : Value), i ≤ T.length ∧ vi = .int .i64 (i : Int) ∧ Hid (FdI w2 wc wr b6 q (.slice aT T.length cT) vg T ((L ++ T.take i).take 40)))
          (fun vi _ => T.length - (intOf vi).toNat)
        case atStart => exact ⟨0, _, by omega, rfl, HI0.out⟩
        case round =>
          obtain ⟨i, vg, hiT, rfl, hI⟩ := hrel
          clear HI0
          have hV := hI.out.var
          have d1 := hV.c1
          obtain ⟨ag, cg, hvg⟩ := hI.out.row.slice
          have hG40 : ((L ++ T.take i).take 40).length ≤ 40 := by rw [List.length_take]; omega
          by_cases hlt : i < T.length
          · have hltI : (i : Int) < (T.length : Int) := by omega
            obtain ⟨gT, oT, rfl, hgT, cTi⟩ : ∃ g o, aT = some ⟨g, o, none⟩ ∧ g < wr.heap.size ∧ wr.cell? ⟨g, o + i, none⟩ = some (.string (lq T i)) := by
              obtain ⟨a', c', hvT, _, _, hTr⟩ := StAt.own hI.out.tex
              simp only [Value.slice.injEq] at hvT
              rw [hvT.1]
              exact hTr i hlt
            obtain ⟨k1, k2⟩ := cap_step L T i hlt
            generalize lq T i = x at cTi k1
            by_cases hG : ((L ++ T.take i).take 40).length < 40
            · have k3 := k1 hG
              have HK : Hid ((L ++ T.take (i + 1)).take 40 = (L ++ T.take i).take 40 ++ [x]) := k3
              clear k1 k2 k3
              generalize (L ++ T.take i).take 40 = G at hI hvg hG40 hG HK
              subst hvg
              have hGI : (G.length : Int) < 40 := by omega
              have hne0 : some b6 ≠ (Value.slice ag G.length cg).ownBlock := fun e => hI.out.own b6 e.symm rfl
              have hlo := hV.low
              have f1 := hV.f1
              have S1a : ∀ o, (wr.alloc o).cell? ⟨b6, 1, none⟩ = some (.slice ag G.length cg) := fun o => (((Below.refl wr.heap.size wr).alloc (Nat.le_refl _) o).cell (p := ⟨b6, 1, none⟩) hlo).trans d1
              have f1a : ∀ o, (wr.alloc o).frozen? ⟨b6, 1, none⟩ = false := fun o => (((Below.refl wr.heap.size wr).alloc (Nat.le_refl _) o).frozen (p := ⟨b6, 1, none⟩) hlo).trans f1
              have hsr : w2.heap.size ≤ wr.heap.size := hI.out.blw.size
              clear hV f1
              go_wp2_with (at_builtin; refine wpList_append_lies _ rfl _ _ 27 rfl w2.heap.size 9 i0 (.string ByteArray.empty) 1 16 Try.underlying27 hi hz0 hz1 hz2 rfl (by decide) _ G.length _ rfl (World.ownsRow.alloc hI.out.row _) ⟨wr.heap.size, 0, none⟩ 1 1 [Value.string x] rfl rfl (World.news_of_block (heap_alloc_new wr _)) (by intro u hu; simp at hu; subst hu; rfl) (by omega) (by unfold maxLen; omega) (by omega) (by simp; omega) (wr.heap.size + 1) (by simp) ?_; intro g9 cap9 w9 hown9 hgrow9 hat9 hlt9; have s9 := (hgrow9.cell_far ⟨b6, 1, none⟩ (by simp; omega) hne0).trans (S1a _); have f9 : w9.frozen? ⟨b6, 1, none⟩ = false := (World.frozen?_of_block (hgrow9.block b6 (by simp; omega) hne0)).trans (f1a _); have HE : Hid (FdI w2 wc (w9.setCell ⟨b6, 1, none⟩ (.slice (some ⟨g9, 0, none⟩) (G.length + 1) cap9)) b6 q (.slice (some ⟨gT, oT, none⟩) T.length cT) (.slice (some ⟨g9, 0, none⟩) (G.length + 1) cap9) T ((L ++ T.take (i + 1)).take 40)) := (by rw [HK.out]; exact hI.out.push hfar hb6l hown9 hgrow9 hat9); clear hown9 hgrow9 hat9 hlt9)
              go_roundw
              case rel => exact ⟨i + 1, _, by omega, by go_num, HE⟩
              case measure => simp [intOf]; omega
            · have k3 := k2 hG
              have hI2 : Hid (FdI w2 wc wr b6 q (.slice (some ⟨gT, oT, none⟩) T.length cT) vg T ((L ++ T.take (i + 1)).take 40)) := by show FdI _ _ _ _ _ _ _ _ _; rw [k3]; exact hI.out
              clear k1 k2 k3 hI
              generalize (L ++ T.take i).take 40 = G at hvg hG40 hG
              subst hvg
              have hGI : ¬ (G.length : Int) < 40 := by omega
              clear hV
              go_wp2_with fail
              go_roundw
              case rel => exact ⟨i + 1, _, by omega, by go_num, hI2⟩
              case measure => simp [intOf]; omega
          · have hke : i = T.length := by omega
            have hge : ¬ ((i : Int) < (T.length : Int)) := by omega
            rw [hke, List.take_of_length_le (Nat.le_refl _)] at hI hvg hG40
            generalize (L ++ T).take 40 = G at hI hvg hG40 HY
            subst hvg
            have d0 := hV.c0
            have d2 := hV.c2
            have e0 := hV.f0
            have e1 := hV.f1
            have e2 := hV.f2
            have hk := KW.out _ hI.out.blw
            have V2 := hk.2.2
            have x0 := V2.c0
            have x1 := V2.c1
            have x2 := V2.c2
            have u0 := V2.f0
            have u1 := V2.f1
            have u2 := V2.f2
            have hb64 : ¬ b6 = w.heap.size + 1 := by omega
            have hb46 : ¬ w.heap.size + 1 = b6 := by omega
            have hwo := hI.out.own
            have hlo := World.ownsRow.lt hI.out.row
            have HRx : Hid (StRow wr w.heap.size (.slice ag G.length cg) G) := lower_rowS hI.out.row hs2
            have HN6 : Hid (∀ g, (Value.slice ag G.length cg).ownBlock = some g → g ≠ b6) := hwo
            have HN4 : Hid (∀ g, (Value.slice ag G.length cg).ownBlock = some g → g ≠ w.heap.size + 1) := fun g hg => by have := (hlo g hg).1; omega
            have hw6 : w.heap.size ≤ b6 := by omega
            have HBW : Hid (Below w.heap.size w wr) := hk.1
            clear hke hge hI hV V2 hk hwo hlo KW
            go_wp2_with fail
            (try simp only [Exit.inBlock, Exit.then])
            refine bodyPost_ret (v := .tuple #[.agg #[.string R, .slice ag G.length cg, .bool bb], .bool true]) ?_ rfl (HY.out _ _ ?_ ?_)
            · rw [rc]
              go_simp
            · exact own_setCell (own_setCell (own_setCell (own_setCell (own_setCell HRx.out _ 0 _ HN6.out) _ 2 _ HN6.out) _ 0 _ HN4.out) _ 1 _ HN4.out) _ 2 _ HN4.out
            · exact ((((HBW.out.setCell (p := ⟨b6, 0, none⟩) hw6 _).setCell (p := ⟨b6, 2, none⟩) hw6 _).setCell (p := ⟨w.heap.size + 1, 0, none⟩) (by simp) _).setCell (p := ⟨w.heap.size + 1, 1, none⟩) (by simp) _).setCell (p := ⟨w.heap.size + 1, 2, none⟩) (by simp) _

end Go.Proofs.Ytcpjbacjmmbabaa
