/- The program's goodWho, patternsOf, inOrder. -/
import Derived.Test.YtndeikgkncfmbaaDoorToP
import Derived.Test.YtndeikgkncfmbaaDoorShf
import Derived.Sort.OwnSortedInts
namespace Go.Proofs.YtndeikgkncfmbaaDoor
open Go.RowKit Plain Tpc

set_option maxRecDepth 100000 in
set_option maxHeartbeats 1000000 in
theorem goodWho_any (n : Int) (w : World) :
    Calls Tryd.prog 71 #[.int .i64 n] w fun e w' => e = .returned (.bool (decide (0 ≤ n) && decide (n ≤ 100))) ∧ w' = w := by
  by_cases h0 : 0 ≤ n
  · have d0 : decide (0 ≤ n) = true := by simpa using h0
    rw [d0]
    go_enter Tryd.func71, Tryd.ntmps71
    go_wp2
    go_ret
    exact ⟨rfl, rfl⟩
  · have d0 : decide (0 ≤ n) = false := by simpa using h0
    rw [d0]
    clear h0
    go_enter Tryd.func71, Tryd.ntmps71
    go_wp2
    go_ret
    exact ⟨rfl, rfl⟩

theorem infoStrs : (Tryd.prog.info? 48).map (fun i => (i.zero, i.size, i.bytes)) = some (some (.slice none 0 0), 1, 24) := by kernel_rfl

theorem one1T (a : Option Addr) (n c : Nat) : ∀ u ∈ [Value.slice a n c], u.oneCell' = true := by
  intro u hu
  simp at hu
  subst hu
  rfl

def Tpc.pat0 (T : List Sb) : List (List ByteArray) := T.map fun x => spl x.pat

theorem Tpc.pat0_step (T : List Sb) (k : Nat) (h : k < T.length) : pat0 (T.take (k + 1)) = pat0 (T.take k) ++ [spl (sb T k).pat] := by
  unfold pat0
  rw [sb_take T k h, List.map_append]
  rfl

theorem Tpc.pat0_len (T : List Sb) (k : Nat) (h : k ≤ T.length) : (pat0 (T.take k)).length = k := by
  unfold pat0
  rw [List.length_map, List.length_take]
  omega

theorem Tpc.pat0_at (T : List Sb) (k : Nat) (h : k < T.length) : lz (pat0 T) k = spl (sb T k).pat := by
  unfold lz pat0
  rw [List.getD_eq_getElem?_getD, List.getElem?_map, sb_at h]
  rfl

/-- the levels of good subs -/
def Tpc.psl (T : List Sb) : List (List ByteArray) := if gsb T then pat0 T else []

set_option maxRecDepth 100000 in
set_option maxHeartbeats 8000000 in
theorem patternsOf_any (T : List Sb) (v : Value) (w : World) (hT : SbsAt w w.heap.size v T) (hn : ∀ i, i < T.length → (sb T i).pat.size ≤ 1048576) :
    Calls Tryd.prog 54 #[v] w fun e w' => (∃ r, e = .returned (.tuple #[r, .bool (gsb T)]) ∧ PsAt w' w'.heap.size r (psl T)) ∧ Below w.heap.size w w' := by
  obtain ⟨i0, hi0, hz0, hz1, hz2⟩ := info_parts infoStrs
  obtain ⟨ao, cap, rfl, hlc, hcm, hrow, _⟩ := hT
  have hcm' : cap ≤ 9223372036854775807 := by unfold maxLen at hcm; omega
  have HROW : Hid (∀ i, i < T.length → ∃ g o, ao = some ⟨g, o, none⟩ ∧ g < w.heap.size ∧ SbIn w g (o + i * 2) (sb T i)) := hrow
  have HN : Hid (∀ i, i < T.length → (sb T i).pat.size ≤ 1048576) := hn
  obtain ⟨R, hR⟩ : ∃ R, R = gsb T := ⟨_, rfl⟩
  obtain ⟨Q, hQ⟩ : ∃ Q, Q = psl T := ⟨_, rfl⟩
  rw [← hR, ← hQ]
  have HR : Hid (R = gsb T) := hR
  have HQN : Hid (R = false → Q = []) := fun h => by rw [hQ]; unfold psl; rw [← hR, h]; rfl
  have HQY : Hid (R = true → Q = pat0 T) := fun h => by rw [hQ]; unfold psl; rw [← hR, h]; rfl
  clear hR hQ hrow hn
  by_cases h30 : 30 < T.length
  · have d30 : decide ((30 : Int) < (T.length : Int)) = true := by simp; omega
    have hF : Hid (R = false) := HR.out.trans (by rw [Bool.eq_false_iff]; intro hh; have := (gsb_at hh).2; omega)
    have hN : Hid (Q = []) := HQN.out hF.out
    clear h30
    go_enter Tryd.func54, Tryd.ntmps54
    go_wp2
    go_ret2
    exact ⟨⟨_, by rw [hF.out]; rfl, by rw [hN.out]; exact (POwn.nil w w.heap.size).at⟩, Below.refl _ _⟩
  have d30 : decide ((30 : Int) < (T.length : Int)) = false := by simp; omega
  have H30 : T.length ≤ 30 := by omega
  clear h30
  go_enter Tryd.func54, Tryd.ntmps54
  go_wp2
  go_loopw [4, 14] (fun vo vi wr => ∃ (k : Nat) (us : List Value), k ≤ T.length ∧ vi = .int .i64 (k : Int) ∧ Hid (∀ j, j < k → okSb (sb T j) = true) ∧ Hid (POwn wr w.heap.size vo (pat0 (T.take k)) us) ∧ Hid (Below w.heap.size w wr))
    (fun _ vi _ => T.length - (intOf vi).toNat)
  case atStart => exact ⟨0, [], by omega, rfl, fun j hj => by omega, POwn.nil _ _, Below.refl _ _⟩
  case round =>
    obtain ⟨k, us, hk, rfl, hall, hP, hbw⟩ := hrel
    by_cases hlt : k < T.length
    · have hltI : (k : Int) < (T.length : Int) := by omega
      obtain ⟨g, o, rfl, hg, hty⟩ := HROW.out k hlt
      have hci := hty.below hbw.out hg
      have hni := HN.out k hlt
      have hok := okSb_iff (sb T k)
      have hst := pat0_step T k hlt
      have hPL := pat0_len T k hk
      obtain ⟨ti, hti⟩ : ∃ t, sb T k = t := ⟨_, rfl⟩
      have HTI : Hid (sb T k = ti) := hti
      rw [hti] at hci hni hok hst
      clear hti hty
      obtain ⟨pat, who⟩ := ti
      obtain ⟨c0, c1⟩ := hci
      dsimp only at c0 c1 hni hok hst
      have HOK : Hid (okSb ⟨pat, who⟩ = true ↔ gp pat = true ∧ 0 ≤ who ∧ who ≤ 100) := hok
      have HPS : Hid (pat0 (T.take (k + 1)) = pat0 (T.take k) ++ [spl pat]) := hst
      clear hok hst
      obtain ⟨W3, hW3⟩ : ∃ W, W = wr.alloc (.cells #[.string pat, .int .i64 who] 66) := ⟨_, rfl⟩
      have hA3 : Below wr.heap.size wr W3 := by rw [hW3]; exact (Below.refl _ wr).alloc (Nat.le_refl _) _
      have hl3 : wr.heap.size < W3.heap.size := by rw [hW3]; simp
      have z1 : W3.cell? ⟨wr.heap.size, 1, none⟩ = some (.int .i64 who) := by rw [hW3]; go_simp
      obtain ⟨G, hG⟩ : ∃ G, G = gp pat := ⟨_, rfl⟩
      obtain ⟨L, hL⟩ : ∃ L, L = pls pat := ⟨_, rfl⟩
      have C : Hid (∀ W, Calls Tryd.prog 40 #[.string pat] W fun e w' => (∃ r, e = .returned (.tuple #[r, .bool G]) ∧ StAt w' w'.heap.size r L ∧ Fr W.heap.size r) ∧ Below W.heap.size W w') := fun W => by rw [hG, hL]; exact patternLevels_new pat W hni
      have HG : Hid (G = gp pat) := hG
      have HL : Hid (G = true → L = spl pat) := fun h => by rw [hL]; unfold pls; rw [← hG, h]; rfl
      clear hG hL
      go_wp2_with fail
      rw [← hW3]
      clear hW3 c0 c1
      refine (C.out _).mono ?_
      rintro e w4 ⟨⟨r4, rfl, hr4, hf4⟩, hb4⟩
      have hA4 : Below wr.heap.size wr w4 := hA3.trans (hb4.mono hA3.size)
      have hl4 : wr.heap.size < w4.heap.size := by have := hb4.size; omega
      have z4 := (hb4.cell (p := ⟨wr.heap.size, 1, none⟩) hl3).trans z1
      have HF4 : Hid (Fr wr.heap.size r4) := fun g' hg' => by have := hf4 g' hg'; omega
      have HA4 : Hid (StAt w4 w4.heap.size r4 L) := hr4
      obtain ⟨a4, c4, rfl, _⟩ := hr4
      have hB4 : Below w.heap.size w w4 := hbw.out.trans (hA4.mono hbw.out.size)
      clear hb4 hA3 hl3 z1 C hf4
      cases G with
      | false =>
        have hF : Hid (R = false) := HR.out.trans (gsb_no hlt (by rw [HTI.out, Bool.eq_false_iff]; intro h; have h2 := (HOK.out.1 h).1; rw [← HG.out] at h2; cases h2))
        have hN : Hid (Q = []) := HQN.out hF.out
        clear hall
        go_wp2
        go_ret2
        exact ⟨⟨_, by rw [hF.out]; rfl, by rw [hN.out]; exact (POwn.nil w4 w4.heap.size).at⟩, hB4⟩
      | true =>
        have hLe : Hid (L = spl pat) := HL.out rfl
        clear HL
        go_wp2_with fail
        refine (goodWho_any who _).mono ?_
        rintro e w5 ⟨rfl, rfl⟩
        cases hw : (decide (0 ≤ who) && decide (who ≤ 100)) with
        | false =>
          have hF : Hid (R = false) := HR.out.trans (gsb_no hlt (by
            rw [HTI.out, Bool.eq_false_iff]; intro h
            have h2 := (HOK.out.1 h).2
            have h3 : (decide (0 ≤ who) && decide (who ≤ 100)) = true := by simp [h2.1, h2.2]
            rw [hw] at h3
            cases h3))
          have hN : Hid (Q = []) := HQN.out hF.out
          clear hall hw
          go_wp2
          go_ret2
          exact ⟨⟨_, by rw [hF.out]; rfl, by rw [hN.out]; exact (POwn.nil w5 w5.heap.size).at⟩, hB4⟩
        | true =>
          have hall2 : Hid (∀ j, j < k + 1 → okSb (sb T j) = true) := fun j hj => by
            by_cases hjk : j = k
            · rw [hjk, HTI.out]
              simp only [Bool.and_eq_true, decide_eq_true_eq] at hw
              exact HOK.out.2 ⟨HG.out.symm, hw⟩
            · exact hall.out j (by omega)
          obtain ⟨D, hD⟩ : ∃ D, D = pat0 (T.take k) := ⟨_, rfl⟩
          rw [← hD] at hP hPL HPS
          clear hD
          have HPL : Hid (D.length = k) := hPL
          have hD30 : D.length ≤ 30 := by omega
          have HO4 : Hid (w5.ownsRow w.heap.size 48 1 u4 D.length us) := own_keep hP.out.1 hA4
          have hs5 := hB4.size
          clear hall hw hPL
          go_wp2_with (at_builtin; refine wpList_append_mayT _ rfl _ _ 68 rfl w.heap.size 48 i0 (.slice none 0 0) 1 24 Tryd.underlying68 hi0 hz0 hz1 hz2 rfl (by decide) _ D.length _ rfl (World.ownsRow.alloc HO4.out _) (some ⟨w5.heap.size, 0, none⟩) 1 1 [.slice a4 L.length c4] rfl rfl ?c1 (one1T _ _ _) (by unfold maxLen; omega) (by omega) (by simp; omega) ?_)
          case c1 =>
            intro j u hj
            match j, hj with
            | 0, hj => simp at hj; subst hj; exact ⟨_, rfl, by simp [Addr.add]⟩
            | j + 1, hj => simp at hj
          intro ar cap9 w9 hown9 hgrow9 hat9
          have hvl := HO4.out.lt
          have hB9 : Hid (Below w.heap.size w w9) := (hB4.alloc hs5 _).grown hgrow9 (by simp; omega) (fun k hk => (hvl k hk).1)
          have hP9 : Hid (POwn w9 w.heap.size (.slice ar (D.length + 1) cap9) (pat0 (T.take (k + 1))) (us ++ [.slice a4 L.length c4])) := by
            show POwn _ _ _ _ _
            rw [HPS.out, ← hLe.out]
            exact hP.out.snoc hA4 HA4.out HF4.out hown9 hgrow9 (fun g' hg' => by have := hat9 g' hg'; simpa using this)
          clear hgrow9 hown9 hat9 HO4 hP hbw hA4 hB4 hvl
          go_wp2
          go_roundw
          case rel => exact ⟨k + 1, us ++ [.slice a4 L.length c4], by omega, by go_num, hall2, hP9, hB9⟩
          case measure => simp [intOf]; omega
    · have hge : ¬ ((k : Int) < (T.length : Int)) := by omega
      have hke : T.take k = T := List.take_of_length_le (by omega)
      have hF : Hid (R = true) := HR.out.trans ((gsb_end (fun i hi => hall.out i (by omega))).trans (by simpa using H30))
      have hN : Hid (Q = pat0 (T.take k)) := by show _ = _; rw [HQY.out hF.out, hke]
      obtain ⟨ua, uc, hu⟩ := hP.out.slice
      subst hu
      clear hke hall
      go_wp2
      go_ret2
      exact ⟨⟨_, by rw [hF.out]; rfl, by rw [hN.out]; exact hP.out.at⟩, hbw.out⟩

end Go.Proofs.YtndeikgkncfmbaaDoor
