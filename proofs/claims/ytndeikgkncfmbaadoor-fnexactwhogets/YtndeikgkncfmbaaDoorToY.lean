/- The program's WhoGets. -/
import Derived.Test.YtndeikgkncfmbaaDoorToR
import Derived.Test.YtndeikgkncfmbaaDoorToG
namespace Go.Proofs.YtndeikgkncfmbaaDoor
open Go.RowKit Plain Tpc

/-- numbers and a bool told, in memory of the call's own -/
def OWho (w w' : World) (e : Ending) (R : List Nat × Bool) : Prop := ∃ r, e = .returned (.tuple #[r, .bool R.2]) ∧ w'.ownsRow w.heap.size 3 1 r R.1.length (intz R.1) ∧ Below w.heap.size w w'

theorem own_low {w : World} {B B' e size n : Nat} {v : Value} {xs : List Value} (h : w.ownsRow B e size v n xs) (hB : B' ≤ B) : w.ownsRow B' e size v n xs := by
  refine ⟨h.1, ?_⟩
  rcases h.2 with hn | ⟨g, cap, cur, hv, hg, rest⟩
  · exact .inl hn
  · exact .inr ⟨g, cap, cur, hv, by omega, rest⟩

set_option maxRecDepth 100000 in
set_option maxHeartbeats 8000000 in
theorem implWho (T : List Sb) (t : ByteArray) (v : Value) (w : World) (hT : SbsAt w w.heap.size v T) (hn : ∀ i, i < T.length → (sb T i).pat.size ≤ 1048576) (ht : t.size ≤ 1048576) :
    Calls Tryd.prog 33 #[v, .string t] w fun e w' => OWho w w' e (wgo T t) := by
  obtain ⟨i0, hi, hz0, hz1, hz2⟩ := info_parts infoIntT
  have CP : Hid (Calls Tryd.prog 54 #[v] w fun e w' => (∃ r, e = .returned (.tuple #[r, .bool (gsb T)]) ∧ PsAt w' w'.heap.size r (psl T)) ∧ Below w.heap.size w w') := patternsOf_any T v w hT hn
  have CT : Hid (∀ W, Calls Tryd.prog 39 #[.string t] W fun e w' => (∃ r, e = .returned (.tuple #[r, .bool (gt t)]) ∧ StAt w' w'.heap.size r (tls t)) ∧ Below W.heap.size W w') := fun W => topicLevels_any t W ht
  obtain ⟨ao, cap, rfl, hlc, hcm, hrow, _⟩ := hT
  have hcm' : cap ≤ 9223372036854775807 := by unfold maxLen at hcm; omega
  have HROW : Hid (∀ i, i < T.length → ∃ g o, ao = some ⟨g, o, none⟩ ∧ g < w.heap.size ∧ SbIn w g (o + i * 2) (sb T i)) := hrow
  obtain ⟨R, hR⟩ : ∃ R, R = wgo T t := ⟨_, rfl⟩
  rw [← hR]
  have HNo : Hid ((gsb T && gt t) = false → R = ([], false)) := fun h => by rw [hR]; unfold wgo; rw [h]; rfl
  have HYes : Hid (gsb T = true → gt t = true → R = (puts [] (wls T (spl t)), true) ∧ psl T = pat0 T ∧ tls t = spl t ∧ (∀ x, x ∈ spl t → isH x = false) ∧ (spl t).length ≤ 6 ∧ T.length ≤ 30 ∧ (∀ i, i < T.length → 0 ≤ (sb T i).who ∧ (sb T i).who ≤ 100) ∧ ∀ i, i < T.length → (spl (sb T i).pat).length ≤ 6) := fun h1 h2 => by
    refine ⟨by rw [hR]; unfold wgo; rw [h1, h2]; rfl, by unfold psl; rw [h1]; rfl, by unfold tls; rw [h2]; rfl, gt_noH h2, (gtL_at h2).2, (gsb_at h1).2, fun i hi => ((okSb_iff _).1 ((gsb_at h1).1 i hi)).2, fun i hi => ?_⟩
    exact (gpL_at ((okSb_iff _).1 ((gsb_at h1).1 i hi)).1).2
  clear hR hrow hn
  obtain ⟨M, hM⟩ : ∃ M, M = psl T := ⟨_, rfl⟩
  obtain ⟨ts, hts⟩ : ∃ M, M = tls t := ⟨_, rfl⟩
  rw [← hM] at CP HYes
  rw [← hts] at CT HYes
  clear hM hts
  generalize gsb T = g1 at CP HNo HYes
  generalize gt t = g2 at CT HNo HYes
  unfold OWho
  go_enter Tryd.func33, Tryd.ntmps33
  go_wp2_with fail
  refine CP.out.mono ?_
  rintro e w2 ⟨⟨r2, rfl, hr2⟩, hB2⟩
  have HP2 : Hid (PsAt w2 w2.heap.size r2 M) := hr2
  obtain ⟨a2, c2, rfl, _⟩ := hr2
  clear CP
  go_wp2_with fail
  refine (CT.out _).mono ?_
  rintro e w3 ⟨⟨r3, rfl, hr3⟩, hb3⟩
  have HT3 : Hid (StAt w3 w3.heap.size r3 ts) := hr3
  obtain ⟨a3, c3, rfl, _⟩ := hr3
  have HP3 : Hid (PsAt w3 w3.heap.size (.slice a2 M.length c2) M) := HP2.out.below hb3
  have hB3 : Below w.heap.size w w3 := hB2.trans (hb3.mono hB2.size)
  clear hb3 hB2 HP2 CT
  cases g1 with
  | false =>
    have hF : Hid (R = ([], false)) := HNo.out rfl
    clear HNo HYes
    go_wp2
    go_ret2
    exact ⟨_, by rw [hF.out]; rfl, by rw [hF.out]; exact World.ownsRow_nil _ _ _ _, hB3⟩
  | true =>
    cases g2 with
    | false =>
      have hF : Hid (R = ([], false)) := HNo.out rfl
      clear HNo HYes
      go_wp2
      go_ret2
      exact ⟨_, by rw [hF.out]; rfl, by rw [hF.out]; exact World.ownsRow_nil _ _ _ _, hB3⟩
    | true =>
      obtain ⟨hF', hMe, htse, hnoH, hts6, h30, hwho, hp6⟩ := HYes.out (by trivial) (by trivial)
      have hF : Hid (R = (puts [] (wls T ts), true)) := by show _ = _; rw [hF', htse]
      have HNH : Hid (∀ x, x ∈ ts → isH x = false) := by show ∀ _, _; rw [htse]; exact hnoH
      have hts6' : ts.length ≤ 6 := by rw [htse]; exact hts6
      have hML : M.length = T.length := by rw [hMe]; unfold pat0; rw [List.length_map]
      have HMA : Hid (∀ k, k < T.length → lz M k = spl (sb T k).pat) := fun k hk => by rw [hMe]; exact pat0_at T k hk
      have HWHO : Hid (∀ i, i < T.length → 0 ≤ (sb T i).who ∧ (sb T i).who ≤ 100) := hwho
      have HP6 : Hid (∀ i, i < T.length → (spl (sb T i).pat).length ≤ 6) := hp6
      have HSTEP : Hid (∀ i, i < T.length → wls (T.take (i + 1)) ts = wls (T.take i) ts ++ if fts (spl (sb T i).pat) ts then [(sb T i).who.toNat] else []) := fun i hi => wls_step T ts i hi
      have HWL : Hid (∀ i, (wls (T.take i) ts).length ≤ i) := wls_len T ts
      clear HNo HYes hF' hMe htse hnoH hts6 hwho hp6
      obtain ⟨ap, cp, hpv, hplc, hpcm, hprow⟩ := HP3.out
      simp only [Value.slice.injEq] at hpv
      obtain ⟨rfl, _, rfl⟩ := hpv
      have hpcm' : c2 ≤ 9223372036854775807 := by unfold maxLen at hpcm; omega
      have HPROW : Hid (∀ i, i < M.length → ∃ g o u, a2 = some ⟨g, o, none⟩ ∧ g < w3.heap.size ∧ w3.cell? ⟨g, o + i, none⟩ = some u ∧ StAt w3 w3.heap.size u (lz M i)) := hprow
      clear hprow HP3
      rw [hML] at hplc HPROW ⊢
      clear hML
      go_wp2
      go_loopw [10, 31] (fun vo vi wr => ∃ (k : Nat), k ≤ T.length ∧ vi = .int .i64 (k : Int) ∧ Hid (wr.ownsRow w3.heap.size 3 1 vo (wls (T.take k) ts).length (intz (wls (T.take k) ts))) ∧ Hid (Below w3.heap.size w3 wr))
        (fun _ vi _ => T.length - (intOf vi).toNat)
      case atStart => exact ⟨0, by omega, rfl, World.ownsRow_nil _ _ _ _, Below.refl _ _⟩
      case round =>
        obtain ⟨k, hk, rfl, hO, hbw⟩ := hrel
        have hsz := hbw.out.size
        by_cases hlt : k < T.length
        · have hltI : (k : Int) < (T.length : Int) := by omega
          obtain ⟨g, o, rfl, hg, hty⟩ := HROW.out k hlt
          have hci := hty.below (hB3.trans (hbw.out.mono hB3.size)) hg
          obtain ⟨gp9, op9, u9, rfl, hgp, hcp0, hstp⟩ := HPROW.out k hlt
          have hcp := (hbw.out.cell (p := ⟨gp9, op9 + k, none⟩) hgp).trans hcp0
          have HST9 : Hid (StAt wr wr.heap.size u9 (lz M k)) := hstp.below hbw.out
          rw [HMA.out k hlt] at HST9 hstp
          have hwi := HWHO.out k hlt
          have hpl := HP6.out k hlt
          have hST := HSTEP.out k hlt
          have hWLk := HWL.out k
          obtain ⟨ti, hti⟩ : ∃ t, sb T k = t := ⟨_, rfl⟩
          rw [hti] at hci hwi hST hpl HST9 hstp
          clear hti hty hcp0
          obtain ⟨pat, who⟩ := ti
          obtain ⟨c0, c1⟩ := hci
          dsimp only at c0 c1 hwi hST hpl HST9 hstp
          obtain ⟨n, hnw⟩ : ∃ n : Nat, who = (n : Int) := ⟨who.toNat, by omega⟩
          subst hnw
          rw [Int.toNat_natCast] at hST
          have hcv := fts_cvs (spl pat) ts HNH.out
          rw [← hcv] at hST
          generalize spl pat = ps at hST hpl HST9 hstp
          have HST : Hid (wls (T.take (k + 1)) ts = wls (T.take k) ts ++ if cvs ps ts then [n] else []) := hST
          obtain ⟨ua, uc, rfl, _⟩ := hstp
          have HC : Hid (Calls Tryd.prog 42 #[.slice ua ps.length uc, .slice a3 ts.length c3] wr fun e w' => e = .returned (.bool (cvs ps ts)) ∧ w' = wr) := levelsCover_any ps ts _ _ _ HST9.out (HT3.out.below hbw.out) (by omega) (by omega)
          generalize cvs ps ts = b at HC HST
          obtain ⟨D, hD⟩ : ∃ D, D = wls (T.take k) ts := ⟨_, rfl⟩
          rw [← hD] at hO HST hWLk
          clear hST hcv hD hwi HST9
          go_wp2_with fail
          refine HC.out.mono ?_
          rintro e w5 ⟨rfl, rfl⟩
          clear HC
          cases b with
          | false =>
            have hE : Hid (w5.ownsRow w3.heap.size 3 1 u10 (wls (T.take (k + 1)) ts).length (intz (wls (T.take (k + 1)) ts))) := by
              show World.ownsRow _ _ _ _ _ _ _
              rw [HST.out]
              simp only [Bool.false_eq_true, if_false, List.append_nil]
              exact hO.out
            clear HST hO
            go_wp2
            go_roundw
            case rel => exact ⟨k + 1, by omega, by go_num, hE, hbw⟩
            case measure => simp [intOf]; omega
          | true =>
            have hDl : D.length ≤ 30 := by omega
            have hown' := hO.out
            go_wp2_with (at_builtin; refine wpList_append_own _ rfl _ _ 42 rfl w3.heap.size 3 i0 (.int .i64 0) 1 8 Tryd.underlying42 hi hz0 hz1 hz2 rfl (by decide) _ _ _ rfl (hown'.alloc _) ⟨w5.heap.size, 0, none⟩ 1 1 [Value.int .i64 (n : Int)] rfl rfl ?c1 ?c2 ?c3 ?c4 ?c5 ?_)
            case c1 =>
              intro j u hj
              match j, hj with
              | 0, hj => simp at hj; subst hj; simp [Addr.add]
              | j + 1, hj => simp at hj
            case c2 => first | rfl | (intro u hu; simp at hu; subst hu; rfl)
            case c3 => unfold maxLen; omega
            case c4 => omega
            case c5 => first | omega | (simp; omega)
            intro v' w6 hown6 hgrow _
            have hlt9 := hown'.lt
            have hB6 : Hid (Below w3.heap.size w3 w6) := (hbw.out.alloc hsz _).grown hgrow (by simp; omega) (fun k hk => (hlt9 k hk).1)
            have hE : Hid (w6.ownsRow w3.heap.size 3 1 v' (wls (T.take (k + 1)) ts).length (intz (wls (T.take (k + 1)) ts))) := by
              show World.ownsRow _ _ _ _ _ _ _
              rw [HST.out, if_pos (by trivial), List.length_append, List.length_singleton]
              have e9 : intz (D ++ [n]) = intz D ++ [Value.int .i64 (n : Int)] := by unfold intz; rw [List.map_append]; rfl
              rw [e9]
              exact hown6
            clear hgrow hown6 hlt9 hown' HST hO hbw
            go_wp2
            go_roundw
            case rel => exact ⟨k + 1, by omega, by go_num, hE, hB6⟩
            case measure => simp [intOf]; omega
        · have hge : ¬ ((k : Int) < (T.length : Int)) := by omega
          have hke : T.take k = T := List.take_of_length_le (by omega)
          have hE : Hid (R = (puts [] (wls (T.take k) ts), true)) := by show _ = _; rw [hF.out, hke]
          have hWLk := HWL.out k
          clear hke
          generalize wls (T.take k) ts = D at hO hE hWLk
          have hvl := hO.out.lt
          go_wp2_with fail
          refine (inOrder_any D _ w3.heap.size _ hO.out (by omega)).mono ?_
          rintro e w6 ⟨⟨r6, rfl, ho6, _⟩, hg6⟩
          have hB6 : Below w3.heap.size w3 w6 := hbw.out.grown hg6 hsz (fun k hk => (hvl k hk).1)
          have hB6' : Below w.heap.size w w6 := hB3.trans (hB6.mono hB3.size)
          have HO6 : Hid (w6.ownsRow w.heap.size 3 1 r6 (puts [] D).length (intz (puts [] D))) := own_low ho6 hB3.size
          obtain ⟨a6, c6, hr6⟩ : ∃ ao cap, r6 = Value.slice ao (puts [] D).length cap := by
            rcases ho6.2 with ⟨rfl, h0⟩ | ⟨g, cap, _, rfl, _⟩
            · exact ⟨none, 0, by rw [h0]⟩
            · exact ⟨_, _, rfl⟩
          subst hr6
          clear ho6 hg6 hB6 hO hbw
          go_wp2
          go_ret2
          exact ⟨_, by rw [hE.out]; rfl, by rw [hE.out]; exact HO6.out, hB6'⟩

end Go.Proofs.YtndeikgkncfmbaaDoor
