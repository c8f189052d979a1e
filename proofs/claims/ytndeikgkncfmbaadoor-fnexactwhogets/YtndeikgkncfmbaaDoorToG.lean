/- The model's l10Subs and WhoGets. -/
import Derived.Test.YtndeikgkncfmbaaDoorToF
import Derived.Test.YtndeikgkncfmbaaDoorSbM
import Derived.Test.YtndeikgkncfmbaaDoorToN
namespace Go.Proofs.YtndeikgkncfmbaaDoor
open Go.RowKit Plain Tpc

set_option maxRecDepth 100000 in
set_option maxHeartbeats 4000000 in
theorem l10Subs_any (T : List Sb) (v : Value) (w : World) (hT : SbsAt w w.heap.size v T) (hl : T.length ≤ 1048576) (hn : ∀ i, i < T.length → (sb T i).pat.size ≤ 1048576) :
    Calls Tryd.prog 51 #[v] w fun e w' => e = .returned (.bool (gsb T)) ∧ Below w.heap.size w w' := by
  obtain ⟨ao, cap, rfl, hlc, hcm, hrow, _⟩ := hT
  have hcm' : cap ≤ 9223372036854775807 := by unfold maxLen at hcm; omega
  have HROW : Hid (∀ i, i < T.length → ∃ g o, ao = some ⟨g, o, none⟩ ∧ g < w.heap.size ∧ SbIn w g (o + i * 2) (sb T i)) := hrow
  have HN : Hid (∀ i, i < T.length → (sb T i).pat.size ≤ 1048576) := hn
  obtain ⟨R, hR⟩ : ∃ R, R = gsb T := ⟨_, rfl⟩
  rw [← hR]
  have HR : Hid (R = gsb T) := hR
  clear hR hrow hn
  go_enter Tryd.func51, Tryd.ntmps51
  go_wp2
  go_loopw [7] (fun vi wr => ∃ k : Nat, k ≤ T.length ∧ vi = .int .i64 (k : Int) ∧ Hid (∀ j, j < k → okSb (sb T j) = true) ∧ Hid (Below w.heap.size w wr))
    (fun vi _ => T.length - (intOf vi).toNat)
  case atStart => exact ⟨0, by omega, rfl, fun j hj => by omega, Below.refl _ _⟩
  case round =>
    obtain ⟨k, hk, rfl, hall, hbw⟩ := hrel
    by_cases hlt : k < T.length
    · have hltI : (k : Int) < (T.length : Int) := by omega
      obtain ⟨g, o, rfl, hg, hty⟩ := HROW.out k hlt
      have hci := hty.below hbw.out hg
      have hni := HN.out k hlt
      have hok := okSb_iff (sb T k)
      obtain ⟨ti, hti⟩ : ∃ t, sb T k = t := ⟨_, rfl⟩
      have HTI : Hid (sb T k = ti) := hti
      rw [hti] at hci hni hok
      clear hti hty
      obtain ⟨pat, who⟩ := ti
      obtain ⟨c0, c1⟩ := hci
      dsimp only at c0 c1 hni hok
      have HOK : Hid (okSb ⟨pat, who⟩ = true ↔ gp pat = true ∧ 0 ≤ who ∧ who ≤ 100) := hok
      clear hok
      obtain ⟨W3, hW3⟩ : ∃ W, W = wr.alloc (.cells #[.string pat, .int .i64 who] 66) := ⟨_, rfl⟩
      have hA3 : Below w.heap.size w W3 := by rw [hW3]; exact hbw.out.alloc hbw.out.size _
      have hl3 : wr.heap.size < W3.heap.size := by rw [hW3]; simp
      have z1 : W3.cell? ⟨wr.heap.size, 1, none⟩ = some (.int .i64 who) := by rw [hW3]; go_simp
      obtain ⟨G, hG⟩ : ∃ G, G = gp pat := ⟨_, rfl⟩
      have C : Hid (∀ W, Calls Tryd.prog 13 #[.string pat] W fun e w' => e = .returned (.bool G) ∧ Below W.heap.size W w') := fun W => by rw [hG]; exact specGoodPattern pat W hni
      have HG : Hid (G = gp pat) := hG
      clear hG
      go_wp2_with fail
      rw [← hW3]
      clear hW3 c0 c1
      refine (C.out _).mono ?_
      rintro e w4 ⟨rfl, hb4⟩
      have hB4 : Below w.heap.size w w4 := hA3.trans (hb4.mono hA3.size)
      have hl4 : wr.heap.size < w4.heap.size := by have := hb4.size; omega
      have z4 := (hb4.cell (p := ⟨wr.heap.size, 1, none⟩) hl3).trans z1
      clear hb4 hA3 hl3 z1 C hbw
      cases G with
      | false =>
        have hF : Hid (R = false) := HR.out.trans (gsb_no hlt (by rw [HTI.out, Bool.eq_false_iff]; intro h; have h2 := (HOK.out.1 h).1; rw [← HG.out] at h2; cases h2))
        clear hall
        go_wp2
        go_ret
        exact ⟨by rw [hF.out]; rfl, hB4⟩
      | true =>
        go_wp2_with fail
        refine (l1InT who 0 100 _).mono ?_
        rintro e w5 ⟨rfl, rfl⟩
        by_cases hw : 0 ≤ who ∧ who ≤ 100
        · have hd : decide (0 ≤ who ∧ who ≤ 100) = true := by simpa using hw
          have hall2 : Hid (∀ j, j < k + 1 → okSb (sb T j) = true) := fun j hj => by
            by_cases hjk : j = k
            · rw [hjk, HTI.out]; exact HOK.out.2 ⟨HG.out.symm, hw⟩
            · exact hall.out j (by omega)
          rw [hd]
          clear hall hw hd
          go_wp2
          go_roundw
          case rel => exact ⟨k + 1, by omega, by go_num, hall2, hB4⟩
          case measure => simp [intOf]; omega
        · have hd : decide (0 ≤ who ∧ who ≤ 100) = false := by simpa using hw
          have hF : Hid (R = false) := HR.out.trans (gsb_no hlt (by rw [HTI.out, Bool.eq_false_iff]; intro h; exact hw (HOK.out.1 h).2))
          rw [hd]
          clear hall hw hd
          go_wp2
          go_ret
          exact ⟨by rw [hF.out]; rfl, hB4⟩
    · have hge : ¬ ((k : Int) < (T.length : Int)) := by omega
      have hF : Hid (R = decide (T.length ≤ 30)) := HR.out.trans (gsb_end (fun i hi => hall.out i (by omega)))
      clear hall
      by_cases h6 : T.length ≤ 30
      · have d : decide ((T.length : Int) ≤ 30) = true := by simp; omega
        have hT : Hid (R = true) := by show _ = _; rw [hF.out]; simpa using h6
        clear h6
        go_wp2
        go_ret
        exact ⟨by rw [hT.out]; rfl, hbw.out⟩
      · have d : decide ((T.length : Int) ≤ 30) = false := by simp; omega
        have hT : Hid (R = false) := by show _ = _; rw [hF.out]; simpa using h6
        clear h6
        go_wp2
        go_ret
        exact ⟨by rw [hT.out]; rfl, hbw.out⟩

/-- numbers and a bool told, to be read -/
def ONt (w w' : World) (e : Ending) (R : List Nat × Bool) : Prop := (∃ r, e = .returned (.tuple #[r, .bool R.2]) ∧ NtAt w' w'.heap.size r R.1) ∧ Below w.heap.size w w'

theorem Tpc.puts_small (l out : List Nat) (m : Nat) (h1 : ∀ x, x ∈ out → x ≤ m) (h2 : ∀ x, x ∈ l → x ≤ m) (j : Nat) (y : Nat) (h : (puts out l)[j]? = some y) : y ≤ m := by
  rcases (puts_mem y l out).1 (List.mem_of_getElem? h) with h' | h'
  · exact h1 y h'
  · exact h2 y h'

theorem Tpc.wls_small {T : List Sb} (h : gsb T = true) (t : List ByteArray) (i : Nat) : ∀ x, x ∈ wls (T.take i) t → x ≤ 1000000 := fun x hx => by
  unfold wls at hx
  rw [List.mem_map] at hx
  obtain ⟨y, hy, rfl⟩ := hx
  rw [List.mem_filter] at hy
  obtain ⟨j, hj, rfl⟩ := sb_of_mem (List.mem_of_mem_take hy.1)
  have := ((okSb_iff _).1 ((gsb_at h).1 j hj)).2
  omega

set_option maxRecDepth 100000 in
set_option maxHeartbeats 4000000 in
theorem specWho (T : List Sb) (t : ByteArray) (v : Value) (w : World) (hT : SbsAt w w.heap.size v T) (hl : T.length ≤ 1048576) (hn : ∀ i, i < T.length → (sb T i).pat.size ≤ 1048576) (ht : t.size ≤ 1048576) :
    Calls Tryd.prog 32 #[v, .string t] w fun e w' => ONt w w' e (wgo T t) := by
  have CS : Hid (Calls Tryd.prog 51 #[v] w fun e w' => e = .returned (.bool (gsb T)) ∧ Below w.heap.size w w') := l10Subs_any T v w hT hl hn
  have CT : Hid (∀ W, Calls Tryd.prog 11 #[.string t] W fun e w' => e = .returned (.bool (gt t)) ∧ Below W.heap.size W w') := fun W => specGoodTopic t W ht
  have ST : Hid (∀ W, Calls Tryd.prog 37 #[.string t, .int .u8 47] W fun e w' => ∃ r, e = .returned r ∧ StRow w' W.heap.size r (spl t) ∧ Below W.heap.size W w') := fun W => l10Split_any t W ht
  have H7 : (spl t).length ≤ 1048577 := by have := spl_le t; omega
  obtain ⟨ao, cap, rfl, hlc, hcm, hrow, _⟩ := hT
  have hcm' : cap ≤ 9223372036854775807 := by unfold maxLen at hcm; omega
  have HROW : Hid (∀ i, i < T.length → ∃ g o, ao = some ⟨g, o, none⟩ ∧ g < w.heap.size ∧ SbIn w g (o + i * 2) (sb T i)) := hrow
  have HN : Hid (∀ i, i < T.length → (sb T i).pat.size ≤ 1048576) := hn
  obtain ⟨R, hR⟩ : ∃ R, R = wgo T t := ⟨_, rfl⟩
  rw [← hR]
  have HNo : Hid ((gsb T && gt t) = false → R = ([], false)) := fun h => by rw [hR]; unfold wgo; rw [h]; rfl
  have HYes : Hid (gsb T = true → gt t = true → R = (puts [] (wls T (spl t)), true)) := fun h1 h2 => by rw [hR]; unfold wgo; rw [h1, h2]; rfl
  have HSM : Hid (gsb T = true → T.length ≤ 30 ∧ (∀ i, ∀ x, x ∈ wls (T.take i) (spl t) → x ≤ 1000000) ∧ ∀ i, i < T.length → 0 ≤ (sb T i).who ∧ (sb T i).who ≤ 100) := fun h => ⟨(gsb_at h).2, wls_small h (spl t), fun i hi => ((okSb_iff _).1 ((gsb_at h).1 i hi)).2⟩
  clear hR hrow hn
  generalize gsb T = g1 at CS HNo HYes HSM
  generalize gt t = g2 at CT HNo HYes
  unfold ONt
  go_enter Tryd.func32, Tryd.ntmps32
  go_wp2_with fail
  refine CS.out.mono ?_
  rintro e w2 ⟨rfl, hB2⟩
  clear CS
  cases g1 with
  | false =>
    have hF : Hid (R = ([], false)) := HNo.out rfl
    clear HNo HYes HSM
    go_wp2
    go_ret2
    exact ⟨⟨_, by rw [hF.out]; rfl, by rw [hF.out]; exact NtAt.nil _ _⟩, hB2⟩
  | true =>
    go_wp2_with fail
    refine (CT.out _).mono ?_
    rintro e w3 ⟨rfl, hb3⟩
    have hB3 : Below w.heap.size w w3 := hB2.trans (hb3.mono hB2.size)
    clear hb3 hB2 CT
    cases g2 with
    | false =>
      have hF : Hid (R = ([], false)) := HNo.out rfl
      clear HNo HYes HSM
      go_wp2
      go_ret2
      exact ⟨⟨_, by rw [hF.out]; rfl, by rw [hF.out]; exact NtAt.nil _ _⟩, hB3⟩
    | true =>
      have hF : Hid (R = (puts [] (wls T (spl t)), true)) := HYes.out (by trivial) (by trivial)
      obtain ⟨h30, hsm, hwho⟩ := HSM.out (by trivial)
      have HSL : Hid (∀ i, ∀ x, x ∈ wls (T.take i) (spl t) → x ≤ 1000000) := hsm
      have HWHO : Hid (∀ i, i < T.length → 0 ≤ (sb T i).who ∧ (sb T i).who ≤ 100) := hwho
      clear HNo HYes HSM hsm hwho
      have HSTEP : Hid (∀ i, i < T.length → wls (T.take (i + 1)) (spl t) = wls (T.take i) (spl t) ++ if fts (spl (sb T i).pat) (spl t) then [(sb T i).who.toNat] else []) := fun i hi => wls_step T (spl t) i hi
      have HWL : Hid (∀ i, (wls (T.take i) (spl t)).length ≤ i) := wls_len T (spl t)
      have HF : Hid (∀ P W v u, P.length ≤ 1048577 → StAt W W.heap.size v P → StAt W W.heap.size u (spl t) → Calls Tryd.prog 41 #[v, u] W fun e w' => e = .returned (.bool (fts P (spl t))) ∧ w' = W) := fun P W v u hP h1 h2 => l10Fits_any P (spl t) v u W h1 h2 hP H7
      generalize spl t = ts at *
      go_wp2_with fail
      go_loopw [6, 19] (fun vo vi wr => ∃ (k : Nat), k ≤ T.length ∧ vi = .int .i64 (k : Int) ∧ Hid (NtAt wr wr.heap.size vo (puts [] (wls (T.take k) ts))) ∧ Hid (Below w.heap.size w wr))
        (fun _ vi _ => T.length - (intOf vi).toNat)
      case atStart => exact ⟨0, by omega, rfl, NtAt.nil _ _, hB3⟩
      case round =>
        obtain ⟨k, hk, rfl, hO, hbw⟩ := hrel
        by_cases hlt : k < T.length
        · have hltI : (k : Int) < (T.length : Int) := by omega
          obtain ⟨g, o, rfl, hg, hty⟩ := HROW.out k hlt
          have hci := hty.below hbw.out hg
          have hni := HN.out k hlt
          have hwi := HWHO.out k hlt
          have hST := HSTEP.out k hlt
          have hLK : (puts [] (wls (T.take k) ts)).length ≤ 100000 := by have h1 := puts_len (wls (T.take k) ts) []; have h2 := HWL.out k; simp only [List.length_nil] at h1; omega
          have hLM : ∀ (j : Nat) y, (puts [] (wls (T.take k) ts))[j]? = some y → y ≤ 1000000 := fun j y h => puts_small _ [] 1000000 (fun x hx => by simp at hx) (HSL.out k) j y h
          have HPS : Hid (∀ x, puts [] (wls (T.take k) ts ++ [x]) = put x (puts [] (wls (T.take k) ts))) := fun x => puts_snoc x _ []
          obtain ⟨ti, hti⟩ : ∃ t, sb T k = t := ⟨_, rfl⟩
          rw [hti] at hci hni hwi hST
          clear hti hty
          obtain ⟨pat, who⟩ := ti
          obtain ⟨c0, c1⟩ := hci
          dsimp only at c0 c1 hni hwi hST
          obtain ⟨n, hnw⟩ : ∃ n : Nat, who = (n : Int) := ⟨who.toNat, by omega⟩
          subst hnw
          have hn1 : n ≤ 1000000 := by omega
          rw [Int.toNat_natCast] at hST
          have HST : Hid (wls (T.take (k + 1)) ts = wls (T.take k) ts ++ if fts (spl pat) ts then [n] else []) := hST
          have HLK : Hid ((puts [] (wls (T.take k) ts)).length ≤ 100000) := hLK
          have HLM : Hid (∀ (j : Nat) y, (puts [] (wls (T.take k) ts))[j]? = some y → y ≤ 1000000) := hLM
          have SP : Hid (∀ W, Calls Tryd.prog 37 #[.string pat, .int .u8 47] W fun e w' => ∃ r, e = .returned r ∧ StRow w' W.heap.size r (spl pat) ∧ Below W.heap.size W w') := fun W => l10Split_any pat W hni
          have H6 : (spl pat).length ≤ 1048577 := by have := spl_le pat; omega
          clear hST hLK hLM hwi
          generalize spl pat = ps at HST SP H6
          obtain ⟨L, hLe⟩ : ∃ L, L = puts [] (wls (T.take k) ts) := ⟨_, rfl⟩
          rw [← hLe] at hO HLK HLM HPS
          have HLE : Hid (puts [] (wls (T.take k) ts) = L) := hLe.symm
          clear hLe
          have HU : Hid (∃ ua uc, u6 = Value.slice ua L.length uc) := by obtain ⟨ua, uc, e, _⟩ := hO.out; exact ⟨ua, uc, e⟩
          obtain ⟨ua, uc, rfl⟩ := HU.out
          clear HU
          obtain ⟨W3, hW3⟩ : ∃ W, W = wr.alloc (.cells #[.string pat, .int .i64 (n : Int)] 66) := ⟨_, rfl⟩
          have hA3 : Below wr.heap.size wr W3 := by rw [hW3]; exact (Below.refl _ wr).alloc (Nat.le_refl _) _
          have hl3 : wr.heap.size < W3.heap.size := by rw [hW3]; simp
          have z1 : W3.cell? ⟨wr.heap.size, 1, none⟩ = some (.int .i64 (n : Int)) := by rw [hW3]; go_simp
          go_wp2_with fail
          rw [← hW3]
          clear hW3 c0 c1
          refine (SP.out _).mono ?_
          rintro e w4 ⟨r4, rfl, hr4, hb4⟩
          have hA4 : Below wr.heap.size wr w4 := hA3.trans (hb4.mono hA3.size)
          have hl4 : wr.heap.size < w4.heap.size := by have := hb4.size; omega
          have z4 := (hb4.cell (p := ⟨wr.heap.size, 1, none⟩) hl3).trans z1
          have HP4 : Hid (StAt w4 w4.heap.size r4 ps) := StAt.own hr4
          obtain ⟨a4, c4, rfl⟩ := hr4.slice
          clear hb4 hr4 hA3 hl3 z1 SP
          go_wp2_with fail
          refine (ST.out _).mono ?_
          rintro e w5 ⟨r5, rfl, hr5, hb5⟩
          have hA5 : Below wr.heap.size wr w5 := hA4.trans (hb5.mono hA4.size)
          have hl5 : wr.heap.size < w5.heap.size := by have := hb5.size; omega
          have z5 := (hb5.cell (p := ⟨wr.heap.size, 1, none⟩) hl4).trans z4
          have HP5 : Hid (StAt w5 w5.heap.size (.slice a4 ps.length c4) ps) := HP4.out.below hb5
          have HT5 : Hid (StAt w5 w5.heap.size r5 ts) := StAt.own hr5
          obtain ⟨a5, c5, rfl⟩ := hr5.slice
          clear hb5 hr5 hA4 hl4 z4 HP4
          have HC : Hid (Calls Tryd.prog 41 #[.slice a4 ps.length c4, .slice a5 ts.length c5] w5 fun e w' => e = .returned (.bool (fts ps ts)) ∧ w' = w5) := HF.out ps w5 _ _ H6 HP5.out HT5.out
          generalize fts ps ts = b at HC HST
          have hB5 : Below w.heap.size w w5 := hbw.out.trans (hA5.mono hbw.out.size)
          have HO5 : Hid (NtAt w5 w5.heap.size (.slice ua L.length uc) L) := hO.out.below hA5
          clear hO HP5 HT5 hbw
          go_wp2_with fail
          refine HC.out.mono ?_
          rintro e w6 ⟨rfl, rfl⟩
          clear HC
          cases b with
          | false =>
            have hE : Hid (NtAt w6 w6.heap.size (.slice ua L.length uc) (puts [] (wls (T.take (k + 1)) ts))) := by
              show NtAt _ _ _ _
              rw [HST.out]
              simp only [Bool.false_eq_true, if_false, List.append_nil]
              rw [HLE.out]
              exact HO5.out
            clear HST
            go_wp2
            go_roundw
            case rel => exact ⟨k + 1, by omega, by go_num, hE, hB5⟩
            case measure => simp [intOf]; omega
          | true =>
            go_wp2_with fail
            refine (l10Put_any n L _ _ hn1 HO5.out HLK.out HLM.out).mono ?_
            rintro e w7 ⟨⟨r7, rfl, hr7⟩, hb7⟩
            have hE : Hid (NtAt w7 w7.heap.size r7 (puts [] (wls (T.take (k + 1)) ts))) := by
              show NtAt _ _ _ _
              rw [HST.out, if_pos (by trivial), HPS.out]
              exact hr7
            have hB7 : Below w.heap.size w w7 := hB5.trans (hb7.mono hB5.size)
            obtain ⟨a7, c7, rfl, _⟩ := hr7
            clear HST hb7 hB5
            go_wp2
            go_roundw
            case rel => exact ⟨k + 1, by omega, by go_num, hE, hB7⟩
            case measure => simp [intOf]; omega
        · have hge : ¬ ((k : Int) < (T.length : Int)) := by omega
          have hke : T.take k = T := List.take_of_length_le (by omega)
          have hE : Hid (R = (puts [] (wls (T.take k) ts), true)) := by show _ = _; rw [hF.out, hke]
          clear hke
          have HU : Hid (∃ ua uc, u6 = Value.slice ua (puts [] (wls (T.take k) ts)).length uc) := by obtain ⟨ua, uc, e, _⟩ := hO.out; exact ⟨ua, uc, e⟩
          obtain ⟨ua, uc, rfl⟩ := HU.out
          clear HU
          go_wp2
          go_ret2
          exact ⟨⟨_, by rw [hE.out]; rfl, by rw [hE.out]; exact hO.out⟩, hbw.out⟩

end Go.Proofs.YtndeikgkncfmbaaDoor
