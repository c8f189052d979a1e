/- The program's Matches. -/
import Derived.Test.YtmjpmmkjfimopaaDoorMtE
import Derived.Test.YtmjpmmkjfimopaaDoorWfF
namespace Go.Proofs.YtmjpmmkjfimopaaDoor
open Go.RowKit Plain Sch Wan

theorem infoBoolM : (Tryd.prog.info? 4).map (fun i => (i.zero, i.size, i.bytes)) = some (some (.bool false), 1, 1) := by kernel_rfl

set_option maxRecDepth 100000 in
set_option maxHeartbeats 8000000 in
theorem implMatches (T : List Wa) (s : ByteArray) (v : Value) (w : World) (hT : WasAt w w.heap.size v T) (hsm : s.size ≤ maxLen) (hk : KR w) :
    Calls Tryd.prog 9 #[.agg #[v], .string s] w fun e w' => e = .returned (.tuple #[.bool (mto T s).1, .bool (mto T s).2]) ∧ Below w.heap.size w w' := by
  obtain ⟨i0, hi, hz0, hz1, hz2⟩ := info_parts infoBoolM
  have HT : Hid (WasAt w w.heap.size v T) := hT
  obtain ⟨ao, cap, rfl, hlc, hcm, hrow, hnm⟩ := hT
  have HROW : Hid (∀ i, i < T.length → ∃ g o, ao = some ⟨g, o, none⟩ ∧ g < w.heap.size ∧ WaIn w g (o + i * 6) (wa T i)) := hrow
  clear hrow hnm
  unfold maxLen at hcm
  obtain ⟨W1, hW1⟩ : ∃ W, W = w.alloc (.cells #[.slice ao T.length cap] 25) := ⟨_, rfl⟩
  have hB1 : Below w.heap.size w W1 := by rw [hW1]; exact (Below.refl _ w).alloc (Nat.le_refl _) _
  have hs1 : Hid (W1.heap.size = w.heap.size + 1) := by show _ = _; rw [hW1]; simp
  have hl1 : w.heap.size < W1.heap.size := by rw [hs1.out]; omega
  have q1 : W1.cell? ⟨w.heap.size, 0, none⟩ = some (.slice ao T.length cap) := by rw [hW1]; go_simp
  have HK : Hid (∀ W, Below w.heap.size w W → KR W) := fun W hW => hk.below hW hk.1
  have CR : Hid (∀ W, Below w.heap.size w W → Calls Tryd.prog 26 #[.string s] W fun e w' => OFs W w' e (rr s)) := fun W hW => readRising_any s W hsm (HK.out W hW)
  have hrl := rr_lenM s
  have HRO : Hid (∀ f ∈ (rr s).1, okF f) := rr_all s
  obtain ⟨R, hR⟩ : ∃ R, R = mto T s := ⟨_, rfl⟩
  rw [← hR]
  have HR : Hid (R = if gf T && (rr s).2 then (tl (rr s).1 T (T.length - 1), true) else (false, false)) := hR
  clear hR hk
  generalize rr s = F at CR hrl HRO HR
  obtain ⟨l, ok⟩ := F
  dsimp only at hrl
  have HR2 : Hid (R = if gf T && ok then (tl l T (T.length - 1), true) else (false, false)) := HR
  have HRO2 : Hid (∀ f ∈ l, okF f) := HRO
  clear HR HRO
  unfold OFs at CR
  dsimp only at CR
  go_enter Tryd.func9, Tryd.ntmps9
  go_wp2_with fail
  rw [← hW1]
  clear hW1
  refine (implGoodF T _ _ (HT.out.below hB1)).mono ?_
  rintro e w2 ⟨rfl, hb2⟩
  have hB2 : Below w.heap.size w w2 := hB1.trans (hb2.mono (by omega))
  have q2 := (hb2.cell (p := ⟨w.heap.size, 0, none⟩) hl1).trans q1
  have hl2 : w.heap.size < w2.heap.size := by have := hb2.size; omega
  clear hb2 q1 hs1 HT
  cases hg : gf T with
  | false =>
    have hn : Hid (R = (false, false)) := by show R = _; rw [HR2.out, hg]; rfl
    clear hg HR2
    go_wp2
    go_ret2
    exact ⟨by rw [hn.out]; rfl, hB2⟩
  | true =>
    obtain ⟨h0, h20⟩ := gf_len hg
    have HG : Hid (gf T = true) := hg
    have HR3 : Hid (R = if ok then (tl l T (T.length - 1), true) else (false, false)) := by show R = _; rw [HR2.out, hg]; rfl
    clear hg HR2
    go_wp2_with fail
    refine (CR.out _ hB2).mono ?_
    rintro e w3 ⟨vl, rfl, hF3, hb3⟩
    have hB3 : Below w.heap.size w w3 := hB2.trans (hb3.mono (by omega))
    have q3 := (hb3.cell (p := ⟨w.heap.size, 0, none⟩) hl2).trans q2
    have hl3 : w.heap.size < w3.heap.size := by have := hb3.size; omega
    have HF3 : Hid (FldsAt w3 w3.heap.size vl l) := hF3
    obtain ⟨al, capl, rfl, _⟩ := hF3
    clear hb3 q2 CR
    cases ok with
    | false =>
      have hn : Hid (R = (false, false)) := HR3.out
      clear HR3
      go_wp2
      go_ret2
      exact ⟨by rw [hn.out]; rfl, hB3⟩
    | true =>
      have hn : Hid (R = (tl l T (T.length - 1), true)) := HR3.out
      clear HR3
      go_wp2
      go_loopw [8, 24] (fun vt vi wr => ∃ i : Nat, i ≤ T.length ∧ vi = .int .i64 (i : Int) ∧ Hid (BRowW wr w3.heap.size vt (fld (tlS l) (T.take i))) ∧ Hid (Below w3.heap.size w3 wr))
        (fun _ vi _ => T.length - (intOf vi).toNat)
      case atStart => exact ⟨0, by omega, rfl, World.ownsRow_nil _ _ _ _, Below.refl _ _⟩
      case round =>
        obtain ⟨i, hi', rfl, hZ, hBw⟩ := hrel
        have hB0 : Below w.heap.size w wr := hB3.trans (hBw.out.mono (by omega))
        have hsz : w3.heap.size ≤ wr.heap.size := hBw.out.size
        by_cases hlt : i < T.length
        · have hlt' : (i : Int) < (T.length : Int) := by omega
          obtain ⟨g, o, rfl, hg, hty⟩ := HROW.out i hlt
          have hci := hty.below hB0 hg
          have hST : Hid (fld (tlS l) (T.take (i + 1)) = fld (tlS l) (T.take i) ++ [tlS l (fld (tlS l) (T.take i)) (wa T i)]) := fld_take (tlS l) T i hlt
          have hDL : Hid ((fld (tlS l) (T.take i)).length = i) := by show _ = _; rw [fld_len]; simp; omega
          have CW : Hid (∀ (W : World) (vt : Value), Below w3.heap.size w3 W → BAt W W.heap.size vt (fld (tlS l) (T.take i)) → Calls Tryd.prog 27 #[.agg #[.int .i64 (wa T i).kind, .int .i64 (wa T i).no, .int .i64 (wa T i).num, .string (wa T i).text, .int .i64 (wa T i).a, .int .i64 (wa T i).b], .slice al l.length capl, vt] W fun e w' => e = .returned (.bool (tlS l (fld (tlS l) (T.take i)) (wa T i))) ∧ Below W.heap.size W w') := fun W vt hW hA => wantTells_any (wa T i) i l _ _ vt W (gf_ok HG.out i hlt) (HF3.out.below hW) hrl hA hDL.out (by omega) HRO2.out
          generalize fld (tlS l) (T.take i) = D at hST hDL hZ CW
          generalize tlS l D (wa T i) = res at hST CW
          generalize wa T i = x at hci CW
          obtain ⟨k, n, m, t, a, b⟩ := x
          obtain ⟨c0, c1, c2, c3, c4, c5⟩ := hci
          dsimp only at c0 c1 c2 c3 c4 c5 CW
          clear hty
          obtain ⟨W4, hW4⟩ : ∃ W, W = wr.alloc (.cells #[.int .i64 k, .int .i64 n, .int .i64 m, .string t, .int .i64 a, .int .i64 b] 66) := ⟨_, rfl⟩
          have hA4 : Below wr.heap.size wr W4 := by rw [hW4]; exact (Below.refl _ wr).alloc (Nat.le_refl _) _
          have hB34 : Below w3.heap.size w3 W4 := hBw.out.trans (hA4.mono hsz)
          have hZ4 : BRowW W4 w3.heap.size u8 D := hZ.out.below hA4
          obtain ⟨ad, capd, hud⟩ : ∃ ao cap, u8 = Value.slice ao D.length cap := by
            rcases hZ4.2 with ⟨rfl, h00⟩ | ⟨g9, cap9, _, rfl, _⟩
            · exact ⟨none, 0, by rw [h00]⟩
            · exact ⟨_, _, rfl⟩
          subst hud
          have HZ4 : Hid (BRowW W4 w3.heap.size (.slice ad D.length capd) D) := hZ4
          have hw4 : w3.heap.size ≤ W4.heap.size := hB34.size
          clear hZ4 hZ
          go_wp2_with fail
          rw [← hW4]
          clear hW4 c0 c1 c2 c3 c4 c5
          refine (CW.out _ _ hB34 (BAt.own HZ4.out)).mono ?_
          rintro e w5 ⟨rfl, hb5⟩
          have hB35 : Hid (Below w3.heap.size w3 w5) := hB34.trans (hb5.mono hw4)
          have hs5 : w3.heap.size ≤ w5.heap.size := hB35.out.size
          have hown' : w5.ownsRow w3.heap.size 4 1 (.slice ad D.length capd) D.length (D.map Value.bool) := HZ4.out.below hb5
          clear hb5 HZ4 hB34 hA4 CW hBw hB0
          have hD20 : D.length ≤ 20 := by rw [hDL.out]; omega
          go_wp2_with (at_builtin; refine wpList_append_own _ rfl _ _ 64 rfl w3.heap.size 4 i0 (.bool false) 1 1 Tryd.underlying64 hi hz0 hz1 hz2 rfl (by decide) _ _ _ rfl (hown'.alloc _) ⟨w5.heap.size, 0, none⟩ 1 1 [Value.bool res] rfl rfl ?c1 ?c2 ?c3 ?c4 ?c5 ?_)
          case c1 =>
            intro j u hj
            match j, hj with
            | 0, hj => simp at hj; subst hj; simp [Addr.add]
            | j + 1, hj => simp at hj
          case c2 => first | rfl | (intro u hu; simp at hu; subst hu; rfl)
          case c3 => unfold maxLen; omega
          case c4 => omega
          case c5 => first | omega | (simp; omega)
          intro v' w6 hown6 hgrow _
          have hlt9 := hown'.lt
          have hB6 : Hid (Below w3.heap.size w3 w6) := (hB35.out.alloc hs5 _).grown hgrow (by simp; omega) (fun k hk => (hlt9 k hk).1)
          have hZ6 : Hid (BRowW w6 w3.heap.size v' (fld (tlS l) (T.take (i + 1)))) := by
            show BRowW _ _ _ _
            rw [hST.out]
            unfold BRowW
            rw [List.map_append, List.length_append, List.length_singleton]
            simpa using hown6
          clear hgrow hown6 hlt9 hown' hB35
          go_wp2
          go_roundw
          case rel => exact ⟨i + 1, by omega, by go_num, hZ6, hB6⟩
          case measure => simp [intOf]; omega
        · have hke : i = T.length := by omega
          subst hke
          have hge : ¬ ((T.length : Int) < (T.length : Int)) := by omega
          have hZe : BRowW wr w3.heap.size u8 (fld (tlS l) T) := by have := hZ.out; rw [List.take_length] at this; exact this
          have hDL : Hid ((fld (tlS l) T).length = T.length) := fld_len _ _
          obtain ⟨ad, capd, rfl, hld, hcd, hrd⟩ := BAt.own hZe
          have hgt : (fld (tlS l) T)[T.length - 1]? = some (tl l T (T.length - 1)) := by
            unfold tl
            rw [List.getD, List.getElem?_eq_getElem (by rw [hDL.out]; omega)]; rfl
          obtain ⟨gd, od, rfl, hgd, hcd2⟩ := hrd _ _ hgt
          obtain ⟨N, hN⟩ : ∃ N, N = T.length - 1 := ⟨_, rfl⟩
          have hNl : ((fld (tlS l) T).length : Int) - 1 = (N : Int) := by rw [hDL.out, hN]; omega
          have hNl2 : N < (fld (tlS l) T).length := by rw [hDL.out, hN]; omega
          have hNl3 : (N : Int) < ((fld (tlS l) T).length : Int) := by omega
          have hdl : ((fld (tlS l) T).length : Int) ≤ 20 := by rw [hDL.out]; omega
          rw [← hN] at hcd2 hn
          generalize tl l T N = res at hcd2 hn
          generalize (fld (tlS l) T).length = M at *
          clear hN hrd hgt hZe hZ hDL
          go_wp2
          go_ret2
          exact ⟨by rw [hn.out]; rfl, hB0⟩

end Go.Proofs.YtmjpmmkjfimopaaDoor
