/- The program's DepthOf. -/
import Derived.Test.YtpopjapcgcnnfaaWfF
namespace Go.Proofs.Ytpopjapcgcnnfaa
open Go.RowKit Plain Sch Wan

theorem infoIntW : (Try.prog.info? 3).map (fun i => (i.zero, i.size, i.bytes)) = some (some (.int .i64 0), 1, 8) := by kernel_rfl

def mxO (D : List Int) (l : List Int) : Int := l.foldl (fun m x => max m (D.getD x.toNat 0)) 0

theorem mxO_step {D L : List Int} {q : Nat} {y : Nat} (h : L[q]? = some (y : Int)) : mxO D (L.take (q + 1)) = max (mxO D (L.take q)) (D.getD y 0) := by
  have e : L.take (q + 1) = L.take q ++ [(y : Int)] := by rw [List.take_add_one, h]; rfl
  unfold mxO
  rw [e, List.foldl_append]
  simp

theorem depS_mx (D : List Int) (x : Wa) : depS D x = mxO D (own x) + 1 := rfl

set_option maxRecDepth 100000 in
set_option maxHeartbeats 8000000 in
theorem implDepth (T : List Wa) (v : Value) (w : World) (hT : WasAt w w.heap.size v T) :
    Calls Try.prog 48 #[.agg #[v]] w fun e w' => e = .returned (.tuple #[.int .i64 (dpo T).1, .bool (dpo T).2]) ∧ Below w.heap.size w w' := by
  obtain ⟨i0, hi, hz0, hz1, hz2⟩ := info_parts infoIntW
  have HT : Hid (WasAt w w.heap.size v T) := hT
  obtain ⟨ao, cap, rfl, hlc, hcm, hrow, hnm⟩ := hT
  have HROW : Hid (∀ i, i < T.length → ∃ g o, ao = some ⟨g, o, none⟩ ∧ g < w.heap.size ∧ WaIn w g (o + i * 6) (wa T i)) := hrow
  clear hrow hnm
  unfold maxLen at hcm
  obtain ⟨W1, hW1⟩ : ∃ W, W = w.alloc (.cells #[.slice ao T.length cap] 43) := ⟨_, rfl⟩
  have hB1 : Below w.heap.size w W1 := by rw [hW1]; exact (Below.refl _ w).alloc (Nat.le_refl _) _
  have hs1 : Hid (W1.heap.size = w.heap.size + 1) := by show _ = _; rw [hW1]; simp
  have hl1 : w.heap.size < W1.heap.size := by rw [hs1.out]; omega
  have q1 : W1.cell? ⟨w.heap.size, 0, none⟩ = some (.slice ao T.length cap) := by rw [hW1]; go_simp
  go_enter Try.func48, Try.ntmps48
  go_wp2_with fail
  rw [← hW1]
  clear hW1
  refine (implGoodF T _ _ (HT.out.below hB1)).mono ?_
  rintro e w2 ⟨rfl, hb2⟩
  have hB2 : Below w.heap.size w w2 := hB1.trans (hb2.mono (by omega))
  have q2 := (hb2.cell (p := ⟨w.heap.size, 0, none⟩) hl1).trans q1
  have hl2 : w.heap.size < w2.heap.size := by have := hb2.size; omega
  clear hb2 q1 hs1 HT
  cases hg : gf T with
  | false =>
    have hR : Hid (dpo T = (0, false)) := by show _ = _; unfold dpo; rw [hg]; rfl
    clear hg
    go_wp2
    go_ret2
    exact ⟨by rw [hR.out]; rfl, hB2⟩
  | true =>
    have hR : Hid (dpo T = (dp T (T.length - 1), true)) := by show _ = _; unfold dpo; rw [hg]; rfl
    obtain ⟨h0, h20⟩ := gf_len hg
    have HG : Hid (gf T = true) := hg
    clear hg
    go_wp2
    go_loopw [4, 16] (fun vl vi wr => ∃ i : Nat, i ≤ T.length ∧ vi = .int .i64 (i : Int) ∧ Hid (ZRow wr w2.heap.size vl (fld depS (T.take i))) ∧ Hid (Below w2.heap.size w2 wr))
      (fun _ vi _ => T.length - (intOf vi).toNat)
    case atStart => exact ⟨0, by omega, rfl, World.ownsRow_nil _ _ _ _, Below.refl _ _⟩
    case round =>
      obtain ⟨i, hi', rfl, hZ, hBw⟩ := hrel
      have hB0 : Below w.heap.size w wr := hB2.trans (hBw.out.mono (by omega))
      have hsz : w2.heap.size ≤ wr.heap.size := hBw.out.size
      by_cases hlt : i < T.length
      · have hlt' : (i : Int) < (T.length : Int) := by omega
        obtain ⟨g, o, rfl, hg, hty⟩ := HROW.out i hlt
        have hci := hty.below hB0 hg
        have hOW : Hid (∀ x ∈ own (wa T i), 0 ≤ x ∧ x < i) := gf_own HG.out i hlt
        have CO : Hid (∀ W : World, Calls Try.prog 69 #[.agg #[.int .i64 (wa T i).kind, .int .i64 (wa T i).no, .int .i64 (wa T i).num, .string (wa T i).text, .int .i64 (wa T i).a, .int .i64 (wa T i).b]] W fun e w' => ∃ v, e = .returned v ∧ ZAt w' w'.heap.size v (own (wa T i)) ∧ Below W.heap.size W w') := fun W => (ownWants_any (wa T i) W).mono (by rintro e w' ⟨v, h1, h2, _, h3⟩; exact ⟨v, h1, h2, h3⟩)
        have hST : Hid (fld depS (T.take (i + 1)) = fld depS (T.take i) ++ [mxO (fld depS (T.take i)) (own (wa T i)) + 1]) := by show _ = _; rw [fld_take depS T i hlt, depS_mx]
        have hDL : Hid ((fld depS (T.take i)).length = i) := by show _ = _; rw [fld_len]; simp; omega
        have hDV : Hid (∀ y, y < i → ∃ d : Int, (fld depS (T.take i))[y]? = some d ∧ (fld depS (T.take i)).getD y 0 = d ∧ 1 ≤ d ∧ d ≤ 21) := fun y hy => by
          have e1 := fldD_get (s := depS) (T := T) (k := i) (j := y) hi' hy
          have e2 : (fld depS (T.take i))[y]? = some ((fld depS (T.take i)).getD y 0) := by
            rw [List.getD, List.getElem?_eq_getElem (by rw [hDL.out]; exact hy)]; rfl
          refine ⟨_, e2, rfl, ?_, ?_⟩
          · rw [e1]; exact dp_pos T y (by omega)
          · rw [e1]; have := dp_le HG.out y (by omega); unfold dp at this; omega
        have hol : (own (wa T i)).length ≤ 2 := by
          unfold own
          by_cases h1 : isBin (wa T i).kind = true
          · rw [if_pos h1]; simp
          · rw [if_neg h1]
            by_cases h2 : isNot (wa T i).kind = true
            · rw [if_pos h2]; simp
            · rw [if_neg h2]; simp
        generalize own (wa T i) = L at hOW CO hST hol
        generalize fld depS (T.take i) = D at hST hDL hDV hZ
        generalize wa T i = x at hci CO
        obtain ⟨k, n, m, t, a, b⟩ := x
        dsimp only at hci CO
        obtain ⟨c0, c1, c2, c3, c4, c5⟩ := hci
        dsimp only at c0 c1 c2 c3 c4 c5
        clear hty
        obtain ⟨W3, hW3⟩ : ∃ W, W = wr.alloc (.cells #[.int .i64 k, .int .i64 n, .int .i64 m, .string t, .int .i64 a, .int .i64 b] 97) := ⟨_, rfl⟩
        have hA3 : Below wr.heap.size wr W3 := by rw [hW3]; exact (Below.refl _ wr).alloc (Nat.le_refl _) _
        go_wp2_with fail
        rw [← hW3]
        clear hW3 c0 c1 c2 c3 c4 c5
        refine (CO.out _).mono ?_
        rintro e w5 ⟨v5, rfl, hz5, hb5⟩
        have hA5 : Hid (Below wr.heap.size wr w5) := hA3.trans (hb5.mono hA3.size)
        have hB5 : Hid (Below w2.heap.size w2 w5) := hBw.out.trans (hA5.out.mono hsz)
        have hZ5 : Hid (ZRow w5 w2.heap.size u4 D) := hZ.out.below hA5.out
        have hs5 : w2.heap.size ≤ w5.heap.size := hB5.out.size
        have hRow5 := ZAt.own hZ5.out
        obtain ⟨ad, capd, rfl, hld, hcd, hrd⟩ := hRow5
        have HRD : Hid (∀ i (x : Int), D[i]? = some x → ∃ g o, ad = some ⟨g, o, none⟩ ∧ g < w5.heap.size ∧ w5.cell? ⟨g, o + i, none⟩ = some (.int .i64 x)) := hrd
        obtain ⟨az, capz, rfl, hlz, hcz, hrz⟩ := hz5
        have HRZ : Hid (∀ i (x : Int), L[i]? = some x → ∃ g o, az = some ⟨g, o, none⟩ ∧ g < w5.heap.size ∧ w5.cell? ⟨g, o + i, none⟩ = some (.int .i64 x)) := hrz
        have hdl : D.length ≤ 20 := by rw [hDL.out]; omega
        unfold maxLen at hcz hcd
        clear hb5 CO hBw hB0 hA5 hA3 hZ hrd hrz
        go_wp2
        go_loop [7, 23] (fun vm vi => ∃ (q : Nat) (mm : Int), q ≤ L.length ∧ vi = .int .i64 (q : Int) ∧ vm = .int .i64 mm ∧ Hid (mm = mxO D (L.take q)) ∧ 0 ≤ mm ∧ mm ≤ 21)
          (fun _ vi => L.length - (intOf vi).toNat)
        case atStart => exact ⟨0, 0, by omega, rfl, rfl, rfl, by omega, by omega⟩
        case round =>
          obtain ⟨q, mm, hq, rfl, rfl, hm, hm0, hm1⟩ := hrel
          by_cases hlq : q < L.length
          · have hlq' : (q : Int) < (L.length : Int) := by omega
            obtain ⟨x, hx⟩ : ∃ x, L[q]? = some x := ⟨_, List.getElem?_eq_getElem hlq⟩
            obtain ⟨hx0, hxi⟩ := hOW.out x (List.mem_of_getElem? hx)
            obtain ⟨y, rfl⟩ := Int.eq_ofNat_of_zero_le hx0
            obtain ⟨gz, oz, rfl, hgz, hcz2⟩ := HRZ.out q _ hx
            obtain ⟨d, hd1, hd2, hd3, hd4⟩ := hDV.out y (by omega)
            obtain ⟨gd, od, rfl, hgd, hcd2⟩ := HRD.out y _ hd1
            have hyD : y < D.length := (List.getElem?_eq_some_iff.1 hd1).1
            have hyD' : (y : Int) < (D.length : Int) := by omega
            have hm2 : Hid (max mm d = mxO D (L.take (q + 1))) := by show _ = _; rw [mxO_step hx, hd2, hm.out]
            have hmx : Hid ((if mm < d then d else mm) = max mm d) := by show _ = _; split <;> omega
            have hmx0 : 0 ≤ max mm d := by omega
            have hmx1 : max mm d ≤ 21 := by omega
            clear hd1 hd2 hx hm
            go_wp2
            go_round
            case rel => exact ⟨q + 1, max mm d, by omega, by go_num, by rw [hmx.out], hm2, hmx0, hmx1⟩
            case measure => simp [intOf]; omega
          · have hke : q = L.length := by omega
            subst hke
            have hge : ¬ ((L.length : Int) < (L.length : Int)) := by omega
            have hE : Hid (D ++ [mm + 1] = fld depS (T.take (i + 1))) := by show _ = _; rw [hST.out, hm.out, List.take_length]
            clear hm
            have hown' : w5.ownsRow w2.heap.size 3 1 (.slice ad D.length capd) D.length (zints D) := hZ5.out
            go_wp2_with (at_builtin; refine wpList_append_own _ rfl _ _ 67 rfl w2.heap.size 3 i0 (.int .i64 0) 1 8 Try.underlying67 hi hz0 hz1 hz2 rfl (by decide) _ _ _ rfl (hown'.alloc _) ⟨w5.heap.size, 0, none⟩ 1 1 [Value.int .i64 (mm + 1)] rfl rfl ?c1 ?c2 ?c3 ?c4 ?c5 ?_)
            case c2 => first | rfl | (intro u hu; simp at hu; subst hu; rfl)
            case c3 => unfold maxLen; omega
            case c4 => omega
            case c5 => first | omega | (simp; omega)
            intro v' w6 hown6 hgrow _
            have hlt9 := hown'.lt
            have hB6 : Hid (Below w2.heap.size w2 w6) := (hB5.out.alloc hs5 _).grown hgrow (by simp; omega) (fun k hk => (hlt9 k hk).1)
            have hZ6 : Hid (ZRow w6 w2.heap.size v' (fld depS (T.take (i + 1)))) := by
              show ZRow _ _ _ _
              rw [← hE.out]
              unfold ZRow zints
              rw [List.map_append, List.length_append, List.length_singleton]
              simpa [zints] using hown6
            clear hgrow hown6 hlt9 hown' hB5 hZ5
            go_wp2
            go_roundw
            case rel => exact ⟨i + 1, by omega, by go_num, hZ6, hB6⟩
            case measure => simp [intOf]; omega
      · have hke : i = T.length := by omega
        subst hke
        have hge : ¬ ((T.length : Int) < (T.length : Int)) := by omega
        have hZe : ZRow wr w2.heap.size u4 (fld depS T) := by have := hZ.out; rw [List.take_length] at this; exact this
        have hDL : Hid ((fld depS T).length = T.length) := fld_len _ _
        obtain ⟨ad, capd, rfl, hld, hcd, hrd⟩ := ZAt.own hZe
        have hgt : (fld depS T)[T.length - 1]? = some (dp T (T.length - 1)) := by
          unfold dp
          rw [List.getD, List.getElem?_eq_getElem (by rw [hDL.out]; omega)]; rfl
        obtain ⟨gd, od, rfl, hgd, hcd2⟩ := hrd _ _ hgt
        obtain ⟨N, hN⟩ : ∃ N, N = T.length - 1 := ⟨_, rfl⟩
        have hNl : ((fld depS T).length : Int) - 1 = (N : Int) := by rw [hDL.out, hN]; omega
        have hNl2 : N < (fld depS T).length := by rw [hDL.out, hN]; omega
        have hNl3 : (N : Int) < ((fld depS T).length : Int) := by omega
        have hdl : ((fld depS T).length : Int) ≤ 20 := by rw [hDL.out]; omega
        rw [← hN] at hcd2 hR
        generalize dp T N = res at hcd2 hR
        generalize (fld depS T).length = M at *
        clear hN hrd hgt hZe hZ hDL
        go_wp2
        go_ret2
        exact ⟨by rw [hR.out]; rfl, hB0⟩

end Go.Proofs.Ytpopjapcgcnnfaa
