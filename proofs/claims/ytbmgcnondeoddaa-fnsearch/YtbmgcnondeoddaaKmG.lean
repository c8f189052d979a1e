/- The model's l11Borders, BordersOf, PeriodOf. -/
import Derived.Test.YtbmgcnondeoddaaKmH
import Derived.Lib.ConvBytes
namespace Go.Proofs.Ytbmgcnondeoddaa
open Go.RowKit Plain Tpc Kmp

theorem bytes_below (w : World) (e : TypeId) (s : ByteArray) : Below w.heap.size w (Lib.bytesWorld w e s) :=
  ⟨rfl, rfl, rfl, by rw [Lib.bytesWorld_size]; omega, fun j hj => Lib.bytesWorld_at_old w e s j hj⟩

theorem nx_end {p : ByteArray} {B : List Nat} {b n N : Nat} (h : N = nx p B b n) (hz : n = 0 ∨ bt p n = b) : N = if bt p n = b then n + 1 else 0 := by
  by_cases hb : bt p n = b
  · rw [if_pos hb, h, nx_hit B hb]
  · rcases hz with rfl | hz
    · rw [if_neg hb, h, nx_zero B hb]
    · exact absurd hz hb

set_option maxRecDepth 100000 in
set_option maxHeartbeats 4000000 in
theorem l11Borders_any (p : ByteArray) (w : World) (hp : p.size ≤ 1048576) :
    Calls Try.prog 48 #[.string p] w fun e w' => ∃ v, e = .returned v ∧ NRow w' w.heap.size v (bors p p.size) ∧ Below w.heap.size w w' := by
  obtain ⟨i0, hi, hz0, hz1, hz2⟩ := info_parts Try.infoInt
  have hcv := Lib.run_convert_string_bytes (P := Try.prog) w 9 33 5 p Try.underlying9 Try.underlying33 Try.underlying5
  have hB0 := bytes_below w 5 p
  generalize Lib.bytesWorld w 5 p = W0 at hcv hB0
  generalize grownCap w p.size 0 5 = c0 at hcv
  go_enter Try.func48, Try.ntmps48
  go_wp2
  go_loopw [3, 9] (fun vo vi wr => ∃ (n : Nat), n ≤ p.size ∧ vi = .int .i64 (n : Int) ∧ NRow wr w.heap.size vo (bors p n) ∧ Below w.heap.size w wr)
    (fun _ vi _ => p.size - (intOf vi).toNat)
  case atStart => exact ⟨0, by omega, rfl, World.ownsRow_nil _ _ _ _, hB0⟩
  case round =>
    obtain ⟨n, hnp, rfl, hR1, hb1⟩ := hrel
    have HR1 : Hid (NRow wr w.heap.size u3 (bors p n)) := hR1
    have hs1 := hb1.size
    clear hR1 hB0 hcv
    by_cases hlt : n < p.size
    · have hltI : (n : Int) < (p.size : Int) := by omega
      have hbk := bt_get p n hlt
      have hbl := bors_len p n
      by_cases hn0 : n = 0
      · subst hn0
        have hown' : wr.ownsRow w.heap.size 3 1 u3 0 (ints []) := HR1.out
        clear HR1 hbl hbk
        go_wp2_with (at_builtin; refine wpList_append_lies _ rfl _ _ 22 rfl w.heap.size 3 i0 (.int .i64 0) 1 8 Try.underlying22 hi hz0 hz1 hz2 rfl (by decide) _ 0 _ rfl (World.ownsRow.alloc hown' _) ⟨wr.heap.size, 0, none⟩ 1 1 [Value.int .i64 0] rfl rfl (World.news_of_block (heap_alloc_new wr _)) (one1 _) (by omega) (by unfold maxLen; omega) (by omega) (by simp; omega) (wr.heap.size + 1) (by simp) ?_)
        intro g9 cap9 w4 hown4 hgrow hat hlt4
        have hb4 : Below w.heap.size w w4 := (hb1.alloc hs1 _).grown hgrow (by simp; omega) (fun k hk => (World.ownsRow.lt hown' k hk).1)
        have hR4 : NRow w4 w.heap.size (.slice (some ⟨g9, 0, none⟩) 1 cap9) (bors p 1) := hown4
        clear hown4 hgrow hat hown' hb1
        go_wp2
        go_roundw
        case rel => exact ⟨1, by omega, by go_num, hR4, hb4⟩
        case measure => simp [intOf]; omega
      · obtain ⟨m, hm⟩ : ∃ m, n = m + 1 := ⟨n - 1, by omega⟩
        have hsh := bors_sh p n
        have HNX : Hid (bors p (n + 1) = bors p n ++ [nx p (bors p n) (bt p n) ((bors p n).getD m 0)]) := by show _ = _; rw [hm, bors]
        obtain ⟨g, cap, hvb, hgl, hcell, hcc, hcm⟩ := HR1.out.cell (i := m) (by omega)
        have hcm' : cap ≤ 9223372036854775807 := by unfold maxLen at hcm; omega
        have hq9 := hsh m
        generalize hN : nx p (bors p n) (bt p n) ((bors p n).getD m 0) = N at HNX
        have hNl : N ≤ n := by
          rw [← hN]
          have := nx_le (p := p) hsh (bt p n) ((bors p n).getD m 0)
          omega
        have HN : Hid (N = nx p (bors p n) (bt p n) ((bors p n).getD m 0)) := hN.symm
        have HSH : Hid (Sh (bors p n)) := hsh
        generalize bors p n = BB at HR1 HNX HN HSH hbl hcell hvb hcc hq9
        have hvb' : u3 = .slice (some ⟨g, 0, none⟩) n cap := by rw [hvb, hbl]
        have HR1' : Hid (NRow wr w.heap.size (.slice (some ⟨g, 0, none⟩) n cap) BB) := by rw [← hvb']; exact HR1
        have hcc' : n ≤ cap := by omega
        have HBL : Hid (BB.length = n) := hbl
        subst hvb'
        generalize BB.getD m 0 = q at hcell HN hq9
        have hm1 : (n : Int) - 1 = (m : Int) := by omega
        have hmn : (m : Int) < (n : Int) := by omega
        have hn0' : (0 : Int) < (n : Int) := by omega
        have hng : decide ((n : Int) > 0) = true := by simp; omega
        have hgs : g < wr.heap.size := hgl
        have HM : Hid (n = m + 1) := hm
        clear hvb hcc hbl HR1 hsh hN hm
        obtain ⟨wo, hwo⟩ : ∃ W, W = wr := ⟨_, rfl⟩
        rw [← hwo] at HR1' hb1 hs1 hcell hgl hgs ⊢
        clear hwo
        go_wp2
        go_loopw [5] (fun vn wr => ∃ (k1 : Nat), k1 < n ∧ vn = .int .i64 (k1 : Int) ∧ Hid (N = nx p BB (bt p n) k1) ∧ NRow wr w.heap.size (.slice (some ⟨g, 0, none⟩) n cap) BB ∧ Below w.heap.size w wr)
          (fun vn _ => (intOf vn).toNat)
        case atStart => exact ⟨q, by have := HM.out; omega, rfl, HN, HR1'.out, hb1⟩
        case round =>
          obtain ⟨k1, hk1, rfl, HN1, hR2, hb2⟩ := hrel
          have HR2 : Hid (NRow wr w.heap.size (.slice (some ⟨g, 0, none⟩) n cap) BB) := hR2
          have hs2 := hb2.size
          clear HN HR1' hb1 hs1 hcell hR2
          have hbn := bt_get p k1 (by omega)
          have hk1p : (k1 : Int) < (p.size : Int) := by omega
          have hk1s : k1 < p.size := by omega
          by_cases hgo : k1 = 0 ∨ bt p k1 = bt p n
          · -- the loop ends
            have HE : Hid (N = if bt p k1 = bt p n then k1 + 1 else 0) := nx_end HN1.out hgo
            have hown' : wr.ownsRow w.heap.size 3 1 (.slice (some ⟨g, 0, none⟩) n cap) n (ints BB) := by have := HR2.out; unfold NRow at this; rwa [HBL.out] at this
            have HSN : ∀ {W : World} {v : Value}, W.ownsRow w.heap.size 3 1 v (n + 1) (ints BB ++ [.int .i64 (N : Int)]) → NRow W w.heap.size v (bors p (n + 1)) := fun h => by
              rw [HNX.out]
              exact NRow.snoc h (by rw [HBL.out]) rfl
            have HSN' : Hid (∀ {W : World} {v : Value}, W.ownsRow w.heap.size 3 1 v (n + 1) (ints BB ++ [.int .i64 (N : Int)]) → NRow W w.heap.size v (bors p (n + 1))) := HSN
            clear HSN HNX HR2
            have hownN : Hid (∀ q, (wr.drewN q).ownsRow w.heap.size 3 1 (.slice (some ⟨g, 0, none⟩) n cap) n (ints BB)) := fun q => hown'
            by_cases hal : bt p k1 = bt p n
            · have d2 : (((bt p k1 : Nat) : Int) == ((bt p n : Nat) : Int)) = true := by rw [hal]; simp
              have d3 : (((bt p k1 : Nat) : Int) != ((bt p n : Nat) : Int)) = false := by rw [hal]; simp
              rcases Nat.eq_zero_or_pos k1 with h0 | h0
              · subst h0
                have hN9 : Hid ((N : Int) = 1) := by show _ = _; rw [HE.out, if_pos hal]; rfl
                have d1 : decide (((0 : Nat) : Int) > 0) = false := by simp
                clear hal HE hgo
                go_wp2_with fail
                go_quiet (fail)
                go_wp2_with fail
                go_quiet (fail)
                go_wp2_with (at_builtin; refine wpList_append_lies _ rfl _ _ 22 rfl w.heap.size 3 i0 (.int .i64 0) 1 8 Try.underlying22 hi hz0 hz1 hz2 rfl (by decide) _ n _ rfl (World.ownsRow.alloc (hownN.out _) _) ⟨wr.heap.size, 0, none⟩ 1 1 [Value.int .i64 1] rfl rfl (World.news_of_block (heap_alloc_new _ _)) (one1 _) (by omega) (by unfold maxLen; omega) (by omega) (by simp; omega) (wr.heap.size + 1) (by simp) ?_)
                intro g9 cap9 w4 hown4 hgrow hat hlt4
                have hb4 : Below w.heap.size w w4 := ((below_drewT hb2).alloc hs2 _).grown hgrow (by simp; omega) (fun k hk => (World.ownsRow.lt hown' k hk).1)
                have hR4 : NRow w4 w.heap.size (.slice (some ⟨g9, 0, none⟩) (n + 1) cap9) (bors p (n + 1)) := HSN'.out (by rw [hN9.out]; exact hown4)
                clear hown4 hgrow hat hb2
                go_wp2
                go_roundw
                case rel => exact ⟨n + 1, by omega, by go_num, hR4, hb4⟩
                case measure => simp [intOf]; omega
              · have hN9 : Hid ((N : Int) = (k1 : Int) + 1) := by show _ = _; rw [HE.out, if_pos hal]; omega
                have d1 : decide ((k1 : Int) > 0) = true := by simp; omega
                have h0' : (0 : Int) < (k1 : Int) := by omega
                clear hal HE hgo
                go_wp2_with fail
                go_quiet (fail)
                go_wp2_with fail
                go_quiet (fail)
                go_wp2_with (at_builtin; refine wpList_append_lies _ rfl _ _ 22 rfl w.heap.size 3 i0 (.int .i64 0) 1 8 Try.underlying22 hi hz0 hz1 hz2 rfl (by decide) _ n _ rfl (World.ownsRow.alloc (hownN.out _) _) ⟨wr.heap.size, 0, none⟩ 1 1 [Value.int .i64 ((k1 : Int) + 1)] rfl rfl (World.news_of_block (heap_alloc_new _ _)) (one1 _) (by omega) (by unfold maxLen; omega) (by omega) (by simp; omega) (wr.heap.size + 1) (by simp) ?_)
                intro g9 cap9 w4 hown4 hgrow hat hlt4
                have hb4 : Below w.heap.size w w4 := ((below_drewT hb2).alloc hs2 _).grown hgrow (by simp; omega) (fun k hk => (World.ownsRow.lt hown' k hk).1)
                have hR4 : NRow w4 w.heap.size (.slice (some ⟨g9, 0, none⟩) (n + 1) cap9) (bors p (n + 1)) := HSN'.out (by rw [hN9.out]; exact hown4)
                clear hown4 hgrow hat hb2
                go_wp2
                go_roundw
                case rel => exact ⟨n + 1, by omega, by go_num, hR4, hb4⟩
                case measure => simp [intOf]; omega
            · have h0 : k1 = 0 := hgo.resolve_right hal
              subst h0
              have hN9 : Hid ((N : Int) = 0) := by show _ = _; rw [HE.out, if_neg hal]; rfl
              have d1 : decide (((0 : Nat) : Int) > 0) = false := by simp
              have d2 : (((bt p 0 : Nat) : Int) == ((bt p n : Nat) : Int)) = false := by simp; omega
              clear hal HE hgo
              go_wp2_with fail
              go_quiet (fail)
              go_wp2_with fail
              go_quiet (fail)
              go_wp2_with (at_builtin; refine wpList_append_lies _ rfl _ _ 22 rfl w.heap.size 3 i0 (.int .i64 0) 1 8 Try.underlying22 hi hz0 hz1 hz2 rfl (by decide) _ n _ rfl (World.ownsRow.alloc (hownN.out _) _) ⟨wr.heap.size, 0, none⟩ 1 1 [Value.int .i64 0] rfl rfl (World.news_of_block (heap_alloc_new _ _)) (one1 _) (by omega) (by unfold maxLen; omega) (by omega) (by simp; omega) (wr.heap.size + 1) (by simp) ?_)
              intro g9 cap9 w4 hown4 hgrow hat hlt4
              have hb4 : Below w.heap.size w w4 := ((below_drewT hb2).alloc hs2 _).grown hgrow (by simp; omega) (fun k hk => (World.ownsRow.lt hown' k hk).1)
              have hR4 : NRow w4 w.heap.size (.slice (some ⟨g9, 0, none⟩) (n + 1) cap9) (bors p (n + 1)) := HSN'.out (by rw [hN9.out]; exact hown4)
              clear hown4 hgrow hat hb2
              go_wp2
              go_roundw
              case rel => exact ⟨n + 1, by omega, by go_num, hR4, hb4⟩
              case measure => simp [intOf]; omega
          · -- it falls
            have hal : bt p k1 ≠ bt p n := fun h => hgo (.inr h)
            have h0 : 0 < k1 := Nat.pos_of_ne_zero fun h => hgo (.inl h)
            obtain ⟨j, hj⟩ : ∃ j, k1 = j + 1 := ⟨k1 - 1, by omega⟩
            have HNf : Hid (N = nx p BB (bt p n) (BB.getD j 0)) := by
              show _ = _
              rw [HN1.out, nx_fall HSH.out hal h0, hj]
              rfl
            have hql : BB.getD j 0 < k1 := by have := HSH.out j; omega
            obtain ⟨g', cap', hv', _, hcell2, _, _⟩ := HR2.out.cell (i := j) (by rw [HBL.out]; omega)
            have hgg : g' = g := by
              simp only [Value.slice.injEq, Option.some.injEq, Addr.mk.injEq] at hv'
              exact hv'.1.1.symm
            rw [hgg] at hcell2
            clear hv' hgg
            generalize BB.getD j 0 = q2 at HNf hql hcell2
            have hcN : Hid (∀ q, (wr.drewN q).cell? ⟨g, j, none⟩ = some (.int .i64 (q2 : Int))) := fun q => hcell2
            have d1 : decide ((k1 : Int) > 0) = true := by simp; omega
            have h0' : (0 : Int) < (k1 : Int) := by omega
            have d3 : (((bt p k1 : Nat) : Int) != ((bt p n : Nat) : Int)) = true := by simp; omega
            have hj1 : (k1 : Int) - 1 = (j : Int) := by omega
            have hjn : (j : Int) < (n : Int) := by omega
            have HJ : Hid (k1 = j + 1) := hj
            have d4 : (bt p k1 != bt p n) = true := by simpa using hal
            have d5 : decide (bt p k1 = bt p n) = false := by simpa using hal
            clear hj hgo HN1
            go_wp2_with fail
            go_quiet (fail)
            go_wp2
            go_roundw
            case rel => exact ⟨q2, by omega, rfl, HNf, HR2.out, below_drewT hb2⟩
            case measure => simp [intOf]; omega
    · have hke : n = p.size := by omega
      have hge : ¬ ((n : Int) < (p.size : Int)) := by omega
      have hRE : Hid (NRow wr w.heap.size u3 (bors p p.size)) := by show NRow _ _ _ _; rw [← hke]; exact HR1.out
      clear hke HR1
      go_wp2
      go_ret
      exact ⟨_, rfl, hRE.out, hb1⟩

set_option maxRecDepth 100000 in
set_option maxHeartbeats 4000000 in
theorem specBorders (p : ByteArray) (w : World) (hm : p.size ≤ maxLen) :
    Calls Try.prog 12 #[.string p] w fun e w' => ONats w w' e (bof p) := by
  have hm' : p.size ≤ 9223372036854775807 := by unfold maxLen at hm; omega
  obtain ⟨R, hR⟩ : ∃ R, R = bof p := ⟨_, rfl⟩
  rw [← hR]
  unfold bof at hR
  unfold ONats
  have HD : Hid (decide ((1 : Int) ≤ (p.size : Int) ∧ (p.size : Int) ≤ 200) = decide (1 ≤ p.size ∧ p.size ≤ 200)) := by show _ = _; rw [Bool.eq_iff_iff]; simp; omega
  by_cases h : 1 ≤ p.size ∧ p.size ≤ 200
  · have hd : decide (1 ≤ p.size ∧ p.size ≤ 200) = true := by simpa using h
    rw [if_pos h] at hR
    have HR : Hid (R = (bors p p.size, true)) := hR
    have C2 : Hid (∀ W : World, Calls Try.prog 48 #[.string p] W fun e w' => ∃ v, e = .returned v ∧ NRow w' W.heap.size v (bors p p.size) ∧ Below W.heap.size W w') := fun W => l11Borders_any p W (by omega)
    clear hR h
    go_enter Try.func12, Try.ntmps12
    go_wp2_with fail
    refine (l1InT _ _ _ _).mono ?_
    rintro e w1 ⟨rfl, rfl⟩
    rw [HD.out, hd]
    go_wp2_with fail
    refine (C2.out _).mono ?_
    rintro e w3 ⟨v, rfl, hrow, hb3⟩
    obtain ⟨ao, cap, rfl, _⟩ := hrow.slice
    have HROW : Hid (NRow w3 w1.heap.size (.slice ao (bors p p.size).length cap) (bors p p.size)) := hrow
    clear hrow
    go_wp2
    go_ret2
    exact ⟨_, by rw [HR.out]; rfl, by rw [HR.out]; exact HROW.out, hb3⟩
  · have hd : decide (1 ≤ p.size ∧ p.size ≤ 200) = false := by simpa using h
    rw [if_neg h] at hR
    have HR : Hid (R = ([], false)) := hR
    clear hR h
    go_enter Try.func12, Try.ntmps12
    go_wp2_with fail
    refine (l1InT _ _ _ _).mono ?_
    rintro e w1 ⟨rfl, rfl⟩
    rw [HD.out, hd]
    go_wp2
    go_ret2
    exact ⟨_, by rw [HR.out]; rfl, by rw [HR.out]; exact World.ownsRow_nil _ _ _ _, Below.refl _ _⟩

set_option maxRecDepth 100000 in
set_option maxHeartbeats 4000000 in
theorem specPeriod (p : ByteArray) (w : World) (hm : p.size ≤ maxLen) :
    Calls Try.prog 17 #[.string p] w fun e w' => e = .returned (.tuple #[.int .i64 ((pof p).1 : Int), .bool (pof p).2]) ∧ Below w.heap.size w w' := by
  have hm' : p.size ≤ 9223372036854775807 := by unfold maxLen at hm; omega
  obtain ⟨R, hR⟩ : ∃ R, R = pof p := ⟨_, rfl⟩
  rw [← hR]
  unfold pof at hR
  have HD : Hid (decide ((1 : Int) ≤ (p.size : Int) ∧ (p.size : Int) ≤ 200) = decide (1 ≤ p.size ∧ p.size ≤ 200)) := by show _ = _; rw [Bool.eq_iff_iff]; simp; omega
  by_cases h : 1 ≤ p.size ∧ p.size ≤ 200
  · have hd : decide (1 ≤ p.size ∧ p.size ≤ 200) = true := by simpa using h
    rw [if_pos h] at hR
    have hq := bors_sh p p.size (p.size - 1)
    have hbl := bors_len p p.size
    have C2 : Hid (∀ W : World, Calls Try.prog 48 #[.string p] W fun e w' => ∃ v, e = .returned v ∧ NRow w' W.heap.size v (bors p p.size) ∧ Below W.heap.size W w') := fun W => l11Borders_any p W (by omega)
    have HR : Hid (R = (p.size - (bors p p.size).getD (p.size - 1) 0, true)) := hR
    obtain ⟨h1, h2⟩ := h
    clear hR
    go_enter Try.func17, Try.ntmps17
    go_wp2_with fail
    refine (l1InT _ _ _ _).mono ?_
    rintro e w1 ⟨rfl, rfl⟩
    rw [HD.out, hd]
    clear hd HD
    go_wp2_with fail
    refine (C2.out _).mono ?_
    rintro e w3 ⟨v, rfl, hrow, hb3⟩
    obtain ⟨g, cap, rfl, hg, hc, hlc, hcm⟩ := hrow.cell (i := p.size - 1) (by omega)
    have hcm' : cap ≤ 9223372036854775807 := by unfold maxLen at hcm; omega
    rw [hbl]
    generalize (bors p p.size).getD (p.size - 1) 0 = q at hq hc HR
    obtain ⟨j, hj⟩ : ∃ j, p.size = j + 1 := ⟨p.size - 1, by omega⟩
    rw [show p.size - 1 = j by omega] at hc hq
    have HV : Hid (((p.size : Nat) : Int) - (q : Int) = ((p.size - q : Nat) : Int)) := by show _ = _; omega
    have hsz : (p.size : Int) - 1 = (j : Int) := by omega
    have hjl : (j : Int) < (p.size : Int) := by omega
    have HJ : Hid (p.size = j + 1) := hj
    clear hj hrow hbl
    go_wp2
    go_ret2
    exact ⟨by rw [HR.out, ← HV.out]; rfl, hb3⟩
  · have hd : decide (1 ≤ p.size ∧ p.size ≤ 200) = false := by simpa using h
    rw [if_neg h] at hR
    have HR : Hid (R = (0, false)) := hR
    clear hR h
    go_enter Try.func17, Try.ntmps17
    go_wp2_with fail
    refine (l1InT _ _ _ _).mono ?_
    rintro e w1 ⟨rfl, rfl⟩
    rw [HD.out, hd]
    go_wp2
    go_ret2
    exact ⟨by rw [HR.out]; rfl, Below.refl _ _⟩

end Go.Proofs.Ytbmgcnondeoddaa
