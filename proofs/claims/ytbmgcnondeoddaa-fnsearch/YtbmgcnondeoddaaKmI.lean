/- The model's FindAll. -/
import Derived.Test.YtbmgcnondeoddaaKmG
namespace Go.Proofs.Ytbmgcnondeoddaa
open Go.RowKit Plain Tpc Kmp

theorem st_next (p s : ByteArray) (B : List Nat) (i : Nat) : st p s B (i + 1) = if nx p B (bt s i) (st p s B i).1 = p.size then (B.getD (p.size - 1) 0, (st p s B i).2.1 + lk p B (bt s i) (st p s B i).1, (st p s B i).2.2 ++ [i + 1 - p.size]) else (nx p B (bt s i) (st p s B i).1, (st p s B i).2.1 + lk p B (bt s i) (st p s B i).1, (st p s B i).2.2) := by rw [st]

set_option maxRecDepth 100000 in
set_option maxHeartbeats 4000000 in
theorem specFind_in (s p : ByteArray) (w : World) (hs : s.size ≤ 200) (hp1 : 1 ≤ p.size) (hp2 : p.size ≤ 200) :
    Calls Try.prog 19 #[.string s, .string p] w fun e w' => OFind w w' e ((st p s (bors p p.size) s.size).2.2, (st p s (bors p p.size) s.size).2.1, true) := by
  obtain ⟨i0, hi, hz0, hz1, hz2⟩ := info_parts Try.infoInt
  have hsI : decide ((200 : Int) < (s.size : Int)) = false := by simp; omega
  have HD : Hid (decide ((1 : Int) ≤ (p.size : Int) ∧ (p.size : Int) ≤ 200) = true) := by show _ = _; simp; omega
  have C3 : Hid (∀ W : World, Calls Try.prog 48 #[.string p] W fun e w' => ∃ v, e = .returned v ∧ NRow w' W.heap.size v (bors p p.size) ∧ Below W.heap.size W w') := fun W => l11Borders_any p W (by omega)
  have hBsh := bors_sh p p.size
  have hBlen := bors_len p p.size
  have HLT : Hid (∀ i, (st p s (bors p p.size) i).1 < p.size) := st_lt p s hBsh (by omega)
  have HLOOK : Hid (∀ i, (st p s (bors p p.size) i).2.1 + (st p s (bors p p.size) i).1 ≤ 2 * i) := st_looks p s hBsh (by omega)
  have HLEN : Hid (∀ i, (st p s (bors p p.size) i).2.2.length ≤ i) := st_len p s _
  have HROOM : Hid (∀ i, nx p (bors p p.size) (bt s i) (st p s (bors p p.size) i).1 = p.size → p.size ≤ i + 1) := fun i => st_room p s (by omega) i
  generalize bors p p.size = BB at C3 hBsh hBlen HLT HLOOK HLEN HROOM
  have HSH : Hid (Sh BB) := hBsh
  have HBL : Hid (BB.length = p.size) := hBlen
  clear hBsh hBlen
  obtain ⟨R, hR⟩ : ∃ R, R = ((st p s BB s.size).2.2, (st p s BB s.size).2.1, true) := ⟨_, rfl⟩
  rw [← hR]
  have HR : Hid (R = ((st p s BB s.size).2.2, (st p s BB s.size).2.1, true)) := hR
  clear hR
  unfold OFind
  go_enter Try.func19, Try.ntmps19
  go_wp2_with fail
  refine (l1InT _ _ _ _).mono ?_
  rintro e w1 ⟨rfl, rfl⟩
  rw [HD.out]
  go_wp2_with fail
  refine (C3.out _).mono ?_
  rintro e w3 ⟨vb, rfl, hrow, hb3⟩
  obtain ⟨aob, capb, hvb, hcap⟩ := hrow.slice
  have hvb' : vb = Value.slice aob p.size capb := by rw [hvb, HBL.out]
  clear hvb
  subst hvb'
  have hcapb : capb ≤ 9223372036854775807 := by unfold maxLen at hcap; omega
  have hR4 : NRow w3 w1.heap.size (Value.slice aob p.size capb) BB := hrow
  have HNE : Hid (∀ g, (Value.slice aob p.size capb).ownBlock = some g → g < w3.heap.size) := fun g hg => (World.ownsRow.lt hrow g hg).2
  have hw3 := hb3.size
  clear hrow C3 hcap
  go_wp2
  go_loopw [8, 9, 10, 11] (fun vo vl vk vi wr => ∃ (i : Nat), i ≤ s.size ∧ vi = .int .i64 (i : Int) ∧ vk = .int .i64 ((st p s BB i).1 : Int) ∧ vl = .int .i64 ((st p s BB i).2.1 : Int) ∧ NRow wr w1.heap.size (Value.slice aob p.size capb) BB ∧ NRow wr w3.heap.size vo (st p s BB i).2.2 ∧ Below w3.heap.size w3 wr)
    (fun _ _ _ vi _ => s.size - (intOf vi).toNat)
  case atStart => exact ⟨0, by omega, rfl, rfl, rfl, hR4, World.ownsRow_nil _ _ _ _, Below.refl _ _⟩
  case round =>
    obtain ⟨i, his, rfl, rfl, rfl, hR1, hO1, hb1⟩ := hrel
    by_cases hlt : i < s.size
    · have hltI : (i : Int) < (s.size : Int) := by omega
      have hbt := bt_get s i hlt
      have hl9 := HLEN.out i
      have hk9 := HLT.out i
      have hlo9 := HLOOK.out i
      have hnx9 := nx_le (p := p) HSH.out (bt s i) (st p s BB i).1
      have hlk9 := lk_nx (p := p) HSH.out (bt s i) (st p s BB i).1
      have hroom9 := HROOM.out i
      have HST : Hid (st p s BB (i + 1) = _) := st_next p s BB i
      obtain ⟨N, hN⟩ : ∃ N, N = nx p BB (bt s i) (st p s BB i).1 := ⟨_, rfl⟩
      obtain ⟨Z, hZ⟩ : ∃ Z, Z = (st p s BB i).2.1 + lk p BB (bt s i) (st p s BB i).1 := ⟨_, rfl⟩
      rw [← hN, ← hZ] at HST
      rw [← hN] at hroom9 hnx9 hlk9
      have hZb : Z ≤ 2 * i + 2 := by omega
      have HROOM9 : Hid (N = p.size → p.size ≤ i + 1) := hroom9
      generalize (st p s BB i).1 = k0 at hN hZ HST hnx9 hlk9 hk9 hlo9 ⊢
      generalize (st p s BB i).2.1 = l0 at hZ HST hlo9 ⊢
      generalize (st p s BB i).2.2 = L at HST hO1 hl9
      have HN : Hid (N = nx p BB (bt s i) k0) := hN
      have HZ : Hid (Z = l0 + lk p BB (bt s i) k0) := hZ
      clear hN hZ hroom9 hlk9 hnx9 hR4
      obtain ⟨wo, hwo⟩ : ∃ W, W = wr := ⟨_, rfl⟩
      rw [← hwo] at hR1 hO1 hb1 ⊢
      clear hwo
      have HR1 : Hid (NRow wo w1.heap.size (Value.slice aob p.size capb) BB) := hR1
      have HO1 : Hid (NRow wo w3.heap.size u8 L) := hO1
      clear hR1 hO1
      go_wp2
      go_loopw [9, 10] (fun vl vk wr => ∃ (k1 l1 : Nat), k1 < p.size ∧ vk = .int .i64 (k1 : Int) ∧ vl = .int .i64 (l1 : Int) ∧ Hid (N = nx p BB (bt s i) k1) ∧ Hid (Z = l1 + lk p BB (bt s i) k1) ∧ NRow wr w1.heap.size (Value.slice aob p.size capb) BB ∧ NRow wr w3.heap.size u8 L ∧ Below w3.heap.size w3 wr)
        (fun _ vk _ => (intOf vk).toNat)
      case atStart => exact ⟨k0, l0, hk9, rfl, rfl, HN, HZ, HR1.out, HO1.out, hb1⟩
      case round =>
        obtain ⟨k1, l1, hk1, rfl, rfl, HN1, HZ1, hR2, hO2, hb2⟩ := hrel
        have HR2 : Hid (NRow wr w1.heap.size (Value.slice aob p.size capb) BB) := hR2
        have HO2 : Hid (NRow wr w3.heap.size u8 L) := hO2
        have hs2 := hb2.size
        have hbk := bt_get p k1 hk1
        have hk1p : (k1 : Int) < (p.size : Int) := by omega
        have hl1 : l1 ≤ 1000 := by have := HZ1.out; omega
        clear HN HZ HR1 HO1 hb1 hk9 hlo9 hR2 hO2
        by_cases hal : bt p k1 = bt s i
        · have HNv : Hid (N = k1 + 1) := HN1.out.trans (nx_hit BB hal)
          have HZv : Hid (Z = l1 + 1) := by show _ = _; rw [HZ1.out, lk_hit BB hal]
          have d2 : (((bt s i : Nat) : Int) == ((bt p k1 : Nat) : Int)) = true := by rw [hal]; simp
          clear HN1 HZ1 hal
          by_cases hfull : k1 + 1 = p.size
          · have hNp : N = p.size := by rw [HNv.out]; exact hfull
            have hroom := HROOM9.out hNp
            have HSTf : Hid (st p s BB (i + 1) = (BB.getD k1 0, l1 + 1, L ++ [i - k1])) := by
              show _ = _
              rw [HST.out, if_pos hNp, HZv.out, ← hfull, Nat.add_sub_cancel, show i + 1 - (k1 + 1) = i - k1 by omega]
            have d3 : ((k1 : Int) + 1 == (p.size : Int)) = true := by simp; omega
            have hown' : wr.ownsRow w3.heap.size 3 1 u8 L.length (ints L) := HO2.out
            have hownN : Hid (∀ q, (wr.drewN q).ownsRow w3.heap.size 3 1 u8 L.length (ints L)) := fun q => hown'
            have hR2N : Hid (∀ q, NRow (wr.drewN q) w1.heap.size (Value.slice aob p.size capb) BB) := fun q => HR2.out
            have HB2N : Hid (∀ q, Below w3.heap.size w3 (wr.drewN q)) := fun q => below_drewT hb2
            have HVAL : Hid (((i : Int) + 1 - ((k1 : Int) + 1)) = ((i - k1 : Nat) : Int)) := by show _ = _; omega
            have HF : Hid (k1 + 1 = p.size) := hfull
            have hki : (k1 : Int) ≤ (i : Int) := by omega
            clear hfull HNv HZv hNp hroom HO2 HST
            go_wp2_with fail
            go_quiet (fail)
            go_wp2_with (at_builtin; refine wpList_append_lies _ rfl _ _ 22 rfl w3.heap.size 3 i0 (.int .i64 0) 1 8 Try.underlying22 hi hz0 hz1 hz2 rfl (by decide) _ L.length _ rfl (World.ownsRow.alloc (hownN.out _) _) ⟨wr.heap.size, 0, none⟩ 1 1 [Value.int .i64 ((i : Int) + 1 - ((k1 : Int) + 1))] rfl rfl (World.news_of_block (heap_alloc_new _ _)) (one1 _) (by omega) (by unfold maxLen; omega) (by omega) (by simp; omega) (wr.heap.size + 1) (by simp) ?_)
            intro g9 cap9 w4 hown4 hgrow hat hlt4
            have hR4 : NRow w4 w1.heap.size (Value.slice aob p.size capb) BB := by
              refine ((hR2N.out _).below ((Below.refl _ _).alloc (Nat.le_refl _) _)).grown hgrow (fun g hg e => ?_)
              have h1 := HNE.out g hg
              have h2 := (World.ownsRow.lt hown' g e.symm).1
              omega
            have hb4 : Below w3.heap.size w3 w4 := ((HB2N.out _).alloc hs2 _).grown hgrow (by simp; omega) (fun k hk => (World.ownsRow.lt hown' k hk).1)
            have hO4 : NRow w4 w3.heap.size (.slice (some ⟨g9, 0, none⟩) (L.length + 1) cap9) (L ++ [i - k1]) := NRow.snoc hown4 rfl (by rw [HVAL.out])
            obtain ⟨g, cap, hv, hgl, hcell, hcc, _⟩ := hR4.cell (i := k1) (by rw [HBL.out]; omega)
            have hao : aob = some ⟨g, 0, none⟩ := by simp only [Value.slice.injEq] at hv; exact hv.1
            subst hao
            have HR4 : Hid (NRow w4 w1.heap.size (Value.slice (some ⟨g, 0, none⟩) p.size capb) BB) := hR4
            have HO4 : Hid (NRow w4 w3.heap.size (.slice (some ⟨g9, 0, none⟩) (L.length + 1) cap9) (L ++ [i - k1])) := hO4
            generalize BB.getD k1 0 = q2 at hcell HSTf
            clear hown4 hgrow hat hown' hb2 hR4 hO4 hv hcc
            go_wp2
            go_roundw
            case rel => exact ⟨i + 1, by omega, by go_num, by rw [HSTf.out], by rw [HSTf.out]; go_num, HR4.out, by rw [HSTf.out]; exact HO4.out, hb4⟩
            case measure => simp [intOf]; omega
          · have hNp : ¬ N = p.size := by rw [HNv.out]; exact hfull
            have HSTf : Hid (st p s BB (i + 1) = (k1 + 1, l1 + 1, L)) := by
              show _ = _
              rw [HST.out, if_neg hNp, HZv.out, HNv.out]
            have d3 : ((k1 : Int) + 1 == (p.size : Int)) = false := by simp; omega
            clear HNv HZv hNp HST
            go_wp2_with fail
            go_quiet (fail)
            go_wp2
            go_roundw
            case rel => exact ⟨i + 1, by omega, by go_num, by rw [HSTf.out]; go_num, by rw [HSTf.out]; go_num, HR2.out, by rw [HSTf.out]; exact HO2.out, below_drewT hb2⟩
            case measure => simp [intOf]; omega
        · have d2 : (((bt s i : Nat) : Int) == ((bt p k1 : Nat) : Int)) = false := by simp; omega
          rcases Nat.eq_zero_or_pos k1 with h0 | h0
          · subst h0
            have HSTf : Hid (st p s BB (i + 1) = (0, l1 + 1, L)) := by
              show _ = _
              rw [HST.out, HN1.out, nx_zero BB hal, if_neg (by omega), HZ1.out, lk_zero BB hal]
            have d3 : ((0 : Int) == (p.size : Int)) = false := by simp; omega
            have hpn : p.size ≠ 0 := by omega
            clear HN1 HZ1 hal HST
            go_wp2_with fail
            go_quiet (fail)
            go_wp2
            go_roundw
            case rel => exact ⟨i + 1, by omega, by go_num, by rw [HSTf.out], by rw [HSTf.out]; go_num, HR2.out, by rw [HSTf.out]; exact HO2.out, below_drewT hb2⟩
            case measure => simp [intOf]; omega
          · obtain ⟨j, hj⟩ : ∃ j, k1 = j + 1 := ⟨k1 - 1, by omega⟩
            have HNf : Hid (N = nx p BB (bt s i) (BB.getD j 0)) := by
              show _ = _
              rw [HN1.out, nx_fall HSH.out hal h0, hj]
              rfl
            have HZf : Hid (Z = (l1 + 1) + lk p BB (bt s i) (BB.getD j 0)) := by
              show _ = _
              rw [HZ1.out, lk_fall HSH.out hal h0, hj, Nat.add_sub_cancel]
              omega
            have hql : BB.getD j 0 < k1 := by have := HSH.out j; omega
            obtain ⟨g, cap, hv, hgl, hcell, hcc, _⟩ := HR2.out.cell (i := j) (by rw [HBL.out]; omega)
            have hao : aob = some ⟨g, 0, none⟩ := by simp only [Value.slice.injEq] at hv; exact hv.1
            subst hao
            generalize BB.getD j 0 = q2 at HNf HZf hql hcell
            have hcN : ∀ q, (wr.drewN q).cell? ⟨g, j, none⟩ = some (.int .i64 (q2 : Int)) := fun q => hcell
            have hj1 : (k1 : Int) - 1 = (j : Int) := by omega
            have hjn : (j : Int) < (p.size : Int) := by omega
            have hk0 : ((k1 : Int) == 0) = false := by simp; omega
            have HJ : Hid (k1 = j + 1) := hj
            clear hj hal HN1 HZ1 hv hcc HST
            go_wp2_with fail
            go_quiet (fail)
            go_wp2
            go_roundw
            case rel => exact ⟨q2, l1 + 1, by omega, rfl, by go_num, HNf, HZf, HR2.out, HO2.out, below_drewT hb2⟩
            case measure => simp [intOf]; omega
    · have hke : i = s.size := by omega
      have hge : ¬ ((i : Int) < (s.size : Int)) := by omega
      obtain ⟨ao, cap, hu8, _⟩ := hO1.slice
      have HOE : Hid (NRow wr w1.heap.size u8 R.1) := by show NRow _ _ _ _; rw [HR.out, ← hke]; exact hO1.lower hw3
      have HRE : Hid (R = ((st p s BB i).2.2, (st p s BB i).2.1, true)) := by show _ = _; rw [HR.out, hke]
      have hl9 := HLOOK.out i
      have hb9 : Below w1.heap.size w1 wr := hb3.trans (hb1.mono hw3)
      subst hu8
      generalize (st p s BB i).2.1 = l2 at HRE hl9 ⊢
      generalize (st p s BB i).1 = k2 at hl9 ⊢
      clear hke hO1 hR4
      go_wp2
      go_ret3
      exact ⟨_, by rw [HRE.out]; rfl, HOE.out, hb9⟩

set_option maxRecDepth 100000 in
set_option maxHeartbeats 4000000 in
theorem specFind (s p : ByteArray) (w : World) (hs : s.size ≤ maxLen) (hm : p.size ≤ maxLen) :
    Calls Try.prog 19 #[.string s, .string p] w fun e w' => OFind w w' e (fof s p) := by
  obtain ⟨R, hR⟩ : ∃ R, R = fof s p := ⟨_, rfl⟩
  by_cases h : s.size ≤ 200 ∧ 1 ≤ p.size ∧ p.size ≤ 200
  · rw [show fof s p = ((st p s (bors p p.size) s.size).2.2, (st p s (bors p p.size) s.size).2.1, true) by unfold fof; rw [if_pos h]]
    exact specFind_in s p w h.1 h.2.1 h.2.2
  · rw [← hR]
    have HR : Hid (R = ([], 0, false)) := by show _ = _; rw [hR]; unfold fof; rw [if_neg h]
    have hs' : s.size ≤ 9223372036854775807 := by unfold maxLen at hs; omega
    have hm' : p.size ≤ 9223372036854775807 := by unfold maxLen at hm; omega
    unfold OFind
    by_cases h1 : s.size ≤ 200
    · have hsI : decide ((200 : Int) < (s.size : Int)) = false := by simp; omega
      have HD : Hid (decide ((1 : Int) ≤ (p.size : Int) ∧ (p.size : Int) ≤ 200) = false) := by show _ = _; simp; omega
      clear hR h
      go_enter Try.func19, Try.ntmps19
      go_wp2_with fail
      refine (l1InT _ _ _ _).mono ?_
      rintro e w1 ⟨rfl, rfl⟩
      rw [HD.out]
      go_wp2
      go_ret3
      exact ⟨_, by rw [HR.out]; rfl, by rw [HR.out]; exact World.ownsRow_nil _ _ _ _, Below.refl _ _⟩
    · have hsI : decide ((200 : Int) < (s.size : Int)) = true := by simp; omega
      clear hR h
      go_enter Try.func19, Try.ntmps19
      go_wp2
      go_ret3
      exact ⟨_, by rw [HR.out]; rfl, by rw [HR.out]; exact World.ownsRow_nil _ _ _ _, Below.refl _ _⟩

end Go.Proofs.Ytbmgcnondeoddaa
