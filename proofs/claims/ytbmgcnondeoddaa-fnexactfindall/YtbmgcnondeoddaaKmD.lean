/- The program's take: a byte is taken, and whether p stands there then. -/
import Derived.Test.YtbmgcnondeoddaaKmC
namespace Go.Proofs.Ytbmgcnondeoddaa
open Go.RowKit Plain Tpc Kmp

/-- how much of p stands there, less than all, once a byte is taken -/
def tkK (p : ByteArray) (B : List Nat) (b k : Nat) : Nat := if nx p B b k = p.size then B.getD (p.size - 1) 0 else nx p B b k

/-- how much stands there, read off the memory -/
def kOf (w : World) (h : Nat) : Nat := match w.cell? ⟨h, 2, none⟩ with
  | some (.int _ n) => n.toNat
  | _ => 0

theorem kOf_at {w : World} {h : Nat} {p : ByteArray} {vb : Value} {k l : Nat} (H : Hol w h p vb k l) : kOf w h = k := by
  unfold kOf; rw [H.c2]; simp

set_option maxRecDepth 100000 in
set_option maxHeartbeats 4000000 in
theorem take_any (h k l b C : Nat) (p : ByteArray) (vb : Value) (B : List Nat) (w : World) (H : Hol w h p vb k l) (hR : NRow w C vb B) (hne : ∀ g, vb.ownBlock = some g → g ≠ h) (hB : Sh B)
    (hk : k < p.size) (hkB : k ≤ B.length) (hfull : nx p B b k = p.size → p.size ≤ B.length) (hp : p.size ≤ 1048576) (hl : l ≤ 100000000) :
    Calls Try.prog 51 #[.pointer (some ⟨h, 0, none⟩), .int .u8 (b : Int)] w fun e w' => e = .returned (.bool (decide (nx p B b k = p.size))) ∧ Hol w' h p vb (tkK p B b k) (l + lk p B b k) ∧ w.grownBy w' (some h) := by
  have HB : Hid (Sh B) := hB
  have HNE : Hid (∀ g, vb.ownBlock = some g → g ≠ h) := hne
  obtain ⟨N, hN⟩ : ∃ N, N = nx p B b k := ⟨_, rfl⟩
  obtain ⟨Z, hZ⟩ : ∃ Z, Z = l + lk p B b k := ⟨_, rfl⟩
  have hZb : Z ≤ 200000000 := by have := lk_le (p := p) hB b k; omega
  have hNb : N ≤ p.size := by have := nx_le (p := p) hB b k; omega
  obtain ⟨T, hT⟩ : ∃ T, T = tkK p B b k := ⟨_, rfl⟩
  have HT : Hid (T = if N = p.size then B.getD (p.size - 1) 0 else N) := by show _ = _; rw [hT, hN]; rfl
  obtain ⟨R, hRR⟩ : ∃ R, R = decide (N = p.size) := ⟨_, rfl⟩
  rw [← hT, ← hZ, ← hN, ← hRR]
  rw [← hN] at hfull
  have HRR : Hid (R = decide (N = p.size)) := hRR
  clear hT hRR
  have HN : Hid (N = nx p B b k) := hN
  have HZ : Hid (Z = l + lk p B b k) := hZ
  clear hN hZ hB hne
  have HFU : Hid (N = p.size → p.size ≤ B.length) := hfull
  clear hfull
  go_enter Try.func51, Try.ntmps51
  go_wp2
  go_loopw [7] (fun _ wr => ∃ k1 l1 : Nat, k1 < p.size ∧ k1 ≤ B.length ∧ Hol wr h p vb k1 l1 ∧ NRow wr C vb B ∧ Hid (N = nx p B b k1) ∧ Hid (Z = l1 + lk p B b k1) ∧ w.grownBy wr (some h))
    (fun _ wr => kOf wr h)
  case atStart => exact ⟨k, l, hk, hkB, H, hR, HN, HZ, grow_self _ _⟩
  case round =>
    obtain ⟨k1, l1, hk1, hkB1, H1, hR1, HN1, HZ1, hg1⟩ := hrel
    have HKO : Hid (kOf wr h = k1) := kOf_at H1
    have hl1 : l1 ≤ 200000000 := by have := HZ1.out; omega
    clear H hR HN HZ
    go_wp2_with fail
    refine (isAlike_any h k1 l1 b p vb wr H1 hk1 (by omega)).mono ?_
    rintro e w1 ⟨rfl, H2, hg2⟩
    have hR2 : NRow w1 C vb B := hR1.grown hg2 (fun g hg e => HNE.out g hg (by simpa using e))
    have hG2 : w.grownBy w1 (some h) := Lib.grownBy_trans hg1 hg2
    clear hR1 hg1 hg2 H1
    have HH2 : Hid (Hol w1 h p vb k1 (l1 + 1)) := H2
    have HR2 : Hid (NRow w1 C vb B) := hR2
    obtain ⟨h0, c0, c1, c2, c3, f1, f2, f3⟩ := H2
    by_cases hal : bt p k1 = b
    · have hd : decide (bt p k1 = b) = true := by simpa using hal
      have HNv : Hid (N = k1 + 1) := HN1.out.trans (nx_hit B hal)
      have HZv : Hid (Z = l1 + 1) := by show _ = _; rw [HZ1.out, lk_hit B hal]
      rw [hd]
      clear hal hd HN1 HZ1
      have H3 := HH2.out.setK (k1 + 1)
      have hg3 := Lib.grownBy_trans hG2 (Lib.grownBy_setCell w1 h 2 (.int .i64 ((k1 + 1 : Nat) : Int)))
      have hR3 : NRow (w1.setCell ⟨h, 2, none⟩ (.int .i64 ((k1 + 1 : Nat) : Int))) C vb B := HR2.out.grown (Lib.grownBy_setCell w1 h 2 (.int .i64 ((k1 + 1 : Nat) : Int))) (fun g hg e => HNE.out g hg (by simpa using e))
      obtain ⟨W, hW⟩ : ∃ W, W = w1.setCell ⟨h, 2, none⟩ (.int .i64 ((k1 : Int) + 1)) := ⟨_, rfl⟩
      rw [show ((k1 + 1 : Nat) : Int) = (k1 : Int) + 1 by omega, ← hW] at H3 hg3 hR3
      have HH3 : Hid (Hol W h p vb (k1 + 1) (l1 + 1)) := H3
      obtain ⟨_, d0, d1, d2, d3, e1, e2, e3⟩ := H3
      rw [show ((k1 + 1 : Nat) : Int) = (k1 : Int) + 1 by omega] at d2
      have HW : Hid (W = w1.setCell ⟨h, 2, none⟩ (.int .i64 ((k1 : Int) + 1))) := hW
      clear hW
      by_cases hlt : k1 + 1 < p.size
      · have dlt : decide ((k1 : Int) + 1 < (p.size : Int)) = true := by simp; omega
        have hF : Hid (R = false) := by show _ = _; rw [HRR.out, HNv.out]; simp; omega
        have hV : Hid (T = k1 + 1) := by show _ = _; rw [HT.out, HNv.out, if_neg (by omega)]
        clear hlt
        go_upto_region 6 with fail
        rw [← HW.out]
        go_quiet (fail)
        go_wp2
        go_ret
        exact ⟨by rw [hF.out]; rfl, by rw [hV.out, HZv.out]; exact HH3.out.drew, grow_drewN hg3⟩
      · have dlt : decide ((k1 : Int) + 1 < (p.size : Int)) = false := by simp; omega
        have hps : p.size = k1 + 1 := by omega
        have hF : Hid (R = true) := by show _ = _; rw [HRR.out, HNv.out]; simp; omega
        have hfB := HFU.out (by rw [HNv.out]; omega)
        have hV : Hid (T = B.getD k1 0) := by show _ = _; rw [HT.out, HNv.out, if_pos (by omega), hps]; rfl
        obtain ⟨g, cap, hvb, hgl, hcell, hcc, hcm⟩ := hR3.cell (i := k1) (by omega)
        have hcm' : cap ≤ 9223372036854775807 := by unfold maxLen at hcm; omega
        have hkl : k1 < B.length := by omega
        have hkl' : (k1 : Int) < (B.length : Int) := by omega
        subst hvb
        have H9 := HH3.out.setK (B.getD k1 0)
        have hg9 := Lib.grownBy_trans hg3 (Lib.grownBy_setCell W h 2 (.int .i64 ((B.getD k1 0 : Nat) : Int)))
        clear hlt hps
        generalize B.getD k1 0 = q at hV hcell H9 hg9
        have hBl : B.length ≤ 9223372036854775807 := by omega
        go_upto_region 6 with fail
        rw [← HW.out]
        go_quiet (fail)
        go_wp2
        go_region
        go_wp2
        go_ret
        exact ⟨by rw [hF.out]; rfl, by rw [hV.out, HZv.out]; exact H9.drew, grow_drewN hg9⟩
    · have hd : decide (bt p k1 = b) = false := by simpa using hal
      rw [hd]
      by_cases h0k : k1 = 0
      · subst h0k
        have hF : Hid (R = false) := by show _ = _; rw [HRR.out, HN1.out, nx_zero B hal]; simp; omega
        have hV : Hid (T = 0) := by show _ = _; rw [HT.out, HN1.out, nx_zero B hal, if_neg (by omega)]
        have HZv : Hid (Z = l1 + 1) := by show _ = _; rw [HZ1.out, lk_zero B hal]
        clear hal hd HN1 HZ1
        go_wp2
        go_ret
        exact ⟨by rw [hF.out]; rfl, by rw [hV.out, HZv.out]; exact HH2.out, hG2⟩
      · have dz : ((k1 : Int) == 0) = false := by simp; omega
        have hz : (k1 : Int) ≠ 0 := by omega
        obtain ⟨g, cap, hvb, hgl, hcell, hcc, hcm⟩ := HR2.out.cell (i := k1 - 1) (by omega)
        have hcm' : cap ≤ 9223372036854775807 := by unfold maxLen at hcm; omega
        have HNf : Hid (N = nx p B b (B.getD (k1 - 1) 0)) := HN1.out.trans (nx_fall HB.out hal (by omega))
        have HZf : Hid (Z = (l1 + 1) + lk p B b (B.getD (k1 - 1) 0)) := by show _ = _; rw [HZ1.out, lk_fall HB.out hal (by omega)]; omega
        have hql : B.getD (k1 - 1) 0 < k1 := by have := HB.out (k1 - 1); omega
        obtain ⟨j, hj⟩ : ∃ j, k1 = j + 1 := ⟨k1 - 1, by omega⟩
        rw [show k1 - 1 = j by omega] at hcell HNf HZf hql
        have H9 := HH2.out.setK (B.getD j 0)
        have hg9 := Lib.grownBy_trans hG2 (Lib.grownBy_setCell w1 h 2 (.int .i64 ((B.getD j 0 : Nat) : Int)))
        have hR9 : NRow (w1.setCell ⟨h, 2, none⟩ (.int .i64 ((B.getD j 0 : Nat) : Int))) C vb B := HR2.out.grown (Lib.grownBy_setCell w1 h 2 _) (fun g hg e => HNE.out g hg (by simpa using e))
        generalize B.getD j 0 = q at hcell HNf HZf hql H9 hg9 hR9
        have hjl : j < B.length := by omega
        have hjl' : (j : Int) < (B.length : Int) := by omega
        have hBl : B.length ≤ 9223372036854775807 := by omega
        subst hvb hj
        have hjw : ((j + 1 : Nat) : Int) - 1 = (j : Int) := by omega
        have HQ : Hid (q < j + 1 ∧ q < p.size ∧ q ≤ B.length) := ⟨hql, by omega, by omega⟩
        clear hal hd HN1 HZ1 hql h0k
        go_wp2
        go_region
        go_wp2
        go_roundw
        case rel => exact ⟨q, l1 + 1, HQ.out.2.1, HQ.out.2.2, H9.drew, hR9, HNf, HZf, grow_drewN hg9⟩
        case measure => rw [HKO.out]; exact Nat.lt_of_le_of_lt (Nat.le_of_eq (kOf_at (H9.drew (n := 1)))) HQ.out.1

end Go.Proofs.Ytbmgcnondeoddaa
