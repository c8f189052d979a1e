/- RunMachine, the program's and the model's. -/
import Derived.Test.YtecgjhnihagleaaMcG
import Derived.Test.YtecgjhnihagleaaMcH
import Derived.Test.YtecgjhnihagleaaShf
namespace Go.Proofs.Ytecgjhnihagleaa
open Go.RowKit Plain Mch

theorem idxM (s : ByteArray) (i : Nat) (h : i < s.size) : ∀ w : World, (Instr.index 9 (.string s) (.int .i64 (i : Int))).run Try.prog w = .ok (.int .u8 ((bt s i : Nat) : Int)) w := fun w => by
  rw [run_index_string w 9 s .i64 (i : Int) Try.underlying9, dif_pos ⟨by omega, by omega⟩]
  congr 2
  rw [← bt_get s i h]
  rfl

theorem abc_at (b : Nat) (hb : b < 256) : Lib.indexByte [97, 98, 99] ((b : Int).toNat.toUInt8) = if 97 ≤ b ∧ b ≤ 99 then ((b - 97 : Nat) : Int) else -1 := by
  have h : ∀ b : Fin 256, Lib.indexByte [97, 98, 99] (((b.val : Nat) : Int).toNat.toUInt8) = if 97 ≤ b.val ∧ b.val ≤ 99 then ((b.val - 97 : Nat) : Int) else -1 := by decide +kernel
  exact h ⟨b, hb⟩

/-- where a good machine's row and the state behind a letter lie -/
theorem MAt.to {w : World} {B : Nat} {M : List (List Int)} {E : List Bool} {ao : Option Addr} {cap n : Nat} (h : MAt w B (.slice ao n cap) M) (hg : gm M E = true) {i k : Nat} (hi : i < M.length) (hk : k < 3) :
    ∃ g o gu ou cu, ao = some ⟨g, o, none⟩ ∧ g < B ∧ w.cell? ⟨g, o + i, none⟩ = some (.slice (some ⟨gu, ou, none⟩) 3 cu) ∧ gu < B ∧ w.cell? ⟨gu, ou + k, none⟩ = some (.int .i64 ((nt M i k : Nat) : Int)) := by
  obtain ⟨a, c, hv, _, _, hr⟩ := h
  simp only [Value.slice.injEq] at hv
  obtain ⟨rfl, rfl, rfl⟩ := hv
  obtain ⟨g, o, u, ha, hg1, hc, hz⟩ := hr i hi
  obtain ⟨k1, _, k3⟩ := gm_next hg hi hk
  obtain ⟨su, cu, rfl, _, _, hz⟩ := hz
  obtain ⟨gu, ou, hs, hgu, hcu⟩ := hz k _ k1
  subst hs
  rw [k3] at hc
  exact ⟨g, o, gu, ou, cu, ha, hg1, hc, hgu, hcu⟩

theorem EAt.to {w : World} {B : Nat} {E : List Bool} {ae : Option Addr} {ce n : Nat} (h : EAt w B (.slice ae n ce) E) {i : Nat} (hi : i < E.length) :
    ∃ g o, ae = some ⟨g, o, none⟩ ∧ g < B ∧ w.cell? ⟨g, o + i, none⟩ = some (.bool (en E i)) := by
  obtain ⟨a, c, hv, _, _, hr⟩ := h
  simp only [Value.slice.injEq] at hv
  obtain ⟨rfl, rfl, rfl⟩ := hv
  exact hr i hi

set_option maxRecDepth 100000 in
set_option maxHeartbeats 4000000 in
theorem implRunM (M : List (List Int)) (E : List Bool) (v e : Value) (s : ByteArray) (w : World) (hM : MAt w w.heap.size v M) (hE : EAt w w.heap.size e E) (hs : s.size ≤ maxLen) :
    Calls Try.prog 20 #[.agg #[v, e], .string s] w fun x w' => x = .returned (.tuple #[.bool (rto M E s), .bool (rok M E s)]) ∧ Below w.heap.size w w' := by
  have HM : Hid (MAt w w.heap.size v M) := hM
  have HE : Hid (EAt w w.heap.size e E) := hE
  obtain ⟨ao, cap, rfl, hlc, hcm, _⟩ := hM
  obtain ⟨ae, cape, rfl, hlc2, hcm2, _⟩ := hE
  unfold maxLen at hcm hcm2 hs
  obtain ⟨W1, hW1⟩ : ∃ W, W = w.alloc (.cells #[.slice ao M.length cap, .slice ae E.length cape] 30) := ⟨_, rfl⟩
  have hB1 : Below w.heap.size w W1 := by rw [hW1]; exact (Below.refl _ w).alloc (Nat.le_refl _) _
  have q0 : W1.cell? ⟨w.heap.size, 0, none⟩ = some (.slice ao M.length cap) := by rw [hW1]; go_simp
  have q1 : W1.cell? ⟨w.heap.size, 1, none⟩ = some (.slice ae E.length cape) := by rw [hW1]; go_simp
  have hl1 : w.heap.size < W1.heap.size := by rw [hW1]; simp
  obtain ⟨R, hR⟩ : ∃ R, R = rto M E s := ⟨_, rfl⟩
  obtain ⟨K, hK⟩ : ∃ K, K = rok M E s := ⟨_, rfl⟩
  rw [← hR, ← hK]
  have HR : Hid (R = rto M E s) := hR
  have HK : Hid (K = rok M E s) := hK
  have HF : Hid (rok M E s = false → R = false ∧ K = false) := fun h => ⟨by rw [HR.out]; unfold rto; rw [h]; rfl, by rw [HK.out, h]⟩
  clear hR hK
  go_enter Try.func20, Try.ntmps20
  go_wp2_with fail
  rw [← hW1]
  clear hW1
  refine (implGoodM M E _ _ _ (HM.out.below hB1) (HE.out.below hB1)).mono ?_
  rintro x w2 ⟨rfl, hb2⟩
  have q0 := (hb2.cell (p := ⟨w.heap.size, 0, none⟩) hl1).trans q0
  have q1 := (hb2.cell (p := ⟨w.heap.size, 1, none⟩) hl1).trans q1
  have hB2 : Below w.heap.size w w2 := hB1.trans (hb2.mono hB1.size)
  have hl2 : w.heap.size < w2.heap.size := by have := hb2.size; omega
  have HM2 : Hid (MAt w2 w2.heap.size (.slice ao M.length cap) M) := HM.out.below hB2
  have HE2 : Hid (EAt w2 w2.heap.size (.slice ae E.length cape) E) := HE.out.below hB2
  clear hb2 hB1 hl1 HM HE
  cases hg : gm M E with
  | false =>
    have hF : Hid (R = false ∧ K = false) := HF.out (by unfold rok; rw [hg]; rfl)
    clear HF
    go_wp2
    go_ret2
    exact ⟨by rw [hF.out.1, hF.out.2]; rfl, hB2⟩
  | true =>
  have HG : Hid (gm M E = true) := hg
  clear hg
  by_cases hlong : (60 : Int) < (s.size : Int)
  · have hF : Hid (R = false ∧ K = false) := HF.out (by
      unfold rok
      rw [HG.out, show decide (s.size ≤ 60) = false by simp; omega]
      rfl)
    clear HF
    go_wp2
    go_ret2
    exact ⟨by rw [hF.out.1, hF.out.2]; rfl, hB2⟩
  have hlong' : decide ((60 : Int) < (s.size : Int)) = false := by simpa using hlong
  go_wp2
  go_loopw [6, 19] (fun va vi wr => ∃ i : Nat, i ≤ s.size ∧ vi = .int .i64 (i : Int) ∧ va = .int .i64 ((go M s i : Nat) : Int) ∧ Hid (∀ j, j < i → 97 ≤ bt s j ∧ bt s j ≤ 99) ∧ wr = w2)
    (fun _ vi _ => s.size - (intOf vi).toNat)
  case atStart => exact ⟨0, by omega, rfl, rfl, fun j hj => by omega, rfl⟩
  case round =>
    obtain ⟨i, hi, rfl, rfl, hall, rfl⟩ := hrel
    have HA : Hid (go M s i < M.length) := go_lt HG.out i hall.out
    by_cases hlt : i < s.size
    · have hlt' : (i : Int) < (s.size : Int) := by omega
      have ixs := idxM s i hlt
      have hb256 := bt_lt s i
      have HN : Hid (go M s (i + 1) = nt M (go M s i) (lt (bt s i))) := rfl
      obtain ⟨b, hb⟩ : ∃ b, bt s i = b := ⟨_, rfl⟩
      have HB : Hid (bt s i = b) := hb
      rw [hb] at ixs hb256 HN
      clear hb
      obtain ⟨a, ha⟩ : ∃ a, go M s i = a := ⟨_, rfl⟩
      rw [ha] at HN HA
      rw [ha]
      clear ha
      have hAB := abc_at b hb256
      go_wp2_with fail
      refine (Try.strings_IndexByte _ _ _).mono ?_
      rintro x w3 ⟨rfl, rfl⟩
      rw [show (⟨#[97, 98, 99]⟩ : ByteArray).data.toList = [97, 98, 99] from rfl, hAB]
      clear hAB ixs
      by_cases hab : 97 ≤ b ∧ b ≤ 99
      · rw [if_pos hab]
        obtain ⟨k, hk, hkb⟩ : ∃ k, k < 3 ∧ b - 97 = k := ⟨b - 97, by omega, rfl⟩
        rw [hkb]
        obtain ⟨g, o, gu, ou, cu, rfl, hgl, c1, hgul, c2⟩ := HM2.out.to HG.out HA.out hk
        have hal : (a : Int) < (M.length : Int) := by have := HA.out; omega
        have hkl : (k : Int) < 3 := by omega
        have hN2 : Hid (Value.int .i64 ((nt M a k : Nat) : Int) = Value.int .i64 ((go M s (i + 1) : Nat) : Int)) := by
          show _ = _
          rw [HN.out]
          unfold lt
          rw [hkb]
        have hall2 : Hid (∀ j, j < i + 1 → 97 ≤ bt s j ∧ bt s j ≤ 99) := fun j hj => by
          by_cases e : j = i
          · rw [e, HB.out]; exact hab
          · exact hall.out j (by omega)
        clear hall HN hkb hab
        go_wp2
        go_roundw
        case rel => exact ⟨i + 1, by omega, by go_num, hN2.out, hall2, by trivial⟩
        case measure => simp [intOf]; omega
      · rw [if_neg hab]
        have hF : Hid (R = false ∧ K = false) := HF.out (by
          unfold rok
          cases hx : abc s with
          | false => simp
          | true =>
            have := abc_iff.1 hx i hlt
            rw [HB.out] at this
            exact absurd this hab)
        clear HF hall hab
        go_wp2
        go_ret2
        exact ⟨by rw [hF.out.1, hF.out.2]; rfl, hB2⟩
    · have hke : i = s.size := by omega
      have HKE : Hid (i = s.size) := hke
      have hge : ¬ ((i : Int) < (s.size : Int)) := by omega
      have hT : Hid (R = en E (go M s i) ∧ K = true) := by
        have hok : rok M E s = true := by
          unfold rok
          rw [HG.out, abc_iff.2 (fun j hj => hall.out j (by omega))]
          simp
          omega
        refine ⟨?_, HK.out.trans hok⟩
        rw [HR.out]
        unfold rto
        rw [hok, hke]
        rfl
      clear hke hall HF
      obtain ⟨a, ha⟩ : ∃ a, go M s i = a := ⟨_, rfl⟩
      rw [ha] at hT HA
      rw [ha]
      clear ha
      have hLE : E.length = M.length := (gm_iff.1 HG.out).1.2.2
      obtain ⟨g, o, rfl, hgl, c1⟩ := HE2.out.to (i := a) (by rw [hLE]; exact HA.out)
      have hal : (a : Int) < (E.length : Int) := by have := HA.out; omega
      clear hLE
      go_wp2
      go_ret2
      exact ⟨by rw [hT.out.1, hT.out.2]; rfl, hB2⟩

theorem abc_case {b : Nat} (h : 97 ≤ b ∧ b ≤ 99) : b = 97 ∨ b = 98 ∨ b = 99 := by omega

set_option maxRecDepth 100000 in
set_option maxHeartbeats 4000000 in
theorem l12Run_any (M : List (List Int)) (E : List Bool) (v e : Value) (s : ByteArray) (w : World) (hM : MAt w w.heap.size v M) (hE : EAt w w.heap.size e E) (hs : s.size ≤ 60) (hg : gm M E = true) (ha : abc s = true) :
    Calls Try.prog 57 #[.agg #[v, e], .string s] w fun x w' => x = .returned (.bool (en E (go M s s.size))) ∧ Below w.heap.size w w' := by
  have HM : Hid (MAt w w.heap.size v M) := hM
  have HE : Hid (EAt w w.heap.size e E) := hE
  have HG : Hid (gm M E = true) := hg
  have HABC : Hid (∀ i, i < s.size → 97 ≤ bt s i ∧ bt s i ≤ 99) := abc_iff.1 ha
  clear hg ha
  obtain ⟨ao, cap, rfl, hlc, hcm, _⟩ := hM
  obtain ⟨ae, cape, rfl, hlc2, hcm2, _⟩ := hE
  unfold maxLen at hcm hcm2
  obtain ⟨W1, hW1⟩ : ∃ W, W = w.alloc (.cells #[.slice ao M.length cap, .slice ae E.length cape] 30) := ⟨_, rfl⟩
  have hB1 : Below w.heap.size w W1 := by rw [hW1]; exact (Below.refl _ w).alloc (Nat.le_refl _) _
  have q0 : W1.cell? ⟨w.heap.size, 0, none⟩ = some (.slice ao M.length cap) := by rw [hW1]; go_simp
  have q1 : W1.cell? ⟨w.heap.size, 1, none⟩ = some (.slice ae E.length cape) := by rw [hW1]; go_simp
  have hl1 : w.heap.size < W1.heap.size := by rw [hW1]; simp
  go_enter Try.func57, Try.ntmps57
  go_upto_region 1 with fail
  rw [← hW1]
  clear hW1
  go_wp2
  go_loopw [5, 6] (fun va vi wr => ∃ i : Nat, i ≤ s.size ∧ vi = .int .i64 (i : Int) ∧ va = .int .i64 ((go M s i : Nat) : Int) ∧ Hid (Below W1.heap.size W1 wr))
    (fun _ vi _ => s.size - (intOf vi).toNat)
  case atStart => exact ⟨0, by omega, rfl, rfl, Below.refl _ _⟩
  case round =>
    obtain ⟨i, hi, rfl, rfl, hwr⟩ := hrel
    have HA : Hid (go M s i < M.length) := go_lt HG.out i (fun j hj => HABC.out j (by omega))
    have hBr : Below w.heap.size w wr := hB1.trans (hwr.out.mono hB1.size)
    have q0r : wr.cell? ⟨w.heap.size, 0, none⟩ = some (.slice ao M.length cap) := (hwr.out.cell (p := ⟨w.heap.size, 0, none⟩) hl1).trans q0
    have q1r : wr.cell? ⟨w.heap.size, 1, none⟩ = some (.slice ae E.length cape) := (hwr.out.cell (p := ⟨w.heap.size, 1, none⟩) hl1).trans q1
    have HM2 : Hid (MAt wr wr.heap.size (.slice ao M.length cap) M) := HM.out.below hBr
    have HE2 : Hid (EAt wr wr.heap.size (.slice ae E.length cape) E) := HE.out.below hBr
    by_cases hlt : i < s.size
    · have hlt' : (i : Int) < (s.size : Int) := by omega
      have ixs := idxM s i hlt
      have HN : Hid (go M s (i + 1) = nt M (go M s i) (lt (bt s i))) := rfl
      obtain ⟨b, hb⟩ : ∃ b, bt s i = b := ⟨_, rfl⟩
      have hbc := abc_case (HABC.out i hlt)
      rw [hb] at ixs HN hbc
      clear hb
      obtain ⟨a, ha⟩ : ∃ a, go M s i = a := ⟨_, rfl⟩
      rw [ha] at HN HA
      rw [ha]
      clear ha
      have hal : (a : Int) < (M.length : Int) := by have := HA.out; omega
      rcases hbc with rfl | rfl | rfl
      · obtain ⟨g, o, gu, ou, cu, rfl, hgl, c1, hgul, c2⟩ := HM2.out.to HG.out HA.out (k := 0) (by omega)
        rw [Nat.add_zero] at c2
        go_wp2_with fail
        go_quiet (fail)
        go_wp2
        go_roundw
        case rel => exact ⟨i + 1, by omega, by go_num, by rw [HN.out]; rfl, below_drewT hwr.out⟩
        case measure => simp [intOf]; omega
      · obtain ⟨g, o, gu, ou, cu, rfl, hgl, c1, hgul, c2⟩ := HM2.out.to HG.out HA.out (k := 1) (by omega)
        go_wp2_with fail
        go_quiet (fail)
        go_wp2
        go_roundw
        case rel => exact ⟨i + 1, by omega, by go_num, by rw [HN.out]; rfl, below_drewT hwr.out⟩
        case measure => simp [intOf]; omega
      · obtain ⟨g, o, gu, ou, cu, rfl, hgl, c1, hgul, c2⟩ := HM2.out.to HG.out HA.out (k := 2) (by omega)
        go_wp2_with fail
        go_quiet (fail)
        go_wp2
        go_roundw
        case rel => exact ⟨i + 1, by omega, by go_num, by rw [HN.out]; rfl, below_drewT hwr.out⟩
        case measure => simp [intOf]; omega
    · have hke : i = s.size := by omega
      have hge : ¬ ((i : Int) < (s.size : Int)) := by omega
      obtain ⟨a, ha⟩ : ∃ a, go M s i = a := ⟨_, rfl⟩
      have HT : Hid (go M s s.size = a) := by rw [← ha, hke]; rfl
      rw [ha] at HA
      rw [ha]
      clear ha hke
      have hLE : E.length = M.length := (gm_iff.1 HG.out).1.2.2
      obtain ⟨g, o, rfl, hgl, c1⟩ := HE2.out.to (i := a) (by rw [hLE]; exact HA.out)
      have hal : (a : Int) < (E.length : Int) := by have := HA.out; omega
      clear hLE
      go_wp2
      go_ret
      exact ⟨by rw [HT.out]; rfl, hBr⟩

set_option maxRecDepth 100000 in
set_option maxHeartbeats 4000000 in
theorem specRunM (M : List (List Int)) (E : List Bool) (v e : Value) (s : ByteArray) (w : World) (hM : MAt w w.heap.size v M) (hE : EAt w w.heap.size e E) (hs : s.size ≤ maxLen) :
    Calls Try.prog 21 #[.agg #[v, e], .string s] w fun x w' => x = .returned (.tuple #[.bool (rto M E s), .bool (rok M E s)]) ∧ Below w.heap.size w w' := by
  have HM : Hid (MAt w w.heap.size v M) := hM
  have HE : Hid (EAt w w.heap.size e E) := hE
  obtain ⟨ao, cap, rfl, hlc, hcm, _⟩ := hM
  obtain ⟨ae, cape, rfl, hlc2, hcm2, _⟩ := hE
  unfold maxLen at hcm hcm2 hs
  obtain ⟨W1, hW1⟩ : ∃ W, W = w.alloc (.cells #[.slice ao M.length cap, .slice ae E.length cape] 30) := ⟨_, rfl⟩
  have hB1 : Below w.heap.size w W1 := by rw [hW1]; exact (Below.refl _ w).alloc (Nat.le_refl _) _
  have q0 : W1.cell? ⟨w.heap.size, 0, none⟩ = some (.slice ao M.length cap) := by rw [hW1]; go_simp
  have q1 : W1.cell? ⟨w.heap.size, 1, none⟩ = some (.slice ae E.length cape) := by rw [hW1]; go_simp
  have hl1 : w.heap.size < W1.heap.size := by rw [hW1]; simp
  obtain ⟨R, hR⟩ : ∃ R, R = rto M E s := ⟨_, rfl⟩
  obtain ⟨K, hK⟩ : ∃ K, K = rok M E s := ⟨_, rfl⟩
  rw [← hR, ← hK]
  have HR : Hid (R = rto M E s) := hR
  have HK : Hid (K = rok M E s) := hK
  have HF : Hid (rok M E s = false → R = false ∧ K = false) := fun h => ⟨by rw [HR.out]; unfold rto; rw [h]; rfl, by rw [HK.out, h]⟩
  clear hR hK
  go_enter Try.func21, Try.ntmps21
  go_wp2_with fail
  rw [← hW1]
  clear hW1
  refine (specGoodM M E _ _ _ (HM.out.below hB1) (HE.out.below hB1)).mono ?_
  rintro x w2 ⟨rfl, hb2⟩
  have q0 := (hb2.cell (p := ⟨w.heap.size, 0, none⟩) hl1).trans q0
  have q1 := (hb2.cell (p := ⟨w.heap.size, 1, none⟩) hl1).trans q1
  have hB2 : Below w.heap.size w w2 := hB1.trans (hb2.mono hB1.size)
  have hl2 : w.heap.size < w2.heap.size := by have := hb2.size; omega
  have HM2 : Hid (MAt w2 w2.heap.size (.slice ao M.length cap) M) := HM.out.below hB2
  have HE2 : Hid (EAt w2 w2.heap.size (.slice ae E.length cape) E) := HE.out.below hB2
  clear hb2 hB1 hl1 HM HE
  cases hg : gm M E with
  | false =>
    have hF : Hid (R = false ∧ K = false) := HF.out (by unfold rok; rw [hg]; rfl)
    clear HF
    go_wp2
    go_ret2
    exact ⟨by rw [hF.out.1, hF.out.2]; rfl, hB2⟩
  | true =>
  have HG : Hid (gm M E = true) := hg
  clear hg
  by_cases hlong : (60 : Int) < (s.size : Int)
  · have hF : Hid (R = false ∧ K = false) := HF.out (by
      unfold rok
      rw [HG.out, show decide (s.size ≤ 60) = false by simp; omega]
      rfl)
    clear HF
    go_wp2
    go_ret2
    exact ⟨by rw [hF.out.1, hF.out.2]; rfl, hB2⟩
  have hlong' : decide ((60 : Int) < (s.size : Int)) = false := by simpa using hlong
  go_wp2
  go_loopw [6] (fun vi wr => ∃ i : Nat, i ≤ s.size ∧ vi = .int .i64 (i : Int) ∧ Hid (∀ j, j < i → 97 ≤ bt s j ∧ bt s j ≤ 99) ∧ wr = w2)
    (fun vi _ => s.size - (intOf vi).toNat)
  case atStart => exact ⟨0, by omega, rfl, fun j hj => by omega, rfl⟩
  case round =>
    obtain ⟨i, hi, rfl, hall, rfl⟩ := hrel
    by_cases hlt : i < s.size
    · have hlt' : (i : Int) < (s.size : Int) := by omega
      have ixs := idxM s i hlt
      obtain ⟨b, hb⟩ : ∃ b, bt s i = b := ⟨_, rfl⟩
      have HB : Hid (bt s i = b) := hb
      rw [hb] at ixs
      clear hb
      have bad : Hid (¬ (97 ≤ b ∧ b ≤ 99) → R = false ∧ K = false) := fun hab => HF.out (by
        unfold rok
        cases hx : abc s with
        | false => simp
        | true =>
          have := abc_iff.1 hx i hlt
          rw [HB.out] at this
          exact absurd this hab)
      by_cases k1 : (b : Int) < 97
      · have hF : Hid (R = false ∧ K = false) := bad.out (by omega)
        clear HF hall bad
        go_wp2
        go_ret2
        exact ⟨by rw [hF.out.1, hF.out.2]; rfl, hB2⟩
      · have k1' : decide ((b : Int) < 97) = false := by simpa using k1
        by_cases k2 : (99 : Int) < (b : Int)
        · have hF : Hid (R = false ∧ K = false) := bad.out (by omega)
          clear HF hall bad
          go_wp2
          go_ret2
          exact ⟨by rw [hF.out.1, hF.out.2]; rfl, hB2⟩
        · have k2' : decide ((99 : Int) < (b : Int)) = false := by simpa using k2
          have hall2 : Hid (∀ j, j < i + 1 → 97 ≤ bt s j ∧ bt s j ≤ 99) := fun j hj => by
            by_cases e : j = i
            · rw [e, HB.out]; omega
            · exact hall.out j (by omega)
          clear hall bad
          go_wp2
          go_roundw
          case rel => exact ⟨i + 1, by omega, by go_num, hall2, by trivial⟩
          case measure => simp [intOf]; omega
    · have hge : ¬ ((i : Int) < (s.size : Int)) := by omega
      have habc : Hid (abc s = true) := abc_iff.2 (fun j hj => hall.out j (by omega))
      have hT : Hid (R = en E (go M s s.size) ∧ K = true) := by
        have hok : rok M E s = true := by
          unfold rok
          rw [HG.out, habc.out]
          simp
          omega
        refine ⟨?_, HK.out.trans hok⟩
        rw [HR.out]
        unfold rto
        rw [hok]
        rfl
      clear hall HF
      go_wp2_with fail
      refine (l12Run_any M E _ _ s _ HM2.out HE2.out (by omega) HG.out habc.out).mono ?_
      rintro x w3 ⟨rfl, hb3⟩
      have hB3 := hB2.trans (hb3.mono hB2.size)
      go_wp2
      go_ret2
      exact ⟨by rw [hT.out.1, hT.out.2]; rfl, hB3⟩

end Go.Proofs.Ytecgjhnihagleaa
