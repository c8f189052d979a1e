/- The program's makeBetter. -/
import Derived.Test.YtpopjapcgcnnfaaPiJ
import Derived.Laws.EntriesVeiled
import Derived.Deep.RegionWith
namespace Go.Proofs.Ytpopjapcgcnnfaa
open Go.RowKit Plain Sch Wan Prg

theorem idxR0 (W : World) : (Instr.index 146 (.agg #[.func (.func 99) #[] #[], .func (.func 100) #[] #[], .func (.func 101) #[] #[]]) (.int .i64 0)).run Try.prog W = .ok (.func (.func 99) #[] #[]) W := by kernel_rfl
theorem idxR1 (W : World) : (Instr.index 146 (.agg #[.func (.func 99) #[] #[], .func (.func 100) #[] #[], .func (.func 101) #[] #[]]) (.int .i64 1)).run Try.prog W = .ok (.func (.func 100) #[] #[]) W := by kernel_rfl
theorem idxR2 (W : World) : (Instr.index 146 (.agg #[.func (.func 99) #[] #[], .func (.func 100) #[] #[], .func (.func 101) #[] #[]]) (.int .i64 2)).run Try.prog W = .ok (.func (.func 101) #[] #[]) W := by kernel_rfl
attribute [local go_sem] idxR0 idxR1 idxR2

/-- what makeBetter leaves -/
def MbOut (w : World) (hb : Nat) (v : Value) (R : Option (List Ins)) (e : Ending) (w' : World) : Prop :=
  (∃ U, R = some U ∧ e = .returned (.bool true) ∧ HOut w hb v U w') ∨ (R = none ∧ e = .returned (.bool false) ∧ Below w.heap.size w w')

theorem bet_A {L : List Ins} {i : Nat} (h : isA L i) : bet L i = some (cutP L i 2) := by unfold bet; rw [if_pos h]
theorem bet_B {L : List Ins} {i : Nat} (h1 : ¬ isA L i) (h : isB L i) : bet L i = some (ledOn L i) := by unfold bet; rw [if_neg h1, if_pos h]
theorem bet_C {L : List Ins} {i : Nat} (h1 : ¬ isA L i) (h2 : ¬ isB L i) (h : isC L i) : bet L i = some (cutP L (i + 2) 1) := by unfold bet; rw [if_neg h1, if_neg h2, if_pos h]
theorem bet_N {L : List Ins} {i : Nat} (h1 : ¬ isA L i) (h2 : ¬ isB L i) (h : ¬ isC L i) : bet L i = none := by unfold bet; rw [if_neg h1, if_neg h2, if_neg h]

set_option maxRecDepth 100000 in
set_option maxHeartbeats 8000000 in
theorem makeBetter_any (L : List Ins) (hb : Nat) (v : Value) (w : World) (hH : HSt w hb v L) (hg : gp L = true) :
    Calls Try.prog 66 #[.pointer (some ⟨hb, 0, none⟩)] w (MbOut w hb v (fstB L L.length 0)) := by
  obtain ⟨h0, h60⟩ := gp_len hg
  have HH : Hid (HSt w hb v L) := hH
  obtain ⟨g, cap, rfl, hhg, hgw, hlc, hcm2⟩ := hH.form (by omega)
  have hcm3 : cap ≤ 9223372036854775807 := by unfold maxLen at hcm2; omega
  have hc0 := hH.2.1
  have hb0 := hH.1
  have CA : Hid (∀ (i : Nat) (W : World), i < L.length → Below w.heap.size w W → Calls Try.prog 99 #[.pointer (some ⟨hb, 0, none⟩), .int .i64 i] W (RuleOut W hb (.slice (some ⟨g, 0, none⟩) L.length cap) (decide (isA L i)) (cutP L i 2))) := fun i W hi hW => dropFlips_any L i hb _ W (HH.out.below hW) hg hi
  have CB : Hid (∀ (i : Nat) (W : World), i < L.length → Below w.heap.size w W → Calls Try.prog 100 #[.pointer (some ⟨hb, 0, none⟩), .int .i64 i] W (RuleOut W hb (.slice (some ⟨g, 0, none⟩) L.length cap) (decide (isB L i)) (ledOn L i))) := fun i W hi hW => leadOn_any L i hb _ W (HH.out.below hW) hg hi
  have CC : Hid (∀ (i : Nat) (W : World), i < L.length → Below w.heap.size w W → Calls Try.prog 101 #[.pointer (some ⟨hb, 0, none⟩), .int .i64 i] W (RuleOut W hb (.slice (some ⟨g, 0, none⟩) L.length cap) (decide (isC L i)) (cutP L (i + 2) 1))) := fun i W hi hW => dropSeek_any L i hb _ W (HH.out.below hW) hg hi
  obtain ⟨R, hR⟩ : ∃ R, R = fstB L L.length 0 := ⟨_, rfl⟩
  rw [← hR]
  have HFND : Hid (∀ (i : Nat) (U : List Ins), i < L.length → (∀ j, j < i → bet L j = none) → bet L i = some U → R = some U) := fun i U hi hn hs => by
    rw [hR]
    exact fstB_found L U L.length 0 i (by omega) (fun q hq => by rw [Nat.zero_add]; exact hn q hq) (by rw [Nat.zero_add]; exact hs)
  have HNON : Hid ((∀ j, j < L.length → bet L j = none) → R = none) := fun hn => by
    rw [hR]
    exact fstB_none L L.length 0 (fun q hq => by rw [Nat.zero_add]; exact hn q hq)
  clear hR hH hg
  obtain ⟨W1, hW1⟩ : ∃ W, W = w.alloc (.cells #[.func (.func 99) #[] #[], .func (.func 100) #[] #[], .func (.func 101) #[] #[]] 146) := ⟨_, rfl⟩
  have hB1 : Below w.heap.size w W1 := by rw [hW1]; exact (Below.refl _ w).alloc (Nat.le_refl _) _
  have hl1 : w.heap.size < W1.heap.size := by rw [hW1]; simp
  have r0 : W1.cell? ⟨w.heap.size, 0, none⟩ = some (.func (.func 99) #[] #[]) := by rw [hW1]; go_simp
  have r1 : W1.cell? ⟨w.heap.size, 1, none⟩ = some (.func (.func 100) #[] #[]) := by rw [hW1]; go_simp
  have r2 : W1.cell? ⟨w.heap.size, 2, none⟩ = some (.func (.func 101) #[] #[]) := by rw [hW1]; go_simp
  have hc1 := (hB1.cell (p := ⟨hb, 0, none⟩) hb0).trans hc0
  have hb1 : hb < W1.heap.size := by omega
  go_enter Try.func66, Try.ntmps66
  go_upto_region 2 with fail
  rw [← hW1]
  clear hW1
  go_wp2
  go_loopw [13] (fun vi wr => ∃ i : Nat, i ≤ L.length ∧ vi = .int .i64 (i : Int) ∧ Hid (∀ j, j < i → bet L j = none) ∧ Hid (Below W1.heap.size W1 wr))
    (fun vi _ => L.length - (intOf vi).toNat)
  case atStart => exact ⟨0, by omega, rfl, fun j hj => by omega, Below.refl _ _⟩
  case round =>
    obtain ⟨i, hi, rfl, hall, HB⟩ := hrel
    obtain ⟨wo, rfl⟩ : ∃ W, W = wr := ⟨_, rfl⟩
    by_cases hlt : i < L.length
    · have hlt' : (i : Int) < (L.length : Int) := by omega
      have q0 := (HB.out.cell (p := ⟨w.heap.size, 0, none⟩) hl1).trans r0
      have q1 := (HB.out.cell (p := ⟨w.heap.size, 1, none⟩) hl1).trans r1
      have q2 := (HB.out.cell (p := ⟨w.heap.size, 2, none⟩) hl1).trans r2
      have hwo : w.heap.size < wo.heap.size := by have := HB.out.size; omega
      go_wp2
      go_loopw [17] (fun vj wr => ∃ j : Nat, j ≤ 3 ∧ vj = .int .i64 (j : Int) ∧ Hid ((1 ≤ j → ¬ isA L i) ∧ (2 ≤ j → ¬ isB L i) ∧ (3 ≤ j → ¬ isC L i)) ∧ Hid (Below W1.heap.size W1 wr))
        (fun vj _ => 3 - (intOf vj).toNat)
      case atStart => exact ⟨0, by omega, rfl, ⟨fun h => by omega, fun h => by omega, fun h => by omega⟩, HB⟩
      case round =>
        obtain ⟨j, hj, rfl, hno, HBr⟩ := hrel
        have hBw : Below w.heap.size w wr := hB1.trans (HBr.out.mono hB1.size)
        have hszr := HBr.out.size
        match j, hj with
        | 0, _ =>
          rw [show (((0 : Nat)) : Int) = 0 from rfl]
          go_wp2_with fail
          refine (CA.out i _ hlt hBw).mono ?_
          rintro e w4 (⟨hd, rfl, ho⟩ | ⟨hd, rfl, hb4⟩)
          · have hA : isA L i := by simpa using hd
            have HE : Hid (MbOut w hb (.slice (some ⟨g, 0, none⟩) L.length cap) R (.returned (.bool true)) w4) := .inl ⟨_, HFND.out i _ hlt hall.out (bet_A hA), rfl, ho.from hBw⟩
            clear hd ho hA
            go_wp2
            go_ret
            exact HE.out
          · have hA : ¬ isA L i := by simpa using hd
            have HN : Hid ((1 ≤ 1 → ¬ isA L i) ∧ (2 ≤ 1 → ¬ isB L i) ∧ (3 ≤ 1 → ¬ isC L i)) := ⟨fun _ => hA, fun h => by omega, fun h => by omega⟩
            have HB4 : Hid (Below W1.heap.size W1 w4) := HBr.out.trans (hb4.mono hszr)
            clear hd hb4 hA
            go_wp2
            go_roundw
            case rel => exact ⟨1, by omega, by go_num, HN, HB4⟩
            case measure => simp [intOf]
        | 1, _ =>
          rw [show (((1 : Nat)) : Int) = 1 from rfl]
          go_wp2_with fail
          refine (CB.out i _ hlt hBw).mono ?_
          rintro e w4 (⟨hd, rfl, ho⟩ | ⟨hd, rfl, hb4⟩)
          · have hA : isB L i := by simpa using hd
            have HE : Hid (MbOut w hb (.slice (some ⟨g, 0, none⟩) L.length cap) R (.returned (.bool true)) w4) := .inl ⟨_, HFND.out i _ hlt hall.out (bet_B (hno.out.1 (by omega)) hA), rfl, ho.from hBw⟩
            clear hd ho hA
            go_wp2
            go_ret
            exact HE.out
          · have hA : ¬ isB L i := by simpa using hd
            have HN : Hid ((1 ≤ 2 → ¬ isA L i) ∧ (2 ≤ 2 → ¬ isB L i) ∧ (3 ≤ 2 → ¬ isC L i)) := ⟨fun _ => hno.out.1 (by omega), fun _ => hA, fun h => by omega⟩
            have HB4 : Hid (Below W1.heap.size W1 w4) := HBr.out.trans (hb4.mono hszr)
            clear hd hb4 hA
            go_wp2
            go_roundw
            case rel => exact ⟨2, by omega, by go_num, HN, HB4⟩
            case measure => simp [intOf]
        | 2, _ =>
          rw [show (((2 : Nat)) : Int) = 2 from rfl]
          go_wp2_with fail
          refine (CC.out i _ hlt hBw).mono ?_
          rintro e w4 (⟨hd, rfl, ho⟩ | ⟨hd, rfl, hb4⟩)
          · have hA : isC L i := by simpa using hd
            have HE : Hid (MbOut w hb (.slice (some ⟨g, 0, none⟩) L.length cap) R (.returned (.bool true)) w4) := .inl ⟨_, HFND.out i _ hlt hall.out (bet_C (hno.out.1 (by omega)) (hno.out.2.1 (by omega)) hA), rfl, ho.from hBw⟩
            clear hd ho hA
            go_wp2
            go_ret
            exact HE.out
          · have hA : ¬ isC L i := by simpa using hd
            have HN : Hid ((1 ≤ 3 → ¬ isA L i) ∧ (2 ≤ 3 → ¬ isB L i) ∧ (3 ≤ 3 → ¬ isC L i)) := ⟨fun _ => hno.out.1 (by omega), fun _ => hno.out.2.1 (by omega), fun _ => hA⟩
            have HB4 : Hid (Below W1.heap.size W1 w4) := HBr.out.trans (hb4.mono hszr)
            clear hd hb4 hA
            go_wp2
            go_roundw
            case rel => exact ⟨3, by omega, by go_num, HN, HB4⟩
            case measure => simp [intOf]
        | 3, _ =>
          rw [show (((3 : Nat)) : Int) = 3 from rfl]
          have HALL : Hid (∀ j, j < i + 1 → bet L j = none) := fun j hj => by
            by_cases e : j = i
            · rw [e]; exact bet_N (hno.out.1 (by omega)) (hno.out.2.1 (by omega)) (hno.out.2.2 (by omega))
            · exact hall.out j (by omega)
          clear hno
          go_wp2
          go_roundw
          case rel => exact ⟨i + 1, by omega, by go_num, HALL, HBr⟩
          case measure => simp [intOf]; omega
        | n + 4, h => exact absurd h (by omega)
    · have hlt' : ¬ (i : Int) < (L.length : Int) := by omega
      have HE : Hid (MbOut w hb (.slice (some ⟨g, 0, none⟩) L.length cap) R (.returned (.bool false)) wo) := .inr ⟨HNON.out (fun j hj => hall.out j (by omega)), rfl, hB1.trans (HB.out.mono hB1.size)⟩
      clear hall
      go_wp2
      go_ret
      exact HE.out

end Go.Proofs.Ytpopjapcgcnnfaa
