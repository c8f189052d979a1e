/- The model's l4Nodes: whether nodes are one tree, in its order. -/
import Derived.Test.YtpajdmhakdbkjaaNdT
import Derived.Test.YtpajdmhakdbkjaaGv
import Derived.Test.YtpajdmhakdbkjaaGd
import Derived.Deep.DeepCutAuto
namespace Go.Proofs.Ytpajdmhakdbkjaa
open Go.RowKit Plain Sch

theorem nds_false (T : List Ty) (i : Nat) (hi : i < T.length) (h : ndOk T i = false) : nds T = false := by
  unfold nds
  have : (List.range T.length).all (ndOk T) = false := by
    rw [List.all_eq_false]
    exact ⟨i, by simpa using hi, by rw [h]; simp⟩
  rw [this, Bool.and_false]

theorem nds_end (T : List Ty) (h : ∀ j, j < T.length → ndOk T j = true) : nds T = decide ((1 : Int) ≤ (T.length : Int) ∧ (T.length : Int) ≤ 40) := by
  unfold nds
  have : (List.range T.length).all (ndOk T) = true := by
    rw [List.all_eq_true]
    intro j hj
    exact h j (by simpa using hj)
  rw [this, Bool.and_true]
  by_cases h1 : 1 ≤ T.length <;> by_cases h2 : T.length ≤ 40 <;> simp [h1, h2] <;> omega

theorem nd_zero (T : List Ty) : ndOk T 0 = (decide ((ty T 0).up = -1) && decide ((ty T 0).no = 0)) := by unfold ndOk; rw [if_pos rfl]

theorem nd_succ (T : List Ty) (i : Nat) (h : 0 < i) : ndOk T i = (decide (0 ≤ (ty T i).up) && decide ((ty T i).up < i) && (ty T (ty T i).up.toNat).must && decide ((ty T i).up.toNat ∈ chain T (i - 1))) := by unfold ndOk; rw [if_neg (by omega)]

set_option maxRecDepth 100000 in
set_option maxHeartbeats 4000000 in
theorem l4Nodes_any (T : List Ty) (v : Value) (w : World) (hT : NdsAt w w.heap.size v T) (hl : T.length ≤ 2097152) :
    Calls Try.prog 59 #[.agg #[v]] w fun e w' => e = .returned (.bool (nds T)) ∧ Below w.heap.size w w' := by
  obtain ⟨R, hR⟩ : ∃ R, R = nds T := ⟨_, rfl⟩
  rw [← hR]
  have HR : Hid (R = nds T) := hR
  clear hR
  by_cases h00 : T.length = 0
  · obtain ⟨ao, cap, rfl, hlc, hcm, _⟩ := hT
    have hcm' : cap ≤ 9223372036854775807 := by unfold maxLen at hcm; omega
    have hn : Hid (R = false) := by
      show _ = _
      rw [HR.out, nds_end T (fun j hj => by omega), h00]
      rfl
    rw [h00]
    have hB1 : Below w.heap.size w (w.alloc (.cells #[.slice ao 0 cap] 29)) := (Below.refl _ w).alloc (Nat.le_refl _) _
    clear HR hlc hl h00
    go_enter Try.func59, Try.ntmps59
    go_wp2
    go_loopw [10] (fun vi wr => vi = .int .i64 0 ∧ wr = w.alloc (.cells #[.slice ao 0 cap] 29)) (fun _ _ => 0)
    case atStart => exact ⟨rfl, rfl⟩
    case round =>
      obtain ⟨rfl, rfl⟩ := hrel
      go_wp2_with fail
      refine (l1In_any 0 1 40 _).mono ?_
      rintro e w1 ⟨rfl, rfl⟩
      go_wp2
      go_ret
      exact ⟨by rw [hn.out]; rfl, hB1⟩
  have h0T : 0 < T.length := by omega
  clear h00
  obtain ⟨g, o, cap, rfl, hlc, hcm, hg, hrow, _⟩ := hT.open h0T
  clear hT
  have hcm' : cap ≤ 9223372036854775807 := by unfold maxLen at hcm; omega
  have HRW : Hid (∀ i, i < T.length → NoIn w g (o + i * 5) (ty T i)) := hrow
  clear hrow
  obtain ⟨W1, hW1⟩ : ∃ W, W = w.alloc (.cells #[.slice (some ⟨g, o, none⟩) T.length cap] 29) := ⟨_, rfl⟩
  have hB1 : Below w.heap.size w W1 := by rw [hW1]; exact (Below.refl _ w).alloc (Nat.le_refl _) _
  have HS1 : Hid (W1.heap.size = w.heap.size + 1) := by show _ = _; rw [hW1]; simp
  have k0 : W1.cell? ⟨w.heap.size, 0, none⟩ = some (.slice (some ⟨g, o, none⟩) T.length cap) := by rw [hW1]; simp
  have HF : Hid (∀ i, i < T.length → ndOk T i = false → R = false) := fun i hi h => HR.out.trans (nds_false T i hi h)
  go_enter Try.func59, Try.ntmps59
  go_upto_region 1 with fail
  rw [← hW1]
  clear hW1
  go_wp2
  go_loopw [10] (fun vi wr => ∃ i : Nat, i ≤ T.length ∧ vi = .int .i64 (i : Int) ∧ Hid (∀ j, j < i → ndOk T j = true) ∧ Below W1.heap.size W1 wr)
    (fun vi _ => T.length - (intOf vi).toNat)
  case atStart => exact ⟨0, by omega, rfl, fun j hj => by omega, Below.refl _ _⟩
  case round =>
    obtain ⟨wo, rfl⟩ : ∃ W, W = wr := ⟨_, rfl⟩
    obtain ⟨i, hil, rfl, hall, hbw⟩ := hrel
    have hs1 := HS1.out
    have hsr := hbw.size
    have hBo : Below w.heap.size w wo := hB1.trans (hbw.mono hB1.size)
    have q0 := (hbw.cell (p := ⟨w.heap.size, 0, none⟩) (by show w.heap.size < _; omega)).trans k0
    have hwo : w.heap.size < wo.heap.size := by omega
    by_cases hlt : i < T.length
    · have hltI : (i : Int) < (T.length : Int) := by omega
      have hci := (HRW.out i hlt).below hBo hg
      have hgo : g < wo.heap.size := by omega
      obtain ⟨ti, hti⟩ : ∃ t, ty T i = t := ⟨_, rfl⟩
      have HTI : Hid (ty T i = ti) := hti
      rw [hti] at hci
      clear hti
      obtain ⟨kind, name, no, must, up, most⟩ := ti
      obtain ⟨c0, c1, c2, c3, c4⟩ := hci
      dsimp only at c0 c1 c2 c3 c4
      obtain ⟨Wn, hWn⟩ : ∃ W, W = wo.alloc (.cells #[.int .i64 most, .string name, .int .i64 no, .int .i64 up, .bool must] 85) := ⟨_, rfl⟩
      have hBn : Below wo.heap.size wo Wn := by rw [hWn]; exact (Below.refl _ wo).alloc (Nat.le_refl _) _
      have HSN : Hid (Wn.heap.size = wo.heap.size + 1) := by show _ = _; rw [hWn]; simp
      have n2 : Wn.cell? ⟨wo.heap.size, 2, none⟩ = some (.int .i64 no) := by rw [hWn]; go_simp
      have n3 : Wn.cell? ⟨wo.heap.size, 3, none⟩ = some (.int .i64 up) := by rw [hWn]; go_simp
      have q0n := (hBn.cell (p := ⟨w.heap.size, 0, none⟩) hwo).trans q0
      have hB1n : Below W1.heap.size W1 Wn := hbw.trans (hBn.mono hsr)
      have hB0n : Below w.heap.size w Wn := hBo.trans (hBn.mono hBo.size)
      have hzn : w.heap.size < Wn.heap.size := by have := HSN.out; omega
      have hzo : wo.heap.size < Wn.heap.size := by have := HSN.out; omega
      have hgn : g < Wn.heap.size := by omega
      go_upto_region 4 with fail
      rw [← hWn]
      clear hWn c0 c1 c2 c3 c4
      by_cases hi0 : i = 0
      · subst hi0
        have hd : ndOk T 0 = (decide (up = -1) && decide (no = 0)) := by rw [nd_zero, HTI.out]
        by_cases hu : up = -1
        · by_cases hno : no = 0
          · have hall2 : Hid (∀ j, j < 0 + 1 → ndOk T j = true) := fun j hj => by
              obtain rfl : j = 0 := by omega
              rw [hd, hu, hno]; rfl
            subst hu hno
            clear hd hall
            go_wp2
            go_roundw
            case rel => exact ⟨1, by omega, rfl, hall2, hB1n⟩
            case measure => simp [intOf]; omega
          · have hn : Hid (R = false) := HF.out 0 hlt (by rw [hd]; simp [hno])
            have hno' : (no != 0) = true := by simpa using hno
            subst hu
            clear hd hall hno
            go_wp2
            go_ret
            exact ⟨by rw [hn.out]; rfl, hB0n⟩
        · have hn : Hid (R = false) := HF.out 0 hlt (by rw [hd]; simp [hu])
          have hu' : (up != -1) = true := by simpa using hu
          clear hd hall hu
          go_wp2
          go_ret
          exact ⟨by rw [hn.out]; rfl, hB0n⟩
      · have hi1 : 0 < i := by omega
        have hi0' : ((i : Int) == 0) = false := by simp; omega
        have hd : ndOk T i = (decide (0 ≤ up) && decide (up < i) && (ty T up.toNat).must && decide (up.toNat ∈ chain T (i - 1))) := by rw [nd_succ T i hi1, HTI.out]
        by_cases hup0 : up < 0
        · have hn : Hid (R = false) := HF.out i hlt (by rw [hd]; have : decide (0 ≤ up) = false := by simp; omega
                                                        rw [this]; simp)
          have hup0' : decide (up < 0) = true := by simpa using hup0
          clear hd hall hup0
          go_wp2
          go_ret
          exact ⟨by rw [hn.out]; rfl, hB0n⟩
        · have hd0 : decide (up < 0) = false := by simpa using hup0
          by_cases hupk : (i : Int) ≤ up
          · have hn : Hid (R = false) := HF.out i hlt (by rw [hd]; have : decide (up < (i : Int)) = false := by simp; omega
                                                          rw [this]; simp)
            have hdk : decide ((i : Int) ≤ up) = true := by simpa using hupk
            clear hd hall hup0 hupk
            go_wp2
            go_ret
            exact ⟨by rw [hn.out]; rfl, hB0n⟩
          · have hdk : decide ((i : Int) ≤ up) = false := by simpa using hupk
            obtain ⟨u, rfl⟩ := Int.eq_ofNat_of_zero_le (show 0 ≤ up by omega)
            rw [Int.toNat_natCast] at hd
            have hui : u < i := by omega
            have hu1 : (u : Int) < (T.length : Int) := by omega
            have hcu4 := ((HRW.out u (by omega)).below hB0n hg).2.2.2.2
            have hd2 : ndOk T i = ((ty T u).must && decide (u ∈ chain T (i - 1))) := by
              rw [hd]
              have e1 : decide ((0 : Int) ≤ (u : Int)) = true := by simp
              have e2 : decide ((u : Int) < (i : Int)) = true := by simp; omega
              rw [e1, e2]
              simp
            clear hd hup0 hupk
            obtain ⟨mu, hmu⟩ : ∃ x, (ty T u).must = x := ⟨_, rfl⟩
            rw [hmu] at hcu4 hd2
            clear hmu
            cases mu
            · have hn : Hid (R = false) := HF.out i hlt (by rw [hd2]; simp)
              clear hd2 hall
              go_wp2
              go_ret
              exact ⟨by rw [hn.out]; rfl, hB0n⟩
            · obtain ⟨D, hD⟩ : ∃ D, D = decide (u ∈ chain T (i - 1)) := ⟨_, rfl⟩
              rw [← hD, Bool.true_and] at hd2
              have HD : Hid (D = decide (u ∈ chain T (i - 1))) := hD
              have HD2 : Hid (ndOk T i = D) := hd2
              have HU : Hid (UpsTo T i) := by
                refine ⟨(nds_zero T (hall.out 0 hi1)).1, fun j hj hji => ?_⟩
                have := nds_step T j hj (hall.out j hji)
                exact ⟨this.1, this.2.1⟩
              clear hd2 hD
              go_wp2
              go_loopw [5, 6] (fun vb va wr => ∃ (a : Int) (b : Bool), va = .int .i64 a ∧ vb = .bool b ∧ Hid ((a = -1 ∧ b = D) ∨ ∃ j : Nat, a = (j : Int) ∧ j < i ∧ (b || decide (u ∈ chain T j)) = D) ∧ wr = Wn)
                (fun _ va _ => (intOf va + 1).toNat)
              case atStart => exact ⟨(i : Int) - 1, false, by go_num, rfl, .inr ⟨i - 1, by omega, by omega, by rw [Bool.false_or, HD.out]⟩, rfl⟩
              case round =>
                obtain ⟨a, b, rfl, rfl, hst, rfl⟩ := hrel
                rcases hst.out with ⟨rfl, hbD⟩ | ⟨j, rfl, hji, hiff⟩
                · have HBD : Hid (b = D) := hbD
                  clear hst hbD
                  cases b
                  · have hn : Hid (R = false) := HF.out i hlt (by rw [HD2.out, ← HBD.out])
                    go_wp2
                    go_ret
                    exact ⟨by rw [hn.out]; rfl, hB0n⟩
                  · have hall2 : Hid (∀ j, j < i + 1 → ndOk T j = true) := fun j hj => by
                      by_cases hji : j = i
                      · rw [hji, HD2.out, ← HBD.out]
                      · exact hall.out j (by omega)
                    clear hall
                    go_wp2
                    go_roundw
                    case rel => exact ⟨i + 1, by omega, by go_num, hall2, hB1n⟩
                    case measure => simp [intOf]; omega
                · clear hst
                  have hjl : j < T.length := by omega
                  have hc3 := ((HRW.out j hjl).below hB0n hg).2.2.2.1
                  have hj0 : (0 : Int) ≤ (j : Int) := by omega
                  have hj1 : (j : Int) < (T.length : Int) := by omega
                  have hupj : ((ty T j).up = -1 ∧ j = 0) ∨ (0 ≤ (ty T j).up ∧ (ty T j).up < j) := by
                    by_cases h0 : j = 0
                    · subst h0; exact .inl ⟨HU.out.1, rfl⟩
                    · exact .inr (HU.out.2 j (by omega) hji)
                  have hnext : ∀ b2 : Bool, b2 = (b || decide (j = u)) → (((ty T j).up = -1 ∧ b2 = D) ∨ ∃ k : Nat, (ty T j).up = (k : Int) ∧ k < i ∧ (b2 || decide (u ∈ chain T k)) = D ∧ k < j) := by
                    intro b2 hb2
                    rcases hupj with ⟨hu1, rfl⟩ | hu1
                    · left
                      refine ⟨hu1, ?_⟩
                      rw [hb2, ← hiff, chain_top T 0 (by omega)]
                      congr 1
                      rw [decide_eq_decide]
                      simp [eq_comm]
                    · right
                      refine ⟨(ty T j).up.toNat, by omega, by omega, ?_, by omega⟩
                      rw [hb2, ← hiff, chain_up T j hu1, Bool.or_assoc]
                      congr 1
                      by_cases h1 : j = u
                      · subst h1; simp
                      · have h2 : u ≠ j := fun e => h1 e.symm
                        simp [h1, h2]
                  have HN : Hid (∀ b2 : Bool, b2 = (b || decide (j = u)) → (((ty T j).up = -1 ∧ b2 = D) ∨ ∃ k : Nat, (ty T j).up = (k : Int) ∧ k < i ∧ (b2 || decide (u ∈ chain T k)) = D ∧ k < j)) := hnext
                  clear hnext hupj hiff
                  generalize (ty T j).up = upj at hc3 HN
                  cases b
                  · by_cases he : j = u
                    · have he' : ((j : Int) == (u : Int)) = true := by simp; omega
                      have HN2 := HN.out true (by simp [he])
                      have HN3 : Hid ((upj = -1 ∧ true = D) ∨ ∃ k : Nat, upj = (k : Int) ∧ k < i ∧ (true || decide (u ∈ chain T k)) = D ∧ k < j) := HN2
                      clear HN HN2 he
                      go_wp2
                      go_roundw
                      case rel =>
                        rcases HN3.out with ⟨rfl, hD⟩ | ⟨k, rfl, h1, h2, h3⟩
                        · exact ⟨-1, true, rfl, rfl, .inl ⟨rfl, hD⟩, trivial⟩
                        · exact ⟨k, true, rfl, rfl, .inr ⟨k, rfl, h1, h2⟩, trivial⟩
                      case measure =>
                        rcases HN3.out with ⟨rfl, hD⟩ | ⟨k, rfl, h1, h2, h3⟩ <;> simp [intOf] <;> omega
                    · have he' : ((j : Int) == (u : Int)) = false := by simp; omega
                      have HN2 := HN.out false (by simp [he])
                      have HN3 : Hid ((upj = -1 ∧ false = D) ∨ ∃ k : Nat, upj = (k : Int) ∧ k < i ∧ (false || decide (u ∈ chain T k)) = D ∧ k < j) := HN2
                      clear HN HN2 he
                      go_wp2
                      go_roundw
                      case rel =>
                        rcases HN3.out with ⟨rfl, hD⟩ | ⟨k, rfl, h1, h2, h3⟩
                        · exact ⟨-1, false, rfl, rfl, .inl ⟨rfl, hD⟩, trivial⟩
                        · exact ⟨k, false, rfl, rfl, .inr ⟨k, rfl, h1, h2⟩, trivial⟩
                      case measure =>
                        rcases HN3.out with ⟨rfl, hD⟩ | ⟨k, rfl, h1, h2, h3⟩ <;> simp [intOf] <;> omega
                  · have HN2 := HN.out true (by simp)
                    have HN3 : Hid ((upj = -1 ∧ true = D) ∨ ∃ k : Nat, upj = (k : Int) ∧ k < i ∧ (true || decide (u ∈ chain T k)) = D ∧ k < j) := HN2
                    clear HN HN2
                    go_wp2
                    go_roundw
                    case rel =>
                      rcases HN3.out with ⟨rfl, hD⟩ | ⟨k, rfl, h1, h2, h3⟩
                      · exact ⟨-1, true, rfl, rfl, .inl ⟨rfl, hD⟩, trivial⟩
                      · exact ⟨k, true, rfl, rfl, .inr ⟨k, rfl, h1, h2⟩, trivial⟩
                    case measure =>
                      rcases HN3.out with ⟨rfl, hD⟩ | ⟨k, rfl, h1, h2, h3⟩ <;> simp [intOf] <;> omega
    · have hke : i = T.length := by omega
      subst hke
      have hge : ¬ ((T.length : Int) < (T.length : Int)) := by omega
      have hn : Hid (R = decide ((1 : Int) ≤ (T.length : Int) ∧ (T.length : Int) ≤ 40)) := by show _ = _; rw [HR.out]; exact nds_end T hall.out
      clear hall
      go_wp2_with fail
      refine (l1In_any _ 1 40 _).mono ?_
      rintro e w1 ⟨rfl, rfl⟩
      rw [← hn.out]
      go_wp2
      go_ret
      exact ⟨rfl, hBo⟩

end Go.Proofs.Ytpajdmhakdbkjaa
