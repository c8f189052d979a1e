/- The program's VarsOf: is a cell among cells. -/
import Derived.Test.YtlmhjkcollohnaaTmC
import Derived.Test.YtlmhjkcollohnaaVrA
import Derived.Test.YtlmhjkcollohnaaGd
namespace Go.Proofs.Ytlmhjkcollohnaa
open Go.RowKit Plain Sch Trm

attribute [local go_sem ↓] eqlC

def OVars (w w' : World) (e : Ending) (R : List Nat × Bool) : Prop := ∃ r, e = .returned (.tuple #[r, .bool R.2]) ∧ w'.ownsRow w.heap.size 3 1 r R.1.length (ints R.1) ∧ Below w.heap.size w w'

theorem own_lowerV {w : World} {B B' e size n : Nat} {v : Value} {xs : List Value} (h : w.ownsRow B e size v n xs) (hB : B' ≤ B) : w.ownsRow B' e size v n xs := by
  refine ⟨h.1, ?_⟩
  rcases h.2 with hn | ⟨g, cap, cur, hv, hg, rest⟩
  · exact .inl hn
  · exact .inr ⟨g, cap, cur, hv, by omega, rest⟩

/-- is the cell among these -/
def hasC (T : List Ce) (c : Ce) : Bool := T.any fun d => decide (c = d)

set_option maxRecDepth 100000 in
set_option maxHeartbeats 4000000 in
theorem indexC_any (T : List Ce) (c : Ce) (v : Value) (w : World) (hT : CesAt w w.heap.size v T) (hl : T.length ≤ 2097152) :
    Calls Try.prog 44 #[v, .agg #[.int .i64 c.var, .string c.name, .int .i64 c.many]] w fun e w' => (∃ r : Int, e = .returned (.int .i64 r) ∧ (decide (0 ≤ r) = hasC T c) ∧ -1 ≤ r ∧ r ≤ 2097152) ∧ Below w.heap.size w w' := by
  obtain ⟨ao, cap, rfl, hlc, hcm, hrow, _⟩ := hT
  have hcm' : cap ≤ 9223372036854775807 := by unfold maxLen at hcm; omega
  have HROW : Hid (∀ i, i < T.length → ∃ g o, ao = some ⟨g, o, none⟩ ∧ g < w.heap.size ∧ CeIn w g (o + i * 3) (ce T i)) := hrow
  obtain ⟨R, hR⟩ : ∃ R, R = hasC T c := ⟨_, rfl⟩
  rw [← hR]
  have HR : Hid (R = hasC T c) := hR
  clear hR hrow
  obtain ⟨cv, cn, cm⟩ := c
  go_enter Try.func44, Try.ntmps44
  go_wp2
  go_loopw [8] (fun vi wr => ∃ k : Nat, k ≤ T.length ∧ vi = .int .i64 (k : Int) ∧ Hid (∀ j, j < k → ¬ (⟨cv, cn, cm⟩ : Ce) = ce T j) ∧ Below (w.heap.size + 1) (w.alloc (.cells #[.int .i64 cv, .string cn, .int .i64 cm] 53)) wr)
    (fun vi _ => T.length - (intOf vi).toNat)
  case atStart => exact ⟨0, by omega, rfl, fun j hj => by omega, Below.refl _ _⟩
  case round =>
    obtain ⟨k, hk, rfl, hall, hbw⟩ := hrel
    have hB0 : Below w.heap.size w wr := ((Below.refl _ w).alloc (Nat.le_refl _) _).trans (hbw.mono (by omega))
    have hsz : w.heap.size < wr.heap.size := by have := hbw.size; simp at this; omega
    have y0 : wr.cell? ⟨w.heap.size, 0, none⟩ = some (.int .i64 cv) := (hbw.cell (p := ⟨w.heap.size, 0, none⟩) (by simp)).trans (by simp)
    have y1 : wr.cell? ⟨w.heap.size, 1, none⟩ = some (.string cn) := (hbw.cell (p := ⟨w.heap.size, 1, none⟩) (by simp)).trans (by simp)
    have y2 : wr.cell? ⟨w.heap.size, 2, none⟩ = some (.int .i64 cm) := (hbw.cell (p := ⟨w.heap.size, 2, none⟩) (by simp)).trans (by simp)
    by_cases hlt : k < T.length
    · have hltI : (k : Int) < (T.length : Int) := by omega
      have hk0 : (0 : Int) ≤ (k : Int) := by omega
      obtain ⟨g, o, rfl, hg, hci⟩ := HROW.out k hlt
      have hci := hci.below hB0 hg
      have hmem : Hid (ce T k ∈ T) := by
        show _ ∈ _
        have : ce T k = T[k] := by simp [ce, List.getD, hlt]
        rw [this]
        exact List.getElem_mem hlt
      obtain ⟨d, hd⟩ : ∃ d, d = ce T k := ⟨_, rfl⟩
      have HD : Hid (d = ce T k) := hd
      rw [← hd] at hci hmem
      clear hd
      obtain ⟨c0, c1, c2⟩ := hci
      have hq := ceq_eq ⟨cv, cn, cm⟩ d
      by_cases hxn : (⟨cv, cn, cm⟩ : Ce) = d
      · have hn : Hid (R = true) := HR.out.trans (by unfold hasC; rw [List.any_eq_true]; exact ⟨d, hmem.out, by simpa using hxn⟩)
        have hq' : ceq cv cn cm d.var d.name d.many = true := by rw [hq]; simpa using hxn
        clear hall hxn hq
        go_wp2_with fail
        go_quiet (fail)
        go_wp2
        go_ret
        exact ⟨⟨(k : Int), rfl, by rw [hn.out]; simp, by omega, by omega⟩, below_drewN hB0⟩
      · have hq' : ceq cv cn cm d.var d.name d.many = false := by rw [hq]; simpa using hxn
        have hall2 : Hid (∀ j, j < k + 1 → ¬ (⟨cv, cn, cm⟩ : Ce) = ce T j) := fun j hj => by
          by_cases hjk : j = k
          · rw [hjk, ← HD.out]; exact hxn
          · exact hall.out j (by omega)
        clear hall hxn hq
        go_wp2_with fail
        go_quiet (fail)
        go_wp2
        go_roundw
        case rel => exact ⟨k + 1, by omega, by go_num, hall2, below_drewN hbw⟩
        case measure => simp [intOf]; omega
    · have hke : k = T.length := by omega
      have hge : ¬ ((k : Int) < (T.length : Int)) := by omega
      have hn : Hid (R = false) := HR.out.trans (by
        unfold hasC
        rw [List.any_eq_false]
        intro x hm
        obtain ⟨j, hj, he⟩ := List.getElem_of_mem hm
        have h1 := hall.out j (by omega)
        have : ce T j = T[j] := by simp [ce, List.getD, hj]
        rw [this, he] at h1
        simpa using h1)
      clear hall hke
      go_wp2
      go_ret
      exact ⟨⟨-1, rfl, by rw [hn.out]; rfl, by omega, by omega⟩, hB0⟩

set_option maxRecDepth 100000 in
set_option maxHeartbeats 1000000 in
theorem containsC_any (T : List Ce) (c : Ce) (v : Value) (w : World) (hT : CesAt w w.heap.size v T) (hl : T.length ≤ 2097152) :
    Calls Try.prog 29 #[v, .agg #[.int .i64 c.var, .string c.name, .int .i64 c.many]] w fun e w' => e = .returned (.bool (hasC T c)) ∧ Below w.heap.size w w' := by
  obtain ⟨R, hR⟩ : ∃ R, R = hasC T c := ⟨_, rfl⟩
  have hB1 : Below w.heap.size w (w.alloc (.cells #[.int .i64 c.var, .string c.name, .int .i64 c.many] 53)) := (Below.refl _ w).alloc (Nat.le_refl _) _
  have C : Hid (Calls Try.prog 44 #[v, .agg #[.int .i64 c.var, .string c.name, .int .i64 c.many]] (w.alloc (.cells #[.int .i64 c.var, .string c.name, .int .i64 c.many] 53)) fun e w' => (∃ r : Int, e = .returned (.int .i64 r) ∧ (decide (0 ≤ r) = hasC T c) ∧ -1 ≤ r ∧ r ≤ 2097152) ∧ Below (w.alloc (.cells #[.int .i64 c.var, .string c.name, .int .i64 c.many] 53)).heap.size (w.alloc (.cells #[.int .i64 c.var, .string c.name, .int .i64 c.many] 53)) w') := indexC_any T c v _ (hT.below hB1) hl
  obtain ⟨ao, cap, rfl, _⟩ := hT
  rw [← hR] at C ⊢
  clear hR
  obtain ⟨cv, cn, cm⟩ := c
  go_enter Try.func29, Try.ntmps29
  go_wp2_with fail
  refine C.out.mono ?_
  rintro e w1 ⟨⟨r, rfl, hr, h1, h2⟩, hb1⟩
  have hB2 : Below w.heap.size w w1 := hB1.trans (hb1.mono (by simp))
  have HRR : Hid (decide (0 ≤ r) = R) := hr
  clear hr
  by_cases h0 : 0 ≤ r
  · have hn : Hid (R = true) := HRR.out.symm.trans (by simpa using h0)
    go_wp2
    go_ret
    exact ⟨by rw [hn.out]; rfl, hB2⟩
  · have h0' : decide (0 ≤ r) = false := by simpa using h0
    have hn : Hid (R = false) := HRR.out.symm.trans h0'
    clear h0
    go_wp2
    go_ret
    exact ⟨by rw [hn.out]; rfl, hB2⟩

theorem hasC_var {T : List Ce} (h : gt T = true) (k : Nat) (hk : 1 ≤ k) : hasC T ⟨(k : Int), ⟨#[]⟩, 0⟩ = hasV T k := by
  unfold hasC hasV
  have hok := gt_ok h
  rw [Bool.eq_iff_iff, List.any_eq_true, List.any_eq_true]
  constructor
  · rintro ⟨c, hc, e⟩
    refine ⟨c, hc, ?_⟩
    simp at e
    rw [← e]
    simp
  · rintro ⟨c, hc, e⟩
    refine ⟨c, hc, ?_⟩
    simp at e
    have := (ok_var_iff (hok c hc) k hk).2 e
    simp [this]

/-- the numbers 1 to k that are so -/
def pickTo (p : Nat → Bool) (k : Nat) : List Nat := ((List.range k).map (· + 1)).filter p

theorem pickTo_step (p : Nat → Bool) (k : Nat) : pickTo p (k + 1) = pickTo p k ++ if p (k + 1) then [k + 1] else [] := by
  unfold pickTo
  rw [List.range_succ, List.map_append, List.filter_append]
  cases h : p (k + 1) <;> simp [h]

theorem pickTo_len (p : Nat → Bool) (k : Nat) : (pickTo p k).length ≤ k := by
  unfold pickTo
  refine Nat.le_trans (List.length_filter_le _ _) ?_
  simp

theorem pickTo_end (p : Nat → Bool) : pickTo p 6 = pick6 p := rfl

set_option maxRecDepth 100000 in
set_option maxHeartbeats 8000000 in
theorem implVars (T : List Ce) (v : Value) (w : World) (hT : CesAt w w.heap.size v T) :
    Calls Try.prog 13 #[.agg #[v]] w fun e w' => OVars w w' e (vof T) := by
  have HT : Hid (CesAt w w.heap.size v T) := hT
  obtain ⟨ao, cap, rfl, hlc, hcm, _⟩ := hT
  have hB1 : Below w.heap.size w (w.alloc (.cells #[.slice ao T.length cap] 29)) := (Below.refl _ w).alloc (Nat.le_refl _) _
  obtain ⟨i0, hi, hz0, hz1, hz2⟩ := info_parts Try.infoInt
  by_cases hg : gt T = true
  · have h30 := (gt_tre hg).1
    have HV : Hid (vof T = (pick6 (hasV T), true)) := vof_yes hg
    have HC : Hid (∀ k : Nat, 1 ≤ k → hasC T ⟨(k : Int), ⟨#[]⟩, 0⟩ = hasV T k) := hasC_var hg
    obtain ⟨R, hR⟩ : ∃ R, R = vof T := ⟨_, rfl⟩
    rw [← hR] at HV ⊢
    clear hR
    have CC : Hid (∀ (W : World) (k : Nat), 1 ≤ k → CesAt W W.heap.size (.slice ao T.length cap) T → Calls Try.prog 29 #[.slice ao T.length cap, .agg #[.int .i64 (k : Int), .string ⟨#[]⟩, .int .i64 0]] W fun e w' => e = .returned (.bool (hasV T k)) ∧ Below W.heap.size W w') := fun W k hk h => by
      have := containsC_any T ⟨(k : Int), ⟨#[]⟩, 0⟩ _ W h (by omega)
      rw [HC.out k hk] at this
      exact this
    go_enter Try.func13, Try.ntmps13
    go_wp2_with fail
    refine (implGoodT T _ _ (HT.out.below hB1)).mono ?_
    rintro e w2 ⟨rfl, hb2⟩
    rw [hg]
    have hB2 : Below w.heap.size w w2 := hB1.trans (hb2.mono (by simp))
    have x2 : w2.cell? ⟨w.heap.size, 0, none⟩ = some (.slice ao T.length cap) := (hb2.cell (p := ⟨w.heap.size, 0, none⟩) (by simp)).trans (by simp)
    have hs2 : w.heap.size < w2.heap.size := by have := hb2.size; simp at this; omega
    clear hb2 hg HC
    go_wp2
    go_loopw [4, 5] (fun vl vk wr => ∃ k : Nat, k ≤ 6 ∧ vk = .int .i64 ((k + 1 : Nat) : Int) ∧ wr.ownsRow w2.heap.size 3 1 vl (pickTo (hasV T) k).length (ints (pickTo (hasV T) k)) ∧ Below w2.heap.size w2 wr)
      (fun _ vk _ => 7 - (intOf vk).toNat)
    case atStart => exact ⟨0, by omega, rfl, World.ownsRow_nil _ _ _ _, Below.refl _ _⟩
    case round =>
      obtain ⟨k, hk, rfl, hown, hbw⟩ := hrel
      have hBr : Below w.heap.size w wr := hB2.trans (hbw.mono (by omega))
      have x3 := (hbw.cell (p := ⟨w.heap.size, 0, none⟩) hs2).trans x2
      have hsr : w.heap.size < wr.heap.size := by have := hbw.size; omega
      have hsr2 := hbw.size
      have hkl := pickTo_len (hasV T) k
      by_cases hlt : k < 6
      · have hlt' : ((k : Int) + 1) ≤ 6 := by omega
        have HK : Hid (pickTo (hasV T) (k + 1) = pickTo (hasV T) k ++ if hasV T (k + 1) then [k + 1] else []) := pickTo_step _ k
        have CV : Hid (∀ W : World, Calls Try.prog 30 #[.int .i64 ((k : Int) + 1)] W fun e w' => e = .returned (.agg #[.int .i64 ((k : Int) + 1), .string ⟨#[]⟩, .int .i64 0]) ∧ Below W.heap.size W w') := fun W => variable_any _ W
        have CC2 : Hid (∀ W : World, Below w.heap.size w W → Calls Try.prog 29 #[.slice ao T.length cap, .agg #[.int .i64 ((k : Int) + 1), .string ⟨#[]⟩, .int .i64 0]] W fun e w' => e = .returned (.bool (hasV T (k + 1))) ∧ Below W.heap.size W w') := fun W h => CC.out W (k + 1) (by omega) (HT.out.below h)
        generalize hasV T (k + 1) = q at HK CC2
        generalize pickTo (hasV T) k = ks at hown hkl HK
        have hBrd : Hid (Below w.heap.size w wr.drew) := hBr.drew
        go_wp2_with fail
        go_region_with (first
          | (go_at_call 29; refine (CC2.out _ hB4).mono ?_; rintro e w5 ⟨rfl, hb5⟩; have hB5 : Below wr.heap.size wr w5 := hb4.trans (hb5.mono hb4.size))
          | (go_at_call 30; refine (CV.out _).mono ?_; rintro e w4 ⟨rfl, hb4⟩; have hb4 : Below wr.heap.size wr w4 := ⟨hb4.os, hb4.tape, hb4.output, hb4.size, hb4.block⟩; have hB4 : Below w.heap.size w w4 := hBr.trans (hb4.mono hBr.size); have x4 := (hb4.cell (p := ⟨w.heap.size, 0, none⟩) hsr).trans x3))
        all_goals
          have hown5 := own_below hown hB5
          have hbw5 := hbw.trans (hB5.mono hbw.size)
          have hs5 := hbw5.size
          clear hown hbw hB5 hb5 hb4 hB4 hBr x3 x4
          cases q with
          | true =>
            rw [if_pos rfl] at HK
            go_wp2_with (at_builtin; refine wpList_append_own _ rfl _ _ 33 rfl w2.heap.size 3 i0 (.int .i64 0) 1 8 Try.underlying33 hi hz0 hz1 hz2 rfl (by decide) _ _ _ rfl (hown5.alloc _) ⟨w5.heap.size, 0, none⟩ 1 1 [Value.int .i64 ((k : Int) + 1)] rfl rfl ?c1 ?c2 ?c3 ?c4 ?c5 ?_)
            case c1 =>
              intro j u hj
              match j, hj with
              | 0, hj => simp at hj; subst hj; simp [Addr.add]
              | j + 1, hj => simp at hj
            case c2 => intro u hu; simp at hu; subst hu; rfl
            case c3 => unfold maxLen; omega
            case c4 => omega
            case c5 => simp; omega
            intro v' w6 hown' hgrow _
            have hlt9 := hown5.lt
            have hbw6 := (hbw5.alloc (show w2.heap.size ≤ w5.heap.size by omega) (.cells #[.int .i64 ((k : Int) + 1)] 3)).grown hgrow (by simp; omega) (fun k hk => (hlt9 k hk).1)
            have hown6 : w6.ownsRow w2.heap.size 3 1 v' (ks ++ [k + 1]).length (ints (ks ++ [k + 1])) := by
              unfold ints
              rw [List.map_append, List.length_append, List.length_singleton]
              simpa [ints] using hown'
            clear hgrow hown' hlt9 hown5 hbw5
            go_wp2
            go_roundw
            case rel => exact ⟨k + 1, by omega, by go_num, by rw [HK.out]; exact hown6, hbw6⟩
            case measure => simp [intOf]; omega
          | false =>
            rw [if_neg (by simp), List.append_nil] at HK
            go_wp2
            go_roundw
            case rel => exact ⟨k + 1, by omega, by go_num, by rw [HK.out]; exact hown5, hbw5⟩
            case measure => simp [intOf]; omega
      · have hke : k = 6 := by omega
        subst hke
        rw [pickTo_end] at hown
        have hge : ¬ (((6 : Nat) : Int) + 1 ≤ 6) := by omega
        go_wp2
        go_ret2
        rw [HV.out]
        exact ⟨_, rfl, own_lowerV hown (by omega), hBr⟩
  · have hg' : gt T = false := by simpa using hg
    have HV : Hid (vof T = ([], false)) := vof_no hg'
    obtain ⟨R, hR⟩ : ∃ R, R = vof T := ⟨_, rfl⟩
    rw [← hR] at HV ⊢
    clear hR
    go_enter Try.func13, Try.ntmps13
    go_wp2_with fail
    refine (implGoodT T _ _ (HT.out.below hB1)).mono ?_
    rintro e w2 ⟨rfl, hb2⟩
    rw [hg']
    have hB2 : Below w.heap.size w w2 := hB1.trans (hb2.mono (by simp))
    clear hb2 hg
    go_wp2
    go_ret2
    rw [HV.out]
    exact ⟨_, rfl, World.ownsRow_nil _ _ _ _, hB2⟩

end Go.Proofs.Ytlmhjkcollohnaa
