/- The model's l10Split and l10Level. -/
import Derived.Test.YtndeikgkncfmbaaDoorToM
namespace Go.Proofs.YtndeikgkncfmbaaDoor
open Go.RowKit Plain Tpc

set_option maxRecDepth 100000 in
set_option maxHeartbeats 4000000 in
theorem l10Split_any (s : ByteArray) (w : World) (hs : s.size ≤ 1048576) :
    Calls Tryd.prog 37 #[.string s, .int .u8 47] w fun e w' => ∃ r, e = .returned r ∧ StRow w' w.heap.size r (spl s) ∧ Below w.heap.size w w' := by
  obtain ⟨i0, hi, hz0, hz1, hz2⟩ := info_parts infoStr
  go_enter Tryd.func37, Tryd.ntmps37
  go_wp2
  go_loopw [5, 6, 7] (fun vo vf vi wr => ∃ (k f : Nat) (L : List ByteArray), k ≤ s.size ∧ f ≤ k ∧ vi = .int .i64 (k : Int) ∧ vf = .int .i64 (f : Int) ∧ Hid (L ++ mspl s f k (s.size - k) = spl s) ∧ Hid (L.length ≤ k) ∧ Hid (StRow wr w.heap.size vo L) ∧ Below w.heap.size w wr)
    (fun _ _ vi _ => s.size - (intOf vi).toNat)
  case atStart => exact ⟨0, 0, [], by omega, by omega, rfl, rfl, by show [] ++ mspl s 0 0 s.size = spl s; exact mspl_spl s, by show (0 : Nat) ≤ 0; omega, World.ownsRow_nil _ _ _ _, Below.refl _ _⟩
  case round =>
    obtain ⟨k, f, L, hk, hfk, rfl, rfl, hL, hLl, hown, hbw⟩ := hrel
    by_cases hlt : k < s.size
    · have hltI : (k : Int) < (s.size : Int) := by omega
      have hb := bt_get s k hlt
      obtain ⟨m, hm⟩ : ∃ m, s.size - k = m + 1 := ⟨s.size - k - 1, by omega⟩
      have HST : Hid (mspl s f k (s.size - k) = if bt s k = 47 then s.extract f k :: mspl s (k + 1) (k + 1) (s.size - (k + 1)) else mspl s f (k + 1) (s.size - (k + 1))) := by
        show _ = _
        rw [hm, mspl, show s.size - (k + 1) = m by omega]
      clear hm
      by_cases hc : bt s k = 47
      · have hc' : (((bt s k : Nat) : Int) == 47) = true := by rw [hc]; rfl
        have HE : Hid ((L ++ [s.extract f k]) ++ mspl s (k + 1) (k + 1) (s.size - (k + 1)) = spl s) := by
          show _ = _
          rw [← hL.out, HST.out, if_pos hc, List.append_assoc]
          rfl
        have hLk : L.length + 1 ≤ 2097152 := by have := hLl.out; omega
        have hown' : wr.ownsRow w.heap.size 9 1 u5 L.length (strs L) := hown.out
        clear hc HST hown
        go_wp2_with (at_builtin; refine wpList_append_own _ rfl _ _ 48 rfl w.heap.size 9 i0 (.string ByteArray.empty) 1 16 Tryd.underlying48 hi hz0 hz1 hz2 rfl (by decide) _ _ _ rfl (hown'.alloc _) ⟨wr.heap.size, 0, none⟩ 1 1 [Value.string (s.extract f k)] rfl rfl ?c1 ?c2 ?c3 ?c4 ?c5 ?_)
        case c1 =>
          intro j u hj
          match j, hj with
          | 0, hj => simp at hj; subst hj; simp [Addr.add]
          | j + 1, hj => simp at hj
        case c2 => intro u hu; simp at hu; subst hu; rfl
        case c3 => unfold maxLen; omega
        case c4 => omega
        case c5 => have := hbw.size; simp; omega
        intro v' w4 hown4 hgrow _
        have hlt9 := hown'.lt
        have hbw4 : Below w.heap.size w w4 := (hbw.alloc hbw.size _).grown hgrow (by have := hbw.size; simp; omega) (fun k hk => (hlt9 k hk).1)
        have hown5 : Hid (StRow w4 w.heap.size v' (L ++ [s.extract f k])) := by
          show StRow _ _ _ _
          unfold StRow strs
          rw [List.map_append, List.length_append, List.length_singleton]
          simpa [strs] using hown4
        clear hgrow hown4 hlt9 hown' hbw
        go_wp2
        go_roundw
        case rel => exact ⟨k + 1, k + 1, L ++ [s.extract f k], by omega, by omega, by go_num, by go_num, HE, by show _ ≤ _; rw [List.length_append, List.length_singleton]; have := hLl.out; omega, hown5, hbw4⟩
        case measure => simp [intOf]; omega
      · have hc' : (((bt s k : Nat) : Int) == 47) = false := by simp; omega
        have HE : Hid (L ++ mspl s f (k + 1) (s.size - (k + 1)) = spl s) := by
          show _ = _
          rw [← hL.out, HST.out, if_neg hc]
        clear hc HST
        go_wp2
        go_roundw
        case rel => exact ⟨k + 1, f, L, by omega, by omega, by go_num, rfl, HE, by show _ ≤ _; have := hLl.out; omega, hown, hbw⟩
        case measure => simp [intOf]; omega
    · have hke : k = s.size := by omega
      have hge : ¬ ((k : Int) < (s.size : Int)) := by omega
      have HE : Hid (L ++ [s.extract f s.size] = spl s) := by
        show _ = _
        rw [← hL.out, show s.size - k = 0 by omega, mspl]
      have hLk : L.length + 1 ≤ 2097152 := by have := hLl.out; omega
      have hfs : f ≤ s.size := by omega
      have hown' : wr.ownsRow w.heap.size 9 1 u5 L.length (strs L) := hown.out
      clear hown hke hL
      go_wp2_with (at_builtin; refine wpList_append_own _ rfl _ _ 48 rfl w.heap.size 9 i0 (.string ByteArray.empty) 1 16 Tryd.underlying48 hi hz0 hz1 hz2 rfl (by decide) _ _ _ rfl (hown'.alloc _) ⟨wr.heap.size, 0, none⟩ 1 1 [Value.string (s.extract f s.size)] rfl rfl ?d1 ?d2 ?d3 ?d4 ?d5 ?_)
      case d2 => rfl
      case d3 => unfold maxLen; omega
      case d4 => omega
      case d5 => have := hbw.size; simp; omega
      intro v' w4 hown4 hgrow _
      have hlt9 := hown'.lt
      have hbw4 : Below w.heap.size w w4 := (hbw.alloc hbw.size _).grown hgrow (by have := hbw.size; simp; omega) (fun k hk => (hlt9 k hk).1)
      have hown5 : Hid (StRow w4 w.heap.size v' (L ++ [s.extract f s.size])) := by
        show StRow _ _ _ _
        unfold StRow strs
        rw [List.map_append, List.length_append, List.length_singleton]
        simpa [strs] using hown4
      clear hgrow hown4 hlt9 hown' hbw
      go_wp2
      go_ret
      exact ⟨_, rfl, by rw [← HE.out]; exact hown5.out, hbw4⟩

theorem okB_cases (b : Nat) : okB b = true ↔ (97 ≤ b ∧ b ≤ 122) ∨ (48 ≤ b ∧ b ≤ 57) := by
  unfold okB
  simp only [Bool.or_eq_true, Bool.and_eq_true, decide_eq_true_eq]

set_option maxRecDepth 100000 in
set_option maxHeartbeats 4000000 in
theorem l10Level_any (s : ByteArray) (w : World) (hs : s.size ≤ 1048576) :
    Calls Tryd.prog 38 #[.string s] w fun e w' => e = .returned (.bool (lv s)) ∧ w' = w := by
  obtain ⟨R, hR⟩ : ∃ R, R = lv s := ⟨_, rfl⟩
  rw [← hR]
  have HR : Hid (R = lv s) := hR
  clear hR
  go_enter Tryd.func38, Tryd.ntmps38
  go_wp2
  go_loopw [3] (fun vi wr => ∃ (k : Nat), k ≤ s.size ∧ vi = .int .i64 (k : Int) ∧ Hid (∀ j, j < k → okB (bt s j) = true) ∧ wr = w)
    (fun vi _ => s.size - (intOf vi).toNat)
  case atStart => exact ⟨0, by omega, rfl, fun j hj => by omega, rfl⟩
  case round =>
    obtain ⟨k, hk, rfl, hall, rfl⟩ := hrel
    by_cases hlt : k < s.size
    · have hltI : (k : Int) < (s.size : Int) := by omega
      have hb := bt_get s k hlt
      obtain ⟨c, hc⟩ : ∃ c, bt s k = c := ⟨_, rfl⟩
      rw [hc] at hb
      have HC : Hid (bt s k = c) := hc
      have hc255 : c < 256 := by rw [← hc]; exact bt_lt s k
      clear hc
      by_cases hok : okB c = true
      · have hall2 : Hid (∀ j, j < k + 1 → okB (bt s j) = true) := fun j hj => by
          by_cases hjk : j = k
          · rw [hjk, HC.out]; exact hok
          · exact hall.out j (by omega)
        rcases (okB_cases c).1 hok with ⟨h1, h2⟩ | ⟨h1, h2⟩
        · have d1 : decide ((97 : Int) ≤ (c : Int)) = true := by simp; omega
          have d2 : decide ((c : Int) ≤ 122) = true := by simp; omega
          clear hok hall h1 h2
          go_wp2
          go_roundw
          case rel => exact ⟨k + 1, by omega, by go_num, hall2, trivial⟩
          case measure => simp [intOf]; omega
        · have d1 : decide ((97 : Int) ≤ (c : Int)) = false := by simp; omega
          have d2 : decide ((48 : Int) ≤ (c : Int)) = true := by simp; omega
          have d3 : decide ((c : Int) ≤ 57) = true := by simp; omega
          clear hok hall h1 h2
          go_wp2
          go_roundw
          case rel => exact ⟨k + 1, by omega, by go_num, hall2, trivial⟩
          case measure => simp [intOf]; omega
      · have hF : Hid (R = false) := HR.out.trans (lv_no hlt (by rw [HC.out]; simpa using hok))
        have hno := fun h => hok ((okB_cases c).2 h)
        clear hok hall
        by_cases h1 : 97 ≤ c
        · have h2 : 122 < c := by
            rcases Nat.lt_or_ge 122 c with h | h
            · exact h
            · exact absurd (.inl ⟨h1, h⟩) hno
          have d1 : decide ((97 : Int) ≤ (c : Int)) = true := by simp; omega
          have d2 : decide ((c : Int) ≤ 122) = false := by simp; omega
          have d3 : decide ((48 : Int) ≤ (c : Int)) = true := by simp; omega
          have d4 : decide ((c : Int) ≤ 57) = false := by simp; omega
          clear h1 h2 hno
          go_wp2
          go_ret
          exact ⟨by rw [hF.out]; rfl, rfl⟩
        · have d1 : decide ((97 : Int) ≤ (c : Int)) = false := by simp; omega
          by_cases h3 : 48 ≤ c
          · have h4 : 57 < c := by
              rcases Nat.lt_or_ge 57 c with h | h
              · exact h
              · exact absurd (.inr ⟨h3, h⟩) hno
            have d3 : decide ((48 : Int) ≤ (c : Int)) = true := by simp; omega
            have d4 : decide ((c : Int) ≤ 57) = false := by simp; omega
            clear h1 h3 h4 hno
            go_wp2
            go_ret
            exact ⟨by rw [hF.out]; rfl, rfl⟩
          · have d3 : decide ((48 : Int) ≤ (c : Int)) = false := by simp; omega
            clear h1 h3 hno
            go_wp2
            go_ret
            exact ⟨by rw [hF.out]; rfl, rfl⟩
    · have hke : k = s.size := by omega
      have hge : ¬ ((k : Int) < (s.size : Int)) := by omega
      have HF : Hid (decide ((1 : Int) ≤ (s.size : Int) ∧ (s.size : Int) ≤ 6) = R) := by
        show _ = _
        rw [HR.out]
        by_cases h : 1 ≤ s.size ∧ s.size ≤ 6
        · rw [lv_yes h.1 h.2 (fun i hi => hall.out i (by omega))]
          simp; omega
        · rw [lv_out h]
          simp; omega
      clear hke hall
      go_wp2_with fail
      refine (l1InT _ _ _ _).mono ?_
      rintro e w1 ⟨rfl, rfl⟩
      rw [HF.out]
      go_wp2
      go_ret
      exact ⟨rfl, rfl⟩

end Go.Proofs.YtndeikgkncfmbaaDoor
