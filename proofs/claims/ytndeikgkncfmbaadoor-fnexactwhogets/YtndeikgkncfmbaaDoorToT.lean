/- The model's GoodTopic and GoodPattern. -/
import Derived.Test.YtndeikgkncfmbaaDoorToS
namespace Go.Proofs.YtndeikgkncfmbaaDoor
open Go.RowKit Plain Tpc

theorem Tpc.splL_each (l x : List UInt8) (h : x ∈ splL l) : x.length ≤ l.length := by
  have h1 := splL_sum l
  have h2 : x.length ≤ ((splL l).map List.length).sum := by
    have : x.length ∈ (splL l).map List.length := List.mem_map_of_mem h
    generalize (splL l).map List.length = q at this
    clear h1 h
    induction q with
    | nil => simp at this
    | cons y ys ih =>
      rw [List.sum_cons]
      rcases List.mem_cons.1 this with h | h
      · omega
      · have := ih h; omega
  have h3 : 0 < (splL l).length := List.length_pos_iff.2 (splL_ne l)
  omega

theorem Tpc.spl_each (s x : ByteArray) (h : x ∈ spl s) : x.size ≤ s.size := by
  have h1 : x.data.toList ∈ splL s.data.toList := by
    rw [← spl_data]
    exact List.mem_map_of_mem h
  have h2 := splL_each _ _ h1
  rw [Array.length_toList, Array.length_toList] at h2
  exact h2

theorem Tpc.lq_size (s : ByteArray) (i : Nat) (h : i < (spl s).length) : (lq (spl s) i).size ≤ s.size := spl_each s _ (lq_mem h)

set_option maxRecDepth 100000 in
set_option maxHeartbeats 4000000 in
theorem specGoodTopic (s : ByteArray) (w : World) (hs : s.size ≤ 1048576) :
    Calls Tryd.prog 11 #[.string s] w fun e w' => e = .returned (.bool (gt s)) ∧ Below w.heap.size w w' := by
  have HSZ : Hid (∀ i, i < (spl s).length → (lq (spl s) i).size ≤ 1048576) := fun i hi => by have := lq_size s i hi; omega
  have HLE : (spl s).length ≤ 1048577 := by have := spl_le s; omega
  have C : Hid (Calls Tryd.prog 37 #[.string s, .int .u8 47] w fun e w' => ∃ r, e = .returned r ∧ StRow w' w.heap.size r (spl s) ∧ Below w.heap.size w w') := l10Split_any s w hs
  obtain ⟨R, hR⟩ : ∃ R, R = gt s := ⟨_, rfl⟩
  rw [← hR]
  unfold gt at hR
  generalize spl s = L at C HSZ hR HLE
  have HR : Hid (R = gtL L) := hR
  clear hR
  go_enter Tryd.func11, Tryd.ntmps11
  go_wp2_with fail
  refine C.out.mono ?_
  rintro e w2 ⟨r, rfl, hrow, hB2⟩
  obtain ⟨ao, cap, rfl, hlc, hcm, hro⟩ := StAt.own hrow
  have hcm' : cap ≤ 9223372036854775807 := by unfold maxLen at hcm; omega
  have HROW : Hid (∀ i, i < L.length → ∃ g o, ao = some ⟨g, o, none⟩ ∧ g < w2.heap.size ∧ w2.cell? ⟨g, o + i, none⟩ = some (.string (lq L i))) := hro
  clear hro hrow C
  go_wp2
  go_loopw [10] (fun vi wr => ∃ (k : Nat), k ≤ L.length ∧ vi = .int .i64 (k : Int) ∧ Hid (∀ j, j < k → lv (lq L j) = true) ∧ wr = w2)
    (fun vi _ => L.length - (intOf vi).toNat)
  case atStart => exact ⟨0, by omega, rfl, fun j hj => by omega, rfl⟩
  case round =>
    obtain ⟨k, hk, rfl, hall, rfl⟩ := hrel
    by_cases hlt : k < L.length
    · have hltI : (k : Int) < (L.length : Int) := by omega
      obtain ⟨g, o, rfl, hg, c⟩ := HROW.out k hlt
      have HS9 := HSZ.out k hlt
      obtain ⟨x, hx⟩ : ∃ x, lq L k = x := ⟨_, rfl⟩
      rw [hx] at c HS9
      have HX : Hid (lq L k = x) := hx
      clear hx
      go_wp2_with fail
      refine (l10Level_any x _ HS9).mono ?_
      rintro e w1 ⟨rfl, rfl⟩
      obtain ⟨b, hb⟩ : ∃ b, lv x = b := ⟨_, rfl⟩
      have HB : Hid (lv x = b) := hb
      rw [hb]
      clear hb
      cases b with
      | false =>
        have hF : Hid (R = false) := HR.out.trans (gtL_no hlt (by rw [HX.out]; exact HB.out))
        clear hall
        go_wp2
        go_ret
        exact ⟨by rw [hF.out]; rfl, hB2⟩
      | true =>
        have hall2 : Hid (∀ j, j < k + 1 → lv (lq L j) = true) := fun j hj => by
          by_cases hjk : j = k
          · rw [hjk, HX.out]; exact HB.out
          · exact hall.out j (by omega)
        clear hall
        go_wp2
        go_roundw
        case rel => exact ⟨k + 1, by omega, by go_num, hall2, trivial⟩
        case measure => simp [intOf]; omega
    · have hke : k = L.length := by omega
      have hge : ¬ ((k : Int) < (L.length : Int)) := by omega
      have hF : Hid (R = decide (L.length ≤ 6)) := HR.out.trans (gtL_end (fun i hi => hall.out i (by omega)))
      clear hke hall
      by_cases h6 : L.length ≤ 6
      · have d : decide ((L.length : Int) ≤ 6) = true := by simp; omega
        have hT : Hid (R = true) := by show _ = _; rw [hF.out]; simpa using h6
        clear h6
        go_wp2
        go_ret
        exact ⟨by rw [hT.out]; rfl, hB2⟩
      · have d : decide ((L.length : Int) ≤ 6) = false := by simp; omega
        have hT : Hid (R = false) := by show _ = _; rw [hF.out]; simpa using h6
        clear h6
        go_wp2
        go_ret
        exact ⟨by rw [hT.out]; rfl, hB2⟩

set_option maxRecDepth 100000 in
set_option maxHeartbeats 4000000 in
theorem specGoodPattern (s : ByteArray) (w : World) (hs : s.size ≤ 1048576) :
    Calls Tryd.prog 13 #[.string s] w fun e w' => e = .returned (.bool (gp s)) ∧ Below w.heap.size w w' := by
  have HSZ : Hid (∀ i, i < (spl s).length → (lq (spl s) i).size ≤ 1048576) := fun i hi => by have := lq_size s i hi; omega
  have HLE : (spl s).length ≤ 1048577 := by have := spl_le s; omega
  have C : Hid (Calls Tryd.prog 37 #[.string s, .int .u8 47] w fun e w' => ∃ r, e = .returned r ∧ StRow w' w.heap.size r (spl s) ∧ Below w.heap.size w w') := l10Split_any s w hs
  obtain ⟨R, hR⟩ : ∃ R, R = gp s := ⟨_, rfl⟩
  rw [← hR]
  unfold gp at hR
  generalize spl s = L at C HSZ hR HLE
  have HR : Hid (R = gpL L) := hR
  clear hR
  go_enter Tryd.func13, Tryd.ntmps13
  go_wp2_with fail
  refine C.out.mono ?_
  rintro e w2 ⟨r, rfl, hrow, hB2⟩
  obtain ⟨ao, cap, rfl, hlc, hcm, hro⟩ := StAt.own hrow
  have hcm' : cap ≤ 9223372036854775807 := by unfold maxLen at hcm; omega
  have HROW : Hid (∀ i, i < L.length → ∃ g o, ao = some ⟨g, o, none⟩ ∧ g < w2.heap.size ∧ w2.cell? ⟨g, o + i, none⟩ = some (.string (lq L i))) := hro
  clear hro hrow C
  go_wp2
  go_loopw [10] (fun vi wr => ∃ (k : Nat), k ≤ L.length ∧ vi = .int .i64 (k : Int) ∧ Hid (∀ j, j < k → okP L j = true) ∧ wr = w2)
    (fun vi _ => L.length - (intOf vi).toNat)
  case atStart => exact ⟨0, by omega, rfl, fun j hj => by omega, rfl⟩
  case round =>
    obtain ⟨k, hk, rfl, hall, rfl⟩ := hrel
    by_cases hlt : k < L.length
    · have hltI : (k : Int) < (L.length : Int) := by omega
      obtain ⟨g, o, rfl, hg, c⟩ := HROW.out k hlt
      have HS9 := HSZ.out k hlt
      obtain ⟨x, hx⟩ : ∃ x, lq L k = x := ⟨_, rfl⟩
      rw [hx] at c HS9
      have HX : Hid (lq L k = x) := hx
      clear hx
      have HOK : Hid (okP L k = (lv x || isP x || (isH x && decide (k + 1 = L.length)))) := by show _ = _; unfold okP; rw [HX.out]
      have hno : Hid (okP L k = false → R = false) := fun h => HR.out.trans (gpL_no hlt h)
      have hyes : Hid (okP L k = true → ∀ j, j < k + 1 → okP L j = true) := fun h j hj => by
        by_cases hjk : j = k
        · rw [hjk]; exact h
        · exact hall.out j (by omega)
      clear hall
      go_wp2_with fail
      refine (l10Level_any x _ HS9).mono ?_
      rintro e w1 ⟨rfl, rfl⟩
      obtain ⟨b, hb⟩ : ∃ b, lv x = b := ⟨_, rfl⟩
      have HB : Hid (lv x = b) := hb
      rw [hb]
      clear hb
      cases b with
      | true =>
        have hall2 : Hid (∀ j, j < k + 1 → okP L j = true) := hyes.out (by rw [HOK.out, HB.out]; rfl)
        clear hyes hno
        go_wp2
        go_roundw
        case rel => exact ⟨k + 1, by omega, by go_num, hall2, trivial⟩
        case measure => simp [intOf]; omega
      | false =>
        rcases hp : isP x with _ | _
        · rcases hh : isH x with _ | _
          · have hF : Hid (R = false) := hno.out (by rw [HOK.out, HB.out, hp, hh]; rfl)
            have ep : (x.toList == [43]) = false := hp
            have eh : (x.toList == [35]) = false := hh
            clear hp hh hyes hno
            go_wp2
            go_ret
            exact ⟨by rw [hF.out]; rfl, hB2⟩
          · have ep : (x.toList == [43]) = false := hp
            have eh : (x.toList == [35]) = true := hh
            by_cases hl : k + 1 = L.length
            · have d : decide ((k : Int) < (L.length : Int) - 1) = false := by simp; omega
              have hall2 : Hid (∀ j, j < k + 1 → okP L j = true) := hyes.out (by rw [HOK.out, HB.out, hp, hh]; simpa using hl)
              clear hp hh hyes hno hl
              go_wp2
              go_roundw
              case rel => exact ⟨k + 1, by omega, by go_num, hall2, trivial⟩
              case measure => simp [intOf]; omega
            · have d : decide ((k : Int) < (L.length : Int) - 1) = true := by simp; omega
              have hF : Hid (R = false) := hno.out (by rw [HOK.out, HB.out, hp, hh]; simpa using hl)
              clear hp hh hyes hno hl
              go_wp2
              go_ret
              exact ⟨by rw [hF.out]; rfl, hB2⟩
        · have ep : (x.toList == [43]) = true := hp
          have hall2 : Hid (∀ j, j < k + 1 → okP L j = true) := hyes.out (by rw [HOK.out, HB.out, hp]; rfl)
          clear hp hyes hno
          go_wp2
          go_roundw
          case rel => exact ⟨k + 1, by omega, by go_num, hall2, trivial⟩
          case measure => simp [intOf]; omega
    · have hke : k = L.length := by omega
      have hge : ¬ ((k : Int) < (L.length : Int)) := by omega
      have hF : Hid (R = decide (L.length ≤ 6)) := HR.out.trans (gpL_end (fun i hi => hall.out i (by omega)))
      clear hke hall
      by_cases h6 : L.length ≤ 6
      · have d : decide ((L.length : Int) ≤ 6) = true := by simp; omega
        have hT : Hid (R = true) := by show _ = _; rw [hF.out]; simpa using h6
        clear h6
        go_wp2
        go_ret
        exact ⟨by rw [hT.out]; rfl, hB2⟩
      · have d : decide ((L.length : Int) ≤ 6) = false := by simp; omega
        have hT : Hid (R = false) := by show _ = _; rw [hF.out]; simpa using h6
        clear h6
        go_wp2
        go_ret
        exact ⟨by rw [hT.out]; rfl, hB2⟩

end Go.Proofs.YtndeikgkncfmbaaDoor
