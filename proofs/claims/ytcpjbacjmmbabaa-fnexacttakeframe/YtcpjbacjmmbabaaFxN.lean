/- Good readers: the model's; copies of texts; a reader that begins. -/
import Derived.Test.YtcpjbacjmmbabaaFxM
import Derived.Test.YtcpjbacjmmbabaaClnA
namespace Go.Proofs.Ytcpjbacjmmbabaa
open Go.RowKit Plain Tpc Frm

theorem gdr_un (q : ByteArray) (L : List ByteArray) (bad : Bool) : gdr ⟨q, L, bad⟩ = (decide (L.length ≤ 40) && (hv 0 60 L && (decide ((unT (ul q)).length = 0) && (decide (unR (ul q) = ul q) && (!unB (ul q) && (!bad || decide (q.size = 0))))))) := by
  unfold gdr
  dsimp only
  cases decide (L.length ≤ 40) with
  | false => simp
  | true =>
    cases hv 0 60 L with
    | false => simp
    | true =>
      rw [Bool.true_and, Bool.true_and, Bool.true_and]
      have hm := mor_un (ul q)
      cases bad with
      | false =>
        rw [if_neg (by simp), hm]
        simp
      | true =>
        rw [if_pos rfl, Bool.not_true, Bool.false_or]
        by_cases h0 : q.size = 0
        · have hu : ul q = [] := List.length_eq_zero_iff.1 (by rw [ul_len]; exact h0)
          obtain ⟨h1, h2, h3⟩ := unT_more (nx_empty h0)
          rw [decide_eq_true h0, h1, h2, h3]
          simp
        · rw [decide_eq_false h0]
          simp

set_option maxRecDepth 100000 in
set_option maxHeartbeats 8000000 in
theorem specGood (r : Rdr) (v : Value) (w : World) (hT : StAt w w.heap.size v r.got) (hN : ∀ i, i < r.got.length → (lq r.got i).size ≤ 9223372036854775807) (hR : r.rest.size ≤ 2000000) :
    Calls Try.prog 28 #[r.val v] w fun e w' => e = .returned (.bool (gdr r)) ∧ Below w.heap.size w w' := by
  obtain ⟨q, L, bad⟩ := r
  unfold Rdr.val
  dsimp only at hT hN hR ⊢
  obtain ⟨ao, cap, rfl, hlc, hcm, hrow⟩ := hT
  have hcm' : cap ≤ 9223372036854775807 := by unfold maxLen at hcm; omega
  have HROW : Hid (∀ i, i < L.length → ∃ g o, ao = some ⟨g, o, none⟩ ∧ g < w.heap.size ∧ w.cell? ⟨g, o + i, none⟩ = some (.string (lq L i))) := hrow
  have HNM : Hid (∀ i, i < L.length → (lq L i).size ≤ 9223372036854775807) := hN
  have hBa : Hid (∀ o, Below w.heap.size w (w.alloc o)) := fun o => (Below.refl _ w).alloc (Nat.le_refl _) o
  have CU : Hid (∀ W, Calls Try.prog 49 #[.string q] W fun e w' => (∃ v, e = .returned (.tuple #[v, .string (tx (unR (ul q))), .bool (unB (ul q))]) ∧ StRow w' W.heap.size v (unT (ul q))) ∧ Below W.heap.size W w') := fun W => l14Unframe_any q W hR
  obtain ⟨M, hM⟩ : ∃ M, M = gdr ⟨q, L, bad⟩ := ⟨_, rfl⟩
  have HM : Hid (M = (decide (L.length ≤ 40) && (hv 0 60 L && (decide ((unT (ul q)).length = 0) && (decide (unR (ul q) = ul q) && (!unB (ul q) && (!bad || decide (q.size = 0)))))))) := by show _ = _; rw [hM, gdr_un]
  rw [← hM]
  have HX : Hid (((tx (unR (ul q))).toList == q.toList) = decide (unR (ul q) = ul q)) := by
    show _ = _
    rw [str_eqB, decide_eq_decide]
    constructor
    · intro e; exact congrArg ul e
    · intro e; exact ul_inj e
  clear hM hrow hN
  generalize unT (ul q) = T at CU HM
  generalize decide (unR (ul q) = ul q) = c3 at HM HX
  generalize tx (unR (ul q)) = R at CU HX
  generalize unB (ul q) = b at CU HM
  go_enter Try.func28, Try.ntmps28
  go_wp2_with fail
  obtain ⟨W0, hW0⟩ : ∃ W, W = w.alloc (.cells #[.string q, .slice ao L.length cap, .bool bad] 33) := ⟨_, rfl⟩
  have y0 : W0.cell? ⟨w.heap.size, 0, none⟩ = some (.string q) := by rw [hW0]; simp
  have y1 : W0.cell? ⟨w.heap.size, 1, none⟩ = some (.slice ao L.length cap) := by rw [hW0]; simp
  have y2 : W0.cell? ⟨w.heap.size, 2, none⟩ = some (.bool bad) := by rw [hW0]; simp
  have hl0 : w.heap.size < W0.heap.size := by rw [hW0]; simp
  have HB0 : Hid (Below w.heap.size w W0) := by rw [hW0]; exact hBa.out _
  rw [← hW0]
  clear hW0 hBa
  go_loopw [11] (fun vi wr => ∃ (i : Nat), i ≤ L.length ∧ vi = .int .i64 (i : Int) ∧ Hid (∀ j, j < i → (0 : Int) ≤ ((lq L j).size : Int) ∧ ((lq L j).size : Int) ≤ 60) ∧ wr = W0)
    (fun vi _ => L.length - (intOf vi).toNat)
  case atStart => exact ⟨0, by omega, rfl, fun j hj => by omega, rfl⟩
  case round =>
    obtain ⟨i, hi, rfl, hall, rfl⟩ := hrel
    by_cases hlt : i < L.length
    · have hltI : (i : Int) < (L.length : Int) := by omega
      obtain ⟨g, o, rfl, hg, c⟩ := HROW.out i hlt
      have c' := (HB0.out.cell (p := ⟨g, o + i, none⟩) hg).trans c
      have hn := HNM.out i hlt
      by_cases h60 : (lq L i).size ≤ 60
      · have h60' : ¬ ((60 : Int) < ((lq L i).size : Int)) := by omega
        have hall2 : Hid (∀ j, j < i + 1 → (0 : Int) ≤ ((lq L j).size : Int) ∧ ((lq L j).size : Int) ≤ 60) := fun j hj => by
          by_cases hji : j = i
          · rw [hji]; omega
          · exact hall.out j (by omega)
        generalize lq L i = s at c' hn h60' h60
        clear hall c
        go_wp2_with fail
        go_roundw
        case rel => exact ⟨i + 1, by omega, by go_num, hall2, trivial⟩
        case measure => simp [intOf]; omega
      · have h60' : ((60 : Int) < ((lq L i).size : Int)) := by omega
        have HF : Hid (M = false) := by
          show _ = _
          rw [HM.out, hv_no hlt (fun h => by omega)]
          simp
        generalize lq L i = s at c' hn h60' h60
        clear hall c HM
        go_wp2_with fail
        go_ret
        exact ⟨by rw [HF.out]; rfl, HB0.out⟩
    · have hke : i = L.length := by omega
      have hge : ¬ ((i : Int) < (L.length : Int)) := by omega
      have HM2 : Hid (M = (decide (L.length ≤ 40) && (decide (T.length = 0) && (c3 && (!b && (!bad || decide (q.size = 0))))))) := by
        show _ = _
        rw [HM.out, hv_yes (fun j hj => hall.out j (by omega)), Bool.true_and]
      clear hke hall HM HROW HNM
      go_wp2_with fail
      go_at_call 49
      refine (CU.out _).mono ?_
      rintro e w2 ⟨⟨v2, rfl, hr2⟩, hb2⟩
      obtain ⟨a2, c2, rfl⟩ := hr2.slice
      have HB2 : Hid (Below w.heap.size w w2) := HB0.out.trans (hb2.mono (by omega))
      have z0 := (hb2.cell (p := ⟨w.heap.size, 0, none⟩) hl0).trans y0
      have z1 := (hb2.cell (p := ⟨w.heap.size, 1, none⟩) hl0).trans y1
      have z2 := (hb2.cell (p := ⟨w.heap.size, 2, none⟩) hl0).trans y2
      have hl2 : w.heap.size < w2.heap.size := by have := hb2.size; omega
      clear hr2 hb2 y0 y1 y2 CU HB0
      generalize T.length = tn at HM2 ⊢
      have hx := HX.out
      by_cases h40 : L.length ≤ 40
      · have h40' : ((L.length : Int) ≤ 40) := by omega
        have HM3 : Hid (M = (decide (tn = 0) && (c3 && (!b && (!bad || decide (q.size = 0)))))) := by show _ = _; rw [HM2.out, decide_eq_true h40, Bool.true_and]
        clear HM2
        by_cases h0 : tn = 0
        · subst h0
          cases c3 with
          | false =>
            have HF : Hid (M = false) := by show _ = _; rw [HM3.out]; simp
            clear HM3
            go_wp2_with fail
            go_ret
            exact ⟨by rw [HF.out]; rfl, HB2.out⟩
          | true =>
            cases b with
            | true =>
              have HF : Hid (M = false) := by show _ = _; rw [HM3.out]; simp
              clear HM3
              go_wp2_with fail
              go_ret
              exact ⟨by rw [HF.out]; rfl, HB2.out⟩
            | false =>
              cases bad with
              | false =>
                have HF : Hid (M = true) := by show _ = _; rw [HM3.out]; simp
                clear HM3
                go_wp2_with fail
                go_ret
                exact ⟨by rw [HF.out]; rfl, HB2.out⟩
              | true =>
                by_cases hq : q.size = 0
                · have he : q.toList.isEmpty = true := by rw [isEmptyF hq, Lib.toList_data]; rfl
                  have HF : Hid (M = true) := by show _ = _; rw [HM3.out]; simp [hq]
                  clear HM3
                  go_wp2_with fail
                  go_ret
                  exact ⟨by rw [HF.out]; rfl, HB2.out⟩
                · have he : q.toList.isEmpty = false := notEmptyF hq
                  have HF : Hid (M = false) := by show _ = _; rw [HM3.out]; simp [hq]
                  clear HM3
                  go_wp2_with fail
                  go_ret
                  exact ⟨by rw [HF.out]; rfl, HB2.out⟩
        · have h0' : ¬ ((tn : Int) = 0) := by omega
          have HF : Hid (M = false) := by show _ = _; rw [HM3.out, decide_eq_false h0]; rfl
          clear HM3
          go_wp2_with fail
          go_ret
          exact ⟨by rw [HF.out]; rfl, HB2.out⟩
      · have h40' : ¬ ((L.length : Int) ≤ 40) := by omega
        have HF : Hid (M = false) := by show _ = _; rw [HM2.out, decide_eq_false h40]; rfl
        clear HM2
        go_wp2_with fail
        go_ret
        exact ⟨by rw [HF.out]; rfl, HB2.out⟩

end Go.Proofs.Ytcpjbacjmmbabaa
