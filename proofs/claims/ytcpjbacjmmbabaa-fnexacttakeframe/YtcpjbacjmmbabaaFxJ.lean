/- The model's reading of a stream. -/
import Derived.Test.YtcpjbacjmmbabaaFxI
namespace Go.Proofs.Ytcpjbacjmmbabaa
open Go.RowKit Plain Tpc Frm

theorem isEmptyF {p : ByteArray} (h : p.size = 0) : p = ⟨#[]⟩ := by
  apply ByteArray.ext
  exact Array.eq_empty_of_size_eq_zero h

theorem notEmptyF {p : ByteArray} (h : p.size ≠ 0) : p.toList.isEmpty = false := by
  rw [Lib.toList_data]
  cases hx : p.data.toList with
  | nil =>
    exfalso
    apply h
    show p.data.size = 0
    rw [← Array.length_toList, hx]
    rfl
  | cons a l => rfl

set_option maxRecDepth 100000 in
set_option maxHeartbeats 4000000 in
theorem l14Unframe_any (s : ByteArray) (w : World) (hs : s.size ≤ 2000000) :
    Calls Try.prog 49 #[.string s] w fun e w' => (∃ v, e = .returned (.tuple #[v, .string (tx (unR (ul s))), .bool (unB (ul s))]) ∧ StRow w' w.heap.size v (unT (ul s))) ∧ Below w.heap.size w w' := by
  obtain ⟨i0, hi, hz0, hz1, hz2⟩ := info_parts infoStr
  obtain ⟨RT, hRT⟩ : ∃ R, R = unT (ul s) := ⟨_, rfl⟩
  obtain ⟨RR, hRR⟩ : ∃ R, R = tx (unR (ul s)) := ⟨_, rfl⟩
  obtain ⟨RB, hRB⟩ : ∃ R, R = unB (ul s) := ⟨_, rfl⟩
  have HR : Hid (RT = unT (ul s) ∧ RR = tx (unR (ul s)) ∧ RB = unB (ul s)) := ⟨hRT, hRR, hRB⟩
  rw [← hRT, ← hRR, ← hRB]
  clear hRT hRR hRB
  go_enter Try.func49, Try.ntmps49
  go_wp2
  go_loopw [0, 5] (fun vq vo wr => ∃ (q : ByteArray) (L : List ByteArray), vq = .string q ∧ Hid (StRow wr w.heap.size vo L) ∧ q.size + L.length ≤ 2000000 ∧ Hid (RT = L ++ unT (ul q) ∧ RR = tx (unR (ul q)) ∧ RB = unB (ul q)) ∧ Below w.heap.size w wr)
    (fun vq _ _ => match vq with | .string q => q.size | _ => 0)
  case atStart => exact ⟨s, [], rfl, ⟨rfl, .inl ⟨rfl, rfl⟩⟩, by simp; omega, HR.out, Below.refl _ _⟩
  case round =>
    obtain ⟨q, L, rfl, hown, hsz, hq, hbw⟩ := hrel
    clear HR
    obtain ⟨ar, cr, rfl⟩ := hown.out.slice
    have hs9 := hbw.size
    by_cases h0 : q.size = 0
    · have he2 : q.toList.isEmpty = true := by
        rw [isEmptyF h0, Lib.toList_data]; rfl
      have HF : Hid (RT = L ∧ RR = ⟨#[]⟩ ∧ RB = false) := by
        obtain ⟨a, b, c⟩ := hq.out
        obtain ⟨a', b', c'⟩ := unT_more (nx_empty h0)
        rw [a', List.append_nil] at a
        rw [b', isEmptyF h0] at b
        exact ⟨a, b, c.trans c'⟩
      clear hq
      go_wp2
      go_ret3
      exact ⟨⟨_, by rw [HF.out.2.1, HF.out.2.2]; rfl, by rw [HF.out.1]; exact hown.out⟩, hbw⟩
    · have he2 : q.toList.isEmpty = false := notEmptyF h0
      have hq0 : 0 < q.size := by omega
      have hqI : (0 : Int) < (q.size : Int) := by omega
      have ix0 : (q[0]'hq0).toNat = bt q 0 := bt_get q 0 hq0
      have hb0 := bt_lt q 0
      by_cases hA : bt q 0 = 126
      · by_cases h1 : q.size = 1
        · have HF : Hid (RT = L ∧ RR = q ∧ RB = false) := by
            obtain ⟨a, b, c⟩ := hq.out
            obtain ⟨a', b', c'⟩ := unT_more (nx_more1 h1 hA)
            rw [a', List.append_nil] at a
            rw [b', tx_ul] at b
            exact ⟨a, b, c.trans c'⟩
          have h1I : (q.size : Int) = 1 := by omega
          rw [hA] at ix0
          have k1 : ¬ (1 : Int) < (q.size : Int) := by omega
          have k2 : (q.size : Int) < 2 := by omega
          clear hq h1 hA h0 hb0
          go_wp2_with fail
          go_ret3
          exact ⟨⟨_, by rw [HF.out.2.1, HF.out.2.2]; rfl, by rw [HF.out.1]; exact hown.out⟩, hbw⟩
        · have h2 : 2 ≤ q.size := by omega
          have hq1 : 1 < q.size := by omega
          have ix1 : (q[1]'hq1).toNat = bt q 1 := bt_get q 1 hq1
          have hb1 := bt_lt q 1
          have k1 : (1 : Int) < (q.size : Int) := by omega
          have k2 : ¬ (q.size : Int) < 2 := by omega
          by_cases hB : 60 < bt q 1
          · have HF : Hid (RT = L ∧ RR = ⟨#[]⟩ ∧ RB = true) := by
              obtain ⟨a, b, c⟩ := hq.out
              obtain ⟨a', b', c'⟩ := unT_bad (nx_bad1 h2 hB)
              rw [a', List.append_nil] at a
              rw [b'] at b
              exact ⟨a, b, c.trans c'⟩
            rw [hA] at ix0
            clear hq hA
            generalize bt q 1 = n at ix1 hb1 hB
            have k3 : (60 : Int) < (n : Int) := by omega
            go_wp2_with fail
            go_ret3
            exact ⟨⟨_, by rw [HF.out.2.1, HF.out.2.2]; rfl, by rw [HF.out.1]; exact hown.out⟩, hbw⟩
          · by_cases hC : q.size < bt q 1 + 3
            · have HF : Hid (RT = L ∧ RR = q ∧ RB = false) := by
                obtain ⟨a, b, c⟩ := hq.out
                obtain ⟨a', b', c'⟩ := unT_more (nx_more2 h2 hA (by omega) hC)
                rw [a', List.append_nil] at a
                rw [b', tx_ul] at b
                exact ⟨a, b, c.trans c'⟩
              rw [hA] at ix0
              clear hq hA
              generalize bt q 1 = n at ix1 hb1 hB hC
              have k3 : ¬ (60 : Int) < (n : Int) := by omega
              have k4 : (q.size : Int) < (n : Int) + 3 := by omega
              go_wp2_with fail
              go_ret3
              exact ⟨⟨_, by rw [HF.out.2.1, HF.out.2.2]; rfl, by rw [HF.out.1]; exact hown.out⟩, hbw⟩
            · have hC' : bt q 1 + 3 ≤ q.size := by omega
              obtain ⟨w1, w2⟩ := nx_whole hC' hA (by omega)
              have HW1 : Hid (type_of% w1) := w1
              have HW2 : Hid (type_of% w2) := w2
              have hms := cutM_size hC'
              have CF : Hid (∀ W, Calls Try.prog 47 #[.string (cutM q)] W fun e w' => e = .returned (.string (frm (cutM q))) ∧ Below W.heap.size W w') := fun W => l14Frame_any _ W (by omega)
              unfold cutM at CF hms HW1 HW2
              have hcs := size_ext q (bt q 1 + 3) q.size (Nat.le_refl _)
              rw [hA] at ix0
              clear hA w1 w2
              generalize bt q 1 = n at *
              have k3 : ¬ (60 : Int) < (n : Int) := by omega
              have k4 : ¬ (q.size : Int) < (n : Int) + 3 := by omega
              have k5 : (n : Int) + 3 ≤ (q.size : Int) := by omega
              have k6 : (0 : Int) ≤ (n : Int) + 3 := by omega
              have k7 : IntKind.i64.wrap ((n : Int) + 3) = (n : Int) + 3 := by rw [IntKind.wrap_i64]; omega
              go_wp2_with fail
              generalize q.extract 2 (2 + n) = t at CF hms HW1 HW2 ⊢
              obtain ⟨cc, hcc⟩ : ∃ cc, cc = decide (frm t = q.extract 0 (n + 3)) := ⟨_, rfl⟩
              have HX : Hid (((frm t).toList == (q.extract 0 (n + 3)).toList) = cc) := by
                show _ = _
                rw [str_eqB, hcc]
              go_region_held3 (fun _ => True) (exact trivial) ((go_at_call 47; refine (CF.out _).mono ?_; rintro e w2 ⟨rfl, hb2⟩; have hB2 : Below w.heap.size w w2 := hbw.drew.trans (hb2.mono (by simp; omega)); have hb3 : Below wr.heap.size wr w2 := (Below.refl _ wr).drew.trans (hb2.mono (by simp))))
              rw [show ((n : Int) + 3).toNat = n + 3 by omega, HX.out]
              have HB2 : Hid (Below w.heap.size w w2) := hB2
              have hs2 := hB2.size
              have hown2 : Hid (w2.ownsRow w.heap.size 9 1 (.slice ar L.length cr) L.length (strs L)) := own_belowY hown.out hb3
              cases cc with
              | false =>
                have hne : frm t ≠ q.extract 0 (n + 3) := by simpa using hcc.symm
                have HF : Hid (RT = L ∧ RR = ⟨#[]⟩ ∧ RB = true) := by
                  obtain ⟨a, b, c⟩ := hq.out
                  obtain ⟨a', b', c'⟩ := unT_bad (HW2.out hne)
                  rw [a', List.append_nil] at a
                  rw [b'] at b
                  exact ⟨a, b, c.trans c'⟩
                clear hq HW1 HW2 hcc hne CF HX hB2 hb3 hb2
                go_wp2_with fail
                go_ret3
                exact ⟨⟨_, by rw [HF.out.2.1, HF.out.2.2]; rfl, by rw [HF.out.1]; exact hown2.out⟩, HB2.out⟩
              | true =>
                have heq : frm t = q.extract 0 (n + 3) := by simpa using hcc.symm
                have HF : Hid (RT = (L ++ [t]) ++ unT (ul (q.extract (n + 3) q.size)) ∧ RR = tx (unR (ul (q.extract (n + 3) q.size))) ∧ RB = unB (ul (q.extract (n + 3) q.size))) := by
                  obtain ⟨a, b, c⟩ := hq.out
                  obtain ⟨a', b', c'⟩ := unT_one (HW1.out heq)
                  rw [a', tx_ul] at a
                  rw [b'] at b
                  exact ⟨by rw [a, List.append_assoc]; rfl, b, c.trans c'⟩
                have hqs : (q.extract (n + 3) q.size).size + 3 ≤ q.size := by omega
                clear hq HW1 HW2 hcc heq CF HX hB2 hb3 hb2 hcs
                go_wp2_with (at_builtin; refine wpList_append_lies _ rfl _ _ 27 rfl w.heap.size 9 i0 (.string ByteArray.empty) 1 16 Try.underlying27 hi hz0 hz1 hz2 rfl (by decide) _ L.length _ rfl (World.ownsRow.alloc hown2.out _) ⟨w2.heap.size, 0, none⟩ 1 1 [Value.string t] rfl rfl (World.news_of_block (heap_alloc_new w2 _)) (by intro u hu; simp at hu; subst hu; rfl) (by omega) (by unfold maxLen; omega) (by omega) (by simp; omega) (w2.heap.size + 1) (by simp) ?_; intro g9 cap9 w9 hown9 hgrow9 hat9 hlt9; have hR9 : Hid (StRow w9 w.heap.size (.slice (some ⟨g9, 0, none⟩) (L.length + 1) cap9) (L ++ [t])) := StRow.snocF hown9 rfl rfl; have hB9 : Hid (Below w.heap.size w w9) := (HB2.out.alloc hs2 _).grown hgrow9 (by simp; omega) (fun k hk => (World.ownsRow.lt hown2.out k hk).1); clear hown9 hgrow9 hat9 hlt9)
                go_roundw
                case rel => exact ⟨q.extract (n + 3) q.size, L ++ [t], rfl, hR9, by rw [List.length_append, List.length_singleton]; omega, HF, hB9.out⟩
                case measure => show (q.extract (n + 3) q.size).size < q.size; omega
      · have HF : Hid (RT = L ∧ RR = ⟨#[]⟩ ∧ RB = true) := by
          obtain ⟨a, b, c⟩ := hq.out
          obtain ⟨a', b', c'⟩ := unT_bad (nx_bad0 hq0 hA)
          rw [a', List.append_nil] at a
          rw [b'] at b
          exact ⟨a, b, c.trans c'⟩
        generalize bt q 0 = m at ix0 hb0 hA
        have k3 : ((m : Int) != 126) = true := by simp; omega
        have k5 : ((m : Int) == 126) = false := by simp; omega
        have k4 : ¬ (m : Int) = 126 := by omega
        clear hq
        go_wp2_with fail
        go_ret3
        exact ⟨⟨_, by rw [HF.out.2.1, HF.out.2.2]; rfl, by rw [HF.out.1]; exact hown.out⟩, hbw⟩

end Go.Proofs.Ytcpjbacjmmbabaa
