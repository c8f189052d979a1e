/- The program's GoodSchema at every schema. -/
import Derived.Test.YtjaklpibjijkkaaSchF
namespace Go.Proofs.Ytjaklpibjijkkaa
open Go.RowKit Plain Sch

set_option maxRecDepth 100000 in
set_option maxHeartbeats 4000000 in
theorem implGood_any (T : List Ty) (v : Value) (w : World) (hT : TysAt w w.heap.size v T) :
    Calls Try.prog 23 #[.agg #[v]] w fun e w' => e = .returned (.bool (gsI T)) ∧ Below w.heap.size w w' := by
  have hB1 : ∀ o, Below w.heap.size w (w.alloc o) := fun o => (Below.refl _ w).alloc (Nat.le_refl _) o
  by_cases h1 : 1 ≤ T.length
  · by_cases h30 : T.length ≤ 30
    · have HT : Hid (TysAt w w.heap.size v T) := hT
      obtain ⟨g, o, cap, rfl, hlc, hcm, hg, hrow, hnm⟩ := hT.open (by omega)
      clear hT
      obtain ⟨R, hR⟩ : ∃ R, R = gsI T := ⟨_, rfl⟩
      rw [← hR]
      have HR : Hid (R = (typeOk T 0 && ((List.range T.length).all fun i => if i = 0 then true else typeOkI T i) &&
    ((List.range T.length).all fun i => if (ty T i).kind = 4 then decide (i + 1 < T.length) && decide ((ty T (i + 1)).up = i) else true))) := by
        show _ = _
        rw [hR]
        unfold gsI
        simp [h1, h30]
      clear hR
      have h1' : (1 : Int) ≤ (T.length : Int) := by omega
      have h30' : (T.length : Int) ≤ 30 := by omega
      have hc0 := hrow 0 (by omega)
      simp only [Nat.zero_mul, Nat.add_zero] at hc0
      obtain ⟨t0, ht0⟩ : ∃ t, ty T 0 = t := ⟨_, rfl⟩
      have HT0 : Hid (ty T 0 = t0) := ht0
      have HR0 : Hid (typeOk T 0 = decide (t0.kind = 5 ∧ t0.name = ⟨#[]⟩ ∧ t0.no = 0 ∧ t0.must = false ∧ t0.up = -1 ∧ t0.most = 0)) := by
        show _ = _
        unfold typeOk
        rw [if_pos rfl, ht0]
        exact first_eq t0
      rw [ht0] at hc0
      clear ht0 hrow hnm
      by_cases hgood : t0.kind = 5 ∧ t0.name = ⟨#[]⟩ ∧ t0.no = 0 ∧ t0.must = false ∧ t0.up = -1 ∧ t0.most = 0
      · obtain ⟨kind, name, no, must, up, most⟩ := t0
        dsimp only at hgood
        obtain ⟨rfl, rfl, rfl, rfl, rfl, rfl⟩ := hgood
        obtain ⟨c0, c1, c2, c3, c4, c5⟩ := hc0
        dsimp only at c0 c1 c2 c3 c4 c5
        have HR1 : Hid (R = (((List.range T.length).all fun i => if i = 0 then true else typeOkI T i) &&
            ((List.range T.length).all fun i => if (ty T i).kind = 4 then decide (i + 1 < T.length) && decide ((ty T (i + 1)).up = i) else true))) := by
          show _ = _
          rw [HR.out, HR0.out]
          simp
        have HU0 : Hid (UpsTo T 1) := ⟨by rw [HT0.out], fun i h0 hi => by omega⟩
        clear HR HR0 HT0
        go_enter Try.func23, Try.ntmps23
        go_wp2
        go_loopw [3] (fun vi wr => ∃ (i : Nat), 1 ≤ i ∧ i ≤ T.length ∧ vi = .int .i64 (i : Int) ∧ Hid (UpsTo T i) ∧ Hid (∀ j, 0 < j → j < i → typeOkI T j = true) ∧ Below (w.heap.size + 1) (w.alloc (.cells #[.slice (some ⟨g, o, none⟩) T.length cap] 30)) wr)
          (fun vi _ => T.length - (intOf vi).toNat)
        case atStart => exact ⟨1, by omega, by omega, rfl, HU0, fun j h0 hj => by omega, Below.refl _ _⟩
        case round =>
          obtain ⟨i, hi1, hi, rfl, hui, hall, hbw⟩ := hrel
          have hB0 : Below w.heap.size w wr := (hB1 _).trans (hbw.mono (by omega))
          have hsz : w.heap.size < wr.heap.size := by have := hbw.size; simp at this; omega
          have q0 : wr.cell? ⟨w.heap.size, 0, none⟩ = some (.slice (some ⟨g, o, none⟩) T.length cap) := (hbw.cell (p := ⟨w.heap.size, 0, none⟩) (by simp)).trans (by simp)
          have hTr : Hid (TysAt wr wr.heap.size (.slice (some ⟨g, o, none⟩) T.length cap) T) := HT.out.below hB0
          clear hB1 c0 c1 c2 c3 c4 c5
          by_cases hlt : i < T.length
          · have hlt' : (i : Int) < (T.length : Int) := by omega
            go_wp2_with fail
            refine (goodType_any T _ i _ hTr.out hlt hi1 h30 hui.out).mono ?_
            rintro e w1 ⟨rfl, hb1⟩
            have hbw1 := hbw.trans (hb1.mono (show w.heap.size + 1 ≤ wr.heap.size by omega))
            have hB2 : Below w.heap.size w w1 := hB0.trans (hb1.mono hB0.size)
            clear hb1 hbw hB0
            by_cases hok : typeOkI T i = true
            · have hui2 : Hid (UpsTo T (i + 1)) := ups_step hi1 hui.out hok
              have hall2 : Hid (∀ j, 0 < j → j < i + 1 → typeOkI T j = true) := fun j h0 hj => by
                by_cases hji : j = i
                · rw [hji]; exact hok
                · exact hall.out j h0 (by omega)
              rw [hok]
              clear hok
              go_wp2
              go_roundw
              case rel => exact ⟨i + 1, by omega, by omega, by go_num, hui2, hall2, hbw1⟩
              case measure => simp [intOf]; omega
            · have hok' : typeOkI T i = false := by simpa using hok
              have hn : Hid (R = false) := by
                show R = _
                rw [HR1.out, Bool.and_eq_false_iff]
                left
                rw [List.all_eq_false]
                refine ⟨i, List.mem_range.2 hlt, ?_⟩
                rw [if_neg (by omega), hok']
                simp
              rw [hok']
              clear hok hok'
              go_wp2
              go_ret
              exact ⟨by rw [hn.out]; rfl, hB2⟩
          · have hge : ¬ ((i : Int) < (T.length : Int)) := by omega
            have hn : Hid (R = ((List.range T.length).all fun i => if (ty T i).kind = 4 then decide (i + 1 < T.length) && decide ((ty T (i + 1)).up = i) else true)) := by
              show R = _
              rw [HR1.out]
              have : ((List.range T.length).all fun i => if i = 0 then true else typeOkI T i) = true := by
                rw [List.all_eq_true]
                intro x hx
                by_cases hx0 : x = 0
                · rw [if_pos hx0]
                · rw [if_neg hx0]
                  exact hall.out x (by omega) (by have := List.mem_range.1 hx; omega)
              rw [this]
              simp
            go_wp2_with fail
            refine (eachListHasPart_any T _ _ hTr.out (by omega) h30).mono ?_
            rintro e w1 ⟨rfl, hb1⟩
            rw [← hn.out]
            go_wp2
            go_ret
            exact ⟨rfl, hB0.trans (hb1.mono hB0.size)⟩
      · obtain ⟨kind, name, no, must, up, most⟩ := t0
        obtain ⟨c0, c1, c2, c3, c4, c5⟩ := hc0
        dsimp only at c0 c1 c2 c3 c4 c5 hgood
        have hn : Hid (R = false) := by
          show R = _
          rw [HR.out, HR0.out]
          have : decide (kind = 5 ∧ name = ⟨#[]⟩ ∧ no = 0 ∧ must = false ∧ up = -1 ∧ most = 0) = false := by simpa using hgood
          rw [this]
          simp
        clear HR HR0 HT0
        by_cases h : kind = 5
        · subst h
          by_cases h : name.toList = []
          · have hnd : name = ⟨#[]⟩ := by
              apply ByteArray.ext
              have : name.data.toList = [] := by rw [← ByteArray.toList_eq]; exact h
              exact Array.toList_eq_nil_iff.1 this
            subst hnd
            clear h
            by_cases h : no = 0
            · subst h
              by_cases h : must = false
              · subst h
                by_cases h : up = -1
                · subst h
                  by_cases h : most = 0
                  · exact absurd ⟨rfl, rfl, rfl, rfl, rfl, h⟩ hgood
                  · have h' : (most == 0) = false := by simpa using h
                    clear h hgood
                    go_enter Try.func23, Try.ntmps23
                    go_wp2
                    go_ret
                    exact ⟨by rw [hn.out]; rfl, hB1 _⟩
                · have h' : (up == -1) = false := by simpa using h
                  clear h hgood
                  go_enter Try.func23, Try.ntmps23
                  go_wp2
                  go_ret
                  exact ⟨by rw [hn.out]; rfl, hB1 _⟩
              · have h' : must = true := by simpa using h
                subst h'
                clear h hgood
                go_enter Try.func23, Try.ntmps23
                go_wp2
                go_ret
                exact ⟨by rw [hn.out]; rfl, hB1 _⟩
            · have h' : (no == 0) = false := by simpa using h
              clear h hgood
              go_enter Try.func23, Try.ntmps23
              go_wp2
              go_ret
              exact ⟨by rw [hn.out]; rfl, hB1 _⟩
          · have h' : name.toList.isEmpty = false := by simpa using h
            clear h hgood
            go_enter Try.func23, Try.ntmps23
            go_wp2
            go_ret
            exact ⟨by rw [hn.out]; rfl, hB1 _⟩
        · have h' : (kind == 5) = false := by simpa using h
          clear h hgood
          go_enter Try.func23, Try.ntmps23
          go_wp2
          go_ret
          exact ⟨by rw [hn.out]; rfl, hB1 _⟩
    · have hn : gsI T = false := by unfold gsI; simp [h30]
      rw [hn]
      obtain ⟨ao, cap, rfl, hlc, hcm, _⟩ := hT
      have h1' : ¬ ((T.length : Int) < 1) := by omega
      have h30' : (30 : Int) < (T.length : Int) := by omega
      clear hn h1 h30
      go_enter Try.func23, Try.ntmps23
      go_wp2
      go_ret
      exact ⟨rfl, hB1 _⟩
  · have hn : gsI T = false := by unfold gsI; simp [h1]
    rw [hn]
    obtain ⟨ao, cap, rfl, hlc, hcm, _⟩ := hT
    have h1' : (T.length : Int) < 1 := by omega
    clear hn h1
    go_enter Try.func23, Try.ntmps23
    go_wp2
    go_ret
    exact ⟨rfl, hB1 _⟩

end Go.Proofs.Ytjaklpibjijkkaa
