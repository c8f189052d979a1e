/- The model's ReadFields: what it finds, as a function of the bytes. -/
import Derived.Test.YtmjpmmkjfimopaaDoorHf
import Derived.Test.YtmjpmmkjfimopaaDoorHc
import Derived.Test.YtmjpmmkjfimopaaDoorHg
import Derived.Deep.AppendLies
import Derived.Lib.SmallJoins
namespace Go.Proofs.YtmjpmmkjfimopaaDoor
open Go.RowKit Plain

theorem odd_halfB (a : Int) (h0 : 0 ≤ a) (h1 : a ≤ 2000000001) : wrap64 (-(a + 1).tdiv 2) = -((a + 1) / 2) := by
  rw [Int.tdiv_eq_ediv_of_nonneg (by omega)]; unfold wrap64; omega

set_option maxRecDepth 100000 in
set_option maxHeartbeats 1000000 in
theorem l1Unfold_any (a : Int) (w : World) (k1 : 0 ≤ a) (k2 : a ≤ 2000000001) :
    Calls Tryd.prog 104 #[.int .i64 a] w fun e w' => e = .returned (.int .i64 (unf a)) ∧ w' = w := by
  by_cases h3 : a % 2 = 1
  · have hu : unf a = -((a + 1) / 2) := by unfold unf; rw [if_neg (by omega)]
    rw [hu]
    have e0 : (a % 2 == 0) = false := by simp [h3]
    have HO : Hid (wrap64 (-(a + 1).tdiv 2) = -((a + 1) / 2)) := odd_halfB a k1 k2
    clear h3 hu
    go_enter Tryd.func104, Tryd.ntmps104
    go_wp2
    go_ret
    exact ⟨by rw [← HO.out]; rfl, rfl⟩
  · have h3' : a % 2 = 0 := by omega
    have hu : unf a = a / 2 := by unfold unf; rw [if_pos h3']
    rw [hu]
    have e0 : (a % 2 == 0) = true := by simp; omega
    clear h3 h3' hu
    go_enter Tryd.func104, Tryd.ntmps104
    go_wp2
    go_ret
    exact ⟨rfl, rfl⟩

theorem l1Field_at0 (no kind num : Int) (data : ByteArray) (w : World) :
    Calls Tryd.prog 72 #[.agg #[.int .i64 no, .int .i64 kind, .int .i64 num, .string data]] w fun e w' => e = .returned (.bool (Fld.good ⟨no, kind, num, data⟩)) ∧ Below w.heap.size w w' :=
  l1Field_any ⟨no, kind, num, data⟩ w

theorem unf_le (a : Int) (h0 : 0 ≤ a) (h1 : a ≤ 2000000000) : -1000000000 ≤ unf a ∧ unf a ≤ 1000000000 := by
  unfold unf; split <;> omega

theorem unf_ge (a : Int) (h0 : a = 2000000001) : unf a = -1000000001 := by subst h0; decide

theorem good_num {no : Int} {n : Int} (h : Fld.good ⟨no, 0, unf n, ⟨#[]⟩⟩ = true) (hn : n ≤ 2000000001) : 1 ≤ no ∧ no ≤ 30 ∧ n ≤ 2000000000 := by
  unfold Fld.good at h
  simp only [Bool.and_eq_true, decide_eq_true_eq, if_pos] at h
  obtain ⟨⟨h1, h2⟩, ⟨h3, h4⟩, h5⟩ := h
  refine ⟨h1, h2, ?_⟩
  by_cases he : n = 2000000001
  · rw [unf_ge n he] at h3; omega
  · omega

theorem num_good {no : Int} {n : Int} (h1 : 1 ≤ no) (h2 : no ≤ 30) (h0 : 0 ≤ n) (h3 : n ≤ 2000000000) : Fld.good ⟨no, 0, unf n, ⟨#[]⟩⟩ = true := by
  have := unf_le n h0 h3
  unfold Fld.good
  simp only [Bool.and_eq_true, decide_eq_true_eq, if_pos]
  exact ⟨⟨h1, h2⟩, ⟨this.1, this.2⟩, by simp⟩

theorem good_data {no kind : Int} {d : ByteArray} (h : Fld.good ⟨no, kind, 0, d⟩ = true) (hk : kind ≠ 0) : kind = 2 ∧ 1 ≤ no ∧ no ≤ 30 := by
  unfold Fld.good at h
  dsimp only at h
  rw [if_neg hk] at h
  simp only [Bool.and_eq_true, decide_eq_true_eq] at h
  obtain ⟨⟨h1, h2⟩, h3⟩ := h
  by_cases k2 : kind = 2
  · exact ⟨k2, h1, h2⟩
  · rw [if_neg k2] at h3; exact absurd h3 (by simp)

theorem data_good {no kind : Int} {d : ByteArray} (hk : kind = 2) (h1 : 1 ≤ no) (h2 : no ≤ 30) : Fld.good ⟨no, kind, 0, d⟩ = true := by
  subst hk
  unfold Fld.good
  simp [h1, h2]

set_option maxRecDepth 100000 in
set_option maxHeartbeats 4000000 in
theorem l1Read_any (s : ByteArray) (w : World) (hs : s.size ≤ 400) :
    Calls Tryd.prog 90 #[.string s] w fun e w' => ∃ v, e = .returned (.tuple #[v, .bool (rf s).2]) ∧ w'.ownsRow w.heap.size 88 4 v (rf s).1.length ((rf s).1.flatMap Fld.cells) ∧ Below w.heap.size w w' := by
  obtain ⟨i0, hi, hz0, hz1, hz2⟩ := info_parts Tryd.infoFld
  obtain ⟨R, hR⟩ : ∃ R, R = rf s := ⟨_, rfl⟩
  rw [← hR]
  have HR : Hid (R = rfs s (s.size + 1) 0 []) := by show _ = _; rw [hR]; unfold rf; rw [if_pos hs]
  clear hR
  go_enter Tryd.func90, Tryd.ntmps90
  go_wp2
  go_loopw [4, 5] (fun vl va wr => ∃ (l : List Fld) (a f : Nat), l.length ≤ 40 ∧ a ≤ s.size ∧ s.size < f + a ∧ va = .int .i64 (a : Int) ∧ Hid (R = rfs s f a l) ∧ wr.ownsRow w.heap.size 88 4 vl l.length (l.flatMap Fld.cells) ∧ Below w.heap.size w wr)
    (fun _ va _ => s.size - (intOf va).toNat)
  case atStart => exact ⟨[], 0, s.size + 1, by simp, by omega, by omega, by go_num, HR, World.ownsRow_nil _ _ _ _, Below.refl _ _⟩
  case round =>
    obtain ⟨l, a, f, hl40, ha, hf, rfl, hrf, hown, hbw⟩ := hrel
    have hlf : l.length ≤ 40 := hl40
    obtain ⟨f, rfl⟩ : ∃ f', f = f' + 1 := ⟨f - 1, by omega⟩
    obtain ⟨ao, cap, hv⟩ : ∃ ao cap, _ = Value.slice ao l.length cap := by obtain ⟨ao, cap, hv, _⟩ := FldsAt.own hown (by unfold maxLen; omega); exact ⟨ao, cap, hv⟩
    subst hv
    by_cases hlt : a < s.size
    · have hlt' : (a : Int) < (s.size : Int) := by omega
      obtain ⟨⟨tag, nx, b1⟩, ht⟩ : ∃ r, tk s a 5 0 0 = r := ⟨_, rfl⟩
      have C1 : Hid (∀ w : World, Calls Tryd.prog 103 #[.string s, .int .i64 a] w fun e w' => e = .returned (.tuple #[.int .i64 tag, .int .i64 nx, .bool b1]) ∧ w' = w) := fun w => by
        have := l1Take_any s a w hs (by omega); rwa [ht] at this
      have P1 := tk_place s a 5 0 0
      rw [ht] at P1
      dsimp only at P1
      have HT : Hid (tk s a 5 0 0 = (tag, nx, b1)) := ht
      clear ht
      go_wp2_with fail
      refine (C1.out _).mono ?_
      rintro e w1 ⟨rfl, rfl⟩
      cases b1
      · have hn : Hid (R = ([], false)) := by show R = _; rw [hrf.out]; exact rfs_none s f a l hlt (rf1_no1 s a (by rw [HT.out]))
        clear hrf P1
        go_wp2
        go_ret2
        rw [hn.out]
        exact ⟨_, rfl, World.ownsRow_nil _ _ _ _, hbw⟩
      · obtain ⟨p1, p2, p3, p4⟩ := P1 rfl
        clear P1
        obtain ⟨nx, rfl⟩ := Int.eq_ofNat_of_zero_le (show 0 ≤ nx by omega)
        obtain ⟨⟨n, en, b2⟩, ht2⟩ : ∃ r, tk s nx 5 0 0 = r := ⟨_, rfl⟩
        have C2 : Hid (∀ w : World, Calls Tryd.prog 103 #[.string s, .int .i64 nx] w fun e w' => e = .returned (.tuple #[.int .i64 n, .int .i64 en, .bool b2]) ∧ w' = w) := fun w => by
          have := l1Take_any s nx w hs (by omega); rwa [ht2] at this
        have P1 := tk_place s nx 5 0 0
        rw [ht2] at P1
        dsimp only at P1
        have HT2 : Hid (tk s (Int.toNat (nx : Int)) 5 0 0 = (n, en, b2)) := by show _ = _; rw [Int.toNat_natCast]; exact ht2
        clear ht2
        go_wp2_with fail
        refine (C2.out _).mono ?_
        rintro e w1 ⟨rfl, rfl⟩
        cases b2
        · have hn : Hid (R = ([], false)) := by show R = _; rw [hrf.out]; exact rfs_none s f a l hlt (rf1_no2 s a tag nx HT.out (by rw [HT2.out]))
          clear hrf P1
          go_wp2
          go_ret2
          rw [hn.out]
          exact ⟨_, rfl, World.ownsRow_nil _ _ _ _, hbw⟩
        · obtain ⟨q1, q2, q3, q4⟩ := P1 rfl
          clear P1
          obtain ⟨en, rfl⟩ := Int.eq_ofNat_of_zero_le (show 0 ≤ en by omega)
          obtain ⟨n, rfl⟩ := Int.eq_ofNat_of_zero_le q1
          obtain ⟨tag, rfl⟩ := Int.eq_ofNat_of_zero_le p1
          by_cases hk0 : (tag : Int) % 8 = 0
          · have HG : Hid (Fld.good ⟨(tag : Int) / 8, 0, unf n, ⟨#[]⟩⟩ = true → rf1 s a = some (⟨(tag : Int) / 8, 0, unf n, ⟨#[]⟩⟩, en)) := fun h => by
              have := rf1_num s a tag nx n en HT.out HT2.out hk0 (good_num h (by omega))
              rwa [Int.toNat_natCast] at this
            have HB : Hid (Fld.good ⟨(tag : Int) / 8, 0, unf n, ⟨#[]⟩⟩ = false → rf1 s a = none) := fun h => rf1_nonum s a tag nx n en HT.out HT2.out hk0 (fun k => by rw [num_good k.1 k.2.1 (by omega) k.2.2] at h; exact absurd h (by simp))
            have k0 : ((tag : Int) % 8 == 0) = true := by simp [hk0]
            have HK : Hid ((tag : Int) % 8 = 0) := hk0
            clear hk0
            go_wp2_with fail
            refine (l1Unfold_any n _ (by omega) (by omega)).mono ?_
            rintro e w2 ⟨rfl, rfl⟩
            have hk8 : (tag : Int) % 8 = 0 := HK.out
            rw [hk8]
            clear hk8 k0
            generalize (tag : Int) / 8 = no at HG HB ⊢
            generalize unf (n : Int) = num at HG HB ⊢
            go_wp2_with fail
            refine (l1Field_at0 no 0 num ⟨#[]⟩ _).mono ?_
            rintro e w3 ⟨rfl, hb3⟩
            have hown3 := own_below (hown.alloc (.cells #[.int .i64 no, .int .i64 0, .int .i64 num, .string ⟨#[]⟩] 88)) hb3
            have hbw3 : Below w.heap.size w w3 := (hbw.alloc hbw.size _).trans (hb3.mono (by have := hbw.size; simp; omega))
            have x0 : w3.cell? ⟨w1.heap.size, 0, none⟩ = some (.int .i64 no) := (hb3.cell (p := ⟨w1.heap.size, 0, none⟩) (by simp)).trans (by simp)
            have x1 : w3.cell? ⟨w1.heap.size, 1, none⟩ = some (.int .i64 0) := (hb3.cell (p := ⟨w1.heap.size, 1, none⟩) (by simp)).trans (by simp)
            have x2 : w3.cell? ⟨w1.heap.size, 2, none⟩ = some (.int .i64 num) := (hb3.cell (p := ⟨w1.heap.size, 2, none⟩) (by simp)).trans (by simp)
            have x3 : w3.cell? ⟨w1.heap.size, 3, none⟩ = some (.string ⟨#[]⟩) := (hb3.cell (p := ⟨w1.heap.size, 3, none⟩) (by simp)).trans (by simp)
            clear hb3 hown hbw
            by_cases hg : Fld.good ⟨no, 0, num, ⟨#[]⟩⟩ = true
            · have HS := HG.out hg
              by_cases h40 : l.length = 40
              · have hn : Hid (R = ([], false)) := by show R = _; rw [hrf.out]; exact rfs_full s f a _ _ l hlt HS h40
                rw [hg]
                have h40' : ((l.length : Int) == 40) = true := by simp; omega
                clear hg hrf HS HG HB h40
                go_wp2
                go_ret2
                rw [hn.out]
                exact ⟨_, rfl, World.ownsRow_nil _ _ _ _, hbw3⟩
              · have hn : Hid (R = rfs s f en (l ++ [⟨no, 0, num, ⟨#[]⟩⟩])) := by show R = _; rw [hrf.out]; exact rfs_more s f a _ _ l hlt HS h40
                rw [hg]
                have h40' : ((l.length : Int) == 40) = false := by simp; omega
                clear hg hrf HS HG HB
                go_wp2_with (at_builtin; refine wpList_append_own _ rfl _ _ 61 rfl w.heap.size 88 i0 (.agg #[.int .i64 0, .int .i64 0, .int .i64 0, .string ⟨#[]⟩]) 4 40 Tryd.underlying61 hi hz0 hz1 hz2 rfl (by decide) _ _ _ rfl (hown3.alloc _) ⟨w3.heap.size, 0, none⟩ 1 1 (Fld.cells ⟨no, 0, num, ⟨#[]⟩⟩) rfl rfl ?c1 ?c2 ?c3 ?c4 ?c5 ?_)
                case c1 =>
                  intro j u hj
                  match j, hj with
                  | 0, hj => simp [Fld.cells] at hj; subst hj; exact cell_new _ _ _ _ 0 (by simp)
                  | 1, hj => simp [Fld.cells] at hj; subst hj; exact cell_new _ _ _ _ 1 (by simp)
                  | 2, hj => simp [Fld.cells] at hj; subst hj; exact cell_new _ _ _ _ 2 (by simp)
                  | 3, hj => simp [Fld.cells] at hj; subst hj; exact cell_new _ _ _ _ 3 (by simp)
                  | j + 4, hj => simp [Fld.cells] at hj
                case c2 => intro u hu; simp [Fld.cells] at hu; rcases hu with rfl | rfl | rfl | rfl <;> rfl
                case c3 => unfold maxLen; omega
                case c4 => omega
                case c5 => have := hbw3.size; simp at this ⊢; omega
                intro v' w9 hown' hgrow _
                have hlt9 := hown3.lt
                have hbw9 : Below w.heap.size w w9 := (hbw3.alloc hbw3.size _).grown hgrow (by have := hbw3.size; simp; omega) (fun k hk => (hlt9 k hk).1)
                have hown9 : w9.ownsRow w.heap.size 88 4 v' (l ++ [(⟨no, 0, num, ⟨#[]⟩⟩ : Fld)]).length ((l ++ [(⟨no, 0, num, ⟨#[]⟩⟩ : Fld)]).flatMap Fld.cells) := by
                  rw [List.flatMap_append, List.length_append, List.length_singleton]
                  simpa using hown'
                clear hgrow hown' hlt9 hown3 hbw3 x0 x1 x2 x3
                go_wp2
                go_roundw
                case rel => exact ⟨l ++ [(⟨no, 0, num, ⟨#[]⟩⟩ : Fld)], en, f, by simp; omega, by omega, by omega, by go_num, hn, hown9, hbw9⟩
                case measure => simp [intOf]; omega
            · have hg' : Fld.good ⟨no, 0, num, ⟨#[]⟩⟩ = false := by simpa using hg
              have hn : Hid (R = ([], false)) := by show R = _; rw [hrf.out]; exact rfs_none s f a l hlt (HB.out hg')
              rw [hg']
              clear hg hg' hrf HG HB
              go_wp2
              go_ret2
              rw [hn.out]
              exact ⟨_, rfl, World.ownsRow_nil _ _ _ _, hbw3⟩

          · have k0 : ((tag : Int) % 8 == 0) = false := by simp [hk0]
            by_cases hlen : (n : Int) ≤ (s.size : Int) - en
            · have hlen' : (n : Int) ≤ (s.size : Int) - en := hlen
              have HG : Hid (Fld.good ⟨(tag : Int) / 8, (tag : Int) % 8, 0, s.extract en (en + n)⟩ = true → rf1 s a = some (⟨(tag : Int) / 8, (tag : Int) % 8, 0, s.extract en (en + n)⟩, en + n)) := fun h => by
                have g := good_data h hk0
                have := rf1_data s a tag nx n en HT.out HT2.out ⟨g.1, g.2.1, g.2.2, hlen⟩
                rw [g.1]
                rwa [Int.toNat_natCast, show ((en : Int) + n).toNat = en + n by omega] at this
              have HB : Hid (Fld.good ⟨(tag : Int) / 8, (tag : Int) % 8, 0, s.extract en (en + n)⟩ = false → rf1 s a = none) := fun h => rf1_nodata s a tag nx n en HT.out HT2.out hk0 (fun k => by rw [data_good k.1 k.2.1 k.2.2.1] at h; exact absurd h (by simp))
              have hs1 : (en : Int) ≤ (en : Int) + n := by omega
              have hs2 : (en : Int) + n ≤ (s.size : Int) := by omega
              have hrun : ∀ w : World, (Instr.slice 9 (.string s) (some (.int .i64 (en : Int))) (some (.int .i64 ((en : Int) + n))) none).run Tryd.prog w = .ok (.string (s.extract en (en + n))) w := fun w => by
                rw [run_slice_string w 9 s .i64 .i64 (en : Int) ((en : Int) + n) Tryd.underlying9 (by omega) (by omega) (by omega), Int.toNat_natCast, show ((en : Int) + n).toNat = en + n by omega]
              clear hk0 hlen
              generalize s.extract en (en + n) = data at HG HB hrun
              go_wp2_with fail
              clear k0 hrun
              generalize (tag : Int) / 8 = no at HG HB ⊢
              generalize (tag : Int) % 8 = kk at HG HB ⊢
              skip
              refine (l1Field_at0 no kk 0 data _).mono ?_
              rintro e w3 ⟨rfl, hb3⟩
              have hown3 := own_below (hown.alloc (.cells #[.int .i64 no, .int .i64 kk, .int .i64 0, .string data] 88)) hb3
              have hbw3 : Below w.heap.size w w3 := (hbw.alloc hbw.size _).trans (hb3.mono (by have := hbw.size; simp; omega))
              have x0 : w3.cell? ⟨w1.heap.size, 0, none⟩ = some (.int .i64 no) := (hb3.cell (p := ⟨w1.heap.size, 0, none⟩) (by simp)).trans (by simp)
              have x1 : w3.cell? ⟨w1.heap.size, 1, none⟩ = some (.int .i64 kk) := (hb3.cell (p := ⟨w1.heap.size, 1, none⟩) (by simp)).trans (by simp)
              have x2 : w3.cell? ⟨w1.heap.size, 2, none⟩ = some (.int .i64 0) := (hb3.cell (p := ⟨w1.heap.size, 2, none⟩) (by simp)).trans (by simp)
              have x3 : w3.cell? ⟨w1.heap.size, 3, none⟩ = some (.string data) := (hb3.cell (p := ⟨w1.heap.size, 3, none⟩) (by simp)).trans (by simp)
              clear hb3 hown hbw
              by_cases hg : Fld.good ⟨no, kk, 0, data⟩ = true
              · have HS := HG.out hg
                by_cases h40 : l.length = 40
                · have hn : Hid (R = ([], false)) := by show R = _; rw [hrf.out]; exact rfs_full s f a _ _ l hlt HS h40
                  rw [hg]
                  have h40' : ((l.length : Int) == 40) = true := by simp; omega
                  clear hg hrf HS HG HB h40
                  go_wp2
                  go_ret2
                  rw [hn.out]
                  exact ⟨_, rfl, World.ownsRow_nil _ _ _ _, hbw3⟩
                · have hn : Hid (R = rfs s f (en + n) (l ++ [⟨no, kk, 0, data⟩])) := by show R = _; rw [hrf.out]; exact rfs_more s f a _ _ l hlt HS h40
                  rw [hg]
                  have h40' : ((l.length : Int) == 40) = false := by simp; omega
                  clear hg hrf HS HG HB
                  go_wp2_with (at_builtin; refine wpList_append_own _ rfl _ _ 61 rfl w.heap.size 88 i0 (.agg #[.int .i64 0, .int .i64 0, .int .i64 0, .string ⟨#[]⟩]) 4 40 Tryd.underlying61 hi hz0 hz1 hz2 rfl (by decide) _ _ _ rfl (hown3.alloc _) ⟨w3.heap.size, 0, none⟩ 1 1 (Fld.cells ⟨no, kk, 0, data⟩) rfl rfl ?c1 ?c2 ?c3 ?c4 ?c5 ?_)
                  case c1 =>
                    intro j u hj
                    match j, hj with
                    | 0, hj => simp [Fld.cells] at hj; subst hj; exact cell_new _ _ _ _ 0 (by simp)
                    | 1, hj => simp [Fld.cells] at hj; subst hj; exact cell_new _ _ _ _ 1 (by simp)
                    | 2, hj => simp [Fld.cells] at hj; subst hj; exact cell_new _ _ _ _ 2 (by simp)
                    | 3, hj => simp [Fld.cells] at hj; subst hj; exact cell_new _ _ _ _ 3 (by simp)
                    | j + 4, hj => simp [Fld.cells] at hj
                  case c2 => intro u hu; simp [Fld.cells] at hu; rcases hu with rfl | rfl | rfl | rfl <;> rfl
                  case c3 => unfold maxLen; omega
                  case c4 => omega
                  case c5 => have := hbw3.size; simp at this ⊢; omega
                  intro v' w9 hown' hgrow _
                  have hlt9 := hown3.lt
                  have hbw9 : Below w.heap.size w w9 := (hbw3.alloc hbw3.size _).grown hgrow (by have := hbw3.size; simp; omega) (fun k hk => (hlt9 k hk).1)
                  have hown9 : w9.ownsRow w.heap.size 88 4 v' (l ++ [(⟨no, kk, 0, data⟩ : Fld)]).length ((l ++ [(⟨no, kk, 0, data⟩ : Fld)]).flatMap Fld.cells) := by
                    rw [List.flatMap_append, List.length_append, List.length_singleton]
                    simpa using hown'
                  clear hgrow hown' hlt9 hown3 hbw3 x0 x1 x2 x3
                  go_wp2
                  go_roundw
                  case rel => exact ⟨l ++ [(⟨no, kk, 0, data⟩ : Fld)], (en + n), f, by simp; omega, by omega, by omega, by go_num, hn, hown9, hbw9⟩
                  case measure => simp [intOf]; omega
              · have hg' : Fld.good ⟨no, kk, 0, data⟩ = false := by simpa using hg
                have hn : Hid (R = ([], false)) := by show R = _; rw [hrf.out]; exact rfs_none s f a l hlt (HB.out hg')
                rw [hg']
                clear hg hg' hrf HG HB
                go_wp2
                go_ret2
                rw [hn.out]
                exact ⟨_, rfl, World.ownsRow_nil _ _ _ _, hbw3⟩

            · have hn : Hid (R = ([], false)) := by show R = _; rw [hrf.out]; exact rfs_none s f a l hlt (rf1_nodata s a tag nx n en HT.out HT2.out hk0 (fun k => hlen k.2.2.2))
              have hlen' : (s.size : Int) - en < (n : Int) := by omega
              clear hk0 hlen hrf
              go_wp2
              go_ret2
              rw [hn.out]
              exact ⟨_, rfl, World.ownsRow_nil _ _ _ _, hbw.alloc hbw.size _⟩
    · have hn : Hid (R = (l, true)) := by show R = _; rw [hrf.out]; exact rfs_out s f a l hlt
      have hge : ¬ ((a : Int) < (s.size : Int)) := by omega
      clear hrf
      go_wp2
      go_ret2
      rw [hn.out]
      exact ⟨_, rfl, hown, hbw⟩

end Go.Proofs.YtmjpmmkjfimopaaDoor
