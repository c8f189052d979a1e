/- The model's look at one part of a schema. -/
import Derived.Test.YtjaklpibjijkkaaSchH
namespace Go.Proofs.Ytjaklpibjijkkaa
open Go.RowKit Plain Sch

theorem sis_low (T : List Ty) (i j : Nat) (hu : UpsTo T i) (h0 : 0 ≤ (ty T i).up) (hj : (j : Int) ≤ (ty T i).up) (hji : j < i) : sisBad T i j = false := by
  unfold sisBad
  have : ¬ (ty T j).up = (ty T i).up := by
    by_cases hj0 : j = 0
    · subst hj0; have := hu.1; omega
    · have := hu.2 j (by omega) hji; omega
  simp [this]

set_option maxRecDepth 100000 in
set_option maxHeartbeats 4000000 in
theorem l2Part_any (T : List Ty) (v : Value) (k : Nat) (w : World) (hT : TysAt w w.heap.size v T) (hk : k < T.length) (hk1 : 1 ≤ k) (hl : T.length ≤ 30) (hu : UpsTo T k) :
    Calls Try.prog 55 #[.agg #[v], .int .i64 k] w fun e w' => e = .returned (.bool (partOk T k)) ∧ Below w.heap.size w w' := by
  have HT : Hid (TysAt w w.heap.size v T) := hT
  obtain ⟨g, o, cap, rfl, hlc, hcm, hg, hrow, hnm⟩ := hT.open (by omega)
  clear hT
  obtain ⟨R, hR⟩ : ∃ R, R = partOk T k := ⟨_, rfl⟩
  rw [← hR]
  have HU : Hid (UpsTo T k) := hu
  clear hu
  have HRW : Hid (∀ i, i < T.length → TyIn w g (o + i * 6) (ty T i)) := hrow
  have hk' : (k : Int) < (T.length : Int) := by omega
  have hk0' : (0 : Int) ≤ (k : Int) := by omega
  have hcm' : cap ≤ 9223372036854775807 := by unfold maxLen at hcm; omega
  have hci := hrow k hk
  have hnk := hnm k hk
  obtain ⟨ti, hti⟩ : ∃ t, ty T k = t := ⟨_, rfl⟩
  have HTI : Hid (ty T k = ti) := hti
  have HR : Hid (R = (decide (0 ≤ ti.up) && decide (ti.up < k) && holds (ty T ti.up.toNat).kind && decide (ti.up.toNat ∈ chain T (k - 1)) &&
    (if (ty T ti.up.toNat).kind = 4 then bare ti else isName ti.name && decide (1 ≤ ti.no) && decide (ti.no ≤ 30) && sis T k))) := by
    show _ = _
    rw [hR]
    unfold partOk
    rw [hti]
  clear hR
  rw [hti] at hci hnk
  clear hti hrow hnm
  obtain ⟨kind, name, no, must, up, most⟩ := ti
  obtain ⟨c0, c1, c2, c3, c4, c5⟩ := hci
  dsimp only at c0 c1 c2 c3 c4 c5 hnk HR
  have hB2 : Below w.heap.size w ((w.alloc (.cells #[.slice (some ⟨g, o, none⟩) T.length cap] 30)).alloc (.cells #[.int .i64 kind, .string name, .int .i64 no, .bool must, .int .i64 up, .int .i64 most] 65)) := ((Below.refl _ w).alloc (Nat.le_refl _) _).alloc (by simp) _
  by_cases hup0 : up < 0
  · have hn : Hid (R = false) := by show _ = _; rw [HR.out]; have : decide (0 ≤ up) = false := by simp; omega
                                    rw [this]; simp
    have hup0' : decide (up < 0) = true := by simpa using hup0
    clear HR
    go_enter Try.func55, Try.ntmps55
    go_wp2
    go_ret
    exact ⟨by rw [hn.out]; rfl, hB2⟩
  · have hd0 : decide (up < 0) = false := by simpa using hup0
    by_cases hupk : (k : Int) ≤ up
    · have hn : Hid (R = false) := by show _ = _; rw [HR.out]; have : decide (up < (k : Int)) = false := by simp; omega
                                      rw [this]; simp
      have hdk : decide ((k : Int) ≤ up) = true := by simpa using hupk
      clear HR
      go_enter Try.func55, Try.ntmps55
      go_wp2
      go_ret
      exact ⟨by rw [hn.out]; rfl, hB2⟩
    · have hdk : decide ((k : Int) ≤ up) = false := by simpa using hupk
      obtain ⟨u, rfl⟩ := Int.eq_ofNat_of_zero_le (show 0 ≤ up by omega)
      rw [Int.toNat_natCast] at HR
      have huk : u < k := by omega
      have hu1 : (u : Int) < (T.length : Int) := by omega
      have hcu0 := (HRW.out u (by omega)).1
      obtain ⟨ku, hku⟩ : ∃ x, (ty T u).kind = x := ⟨_, rfl⟩
      rw [hku] at hcu0 HR
      have HR2 : Hid (R = (holds ku && decide (u ∈ chain T (k - 1)) && (if ku = 4 then bare ⟨kind, name, no, must, (u : Int), most⟩ else isName name && decide (1 ≤ no) && decide (no ≤ 30) && sis T k))) := by
        show _ = _
        rw [HR.out]
        have e1 : decide ((0 : Int) ≤ (u : Int)) = true := by simp
        have e2 : decide ((u : Int) < (k : Int)) = true := by simp; omega
        rw [e1, e2]
        simp
      clear HR hku
      have hT2 : Hid (TysAt ((w.alloc (.cells #[.slice (some ⟨g, o, none⟩) T.length cap] 30)).alloc (.cells #[.int .i64 kind, .string name, .int .i64 no, .bool must, .int .i64 (u : Int), .int .i64 most] 65)) ((w.alloc (.cells #[.slice (some ⟨g, o, none⟩) T.length cap] 30)).alloc (.cells #[.int .i64 kind, .string name, .int .i64 no, .bool must, .int .i64 (u : Int), .int .i64 most] 65)).heap.size (.slice (some ⟨g, o, none⟩) T.length cap) T) := HT.out.below hB2
      go_enter Try.func55, Try.ntmps55
      go_wp2_with fail
      refine (l2Holds_any ku _).mono ?_
      rintro e w1 ⟨rfl, rfl⟩
      by_cases hh : holds ku = true
      · have HR3 : Hid (R = (decide (u ∈ chain T (k - 1)) && (if ku = 4 then bare ⟨kind, name, no, must, (u : Int), most⟩ else isName name && decide (1 ≤ no) && decide (no ≤ 30) && sis T k))) := by show _ = _; rw [HR2.out, hh]; simp
        rw [hh]
        clear hh HR2
        have CA := l2Around_any T (.slice (some ⟨g, o, none⟩) T.length cap) k ((w.alloc (.cells #[.slice (some ⟨g, o, none⟩) T.length cap] 30)).alloc (.cells #[.int .i64 kind, .string name, .int .i64 no, .bool must, .int .i64 (u : Int), .int .i64 most] 65)) hT2.out hk hk1 hl HU.out (by rw [HTI.out]; dsimp only; omega)
        rw [HTI.out] at CA
        dsimp only at CA
        rw [Int.toNat_natCast] at CA
        have CA' : Hid (Calls Try.prog 84 #[.slice (some ⟨g, o, none⟩) T.length cap, .int .i64 k] ((w.alloc (.cells #[.slice (some ⟨g, o, none⟩) T.length cap] 30)).alloc (.cells #[.int .i64 kind, .string name, .int .i64 no, .bool must, .int .i64 (u : Int), .int .i64 most] 65)) fun e w' => e = .returned (.bool (decide (u ∈ chain T (k - 1)))) ∧ w' = ((w.alloc (.cells #[.slice (some ⟨g, o, none⟩) T.length cap] 30)).alloc (.cells #[.int .i64 kind, .string name, .int .i64 no, .bool must, .int .i64 (u : Int), .int .i64 most] 65))) := CA
        clear CA
        go_wp2_with fail
        refine CA'.out.mono ?_
        rintro e w1 ⟨rfl, rfl⟩
        clear CA'
        by_cases hch : u ∈ chain T (k - 1)
        · have HR4 : Hid (R = (if ku = 4 then bare ⟨kind, name, no, must, (u : Int), most⟩ else isName name && decide (1 ≤ no) && decide (no ≤ 30) && sis T k)) := by show _ = _; rw [HR3.out]; simp [hch]
          have hdd : decide (u ∈ chain T (k - 1)) = true := by simpa using hch
          rw [hdd]
          clear hdd hch HR3
          by_cases h4 : ku = 4
          · subst h4
            have HR6 := HR4
            rw [if_pos rfl] at HR6
            clear HR4
            by_cases hne : name.toList = []
            · have hnd : name = ⟨#[]⟩ := by
                apply ByteArray.ext
                have : name.data.toList = [] := by rw [← ByteArray.toList_eq]; exact hne
                exact Array.toList_eq_nil_iff.1 this
              subst hnd
              by_cases hno : no = 0
              · subst hno
                have hn : Hid (R = !must) := by show _ = _; rw [HR6.out]; unfold bare; simp
                clear HR6 hne
                go_wp2
                go_ret
                exact ⟨by rw [hn.out]; rfl, hB2⟩
              · have hno' : (no == 0) = false := by simpa using hno
                have hn : Hid (R = false) := by show _ = _; rw [HR6.out]; unfold bare; simp [hno]
                clear HR6 hne hno
                go_wp2
                go_ret
                exact ⟨by rw [hn.out]; rfl, hB2⟩
            · have hne' : name.toList.isEmpty = false := by simpa using hne
              have hnd : ¬ name = ⟨#[]⟩ := fun e => hne (by rw [e]; simp)
              have hn : Hid (R = false) := by show _ = _; rw [HR6.out]; unfold bare; simp [hnd]
              clear HR6 hne hnd
              go_wp2
              go_ret
              exact ⟨by rw [hn.out]; rfl, hB2⟩
          · have h4' : (ku == 4) = false := by simpa using h4
            rw [if_neg h4] at HR4
            clear h4
            go_wp2_with fail
            refine (l2Name_any name _ hnk).mono ?_
            rintro e w1 ⟨rfl, rfl⟩
            by_cases hin : isName name = true
            · rw [hin] at HR4 ⊢
              clear hin
              go_wp2_with fail
              refine (l1In_any no 1 30 _).mono ?_
              rintro e w1 ⟨rfl, rfl⟩
              by_cases hno : 1 ≤ no ∧ no ≤ 30
              · have hdn : decide (1 ≤ no ∧ no ≤ 30) = true := by simpa using hno
                have HR5 : Hid (R = sis T k) := by show _ = _; rw [HR4.out]; simp [hno.1, hno.2]
                rw [hdn]
                clear hdn hno HR4
                go_wp2
                go_loopw [6] (fun vx wr => ∃ x : Nat, u < x ∧ x ≤ k ∧ vx = .int .i64 (x : Int) ∧ Hid (∀ j, u < j → j < x → sisBad T k j = false) ∧ Below (w.heap.size + 2) ((w.alloc (.cells #[.slice (some ⟨g, o, none⟩) T.length cap] 30)).alloc (.cells #[.int .i64 kind, .string name, .int .i64 no, .bool must, .int .i64 (u : Int), .int .i64 most] 65)) wr)
                  (fun vx _ => k - (intOf vx).toNat)
                case atStart => exact ⟨u + 1, by omega, by omega, by go_num, fun j h1 h2 => by omega, Below.refl _ _⟩
                case round =>
                  obtain ⟨x, hux, hxk, rfl, hall, hbw⟩ := hrel
                  have hB0 : Below w.heap.size w wr := hB2.trans (hbw.mono (by omega))
                  have hsz : w.heap.size + 1 < wr.heap.size := by have := hbw.size; simp at this; omega
                  have hsz' : w.heap.size < wr.heap.size := by omega
                  have q0 : wr.cell? ⟨w.heap.size, 0, none⟩ = some (.slice (some ⟨g, o, none⟩) T.length cap) := (hbw.cell (p := ⟨w.heap.size, 0, none⟩) (by simp)).trans (by simp)
                  have t1 : wr.cell? ⟨w.heap.size + 1, 1, none⟩ = some (.string name) := (hbw.cell (p := ⟨w.heap.size + 1, 1, none⟩) (by simp)).trans (by simp)
                  have t2 : wr.cell? ⟨w.heap.size + 1, 2, none⟩ = some (.int .i64 no) := (hbw.cell (p := ⟨w.heap.size + 1, 2, none⟩) (by simp)).trans (by simp)
                  have t4 : wr.cell? ⟨w.heap.size + 1, 4, none⟩ = some (.int .i64 (u : Int)) := (hbw.cell (p := ⟨w.heap.size + 1, 4, none⟩) (by simp)).trans (by simp)
                  by_cases hlt : x < k
                  · have hlt' : (x : Int) < (k : Int) := by omega
                    have hx1 : (x : Int) < (T.length : Int) := by omega
                    have hx0 : (0 : Int) ≤ (x : Int) := by omega
                    have hcx := (HRW.out x (by omega)).below hB0 hg
                    obtain ⟨tx, htx⟩ : ∃ t, ty T x = t := ⟨_, rfl⟩
                    have HS : Hid (sisBad T k x = (decide (tx.up = (u : Int)) && (decide (no ≤ tx.no) || decide (tx.name = name)))) := by
                      show _ = _
                      unfold sisBad
                      rw [htx, HTI.out]
                    rw [htx] at hcx
                    clear htx
                    obtain ⟨kindx, namex, nox, mustx, upx, mostx⟩ := tx
                    obtain ⟨x0, x1, x2, x3, x4, x5⟩ := hcx
                    dsimp only at x0 x1 x2 x3 x4 x5 HS
                    clear c0 c1 c2 c3 c4 c5 hcu0
                    have hbw2 := fun ob => hbw.alloc (show w.heap.size + 2 ≤ wr.heap.size by omega) ob
                    by_cases hu : upx = (u : Int)
                    · have hu' : (upx == (u : Int)) = true := by simpa using hu
                      by_cases hno : no ≤ nox
                      · have hno' : decide (no ≤ nox) = true := by simpa using hno
                        have hn : Hid (R = false) := by
                          show R = _
                          rw [HR5.out]
                          unfold sis
                          simp only [decide_eq_false_iff_not]
                          intro h
                          have := h x hlt
                          rw [HS.out] at this
                          simp [hu, hno] at this
                        clear hu hall HS HR5 hno HRW
                        go_wp2
                        go_ret
                        exact ⟨by rw [hn.out]; rfl, hB0.alloc hB0.size _⟩
                      · have hno' : decide (no ≤ nox) = false := by simpa using hno
                        by_cases hnm : namex = name
                        · have hn : Hid (R = false) := by
                            show R = _
                            rw [HR5.out]
                            unfold sis
                            simp only [decide_eq_false_iff_not]
                            intro h
                            have := h x hlt
                            rw [HS.out] at this
                            simp [hu, hnm] at this
                          subst hnm
                          clear hu hall HS HR5 hno HRW
                          go_wp2
                          go_ret
                          exact ⟨by rw [hn.out]; rfl, hB0.alloc hB0.size _⟩
                        · have hall2 : Hid (∀ j, u < j → j < x + 1 → sisBad T k j = false) := fun j h1 hj => by
                            by_cases hji : j = x
                            · rw [hji, HS.out]; simp [hno', hnm]
                            · exact hall.out j h1 (by omega)
                          have hnm' := str_neB hnm
                          clear hu hall HS hno hnm HRW
                          go_wp2
                          go_roundw
                          case rel => exact ⟨x + 1, by omega, by omega, by go_num, hall2, hbw2 _⟩
                          case measure => simp [intOf]; omega
                    · have hu' : (upx == (u : Int)) = false := by simpa using hu
                      have hall2 : Hid (∀ j, u < j → j < x + 1 → sisBad T k j = false) := fun j h1 hj => by
                        by_cases hji : j = x
                        · rw [hji, HS.out]; simp [hu]
                        · exact hall.out j h1 (by omega)
                      clear hu hall HS HRW
                      go_wp2
                      go_roundw
                      case rel => exact ⟨x + 1, by omega, by omega, by go_num, hall2, hbw2 _⟩
                      case measure => simp [intOf]; omega
                  · have hke : x = k := by omega
                    subst hke
                    have hge : ¬ ((x : Int) < (x : Int)) := by omega
                    have hn : Hid (R = true) := by
                      show R = _
                      rw [HR5.out]
                      unfold sis
                      simp only [decide_eq_true_eq]
                      intro j hj
                      by_cases hju : u < j
                      · exact hall.out j hju hj
                      · exact sis_low T x j HU.out (by rw [HTI.out]; dsimp only; omega) (by rw [HTI.out]; dsimp only; omega) hj
                    clear hall HR5 HRW
                    go_wp2
                    go_ret
                    exact ⟨by rw [hn.out]; rfl, hB0⟩
              · have hdn : decide (1 ≤ no ∧ no ≤ 30) = false := by simpa using hno
                have hn : Hid (R = false) := by
                  show _ = _
                  rw [HR4.out]
                  by_cases h1 : 1 ≤ no
                  · have : ¬ no ≤ 30 := fun h => hno ⟨h1, h⟩
                    simp [this]
                  · simp [h1]
                rw [hdn]
                clear hdn hno HR4
                go_wp2
                go_ret
                exact ⟨by rw [hn.out]; rfl, hB2⟩
            · have hin' : isName name = false := by simpa using hin
              have hn : Hid (R = false) := by show _ = _; rw [HR4.out, hin']; simp
              rw [hin']
              clear hin hin' HR4
              go_wp2
              go_ret
              exact ⟨by rw [hn.out]; rfl, hB2⟩
        · have hn : Hid (R = false) := by show _ = _; rw [HR3.out]; simp [hch]
          have hdd : decide (u ∈ chain T (k - 1)) = false := by simpa using hch
          rw [hdd]
          clear hdd hch HR3
          go_wp2
          go_ret
          exact ⟨by rw [hn.out]; rfl, hB2⟩
      · have hh' : holds ku = false := by simpa using hh
        have hn : Hid (R = false) := by show _ = _; rw [HR2.out, hh']; simp
        rw [hh']
        clear hh hh' HR2
        go_wp2
        go_ret
        exact ⟨by rw [hn.out]; rfl, hB2⟩

end Go.Proofs.Ytjaklpibjijkkaa
