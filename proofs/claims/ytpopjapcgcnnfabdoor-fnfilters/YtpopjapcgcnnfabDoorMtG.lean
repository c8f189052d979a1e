/- The model's l7Is. -/
import Derived.Test.YtpopjapcgcnnfabDoorMtC
import Derived.Test.YtpopjapcgcnnfabDoorWsB
import Derived.Deep.DeepCutAuto
import Derived.BigQuiet
namespace Go.Proofs.YtpopjapcgcnnfabDoor
open Go.RowKit Plain Sch Wan

theorem text_ok {T : List Wa} (hg : gf T = true) {k : Nat} (hk : k < T.length) : (wa T k).text.size ≤ 30 := by
  have hok := gf_ok hg k hk
  generalize wa T k = x at hok
  unfold okW at hok
  by_cases h1 : isAsk x.kind = true
  · rw [if_pos h1] at hok
    simp only [okAsk, Bool.and_eq_true, decide_eq_true_eq] at hok
    exact hok.2
  · rw [if_neg h1] at hok
    by_cases h2 : isBin x.kind = true
    · rw [if_pos h2] at hok
      simp only [okBin, Bool.and_eq_true, decide_eq_true_eq] at hok
      have := congrArg (fun x : Wa => x.text.size) hok.1.1.1
      dsimp only at this
      rw [this]; decide
    · rw [if_neg h2] at hok
      by_cases h3 : isNot x.kind = true
      · rw [if_pos h3] at hok
        simp only [okNot, Bool.and_eq_true, decide_eq_true_eq] at hok
        have := congrArg (fun x : Wa => x.text.size) hok.1.1
        dsimp only at this
        rw [this]; decide
      · rw [if_neg h3] at hok; cases hok

set_option maxRecDepth 100000 in
set_option maxHeartbeats 16000000 in
theorem l7Is_ask (T : List Wa) (l : List Fld) (k : Nat) (v vl : Value) (w : World) (hT : WasAt w w.heap.size v T) (hF : FldsAt w w.heap.size vl l) (hk : k < T.length) (_hT20 : T.length ≤ 20) (hl : l.length ≤ 40) (hfd : ∀ f ∈ l, okF f) (ha : isAsk (wa T k).kind = true) (htx : (wa T k).text.size ≤ 30) :
    Calls Tryd.prog 79 #[.agg #[v], .int .i64 k, vl] w fun e w' => e = .returned (.bool (askF l (wa T k))) ∧ Below w.heap.size w w' := by
  obtain ⟨ao, cap, rfl, hlc, hcm, hrow, hnm⟩ := hT
  obtain ⟨g, o, rfl, hg, hci⟩ := hrow k hk
  obtain ⟨al, capl, rfl, _, hrl⟩ := hF
  have HRL : Hid (∀ i f, l[i]? = some f → ∃ g o, al = some ⟨g, o, none⟩ ∧ g < w.heap.size ∧ w.cell? ⟨g, o + i * 4, none⟩ = some (.int .i64 f.no) ∧ w.cell? ⟨g, o + i * 4 + 1, none⟩ = some (.int .i64 f.kind) ∧ w.cell? ⟨g, o + i * 4 + 2, none⟩ = some (.int .i64 f.num) ∧ w.cell? ⟨g, o + i * 4 + 3, none⟩ = some (.string f.data)) := hrl
  have HFD : Hid (∀ f ∈ l, okF f) := hfd
  clear hrow hnm hrl hfd
  unfold maxLen at hcm
  have hk' : (k : Int) < (T.length : Int) := by omega
  obtain ⟨R, hR⟩ : ∃ R, R = askF l (wa T k) := ⟨_, rfl⟩
  rw [← hR]
  have HR : Hid (R = askF l (wa T k)) := hR
  clear hR
  generalize wa T k = x at hci ha htx HR
  obtain ⟨kd, n, m, t, a, b⟩ := x
  obtain ⟨c0, c1, c2, c3, c4, c5⟩ := hci
  dsimp only at c0 c1 c2 c3 c4 c5 ha htx
  have hkb := ask_bounds ha
  have d6 : (kd == 6) = false := by simp; omega
  have d7 : (kd == 7) = false := by simp; omega
  have d8 : (kd == 8) = false := by simp; omega
  have hts : (t.size : Int) ≤ 30 := by omega
  obtain ⟨W2, hW2⟩ : ∃ W, W = (w.alloc (.cells #[.slice (some ⟨g, o, none⟩) T.length cap] 25)).alloc (.cells #[.int .i64 kd, .int .i64 n, .int .i64 m, .string t, .int .i64 a, .int .i64 b] 72) := ⟨_, rfl⟩
  have hB2 : Below w.heap.size w W2 := by rw [hW2]; exact ((Below.refl _ w).alloc (Nat.le_refl _) _).alloc (by simp) _
  have hs2 : Hid (W2.heap.size = w.heap.size + 2) := by show _ = _; rw [hW2]; simp
  have hl2 : w.heap.size + 1 < W2.heap.size := by rw [hs2.out]; omega
  have z0 : W2.cell? ⟨w.heap.size + 1, 0, none⟩ = some (.int .i64 kd) := by rw [hW2]; go_simp
  have z1 : W2.cell? ⟨w.heap.size + 1, 1, none⟩ = some (.int .i64 n) := by rw [hW2]; go_simp
  have z2 : W2.cell? ⟨w.heap.size + 1, 2, none⟩ = some (.int .i64 m) := by rw [hW2]; go_simp
  have z3 : W2.cell? ⟨w.heap.size + 1, 3, none⟩ = some (.string t) := by rw [hW2]; go_simp
  have Q2 : Hid (∀ W, Below W2.heap.size W2 W → (W.cell? ⟨w.heap.size + 1, 0, none⟩ = some (.int .i64 kd) ∧ W.cell? ⟨w.heap.size + 1, 1, none⟩ = some (.int .i64 n) ∧ W.cell? ⟨w.heap.size + 1, 2, none⟩ = some (.int .i64 m) ∧ W.cell? ⟨w.heap.size + 1, 3, none⟩ = some (.string t)) ∧ Below w.heap.size w W ∧ w.heap.size + 1 < W.heap.size) := fun W hW =>
    ⟨⟨(hW.cell (p := ⟨w.heap.size + 1, 0, none⟩) hl2).trans z0, (hW.cell (p := ⟨w.heap.size + 1, 1, none⟩) hl2).trans z1, (hW.cell (p := ⟨w.heap.size + 1, 2, none⟩) hl2).trans z2, (hW.cell (p := ⟨w.heap.size + 1, 3, none⟩) hl2).trans z3⟩, hB2.trans (hW.mono (by omega)), by have := hW.size; omega⟩
  go_enter Tryd.func79, Tryd.ntmps79
  go_upto_region 2 with fail
  rw [← hW2]
  clear hW2 c0 c1 c2 c3 c4 c5
  go_wp2
  go_loopw [56] (fun vi wr => ∃ i : Nat, i ≤ l.length ∧ vi = .int .i64 (i : Int) ∧ Hid (∀ (j : Nat) (y : Fld), j < i → l[j]? = some y → y.no ≠ n) ∧ Hid (Below W2.heap.size W2 wr))
    (fun vi _ => l.length - (intOf vi).toNat)
  case atStart => exact ⟨0, by omega, rfl, fun j y hj => by omega, Below.refl _ _⟩
  case round =>
    clear z0 z1 z2 z3
    obtain ⟨i, hil, rfl, hall, hbw⟩ := hrel
    have hsz : W2.heap.size ≤ wr.heap.size := hbw.out.size
    obtain ⟨⟨z0, z1, z2, z3⟩, hB0, hs0⟩ := Q2.out _ hbw.out
    by_cases hlt : i < l.length
    · have hlt' : (i : Int) < (l.length : Int) := by omega
      obtain ⟨f, hx⟩ : ∃ f, l[i]? = some f := ⟨_, List.getElem?_eq_getElem hlt⟩
      obtain ⟨g1, o1, rfl, hg1, c0, c1, c2, c3⟩ := HRL.out i f hx
      have c0 := (hB0.cell (p := ⟨g1, o1 + i * 4, none⟩) hg1).trans c0
      have c1 := (hB0.cell (p := ⟨g1, o1 + i * 4 + 1, none⟩) hg1).trans c1
      have c2 := (hB0.cell (p := ⟨g1, o1 + i * 4 + 2, none⟩) hg1).trans c2
      have c3 := (hB0.cell (p := ⟨g1, o1 + i * 4 + 3, none⟩) hg1).trans c3
      have hgw : g1 < wr.heap.size := by omega
      obtain ⟨hfk, hfs⟩ := HFD.out f (List.mem_of_getElem? hx)
      by_cases hno : f.no = n
      · have hF3 : Hid (R = isSo ⟨kd, n, m, t, a, b⟩ f) := by
          show R = _
          rw [HR.out]
          unfold askF
          dsimp only
          rw [fby_at l n i f hall.out hx hno]
        have hno' : (f.no != n) = false := by simp [hno]
        have hbn : ∀ o, Below w.heap.size w (wr.alloc o) := fun o => hB0.alloc (by omega) o
        obtain ⟨fn, fk, fm, fd⟩ := f
        dsimp only at c0 c1 c2 c3 hno' hfk hfs
        have hfs' : (fd.size : Int) ≤ 400 := by omega
        clear hall hx hno HR HRL HFD hbw Q2
        by_cases h3 : kd ≤ 3
        · rcases hfk with hf0 | hf2
          · subst hf0
            by_cases k1 : kd = 1
            · subst k1
              have hF4 : Hid (R = (fm == m)) := by show R = _; rw [hF3.out]; unfold isSo cmpN; simp; rfl
              clear hF3
              go_wp2
              go_ret
              exact ⟨by rw [hF4.out]; rfl, hbn _⟩
            · have e1 : (kd == 1) = false := by simpa using k1
              by_cases k2 : kd = 2
              · subst k2
                have hF4 : Hid (R = decide (fm < m)) := by show R = _; rw [hF3.out]; unfold isSo cmpN; simp
                clear hF3
                go_wp2
                go_ret
                exact ⟨by rw [hF4.out]; rfl, hbn _⟩
              · have e3 : kd = 3 := by omega
                subst e3
                have hF4 : Hid (R = decide (m < fm)) := by show R = _; rw [hF3.out]; unfold isSo cmpN; simp
                clear hF3
                go_wp2
                go_ret
                exact ⟨by rw [hF4.out]; rfl, hbn _⟩
          · subst hf2
            have hF4 : Hid (R = false) := by show R = _; rw [hF3.out]; unfold isSo; dsimp only; rw [if_pos h3]; rfl
            clear hF3
            by_cases k1 : kd = 1
            · subst k1
              go_wp2
              go_ret
              exact ⟨by rw [hF4.out]; rfl, hbn _⟩
            · have e1 : (kd == 1) = false := by simpa using k1
              by_cases k2 : kd = 2
              · subst k2
                go_wp2
                go_ret
                exact ⟨by rw [hF4.out]; rfl, hbn _⟩
              · have e3 : kd = 3 := by omega
                subst e3
                go_wp2
                go_ret
                exact ⟨by rw [hF4.out]; rfl, hbn _⟩
        · by_cases h4 : kd = 4
          · subst h4
            have hF4 : Hid (R = true) := hF3.out
            clear hF3
            go_wp2
            go_ret
            exact ⟨by rw [hF4.out]; rfl, hbn _⟩
          · have h5 : kd = 5 := by omega
            subst h5
            have hF4 : Hid (R = (decide (fk = 2) && preB fd t)) := hF3.out
            clear hF3
            rcases hfk with hf0 | hf2
            · subst hf0
              have hF5 : Hid (R = false) := hF4.out
              clear hF4
              go_wp2_with fail
              go_quiet (fail)
              go_wp2
              go_ret
              exact ⟨by rw [hF5.out]; rfl, by first | exact below_drewN (hbn _) | exact hbn _⟩
            · subst hf2
              by_cases hp : t.size ≤ fd.size
              · have hp' : (t.size : Int) ≤ (fd.size : Int) := by omega
                by_cases he : fd.extract 0 t.size = t
                · have hF5 : Hid (R = true) := by show R = _; rw [hF4.out]; unfold preB; simp [hp, he]
                  have he' : ((fd.extract 0 t.size).toList == t.toList) = true := by rw [he]; simp
                  clear hF4 he hp
                  go_wp2_with fail
                  go_quiet (fail)
                  go_wp2
                  go_ret
                  exact ⟨by rw [hF5.out]; rfl, by first | exact below_drewN (hbn _) | exact hbn _⟩
                · have hF5 : Hid (R = false) := by show R = _; rw [hF4.out]; unfold preB; simp [he]
                  have he' : ((fd.extract 0 t.size).toList == t.toList) = false := str_neB he
                  clear hF4 he hp
                  go_wp2_with fail
                  go_quiet (fail)
                  go_wp2
                  go_ret
                  exact ⟨by rw [hF5.out]; rfl, by first | exact below_drewN (hbn _) | exact hbn _⟩
              · have hp' : decide ((t.size : Int) ≤ (fd.size : Int)) = false := by simp; omega
                have hpn : decide (t.size ≤ fd.size) = false := by simpa using hp
                have hF5 : Hid (R = false) := by show R = _; rw [hF4.out]; unfold preB; simp [hp]
                clear hF4 hp
                go_wp2_with fail
                go_quiet (fail)
                go_wp2
                go_ret
                exact ⟨by rw [hF5.out]; rfl, by first | exact below_drewN (hbn _) | exact hbn _⟩
      · have hno' : (f.no != n) = true := by simp [hno]
        have hall2 : Hid (∀ (j : Nat) (y : Fld), j < i + 1 → l[j]? = some y → y.no ≠ n) := fun j y hj hy => by
          by_cases e : j = i
          · rw [e, hx] at hy; cases hy; exact hno
          · exact hall.out j y (by omega) hy
        have hbn : Hid (Below W2.heap.size W2 (wr.alloc (.cells #[.int .i64 f.no, .int .i64 f.kind, .int .i64 f.num, .string f.data] 101))) := hbw.out.alloc hsz _
        clear hall hx hno
        go_wp2
        go_roundw
        case rel => exact ⟨i + 1, by omega, by go_num, hall2, hbn⟩
        case measure => simp [intOf]; omega
    · have hge : ¬ ((i : Int) < (l.length : Int)) := by omega
      have hF4 : Hid (R = false) := by
        show R = _
        rw [HR.out]
        unfold askF
        dsimp only
        rw [fby_none l n (fun j y hy => hall.out j y (by have := (List.getElem?_eq_some_iff.1 hy).1; omega) hy)]
      clear hall HR
      go_wp2
      go_ret
      exact ⟨by rw [hF4.out]; rfl, hB0⟩

set_option maxRecDepth 100000 in
set_option maxHeartbeats 8000000 in
theorem l7Is_any (T : List Wa) (l : List Fld) (hg : gf T = true) (hl : l.length ≤ 40) (hfd : ∀ f ∈ l, okF f) : ∀ (k : Nat), k < T.length → ∀ (v vl : Value) (w : World), WasAt w w.heap.size v T → FldsAt w w.heap.size vl l →
    Calls Tryd.prog 79 #[.agg #[v], .int .i64 k, vl] w fun e w' => e = .returned (.bool (tl l T k)) ∧ Below w.heap.size w w' := by
  intro k
  induction k using Nat.strongRecOn with
  | _ k ih =>
    intro hk v vl w hT hF
    have IH : Hid (∀ j, j < k → ∀ (v vl : Value) (w : World), WasAt w w.heap.size v T → FldsAt w w.heap.size vl l → Calls Tryd.prog 79 #[.agg #[v], .int .i64 j, vl] w fun e w' => e = .returned (.bool (tl l T j)) ∧ Below w.heap.size w w') := fun j hj v vl w h1 h2 => ih j hj (by omega) v vl w h1 h2
    clear ih
    obtain ⟨_, h20⟩ := gf_len hg
    rcases Wan.kind_cases (gf_ok hg k hk) with h | h | h
    · rw [tl_ask hk h]
      exact l7Is_ask T l k v vl w hT hF hk h20 hl hfd h (text_ok hg hk)
    · have HT : Hid (WasAt w w.heap.size v T) := hT
      have HF : Hid (FldsAt w w.heap.size vl l) := hF
      obtain ⟨ao, cap, rfl, hlc, hcm, hrow, hnm⟩ := hT
      obtain ⟨al, capl, rfl, _⟩ := hF
      obtain ⟨g, o, rfl, hgb, hci⟩ := hrow k hk
      clear hrow hnm
      unfold maxLen at hcm
      have hk' : (k : Int) < (T.length : Int) := by omega
      obtain ⟨ha0, hab, hbk⟩ := okW_bin (gf_ok hg k hk) h
      have h6 : Hid ((wa T k).kind = 6 → tl l T k = (tl l T (wa T k).a.toNat && tl l T (wa T k).b.toNat)) := fun e => tl_and hg hk e
      have h7 : Hid ((wa T k).kind = 7 → tl l T k = (tl l T (wa T k).a.toNat || tl l T (wa T k).b.toNat)) := fun e => tl_or hg hk e
      have hkb := bin_bounds h
      obtain ⟨R, hR⟩ : ∃ R, R = tl l T k := ⟨_, rfl⟩
      rw [← hR] at h6 h7 ⊢
      clear hR hg h
      generalize wa T k = x at hci ha0 hab hbk h6 h7 hkb
      obtain ⟨kd, n, m, t, a, b⟩ := x
      obtain ⟨c0, c1, c2, c3, c4, c5⟩ := hci
      dsimp only at c0 c1 c2 c3 c4 c5 ha0 hab hbk h6 h7 hkb
      obtain ⟨x, rfl⟩ := Int.eq_ofNat_of_zero_le ha0
      obtain ⟨y, rfl⟩ := Int.eq_ofNat_of_zero_le (show 0 ≤ b by omega)
      rw [show ((x : Nat) : Int).toNat = x by omega, show ((y : Nat) : Int).toNat = y by omega] at h6 h7
      have CX : Hid (∀ (v vl : Value) (w : World), WasAt w w.heap.size v T → FldsAt w w.heap.size vl l → Calls Tryd.prog 79 #[.agg #[v], .int .i64 x, vl] w fun e w' => e = .returned (.bool (tl l T x)) ∧ Below w.heap.size w w') := IH.out x (by omega)
      have CY : Hid (∀ (v vl : Value) (w : World), WasAt w w.heap.size v T → FldsAt w w.heap.size vl l → Calls Tryd.prog 79 #[.agg #[v], .int .i64 y, vl] w fun e w' => e = .returned (.bool (tl l T y)) ∧ Below w.heap.size w w') := IH.out y (by omega)
      generalize tl l T x = tx at h6 h7 CX
      generalize tl l T y = ty at h6 h7 CY
      clear IH
      obtain ⟨W2, hW2⟩ : ∃ W, W = (w.alloc (.cells #[.slice (some ⟨g, o, none⟩) T.length cap] 25)).alloc (.cells #[.int .i64 kd, .int .i64 n, .int .i64 m, .string t, .int .i64 (x : Int), .int .i64 (y : Int)] 72) := ⟨_, rfl⟩
      have hB2 : Below w.heap.size w W2 := by rw [hW2]; exact ((Below.refl _ w).alloc (Nat.le_refl _) _).alloc (by simp) _
      have hs2 : Hid (W2.heap.size = w.heap.size + 2) := by show _ = _; rw [hW2]; simp
      have hl2 : w.heap.size + 1 < W2.heap.size := by rw [hs2.out]; omega
      have q2 : W2.cell? ⟨w.heap.size, 0, none⟩ = some (.slice (some ⟨g, o, none⟩) T.length cap) := by rw [hW2]; go_simp
      have z5 : W2.cell? ⟨w.heap.size + 1, 5, none⟩ = some (.int .i64 (y : Int)) := by rw [hW2]; go_simp
      rcases hkb with hk6 | hk7
      · subst hk6
        have hF2 : Hid (R = (tx && ty)) := h6.out rfl
        clear h6 h7
        go_enter Tryd.func79, Tryd.ntmps79
        go_wp2_with fail
        rw [← hW2]
        clear hW2 c0 c1 c2 c3 c4 c5
        refine (CX.out _ _ _ (HT.out.below hB2) (HF.out.below hB2)).mono ?_
        rintro e w3 ⟨rfl, hb3⟩
        have hB3 : Below w.heap.size w w3 := hB2.trans (hb3.mono (by omega))
        have hl3 : w.heap.size + 1 < w3.heap.size := by have := hb3.size; omega
        have q3 := (hb3.cell (p := ⟨w.heap.size, 0, none⟩) (by show w.heap.size < _; omega)).trans q2
        have z5 := (hb3.cell (p := ⟨w.heap.size + 1, 5, none⟩) hl2).trans z5
        clear hb3 q2
        cases tx with
        | false =>
          have hF3 : Hid (R = false) := hF2.out
          clear hF2
          go_wp2
          go_ret
          exact ⟨by rw [hF3.out]; rfl, hB3⟩
        | true =>
          have hF3 : Hid (R = ty) := by show R = _; rw [hF2.out]; rfl
          clear hF2
          go_wp2_with fail
          refine (CY.out _ _ _ (HT.out.below hB3) (HF.out.below hB3)).mono ?_
          rintro e w4 ⟨rfl, hb4⟩
          have hB4 : Below w.heap.size w w4 := hB3.trans (hb4.mono (by omega))
          clear hb4
          go_wp2
          go_ret
          exact ⟨by rw [hF3.out]; rfl, hB4⟩
      · subst hk7
        have hF2 : Hid (R = (tx || ty)) := h7.out rfl
        clear h6 h7
        go_enter Tryd.func79, Tryd.ntmps79
        go_wp2_with fail
        rw [← hW2]
        clear hW2 c0 c1 c2 c3 c4 c5
        refine (CX.out _ _ _ (HT.out.below hB2) (HF.out.below hB2)).mono ?_
        rintro e w3 ⟨rfl, hb3⟩
        have hB3 : Below w.heap.size w w3 := hB2.trans (hb3.mono (by omega))
        have hl3 : w.heap.size + 1 < w3.heap.size := by have := hb3.size; omega
        have q3 := (hb3.cell (p := ⟨w.heap.size, 0, none⟩) (by show w.heap.size < _; omega)).trans q2
        have z5 := (hb3.cell (p := ⟨w.heap.size + 1, 5, none⟩) hl2).trans z5
        clear hb3 q2
        cases tx with
        | true =>
          have hF3 : Hid (R = true) := by show R = _; rw [hF2.out]; rfl
          clear hF2
          go_wp2
          go_ret
          exact ⟨by rw [hF3.out]; rfl, hB3⟩
        | false =>
          have hF3 : Hid (R = ty) := by show R = _; rw [hF2.out]; rfl
          clear hF2
          go_wp2_with fail
          refine (CY.out _ _ _ (HT.out.below hB3) (HF.out.below hB3)).mono ?_
          rintro e w4 ⟨rfl, hb4⟩
          have hB4 : Below w.heap.size w w4 := hB3.trans (hb4.mono (by omega))
          clear hb4
          go_wp2
          go_ret
          exact ⟨by rw [hF3.out]; rfl, hB4⟩
    · have HT : Hid (WasAt w w.heap.size v T) := hT
      have HF : Hid (FldsAt w w.heap.size vl l) := hF
      obtain ⟨ao, cap, rfl, hlc, hcm, hrow, hnm⟩ := hT
      obtain ⟨al, capl, rfl, _⟩ := hF
      obtain ⟨g, o, rfl, hgb, hci⟩ := hrow k hk
      clear hrow hnm
      unfold maxLen at hcm
      have hk' : (k : Int) < (T.length : Int) := by omega
      obtain ⟨ha0, hak⟩ := okW_not (gf_ok hg k hk) h
      have hkb := not_bounds h
      have h8 : Hid (tl l T k = !tl l T (wa T k).a.toNat) := tl_not hg hk hkb
      obtain ⟨R, hR⟩ : ∃ R, R = tl l T k := ⟨_, rfl⟩
      rw [← hR] at h8 ⊢
      clear hR hg h
      generalize wa T k = x at hci ha0 hak h8 hkb
      obtain ⟨kd, n, m, t, a, b⟩ := x
      obtain ⟨c0, c1, c2, c3, c4, c5⟩ := hci
      dsimp only at c0 c1 c2 c3 c4 c5 ha0 hak h8 hkb
      subst hkb
      obtain ⟨x, rfl⟩ := Int.eq_ofNat_of_zero_le ha0
      rw [show ((x : Nat) : Int).toNat = x by omega] at h8
      have CX : Hid (∀ (v vl : Value) (w : World), WasAt w w.heap.size v T → FldsAt w w.heap.size vl l → Calls Tryd.prog 79 #[.agg #[v], .int .i64 x, vl] w fun e w' => e = .returned (.bool (tl l T x)) ∧ Below w.heap.size w w') := IH.out x (by omega)
      generalize tl l T x = tx at h8 CX
      clear IH
      obtain ⟨W2, hW2⟩ : ∃ W, W = (w.alloc (.cells #[.slice (some ⟨g, o, none⟩) T.length cap] 25)).alloc (.cells #[.int .i64 8, .int .i64 n, .int .i64 m, .string t, .int .i64 (x : Int), .int .i64 b] 72) := ⟨_, rfl⟩
      have hB2 : Below w.heap.size w W2 := by rw [hW2]; exact ((Below.refl _ w).alloc (Nat.le_refl _) _).alloc (by simp) _
      go_enter Tryd.func79, Tryd.ntmps79
      go_wp2_with fail
      rw [← hW2]
      clear hW2 c0 c1 c2 c3 c4 c5
      refine (CX.out _ _ _ (HT.out.below hB2) (HF.out.below hB2)).mono ?_
      rintro e w3 ⟨rfl, hb3⟩
      have hB3 : Below w.heap.size w w3 := hB2.trans (hb3.mono hB2.size)
      clear hb3
      go_wp2
      go_ret
      exact ⟨by rw [h8.out]; rfl, hB3⟩

set_option maxRecDepth 100000 in
set_option maxHeartbeats 4000000 in
theorem l7Matches_any (T : List Wa) (l : List Fld) (hg : gf T = true) (hl : l.length ≤ 40) (hfd : ∀ f ∈ l, okF f) (v vl : Value) (w : World) (hT : WasAt w w.heap.size v T) (hF : FldsAt w w.heap.size vl l) :
    Calls Tryd.prog 46 #[.agg #[v], vl] w fun e w' => e = .returned (.bool (tl l T (T.length - 1))) ∧ Below w.heap.size w w' := by
  obtain ⟨h0, h20⟩ := gf_len hg
  have CD : Hid (∀ (v vl : Value) (w : World), WasAt w w.heap.size v T → FldsAt w w.heap.size vl l → Calls Tryd.prog 79 #[.agg #[v], .int .i64 ((T.length : Int) - 1), vl] w fun e w' => e = .returned (.bool (tl l T (T.length - 1))) ∧ Below w.heap.size w w') := fun v vl w h1 h2 => by
    have := l7Is_any T l hg hl hfd (T.length - 1) (by omega) v vl w h1 h2
    rw [show (((T.length - 1 : Nat)) : Int) = (T.length : Int) - 1 by omega] at this
    exact this
  have HT : Hid (WasAt w w.heap.size v T) := hT
  have HF : Hid (FldsAt w w.heap.size vl l) := hF
  obtain ⟨ao, cap, rfl, hlc, hcm, _⟩ := hT
  obtain ⟨al, capl, rfl, _⟩ := hF
  unfold maxLen at hcm
  generalize tl l T (T.length - 1) = res at CD ⊢
  have hB1 : ∀ o, Below w.heap.size w (w.alloc o) := fun o => (Below.refl _ w).alloc (Nat.le_refl _) o
  go_enter Tryd.func46, Tryd.ntmps46
  go_wp2_with fail
  refine (CD.out _ _ _ (HT.out.below (hB1 _)) (HF.out.below (hB1 _))).mono ?_
  rintro e w2 ⟨rfl, hb2⟩
  have hB2 : Below w.heap.size w w2 := (hB1 _).trans (hb2.mono (by simp))
  clear hb2
  go_wp2
  go_ret
  exact ⟨rfl, hB2⟩

set_option maxRecDepth 100000 in
set_option maxHeartbeats 4000000 in
theorem specMatches (T : List Wa) (s : ByteArray) (v : Value) (w : World) (hT : WasAt w w.heap.size v T) (hsm : s.size ≤ maxLen) :
    Calls Tryd.prog 20 #[.agg #[v], .string s] w fun e w' => e = .returned (.tuple #[.bool (mto T s).1, .bool (mto T s).2]) ∧ Below w.heap.size w w' := by
  have HT : Hid (WasAt w w.heap.size v T) := hT
  obtain ⟨ao, cap, rfl, hlc, hcm, _⟩ := hT
  obtain ⟨W1, hW1⟩ : ∃ W, W = w.alloc (.cells #[.slice ao T.length cap] 25) := ⟨_, rfl⟩
  have hB1 : Below w.heap.size w W1 := by rw [hW1]; exact (Below.refl _ w).alloc (Nat.le_refl _) _
  have hl1 : w.heap.size < W1.heap.size := by rw [hW1]; simp
  have q1 : W1.cell? ⟨w.heap.size, 0, none⟩ = some (.slice ao T.length cap) := by rw [hW1]; go_simp
  have CR : Hid (∀ W, Calls Tryd.prog 40 #[.string s] W fun e w' => OFs W w' e (rr s)) := fun W => l5Fields_any s W hsm
  have CM : Hid (gf T = true → ∀ (v vl : Value) (w : World), WasAt w w.heap.size v T → FldsAt w w.heap.size vl (rr s).1 → Calls Tryd.prog 46 #[.agg #[v], vl] w fun e w' => e = .returned (.bool (tl (rr s).1 T (T.length - 1))) ∧ Below w.heap.size w w') := fun hg v vl w h1 h2 => l7Matches_any T _ hg (rr_lenM s) (rr_all s) v vl w h1 h2
  obtain ⟨R, hR⟩ : ∃ R, R = mto T s := ⟨_, rfl⟩
  rw [← hR]
  have HR : Hid (R = if gf T && (rr s).2 then (tl (rr s).1 T (T.length - 1), true) else (false, false)) := hR
  clear hR
  generalize rr s = F at CR CM HR
  obtain ⟨l, ok⟩ := F
  have HR2 : Hid (R = if gf T && ok then (tl l T (T.length - 1), true) else (false, false)) := HR
  clear HR
  unfold OFs at CR
  dsimp only at CR CM
  go_enter Tryd.func20, Tryd.ntmps20
  go_wp2_with fail
  rw [← hW1]
  clear hW1
  refine (CR.out _).mono ?_
  rintro e w2 ⟨vl, rfl, hF2, hb2⟩
  have HF2 : Hid (FldsAt w2 w2.heap.size vl l) := hF2
  obtain ⟨al, capl, rfl, _⟩ := hF2
  have hB2 : Below w.heap.size w w2 := hB1.trans (hb2.mono (by omega))
  have hl2 : w.heap.size < w2.heap.size := by have := hb2.size; omega
  have q2 := (hb2.cell (p := ⟨w.heap.size, 0, none⟩) hl1).trans q1
  clear hb2 q1 CR
  go_wp2_with fail
  refine (specGoodF T _ _ (HT.out.below hB2)).mono ?_
  rintro e w3 ⟨rfl, hb3⟩
  have hB3 : Below w.heap.size w w3 := hB2.trans (hb3.mono (by omega))
  have q3 := (hb3.cell (p := ⟨w.heap.size, 0, none⟩) hl2).trans q2
  have HF3 : Hid (FldsAt w3 w3.heap.size (.slice al l.length capl) l) := HF2.out.below hb3
  clear hb3 q2 HF2
  cases hg : gf T with
  | false =>
    have hn : Hid (R = (false, false)) := by show R = _; rw [HR2.out, hg]; rfl
    clear hg HR2 CM
    go_wp2
    go_ret2
    exact ⟨by rw [hn.out]; rfl, hB3⟩
  | true =>
    have CM2 : Hid (∀ (v vl : Value) (w : World), WasAt w w.heap.size v T → FldsAt w w.heap.size vl l → Calls Tryd.prog 46 #[.agg #[v], vl] w fun e w' => e = .returned (.bool (tl l T (T.length - 1))) ∧ Below w.heap.size w w') := CM.out hg
    cases ok with
    | false =>
      have hn : Hid (R = (false, false)) := by show R = _; rw [HR2.out, hg]; rfl
      clear hg HR2 CM
      go_wp2
      go_ret2
      exact ⟨by rw [hn.out]; rfl, hB3⟩
    | true =>
      have hn : Hid (R = (tl l T (T.length - 1), true)) := by show R = _; rw [HR2.out, hg]; rfl
      clear hg HR2 CM
      generalize tl l T (T.length - 1) = res at CM2 hn
      go_wp2_with fail
      refine (CM2.out _ _ _ (HT.out.below hB3) HF3.out).mono ?_
      rintro e w4 ⟨rfl, hb4⟩
      have hB4 : Below w.heap.size w w4 := hB3.trans (hb4.mono hB3.size)
      clear hb4
      go_wp2
      go_ret2
      exact ⟨by rw [hn.out]; rfl, hB4⟩

end Go.Proofs.YtpopjapcgcnnfabDoor
