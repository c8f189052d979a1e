/- Steps of a session that are drawn. Whether two lists of texts, of bools, two sessions are the same: of like ones the answer is yes. What FnSession draws; how a calm session ends. From a slice of bytes that came in to what the draws ask of it. -/
import Derived.Test.YtnlppeieccbhgaaSnBz
import Derived.Test.YtnlppeieccbhgaaXt
import Derived.Test.YtnlppeieccbhgaaGn
import Derived.Deep.DeepCutAuto
import Derived.Deep.AppendLies
import Derived.OwnWalk
import Derived.Test.YtnlppeieccbhgaaSnT
import Derived.Test.YtnlppeieccbhgaaXy
import Derived.Test.YtnlppeieccbhgaaXv
import Derived.OpenShut
namespace Go.Proofs.Ytnlppeieccbhgaa
open Go.RowKit Plain Tpc Ssn

theorem grown_setS {w w1 : World} {r : Option Nat} {g k : Nat} {u : Value} (h : w.grownBy w1 r) (hg : w.heap.size ≤ g) : w.grownBy (w1.setCell ⟨g, k, none⟩ u) r :=
  ⟨h.os, h.tape, h.output, by simp; exact h.size, fun j hj hne => by rw [Below.heap_setCell _ _ _ _ (by show j ≠ g; omega)]; exact h.block j hj hne⟩

/-- one of some texts that are written out -/
theorem ofS_any (b m : Nat) (Z : List ByteArray) (t : TypeId) (w : World) (hc : Cur w b m) (hm : m ≤ 900000000) (h0 : 0 < Z.length) (h1 : Z.length ≤ 100) :
    Calls Try.prog 83 #[.pointer (some ⟨b, 0, none⟩), .slice (some ⟨w.heap.size, 0, none⟩) Z.length Z.length] (w.alloc (.cells (strs Z).toArray t)) fun e w' => ∃ x, e = .returned (.string x) ∧ x ∈ Z ∧ Cur w' b (m + 2) ∧ w.grownBy w' (some b) := by
  have hbl := hc.lt
  refine (of_any b m w.heap.size Z.length Z.length (lq Z) _ (hc.alloc _) (by omega) h0 (by omega) (by omega) (fun i hi => ?_)).mono ?_
  · rw [World.cell?_alloc_at _ _ _ _ rfl, List.getElem?_toArray]
    unfold strs
    rw [List.getElem?_map, lq_at hi]
    rfl
  · rintro e w' ⟨i, hi, rfl, hc', hg⟩
    exact ⟨_, rfl, lq_mem hi, hc', Lib.grownBy_trans (World.grownBy_alloc w _ _) hg⟩

/-- one of some numbers that are written out -/
theorem amongS_any (b m : Nat) (Z : List Int) (t : TypeId) (w : World) (hc : Cur w b m) (hm : m ≤ 900000000) (h0 : 0 < Z.length) (h1 : Z.length ≤ 100) :
    Calls Try.prog 108 #[.pointer (some ⟨b, 0, none⟩), .slice (some ⟨w.heap.size, 0, none⟩) Z.length Z.length] (w.alloc (.cells (Z.map (Value.int .i64)).toArray t)) fun e w' => ∃ x : Int, e = .returned (.int .i64 x) ∧ Cur w' b (m + 2) ∧ w.grownBy w' (some b) := by
  have hbl := hc.lt
  refine (among_any b m w.heap.size Z.length Z.length (fun i => Z.getD i 0) _ (hc.alloc _) (by omega) h0 (by omega) (by omega) (fun i hi => ?_)).mono ?_
  · rw [World.cell?_alloc_at _ _ _ _ rfl, List.getElem?_toArray, List.getElem?_map, List.getElem?_eq_getElem hi]
    simp [List.getD, List.getElem?_eq_getElem hi]
  · rintro e w' ⟨i, hi, rfl, hc', hg⟩
    exact ⟨_, rfl, hc', Lib.grownBy_trans (World.grownBy_alloc w _ _) hg⟩

theorem small30S (Z : List ByteArray) (h : (Z.all fun x => decide (x.size ≤ 30)) = true) (x : ByteArray) (hx : x ∈ Z) : x.size ≤ 30 := by
  rw [List.all_eq_true] at h
  simpa using h x hx

theorem Bz.grown {w w' : World} {b g : Nat} {x0 x1 x2 : Value} (h : Bz w g x0 x1 x2) (hg : w.grownBy w' (some b)) (hne : g ≠ b) : Bz w' g x0 x1 x2 := h.kept (hg.block g h.low (fun q => hne (by simpa using q))) hg.size
theorem Bz.put0 {w : World} {b : Nat} {x0 x1 x2 y : Value} (h : Bz w b x0 x1 x2) : Bz (w.setCell ⟨b, 1, none⟩ y) b x0 y x2 := by
  obtain ⟨h0, h1, h2, h3, h4, h5, h6⟩ := h
  exact ⟨by simp; exact h0, (World.cell?_setCell_other _ _ _ _ (by simp)).trans h1, World.cell?_setCell_same _ _ _ h2, (World.cell?_setCell_other _ _ _ _ (by simp)).trans h3, by rw [World.frozen?_setCell]; exact h4, by rw [World.frozen?_setCell]; exact h5, by rw [World.frozen?_setCell]; exact h6⟩

theorem Cur.setN {w : World} {b n g k : Nat} {u : Value} (h : Cur w b n) (hb : b < g) : Cur (w.setCell ⟨g, k, none⟩ u) b n := h.grown (Lib.grownBy_setCell w g k u) (fun j hj => by simp at hj; omega)

set_option maxRecDepth 100000 in
set_option maxHeartbeats 8000000 in
theorem sesSteps_any (b m : Nat) (w : World) (hc : Cur w b m) (hm : m ≤ 700000000) :
    Calls Try.prog 85 #[.pointer (some ⟨b, 0, none⟩)] w fun e w' => ∃ (T : List Sp) (v : Value), e = .returned v ∧ SpRow w' w.heap.size v T ∧ T.length ≤ 201 ∧ (∀ x ∈ T, x.tx.size ≤ 30) ∧ Cur w' b (m + 5000) ∧ w.grownBy w' (some b) := by
  obtain ⟨i0, hi0, hz0, hz1', hz2⟩ := info_parts Try.infoSp
  have hbl := hc.lt
  go_enter Try.func85, Try.ntmps85
  go_wp2_with fail
  refine (pick_any b m _ _ hc (by omega)).mono ?_
  rintro e w1 ⟨n0, rfl, hn0, hc1, hg1⟩
  have hn16 : n0 ≤ 40 := by omega
  clear hn0 hc
  go_wp2_with fail
  refine (one_any b _ _ _ hc1 (by omega)).mono ?_
  rintro e w2 ⟨t, rfl, hc2, hg2⟩
  have hg2' := Lib.grownBy_trans hg1 hg2
  clear hc1 hg1 hg2
  go_upto_if 9 with fail
  go_cut [4] (fun s4 wx => ∃ n : Nat, n ≤ 201 ∧ s4 = .int .i64 (n : Int) ∧ Cur wx b (m + 8) ∧ w.grownBy wx (some b))
  case first =>
    cases t with
    | false =>
      go_wp2_with fail
      go_meet
      exact ⟨n0, by omega, rfl, hc2.le (by omega), hg2'⟩
    | true =>
      go_wp2_with fail
      refine (pick_any b _ _ _ hc2 (by omega)).mono ?_
      rintro e w3 ⟨n1, rfl, hn1, hc3, hg3⟩
      have hn1' : n1 ≤ 31 := by omega
      clear hn1 hc2
      go_wp2_with fail
      go_meet
      exact ⟨170 + n1, by omega, by go_num, hc3.le (by omega), Lib.grownBy_trans hg2' hg3⟩
  case rest =>
    obtain ⟨n1, hn1, rfl, hc3, hg3⟩ := hcut
    clear hc2 hg2' hn16
    go_wp2_with fail
    go_loopw [3, 4] (fun vs vn wr => ∃ (L : List Sp) (n : Nat), n ≤ 201 ∧ vn = .int .i64 (n : Int) ∧ Hid (SpRow wr w.heap.size vs L) ∧ L.length + n ≤ 201 ∧ Hid (∀ x ∈ L, x.tx.size ≤ 30) ∧ Cur wr b (m + 8 + 20 * (201 - n)) ∧ w.grownBy wr (some b))
      (fun _ vn _ => (intOf vn).toNat)
    case atStart => exact ⟨[], n1, hn1, rfl, ⟨rfl, .inl ⟨rfl, rfl⟩⟩, by simp; omega, fun x hx => by simp at hx, hc3.le (by omega), hg3⟩
    case round =>
      obtain ⟨L, n, hn, rfl, hR, hLn, hS, hcr, hgr⟩ := hrel
      clear hc3 hg3 hn1
      obtain ⟨av, cv, hvs, _, _⟩ := hR.out.slice
      by_cases h0 : n = 0
      · subst h0
        subst hvs
        go_wp2
        go_ret
        exact ⟨L, _, rfl, hR.out, by omega, hS.out, hcr.le (by omega), hgr⟩
      · have hn0 : (0 : Int) < (n : Int) := by omega
        have hn1 : (0 : Int) ≤ (n : Int) - 1 := by omega
        subst hvs
        go_upto_region 7 with fail
        go_cut [5] (fun s5 wx => ∃ (g : Nat) (kd kk : Int) (tx : ByteArray), s5 = .pointer (some ⟨g, 0, none⟩) ∧ tx = ⟨#[]⟩ ∧ w.heap.size ≤ g ∧ Hid (∀ g', (Value.slice av L.length cv).ownBlock = some g' → g' ≠ g) ∧ Hid (Bz wx g (.int .i64 kd) (.int .i64 kk) (.string tx)) ∧ Hid (wx.ownsRow w.heap.size 48 3 (.slice av L.length cv) L.length (L.flatMap Sp.cells)) ∧ Cur wx b (m + 8 + 20 * (201 - n) + 4) ∧ w.grownBy wx (some b))
        case first =>
          go_wp2_with fail
          refine (amongS_any b _ [1, 2, 2, 2, 3, 3, 3, 4, 5, 6, 6] _ wr hcr (by omega) (by decide) (by decide)).mono ?_
          rintro e w3 ⟨k0, rfl, hc3, hg3⟩
          have hlt := World.ownsRow.lt hR.out
          have HZ3 : Hid (w3.ownsRow w.heap.size 48 3 (.slice av L.length cv) L.length (L.flatMap Sp.cells)) := own_asideS hR.out hg3 (fun g' hg' e => by have := (hlt g' hg').1; simp at e; omega)
          have hg3' := Lib.grownBy_trans hgr hg3
          clear hcr hgr hg3 hlt hR
          go_wp2_with fail
          refine (pick_any b _ _ _ hc3 (by omega)).mono ?_
          rintro e w4 ⟨k1, rfl, hk1, hc4, hg4⟩
          have hlt := World.ownsRow.lt HZ3.out
          have HZ4 : Hid (w4.ownsRow w.heap.size 48 3 (.slice av L.length cv) L.length (L.flatMap Sp.cells)) := own_asideS HZ3.out hg4 (fun g' hg' e => by have := (hlt g' hg').1; simp at e; omega)
          have hg4' := Lib.grownBy_trans hg3' hg4
          have hs4 := hg4'.size
          have hk1' : (k1 : Int) ≤ 3 := by omega
          have HNB : Hid (∀ g', (Value.slice av L.length cv).ownBlock = some g' → g' ≠ w4.heap.size) := fun g' hg' => by have := (World.ownsRow.lt HZ4.out g' hg').2; omega
          clear hc3 hg3' hg4 hlt HZ3 hk1
          go_wp2_with fail
          go_meet
          exact ⟨w4.heap.size, k0, k1, ⟨#[]⟩, rfl, rfl, hs4, HNB.out, Bz.fresh w4 _ _ _ _, HZ4.out.alloc _, (hc4.alloc _).le (by omega), Lib.grownBy_allocR hg4' _⟩
        case rest =>
          obtain ⟨g, k0, k1, tx0, rfl, rfl, hgw, HNB, HB5, HZ5, hc5, hg5⟩ := hcut
          rename World => W5
          clear hcr hgr hR
          have y0 := HB5.out.c0
          have hbg : g ≠ b := by omega
          have hbb : b < g := by omega
          rename (∀ (a : Act) (w : World), Code.wp Try.prog _ _ a w → _) => hK
          refine hK _ _ ?_
          clear hK
          refine Go.wp_seq_k (fun K hK => ?_)
          go_cut [] (fun wx => ∃ (kd kk : Int) (tx : ByteArray), tx.size ≤ 30 ∧ Hid (Bz wx g (.int .i64 kd) (.int .i64 kk) (.string tx)) ∧ Hid (wx.ownsRow w.heap.size 48 3 (.slice av L.length cv) L.length (L.flatMap Sp.cells)) ∧ Cur wx b (m + 8 + 20 * (201 - n) + 10) ∧ w.grownBy wx (some b))
          case first =>
            by_cases h1 : k0 = 1
            · have e1 : (k0 == 1) = true := by simp [h1]
              go_wp2_with fail
              refine (ofS_any b _ [⟨#[97]⟩, ⟨#[98]⟩, ⟨#[105, 116, 101, 109]⟩, ⟨#[]⟩] _ W5 hc5 (by omega) (by decide) (by decide)).mono ?_
              rintro e w6 ⟨x, rfl, hx, hc6, hg6⟩
              have hx30 := small30S _ (by rfl) x hx
              have hlt := World.ownsRow.lt HZ5.out
              have HZ6 : Hid (w6.ownsRow w.heap.size 48 3 (.slice av L.length cv) L.length (L.flatMap Sp.cells)) := own_asideS HZ5.out hg6 (fun g' hg' e => by have := (hlt g' hg').1; simp at e; omega)
              have HB6 : Hid (Bz w6 g (.int .i64 k0) (.int .i64 k1) (.string ⟨#[]⟩)) := HB5.out.grown hg6 hbg
              have hg6' := Lib.grownBy_trans hg5 hg6
              have x2 := HB6.out.c2
              have q2 := HB6.out.f2
              clear hx hlt y0 HZ5 HB5 hg5 hg6 hc5
              go_wp2_with fail
              go_meet
              exact ⟨k0, k1, x, hx30, HB6.out.put2, own_setCellS HZ6.out _ _ _ HNB.out, (hc6.setN hbb).le (by omega), grown_setS hg6' hgw⟩
            · have e1 : (k0 == 1) = false := by simp [h1]
              by_cases h2 : k0 = 2
              · have e2 : (k0 == 2) = true := by simp [h2]
                go_wp2_with fail
                refine (pick_any b _ _ _ hc5 (by omega)).mono ?_
                rintro e w6 ⟨x, rfl, hx, hc6, hg6⟩
                have hlt := World.ownsRow.lt HZ5.out
                have HZ6 : Hid (w6.ownsRow w.heap.size 48 3 (.slice av L.length cv) L.length (L.flatMap Sp.cells)) := own_asideS HZ5.out hg6 (fun g' hg' e => by have := (hlt g' hg').1; simp at e; omega)
                have HB6 : Hid (Bz w6 g (.int .i64 k0) (.int .i64 k1) (.string ⟨#[]⟩)) := HB5.out.grown hg6 hbg
                have hg6' := Lib.grownBy_trans hg5 hg6
                have x1 := HB6.out.c1
                have q1 := HB6.out.f1
                clear hx hlt y0 HZ5 HB5 hg5 hg6 hc5
                go_wp2_with fail
                go_meet
                exact ⟨k0, x, ⟨#[]⟩, by decide, HB6.out.put0, own_setCellS HZ6.out _ _ _ HNB.out, (hc6.setN hbb).le (by omega), grown_setS hg6' hgw⟩
              · have e2 : (k0 == 2) = false := by simp [h2]
                go_wp2_with fail
                refine (one_any b _ _ _ hc5 (by omega)).mono ?_
                rintro e w6 ⟨y, rfl, hc6, hg6⟩
                have hlt := World.ownsRow.lt HZ5.out
                have HZ6 : Hid (w6.ownsRow w.heap.size 48 3 (.slice av L.length cv) L.length (L.flatMap Sp.cells)) := own_asideS HZ5.out hg6 (fun g' hg' e => by have := (hlt g' hg').1; simp at e; omega)
                have HB6 : Hid (Bz w6 g (.int .i64 k0) (.int .i64 k1) (.string ⟨#[]⟩)) := HB5.out.grown hg6 hbg
                have hg6' := Lib.grownBy_trans hg5 hg6
                have x0 := HB6.out.c0
                have x1 := HB6.out.c1
                have x2 := HB6.out.c2
                have q0 := HB6.out.f0
                have q1 := HB6.out.f1
                have q2 := HB6.out.f2
                clear hlt y0 HZ5 HB5 hg5 hg6 hc5
                cases y with
                | false =>
                  go_wp2_with fail
                  go_meet
                  exact ⟨k0, k1, ⟨#[]⟩, by decide, HB6.out, HZ6.out, hc6.le (by omega), hg6'⟩
                | true =>
                  go_wp2_with fail
                  go_meet
                  exact ⟨7, 0, ⟨#[]⟩, by decide, HB6.out.sets, own_setCellS (own_setCellS (own_setCellS HZ6.out _ _ _ HNB.out) _ _ _ HNB.out) _ _ _ HNB.out, (((hc6.setN hbb).setN hbb).setN hbb).le (by omega), grown_setS (grown_setS (grown_setS hg6' hgw) hgw) hgw⟩
          case rest =>
            obtain ⟨kd, kk, tx, htx, HB7, HZ7, hc7, hg7⟩ := hcut
            rename World => w7
            clear hc5 hg5 HB5 HZ5 y0
            go_wp2_with fail
            refine (one_any b _ _ _ hc7 (by omega)).mono ?_
            rintro e w6 ⟨y, rfl, hc6, hg6⟩
            have hlt := World.ownsRow.lt HZ7.out
            have HZ6 : Hid (w6.ownsRow w.heap.size 48 3 (.slice av L.length cv) L.length (L.flatMap Sp.cells)) := own_asideS HZ7.out hg6 (fun g' hg' e => by have := (hlt g' hg').1; simp at e; omega)
            have HB6 : Hid (Bz w6 g (.int .i64 kd) (.int .i64 kk) (.string tx)) := HB7.out.grown hg6 hbg
            have hg6' := Lib.grownBy_trans hg7 hg6
            clear hlt HZ7 HB7 hg7 hg6 hc7
            go_upto_if 43 with fail
            go_cut [] (fun wx => ∃ (kd kk : Int) (tx : ByteArray), tx.size ≤ 30 ∧ Hid (Bz wx g (.int .i64 kd) (.int .i64 kk) (.string tx)) ∧ Hid (wx.ownsRow w.heap.size 48 3 (.slice av L.length cv) L.length (L.flatMap Sp.cells)) ∧ Cur wx b (m + 8 + 20 * (201 - n) + 18) ∧ w.grownBy wx (some b))
            case first =>
              cases y with
              | false =>
                go_wp2_with fail
                go_meet
                exact ⟨kd, kk, tx, htx, HB6.out, HZ6.out, hc6.le (by omega), hg6'⟩
              | true =>
                go_wp2_with fail
                refine (pick_any b _ _ _ hc6 (by omega)).mono ?_
                rintro e w8 ⟨x, rfl, hx, hc8, hg8⟩
                have hlt := World.ownsRow.lt HZ6.out
                have HZ8 : Hid (w8.ownsRow w.heap.size 48 3 (.slice av L.length cv) L.length (L.flatMap Sp.cells)) := own_asideS HZ6.out hg8 (fun g' hg' e => by have := (hlt g' hg').1; simp at e; omega)
                have HB8 : Hid (Bz w8 g (.int .i64 kd) (.int .i64 kk) (.string tx)) := HB6.out.grown hg8 hbg
                have hg8' := Lib.grownBy_trans hg6' hg8
                clear hx hlt HZ6 HB6 hg6' hg8 hc6
                go_wp2_with fail
                refine (pick_any b _ _ _ hc8 (by omega)).mono ?_
                rintro e w9 ⟨x2, rfl, hx2, hc9, hg9⟩
                have hlt := World.ownsRow.lt HZ8.out
                have HZ9 : Hid (w9.ownsRow w.heap.size 48 3 (.slice av L.length cv) L.length (L.flatMap Sp.cells)) := own_asideS HZ8.out hg9 (fun g' hg' e => by have := (hlt g' hg').1; simp at e; omega)
                have HB9 : Hid (Bz w9 g (.int .i64 kd) (.int .i64 kk) (.string tx)) := HB8.out.grown hg9 hbg
                have hg9' := Lib.grownBy_trans hg8' hg9
                have hx9 : (x2 : Int) ≤ 6 := by omega
                have z0 := HB9.out.c0
                have z1 := HB9.out.c1
                have z2 := HB9.out.c2
                have f0 := HB9.out.f0
                have f1 := HB9.out.f1
                have f2 := HB9.out.f2
                clear hx2 hlt HZ8 HB8 hg8' hg9 hc8
                go_wp2_with fail
                go_meet
                exact ⟨_, _, ⟨#[97, 32, 116, 101, 120, 116, 32, 111, 102, 32, 109, 111, 114, 101, 32, 116, 104, 97, 110, 32, 116, 119, 101, 110, 116, 121]⟩, by decide, HB9.out.sets, own_setCellS (own_setCellS (own_setCellS HZ9.out _ _ _ HNB.out) _ _ _ HNB.out) _ _ _ HNB.out, (((hc9.setN hbb).setN hbb).setN hbb).le (by omega), grown_setS (grown_setS (grown_setS hg9' hgw) hgw) hgw⟩
            case rest =>
              obtain ⟨kd, kk, tx, htx, HB9, HZ9, hc9, hg9⟩ := hcut
              rename World => w9
              clear hc6 hg6' HB6 HZ6
              have z0 := HB9.out.c0
              have z1 := HB9.out.c1
              have z2 := HB9.out.c2
              have hs9 := hg9.size
              go_wp2_with (at_builtin; refine wpList_append_lies _ rfl _ _ 56 rfl w.heap.size 48 i0 (.agg #[.int .i64 0, .int .i64 0, .string ⟨#[]⟩]) 3 32 Try.underlying56 hi0 hz0 hz1' hz2 rfl (by decide) _ L.length _ rfl (World.ownsRow.alloc HZ9.out _) ⟨w9.heap.size, 0, none⟩ 1 1 (Sp.cells ⟨kd, kk, tx⟩) rfl rfl (World.news_of_block (heap_alloc_new w9 _)) (Sp.cells_one _) (by omega) (by unfold maxLen; omega) (by omega) (by simp; omega) (w9.heap.size + 1) (by simp) ?_)
              intro g9 cap9 wz hown9 hgrow9 hat9 hlt9
              have hlt3 := World.ownsRow.lt HZ9.out
              have hZ9 : Hid (SpRow wz w.heap.size (.slice (some ⟨g9, 0, none⟩) (L.length + 1) cap9) (L ++ [⟨kd, kk, tx⟩])) := SpRow.snoc hown9 rfl
              have hga : w.grownBy (w9.alloc (.cells (Sp.cells ⟨kd, kk, tx⟩).toArray 48)) (some b) := Lib.grownBy_allocR hg9 _
              have hc10 : Cur wz b (m + 8 + 20 * (201 - n) + 18) := (hc9.alloc _).grown hgrow9 (fun k hk => by have := (hlt3 k hk).1; omega)
              have hsa := hga.size
              have hg10 : w.grownBy wz (some b) := ⟨hgrow9.os.trans hga.os, hgrow9.tape.trans hga.tape, hgrow9.output.trans hga.output, Nat.le_trans hga.size hgrow9.size, fun i hi hne => (hgrow9.block i (by simp; omega) (fun e => by have := (hlt3 i e.symm).1; omega)).trans (hga.block i hi hne)⟩
              have HS9 : Hid (∀ x ∈ L ++ [(⟨kd, kk, tx⟩ : Sp)], x.tx.size ≤ 30) := fun x hx => by
                rcases List.mem_append.1 hx with h1 | h1
                · exact hS.out x h1
                · rw [List.mem_singleton] at h1
                  rw [h1]
                  exact htx
              clear hown9 hgrow9 hat9 HZ9 HB9 hga hlt3 hc9 hg9 z0 z1 z2
              go_wp2
              go_roundw
              case rel => exact ⟨L ++ [⟨kd, kk, tx⟩], n - 1, by omega, by go_num, hZ9, by rw [List.length_append, List.length_singleton]; omega, HS9, hc10.le (by omega), hg10⟩
              case measure => simp [intOf]; omega

end Go.Proofs.Ytnlppeieccbhgaa

namespace Go.Proofs.Ytnlppeieccbhgaa
open Go.RowKit Plain Tpc Ssn

set_option maxRecDepth 100000 in
set_option maxHeartbeats 4000000 in
theorem sameTextsS_same (l : List ByteArray) (v1 v2 : Value) (w : World) (h1 : StAt w w.heap.size v1 l) (h2 : StAt w w.heap.size v2 l) (hl : l.length ≤ 2097152) :
    Calls Try.prog 42 #[v1, v2] w fun e w' => e = .returned (.bool true) ∧ Below w.heap.size w w' := by
  obtain ⟨ao, cap, rfl, hmax, _, hrow⟩ := h1
  obtain ⟨ao2, cap2, rfl, _, _, hrow2⟩ := h2
  go_enter Try.func42, Try.ntmps42
  go_wp2
  go_loopw [13] (fun vi wr => ∃ k : Nat, k ≤ l.length ∧ vi = .int .i64 (k : Int) ∧ Below w.heap.size w wr)
    (fun vi _ => l.length - (intOf vi).toNat)
  case atStart => exact ⟨0, by omega, rfl, Below.refl _ _⟩
  case round =>
    obtain ⟨k, hk, rfl, hbw⟩ := hrel
    by_cases hlt : k < l.length
    · obtain ⟨g, o, rfl, hg, c⟩ := hrow k hlt
      obtain ⟨g2, o2, rfl, hg2, c2⟩ := hrow2 k hlt
      have e1 := (hbw.cell (p := ⟨g, o + k, none⟩) hg).trans c
      have e2 := (hbw.cell (p := ⟨g2, o2 + k, none⟩) hg2).trans c2
      clear hrow hrow2 c c2
      generalize lq l k = s at e1 e2
      have hlt' : (k : Int) < (l.length : Int) := by omega
      go_wp2_with fail
      go_quiet (fail)
      go_wp2
      go_roundw
      case rel => exact ⟨k + 1, by omega, by go_num, below_drewN hbw⟩
      case measure => simp [intOf]; omega
    · have hke : k = l.length := by omega
      subst hke
      have hge : ¬ ((l.length : Int) < (l.length : Int)) := by omega
      go_wp2
      go_ret
      exact ⟨rfl, hbw⟩

set_option maxRecDepth 100000 in
set_option maxHeartbeats 4000000 in
theorem sameBoolsS_same (l : List Bool) (v1 v2 : Value) (w : World) (h1 : EAt w w.heap.size v1 l) (h2 : EAt w w.heap.size v2 l) (hl : l.length ≤ 2097152) :
    Calls Try.prog 46 #[v1, v2] w fun e w' => e = .returned (.bool true) ∧ Below w.heap.size w w' := by
  obtain ⟨ao, cap, rfl, hmax, _, hrow⟩ := h1
  obtain ⟨ao2, cap2, rfl, _, _, hrow2⟩ := h2
  go_enter Try.func46, Try.ntmps46
  go_wp2
  go_loopw [13] (fun vi wr => ∃ k : Nat, k ≤ l.length ∧ vi = .int .i64 (k : Int) ∧ Below w.heap.size w wr)
    (fun vi _ => l.length - (intOf vi).toNat)
  case atStart => exact ⟨0, by omega, rfl, Below.refl _ _⟩
  case round =>
    obtain ⟨k, hk, rfl, hbw⟩ := hrel
    by_cases hlt : k < l.length
    · obtain ⟨g, o, rfl, hg, c⟩ := hrow k hlt
      obtain ⟨g2, o2, rfl, hg2, c2⟩ := hrow2 k hlt
      have e1 := (hbw.cell (p := ⟨g, o + k, none⟩) hg).trans c
      have e2 := (hbw.cell (p := ⟨g2, o2 + k, none⟩) hg2).trans c2
      generalize en l k = b at e1 e2
      have hbb : (b == b) = true := by simp
      clear hrow hrow2 c c2
      have hlt' : (k : Int) < (l.length : Int) := by omega
      go_wp2_with fail
      go_quiet (fail)
      go_wp2
      go_roundw
      case rel => exact ⟨k + 1, by omega, by go_num, below_drewN hbw⟩
      case measure => simp [intOf]; omega
    · have hke : k = l.length := by omega
      subst hke
      have hge : ¬ ((l.length : Int) < (l.length : Int)) := by omega
      go_wp2
      go_ret
      exact ⟨rfl, hbw⟩

set_option maxRecDepth 100000 in
set_option maxHeartbeats 8000000 in
theorem sameSessions_same (s : Ses) (vi vh vw va ui uh uw ua : Value) (w : World) (h1 : SesAt w w.heap.size s vi vh vw va) (h2 : SesAt w w.heap.size s ui uh uw ua) (hl : Sml s 1048576) :
    Calls Try.prog 41 #[.agg #[.int .i64 s.ep, vi, .int .i64 s.base, vh, vw, va], .agg #[.int .i64 s.ep, ui, .int .i64 s.base, uh, uw, ua]] w fun e w' => e = .returned (.bool true) ∧ Below w.heap.size w w' := by
  have H1 : Hid (SesAt w w.heap.size s vi vh vw va) := h1
  have H2 : Hid (SesAt w w.heap.size s ui uh uw ua) := h2
  obtain ⟨ai1, ci1, ah1, ch1, aw1, cw1, aa1, ca1, rfl, rfl, rfl, rfl⟩ := h1.form
  obtain ⟨ai2, ci2, ah2, ch2, aw2, cw2, aa2, ca2, rfl, rfl, rfl, rfl⟩ := h2.form
  obtain ⟨l1, l2, l3, l4⟩ := hl
  obtain ⟨W0, hW0⟩ : ∃ X, X = (w.alloc (.cells #[.int .i64 s.ep, .slice ai1 s.items.length ci1, .int .i64 s.base, .slice ah1 s.handed.length ch1, .slice aw1 s.way.length cw1, .slice aa1 s.acks.length ca1] 26)).alloc (.cells #[.int .i64 s.ep, .slice ai2 s.items.length ci2, .int .i64 s.base, .slice ah2 s.handed.length ch2, .slice aw2 s.way.length cw2, .slice aa2 s.acks.length ca2] 26) := ⟨_, rfl⟩
  have hB0 : Below w.heap.size w W0 := by rw [hW0]; exact ((Below.refl _ w).alloc (Nat.le_refl _) _).alloc (by simp) _
  have HV1 : Hid (Sv W0 w.heap.size (.int .i64 s.ep) (.slice ai1 s.items.length ci1) (.int .i64 s.base) (.slice ah1 s.handed.length ch1) (.slice aw1 s.way.length cw1) (.slice aa1 s.acks.length ca1)) := by
    show Sv _ _ _ _ _ _ _ _
    rw [hW0]
    exact (Sv.fresh w _ _ _ _ _ _ _).below ((Below.refl _ _).alloc (Nat.le_refl _) _)
  have HV2 : Hid (Sv W0 (w.heap.size + 1) (.int .i64 s.ep) (.slice ai2 s.items.length ci2) (.int .i64 s.base) (.slice ah2 s.handed.length ch2) (.slice aw2 s.way.length cw2) (.slice aa2 s.acks.length ca2)) := by
    show Sv _ _ _ _ _ _ _ _
    have h := Sv.fresh (w.alloc (.cells #[.int .i64 s.ep, .slice ai1 s.items.length ci1, .int .i64 s.base, .slice ah1 s.handed.length ch1, .slice aw1 s.way.length cw1, .slice aa1 s.acks.length ca1] 26)) (.int .i64 s.ep) (.slice ai2 s.items.length ci2) (.int .i64 s.base) (.slice ah2 s.handed.length ch2) (.slice aw2 s.way.length cw2) (.slice aa2 s.acks.length ca2) 26
    rw [hW0]
    simpa using h
  have HB0 : Hid (Below w.heap.size w W0) := hB0
  have HC1 : Hid (∀ W, Below W0.heap.size W0 W → Calls Try.prog 42 #[.slice ai1 s.items.length ci1, .slice ai2 s.items.length ci2] W fun e w' => e = .returned (.bool true) ∧ Below W.heap.size W w') := fun W hW => sameTextsS_same s.items _ _ W (H1.out.i.below (HB0.out.trans (hW.mono HB0.out.size))) (H2.out.i.below (HB0.out.trans (hW.mono HB0.out.size))) (by omega)
  have HC2 : Hid (∀ W, Below W0.heap.size W0 W → Calls Try.prog 42 #[.slice ah1 s.handed.length ch1, .slice ah2 s.handed.length ch2] W fun e w' => e = .returned (.bool true) ∧ Below W.heap.size W w') := fun W hW => sameTextsS_same s.handed _ _ W (H1.out.h.below (HB0.out.trans (hW.mono HB0.out.size))) (H2.out.h.below (HB0.out.trans (hW.mono HB0.out.size))) (by omega)
  clear h1 h2 hB0
  have y0 := (HV1.out).c0
  have y1 := (HV1.out).c1
  have y2 := (HV1.out).c2
  have y3 := (HV1.out).c3
  have y4 := (HV1.out).c4
  have y5 := (HV1.out).c5
  have z0 := (HV2.out).c0
  have z1 := (HV2.out).c1
  have z2 := (HV2.out).c2
  have z3 := (HV2.out).c3
  have z4 := (HV2.out).c4
  have z5 := (HV2.out).c5
  go_enter Try.func41, Try.ntmps41
  go_upto_region 1 with fail
  rw [← hW0]
  clear hW0
  go_wp2_with fail
  go_at_call 42
  refine (HC1.out _ (Below.refl _ W0)).mono ?_
  rintro e w1 ⟨rfl, hb1⟩
  clear y0 y1 y2 y3 y4 y5 z0 z1 z2 z3 z4 z5
  have HB1 : Hid (Below W0.heap.size W0 w1) := hb1
  have y0 := (HV1.out.below HB1.out).c0
  have y1 := (HV1.out.below HB1.out).c1
  have y2 := (HV1.out.below HB1.out).c2
  have y3 := (HV1.out.below HB1.out).c3
  have y4 := (HV1.out.below HB1.out).c4
  have y5 := (HV1.out.below HB1.out).c5
  have z0 := (HV2.out.below HB1.out).c0
  have z1 := (HV2.out.below HB1.out).c1
  have z2 := (HV2.out.below HB1.out).c2
  have z3 := (HV2.out.below HB1.out).c3
  have z4 := (HV2.out.below HB1.out).c4
  have z5 := (HV2.out.below HB1.out).c5
  clear hb1
  go_wp2_with fail
  go_at_call 42
  refine (HC2.out _ HB1.out).mono ?_
  rintro e w2 ⟨rfl, hb2⟩
  clear y0 y1 y2 y3 y4 y5 z0 z1 z2 z3 z4 z5
  have HB2 : Hid (Below W0.heap.size W0 w2) := HB1.out.trans (hb2.mono HB1.out.size)
  have y0 := (HV1.out.below HB2.out).c0
  have y1 := (HV1.out.below HB2.out).c1
  have y2 := (HV1.out.below HB2.out).c2
  have y3 := (HV1.out.below HB2.out).c3
  have y4 := (HV1.out.below HB2.out).c4
  have y5 := (HV1.out.below HB2.out).c5
  have z0 := (HV2.out.below HB2.out).c0
  have z1 := (HV2.out.below HB2.out).c1
  have z2 := (HV2.out.below HB2.out).c2
  have z3 := (HV2.out.below HB2.out).c3
  have z4 := (HV2.out.below HB2.out).c4
  have z5 := (HV2.out.below HB2.out).c5
  clear hb2
  go_wp2_with fail
  clear y0 y1 y2 y3 y4 y5 z0 z1 z2 z3 z4 z5
  go_loopw [56] (fun vi wr => ∃ k : Nat, k ≤ s.way.length ∧ vi = .int .i64 (k : Int) ∧ Hid (Below W0.heap.size W0 wr))
    (fun vi _ => s.way.length - (intOf vi).toNat)
  case atStart => exact ⟨0, by omega, rfl, HB2.out⟩
  case round =>
    obtain ⟨k, hk, rfl, HBW⟩ := hrel
    by_cases hlt : k < s.way.length
    · have hBw := HB0.out.trans (HBW.out.mono HB0.out.size)
      obtain ⟨_, _, hq1, _, _, hrow1⟩ := H1.out.y
      obtain ⟨_, _, hq2, _, _, hrow2⟩ := H2.out.y
      simp only [Value.slice.injEq] at hq1 hq2
      obtain ⟨rfl, -, rfl⟩ := hq1
      obtain ⟨rfl, -, rfl⟩ := hq2
      obtain ⟨g, o, rfl, hg, c⟩ := hrow1 k hlt
      obtain ⟨g2, o2, rfl, hg2, c2⟩ := hrow2 k hlt
      have e1 := c.below hBw hg
      have e2 := c2.below hBw hg2
      clear hrow1 hrow2 c c2 hBw
      generalize pk s.way k = p at e1 e2
      obtain ⟨pe, pn, pt⟩ := p
      obtain ⟨d0, d1, d2⟩ := e1
      obtain ⟨f0, f1, f2⟩ := e2
      dsimp only at d0 f0 d1 f1 d2 f2
      have hlt' : (k : Int) < (s.way.length : Int) := by omega
      have y0 := (HV1.out.below HBW.out).c0
      have z0 := (HV2.out.below HBW.out).c0
      have y1 := (HV1.out.below HBW.out).c1
      have z1 := (HV2.out.below HBW.out).c1
      have y2 := (HV1.out.below HBW.out).c2
      have z2 := (HV2.out.below HBW.out).c2
      have y3 := (HV1.out.below HBW.out).c3
      have z3 := (HV2.out.below HBW.out).c3
      have y4 := (HV1.out.below HBW.out).c4
      have z4 := (HV2.out.below HBW.out).c4
      have y5 := (HV1.out.below HBW.out).c5
      have z5 := (HV2.out.below HBW.out).c5
      go_wp2_with fail
      go_quiet (fail)
      go_wp2
      go_roundw
      case rel => exact ⟨k + 1, by omega, by go_num, below_drewN HBW.out⟩
      case measure => simp [intOf]; omega
    · have hke : k = s.way.length := by omega
      subst hke
      have hge : ¬ ((s.way.length : Int) < (s.way.length : Int)) := by omega
      have HB3 : Hid (Below W0.heap.size W0 wr) := HBW.out
      have y0 := (HV1.out.below HBW.out).c0
      have z0 := (HV2.out.below HBW.out).c0
      have y1 := (HV1.out.below HBW.out).c1
      have z1 := (HV2.out.below HBW.out).c1
      have y2 := (HV1.out.below HBW.out).c2
      have z2 := (HV2.out.below HBW.out).c2
      have y3 := (HV1.out.below HBW.out).c3
      have z3 := (HV2.out.below HBW.out).c3
      have y4 := (HV1.out.below HBW.out).c4
      have z4 := (HV2.out.below HBW.out).c4
      have y5 := (HV1.out.below HBW.out).c5
      have z5 := (HV2.out.below HBW.out).c5
      go_wp2_with fail
      clear y0 y1 y2 y3 y4 y5 z0 z1 z2 z3 z4 z5 hge
      obtain ⟨wo, rfl⟩ : ∃ W, W = wr := ⟨_, rfl⟩
      go_loopw [74] (fun vi wr => ∃ k : Nat, k ≤ s.acks.length ∧ vi = .int .i64 (k : Int) ∧ Hid (Below W0.heap.size W0 wr))
        (fun vi _ => s.acks.length - (intOf vi).toNat)
      case atStart => exact ⟨0, by omega, rfl, HB3.out⟩
      case round =>
        obtain ⟨k, hk, rfl, HBW⟩ := hrel
        by_cases hlt : k < s.acks.length
        · have hBw := HB0.out.trans (HBW.out.mono HB0.out.size)
          obtain ⟨_, _, hq1, _, _, hrow1⟩ := H1.out.a
          obtain ⟨_, _, hq2, _, _, hrow2⟩ := H2.out.a
          simp only [Value.slice.injEq] at hq1 hq2
          obtain ⟨rfl, -, rfl⟩ := hq1
          obtain ⟨rfl, -, rfl⟩ := hq2
          obtain ⟨g, o, rfl, hg, c⟩ := hrow1 k hlt
          obtain ⟨g2, o2, rfl, hg2, c2⟩ := hrow2 k hlt
          have e1 := c.below hBw hg
          have e2 := c2.below hBw hg2
          clear hrow1 hrow2 c c2 hBw
          generalize ak s.acks k = p at e1 e2
          obtain ⟨pe, pn⟩ := p
          obtain ⟨d0, d1⟩ := e1
          obtain ⟨f0, f1⟩ := e2
          dsimp only at d0 f0 d1 f1
          have hlt' : (k : Int) < (s.acks.length : Int) := by omega
          have y0 := (HV1.out.below HBW.out).c0
          have z0 := (HV2.out.below HBW.out).c0
          have y1 := (HV1.out.below HBW.out).c1
          have z1 := (HV2.out.below HBW.out).c1
          have y2 := (HV1.out.below HBW.out).c2
          have z2 := (HV2.out.below HBW.out).c2
          have y3 := (HV1.out.below HBW.out).c3
          have z3 := (HV2.out.below HBW.out).c3
          have y4 := (HV1.out.below HBW.out).c4
          have z4 := (HV2.out.below HBW.out).c4
          have y5 := (HV1.out.below HBW.out).c5
          have z5 := (HV2.out.below HBW.out).c5
          go_wp2_with fail
          go_quiet (fail)
          go_wp2
          go_roundw
          case rel => exact ⟨k + 1, by omega, by go_num, below_drewN HBW.out⟩
          case measure => simp [intOf]; omega
        · have hke : k = s.acks.length := by omega
          subst hke
          have hge : ¬ ((s.acks.length : Int) < (s.acks.length : Int)) := by omega
          go_wp2
          go_ret
          exact ⟨rfl, HB0.out.trans (HBW.out.mono HB0.out.size)⟩

end Go.Proofs.Ytnlppeieccbhgaa

namespace Go.Proofs.Ytnlppeieccbhgaa
open Go.RowKit Plain Tpc Ssn

theorem clmA_full : ∀ (k c : Nat) (t : Ses), k + c = 31 → Gd t → t.way = [] → t.acks = [] → (c : Int) ≤ t.base →
    (clmA k t c).1.way = [] ∧ (clmA k t c).1.acks = [] ∧ (clmA k t c).1.items = t.items ∧ Gd (clmA k t c).1 ∧ ¬ (clmA k t c).1.base < ((clmA k t c).1.items.length : Int)
  | 0, c, t, hk, hg, hw, ha, hb => ⟨hw, ha, rfl, hg, by
    have := hg.il
    show ¬ t.base < (t.items.length : Int)
    omega⟩
  | n + 1, c, t, hk, hg, hw, ha, hb => by
    by_cases h : t.base < (t.items.length : Int)
    · rw [clmA_step h]
      have hs : sendK t t.base = true := by rw [calm_send hw]; exact decide_eq_true h
      obtain ⟨h1, h2, h3, _, h5⟩ := calm_keep (hg.send hs)
      have hr := calm_rise hw ha hg
      obtain ⟨r1, r2, r3, r4, r5⟩ := clmA_full n (c + 1) (calm (sendS t t.base)) (by omega) h5 h1 h2 (by omega)
      exact ⟨r1, r2, r3.trans (h3.trans rfl), r4, r5⟩
    · rw [clmA_end h]
      exact ⟨hw, ha, rfl, hg, h⟩

/-- once nothing is lost all is handed on -/
theorem clm_all {s : Ses} (hg : Gd s) : ∃ ep, (clm s).1 = ⟨ep, s.items, (s.items.length : Int), s.items, [], []⟩ := by
  obtain ⟨h1, h2, h3, h4, h5⟩ := calm_keep hg
  have hb0 := hg.b0
  obtain ⟨r1, r2, r3, r4, r5⟩ := clmA_full 31 0 (calm s) rfl h5 h1 h2 (by simp; omega)
  have e : clmA 31 (calm s) 0 = clm s := rfl
  rw [e] at r1 r2 r3 r4 r5
  rw [h3] at r3
  generalize (clm s).1 = r at r1 r2 r3 r4 r5
  have q1 := r4.b1
  have q2 := r4.hl
  have q3 := r4.he
  have hl : r.handed.length = r.items.length := by omega
  have hh : r.handed = s.items := by rw [q3, hl, List.take_of_length_le (Nat.le_refl _), r3]
  have hb : r.base = (s.items.length : Int) := by rw [← r3]; omega
  obtain ⟨ep, it, ba, ha, wa, ac⟩ := r
  dsimp only at r1 r2 r3 hh hb
  subst r1 r2 r3 hh hb
  exact ⟨ep, rfl⟩

set_option maxRecDepth 100000 in
set_option maxHeartbeats 4000000 in
theorem drawPlayS_any (ao : Option Addr) (len cap : Nat) (w : World) (h : CodeAt w ao len) :
    Calls Try.prog 45 #[.slice ao len cap] w fun e w' => (∃ (t : ByteArray) (T : List Sp) (a : Option Addr) (c : Nat), e = .returned (.tuple #[.string t, .slice a T.length c]) ∧ t.size ≤ 30 ∧ SpRow w' w.heap.size (.slice a T.length c) T ∧ T.length ≤ 201 ∧ ∀ x ∈ T, x.tx.size ≤ 30) ∧ Below w.heap.size w w' := by
  have hC := Cur.made (cap := cap) h 116
  obtain ⟨W1, hW1⟩ : ∃ W, W = w.alloc (.cells #[.slice ao len cap, .int .i64 0, .int .u64 0] 116) := ⟨_, rfl⟩
  rw [← hW1] at hC
  have hB1 : Below w.heap.size w W1 := by rw [hW1]; exact (Below.refl _ w).alloc (Nat.le_refl _) _
  skip
  go_enter Try.func45, Try.ntmps45
  go_upto_region 2 with fail
  rw [← hW1]
  clear hW1
  go_wp2_with fail
  refine (ofS_any w.heap.size _ [⟨#[102, 105, 114, 115, 116]⟩, ⟨#[]⟩, ⟨#[120]⟩] _ W1 hC (by omega) (by decide) (by decide)).mono ?_
  rintro e w2 ⟨x, rfl, hx, hc2, hg2⟩
  have hx30 := small30S _ (by rfl) x hx
  have hB2 : Below w.heap.size w w2 := hB1.grown hg2 hB1.size (fun k hk => by simp at hk; omega)
  clear hg2 hx hC
  go_wp2_with fail
  refine (sesSteps_any w.heap.size _ w2 hc2 (by omega)).mono ?_
  rintro e w3 ⟨T, v, rfl, hR, hl, hS, _, hg3⟩
  have hB3 : Below w.heap.size w w3 := hB2.grown hg3 hB2.size (fun k hk => by simp at hk; omega)
  have HR : Hid (SpRow w3 w.heap.size v T) := own_lower hR hB2.size
  have HS : Hid (∀ x ∈ T, x.tx.size ≤ 30) := hS
  obtain ⟨a4, c4, rfl, _, _⟩ := hR.slice
  clear hR hg3 hc2 hB1 hB2 hS
  go_wp2_with fail
  go_ret2
  exact ⟨⟨x, T, _, _, rfl, hx30, HR.out, hl, HS.out⟩, hB3⟩

end Go.Proofs.Ytnlppeieccbhgaa

namespace Go.Proofs.Ytnlppeieccbhgaa
open Go.RowKit

theorem code_of_cells {w : World} {x : Addr} {len : Nat} {zs : List Int} (hl : len ≤ zs.length) (hc : ∀ i, i < zs.length → w.cell? (x.add i) = some (.int .u8 (zs.getD i 0))) (hw : ∀ n ∈ zs, (Lit.int .u8 n).wf = true) (h : len ≤ 1048576) : CodeAt w (some x) len := by
  refine ⟨h, fun hz => ?_⟩
  obtain ⟨ab, o, sp⟩ := x
  have h0 := hc 0 (by omega)
  have hsp : sp = none := by simpa [Addr.add] using World.cell?_spot h0
  subst hsp
  refine ⟨ab, o, rfl, World.block_lt_of_cell? w _ h0, fun i hi => ?_⟩
  have hi' : i < zs.length := by omega
  have hci := hc i hi'
  have hmem : zs.getD i 0 ∈ zs := by rw [List.getD_eq_getElem?_getD, List.getElem?_eq_getElem hi']; exact List.getElem_mem hi'
  have hwf := hw _ hmem
  generalize zs.getD i 0 = n at hci hwf
  have hb : 0 ≤ n ∧ n ≤ 255 := bounds_u8 hwf
  obtain ⟨y, rfl⟩ := Int.eq_ofNat_of_zero_le hb.1
  refine ⟨y, by omega, ?_⟩
  by_cases h0 : i = 0
  · subst h0; simpa [Addr.add] using hci
  · simpa [Addr.add, h0] using hci

def IsRow (k : IntKind) (w : World) (a : Option Addr) (len cap : Nat) (zs : List Int) : Prop :=
  (a = none ∧ len = 0 ∧ cap = 0 ∧ zs = []) ∨
  ∃ x, a = some x ∧ len ≤ cap ∧ cap ≤ maxLen ∧ zs.length = cap ∧ (∀ i, i < zs.length → w.cell? (x.add i) = some (.int k (zs.getD i 0))) ∧ ∀ n ∈ zs, (Lit.int k n).wf = true

theorem code_of_row {w : World} {a : Option Addr} {len cap : Nat} {zs : List Int} (h : IsRow .u8 w a len cap zs) (hl : len ≤ 1048576) : CodeAt w a len := by
  rcases h with ⟨rfl, rfl, rfl, rfl⟩ | ⟨x, rfl, h1, h2, h3, h4, h5⟩
  · exact ⟨hl, fun hz => by omega⟩
  · exact code_of_cells (by omega) h4 h5 hl

end Go.Proofs.Ytnlppeieccbhgaa
