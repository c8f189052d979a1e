/- The model's run of a program. -/
import Derived.Test.YtpopjapcgcnnfaaDoorRpA
import Derived.Test.YtpopjapcgcnnfaaDoorMtG
import Derived.Test.YtpopjapcgcnnfaaDoorPsB
namespace Go.Proofs.YtpopjapcgcnnfaaDoor
open Go.RowKit Plain Sch Wan Prg

set_option maxRecDepth 100000 in
set_option maxHeartbeats 4000000 in
theorem l8Seek_any (l : List Fld) (v : Value) (no : Int) (w : World) (hF : FldsAt w w.heap.size v l) (hl : l.length ≤ 40) :
    Calls Tryd.prog 35 #[v, .int .i64 no] w fun e w' => ((∃ x, fby l no = some x ∧ e = .returned (.tuple #[.agg #[.int .i64 x.no, .int .i64 x.kind, .int .i64 x.num, .string x.data], .bool true])) ∨ (fby l no = none ∧ e = .returned (.tuple #[.agg #[.int .i64 0, .int .i64 0, .int .i64 0, .string ⟨#[]⟩], .bool false]))) ∧ Below w.heap.size w w' := by
  obtain ⟨ao, cap, rfl, _, hrow⟩ := hF
  have HROW : Hid (∀ i f, l[i]? = some f → ∃ g o, ao = some ⟨g, o, none⟩ ∧ g < w.heap.size ∧ w.cell? ⟨g, o + i * 4, none⟩ = some (.int .i64 f.no) ∧ w.cell? ⟨g, o + i * 4 + 1, none⟩ = some (.int .i64 f.kind) ∧ w.cell? ⟨g, o + i * 4 + 2, none⟩ = some (.int .i64 f.num) ∧ w.cell? ⟨g, o + i * 4 + 3, none⟩ = some (.string f.data)) := hrow
  clear hrow
  obtain ⟨W1, hW1⟩ : ∃ W, W = w.alloc (.cells #[.int .i64 0, .int .i64 0, .int .i64 0, .string ⟨#[]⟩] 74) := ⟨_, rfl⟩
  have hB1 : Below w.heap.size w W1 := by rw [hW1]; exact (Below.refl _ w).alloc (Nat.le_refl _) _
  have hs1 : w.heap.size < W1.heap.size := by rw [hW1]; simp
  have r0 : W1.cell? ⟨w.heap.size, 0, none⟩ = some (.int .i64 0) := by rw [hW1]; go_simp
  have r1 : W1.cell? ⟨w.heap.size, 1, none⟩ = some (.int .i64 0) := by rw [hW1]; go_simp
  have r2 : W1.cell? ⟨w.heap.size, 2, none⟩ = some (.int .i64 0) := by rw [hW1]; go_simp
  have r3 : W1.cell? ⟨w.heap.size, 3, none⟩ = some (.string ⟨#[]⟩) := by rw [hW1]; go_simp
  have f0 : W1.frozen? ⟨w.heap.size, 0, none⟩ = false := by rw [hW1]; go_simp
  have f1 : W1.frozen? ⟨w.heap.size, 1, none⟩ = false := by rw [hW1]; go_simp
  have f2 : W1.frozen? ⟨w.heap.size, 2, none⟩ = false := by rw [hW1]; go_simp
  have f3 : W1.frozen? ⟨w.heap.size, 3, none⟩ = false := by rw [hW1]; go_simp
  have Q1 : Hid (∀ W, Below W1.heap.size W1 W → (W.cell? ⟨w.heap.size, 0, none⟩ = some (.int .i64 0) ∧ W.cell? ⟨w.heap.size, 1, none⟩ = some (.int .i64 0) ∧ W.cell? ⟨w.heap.size, 2, none⟩ = some (.int .i64 0) ∧ W.cell? ⟨w.heap.size, 3, none⟩ = some (.string ⟨#[]⟩)) ∧ (W.frozen? ⟨w.heap.size, 0, none⟩ = false ∧ W.frozen? ⟨w.heap.size, 1, none⟩ = false ∧ W.frozen? ⟨w.heap.size, 2, none⟩ = false ∧ W.frozen? ⟨w.heap.size, 3, none⟩ = false) ∧ Below w.heap.size w W ∧ w.heap.size < W.heap.size) := fun W hW =>
    ⟨⟨(hW.cell (p := ⟨w.heap.size, 0, none⟩) hs1).trans r0, (hW.cell (p := ⟨w.heap.size, 1, none⟩) hs1).trans r1, (hW.cell (p := ⟨w.heap.size, 2, none⟩) hs1).trans r2, (hW.cell (p := ⟨w.heap.size, 3, none⟩) hs1).trans r3⟩, ⟨(hW.frozen (p := ⟨w.heap.size, 0, none⟩) hs1).trans f0, (hW.frozen (p := ⟨w.heap.size, 1, none⟩) hs1).trans f1, (hW.frozen (p := ⟨w.heap.size, 2, none⟩) hs1).trans f2, (hW.frozen (p := ⟨w.heap.size, 3, none⟩) hs1).trans f3⟩, hB1.trans (hW.mono (by omega)), by have := hW.size; omega⟩
  clear r0 r1 r2 r3 f0 f1 f2 f3
  go_enter Tryd.func35, Tryd.ntmps35
  go_upto_region 1 with fail
  rw [← hW1]
  clear hW1
  go_wp2
  go_loopw [10] (fun vi wr => ∃ i : Nat, i ≤ l.length ∧ vi = .int .i64 (i : Int) ∧ Hid (∀ (j : Nat) (y : Fld), j < i → l[j]? = some y → y.no ≠ no) ∧ Hid (Below W1.heap.size W1 wr))
    (fun vi _ => l.length - (intOf vi).toNat)
  case atStart => exact ⟨0, by omega, rfl, fun j y hj => by omega, Below.refl _ _⟩
  case round =>
    obtain ⟨i, hil, rfl, hall, hbw⟩ := hrel
    have hsz : W1.heap.size ≤ wr.heap.size := hbw.out.size
    obtain ⟨⟨r0, r1, r2, r3⟩, ⟨f0, f1, f2, f3⟩, hB0, hs0⟩ := Q1.out _ hbw.out
    by_cases hlt : i < l.length
    · have hlt' : (i : Int) < (l.length : Int) := by omega
      obtain ⟨x, hx⟩ : ∃ x, l[i]? = some x := ⟨_, List.getElem?_eq_getElem hlt⟩
      obtain ⟨g, o, rfl, hg, c0, c1, c2, c3⟩ := HROW.out i x hx
      have c0 := (hB0.cell (p := ⟨g, o + i * 4, none⟩) hg).trans c0
      have c1 := (hB0.cell (p := ⟨g, o + i * 4 + 1, none⟩) hg).trans c1
      have c2 := (hB0.cell (p := ⟨g, o + i * 4 + 2, none⟩) hg).trans c2
      have c3 := (hB0.cell (p := ⟨g, o + i * 4 + 3, none⟩) hg).trans c3
      by_cases hno : x.no = no
      · have hfb : Hid (fby l no = some x) := fby_at l no i x hall.out hx hno
        have hno' : (x.no == no) = true := by simpa using hno
        obtain ⟨xn, xk, xm, xd⟩ := x
        dsimp only at c0 c1 c2 c3 hno'
        clear hall hx hno
        go_wp2
        (try simp only [Exit.inBlock, Exit.then])
        refine bodyPost_ret (v := .tuple #[.agg #[.int .i64 xn, .int .i64 xk, .int .i64 xm, .string xd], .bool true]) ?_ rfl ⟨.inl ⟨_, hfb.out, rfl⟩, ?_⟩
        · rw [results_cell_tmp rfl]
          go_simp
        · repeat' (first | exact hB0 | refine Below.alloc ?_ (by first | omega | (simp; omega) | simp) _ | refine Below.setCell ?_ (by first | omega | (simp; omega) | simp) _)
      · have hno' : (x.no == no) = false := by simpa using hno
        have hall2 : Hid (∀ (j : Nat) (y : Fld), j < i + 1 → l[j]? = some y → y.no ≠ no) := fun j y hj hy => by
          by_cases e : j = i
          · rw [e, hx] at hy; cases hy; exact hno
          · exact hall.out j y (by omega) hy
        have hbn : Hid (Below W1.heap.size W1 (wr.alloc (.cells #[.int .i64 x.no, .int .i64 x.kind, .int .i64 x.num, .string x.data] 74))) := hbw.out.alloc hsz _
        clear hall hx hno
        go_wp2
        go_roundw
        case rel => exact ⟨i + 1, by omega, by go_num, hall2, hbn⟩
        case measure => simp [intOf]; omega
    · have hge : ¬ ((i : Int) < (l.length : Int)) := by omega
      have hfb : Hid (fby l no = none) := fby_none l no (fun j y hy => hall.out j y (by have := (List.getElem?_eq_some_iff.1 hy).1; omega) hy)
      clear hall
      go_wp2
      (try simp only [Exit.inBlock, Exit.then])
      refine bodyPost_ret (v := .tuple #[.agg #[.int .i64 0, .int .i64 0, .int .i64 0, .string ⟨#[]⟩], .bool false]) ?_ rfl ⟨.inr ⟨hfb.out, rfl⟩, ?_⟩
      · rw [results_cell_tmp rfl]
        go_simp
      · repeat' (first | exact hB0 | refine Below.alloc ?_ (by first | omega | (simp; omega) | simp) _ | refine Below.setCell ?_ (by first | omega | (simp; omega) | simp) _)

set_option maxRecDepth 100000 in
set_option maxHeartbeats 8000000 in
theorem l8Test_any (x : Ins) (f : Fld) (w : World) (ha : isAsk x.kind = true) (htx : x.text.size ≤ 30) (hf : okF f) :
    Calls Tryd.prog 36 #[.agg #[.int .i64 x.code, .int .i64 x.kind, .int .i64 x.no, .int .i64 x.num, .string x.text, .int .i64 x.dst], .agg #[.int .i64 f.no, .int .i64 f.kind, .int .i64 f.num, .string f.data]] w fun e w' => e = .returned (.bool (askI x f)) ∧ Below w.heap.size w w' := by
  obtain ⟨R, hR⟩ : ∃ R, R = askI x f := ⟨_, rfl⟩
  rw [← hR]
  have HR : Hid (R = askI x f) := hR
  clear hR
  obtain ⟨c, kd, o, m, t, jt⟩ := x
  obtain ⟨fn, fk, fm, fd⟩ := f
  obtain ⟨hfk, hfs⟩ := hf
  dsimp only at *
  have hF3 : Hid (R = isSo ⟨kd, fn, m, t, 0, 0⟩ ⟨fn, fk, fm, fd⟩) := HR.out
  clear HR
  have hkb := ask_bounds ha
  have hts : (t.size : Int) ≤ 30 := by omega
  have hfs' : (fd.size : Int) ≤ 400 := by omega
  have hbn : ∀ o1 o2, Below w.heap.size w ((w.alloc o1).alloc o2) := fun o1 o2 => ((Below.refl _ w).alloc (Nat.le_refl _) o1).alloc (by simp) o2
  go_enter Tryd.func36, Tryd.ntmps36
  by_cases h3 : kd ≤ 3
  · rcases hfk with hf0 | hf2
    · subst hf0
      by_cases k1 : kd = 1
      · subst k1
        have hF4 : Hid (R = (fm == m)) := by show R = _; rw [hF3.out]; unfold isSo cmpN; simp; rfl
        clear hF3
        go_wp2
        go_ret
        exact ⟨by rw [hF4.out]; rfl, hbn _ _⟩
      · have e1 : (kd == 1) = false := by simpa using k1
        by_cases k2 : kd = 2
        · subst k2
          have hF4 : Hid (R = decide (fm < m)) := by show R = _; rw [hF3.out]; unfold isSo cmpN; simp
          clear hF3
          go_wp2
          go_ret
          exact ⟨by rw [hF4.out]; rfl, hbn _ _⟩
        · have e3 : kd = 3 := by omega
          subst e3
          have hF4 : Hid (R = decide (m < fm)) := by show R = _; rw [hF3.out]; unfold isSo cmpN; simp
          clear hF3
          go_wp2
          go_ret
          exact ⟨by rw [hF4.out]; rfl, hbn _ _⟩
    · subst hf2
      have hF4 : Hid (R = false) := by show R = _; rw [hF3.out]; unfold isSo; dsimp only; rw [if_pos h3]; rfl
      clear hF3
      by_cases k1 : kd = 1
      · subst k1
        go_wp2
        go_ret
        exact ⟨by rw [hF4.out]; rfl, hbn _ _⟩
      · have e1 : (kd == 1) = false := by simpa using k1
        by_cases k2 : kd = 2
        · subst k2
          go_wp2
          go_ret
          exact ⟨by rw [hF4.out]; rfl, hbn _ _⟩
        · have e3 : kd = 3 := by omega
          subst e3
          go_wp2
          go_ret
          exact ⟨by rw [hF4.out]; rfl, hbn _ _⟩
  · by_cases h4 : kd = 4
    · subst h4
      have hF4 : Hid (R = true) := hF3.out
      clear hF3
      go_wp2
      go_ret
      exact ⟨by rw [hF4.out]; rfl, hbn _ _⟩
    · have h5 : kd = 5 := by omega
      subst h5
      have hF4 : Hid (R = (decide (fk = 2) && preB fd t)) := hF3.out
      clear hF3
      rcases hfk with hf0 | hf2
      · subst hf0
        have hF5 : Hid (R = false) := hF4.out
        clear hF4
        go_wp2_with fail
        go_quiet (fail)
        go_wp2
        go_ret
        exact ⟨by rw [hF5.out]; rfl, by first | exact below_drewN (hbn _ _) | exact below_drewN (hbn _ _) _ | exact hbn _ _⟩
      · subst hf2
        by_cases hp : t.size ≤ fd.size
        · have hp' : (t.size : Int) ≤ (fd.size : Int) := by omega
          by_cases he : fd.extract 0 t.size = t
          · have hF5 : Hid (R = true) := by show R = _; rw [hF4.out]; unfold preB; simp [hp, he]
            have he' : ((fd.extract 0 t.size).toList == t.toList) = true := by rw [he]; simp
            clear hF4 he hp
            go_wp2_with fail
            go_quiet (fail)
            go_wp2
            go_ret
            exact ⟨by rw [hF5.out]; rfl, by first | exact below_drewN (hbn _ _) | exact below_drewN (hbn _ _) _ | exact hbn _ _⟩
          · have hF5 : Hid (R = false) := by show R = _; rw [hF4.out]; unfold preB; simp [he]
            have he' : ((fd.extract 0 t.size).toList == t.toList) = false := str_neB he
            clear hF4 he hp
            go_wp2_with fail
            go_quiet (fail)
            go_wp2
            go_ret
            exact ⟨by rw [hF5.out]; rfl, by first | exact below_drewN (hbn _ _) | exact below_drewN (hbn _ _) _ | exact hbn _ _⟩
        · have hp' : decide ((t.size : Int) ≤ (fd.size : Int)) = false := by simp; omega
          have hpn : decide (t.size ≤ fd.size) = false := by simpa using hp
          have hF5 : Hid (R = false) := by show R = _; rw [hF4.out]; unfold preB; simp [hp]
          clear hF4 hp
          go_wp2_with fail
          go_quiet (fail)
          go_wp2
          go_ret
          exact ⟨by rw [hF5.out]; rfl, by first | exact below_drewN (hbn _ _) | exact below_drewN (hbn _ _) _ | exact hbn _ _⟩

/-- the model's place: a field in the loop's own block, and whether it is one -/
def PlS (w : World) (b : Nat) (has : Bool) (pl : Option Fld) : Prop :=
  b < w.heap.size ∧ (∃ x : Fld, (w.cell? ⟨b, 0, none⟩ = some (.int .i64 x.no) ∧ w.cell? ⟨b, 1, none⟩ = some (.int .i64 x.kind) ∧ w.cell? ⟨b, 2, none⟩ = some (.int .i64 x.num) ∧ w.cell? ⟨b, 3, none⟩ = some (.string x.data)) ∧ (has = true → pl = some x ∧ okF x) ∧ (has = false → pl = none)) ∧ w.frozen? ⟨b, 0, none⟩ = false ∧ w.frozen? ⟨b, 1, none⟩ = false ∧ w.frozen? ⟨b, 2, none⟩ = false ∧ w.frozen? ⟨b, 3, none⟩ = false

theorem PlS.kept {w w' : World} {b : Nat} {has : Bool} {pl : Option Fld} (h : PlS w b has pl) (hb : w'.heap[b]? = w.heap[b]?) (hs : w.heap.size ≤ w'.heap.size) : PlS w' b has pl := by
  obtain ⟨h0, ⟨x, ⟨c0, c1, c2, c3⟩, hx⟩, f0, f1, f2, f3⟩ := h
  have hq : ∀ j, w'.cell? ⟨b, j, none⟩ = w.cell? ⟨b, j, none⟩ := fun j => World.cell?_of_block (w := w) hb
  have hf : ∀ j, w'.frozen? ⟨b, j, none⟩ = w.frozen? ⟨b, j, none⟩ := fun j => World.frozen?_of_block (w := w) hb
  exact ⟨by omega, ⟨x, ⟨(hq _).trans c0, (hq _).trans c1, (hq _).trans c2, (hq _).trans c3⟩, hx⟩, (hf _).trans f0, (hf _).trans f1, (hf _).trans f2, (hf _).trans f3⟩

theorem PlS.store {w : World} {b : Nat} {has : Bool} {pl : Option Fld} (h : PlS w b has pl) (x : Fld) (has' : Bool) (pl' : Option Fld) (h1 : has' = true → pl' = some x ∧ okF x) (h2 : has' = false → pl' = none) :
    PlS ((((w.setCell ⟨b, 0, none⟩ (.int .i64 x.no)).setCell ⟨b, 1, none⟩ (.int .i64 x.kind)).setCell ⟨b, 2, none⟩ (.int .i64 x.num)).setCell ⟨b, 3, none⟩ (.string x.data)) b has' pl' := by
  obtain ⟨h0, ⟨y, ⟨c0, c1, c2, c3⟩, _⟩, f0, f1, f2, f3⟩ := h
  refine ⟨by simp; omega, ⟨x, ⟨?_, ?_, ?_, ?_⟩, h1, h2⟩, by simp only [World.frozen?_setCell]; exact f0, by simp only [World.frozen?_setCell]; exact f1, by simp only [World.frozen?_setCell]; exact f2, by simp only [World.frozen?_setCell]; exact f3⟩
  · rw [World.cell?_setCell_other _ _ _ _ (by simp), World.cell?_setCell_other _ _ _ _ (by simp), World.cell?_setCell_other _ _ _ _ (by simp)]; exact World.cell?_setCell_same _ _ _ c0
  · rw [World.cell?_setCell_other _ _ _ _ (by simp), World.cell?_setCell_other _ _ _ _ (by simp)]; exact World.cell?_setCell_same _ _ _ (by rw [World.cell?_setCell_other _ _ _ _ (by simp)]; exact c1)
  · rw [World.cell?_setCell_other _ _ _ _ (by simp)]; exact World.cell?_setCell_same _ _ _ (by rw [World.cell?_setCell_other _ _ _ _ (by simp), World.cell?_setCell_other _ _ _ _ (by simp)]; exact c2)
  · exact World.cell?_setCell_same _ _ _ (by rw [World.cell?_setCell_other _ _ _ _ (by simp), World.cell?_setCell_other _ _ _ _ (by simp), World.cell?_setCell_other _ _ _ _ (by simp)]; exact c3)

end Go.Proofs.YtpopjapcgcnnfaaDoor
