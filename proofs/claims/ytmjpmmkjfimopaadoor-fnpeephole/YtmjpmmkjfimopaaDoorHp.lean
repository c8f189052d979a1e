/- The model's l7Is. The model's run of a program. The model's RunProgram. -/
import Derived.Test.YtmjpmmkjfimopaaDoorMtC
import Derived.Test.YtmjpmmkjfimopaaDoorHs
import Derived.Deep.DeepCutAuto
import Derived.BigQuiet
import Derived.Test.YtmjpmmkjfimopaaDoorHc
import Derived.Test.YtmjpmmkjfimopaaDoorHi
namespace Go.Proofs.YtmjpmmkjfimopaaDoor
open Go.RowKit Plain Sch Wan

theorem text_ok {T : List Wa} (hg : gf T = true) {k : Nat} (hk : k < T.length) : (wa T k).text.size ≤ 30 := by
  have hok := gf_ok hg k hk
  generalize wa T k = x at hok
  unfold okW at hok
  by_cases h1 : isAsk x.kind = true
  · rw [if_pos h1] at hok
    simp only [okAsk, Bool.and_eq_true, decide_eq_true_eq] at hok
    exact hok.2
  · rw [if_neg h1] at hok
    by_cases h2 : isBin x.kind = true
    · rw [if_pos h2] at hok
      simp only [okBin, Bool.and_eq_true, decide_eq_true_eq] at hok
      have := congrArg (fun x : Wa => x.text.size) hok.1.1.1
      dsimp only at this
      rw [this]; decide
    · rw [if_neg h2] at hok
      by_cases h3 : isNot x.kind = true
      · rw [if_pos h3] at hok
        simp only [okNot, Bool.and_eq_true, decide_eq_true_eq] at hok
        have := congrArg (fun x : Wa => x.text.size) hok.1.1
        dsimp only at this
        rw [this]; decide
      · rw [if_neg h3] at hok; cases hok

end Go.Proofs.YtmjpmmkjfimopaaDoor

namespace Go.Proofs.YtmjpmmkjfimopaaDoor
open Go.RowKit Plain Sch Wan Prg

set_option maxRecDepth 100000 in
set_option maxHeartbeats 4000000 in
theorem l8Seek_any (l : List Fld) (v : Value) (no : Int) (w : World) (hF : FldsAt w w.heap.size v l) (hl : l.length ≤ 40) :
    Calls Tryd.prog 61 #[v, .int .i64 no] w fun e w' => ((∃ x, fby l no = some x ∧ e = .returned (.tuple #[.agg #[.int .i64 x.no, .int .i64 x.kind, .int .i64 x.num, .string x.data], .bool true])) ∨ (fby l no = none ∧ e = .returned (.tuple #[.agg #[.int .i64 0, .int .i64 0, .int .i64 0, .string ⟨#[]⟩], .bool false]))) ∧ Below w.heap.size w w' := by
  obtain ⟨ao, cap, rfl, _, hrow⟩ := hF
  have HROW : Hid (∀ i f, l[i]? = some f → ∃ g o, ao = some ⟨g, o, none⟩ ∧ g < w.heap.size ∧ w.cell? ⟨g, o + i * 4, none⟩ = some (.int .i64 f.no) ∧ w.cell? ⟨g, o + i * 4 + 1, none⟩ = some (.int .i64 f.kind) ∧ w.cell? ⟨g, o + i * 4 + 2, none⟩ = some (.int .i64 f.num) ∧ w.cell? ⟨g, o + i * 4 + 3, none⟩ = some (.string f.data)) := hrow
  clear hrow
  obtain ⟨W1, hW1⟩ : ∃ W, W = w.alloc (.cells #[.int .i64 0, .int .i64 0, .int .i64 0, .string ⟨#[]⟩] 88) := ⟨_, rfl⟩
  have hB1 : Below w.heap.size w W1 := by rw [hW1]; exact (Below.refl _ w).alloc (Nat.le_refl _) _
  have hs1 : w.heap.size < W1.heap.size := by rw [hW1]; simp
  have r0 : W1.cell? ⟨w.heap.size, 0, none⟩ = some (.int .i64 0) := by rw [hW1]; go_simp
  have r1 : W1.cell? ⟨w.heap.size, 1, none⟩ = some (.int .i64 0) := by rw [hW1]; go_simp
  have r2 : W1.cell? ⟨w.heap.size, 2, none⟩ = some (.int .i64 0) := by rw [hW1]; go_simp
  have r3 : W1.cell? ⟨w.heap.size, 3, none⟩ = some (.string ⟨#[]⟩) := by rw [hW1]; go_simp
  have f0 : W1.frozen? ⟨w.heap.size, 0, none⟩ = false := by rw [hW1]; go_simp
  have f1 : W1.frozen? ⟨w.heap.size, 1, none⟩ = false := by rw [hW1]; go_simp
  have f2 : W1.frozen? ⟨w.heap.size, 2, none⟩ = false := by rw [hW1]; go_simp
  have f3 : W1.frozen? ⟨w.heap.size, 3, none⟩ = false := by rw [hW1]; go_simp
  have Q1 : Hid (∀ W, Below W1.heap.size W1 W → (W.cell? ⟨w.heap.size, 0, none⟩ = some (.int .i64 0) ∧ W.cell? ⟨w.heap.size, 1, none⟩ = some (.int .i64 0) ∧ W.cell? ⟨w.heap.size, 2, none⟩ = some (.int .i64 0) ∧ W.cell? ⟨w.heap.size, 3, none⟩ = some (.string ⟨#[]⟩)) ∧ (W.frozen? ⟨w.heap.size, 0, none⟩ = false ∧ W.frozen? ⟨w.heap.size, 1, none⟩ = false ∧ W.frozen? ⟨w.heap.size, 2, none⟩ = false ∧ W.frozen? ⟨w.heap.size, 3, none⟩ = false) ∧ Below w.heap.size w W ∧ w.heap.size < W.heap.size) := fun W hW =>
    ⟨⟨(hW.cell (p := ⟨w.heap.size, 0, none⟩) hs1).trans r0, (hW.cell (p := ⟨w.heap.size, 1, none⟩) hs1).trans r1, (hW.cell (p := ⟨w.heap.size, 2, none⟩) hs1).trans r2, (hW.cell (p := ⟨w.heap.size, 3, none⟩) hs1).trans r3⟩, ⟨(hW.frozen (p := ⟨w.heap.size, 0, none⟩) hs1).trans f0, (hW.frozen (p := ⟨w.heap.size, 1, none⟩) hs1).trans f1, (hW.frozen (p := ⟨w.heap.size, 2, none⟩) hs1).trans f2, (hW.frozen (p := ⟨w.heap.size, 3, none⟩) hs1).trans f3⟩, hB1.trans (hW.mono (by omega)), by have := hW.size; omega⟩
  clear r0 r1 r2 r3 f0 f1 f2 f3
  go_enter Tryd.func61, Tryd.ntmps61
  go_upto_region 1 with fail
  rw [← hW1]
  clear hW1
  go_wp2
  go_loopw [10] (fun vi wr => ∃ i : Nat, i ≤ l.length ∧ vi = .int .i64 (i : Int) ∧ Hid (∀ (j : Nat) (y : Fld), j < i → l[j]? = some y → y.no ≠ no) ∧ Hid (Below W1.heap.size W1 wr))
    (fun vi _ => l.length - (intOf vi).toNat)
  case atStart => exact ⟨0, by omega, rfl, fun j y hj => by omega, Below.refl _ _⟩
  case round =>
    obtain ⟨i, hil, rfl, hall, hbw⟩ := hrel
    have hsz : W1.heap.size ≤ wr.heap.size := hbw.out.size
    obtain ⟨⟨r0, r1, r2, r3⟩, ⟨f0, f1, f2, f3⟩, hB0, hs0⟩ := Q1.out _ hbw.out
    by_cases hlt : i < l.length
    · have hlt' : (i : Int) < (l.length : Int) := by omega
      obtain ⟨x, hx⟩ : ∃ x, l[i]? = some x := ⟨_, List.getElem?_eq_getElem hlt⟩
      obtain ⟨g, o, rfl, hg, c0, c1, c2, c3⟩ := HROW.out i x hx
      have c0 := (hB0.cell (p := ⟨g, o + i * 4, none⟩) hg).trans c0
      have c1 := (hB0.cell (p := ⟨g, o + i * 4 + 1, none⟩) hg).trans c1
      have c2 := (hB0.cell (p := ⟨g, o + i * 4 + 2, none⟩) hg).trans c2
      have c3 := (hB0.cell (p := ⟨g, o + i * 4 + 3, none⟩) hg).trans c3
      by_cases hno : x.no = no
      · have hfb : Hid (fby l no = some x) := fby_at l no i x hall.out hx hno
        have hno' : (x.no == no) = true := by simpa using hno
        obtain ⟨xn, xk, xm, xd⟩ := x
        dsimp only at c0 c1 c2 c3 hno'
        clear hall hx hno
        go_wp2
        (try simp only [Exit.inBlock, Exit.then])
        refine bodyPost_ret (v := .tuple #[.agg #[.int .i64 xn, .int .i64 xk, .int .i64 xm, .string xd], .bool true]) ?_ rfl ⟨.inl ⟨_, hfb.out, rfl⟩, ?_⟩
        · rw [results_cell_tmp rfl]
          go_simp
        · repeat' (first | exact hB0 | refine Below.alloc ?_ (by first | omega | (simp; omega) | simp) _ | refine Below.setCell ?_ (by first | omega | (simp; omega) | simp) _)
      · have hno' : (x.no == no) = false := by simpa using hno
        have hall2 : Hid (∀ (j : Nat) (y : Fld), j < i + 1 → l[j]? = some y → y.no ≠ no) := fun j y hj hy => by
          by_cases e : j = i
          · rw [e, hx] at hy; cases hy; exact hno
          · exact hall.out j y (by omega) hy
        have hbn : Hid (Below W1.heap.size W1 (wr.alloc (.cells #[.int .i64 x.no, .int .i64 x.kind, .int .i64 x.num, .string x.data] 88))) := hbw.out.alloc hsz _
        clear hall hx hno
        go_wp2
        go_roundw
        case rel => exact ⟨i + 1, by omega, by go_num, hall2, hbn⟩
        case measure => simp [intOf]; omega
    · have hge : ¬ ((i : Int) < (l.length : Int)) := by omega
      have hfb : Hid (fby l no = none) := fby_none l no (fun j y hy => hall.out j y (by have := (List.getElem?_eq_some_iff.1 hy).1; omega) hy)
      clear hall
      go_wp2
      (try simp only [Exit.inBlock, Exit.then])
      refine bodyPost_ret (v := .tuple #[.agg #[.int .i64 0, .int .i64 0, .int .i64 0, .string ⟨#[]⟩], .bool false]) ?_ rfl ⟨.inr ⟨hfb.out, rfl⟩, ?_⟩
      · rw [results_cell_tmp rfl]
        go_simp
      · repeat' (first | exact hB0 | refine Below.alloc ?_ (by first | omega | (simp; omega) | simp) _ | refine Below.setCell ?_ (by first | omega | (simp; omega) | simp) _)

set_option maxRecDepth 100000 in
set_option maxHeartbeats 8000000 in
theorem l8Test_any (x : Ins) (f : Fld) (w : World) (ha : isAsk x.kind = true) (htx : x.text.size ≤ 30) (hf : okF f) :
    Calls Tryd.prog 62 #[.agg #[.int .i64 x.code, .int .i64 x.kind, .int .i64 x.no, .int .i64 x.num, .string x.text, .int .i64 x.dst], .agg #[.int .i64 f.no, .int .i64 f.kind, .int .i64 f.num, .string f.data]] w fun e w' => e = .returned (.bool (askI x f)) ∧ Below w.heap.size w w' := by
  obtain ⟨R, hR⟩ : ∃ R, R = askI x f := ⟨_, rfl⟩
  rw [← hR]
  have HR : Hid (R = askI x f) := hR
  clear hR
  obtain ⟨c, kd, o, m, t, jt⟩ := x
  obtain ⟨fn, fk, fm, fd⟩ := f
  obtain ⟨hfk, hfs⟩ := hf
  dsimp only at *
  have hF3 : Hid (R = isSo ⟨kd, fn, m, t, 0, 0⟩ ⟨fn, fk, fm, fd⟩) := HR.out
  clear HR
  have hkb := ask_bounds ha
  have hts : (t.size : Int) ≤ 30 := by omega
  have hfs' : (fd.size : Int) ≤ 400 := by omega
  have hbn : ∀ o1 o2, Below w.heap.size w ((w.alloc o1).alloc o2) := fun o1 o2 => ((Below.refl _ w).alloc (Nat.le_refl _) o1).alloc (by simp) o2
  go_enter Tryd.func62, Tryd.ntmps62
  by_cases h3 : kd ≤ 3
  · rcases hfk with hf0 | hf2
    · subst hf0
      by_cases k1 : kd = 1
      · subst k1
        have hF4 : Hid (R = (fm == m)) := by show R = _; rw [hF3.out]; unfold isSo cmpN; simp; rfl
        clear hF3
        go_wp2
        go_ret
        exact ⟨by rw [hF4.out]; rfl, hbn _ _⟩
      · have e1 : (kd == 1) = false := by simpa using k1
        by_cases k2 : kd = 2
        · subst k2
          have hF4 : Hid (R = decide (fm < m)) := by show R = _; rw [hF3.out]; unfold isSo cmpN; simp
          clear hF3
          go_wp2
          go_ret
          exact ⟨by rw [hF4.out]; rfl, hbn _ _⟩
        · have e3 : kd = 3 := by omega
          subst e3
          have hF4 : Hid (R = decide (m < fm)) := by show R = _; rw [hF3.out]; unfold isSo cmpN; simp
          clear hF3
          go_wp2
          go_ret
          exact ⟨by rw [hF4.out]; rfl, hbn _ _⟩
    · subst hf2
      have hF4 : Hid (R = false) := by show R = _; rw [hF3.out]; unfold isSo; dsimp only; rw [if_pos h3]; rfl
      clear hF3
      by_cases k1 : kd = 1
      · subst k1
        go_wp2
        go_ret
        exact ⟨by rw [hF4.out]; rfl, hbn _ _⟩
      · have e1 : (kd == 1) = false := by simpa using k1
        by_cases k2 : kd = 2
        · subst k2
          go_wp2
          go_ret
          exact ⟨by rw [hF4.out]; rfl, hbn _ _⟩
        · have e3 : kd = 3 := by omega
          subst e3
          go_wp2
          go_ret
          exact ⟨by rw [hF4.out]; rfl, hbn _ _⟩
  · by_cases h4 : kd = 4
    · subst h4
      have hF4 : Hid (R = true) := hF3.out
      clear hF3
      go_wp2
      go_ret
      exact ⟨by rw [hF4.out]; rfl, hbn _ _⟩
    · have h5 : kd = 5 := by omega
      subst h5
      have hF4 : Hid (R = (decide (fk = 2) && preB fd t)) := hF3.out
      clear hF3
      rcases hfk with hf0 | hf2
      · subst hf0
        have hF5 : Hid (R = false) := hF4.out
        clear hF4
        go_wp2_with fail
        go_quiet (fail)
        go_wp2
        go_ret
        exact ⟨by rw [hF5.out]; rfl, by first | exact below_drewN (hbn _ _) | exact below_drewN (hbn _ _) _ | exact hbn _ _⟩
      · subst hf2
        by_cases hp : t.size ≤ fd.size
        · have hp' : (t.size : Int) ≤ (fd.size : Int) := by omega
          by_cases he : fd.extract 0 t.size = t
          · have hF5 : Hid (R = true) := by show R = _; rw [hF4.out]; unfold preB; simp [hp, he]
            have he' : ((fd.extract 0 t.size).toList == t.toList) = true := by rw [he]; simp
            clear hF4 he hp
            go_wp2_with fail
            go_quiet (fail)
            go_wp2
            go_ret
            exact ⟨by rw [hF5.out]; rfl, by first | exact below_drewN (hbn _ _) | exact below_drewN (hbn _ _) _ | exact hbn _ _⟩
          · have hF5 : Hid (R = false) := by show R = _; rw [hF4.out]; unfold preB; simp [he]
            have he' : ((fd.extract 0 t.size).toList == t.toList) = false := str_neB he
            clear hF4 he hp
            go_wp2_with fail
            go_quiet (fail)
            go_wp2
            go_ret
            exact ⟨by rw [hF5.out]; rfl, by first | exact below_drewN (hbn _ _) | exact below_drewN (hbn _ _) _ | exact hbn _ _⟩
        · have hp' : decide ((t.size : Int) ≤ (fd.size : Int)) = false := by simp; omega
          have hpn : decide (t.size ≤ fd.size) = false := by simpa using hp
          have hF5 : Hid (R = false) := by show R = _; rw [hF4.out]; unfold preB; simp [hp]
          clear hF4 hp
          go_wp2_with fail
          go_quiet (fail)
          go_wp2
          go_ret
          exact ⟨by rw [hF5.out]; rfl, by first | exact below_drewN (hbn _ _) | exact below_drewN (hbn _ _) _ | exact hbn _ _⟩

/-- the model's place: a field in the loop's own block, and whether it is one -/
def PlS (w : World) (b : Nat) (has : Bool) (pl : Option Fld) : Prop :=
  b < w.heap.size ∧ (∃ x : Fld, (w.cell? ⟨b, 0, none⟩ = some (.int .i64 x.no) ∧ w.cell? ⟨b, 1, none⟩ = some (.int .i64 x.kind) ∧ w.cell? ⟨b, 2, none⟩ = some (.int .i64 x.num) ∧ w.cell? ⟨b, 3, none⟩ = some (.string x.data)) ∧ (has = true → pl = some x ∧ okF x) ∧ (has = false → pl = none)) ∧ w.frozen? ⟨b, 0, none⟩ = false ∧ w.frozen? ⟨b, 1, none⟩ = false ∧ w.frozen? ⟨b, 2, none⟩ = false ∧ w.frozen? ⟨b, 3, none⟩ = false

theorem PlS.kept {w w' : World} {b : Nat} {has : Bool} {pl : Option Fld} (h : PlS w b has pl) (hb : w'.heap[b]? = w.heap[b]?) (hs : w.heap.size ≤ w'.heap.size) : PlS w' b has pl := by
  obtain ⟨h0, ⟨x, ⟨c0, c1, c2, c3⟩, hx⟩, f0, f1, f2, f3⟩ := h
  have hq : ∀ j, w'.cell? ⟨b, j, none⟩ = w.cell? ⟨b, j, none⟩ := fun j => World.cell?_of_block (w := w) hb
  have hf : ∀ j, w'.frozen? ⟨b, j, none⟩ = w.frozen? ⟨b, j, none⟩ := fun j => World.frozen?_of_block (w := w) hb
  exact ⟨by omega, ⟨x, ⟨(hq _).trans c0, (hq _).trans c1, (hq _).trans c2, (hq _).trans c3⟩, hx⟩, (hf _).trans f0, (hf _).trans f1, (hf _).trans f2, (hf _).trans f3⟩

theorem PlS.store {w : World} {b : Nat} {has : Bool} {pl : Option Fld} (h : PlS w b has pl) (x : Fld) (has' : Bool) (pl' : Option Fld) (h1 : has' = true → pl' = some x ∧ okF x) (h2 : has' = false → pl' = none) :
    PlS ((((w.setCell ⟨b, 0, none⟩ (.int .i64 x.no)).setCell ⟨b, 1, none⟩ (.int .i64 x.kind)).setCell ⟨b, 2, none⟩ (.int .i64 x.num)).setCell ⟨b, 3, none⟩ (.string x.data)) b has' pl' := by
  obtain ⟨h0, ⟨y, ⟨c0, c1, c2, c3⟩, _⟩, f0, f1, f2, f3⟩ := h
  refine ⟨by simp; omega, ⟨x, ⟨?_, ?_, ?_, ?_⟩, h1, h2⟩, by simp only [World.frozen?_setCell]; exact f0, by simp only [World.frozen?_setCell]; exact f1, by simp only [World.frozen?_setCell]; exact f2, by simp only [World.frozen?_setCell]; exact f3⟩
  · rw [World.cell?_setCell_other _ _ _ _ (by simp), World.cell?_setCell_other _ _ _ _ (by simp), World.cell?_setCell_other _ _ _ _ (by simp)]; exact World.cell?_setCell_same _ _ _ c0
  · rw [World.cell?_setCell_other _ _ _ _ (by simp), World.cell?_setCell_other _ _ _ _ (by simp)]; exact World.cell?_setCell_same _ _ _ (by rw [World.cell?_setCell_other _ _ _ _ (by simp)]; exact c1)
  · rw [World.cell?_setCell_other _ _ _ _ (by simp)]; exact World.cell?_setCell_same _ _ _ (by rw [World.cell?_setCell_other _ _ _ _ (by simp), World.cell?_setCell_other _ _ _ _ (by simp)]; exact c2)
  · exact World.cell?_setCell_same _ _ _ (by rw [World.cell?_setCell_other _ _ _ _ (by simp), World.cell?_setCell_other _ _ _ _ (by simp), World.cell?_setCell_other _ _ _ _ (by simp)]; exact c3)

end Go.Proofs.YtmjpmmkjfimopaaDoor

namespace Go.Proofs.YtmjpmmkjfimopaaDoor
open Go.RowKit Plain Sch Wan Prg

theorem fields_keep {w w' : World} {v : Value} {l : List Fld} (h : FldsAt w w.heap.size v l) (hb : Below w.heap.size w w') : FldsAt w' w'.heap.size v l := h.below hb

set_option maxRecDepth 100000 in
set_option maxHeartbeats 8000000 in
theorem l8Run_any (T : List Ins) (l : List Fld) (v vl : Value) (w : World) (hg : gp T = true) (hT : InsAt w w.heap.size v T) (hF : FldsAt w w.heap.size vl l) (hl : l.length ≤ 40) (hfd : ∀ f ∈ l, okF f) :
    Calls Tryd.prog 34 #[.agg #[v], vl] w fun e w' => e = .returned (.tuple #[.bool (rn T l T.length false none 0 0).1, .int .i64 ((rn T l T.length false none 0 0).2 : Int)]) ∧ Below w.heap.size w w' := by
  obtain ⟨h0, h60⟩ := gp_len hg
  have HG : Hid (gp T = true) := hg
  have HF : Hid (FldsAt w w.heap.size vl l) := hF
  have HFD : Hid (∀ f ∈ l, okF f) := hfd
  obtain ⟨ao, cap, rfl, hlc, hcm, hrow, hnm⟩ := hT
  have HROW : Hid (∀ i, i < T.length → ∃ g o, ao = some ⟨g, o, none⟩ ∧ g < w.heap.size ∧ InsIn w g (o + i * 6) (ins T i)) := hrow
  obtain ⟨al, capl, rfl, _⟩ := hF
  unfold maxLen at hcm
  obtain ⟨R, hR⟩ : ∃ R, R = rn T l T.length false none 0 0 := ⟨_, rfl⟩
  rw [← hR]
  have HR : Hid (R = rn T l T.length false none 0 0) := hR
  clear hR hrow hnm hfd hg
  obtain ⟨W1, hW1⟩ : ∃ W, W = (w.alloc (.cells #[.slice ao T.length cap] 30)).alloc (.cells #[.int .i64 0, .int .i64 0, .int .i64 0, .string ⟨#[]⟩] 88) := ⟨_, rfl⟩
  have hB1 : Below w.heap.size w W1 := by rw [hW1]; exact ((Below.refl _ w).alloc (Nat.le_refl _) _).alloc (by simp) _
  have hs1 : Hid (W1.heap.size = w.heap.size + 2) := by show _ = _; rw [hW1]; simp
  have q1 : Hid (W1.cell? ⟨w.heap.size, 0, none⟩ = some (.slice ao T.length cap)) := by show _ = _; rw [hW1]; go_simp
  have HP1 : Hid (PlS W1 (w.heap.size + 1) false none) := by
    show PlS _ _ _ _
    refine ⟨by rw [hs1.out]; omega, ⟨⟨0, 0, 0, ⟨#[]⟩⟩, ⟨by rw [hW1]; go_simp, by rw [hW1]; go_simp, by rw [hW1]; go_simp, by rw [hW1]; go_simp⟩, fun h => by (cases h), fun _ => rfl⟩, by rw [hW1]; go_simp, by rw [hW1]; go_simp, by rw [hW1]; go_simp, by rw [hW1]; go_simp⟩
  go_enter Tryd.func34, Tryd.ntmps34
  go_upto_region 3 with fail
  rw [← hW1]
  clear hW1
  go_wp2
  go_loopw [6, 8, 9, 10] (fun v6 v8 v9 v10 wr => ∃ (fl has : Bool) (p k f : Nat) (pl : Option Fld), v6 = .bool fl ∧ v8 = .bool has ∧ v9 = .int .i64 (k : Int) ∧ v10 = .int .i64 (p : Int) ∧ p < T.length ∧ T.length ≤ f + p ∧ k ≤ p ∧ Hid (PlS wr (w.heap.size + 1) has pl) ∧ Hid (Below (w.heap.size + 1) W1 wr) ∧ Hid (R = rn T l f fl pl p k))
    (fun _ _ _ v10 _ => T.length - (intOf v10).toNat)
  case atStart => exact ⟨false, false, 0, 0, T.length, none, rfl, rfl, rfl, rfl, by omega, by omega, by omega, HP1, Below.refl _ _, HR⟩
  case round =>
    clear HR HP1
    obtain ⟨fl, has, p, k, f, pl, rfl, rfl, rfl, rfl, hp, hpf, hkp, HP, HB, HR⟩ := hrel
    have hsz : w.heap.size + 1 < wr.heap.size := HP.out.1
    have hsz' : w.heap.size < wr.heap.size := by omega
    have qr : wr.cell? ⟨w.heap.size, 0, none⟩ = some (.slice ao T.length cap) := (HB.out.cell (p := ⟨w.heap.size, 0, none⟩) (by show w.heap.size < _; omega)).trans q1.out
    have hB0 : Hid (Below w.heap.size w wr) := hB1.trans (HB.out.mono (by omega))
    have hpl : (p : Int) < (T.length : Int) := by omega
    obtain ⟨g, o, rfl, hg, hty⟩ := HROW.out p hp
    have hci := hty.below hB0.out hg
    have hgw : g < wr.heap.size := by omega
    obtain ⟨f, rfl⟩ : ∃ f', f = f' + 1 := ⟨f - 1, by omega⟩
    have hcd := gp_codes HG.out hp
    have h1 : Hid ((ins T p).code = 1 → R = rn T l f fl (fby l (ins T p).no) (p + 1) (k + 1)) := fun h => HR.out.trans (rn_seek h)
    have h2 : Hid ((ins T p).code = 2 → R = rn T l f (tstI (ins T p) pl) pl (p + 1) (k + 1)) := fun h => HR.out.trans (rn_test h)
    have h3 : Hid ((ins T p).code = 3 → R = rn T l f fl pl (jmpI (ins T p) fl p) (k + 1)) := fun h => HR.out.trans (rn_jump h)
    have h4 : Hid ((ins T p).code = 4 → R = rn T l f (!fl) pl (p + 1) (k + 1)) := fun h => HR.out.trans (rn_flip h)
    have h5 : Hid ((ins T p).code = 5 → R = (fl, k + 1)) := fun h => HR.out.trans (rn_end h)
    have hnx : Hid ((ins T p).code ≠ 5 → p + 1 < T.length) := fun h => gp_next HG.out hp h
    have hjm : Hid ((ins T p).code = 3 → (p : Int) < (ins T p).dst ∧ (ins T p).dst < T.length ∧ ((ins T p).num = 0 ∨ (ins T p).num = 1)) := fun h => gp_jump HG.out hp h
    have hts : Hid ((ins T p).code = 2 → isAsk (ins T p).kind = true ∧ (ins T p).text.size ≤ 30) := fun h => gp_test HG.out hp h
    generalize ins T p = x at hci hcd h1 h2 h3 h4 h5 hnx hjm hts
    obtain ⟨c, kd, no, m, t, jt⟩ := x
    dsimp only at hci hcd h1 h2 h3 h4 h5 hnx hjm hts
    obtain ⟨c0, c1, c2, c3, c4, c5⟩ := hci
    dsimp only at c0 c1 c2 c3 c4 c5
    clear hty HR
    obtain ⟨W3, hW3⟩ : ∃ W, W = wr.alloc (.cells #[.int .i64 c, .int .i64 kd, .int .i64 no, .int .i64 m, .string t, .int .i64 jt] 59) := ⟨_, rfl⟩
    have hA3 : Below wr.heap.size wr W3 := by rw [hW3]; exact (Below.refl _ wr).alloc (Nat.le_refl _) _
    have hl3 : wr.heap.size < W3.heap.size := by rw [hW3]; simp
    have x0 : W3.cell? ⟨wr.heap.size, 0, none⟩ = some (.int .i64 c) := by rw [hW3]; go_simp
    have x1 : W3.cell? ⟨wr.heap.size, 1, none⟩ = some (.int .i64 kd) := by rw [hW3]; go_simp
    have x2 : W3.cell? ⟨wr.heap.size, 2, none⟩ = some (.int .i64 no) := by rw [hW3]; go_simp
    have x3 : W3.cell? ⟨wr.heap.size, 3, none⟩ = some (.int .i64 m) := by rw [hW3]; go_simp
    have x4 : W3.cell? ⟨wr.heap.size, 4, none⟩ = some (.string t) := by rw [hW3]; go_simp
    have x5 : W3.cell? ⟨wr.heap.size, 5, none⟩ = some (.int .i64 jt) := by rw [hW3]; go_simp
    have HP3 : Hid (PlS W3 (w.heap.size + 1) has pl) := HP.out.kept (hA3.block _ hsz) (Nat.le_of_lt hl3)
    have HB3 : Hid (Below (w.heap.size + 1) W1 W3) := HB.out.trans (hA3.mono (by omega))
    have hB03 : Hid (Below w.heap.size w W3) := hB1.trans (HB3.out.mono (by omega))
    have hl31 : w.heap.size + 1 < W3.heap.size := by omega
    go_upto_region 7 with fail
    rw [← hW3]
    clear hW3 c0 c1 c2 c3 c4 c5 HP HB hB0
    rcases hcd with rfl | rfl | rfl | rfl | rfl
    · have hp1 := hnx.out (by decide)
      have hRR := h1.out rfl
      have HRR : Hid (R = rn T l f fl (fby l no) (p + 1) (k + 1)) := hRR
      clear h1 h2 h3 h4 h5 hnx hjm hts hRR
      go_wp2_with fail
      refine (l8Seek_any l _ no _ (HF.out.below hB03.out) hl).mono ?_
      rintro e w4 ⟨hpt, hb4⟩
      have HP4 : Hid (PlS w4 (w.heap.size + 1) has pl) := HP3.out.kept (hb4.block _ hl31) hb4.size
      have HB4 : Hid (Below (w.heap.size + 1) W1 w4) := HB3.out.trans (hb4.mono (by omega))
      have hl4 : w.heap.size + 1 < w4.heap.size := by have := hb4.size; omega
      clear hb4 HP3 HB3
      rcases hpt with ⟨y, hy, rfl⟩ | ⟨hy, rfl⟩
      · have hoy := HFD.out y (fby_mem l no y hy)
        rw [hy] at HRR
        have HPN : Hid (PlS ((((w4.setCell ⟨w.heap.size + 1, 0, none⟩ (.int .i64 y.no)).setCell ⟨w.heap.size + 1, 1, none⟩ (.int .i64 y.kind)).setCell ⟨w.heap.size + 1, 2, none⟩ (.int .i64 y.num)).setCell ⟨w.heap.size + 1, 3, none⟩ (.string y.data)) (w.heap.size + 1) true (some y)) := HP4.out.store y true (some y) (fun _ => ⟨rfl, hoy⟩) (fun h => by cases h)
        have HBN : Hid (Below (w.heap.size + 1) W1 ((((w4.setCell ⟨w.heap.size + 1, 0, none⟩ (.int .i64 y.no)).setCell ⟨w.heap.size + 1, 1, none⟩ (.int .i64 y.kind)).setCell ⟨w.heap.size + 1, 2, none⟩ (.int .i64 y.num)).setCell ⟨w.heap.size + 1, 3, none⟩ (.string y.data))) := (((HB4.out.setCell (Nat.le_refl _) _).setCell (Nat.le_refl _) _).setCell (Nat.le_refl _) _).setCell (Nat.le_refl _) _
        obtain ⟨_, ⟨z, ⟨z0, z1, z2, z3⟩, _⟩, f0, f1, f2, f3⟩ := HP4.out
        clear HP4 HB4 hy
        go_wp2
        go_roundw
        case rel => exact ⟨fl, true, p + 1, k + 1, f, some y, rfl, rfl, by go_num, by go_num, hp1, by omega, by omega, HPN, HBN, HRR⟩
        case measure => simp [intOf]; omega
      · rw [hy] at HRR
        have HPN : Hid (PlS ((((w4.setCell ⟨w.heap.size + 1, 0, none⟩ (.int .i64 0)).setCell ⟨w.heap.size + 1, 1, none⟩ (.int .i64 0)).setCell ⟨w.heap.size + 1, 2, none⟩ (.int .i64 0)).setCell ⟨w.heap.size + 1, 3, none⟩ (.string ⟨#[]⟩)) (w.heap.size + 1) false none) := HP4.out.store ⟨0, 0, 0, ⟨#[]⟩⟩ false none (fun h => by cases h) (fun _ => rfl)
        have HBN : Hid (Below (w.heap.size + 1) W1 ((((w4.setCell ⟨w.heap.size + 1, 0, none⟩ (.int .i64 0)).setCell ⟨w.heap.size + 1, 1, none⟩ (.int .i64 0)).setCell ⟨w.heap.size + 1, 2, none⟩ (.int .i64 0)).setCell ⟨w.heap.size + 1, 3, none⟩ (.string ⟨#[]⟩))) := (((HB4.out.setCell (Nat.le_refl _) _).setCell (Nat.le_refl _) _).setCell (Nat.le_refl _) _).setCell (Nat.le_refl _) _
        obtain ⟨_, ⟨z, ⟨z0, z1, z2, z3⟩, _⟩, f0, f1, f2, f3⟩ := HP4.out
        clear HP4 HB4 hy
        go_wp2
        go_roundw
        case rel => exact ⟨fl, false, p + 1, k + 1, f, none, rfl, rfl, by go_num, by go_num, hp1, by omega, by omega, HPN, HBN, HRR⟩
        case measure => simp [intOf]; omega
    · have hp1 := hnx.out (by decide)
      obtain ⟨hask, htx⟩ := hts.out rfl
      have HRR : Hid (R = rn T l f (tstI ⟨2, kd, no, m, t, jt⟩ pl) pl (p + 1) (k + 1)) := h2.out rfl
      clear h1 h2 h3 h4 h5 hnx hjm hts
      obtain ⟨_, ⟨z, ⟨z0, z1, z2, z3⟩, hz1, hz2⟩, f0, f1, f2, f3⟩ := HP3.out
      cases has with
      | true =>
        obtain ⟨hpz, hoz⟩ := hz1 rfl
        have HRR2 : Hid (R = rn T l f (askI ⟨2, kd, no, m, t, jt⟩ z) pl (p + 1) (k + 1)) := by show R = _; rw [HRR.out, hpz]; rfl
        have CT : Hid (∀ W : World, Calls Tryd.prog 62 #[.agg #[.int .i64 2, .int .i64 kd, .int .i64 no, .int .i64 m, .string t, .int .i64 jt], .agg #[.int .i64 z.no, .int .i64 z.kind, .int .i64 z.num, .string z.data]] W fun e w' => e = .returned (.bool (askI ⟨2, kd, no, m, t, jt⟩ z)) ∧ Below W.heap.size W w') := fun W => l8Test_any ⟨2, kd, no, m, t, jt⟩ z W hask htx hoz
        generalize askI ⟨2, kd, no, m, t, jt⟩ z = bb at HRR2 CT
        clear hz1 hz2 hpz hoz hask HRR
        go_wp2_with fail
        refine (CT.out _).mono ?_
        rintro e w4 ⟨rfl, hb4⟩
        have HP4 : Hid (PlS w4 (w.heap.size + 1) true pl) := HP3.out.kept (hb4.block _ hl31) hb4.size
        have HB4 : Hid (Below (w.heap.size + 1) W1 w4) := HB3.out.trans (hb4.mono (by omega))
        clear hb4 HP3 HB3 CT
        go_wp2
        go_roundw
        case rel => exact ⟨bb, true, p + 1, k + 1, f, pl, rfl, rfl, by go_num, by go_num, hp1, by omega, by omega, HP4, HB4, HRR2⟩
        case measure => simp [intOf]; omega
      | false =>
        have hpz := hz2 rfl
        have HRR2 : Hid (R = rn T l f false pl (p + 1) (k + 1)) := by show R = _; rw [HRR.out, hpz]; rfl
        clear hz1 hz2 hpz hask HRR
        go_wp2
        go_roundw
        case rel => exact ⟨false, false, p + 1, k + 1, f, pl, rfl, rfl, by go_num, by go_num, hp1, by omega, by omega, HP3, HB3, HRR2⟩
        case measure => simp [intOf]; omega
    · have hp1 := hnx.out (by decide)
      obtain ⟨hj1, hj2, hj3⟩ := hjm.out rfl
      obtain ⟨jn, rfl⟩ := Int.eq_ofNat_of_zero_le (show 0 ≤ jt by omega)
      have HRR : Hid (R = rn T l f fl pl (if fl = decide (m = 1) then jn else p + 1) (k + 1)) := by
        show R = _
        have := h3.out rfl
        simpa [jmpI] using this
      clear h1 h2 h3 h4 h5 hnx hjm hts
      have hjn1 : p < jn := by omega
      have hjn2 : jn < T.length := by omega
      clear hj1 hj2
      rcases hj3 with rfl | rfl <;> cases fl

      · have HRR2 : Hid (R = rn T l f false pl (jn) (k + 1)) := by show R = _; rw [HRR.out]; rfl
        clear HRR
        go_wp2
        go_roundw
        case rel => exact ⟨false, has, jn, k + 1, f, pl, rfl, rfl, by go_num, by go_num, by omega, by omega, by omega, HP3, HB3, HRR2⟩
        case measure => simp [intOf]; omega
      · have HRR2 : Hid (R = rn T l f true pl (p + 1) (k + 1)) := by show R = _; rw [HRR.out]; rfl
        clear HRR
        go_wp2
        go_roundw
        case rel => exact ⟨true, has, p + 1, k + 1, f, pl, rfl, rfl, by go_num, by go_num, by omega, by omega, by omega, HP3, HB3, HRR2⟩
        case measure => simp [intOf]; omega
      · have HRR2 : Hid (R = rn T l f false pl (p + 1) (k + 1)) := by show R = _; rw [HRR.out]; rfl
        clear HRR
        go_wp2
        go_roundw
        case rel => exact ⟨false, has, p + 1, k + 1, f, pl, rfl, rfl, by go_num, by go_num, by omega, by omega, by omega, HP3, HB3, HRR2⟩
        case measure => simp [intOf]; omega
      · have HRR2 : Hid (R = rn T l f true pl (jn) (k + 1)) := by show R = _; rw [HRR.out]; rfl
        clear HRR
        go_wp2
        go_roundw
        case rel => exact ⟨true, has, jn, k + 1, f, pl, rfl, rfl, by go_num, by go_num, by omega, by omega, by omega, HP3, HB3, HRR2⟩
        case measure => simp [intOf]; omega
    · have hp1 := hnx.out (by decide)
      have HRR : Hid (R = rn T l f (!fl) pl (p + 1) (k + 1)) := h4.out rfl
      clear h1 h2 h3 h4 h5 hnx hjm hts
      go_wp2
      go_roundw
      case rel => exact ⟨!fl, has, p + 1, k + 1, f, pl, rfl, rfl, by go_num, by go_num, hp1, by omega, by omega, HP3, HB3, HRR⟩
      case measure => simp [intOf]; omega
    · have HRR : Hid (R = (fl, k + 1)) := h5.out rfl
      clear h1 h2 h3 h4 h5 hnx hjm hts
      go_wp2
      go_ret2
      exact ⟨by rw [HRR.out]; rfl, hB03.out⟩

set_option maxRecDepth 100000 in
set_option maxHeartbeats 4000000 in
theorem specRun (T : List Ins) (s : ByteArray) (v : Value) (w : World) (hT : InsAt w w.heap.size v T) (hsm : s.size ≤ maxLen) :
    Calls Tryd.prog 15 #[.agg #[v], .string s] w fun e w' => e = .returned (.tuple #[.bool (rpo T s).1, .int .i64 (rpo T s).2.1, .bool (rpo T s).2.2]) ∧ Below w.heap.size w w' := by
  have HT : Hid (InsAt w w.heap.size v T) := hT
  obtain ⟨ao, cap, rfl, hlc, hcm, _⟩ := hT
  have hrl := rr_lenM s
  have hra := rr_all s
  obtain ⟨R, hR⟩ : ∃ R, R = rpo T s := ⟨_, rfl⟩
  rw [← hR]
  have HR : Hid (R = if gp T && (rr s).2 then ((rn T (rr s).1 T.length false none 0 0).1, ((rn T (rr s).1 T.length false none 0 0).2 : Int), true) else (false, 0, false)) := hR
  clear hR
  have CF : Hid (∀ W : World, Calls Tryd.prog 32 #[.string s] W fun e w' => OFs W w' e (rr s)) := fun W => l5Fields_any s W hsm
  generalize rr s = Q at HR CF hrl hra
  obtain ⟨l, ok⟩ := Q
  dsimp only at HR hrl hra
  have HFD : Hid (∀ f ∈ l, okF f) := hra
  have hB1 : Below w.heap.size w (w.alloc (.cells #[.slice ao T.length cap] 30)) := (Below.refl _ w).alloc (Nat.le_refl _) _
  go_enter Tryd.func15, Tryd.ntmps15
  go_wp2_with fail
  refine (CF.out _).mono ?_
  rintro e w2 ⟨vl, rfl, hF2, hb2⟩
  have hB2 : Below w.heap.size w w2 := hB1.trans (hb2.mono (by simp))
  have hs2 : w.heap.size < w2.heap.size := by have := hb2.size; simp at this; omega
  have q2 : w2.cell? ⟨w.heap.size, 0, none⟩ = some (.slice ao T.length cap) := (hb2.cell (p := ⟨w.heap.size, 0, none⟩) (by simp)).trans (by simp)
  have HF2 : Hid (FldsAt w2 w2.heap.size vl l) := hF2
  obtain ⟨al, capl, rfl, _⟩ := hF2
  dsimp only at *
  clear hb2 CF hra
  go_wp2_with fail
  refine (specGoodP T _ _ (HT.out.below hB2)).mono ?_
  rintro e w3 ⟨rfl, hb3⟩
  have hB3 : Below w.heap.size w w3 := hB2.trans (hb3.mono hB2.size)
  have q3 := (hb3.cell (p := ⟨w.heap.size, 0, none⟩) hs2).trans q2
  have HF3 : Hid (FldsAt w3 w3.heap.size (.slice al l.length capl) l) := HF2.out.below hb3
  have hs3 : w.heap.size < w3.heap.size := by have := hb3.size; omega
  clear hb3 q2 HF2
  cases hg : gp T with
  | false =>
    have hF : Hid (R = (false, 0, false)) := by show R = _; rw [HR.out, hg]; rfl
    clear HR hg
    go_wp2
    go_ret3
    exact ⟨by rw [hF.out]; rfl, hB3⟩
  | true =>
    cases ok with
    | false =>
      have hF : Hid (R = (false, 0, false)) := by show R = _; rw [HR.out, hg]; rfl
      clear HR hg
      go_wp2
      go_ret3
      exact ⟨by rw [hF.out]; rfl, hB3⟩
    | true =>
      have hF : Hid (R = ((rn T l T.length false none 0 0).1, ((rn T l T.length false none 0 0).2 : Int), true)) := by show R = _; rw [HR.out, hg]; rfl
      have CR : Hid (∀ (W : World) (v vl : Value), InsAt W W.heap.size v T → FldsAt W W.heap.size vl l → Calls Tryd.prog 34 #[.agg #[v], vl] W fun e w' => e = .returned (.tuple #[.bool (rn T l T.length false none 0 0).1, .int .i64 ((rn T l T.length false none 0 0).2 : Int)]) ∧ Below W.heap.size W w') := fun W v vl h1 h2 => l8Run_any T l v vl W hg h1 h2 hrl HFD.out
      have hle := rn_le T l T.length false none 0 0
      have h60 := (gp_len hg).2
      generalize rn T l T.length false none 0 0 = Q at CR hF hle
      obtain ⟨qa, qb⟩ := Q
      dsimp only at CR hF hle
      clear HR hg
      go_wp2_with fail
      refine (CR.out _ _ _ (HT.out.below hB3) HF3.out).mono ?_
      rintro e w4 ⟨rfl, hb4⟩
      have hB4 : Below w.heap.size w w4 := hB3.trans (hb4.mono hB3.size)
      clear hb4 CR
      go_wp2
      go_ret3
      exact ⟨by rw [hF.out]; rfl, hB4⟩

end Go.Proofs.YtmjpmmkjfimopaaDoor
