/- The model's fields that rise; the field with a No. -/
import Derived.Test.YtmjpmmkjfimopaaDoorMtB
import Derived.Deep.DeepCutAuto
namespace Go.Proofs.YtmjpmmkjfimopaaDoor
open Go.RowKit Plain Sch Wan

set_option maxRecDepth 100000 in
set_option maxHeartbeats 4000000 in
theorem l5Fields_any (s : ByteArray) (w : World) (hsm : s.size ≤ maxLen) :
    Calls Tryd.prog 32 #[.string s] w fun e w' => OFs w w' e (rr s) := by
  obtain ⟨R, hR⟩ : ∃ R, R = rr s := ⟨_, rfl⟩
  rw [← hR]
  have HR : Hid (R = if (rf s).2 && riseF (rf s).1 then ((rf s).1, true) else ([], false)) := hR
  have hlen := rf_lenM s
  have CI : Hid (Calls Tryd.prog 59 #[.string s] w fun e w' => ∃ v, e = .returned (.tuple #[v, .bool (rf s).2]) ∧ w'.ownsRow w.heap.size 88 4 v (rf s).1.length ((rf s).1.flatMap Fld.cells) ∧ Below w.heap.size w w') := specReadM s w hsm
  clear hR
  generalize rf s = F at CI HR hlen
  obtain ⟨l, ok⟩ := F
  dsimp only at CI hlen
  have HR2 : Hid (R = if ok && riseF l then (l, true) else ([], false)) := HR
  clear HR hsm
  unfold OFs
  go_enter Tryd.func32, Tryd.ntmps32
  go_wp2_with fail
  refine CI.out.mono ?_
  rintro e w1 ⟨v, rfl, hown, hb⟩
  have hF : FldsAt w1 w1.heap.size v l := FldsAt.own hown (by unfold maxLen; omega)
  have HF : Hid (FldsAt w1 w1.heap.size v l) := hF
  obtain ⟨ao, cap, rfl, _, hrow⟩ := hF
  have HROW : Hid (∀ i f, l[i]? = some f → ∃ g o, ao = some ⟨g, o, none⟩ ∧ g < w1.heap.size ∧ w1.cell? ⟨g, o + i * 4, none⟩ = some (.int .i64 f.no) ∧ w1.cell? ⟨g, o + i * 4 + 1, none⟩ = some (.int .i64 f.kind) ∧ w1.cell? ⟨g, o + i * 4 + 2, none⟩ = some (.int .i64 f.num) ∧ w1.cell? ⟨g, o + i * 4 + 3, none⟩ = some (.string f.data)) := hrow
  clear hown hrow CI
  cases ok with
  | false =>
    have hn : Hid (R = ([], false)) := HR2.out
    clear HR2
    go_wp2
    go_ret2
    exact ⟨_, by rw [hn.out]; rfl, by rw [hn.out]; exact ⟨none, 0, rfl, by simp, fun i f h => by simp at h⟩, hb⟩
  | true =>
    have hn0 : Hid (R = if riseF l then (l, true) else ([], false)) := HR2.out
    clear HR2
    go_wp2
    go_loopw [17] (fun vi wr => ∃ i : Nat, i ≤ l.length ∧ vi = .int .i64 (i : Int) ∧ Hid (∀ j x z, j + 1 < i → l[j]? = some z → l[j + 1]? = some x → z.no < x.no) ∧ Hid (Below w1.heap.size w1 wr))
      (fun vi _ => l.length - (intOf vi).toNat)
    case atStart => exact ⟨0, by omega, rfl, fun j x z hj => by omega, Below.refl _ _⟩
    case round =>
      obtain ⟨i, hil, rfl, hall, hbw⟩ := hrel
      have hsz : w1.heap.size ≤ wr.heap.size := hbw.out.size
      by_cases hlt : i < l.length
      · have hlt' : (i : Int) < (l.length : Int) := by omega
        obtain ⟨x, hx⟩ : ∃ x, l[i]? = some x := ⟨_, List.getElem?_eq_getElem hlt⟩
        obtain ⟨g, o, rfl, hg, c0, c1, c2, c3⟩ := HROW.out i x hx
        have c0 := (hbw.out.cell (p := ⟨g, o + i * 4, none⟩) hg).trans c0
        have c1 := (hbw.out.cell (p := ⟨g, o + i * 4 + 1, none⟩) hg).trans c1
        have c2 := (hbw.out.cell (p := ⟨g, o + i * 4 + 2, none⟩) hg).trans c2
        have c3 := (hbw.out.cell (p := ⟨g, o + i * 4 + 3, none⟩) hg).trans c3
        have hgw : g < wr.heap.size := by omega
        have hbn : Hid (Below w1.heap.size w1 (wr.alloc (.cells #[.int .i64 x.no, .int .i64 x.kind, .int .i64 x.num, .string x.data] 88))) := hbw.out.alloc hsz _
        by_cases hi0 : i = 0
        · subst hi0
          simp only [Nat.zero_mul, Nat.add_zero] at c0 c1 c2 c3
          have hall2 : Hid (∀ j x z, j + 1 < 0 + 1 → l[j]? = some z → l[j + 1]? = some x → z.no < x.no) := fun j x z hj => by omega
          clear hall hx
          go_wp2_with fail
          go_quiet (fail)
          go_wp2
          go_roundw
          case rel => exact ⟨0 + 1, by omega, by go_num, hall2, by first | exact hbn | exact below_drewN hbn.out⟩
          case measure => simp [intOf]; omega
        · obtain ⟨j, rfl⟩ : ∃ j, i = j + 1 := ⟨i - 1, by omega⟩
          obtain ⟨z, hz⟩ : ∃ z, l[j]? = some z := ⟨_, List.getElem?_eq_getElem (by omega)⟩
          obtain ⟨g', o', hao, _, d0, _⟩ := HROW.out j z hz
          simp only [Option.some.injEq, Addr.mk.injEq, and_true] at hao
          obtain ⟨rfl, rfl⟩ := hao
          have d0 := (hbw.out.cell (p := ⟨g, o + j * 4, none⟩) hg).trans d0
          have hj1 : ((j + 1 : Nat) : Int) - 1 = (j : Int) := by omega
          have hjl : (j : Int) < (l.length : Int) := by omega
          have hj0 : (0 : Int) < ((j + 1 : Nat) : Int) := by omega
          by_cases hge : x.no ≤ z.no
          · have hn : Hid (R = ([], false)) := by show R = _; rw [hn0.out, rise_noF hz hx hge]; rfl
            generalize x.no = xn at *
            generalize z.no = zn at *
            clear hn0 hall hx hz
            go_wp2_with fail
            go_quiet (fail)
            go_wp2
            go_ret2
            exact ⟨_, by rw [hn.out]; rfl, by rw [hn.out]; exact ⟨none, 0, rfl, by simp, fun i f h => by simp at h⟩, by first | exact hb.trans (hbn.out.mono hb.size) | exact below_drewN (hb.trans (hbn.out.mono hb.size))⟩
          · have hall2 : Hid (∀ q x' z', q + 1 < j + 1 + 1 → l[q]? = some z' → l[q + 1]? = some x' → z'.no < x'.no) := fun q x' z' hq h1 h2 => by
              by_cases e : q = j
              · subst e
                rw [hz] at h1; rw [hx] at h2
                cases h1; cases h2
                omega
              · exact hall.out q x' z' (by omega) h1 h2
            have hge2 : ¬ x.no ≤ z.no := hge
            generalize x.no = xn at *
            generalize z.no = zn at *
            clear hall hx hz hge
            go_wp2_with fail
            go_quiet (fail)
            go_wp2
            go_roundw
            case rel => exact ⟨j + 1 + 1, by omega, by go_num, hall2, by first | exact hbn | exact below_drewN hbn.out⟩
            case measure => simp [intOf]; omega
      · have hge : ¬ ((i : Int) < (l.length : Int)) := by omega
        have hn : Hid (R = (l, true)) := by
          show R = _
          rw [hn0.out, (rise_iffF l).2 (fun j x z hz hx => hall.out j x z (by have := (List.getElem?_eq_some_iff.1 hx).1; omega) hz hx)]; rfl
        clear hn0 hall
        go_wp2
        go_ret2
        exact ⟨_, by rw [hn.out]; rfl, by rw [hn.out]; exact HF.out.below hbw.out, hb.trans (hbw.out.mono hb.size)⟩

set_option maxRecDepth 100000 in
set_option maxHeartbeats 4000000 in
theorem fieldByNo_any (l : List Fld) (v : Value) (no : Int) (w : World) (hF : FldsAt w w.heap.size v l) (hl : l.length ≤ 40) :
    Calls Tryd.prog 52 #[v, .int .i64 no] w fun e w' => ((∃ x, fby l no = some x ∧ e = .returned (.tuple #[.agg #[.int .i64 x.no, .int .i64 x.kind, .int .i64 x.num, .string x.data], .bool true])) ∨ (fby l no = none ∧ e = .returned (.tuple #[.agg #[.int .i64 0, .int .i64 0, .int .i64 0, .string ⟨#[]⟩], .bool false]))) ∧ Below w.heap.size w w' := by
  obtain ⟨ao, cap, rfl, _, hrow⟩ := hF
  have HROW : Hid (∀ i f, l[i]? = some f → ∃ g o, ao = some ⟨g, o, none⟩ ∧ g < w.heap.size ∧ w.cell? ⟨g, o + i * 4, none⟩ = some (.int .i64 f.no) ∧ w.cell? ⟨g, o + i * 4 + 1, none⟩ = some (.int .i64 f.kind) ∧ w.cell? ⟨g, o + i * 4 + 2, none⟩ = some (.int .i64 f.num) ∧ w.cell? ⟨g, o + i * 4 + 3, none⟩ = some (.string f.data)) := hrow
  clear hrow
  obtain ⟨W1, hW1⟩ : ∃ W, W = w.alloc (.cells #[.int .i64 0, .int .i64 0, .int .i64 0, .string ⟨#[]⟩] 88) := ⟨_, rfl⟩
  have hB1 : Below w.heap.size w W1 := by rw [hW1]; exact (Below.refl _ w).alloc (Nat.le_refl _) _
  have hs1 : w.heap.size < W1.heap.size := by rw [hW1]; simp
  have r0 : W1.cell? ⟨w.heap.size, 0, none⟩ = some (.int .i64 0) := by rw [hW1]; go_simp
  have r1 : W1.cell? ⟨w.heap.size, 1, none⟩ = some (.int .i64 0) := by rw [hW1]; go_simp
  have r2 : W1.cell? ⟨w.heap.size, 2, none⟩ = some (.int .i64 0) := by rw [hW1]; go_simp
  have r3 : W1.cell? ⟨w.heap.size, 3, none⟩ = some (.string ⟨#[]⟩) := by rw [hW1]; go_simp
  have f0 : W1.frozen? ⟨w.heap.size, 0, none⟩ = false := by rw [hW1]; go_simp
  have f1 : W1.frozen? ⟨w.heap.size, 1, none⟩ = false := by rw [hW1]; go_simp
  have f2 : W1.frozen? ⟨w.heap.size, 2, none⟩ = false := by rw [hW1]; go_simp
  have f3 : W1.frozen? ⟨w.heap.size, 3, none⟩ = false := by rw [hW1]; go_simp
  have Q1 : Hid (∀ W, Below W1.heap.size W1 W → (W.cell? ⟨w.heap.size, 0, none⟩ = some (.int .i64 0) ∧ W.cell? ⟨w.heap.size, 1, none⟩ = some (.int .i64 0) ∧ W.cell? ⟨w.heap.size, 2, none⟩ = some (.int .i64 0) ∧ W.cell? ⟨w.heap.size, 3, none⟩ = some (.string ⟨#[]⟩)) ∧ (W.frozen? ⟨w.heap.size, 0, none⟩ = false ∧ W.frozen? ⟨w.heap.size, 1, none⟩ = false ∧ W.frozen? ⟨w.heap.size, 2, none⟩ = false ∧ W.frozen? ⟨w.heap.size, 3, none⟩ = false) ∧ Below w.heap.size w W ∧ w.heap.size < W.heap.size) := fun W hW =>
    ⟨⟨(hW.cell (p := ⟨w.heap.size, 0, none⟩) hs1).trans r0, (hW.cell (p := ⟨w.heap.size, 1, none⟩) hs1).trans r1, (hW.cell (p := ⟨w.heap.size, 2, none⟩) hs1).trans r2, (hW.cell (p := ⟨w.heap.size, 3, none⟩) hs1).trans r3⟩, ⟨(hW.frozen (p := ⟨w.heap.size, 0, none⟩) hs1).trans f0, (hW.frozen (p := ⟨w.heap.size, 1, none⟩) hs1).trans f1, (hW.frozen (p := ⟨w.heap.size, 2, none⟩) hs1).trans f2, (hW.frozen (p := ⟨w.heap.size, 3, none⟩) hs1).trans f3⟩, hB1.trans (hW.mono (by omega)), by have := hW.size; omega⟩
  clear r0 r1 r2 r3 f0 f1 f2 f3
  go_enter Tryd.func52, Tryd.ntmps52
  go_upto_region 1 with fail
  rw [← hW1]
  clear hW1
  go_wp2
  go_loopw [10] (fun vi wr => ∃ i : Nat, i ≤ l.length ∧ vi = .int .i64 (i : Int) ∧ Hid (∀ (j : Nat) (y : Fld), j < i → l[j]? = some y → y.no ≠ no) ∧ Hid (Below W1.heap.size W1 wr))
    (fun vi _ => l.length - (intOf vi).toNat)
  case atStart => exact ⟨0, by omega, rfl, fun j y hj => by omega, Below.refl _ _⟩
  case round =>
    obtain ⟨i, hil, rfl, hall, hbw⟩ := hrel
    have hsz : W1.heap.size ≤ wr.heap.size := hbw.out.size
    obtain ⟨⟨r0, r1, r2, r3⟩, ⟨f0, f1, f2, f3⟩, hB0, hs0⟩ := Q1.out _ hbw.out
    by_cases hlt : i < l.length
    · have hlt' : (i : Int) < (l.length : Int) := by omega
      obtain ⟨x, hx⟩ : ∃ x, l[i]? = some x := ⟨_, List.getElem?_eq_getElem hlt⟩
      obtain ⟨g, o, rfl, hg, c0, c1, c2, c3⟩ := HROW.out i x hx
      have c0 := (hB0.cell (p := ⟨g, o + i * 4, none⟩) hg).trans c0
      have c1 := (hB0.cell (p := ⟨g, o + i * 4 + 1, none⟩) hg).trans c1
      have c2 := (hB0.cell (p := ⟨g, o + i * 4 + 2, none⟩) hg).trans c2
      have c3 := (hB0.cell (p := ⟨g, o + i * 4 + 3, none⟩) hg).trans c3
      by_cases hno : x.no = no
      · have hfb : Hid (fby l no = some x) := fby_at l no i x hall.out hx hno
        have hno' : (x.no == no) = true := by simpa using hno
        obtain ⟨xn, xk, xm, xd⟩ := x
        dsimp only at c0 c1 c2 c3 hno'
        clear hall hx hno
        go_wp2
        (try simp only [Exit.inBlock, Exit.then])
        refine bodyPost_ret (v := .tuple #[.agg #[.int .i64 xn, .int .i64 xk, .int .i64 xm, .string xd], .bool true]) ?_ rfl ⟨.inl ⟨_, hfb.out, rfl⟩, ?_⟩
        · rw [results_cell_tmp rfl]
          go_simp
        · repeat' (first | exact hB0 | refine Below.alloc ?_ (by first | omega | (simp; omega) | simp) _ | refine Below.setCell ?_ (by first | omega | (simp; omega) | simp) _)
      · have hno' : (x.no == no) = false := by simpa using hno
        have hall2 : Hid (∀ (j : Nat) (y : Fld), j < i + 1 → l[j]? = some y → y.no ≠ no) := fun j y hj hy => by
          by_cases e : j = i
          · rw [e, hx] at hy; cases hy; exact hno
          · exact hall.out j y (by omega) hy
        have hbn : Hid (Below W1.heap.size W1 (wr.alloc (.cells #[.int .i64 x.no, .int .i64 x.kind, .int .i64 x.num, .string x.data] 88))) := hbw.out.alloc hsz _
        clear hall hx hno
        go_wp2
        go_roundw
        case rel => exact ⟨i + 1, by omega, by go_num, hall2, hbn⟩
        case measure => simp [intOf]; omega
    · have hge : ¬ ((i : Int) < (l.length : Int)) := by omega
      have hfb : Hid (fby l no = none) := fby_none l no (fun j y hy => hall.out j y (by have := (List.getElem?_eq_some_iff.1 hy).1; omega) hy)
      clear hall
      go_wp2
      (try simp only [Exit.inBlock, Exit.then])
      refine bodyPost_ret (v := .tuple #[.agg #[.int .i64 0, .int .i64 0, .int .i64 0, .string ⟨#[]⟩], .bool false]) ?_ rfl ⟨.inr ⟨hfb.out, rfl⟩, ?_⟩
      · rw [results_cell_tmp rfl]
        go_simp
      · repeat' (first | exact hB0 | refine Below.alloc ?_ (by first | omega | (simp; omega) | simp) _ | refine Below.setCell ?_ (by first | omega | (simp; omega) | simp) _)

end Go.Proofs.YtmjpmmkjfimopaaDoor
