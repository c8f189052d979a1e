/- The program's drop. The program's three ways to make a program better. The program's dropSeek. The program's makeBetter. -/
import Derived.Test.YtmjpmmkjfimopaaDoorPiG
import Derived.BigQuiet
import Derived.Laws.EntriesVeiled
import Derived.Deep.RegionWith
namespace Go.Proofs.YtmjpmmkjfimopaaDoor
open Go.RowKit Plain Sch Wan Prg

/-- the first so many of a list told anew -/
def dwnTo (f m : Nat) (L : List Ins) (i : Nat) : List Ins := (L.take i).map (dwn f m) ++ L.drop i

theorem dwnTo_zero (f m : Nat) (L : List Ins) : dwnTo f m L 0 = L := by simp [dwnTo]
theorem dwnTo_len (f m : Nat) (L : List Ins) (i : Nat) (h : i ≤ L.length) : (dwnTo f m L i).length = L.length := by simp [dwnTo]; omega
theorem dwnTo_at (f m : Nat) (L : List Ins) (i : Nat) (h : i < L.length) : ins (dwnTo f m L i) i = ins L i := by
  refine ins_of ?_
  unfold dwnTo
  rw [List.getElem?_append_right (by simp; omega)]
  simp only [List.length_map, List.length_take, Nat.min_eq_left (Nat.le_of_lt h), Nat.sub_self, List.getElem?_drop, Nat.add_zero]
  exact ins_get h
theorem dwnTo_step (f m : Nat) (L : List Ins) (i : Nat) (h : i < L.length) : dwnTo f m L (i + 1) = (dwnTo f m L i).set i (dwn f m (ins L i)) := by
  unfold dwnTo
  have hl : ((L.take i).map (dwn f m)).length = i := by simp; omega
  have hd : L.drop i = ins L i :: L.drop (i + 1) := by
    have := List.getElem?_eq_getElem h
    rw [ins_get h] at this
    simp only [Option.some.injEq] at this
    rw [this, List.getElem_cons_drop]
  rw [take_snocI L i h, List.map_append, hd, List.set_append_right _ _ (by omega), hl]
  simp
theorem set_self_ins (L : List Ins) (i : Nat) (h : i < L.length) : L.set i (ins L i) = L := by
  have := List.getElem?_eq_getElem h
  rw [ins_get h] at this
  simp only [Option.some.injEq] at this
  rw [this, List.set_getElem_self]

/-- what a call may leave of a peephole -/
def HOut (w : World) (hb : Nat) (v : Value) (L : List Ins) (w' : World) : Prop := ∃ v', HSt w' hb v' L ∧ Pu w w' (some hb) v v'

set_option maxRecDepth 100000 in
set_option maxHeartbeats 8000000 in
theorem drop_any (L : List Ins) (f m hb : Nat) (v : Value) (w : World) (hH : HSt w hb v L) (hfm : f + m < L.length) (hm : 1 ≤ m) (h60 : L.length ≤ 60) (hdst : ∀ i, i < L.length → (ins L i).code = 3 → 0 ≤ (ins L i).dst ∧ (ins L i).dst ≤ 60) :
    Calls Tryd.prog 93 #[.pointer (some ⟨hb, 0, none⟩), .int .i64 f, .int .i64 m] w fun e w' => e = .returned (.tuple #[]) ∧ HOut w hb v (cutP L f m) w' := by
  obtain ⟨g, cap, rfl, hhg, hgw, hlc, hcm2⟩ := hH.form (by omega)
  obtain ⟨h1, h2, h3, hR⟩ := hH
  have hcm3 : cap ≤ 9223372036854775807 := by unfold maxLen at hcm2; omega
  obtain ⟨D, hD⟩ : ∃ D, D = L.take f ++ L.drop (f + m) := ⟨_, rfl⟩
  have hDl : D.length = L.length - m := by rw [hD]; simp; omega
  have HCUT : Hid (cutP L f m = D.map (dwn f m)) := by show _ = _; rw [hD]; rfl
  have HDD : Hid (∀ i, i < D.length → (ins D i).code = 3 → 0 ≤ (ins D i).dst ∧ (ins D i).dst ≤ 60) := fun i hi hc => by
    have hm : ins D i ∈ L := by
      have h0 : ins D i ∈ D := List.mem_of_getElem? (ins_get hi)
      have h1 : ins D i ∈ L.take f ++ L.drop (f + m) := by rw [← hD]; exact h0
      rcases List.mem_append.1 h1 with h0 | h0
      · exact List.mem_of_mem_take h0
      · exact List.mem_of_mem_drop h0
    obtain ⟨j, hj, hje⟩ := List.getElem_of_mem hm
    have e : ins L j = L[j] := by unfold ins; rw [List.getD, List.getElem?_eq_getElem hj]; rfl
    have := hdst j hj
    rw [e, hje] at this
    exact this hc
  have CD : Hid (∀ W : World, IRow W (hb + 1) (.slice (some ⟨g, 0, none⟩) L.length cap) L → Calls Tryd.prog 107 #[.slice (some ⟨g, 0, none⟩) L.length cap, .int .i64 f, .int .i64 ((f : Int) + (m : Int))] W fun e w' => e = .returned (.slice (some ⟨g, 0, none⟩) D.length cap) ∧ IRow w' (hb + 1) (.slice (some ⟨g, 0, none⟩) D.length cap) D ∧ W.grownBy w' (some g)) := fun W h => by
    have := delete_any L (hb + 1) g cap f m (f + m) W rfl h hfm hm h60
    rw [hDl, hD]
    simpa using this
  have hD60 : D.length ≤ 60 := by omega
  have hD0 : 0 < D.length := by omega
  have hDc : D.length ≤ cap := by omega
  have hfI : (f : Int) + (m : Int) < (L.length : Int) := by omega
  have HR0 : Hid (IRow w (hb + 1) (.slice (some ⟨g, 0, none⟩) L.length cap) L) := hR
  clear hR hD hDl hdst
  go_enter Tryd.func93, Tryd.ntmps93
  go_wp2_with fail
  refine (CD.out _ HR0.out).mono ?_
  rintro e w2 ⟨rfl, hr2, hg2⟩
  have hs2 := hg2.size
  have hne : some hb ≠ some g := fun e => by simp at e; omega
  have hblk : w2.heap[hb]? = w.heap[hb]? := hg2.block hb h1 hne
  have c2 : w2.cell? ⟨hb, 0, none⟩ = some (.slice (some ⟨g, 0, none⟩) L.length cap) := (World.cell?_of_block (w := w) hblk).trans h2
  have f2 : w2.frozen? ⟨hb, 0, none⟩ = false := (World.frozen?_of_block (w := w) hblk).trans h3
  have hl2 : hb < w2.heap.size := by omega
  obtain ⟨W3, hW3⟩ : ∃ W, W = w2.setCell ⟨hb, 0, none⟩ (.slice (some ⟨g, 0, none⟩) D.length cap) := ⟨_, rfl⟩
  have HH3 : Hid (HSt W3 hb (.slice (some ⟨g, 0, none⟩) D.length cap) D) := by
    show HSt _ _ _ _
    rw [hW3]
    exact ⟨by simp; omega, World.cell?_setCell_same _ _ _ c2, by rw [World.frozen?_setCell]; exact f2, IRow.setCell hr2 (by show hb < hb + 1; omega) _⟩
  have HP3 : Hid (Pu w W3 (some hb) (.slice (some ⟨g, 0, none⟩) L.length cap) (.slice (some ⟨g, 0, none⟩) D.length cap)) := by
    show Pu _ _ _ _ _
    rw [hW3]
    refine ⟨hg2.os, hg2.tape, hg2.output, by simp; omega, fun j hj hc hv => ?_, fun g' hg' => .inl hg'⟩
    rw [Below.heap_setCell _ _ _ _ (fun e => hc (by rw [e]))]
    exact hg2.block j hj hv
  go_upto_region 1 with fail
  rw [← hW3]
  clear hW3 hr2 hg2 hblk c2 f2 CD HR0 h2 h3
  have HI0 : Hid (HSt W3 hb (.slice (some ⟨g, 0, none⟩) D.length cap) (dwnTo f m D 0)) := by rw [dwnTo_zero]; exact HH3
  have c3 := HH3.out.2.1
  have hb3 := HH3.out.1
  go_wp2
  go_loopw [25] (fun vi wr => ∃ i : Nat, i ≤ D.length ∧ vi = .int .i64 (i : Int) ∧ Hid (HSt wr hb (.slice (some ⟨g, 0, none⟩) D.length cap) (dwnTo f m D i)) ∧ Hid (Pu w wr (some hb) (.slice (some ⟨g, 0, none⟩) L.length cap) (.slice (some ⟨g, 0, none⟩) D.length cap)))
    (fun vi _ => D.length - (intOf vi).toNat)
  case atStart => exact ⟨0, by omega, rfl, HI0, HP3⟩
  case round =>
    clear HI0 HP3 HH3 c3 hb3
    obtain ⟨i, hi, rfl, HH, HP⟩ := hrel
    have hlI := dwnTo_len f m D i hi
    have hcr := HH.out.2.1
    have hbr := HH.out.1
    have hgr : g < wr.heap.size := (World.ownsRow.lt HH.out.2.2.2 g rfl).2
    by_cases hlt : i < D.length
    · have hlt' : (i : Int) < (D.length : Int) := by omega
      have hH2 : HSt wr hb (.slice (some ⟨g, 0, none⟩) (dwnTo f m D i).length cap) (dwnTo f m D i) := by rw [hlI]; exact HH.out
      have hci := hH2.ins (k := i) (by omega)
      rw [dwnTo_at f m D i hlt] at hci
      have hDD := HDD.out i hlt
      have hSTEP := dwnTo_step f m D i hlt
      have hSET : Hid (∀ W : World, IRow W (hb + 1) (.slice (some ⟨g, 0, none⟩) D.length cap) (dwnTo f m D i) → ∀ d : Int, IRow (W.setCell ⟨g, i * 6 + 5, none⟩ (.int .i64 d)) (hb + 1) (.slice (some ⟨g, 0, none⟩) D.length cap) ((dwnTo f m D i).set i ⟨(ins D i).code, (ins D i).kind, (ins D i).no, (ins D i).num, (ins D i).text, d⟩)) := fun W h d => by
        have h' : IRow W (hb + 1) (.slice (some ⟨g, 0, none⟩) (dwnTo f m D i).length cap) (dwnTo f m D i) := by rw [hlI]; exact h
        have := h'.dst (k := i) (by omega) d
        rw [dwnTo_at f m D i hlt, hlI] at this
        exact this
      have hKeep : Hid (dwn f m (ins D i) = ins D i → dwnTo f m D (i + 1) = dwnTo f m D i) := fun h => by
        rw [hSTEP, h]
        have := set_self_ins (dwnTo f m D i) i (by omega)
        rw [dwnTo_at f m D i hlt] at this
        exact this
      have HSTEP : Hid (dwnTo f m D (i + 1) = (dwnTo f m D i).set i (dwn f m (ins D i))) := hSTEP
      have hfr : wr.frozen? ⟨g, i * 6 + 5, none⟩ = false := World.ownsRow.frozenAt (n := D.length) (by have := HH.out.2.2.2; unfold IRow at this; rw [hlI] at this; exact this) (i * 6 + 5)
      clear hSTEP hH2
      generalize ins D i = x at hci hDD hSET hKeep HSTEP
      obtain ⟨c, k, n, mm, t, jt⟩ := x
      obtain ⟨c0, c1, c2, c3, c4, c5⟩ := hci
      dsimp only at c0 c1 c2 c3 c4 c5 hDD hSET hKeep HSTEP
      obtain ⟨W4, hW4⟩ : ∃ W, W = wr.alloc (.cells #[.int .i64 c, .int .i64 k, .int .i64 n, .int .i64 mm, .string t, .int .i64 jt] 59) := ⟨_, rfl⟩
      have hA4 : Below wr.heap.size wr W4 := by rw [hW4]; exact (Below.refl _ wr).alloc (Nat.le_refl _) _
      have hl4 : wr.heap.size < W4.heap.size := by rw [hW4]; simp
      have x0 : W4.cell? ⟨wr.heap.size, 0, none⟩ = some (.int .i64 c) := by rw [hW4]; go_simp
      have x5 : W4.cell? ⟨wr.heap.size, 5, none⟩ = some (.int .i64 jt) := by rw [hW4]; go_simp
      have HH4 : Hid (HSt W4 hb (.slice (some ⟨g, 0, none⟩) D.length cap) (dwnTo f m D i)) := HH.out.below hA4
      have HP4 : Hid (Pu w W4 (some hb) (.slice (some ⟨g, 0, none⟩) L.length cap) (.slice (some ⟨g, 0, none⟩) D.length cap)) := HP.out.trans (Pu.of_below hA4)
      have d5 := (hA4.cell (p := ⟨g, i * 6 + 5, none⟩) hgr).trans c5
      have e5 := (hA4.frozen (p := ⟨g, i * 6 + 5, none⟩) hgr).trans hfr
      have hc4 := HH4.out.2.1
      have hb4 := HH4.out.1
      have hg4 : g < W4.heap.size := by omega
      go_upto_region 4 with fail
      rw [← hW4]
      clear hW4 c0 c1 c2 c3 c4 c5 HH HP hcr hfr
      by_cases h3 : c = 3
      · subst h3
        by_cases hfj : (f : Int) < jt
        · obtain ⟨j0, j60⟩ := hDD rfl
          have HN : Hid (HSt (W4.setCell ⟨g, i * 6 + 5, none⟩ (.int .i64 (jt - (m : Int)))) hb (.slice (some ⟨g, 0, none⟩) D.length cap) (dwnTo f m D (i + 1))) := by
            show HSt _ _ _ _
            rw [HSTEP.out]
            have hd : dwn f m ⟨3, k, n, mm, t, jt⟩ = ⟨3, k, n, mm, t, jt - (m : Int)⟩ := by simp [dwn, hfj]
            rw [hd]
            obtain ⟨a1, a2, a3, a4⟩ := HH4.out
            exact ⟨by simp; omega, by rw [World.cell?_setCell_other _ _ _ _ (by simp <;> omega)]; exact a2, by rw [World.frozen?_setCell]; exact a3, hSET.out W4 a4 _⟩
          have HPN : Hid (Pu w (W4.setCell ⟨g, i * 6 + 5, none⟩ (.int .i64 (jt - (m : Int)))) (some hb) (.slice (some ⟨g, 0, none⟩) L.length cap) (.slice (some ⟨g, 0, none⟩) D.length cap)) := by
            obtain ⟨a1, a2, a3, a4, a5, a6⟩ := HP4.out
            refine ⟨a1, a2, a3, by simp; omega, fun j hj hc hv => ?_, a6⟩
            rw [Below.heap_setCell _ _ _ _ (fun e => hv (by rw [e]; rfl))]
            exact a5 j hj hc hv
          clear HH4 HP4 HSTEP hKeep hSET
          go_wp2
          go_roundw
          case rel => exact ⟨i + 1, by omega, by go_num, HN, HPN⟩
          case measure => simp [intOf]; omega
        · have hfj' : decide ((f : Int) < jt) = false := by simpa using hfj
          have HN : Hid (HSt W4 hb (.slice (some ⟨g, 0, none⟩) D.length cap) (dwnTo f m D (i + 1))) := by show HSt _ _ _ _; rw [hKeep.out (by simp [dwn, hfj])]; exact HH4.out
          clear HH4 HSTEP hKeep hSET hfj
          go_wp2
          go_roundw
          case rel => exact ⟨i + 1, by omega, by go_num, HN, HP4⟩
          case measure => simp [intOf]; omega
      · have h3' : (c == 3) = false := by simp [h3]
        have HN : Hid (HSt W4 hb (.slice (some ⟨g, 0, none⟩) D.length cap) (dwnTo f m D (i + 1))) := by show HSt _ _ _ _; rw [hKeep.out (by simp [dwn, h3])]; exact HH4.out
        clear HH4 HSTEP hKeep hSET h3
        go_wp2
        go_roundw
        case rel => exact ⟨i + 1, by omega, by go_num, HN, HP4⟩
        case measure => simp [intOf]; omega
    · have hlt' : ¬ (i : Int) < (D.length : Int) := by omega
      have hie : i = D.length := by omega
      have HE : Hid (HOut w hb (.slice (some ⟨g, 0, none⟩) L.length cap) (cutP L f m) wr) := by
        refine ⟨_, ?_, HP.out⟩
        rw [HCUT.out]
        have := HH.out
        rw [hie] at this
        simpa [dwnTo] using this
      clear HH HP
      go_wp2
      go_end0
      exact ⟨rfl, HE.out⟩

end Go.Proofs.YtmjpmmkjfimopaaDoor

namespace Go.Proofs.YtmjpmmkjfimopaaDoor
open Go.RowKit Plain Sch Wan Prg

/-- what a rule leaves -/
def RuleOut (w : World) (hb : Nat) (v : Value) (b : Bool) (U : List Ins) (e : Ending) (w' : World) : Prop :=
  (b = true ∧ e = .returned (.bool true) ∧ HOut w hb v U w') ∨ (b = false ∧ e = .returned (.bool false) ∧ Below w.heap.size w w')

theorem gp_textsI {T : List Ins} (hg : gp T = true) : ∀ x ∈ T, x.text.size ≤ 30 := by
  intro x hx
  obtain ⟨j, hj, rfl⟩ := List.getElem_of_mem hx
  have e : ins T j = T[j] := by unfold ins; rw [List.getD, List.getElem?_eq_getElem hj]; rfl
  have := gp_text hg hj
  rw [e] at this
  exact this

theorem hasC_flips {L : List Ins} {i : Nat} : isA L i ↔ (hasC L i [4, 4] = true ∧ led L ((i : Int) + 1) = false) := by
  unfold isA hasC
  simp only [Bool.and_eq_true, decide_eq_true_eq, List.length_cons, List.length_nil]
  constructor
  · rintro ⟨a, b, c, d⟩
    refine ⟨⟨by omega, fun j hj => ?_⟩, d⟩
    match j, hj with
    | 0, _ => exact a
    | 1, _ => exact c
    | n + 2, h => exact absurd h (by omega)
  · rintro ⟨⟨a, b⟩, d⟩
    exact ⟨b 0 (by omega), by omega, b 1 (by omega), d⟩

theorem hasC_seeks {L : List Ins} {i : Nat} : isC L i ↔ (hasC L i [1, 2, 1] = true ∧ (ins L (i + 2)).no = (ins L i).no ∧ led L ((i : Int) + 1) = false ∧ led L ((i : Int) + 2) = false) := by
  unfold isC hasC
  simp only [Bool.and_eq_true, decide_eq_true_eq, List.length_cons, List.length_nil]
  constructor
  · rintro ⟨a, b, c, d, e, f, g⟩
    refine ⟨⟨by omega, fun j hj => ?_⟩, e, f, g⟩
    match j, hj with
    | 0, _ => exact a
    | 1, _ => exact c
    | 2, _ => exact d
    | n + 3, h => exact absurd h (by omega)
  · rintro ⟨⟨a, b⟩, e, f, g⟩
    exact ⟨b 0 (by omega), by omega, b 1 (by omega), b 2 (by omega), e, f, g⟩

theorem cells2 (w : World) (a b : Int) : ∀ j, j < [a, b].length → (w.alloc (.cells #[.int .i64 a, .int .i64 b] 3)).cell? ⟨w.heap.size, j, none⟩ = some (.int .i64 ([a, b].getD j 0)) := by
  intro j hj
  match j, hj with
  | 0, _ => go_simp
  | 1, _ => go_simp
  | n + 2, h => exact absurd h (by simp)

theorem cells3 (w : World) (a b c : Int) : ∀ j, j < [a, b, c].length → (w.alloc (.cells #[.int .i64 a, .int .i64 b, .int .i64 c] 3)).cell? ⟨w.heap.size, j, none⟩ = some (.int .i64 ([a, b, c].getD j 0)) := by
  intro j hj
  match j, hj with
  | 0, _ => go_simp
  | 1, _ => go_simp
  | 2, _ => go_simp
  | n + 3, h => exact absurd h (by simp)

theorem HOut.from {w w1 w' : World} {hb : Nat} {v : Value} {U : List Ins} (hB : Below w.heap.size w w1) (h : HOut w1 hb v U w') : HOut w hb v U w' := by
  obtain ⟨v', h1, h2⟩ := h
  exact ⟨v', h1, (Pu.of_below hB).trans h2⟩

set_option maxRecDepth 100000 in
set_option maxHeartbeats 4000000 in
theorem dropFlips_any (L : List Ins) (i hb : Nat) (v : Value) (w : World) (hH : HSt w hb v L) (hg : gp L = true) (hi : i < L.length) :
    Calls Tryd.prog 64 #[.pointer (some ⟨hb, 0, none⟩), .int .i64 i] w (RuleOut w hb v (decide (isA L i)) (cutP L i 2)) := by
  obtain ⟨h0, h60⟩ := gp_len hg
  have HH : Hid (HSt w hb v L) := hH
  obtain ⟨W1, hW1⟩ : ∃ W, W = w.alloc (.cells #[.int .i64 4, .int .i64 4] 3) := ⟨_, rfl⟩
  have hB1 : Below w.heap.size w W1 := by rw [hW1]; exact (Below.refl _ w).alloc (Nat.le_refl _) _
  have hl1 : w.heap.size < W1.heap.size := by rw [hW1]; simp
  have CH : Hid (Calls Tryd.prog 91 #[.pointer (some ⟨hb, 0, none⟩), .int .i64 i, .slice (some ⟨w.heap.size, 0, none⟩) 2 2] W1 fun e w' => e = .returned (.bool (hasC L i [4, 4])) ∧ w' = W1) := hasCodes_any L i [4, 4] hb w.heap.size 2 v W1 (hH.below hB1) (by omega) h60 (by omega) (by simp) hl1 (by rw [hW1]; exact cells2 w 4 4) (by simp) (by omega)
  have CL : Hid (Calls Tryd.prog 92 #[.pointer (some ⟨hb, 0, none⟩), .int .i64 ((i : Int) + 1)] W1 fun e w' => e = .returned (.bool (led L ((i : Int) + 1))) ∧ Below W1.heap.size W1 w') := isLedTo_any L _ hb v W1 (hH.below hB1) h60 (gp_textsI hg)
  have hIS := hasC_flips (L := L) (i := i)
  have CD : Hid (∀ W : World, Below w.heap.size w W → isA L i → Calls Tryd.prog 93 #[.pointer (some ⟨hb, 0, none⟩), .int .i64 i, .int .i64 2] W fun e w' => e = .returned (.tuple #[]) ∧ HOut W hb v (cutP L i 2) w') := fun W hW hA => by
    obtain ⟨a1, a2, a3, a4⟩ := hA
    have hi2 := gp_next hg a2 (by omega)
    exact drop_any L i 2 hb v W (HH.out.below hW) (by omega) (by omega) h60 (fun j hj hjc => by obtain ⟨a, b, _⟩ := gp_jump hg hj hjc; omega)
  have hi60 : (i : Int) + 1 ≤ 60 := by omega
  have HA : Hid (isA L i ↔ (hasC L i [4, 4] = true ∧ led L ((i : Int) + 1) = false)) := hIS
  clear hIS hH hg
  generalize hasC L i [4, 4] = hc at CH HA
  generalize led L ((i : Int) + 1) = ld at CL HA
  go_enter Tryd.func64, Tryd.ntmps64
  go_wp2_with fail
  rw [← hW1]
  clear hW1
  refine CH.out.mono ?_
  rintro e w2 ⟨rfl, rfl⟩
  cases hc with
  | false =>
    have hF : Hid (decide (isA L i) = false) := by show _ = _; simp only [decide_eq_false_iff_not]; intro h; have := HA.out.1 h; simp at this
    clear HA CL CD
    go_wp2
    go_ret
    exact .inr ⟨hF.out, rfl, hB1⟩
  | true =>
    go_wp2_with fail
    refine CL.out.mono ?_
    rintro e w3 ⟨rfl, hb3⟩
    have hB3 : Below w.heap.size w w3 := hB1.trans (hb3.mono hB1.size)
    clear hb3
    cases ld with
    | true =>
      have hF : Hid (decide (isA L i) = false) := by show _ = _; simp only [decide_eq_false_iff_not]; intro h; have := HA.out.1 h; simp at this
      clear HA CD
      go_wp2
      go_ret
      exact .inr ⟨hF.out, rfl, hB3⟩
    | false =>
      have hA : isA L i := HA.out.2 (by simp)
      have hF : Hid (decide (isA L i) = true) := by show _ = _; simpa using hA
      have CD2 := CD.out w3 hB3 hA
      have HCD : Hid (Calls Tryd.prog 93 #[.pointer (some ⟨hb, 0, none⟩), .int .i64 i, .int .i64 2] w3 fun e w' => e = .returned (.tuple #[]) ∧ HOut w3 hb v (cutP L i 2) w') := CD2
      clear HA CD CD2 hA
      go_wp2_with fail
      refine HCD.out.mono ?_
      rintro e w4 ⟨rfl, ho4⟩
      have HO : Hid (HOut w hb v (cutP L i 2) w4) := ho4.from hB3
      clear ho4 HCD
      go_wp2
      go_ret
      exact .inl ⟨hF.out, rfl, HO.out⟩

set_option maxRecDepth 100000 in
set_option maxHeartbeats 8000000 in
theorem leadOn_any (L : List Ins) (i hb : Nat) (v : Value) (w : World) (hH : HSt w hb v L) (hg : gp L = true) (hi : i < L.length) :
    Calls Tryd.prog 65 #[.pointer (some ⟨hb, 0, none⟩), .int .i64 i] w (RuleOut w hb v (decide (isB L i)) (ledOn L i)) := by
  obtain ⟨h0, h60⟩ := gp_len hg
  obtain ⟨g, cap, rfl, hhg, hgw, hlc, hcm2⟩ := hH.form (by omega)
  have hcm3 : cap ≤ 9223372036854775807 := by unfold maxLen at hcm2; omega
  have HH : Hid (HSt w hb (.slice (some ⟨g, 0, none⟩) L.length cap) L) := hH
  have hci := hH.ins hi
  have hil : (i : Int) < (L.length : Int) := by omega
  have hc0 := hH.2.1
  have hb0 := hH.1
  have hgb : ¬ g = hb := by omega
  obtain ⟨x, hx⟩ : ∃ x, x = ins L i := ⟨_, rfl⟩
  rw [← hx] at hci
  have HX : Hid (x = ins L i) := hx
  clear hx
  obtain ⟨W1, hW1⟩ : ∃ W, W = w.alloc (.cells #[.int .i64 x.code, .int .i64 x.kind, .int .i64 x.no, .int .i64 x.num, .string x.text, .int .i64 x.dst] 59) := ⟨_, rfl⟩
  have hB1 : Below w.heap.size w W1 := by rw [hW1]; exact (Below.refl _ w).alloc (Nat.le_refl _) _
  have hs1 : Hid (W1.heap.size = w.heap.size + 1) := by show _ = _; rw [hW1]; simp
  have hl1 : w.heap.size < W1.heap.size := by rw [hs1.out]; omega
  have x0 : W1.cell? ⟨w.heap.size, 0, none⟩ = some (.int .i64 x.code) := by rw [hW1]; go_simp
  have x3 : W1.cell? ⟨w.heap.size, 3, none⟩ = some (.int .i64 x.num) := by rw [hW1]; go_simp
  have x5 : W1.cell? ⟨w.heap.size, 5, none⟩ = some (.int .i64 x.dst) := by rw [hW1]; go_simp
  have hc1 := (hB1.cell (p := ⟨hb, 0, none⟩) hb0).trans hc0
  have hb1 : hb < W1.heap.size := by omega
  obtain ⟨c0, c1, c2, c3, c4, c5⟩ := hci
  go_enter Tryd.func65, Tryd.ntmps65
  go_upto_region 2 with fail
  rw [← hW1]
  clear hW1 c0 c1 c2 c3 c4 c5 hc0
  by_cases h3 : x.code = 3
  · obtain ⟨hj1, hj2, hj3⟩ := gp_jump hg hi (by rw [← HX.out]; exact h3)
    rw [← HX.out] at hj1 hj2 hj3
    obtain ⟨q, hq⟩ : ∃ q : Nat, x.dst = (q : Int) := ⟨x.dst.toNat, by omega⟩
    have hqL : q < L.length := by omega
    have hql : (q : Int) < (L.length : Int) := by omega
    have hcq := (hH.below hB1).ins hqL
    have HBB : Hid (isB L i ↔ ((ins L q).code = 3 ∧ (ins L q).num = x.num)) := by
      show _ ↔ _
      unfold isB
      rw [← HX.out, hq]
      simp [h3]
    have HLO : Hid (ledOn L i = L.set i ⟨x.code, x.kind, x.no, x.num, x.text, (ins L q).dst⟩) := by
      show _ = _
      unfold ledOn
      rw [← HX.out, hq]
      rfl
    have HSET : Hid (∀ W : World, IRow W (hb + 1) (.slice (some ⟨g, 0, none⟩) L.length cap) L → ∀ d : Int, IRow (W.setCell ⟨g, i * 6 + 5, none⟩ (.int .i64 d)) (hb + 1) (.slice (some ⟨g, 0, none⟩) L.length cap) (L.set i ⟨x.code, x.kind, x.no, x.num, x.text, d⟩)) := fun W h d => by
      have := h.dst (k := i) hi d
      rw [← HX.out] at this
      exact this
    have hfr : W1.frozen? ⟨g, i * 6 + 5, none⟩ = false := World.ownsRow.frozenAt (n := L.length) (hH.below hB1).2.2.2 (i * 6 + 5)
    obtain ⟨u5, hu5⟩ : ∃ u, W1.cell? ⟨g, i * 6 + 5, none⟩ = some u := by
      have := ((hH.below hB1).ins hi).2.2.2.2.2
      exact ⟨_, this⟩
    rw [hq] at x5
    rw [h3] at x0
    clear hH hg hj1 hj2
    generalize ins L q = y at hcq HBB HLO
    obtain ⟨yc, yk, yn, ym, yt, yj⟩ := y
    obtain ⟨d0, d1, d2, d3, d4, d5⟩ := hcq
    dsimp only at d0 d1 d2 d3 d4 d5 HBB HLO
    have hg1 : g < W1.heap.size := by omega
    go_wp2_with fail
    go_region
    obtain ⟨V, hV⟩ : ∃ V, V = (W1.alloc (.cells #[.int .i64 yc, .int .i64 yk, .int .i64 yn, .int .i64 ym, .string yt, .int .i64 yj] 59)).drew := ⟨_, rfl⟩
    rw [← hV]
    have hBV : Below w.heap.size w V := by rw [hV]; exact (hB1.alloc hB1.size _).drew
    have hA1 : Below W1.heap.size W1 V := by rw [hV]; exact ((Below.refl _ W1).alloc (Nat.le_refl _) _).drew
    have hlV : W1.heap.size < V.heap.size := by rw [hV]; simp
    have y0 : V.cell? ⟨W1.heap.size, 0, none⟩ = some (.int .i64 yc) := by rw [hV]; go_simp
    have y3 : V.cell? ⟨W1.heap.size, 3, none⟩ = some (.int .i64 ym) := by rw [hV]; go_simp
    have y5 : V.cell? ⟨W1.heap.size, 5, none⟩ = some (.int .i64 yj) := by rw [hV]; go_simp
    have x3 := (hA1.cell (p := ⟨w.heap.size, 3, none⟩) hl1).trans x3
    have hcV := (hA1.cell (p := ⟨hb, 0, none⟩) hb1).trans hc1
    have huV := (hA1.cell (p := ⟨g, i * 6 + 5, none⟩) hg1).trans hu5
    have hfV := (hA1.frozen (p := ⟨g, i * 6 + 5, none⟩) hg1).trans hfr
    have hbV : hb < V.heap.size := by omega
    have hgV : g < V.heap.size := by omega
    have hwV : w.heap.size < V.heap.size := by omega
    clear hV x0 x5 d0 d1 d2 d3 d4 d5 hA1 hu5 hfr hc1
    by_cases hyc : yc = 3
    · subst hyc
      by_cases hym : ym = x.num
      · have hym' : (ym != x.num) = false := by simp [hym]
        have hF : Hid (decide (isB L i) = true) := by show _ = _; simp only [decide_eq_true_eq]; exact HBB.out.2 ⟨rfl, hym⟩
        have HHV := HH.out.below hBV
        have HE : Hid (∀ n, HOut w hb (.slice (some ⟨g, 0, none⟩) L.length cap) (ledOn L i) ((V.setCell ⟨g, i * 6 + 5, none⟩ (.int .i64 yj)).drewN n)) := fun n => by
          obtain ⟨a1, a2, a3, a4⟩ := HHV
          refine ⟨.slice (some ⟨g, 0, none⟩) L.length cap, ⟨by simp; omega, ?_, ?_, ?_⟩, hBV.os, hBV.tape, hBV.output, by have := hBV.size; simp; omega, fun j hj hc hv => ?_, fun g' hg' => .inl hg'⟩
          · show (V.setCell ⟨g, i * 6 + 5, none⟩ (.int .i64 yj)).cell? ⟨hb, 0, none⟩ = _
            rw [World.cell?_setCell_other _ _ _ _ (by simp <;> omega)]; exact a2
          · show (V.setCell ⟨g, i * 6 + 5, none⟩ (.int .i64 yj)).frozen? ⟨hb, 0, none⟩ = _
            rw [World.frozen?_setCell]; exact a3
          · rw [HLO.out]; exact HSET.out V a4 yj
          · show (V.setCell ⟨g, i * 6 + 5, none⟩ (.int .i64 yj)).heap[j]? = _
            rw [Below.heap_setCell _ _ _ _ (fun e => hv (by rw [e]; rfl))]
            exact hBV.block j hj
        clear HBB HLO HSET HHV hym
        go_wp2_with fail
        go_region
        go_wp2
        go_ret
        exact .inl ⟨hF.out, rfl, by first | exact HE.out 1 | exact HE.out 0 | exact HE.out _⟩
      · have hym' : (ym != x.num) = true := by simp [hym]
        have hF : Hid (decide (isB L i) = false) := by show _ = _; simp only [decide_eq_false_iff_not]; intro h; exact hym (HBB.out.1 h).2
        clear HBB HLO HSET hym
        go_wp2
        go_ret
        exact .inr ⟨hF.out, rfl, hBV⟩
    · have hyc' : (yc != 3) = true := by simp [hyc]
      have hF : Hid (decide (isB L i) = false) := by show _ = _; simp only [decide_eq_false_iff_not]; intro h; exact hyc (HBB.out.1 h).1
      clear HBB HLO HSET hyc
      go_wp2
      go_ret
      exact .inr ⟨hF.out, rfl, hBV⟩
  · have h3' : (x.code != 3) = true := by simp [h3]
    have hF : Hid (decide (isB L i) = false) := by show _ = _; simp only [decide_eq_false_iff_not]; intro h; exact h3 (by rw [HX.out]; exact h.1)
    clear hH hg h3
    go_wp2
    go_ret
    exact .inr ⟨hF.out, rfl, hB1⟩

end Go.Proofs.YtmjpmmkjfimopaaDoor

namespace Go.Proofs.YtmjpmmkjfimopaaDoor
open Go.RowKit Plain Sch Wan Prg

set_option maxRecDepth 100000 in
set_option maxHeartbeats 8000000 in
theorem dropSeek_any (L : List Ins) (i hb : Nat) (v : Value) (w : World) (hH : HSt w hb v L) (hg : gp L = true) (hi : i < L.length) :
    Calls Tryd.prog 66 #[.pointer (some ⟨hb, 0, none⟩), .int .i64 i] w (RuleOut w hb v (decide (isC L i)) (cutP L (i + 2) 1)) := by
  obtain ⟨h0, h60⟩ := gp_len hg
  obtain ⟨g, cap, rfl, hhg, hgw, hlc, hcm2⟩ := hH.form (by omega)
  have hcm3 : cap ≤ 9223372036854775807 := by unfold maxLen at hcm2; omega
  have HH : Hid (HSt w hb (.slice (some ⟨g, 0, none⟩) L.length cap) L) := hH
  have hc0 := hH.2.1
  have hb0 := hH.1
  have hil : (i : Int) < (L.length : Int) := by omega
  have hB1 : Below w.heap.size w (w.alloc (.cells #[.int .i64 1, .int .i64 2, .int .i64 1] 3)).drew := ((Below.refl _ w).alloc (Nat.le_refl _) _).drew
  have CH : Hid (Calls Tryd.prog 91 #[.pointer (some ⟨hb, 0, none⟩), .int .i64 i, .slice (some ⟨w.heap.size, 0, none⟩) 3 3] (w.alloc (.cells #[.int .i64 1, .int .i64 2, .int .i64 1] 3)).drew fun e w' => e = .returned (.bool (hasC L i [1, 2, 1])) ∧ w' = (w.alloc (.cells #[.int .i64 1, .int .i64 2, .int .i64 1] 3)).drew) := hasCodes_any L i [1, 2, 1] hb w.heap.size 3 _ (w.alloc (.cells #[.int .i64 1, .int .i64 2, .int .i64 1] 3)).drew (hH.below hB1) (by omega) h60 (by omega) (by simp) (by simp) (cells3 w 1 2 1) (by simp) (by omega)
  have CL : Hid (∀ (q : Int) (W : World), Below w.heap.size w W → Calls Tryd.prog 92 #[.pointer (some ⟨hb, 0, none⟩), .int .i64 q] W fun e w' => e = .returned (.bool (led L q)) ∧ Below W.heap.size W w') := fun q W hW => isLedTo_any L _ hb _ W (HH.out.below hW) h60 (gp_textsI hg)
  have HA : Hid (isC L i ↔ (hasC L i [1, 2, 1] = true ∧ (ins L (i + 2)).no = (ins L i).no ∧ led L ((i : Int) + 1) = false ∧ led L ((i : Int) + 2) = false)) := hasC_seeks
  have CD : Hid (∀ W : World, Below w.heap.size w W → isC L i → Calls Tryd.prog 93 #[.pointer (some ⟨hb, 0, none⟩), .int .i64 ((i : Int) + 2), .int .i64 1] W fun e w' => e = .returned (.tuple #[]) ∧ HOut W hb (.slice (some ⟨g, 0, none⟩) L.length cap) (cutP L (i + 2) 1) w') := fun W hW hC => by
    obtain ⟨a1, a2, a3, a4, a5, _⟩ := hC
    have hi2 := gp_next hg a2 (by omega)
    have := drop_any L (i + 2) 1 hb _ W (HH.out.below hW) (by omega) (by omega) h60 (fun j hj hjc => by obtain ⟨a, b, _⟩ := gp_jump hg hj hjc; omega)
    simpa using this
  have hHC : Hid (hasC L i [1, 2, 1] = true → i + 2 < L.length) := fun h => by
    unfold hasC at h
    simp only [Bool.and_eq_true, decide_eq_true_eq, List.length_cons, List.length_nil] at h
    omega
  have HI : Hid (∀ k, k < L.length → InsIn w g (k * 6) (ins L k)) := fun k hk => hH.ins hk
  have hi60 : (i : Int) + 2 ≤ 62 := by omega
  clear hH hg
  have CL1 : Hid (∀ W : World, Below w.heap.size w W → Calls Tryd.prog 92 #[.pointer (some ⟨hb, 0, none⟩), .int .i64 ((i : Int) + 1)] W fun e w' => e = .returned (.bool (led L ((i : Int) + 1))) ∧ Below W.heap.size W w') := CL.out _
  have CL2 : Hid (∀ W : World, Below w.heap.size w W → Calls Tryd.prog 92 #[.pointer (some ⟨hb, 0, none⟩), .int .i64 ((i : Int) + 2)] W fun e w' => e = .returned (.bool (led L ((i : Int) + 2))) ∧ Below W.heap.size W w') := CL.out _
  clear CL
  generalize led L ((i : Int) + 1) = l1 at CL1 HA
  generalize led L ((i : Int) + 2) = l2 at CL2 HA
  have hwB : IntKind.i64.wrap ((i : Int) + 2) = (i : Int) + 2 := by rw [IntKind.wrap_i64]; omega
  have h02 : (0 : Int) ≤ (i : Int) + 2 := by omega
  have hn2 : ((i : Int) + 2).toNat = i + 2 := by omega
  cases hc : hasC L i [1, 2, 1] with
  | false =>
    rw [hc] at CH
    have hF : Hid (decide (isC L i) = false) := by show _ = _; simp only [decide_eq_false_iff_not]; intro h; have := (HA.out.1 h).1; rw [hc] at this; cases this
    clear HA CL1 CL2 CD hHC HI hc
    have s0d : w.drew.cell? ⟨hb, 0, none⟩ = some (.slice (some ⟨g, 0, none⟩) L.length cap) := hc0
    have s1 : (w.alloc (.cells #[.int .i64 1, .int .i64 2, .int .i64 1] 3)).drew.cell? ⟨hb, 0, none⟩ = some (.slice (some ⟨g, 0, none⟩) L.length cap) := (((Below.refl w.heap.size w).alloc (Nat.le_refl _) _).drew.cell (p := ⟨hb, 0, none⟩) hb0).trans hc0
    go_enter Tryd.func66, Tryd.ntmps66
    go_wp2_with fail
    refine wp_region_held_drew (S := fun w' => w'.cell? ⟨hb, 0, none⟩ = some (.slice (some ⟨g, 0, none⟩) L.length cap)) (by kernel_rfl) ?_ (fun hHeld => ?_)
    · exact s0d
    refine wpAnyH_take (i := 0) (oi := { dst := some 5, op := Op.move (Operand.tmp 0), type := 115, pos := "l8_program.go:249", after := #[], guard := none }) (v := ?vq1) rfl (by kernel_rfl) (by kernel_rfl) (by kernel_rfl) (fun _ _ _ h => h) (Or.inl ⟨by rfl, ?hy1⟩) (by assumption) ?rest1
    case hy1 =>
      first
        | (intro w hSw; (try dsimp only at hSw); go_simp; done)
        | (intro w hSw; (try dsimp only at hSw); go_simp; with_reducible rfl)
        | (intro w hSw; (try dsimp only at hSw); go_simp; simp only [hwB, if_true, hnn]; done)
        | (intro w hSw; (try dsimp only at hSw); go_simp; simp only [hwB, if_true, hnn]; with_reducible rfl)
    try simp only [Act.put, List.setIfInBounds_toArray, List.set_cons_zero, List.set_cons_succ]
    refine wpAnyH_take (i := 1) (oi := { dst := some 6, op := Op.move (Operand.tmp 1), type := 3, pos := "l8_program.go:249", after := #[], guard := none }) (v := ?vq2) rfl (by kernel_rfl) (by kernel_rfl) (by kernel_rfl) (fun _ _ _ h => h) (Or.inl ⟨by rfl, ?hy2⟩) (by assumption) ?rest2
    case hy2 =>
      first
        | (intro w hSw; (try dsimp only at hSw); go_simp; done)
        | (intro w hSw; (try dsimp only at hSw); go_simp; with_reducible rfl)
        | (intro w hSw; (try dsimp only at hSw); go_simp; simp only [hwB, if_true, hnn]; done)
        | (intro w hSw; (try dsimp only at hSw); go_simp; simp only [hwB, if_true, hnn]; with_reducible rfl)
    try simp only [Act.put, List.setIfInBounds_toArray, List.set_cons_zero, List.set_cons_succ]
    refine wpAnyH_ready (rs := [2]) (by kernel_rfl) (by simp) ?_
    refine AllReadyH.cons (o := { dst := some 7, op := Op.buildSlice 96 3 #[(0, Operand.const (Value.int IntKind.i64 1)), (1, Operand.const (Value.int IntKind.i64 2)), (2, Operand.const (Value.int IntKind.i64 1))], type := 96, pos := "l8_program.go:249", after := #[], guard := none }) rfl (fun K hK => ?_) AllReadyH.nil
    go_simp
    refine hK.out _ _ ?_ (fun hHeld => ?_)
    · exact s1
    clear hK K
    try simp only [Act.put, List.setIfInBounds_toArray, List.set_cons_zero, List.set_cons_succ]
    refine wpAnyH_ready (rs := [3]) (by kernel_rfl) (by simp) ?_
    refine AllReadyH.cons (o := { dst := some 8, op := Op.call { callee := Callee.value (Operand.func 91), args := #[Operand.tmp 5, Operand.tmp 6, Operand.tmp 7], argTypes := #[115, 3, 96] }, type := 4, pos := "l8_program.go:249", after := #[{ on := 0, ground := Ground.data }, { on := 1, ground := Ground.data }, { on := 2, ground := Ground.data }], guard := none }) rfl (fun K hK => ?_) AllReadyH.nil
    go_simp
    refine CH.out.mono ?_
    rintro e w5 ⟨rfl, rfl⟩
    go_wp2_with fail
    refine hK.out _ _ ?_ (fun hHeld => ?_)
    · exact s1
    clear hK K
    try simp only [Act.put, List.setIfInBounds_toArray, List.set_cons_zero, List.set_cons_succ]
    refine wpAnyH_take (i := 4) (oi := { dst := some 9, op := Op.unOp UnOp.not 4 (Operand.tmp 8), type := 4, pos := "l8_program.go:249", after := #[{ on := 3, ground := Ground.data }], guard := none }) (v := ?vq3) rfl (by kernel_rfl) (by kernel_rfl) (by kernel_rfl) (fun _ _ _ h => h) (Or.inl ⟨by rfl, ?hy3⟩) (by assumption) ?rest3
    case hy3 =>
      first
        | (intro w hSw; (try dsimp only at hSw); go_simp; done)
        | (intro w hSw; (try dsimp only at hSw); go_simp; with_reducible rfl)
        | (intro w hSw; (try dsimp only at hSw); go_simp; simp only [hwB, if_true, hnn]; done)
        | (intro w hSw; (try dsimp only at hSw); go_simp; simp only [hwB, if_true, hnn]; with_reducible rfl)
    try simp only [Act.put, List.setIfInBounds_toArray, List.set_cons_zero, List.set_cons_succ]
    refine wpAnyH_take (i := 5) (oi := { dst := some 10, op := Op.move (Operand.tmp 9), type := 4, pos := "l8_program.go:249", after := #[{ on := 4, ground := Ground.data }, { on := 3, ground := Ground.chain }], guard := none }) (v := ?vq4) rfl (by kernel_rfl) (by kernel_rfl) (by kernel_rfl) (fun _ _ _ h => h) (Or.inl ⟨by rfl, ?hy4⟩) (by assumption) ?rest4
    case hy4 =>
      first
        | (intro w hSw; (try dsimp only at hSw); go_simp; done)
        | (intro w hSw; (try dsimp only at hSw); go_simp; with_reducible rfl)
        | (intro w hSw; (try dsimp only at hSw); go_simp; simp only [hwB, if_true, hnn]; done)
        | (intro w hSw; (try dsimp only at hSw); go_simp; simp only [hwB, if_true, hnn]; with_reducible rfl)
    try simp only [Act.put, List.setIfInBounds_toArray, List.set_cons_zero, List.set_cons_succ]
    refine wpAnyH_take (i := 6) (oi := { dst := some 11, op := Op.move (Operand.tmp 0), type := 115, pos := "l8_program.go:249", after := #[{ on := 5, ground := Ground.guard }], guard := some (5, false) }) (v := undef) rfl (by kernel_rfl) (by kernel_rfl) (by kernel_rfl) (fun _ _ _ h => h) (Or.inr ⟨by rfl, rfl⟩) (by assumption) ?_
    try simp only [Act.put, List.setIfInBounds_toArray, List.set_cons_zero, List.set_cons_succ]
    refine wpAnyH_take (i := 7) (oi := { dst := some 12, op := Op.nilCheck (Operand.tmp 11), type := 0, pos := "l8_program.go:249", after := #[{ on := 6, ground := Ground.data }, { on := 5, ground := Ground.guard }], guard := some (5, false) }) (v := undef) rfl (by kernel_rfl) (by kernel_rfl) (by kernel_rfl) (fun _ _ _ h => h) (Or.inr ⟨by rfl, rfl⟩) (by assumption) ?_
    try simp only [Act.put, List.setIfInBounds_toArray, List.set_cons_zero, List.set_cons_succ]
    refine wpAnyH_take (i := 8) (oi := { dst := some 13, op := Op.fieldAddr 78 (Operand.tmp 12) 0, type := 0, pos := "l8_program.go:249", after := #[{ on := 7, ground := Ground.data }, { on := 5, ground := Ground.guard }], guard := some (5, false) }) (v := undef) rfl (by kernel_rfl) (by kernel_rfl) (by kernel_rfl) (fun _ _ _ h => h) (Or.inr ⟨by rfl, rfl⟩) (by assumption) ?_
    try simp only [Act.put, List.setIfInBounds_toArray, List.set_cons_zero, List.set_cons_succ]
    refine wpAnyH_take (i := 9) (oi := { dst := some 14, op := Op.load 28 (Operand.tmp 13), type := 28, pos := "l8_program.go:249", after := #[{ on := 8, ground := Ground.data }, { on := 5, ground := Ground.guard }], guard := some (5, false) }) (v := undef) rfl (by kernel_rfl) (by kernel_rfl) (by kernel_rfl) (fun _ _ _ h => h) (Or.inr ⟨by rfl, rfl⟩) (by assumption) ?_
    try simp only [Act.put, List.setIfInBounds_toArray, List.set_cons_zero, List.set_cons_succ]
    refine wpAnyH_take (i := 10) (oi := { dst := some 15, op := Op.move (Operand.tmp 1), type := 3, pos := "l8_program.go:249", after := #[{ on := 5, ground := Ground.guard }], guard := some (5, false) }) (v := undef) rfl (by kernel_rfl) (by kernel_rfl) (by kernel_rfl) (fun _ _ _ h => h) (Or.inr ⟨by rfl, rfl⟩) (by assumption) ?_
    try simp only [Act.put, List.setIfInBounds_toArray, List.set_cons_zero, List.set_cons_succ]
    refine wpAnyH_take (i := 11) (oi := { dst := some 16, op := Op.indexAddr 28 (Operand.tmp 14) (Operand.tmp 15), type := 0, pos := "l8_program.go:249", after := #[{ on := 9, ground := Ground.data }, { on := 10, ground := Ground.data }, { on := 5, ground := Ground.guard }], guard := some (5, false) }) (v := undef) rfl (by kernel_rfl) (by kernel_rfl) (by kernel_rfl) (fun _ _ _ h => h) (Or.inr ⟨by rfl, rfl⟩) (by assumption) ?_
    try simp only [Act.put, List.setIfInBounds_toArray, List.set_cons_zero, List.set_cons_succ]
    refine wpAnyH_take (i := 12) (oi := { dst := some 17, op := Op.fieldAddr 59 (Operand.tmp 16) 2, type := 0, pos := "l8_program.go:249", after := #[{ on := 11, ground := Ground.data }, { on := 5, ground := Ground.guard }], guard := some (5, false) }) (v := undef) rfl (by kernel_rfl) (by kernel_rfl) (by kernel_rfl) (fun _ _ _ h => h) (Or.inr ⟨by rfl, rfl⟩) (by assumption) ?_
    try simp only [Act.put, List.setIfInBounds_toArray, List.set_cons_zero, List.set_cons_succ]
    refine wpAnyH_take (i := 13) (oi := { dst := some 18, op := Op.load 3 (Operand.tmp 17), type := 3, pos := "l8_program.go:249", after := #[{ on := 12, ground := Ground.data }, { on := 5, ground := Ground.guard }], guard := some (5, false) }) (v := undef) rfl (by kernel_rfl) (by kernel_rfl) (by kernel_rfl) (fun _ _ _ h => h) (Or.inr ⟨by rfl, rfl⟩) (by assumption) ?_
    try simp only [Act.put, List.setIfInBounds_toArray, List.set_cons_zero, List.set_cons_succ]
    refine wpAnyH_take (i := 14) (oi := { dst := some 19, op := Op.move (Operand.tmp 0), type := 115, pos := "l8_program.go:249", after := #[{ on := 5, ground := Ground.guard }], guard := some (5, false) }) (v := undef) rfl (by kernel_rfl) (by kernel_rfl) (by kernel_rfl) (fun _ _ _ h => h) (Or.inr ⟨by rfl, rfl⟩) (by assumption) ?_
    try simp only [Act.put, List.setIfInBounds_toArray, List.set_cons_zero, List.set_cons_succ]
    refine wpAnyH_take (i := 15) (oi := { dst := some 20, op := Op.nilCheck (Operand.tmp 19), type := 0, pos := "l8_program.go:249", after := #[{ on := 14, ground := Ground.data }, { on := 5, ground := Ground.guard }], guard := some (5, false) }) (v := undef) rfl (by kernel_rfl) (by kernel_rfl) (by kernel_rfl) (fun _ _ _ h => h) (Or.inr ⟨by rfl, rfl⟩) (by assumption) ?_
    try simp only [Act.put, List.setIfInBounds_toArray, List.set_cons_zero, List.set_cons_succ]
    refine wpAnyH_take (i := 16) (oi := { dst := some 21, op := Op.fieldAddr 78 (Operand.tmp 20) 0, type := 0, pos := "l8_program.go:249", after := #[{ on := 15, ground := Ground.data }, { on := 5, ground := Ground.guard }], guard := some (5, false) }) (v := undef) rfl (by kernel_rfl) (by kernel_rfl) (by kernel_rfl) (fun _ _ _ h => h) (Or.inr ⟨by rfl, rfl⟩) (by assumption) ?_
    try simp only [Act.put, List.setIfInBounds_toArray, List.set_cons_zero, List.set_cons_succ]
    refine wpAnyH_take (i := 17) (oi := { dst := some 22, op := Op.load 28 (Operand.tmp 21), type := 28, pos := "l8_program.go:249", after := #[{ on := 16, ground := Ground.data }, { on := 5, ground := Ground.guard }], guard := some (5, false) }) (v := undef) rfl (by kernel_rfl) (by kernel_rfl) (by kernel_rfl) (fun _ _ _ h => h) (Or.inr ⟨by rfl, rfl⟩) (by assumption) ?_
    try simp only [Act.put, List.setIfInBounds_toArray, List.set_cons_zero, List.set_cons_succ]
    refine wpAnyH_take (i := 18) (oi := { dst := some 23, op := Op.move (Operand.tmp 1), type := 3, pos := "l8_program.go:249", after := #[{ on := 5, ground := Ground.guard }], guard := some (5, false) }) (v := undef) rfl (by kernel_rfl) (by kernel_rfl) (by kernel_rfl) (fun _ _ _ h => h) (Or.inr ⟨by rfl, rfl⟩) (by assumption) ?_
    try simp only [Act.put, List.setIfInBounds_toArray, List.set_cons_zero, List.set_cons_succ]
    refine wpAnyH_take (i := 19) (oi := { dst := some 24, op := Op.binOp BinOp.add 3 (Operand.tmp 23) (Operand.const (Value.int IntKind.i64 2)) 3, type := 3, pos := "l8_program.go:249", after := #[{ on := 18, ground := Ground.data }, { on := 5, ground := Ground.guard }], guard := some (5, false) }) (v := undef) rfl (by kernel_rfl) (by kernel_rfl) (by kernel_rfl) (fun _ _ _ h => h) (Or.inr ⟨by rfl, rfl⟩) (by assumption) ?_
    try simp only [Act.put, List.setIfInBounds_toArray, List.set_cons_zero, List.set_cons_succ]
    refine wpAnyH_take (i := 20) (oi := { dst := some 25, op := Op.indexAddr 28 (Operand.tmp 22) (Operand.tmp 24), type := 0, pos := "l8_program.go:249", after := #[{ on := 17, ground := Ground.data }, { on := 19, ground := Ground.data }, { on := 5, ground := Ground.guard }], guard := some (5, false) }) (v := undef) rfl (by kernel_rfl) (by kernel_rfl) (by kernel_rfl) (fun _ _ _ h => h) (Or.inr ⟨by rfl, rfl⟩) (by assumption) ?_
    try simp only [Act.put, List.setIfInBounds_toArray, List.set_cons_zero, List.set_cons_succ]
    refine wpAnyH_take (i := 21) (oi := { dst := some 26, op := Op.fieldAddr 59 (Operand.tmp 25) 2, type := 0, pos := "l8_program.go:249", after := #[{ on := 20, ground := Ground.data }, { on := 5, ground := Ground.guard }], guard := some (5, false) }) (v := undef) rfl (by kernel_rfl) (by kernel_rfl) (by kernel_rfl) (fun _ _ _ h => h) (Or.inr ⟨by rfl, rfl⟩) (by assumption) ?_
    try simp only [Act.put, List.setIfInBounds_toArray, List.set_cons_zero, List.set_cons_succ]
    refine wpAnyH_take (i := 22) (oi := { dst := some 27, op := Op.load 3 (Operand.tmp 26), type := 3, pos := "l8_program.go:249", after := #[{ on := 21, ground := Ground.data }, { on := 5, ground := Ground.guard }], guard := some (5, false) }) (v := undef) rfl (by kernel_rfl) (by kernel_rfl) (by kernel_rfl) (fun _ _ _ h => h) (Or.inr ⟨by rfl, rfl⟩) (by assumption) ?_
    try simp only [Act.put, List.setIfInBounds_toArray, List.set_cons_zero, List.set_cons_succ]
    refine wpAnyH_take (i := 23) (oi := { dst := some 28, op := Op.binOp BinOp.neq 3 (Operand.tmp 18) (Operand.tmp 27) 3, type := 4, pos := "l8_program.go:249", after := #[{ on := 13, ground := Ground.data }, { on := 22, ground := Ground.data }, { on := 5, ground := Ground.guard }], guard := some (5, false) }) (v := undef) rfl (by kernel_rfl) (by kernel_rfl) (by kernel_rfl) (fun _ _ _ h => h) (Or.inr ⟨by rfl, rfl⟩) (by assumption) ?_
    try simp only [Act.put, List.setIfInBounds_toArray, List.set_cons_zero, List.set_cons_succ]
    refine wpAnyH_take (i := 24) (oi := { dst := some 29, op := Op.pick (Operand.tmp 10) (Operand.const (Value.bool true)) (Operand.tmp 28), type := 4, pos := "l8_program.go:249", after := #[{ on := 5, ground := Ground.data }, { on := 23, ground := Ground.data }], guard := none }) (v := ?vq5) rfl (by kernel_rfl) (by kernel_rfl) (by kernel_rfl) (fun _ _ _ h => h) (Or.inl ⟨by rfl, ?hy5⟩) (by assumption) ?rest5
    case hy5 =>
      first
        | (intro w hSw; (try dsimp only at hSw); go_simp; done)
        | (intro w hSw; (try dsimp only at hSw); go_simp; with_reducible rfl)
        | (intro w hSw; (try dsimp only at hSw); go_simp; simp only [hwB, if_true, hnn]; done)
        | (intro w hSw; (try dsimp only at hSw); go_simp; simp only [hwB, if_true, hnn]; with_reducible rfl)
    try simp only [Act.put, List.setIfInBounds_toArray, List.set_cons_zero, List.set_cons_succ]
    refine wpAnyH_done (by kernel_rfl) ?_ _
    go_wp2
    go_ret
    exact .inr ⟨hF.out, rfl, hB1⟩
  | true =>
    rw [hc] at CH
    have hi2 := hHC.out hc
    have hil2 : (i : Int) + 2 < (L.length : Int) := by omega
    have m0 := (HI.out i hi).2.2.1
    have m2 := (HI.out (i + 2) hi2).2.2.1
    have HA2 : Hid (isC L i ↔ ((ins L (i + 2)).no = (ins L i).no ∧ l1 = false ∧ l2 = false)) := HA.out.trans ⟨fun h => h.2, fun h => ⟨hc, h⟩⟩
    clear HA hHC HI hc
    generalize (ins L (i + 2)).no = n2 at m2 HA2
    generalize (ins L i).no = n0 at m0 HA2
    have s0d : w.drew.cell? ⟨hb, 0, none⟩ = some (.slice (some ⟨g, 0, none⟩) L.length cap) ∧ w.drew.cell? ⟨g, i * 6 + 2, none⟩ = some (.int .i64 n0) ∧ w.drew.cell? ⟨g, (i + 2) * 6 + 2, none⟩ = some (.int .i64 n2) := ⟨hc0, m0, m2⟩
    have s1 : (w.alloc (.cells #[.int .i64 1, .int .i64 2, .int .i64 1] 3)).drew.cell? ⟨hb, 0, none⟩ = some (.slice (some ⟨g, 0, none⟩) L.length cap) ∧ (w.alloc (.cells #[.int .i64 1, .int .i64 2, .int .i64 1] 3)).drew.cell? ⟨g, i * 6 + 2, none⟩ = some (.int .i64 n0) ∧ (w.alloc (.cells #[.int .i64 1, .int .i64 2, .int .i64 1] 3)).drew.cell? ⟨g, (i + 2) * 6 + 2, none⟩ = some (.int .i64 n2) := ⟨(((Below.refl w.heap.size w).alloc (Nat.le_refl _) _).drew.cell (p := ⟨hb, 0, none⟩) hb0).trans hc0, (((Below.refl w.heap.size w).alloc (Nat.le_refl _) _).drew.cell (p := ⟨g, i * 6 + 2, none⟩) hgw).trans m0, (((Below.refl w.heap.size w).alloc (Nat.le_refl _) _).drew.cell (p := ⟨g, (i + 2) * 6 + 2, none⟩) hgw).trans m2⟩
    by_cases hnn0 : n2 = n0
    · subst hnn0
      have hnn : (n2 != n2) = false := by simp
      go_enter Tryd.func66, Tryd.ntmps66
      go_wp2_with fail
      refine wp_region_held_drew (S := fun w' => w'.cell? ⟨hb, 0, none⟩ = some (.slice (some ⟨g, 0, none⟩) L.length cap) ∧ w'.cell? ⟨g, i * 6 + 2, none⟩ = some (.int .i64 n2) ∧ w'.cell? ⟨g, (i + 2) * 6 + 2, none⟩ = some (.int .i64 n2)) (by kernel_rfl) ?_ (fun hHeld => ?_)
      · exact s0d
      refine wpAnyH_take (i := 0) (oi := { dst := some 5, op := Op.move (Operand.tmp 0), type := 115, pos := "l8_program.go:249", after := #[], guard := none }) (v := ?vq6) rfl (by kernel_rfl) (by kernel_rfl) (by kernel_rfl) (fun _ _ _ h => h) (Or.inl ⟨by rfl, ?hy6⟩) (by assumption) ?rest6
      case hy6 =>
        first
          | (intro w hSw; (try dsimp only at hSw); go_simp; done)
          | (intro w hSw; (try dsimp only at hSw); go_simp; with_reducible rfl)
          | (intro w hSw; (try dsimp only at hSw); go_simp; simp only [hwB, if_true, hnn]; done)
          | (intro w hSw; (try dsimp only at hSw); go_simp; simp only [hwB, if_true, hnn]; with_reducible rfl)
      try simp only [Act.put, List.setIfInBounds_toArray, List.set_cons_zero, List.set_cons_succ]
      refine wpAnyH_take (i := 1) (oi := { dst := some 6, op := Op.move (Operand.tmp 1), type := 3, pos := "l8_program.go:249", after := #[], guard := none }) (v := ?vq7) rfl (by kernel_rfl) (by kernel_rfl) (by kernel_rfl) (fun _ _ _ h => h) (Or.inl ⟨by rfl, ?hy7⟩) (by assumption) ?rest7
      case hy7 =>
        first
          | (intro w hSw; (try dsimp only at hSw); go_simp; done)
          | (intro w hSw; (try dsimp only at hSw); go_simp; with_reducible rfl)
          | (intro w hSw; (try dsimp only at hSw); go_simp; simp only [hwB, if_true, hnn]; done)
          | (intro w hSw; (try dsimp only at hSw); go_simp; simp only [hwB, if_true, hnn]; with_reducible rfl)
      try simp only [Act.put, List.setIfInBounds_toArray, List.set_cons_zero, List.set_cons_succ]
      refine wpAnyH_ready (rs := [2]) (by kernel_rfl) (by simp) ?_
      refine AllReadyH.cons (o := { dst := some 7, op := Op.buildSlice 96 3 #[(0, Operand.const (Value.int IntKind.i64 1)), (1, Operand.const (Value.int IntKind.i64 2)), (2, Operand.const (Value.int IntKind.i64 1))], type := 96, pos := "l8_program.go:249", after := #[], guard := none }) rfl (fun K hK => ?_) AllReadyH.nil
      go_simp
      refine hK.out _ _ ?_ (fun hHeld => ?_)
      · exact s1
      clear hK K
      try simp only [Act.put, List.setIfInBounds_toArray, List.set_cons_zero, List.set_cons_succ]
      refine wpAnyH_ready (rs := [3]) (by kernel_rfl) (by simp) ?_
      refine AllReadyH.cons (o := { dst := some 8, op := Op.call { callee := Callee.value (Operand.func 91), args := #[Operand.tmp 5, Operand.tmp 6, Operand.tmp 7], argTypes := #[115, 3, 96] }, type := 4, pos := "l8_program.go:249", after := #[{ on := 0, ground := Ground.data }, { on := 1, ground := Ground.data }, { on := 2, ground := Ground.data }], guard := none }) rfl (fun K hK => ?_) AllReadyH.nil
      go_simp
      refine CH.out.mono ?_
      rintro e w5 ⟨rfl, rfl⟩
      go_wp2_with fail
      refine hK.out _ _ ?_ (fun hHeld => ?_)
      · exact s1
      clear hK K
      try simp only [Act.put, List.setIfInBounds_toArray, List.set_cons_zero, List.set_cons_succ]
      refine wpAnyH_take (i := 4) (oi := { dst := some 9, op := Op.unOp UnOp.not 4 (Operand.tmp 8), type := 4, pos := "l8_program.go:249", after := #[{ on := 3, ground := Ground.data }], guard := none }) (v := ?vq8) rfl (by kernel_rfl) (by kernel_rfl) (by kernel_rfl) (fun _ _ _ h => h) (Or.inl ⟨by rfl, ?hy8⟩) (by assumption) ?rest8
      case hy8 =>
        first
          | (intro w hSw; (try dsimp only at hSw); go_simp; done)
          | (intro w hSw; (try dsimp only at hSw); go_simp; with_reducible rfl)
          | (intro w hSw; (try dsimp only at hSw); go_simp; simp only [hwB, if_true, hnn]; done)
          | (intro w hSw; (try dsimp only at hSw); go_simp; simp only [hwB, if_true, hnn]; with_reducible rfl)
      try simp only [Act.put, List.setIfInBounds_toArray, List.set_cons_zero, List.set_cons_succ]
      refine wpAnyH_take (i := 5) (oi := { dst := some 10, op := Op.move (Operand.tmp 9), type := 4, pos := "l8_program.go:249", after := #[{ on := 4, ground := Ground.data }, { on := 3, ground := Ground.chain }], guard := none }) (v := ?vq9) rfl (by kernel_rfl) (by kernel_rfl) (by kernel_rfl) (fun _ _ _ h => h) (Or.inl ⟨by rfl, ?hy9⟩) (by assumption) ?rest9
      case hy9 =>
        first
          | (intro w hSw; (try dsimp only at hSw); go_simp; done)
          | (intro w hSw; (try dsimp only at hSw); go_simp; with_reducible rfl)
          | (intro w hSw; (try dsimp only at hSw); go_simp; simp only [hwB, if_true, hnn]; done)
          | (intro w hSw; (try dsimp only at hSw); go_simp; simp only [hwB, if_true, hnn]; with_reducible rfl)
      try simp only [Act.put, List.setIfInBounds_toArray, List.set_cons_zero, List.set_cons_succ]
      refine wpAnyH_take (i := 6) (oi := { dst := some 11, op := Op.move (Operand.tmp 0), type := 115, pos := "l8_program.go:249", after := #[{ on := 5, ground := Ground.guard }], guard := some (5, false) }) (v := ?vq10) rfl (by kernel_rfl) (by kernel_rfl) (by kernel_rfl) (fun _ _ _ h => h) (Or.inl ⟨by rfl, ?hy10⟩) (by assumption) ?rest10
      case hy10 =>
        first
          | (intro w hSw; (try dsimp only at hSw); go_simp; done)
          | (intro w hSw; (try dsimp only at hSw); go_simp; with_reducible rfl)
          | (intro w hSw; (try dsimp only at hSw); go_simp; simp only [hwB, if_true, hnn]; done)
          | (intro w hSw; (try dsimp only at hSw); go_simp; simp only [hwB, if_true, hnn]; with_reducible rfl)
      try simp only [Act.put, List.setIfInBounds_toArray, List.set_cons_zero, List.set_cons_succ]
      refine wpAnyH_take (i := 7) (oi := { dst := some 12, op := Op.nilCheck (Operand.tmp 11), type := 0, pos := "l8_program.go:249", after := #[{ on := 6, ground := Ground.data }, { on := 5, ground := Ground.guard }], guard := some (5, false) }) (v := ?vq11) rfl (by kernel_rfl) (by kernel_rfl) (by kernel_rfl) (fun _ _ _ h => h) (Or.inl ⟨by rfl, ?hy11⟩) (by assumption) ?rest11
      case hy11 =>
        first
          | (intro w hSw; (try dsimp only at hSw); go_simp; done)
          | (intro w hSw; (try dsimp only at hSw); go_simp; with_reducible rfl)
          | (intro w hSw; (try dsimp only at hSw); go_simp; simp only [hwB, if_true, hnn]; done)
          | (intro w hSw; (try dsimp only at hSw); go_simp; simp only [hwB, if_true, hnn]; with_reducible rfl)
      try simp only [Act.put, List.setIfInBounds_toArray, List.set_cons_zero, List.set_cons_succ]
      refine wpAnyH_take (i := 8) (oi := { dst := some 13, op := Op.fieldAddr 78 (Operand.tmp 12) 0, type := 0, pos := "l8_program.go:249", after := #[{ on := 7, ground := Ground.data }, { on := 5, ground := Ground.guard }], guard := some (5, false) }) (v := ?vq12) rfl (by kernel_rfl) (by kernel_rfl) (by kernel_rfl) (fun _ _ _ h => h) (Or.inl ⟨by rfl, ?hy12⟩) (by assumption) ?rest12
      case hy12 =>
        first
          | (intro w hSw; (try dsimp only at hSw); go_simp; done)
          | (intro w hSw; (try dsimp only at hSw); go_simp; with_reducible rfl)
          | (intro w hSw; (try dsimp only at hSw); go_simp; simp only [hwB, if_true, hnn]; done)
          | (intro w hSw; (try dsimp only at hSw); go_simp; simp only [hwB, if_true, hnn]; with_reducible rfl)
      try simp only [Act.put, List.setIfInBounds_toArray, List.set_cons_zero, List.set_cons_succ]
      refine wpAnyH_take (i := 9) (oi := { dst := some 14, op := Op.load 28 (Operand.tmp 13), type := 28, pos := "l8_program.go:249", after := #[{ on := 8, ground := Ground.data }, { on := 5, ground := Ground.guard }], guard := some (5, false) }) (v := ?vq13) rfl (by kernel_rfl) (by kernel_rfl) (by kernel_rfl) (fun _ _ _ h => h) (Or.inl ⟨by rfl, ?hy13⟩) (by assumption) ?rest13
      case hy13 =>
        first
          | (intro w hSw; (try dsimp only at hSw); go_simp; done)
          | (intro w hSw; (try dsimp only at hSw); go_simp; with_reducible rfl)
          | (intro w hSw; (try dsimp only at hSw); go_simp; simp only [hwB, if_true, hnn]; done)
          | (intro w hSw; (try dsimp only at hSw); go_simp; simp only [hwB, if_true, hnn]; with_reducible rfl)
      try simp only [Act.put, List.setIfInBounds_toArray, List.set_cons_zero, List.set_cons_succ]
      refine wpAnyH_take (i := 10) (oi := { dst := some 15, op := Op.move (Operand.tmp 1), type := 3, pos := "l8_program.go:249", after := #[{ on := 5, ground := Ground.guard }], guard := some (5, false) }) (v := ?vq14) rfl (by kernel_rfl) (by kernel_rfl) (by kernel_rfl) (fun _ _ _ h => h) (Or.inl ⟨by rfl, ?hy14⟩) (by assumption) ?rest14
      case hy14 =>
        first
          | (intro w hSw; (try dsimp only at hSw); go_simp; done)
          | (intro w hSw; (try dsimp only at hSw); go_simp; with_reducible rfl)
          | (intro w hSw; (try dsimp only at hSw); go_simp; simp only [hwB, if_true, hnn]; done)
          | (intro w hSw; (try dsimp only at hSw); go_simp; simp only [hwB, if_true, hnn]; with_reducible rfl)
      try simp only [Act.put, List.setIfInBounds_toArray, List.set_cons_zero, List.set_cons_succ]
      refine wpAnyH_take (i := 11) (oi := { dst := some 16, op := Op.indexAddr 28 (Operand.tmp 14) (Operand.tmp 15), type := 0, pos := "l8_program.go:249", after := #[{ on := 9, ground := Ground.data }, { on := 10, ground := Ground.data }, { on := 5, ground := Ground.guard }], guard := some (5, false) }) (v := ?vq15) rfl (by kernel_rfl) (by kernel_rfl) (by kernel_rfl) (fun _ _ _ h => h) (Or.inl ⟨by rfl, ?hy15⟩) (by assumption) ?rest15
      case hy15 =>
        first
          | (intro w hSw; (try dsimp only at hSw); go_simp; done)
          | (intro w hSw; (try dsimp only at hSw); go_simp; with_reducible rfl)
          | (intro w hSw; (try dsimp only at hSw); go_simp; simp only [hwB, if_true, hnn]; done)
          | (intro w hSw; (try dsimp only at hSw); go_simp; simp only [hwB, if_true, hnn]; with_reducible rfl)
      try simp only [Act.put, List.setIfInBounds_toArray, List.set_cons_zero, List.set_cons_succ]
      refine wpAnyH_take (i := 12) (oi := { dst := some 17, op := Op.fieldAddr 59 (Operand.tmp 16) 2, type := 0, pos := "l8_program.go:249", after := #[{ on := 11, ground := Ground.data }, { on := 5, ground := Ground.guard }], guard := some (5, false) }) (v := ?vq16) rfl (by kernel_rfl) (by kernel_rfl) (by kernel_rfl) (fun _ _ _ h => h) (Or.inl ⟨by rfl, ?hy16⟩) (by assumption) ?rest16
      case hy16 =>
        first
          | (intro w hSw; (try dsimp only at hSw); go_simp; done)
          | (intro w hSw; (try dsimp only at hSw); go_simp; with_reducible rfl)
          | (intro w hSw; (try dsimp only at hSw); go_simp; simp only [hwB, if_true, hnn]; done)
          | (intro w hSw; (try dsimp only at hSw); go_simp; simp only [hwB, if_true, hnn]; with_reducible rfl)
      try simp only [Act.put, List.setIfInBounds_toArray, List.set_cons_zero, List.set_cons_succ]
      refine wpAnyH_take (i := 13) (oi := { dst := some 18, op := Op.load 3 (Operand.tmp 17), type := 3, pos := "l8_program.go:249", after := #[{ on := 12, ground := Ground.data }, { on := 5, ground := Ground.guard }], guard := some (5, false) }) (v := ?vq17) rfl (by kernel_rfl) (by kernel_rfl) (by kernel_rfl) (fun _ _ _ h => h) (Or.inl ⟨by rfl, ?hy17⟩) (by assumption) ?rest17
      case hy17 =>
        first
          | (intro w hSw; (try dsimp only at hSw); go_simp; done)
          | (intro w hSw; (try dsimp only at hSw); go_simp; with_reducible rfl)
          | (intro w hSw; (try dsimp only at hSw); go_simp; simp only [hwB, if_true, hnn]; done)
          | (intro w hSw; (try dsimp only at hSw); go_simp; simp only [hwB, if_true, hnn]; with_reducible rfl)
      try simp only [Act.put, List.setIfInBounds_toArray, List.set_cons_zero, List.set_cons_succ]
      refine wpAnyH_take (i := 14) (oi := { dst := some 19, op := Op.move (Operand.tmp 0), type := 115, pos := "l8_program.go:249", after := #[{ on := 5, ground := Ground.guard }], guard := some (5, false) }) (v := ?vq18) rfl (by kernel_rfl) (by kernel_rfl) (by kernel_rfl) (fun _ _ _ h => h) (Or.inl ⟨by rfl, ?hy18⟩) (by assumption) ?rest18
      case hy18 =>
        first
          | (intro w hSw; (try dsimp only at hSw); go_simp; done)
          | (intro w hSw; (try dsimp only at hSw); go_simp; with_reducible rfl)
          | (intro w hSw; (try dsimp only at hSw); go_simp; simp only [hwB, if_true, hnn]; done)
          | (intro w hSw; (try dsimp only at hSw); go_simp; simp only [hwB, if_true, hnn]; with_reducible rfl)
      try simp only [Act.put, List.setIfInBounds_toArray, List.set_cons_zero, List.set_cons_succ]
      refine wpAnyH_take (i := 15) (oi := { dst := some 20, op := Op.nilCheck (Operand.tmp 19), type := 0, pos := "l8_program.go:249", after := #[{ on := 14, ground := Ground.data }, { on := 5, ground := Ground.guard }], guard := some (5, false) }) (v := ?vq19) rfl (by kernel_rfl) (by kernel_rfl) (by kernel_rfl) (fun _ _ _ h => h) (Or.inl ⟨by rfl, ?hy19⟩) (by assumption) ?rest19
      case hy19 =>
        first
          | (intro w hSw; (try dsimp only at hSw); go_simp; done)
          | (intro w hSw; (try dsimp only at hSw); go_simp; with_reducible rfl)
          | (intro w hSw; (try dsimp only at hSw); go_simp; simp only [hwB, if_true, hnn]; done)
          | (intro w hSw; (try dsimp only at hSw); go_simp; simp only [hwB, if_true, hnn]; with_reducible rfl)
      try simp only [Act.put, List.setIfInBounds_toArray, List.set_cons_zero, List.set_cons_succ]
      refine wpAnyH_take (i := 16) (oi := { dst := some 21, op := Op.fieldAddr 78 (Operand.tmp 20) 0, type := 0, pos := "l8_program.go:249", after := #[{ on := 15, ground := Ground.data }, { on := 5, ground := Ground.guard }], guard := some (5, false) }) (v := ?vq20) rfl (by kernel_rfl) (by kernel_rfl) (by kernel_rfl) (fun _ _ _ h => h) (Or.inl ⟨by rfl, ?hy20⟩) (by assumption) ?rest20
      case hy20 =>
        first
          | (intro w hSw; (try dsimp only at hSw); go_simp; done)
          | (intro w hSw; (try dsimp only at hSw); go_simp; with_reducible rfl)
          | (intro w hSw; (try dsimp only at hSw); go_simp; simp only [hwB, if_true, hnn]; done)
          | (intro w hSw; (try dsimp only at hSw); go_simp; simp only [hwB, if_true, hnn]; with_reducible rfl)
      try simp only [Act.put, List.setIfInBounds_toArray, List.set_cons_zero, List.set_cons_succ]
      refine wpAnyH_take (i := 17) (oi := { dst := some 22, op := Op.load 28 (Operand.tmp 21), type := 28, pos := "l8_program.go:249", after := #[{ on := 16, ground := Ground.data }, { on := 5, ground := Ground.guard }], guard := some (5, false) }) (v := ?vq21) rfl (by kernel_rfl) (by kernel_rfl) (by kernel_rfl) (fun _ _ _ h => h) (Or.inl ⟨by rfl, ?hy21⟩) (by assumption) ?rest21
      case hy21 =>
        first
          | (intro w hSw; (try dsimp only at hSw); go_simp; done)
          | (intro w hSw; (try dsimp only at hSw); go_simp; with_reducible rfl)
          | (intro w hSw; (try dsimp only at hSw); go_simp; simp only [hwB, if_true, hnn]; done)
          | (intro w hSw; (try dsimp only at hSw); go_simp; simp only [hwB, if_true, hnn]; with_reducible rfl)
      try simp only [Act.put, List.setIfInBounds_toArray, List.set_cons_zero, List.set_cons_succ]
      refine wpAnyH_take (i := 18) (oi := { dst := some 23, op := Op.move (Operand.tmp 1), type := 3, pos := "l8_program.go:249", after := #[{ on := 5, ground := Ground.guard }], guard := some (5, false) }) (v := ?vq22) rfl (by kernel_rfl) (by kernel_rfl) (by kernel_rfl) (fun _ _ _ h => h) (Or.inl ⟨by rfl, ?hy22⟩) (by assumption) ?rest22
      case hy22 =>
        first
          | (intro w hSw; (try dsimp only at hSw); go_simp; done)
          | (intro w hSw; (try dsimp only at hSw); go_simp; with_reducible rfl)
          | (intro w hSw; (try dsimp only at hSw); go_simp; simp only [hwB, if_true, hnn]; done)
          | (intro w hSw; (try dsimp only at hSw); go_simp; simp only [hwB, if_true, hnn]; with_reducible rfl)
      try simp only [Act.put, List.setIfInBounds_toArray, List.set_cons_zero, List.set_cons_succ]
      refine wpAnyH_take (i := 19) (oi := { dst := some 24, op := Op.binOp BinOp.add 3 (Operand.tmp 23) (Operand.const (Value.int IntKind.i64 2)) 3, type := 3, pos := "l8_program.go:249", after := #[{ on := 18, ground := Ground.data }, { on := 5, ground := Ground.guard }], guard := some (5, false) }) (v := ?vq23) rfl (by kernel_rfl) (by kernel_rfl) (by kernel_rfl) (fun _ _ _ h => h) (Or.inl ⟨by rfl, ?hy23⟩) (by assumption) ?rest23
      case hy23 =>
        first
          | (intro w hSw; (try dsimp only at hSw); go_simp; done)
          | (intro w hSw; (try dsimp only at hSw); go_simp; with_reducible rfl)
          | (intro w hSw; (try dsimp only at hSw); go_simp; simp only [hwB, if_true, hnn]; done)
          | (intro w hSw; (try dsimp only at hSw); go_simp; simp only [hwB, if_true, hnn]; with_reducible rfl)
      try simp only [Act.put, List.setIfInBounds_toArray, List.set_cons_zero, List.set_cons_succ]
      refine wpAnyH_take (i := 20) (oi := { dst := some 25, op := Op.indexAddr 28 (Operand.tmp 22) (Operand.tmp 24), type := 0, pos := "l8_program.go:249", after := #[{ on := 17, ground := Ground.data }, { on := 19, ground := Ground.data }, { on := 5, ground := Ground.guard }], guard := some (5, false) }) (v := ?vq24) rfl (by kernel_rfl) (by kernel_rfl) (by kernel_rfl) (fun _ _ _ h => h) (Or.inl ⟨by rfl, ?hy24⟩) (by assumption) ?rest24
      case hy24 =>
        first
          | (intro w hSw; (try dsimp only at hSw); go_simp; done)
          | (intro w hSw; (try dsimp only at hSw); go_simp; with_reducible rfl)
          | (intro w hSw; (try dsimp only at hSw); go_simp; simp only [hwB, if_true, hnn]; done)
          | (intro w hSw; (try dsimp only at hSw); go_simp; simp only [hwB, if_true, hnn]; with_reducible rfl)
      try simp only [Act.put, List.setIfInBounds_toArray, List.set_cons_zero, List.set_cons_succ]
      refine wpAnyH_take (i := 21) (oi := { dst := some 26, op := Op.fieldAddr 59 (Operand.tmp 25) 2, type := 0, pos := "l8_program.go:249", after := #[{ on := 20, ground := Ground.data }, { on := 5, ground := Ground.guard }], guard := some (5, false) }) (v := ?vq25) rfl (by kernel_rfl) (by kernel_rfl) (by kernel_rfl) (fun _ _ _ h => h) (Or.inl ⟨by rfl, ?hy25⟩) (by assumption) ?rest25
      case hy25 =>
        first
          | (intro w hSw; (try dsimp only at hSw); go_simp; done)
          | (intro w hSw; (try dsimp only at hSw); go_simp; with_reducible rfl)
          | (intro w hSw; (try dsimp only at hSw); go_simp; simp only [hwB, if_true, hnn]; done)
          | (intro w hSw; (try dsimp only at hSw); go_simp; simp only [hwB, if_true, hnn]; with_reducible rfl)
      try simp only [Act.put, List.setIfInBounds_toArray, List.set_cons_zero, List.set_cons_succ]
      refine wpAnyH_take (i := 22) (oi := { dst := some 27, op := Op.load 3 (Operand.tmp 26), type := 3, pos := "l8_program.go:249", after := #[{ on := 21, ground := Ground.data }, { on := 5, ground := Ground.guard }], guard := some (5, false) }) (v := ?vq26) rfl (by kernel_rfl) (by kernel_rfl) (by kernel_rfl) (fun _ _ _ h => h) (Or.inl ⟨by rfl, ?hy26⟩) (by assumption) ?rest26
      case hy26 =>
        first
          | (intro w hSw; (try dsimp only at hSw); go_simp; done)
          | (intro w hSw; (try dsimp only at hSw); go_simp; with_reducible rfl)
          | (intro w hSw; (try dsimp only at hSw); go_simp; simp only [hwB, if_true, hnn]; done)
          | (intro w hSw; (try dsimp only at hSw); go_simp; simp only [hwB, if_true, hnn]; with_reducible rfl)
      try simp only [Act.put, List.setIfInBounds_toArray, List.set_cons_zero, List.set_cons_succ]
      refine wpAnyH_take (i := 23) (oi := { dst := some 28, op := Op.binOp BinOp.neq 3 (Operand.tmp 18) (Operand.tmp 27) 3, type := 4, pos := "l8_program.go:249", after := #[{ on := 13, ground := Ground.data }, { on := 22, ground := Ground.data }, { on := 5, ground := Ground.guard }], guard := some (5, false) }) (v := ?vq27) rfl (by kernel_rfl) (by kernel_rfl) (by kernel_rfl) (fun _ _ _ h => h) (Or.inl ⟨by rfl, ?hy27⟩) (by assumption) ?rest27
      case hy27 =>
        first
          | (intro w hSw; (try dsimp only at hSw); go_simp; done)
          | (intro w hSw; (try dsimp only at hSw); go_simp; with_reducible rfl)
          | (intro w hSw; (try dsimp only at hSw); go_simp; simp only [hwB, if_true, hnn]; done)
          | (intro w hSw; (try dsimp only at hSw); go_simp; simp only [hwB, if_true, hnn]; with_reducible rfl)
      try simp only [Act.put, List.setIfInBounds_toArray, List.set_cons_zero, List.set_cons_succ]
      refine wpAnyH_take (i := 24) (oi := { dst := some 29, op := Op.pick (Operand.tmp 10) (Operand.const (Value.bool true)) (Operand.tmp 28), type := 4, pos := "l8_program.go:249", after := #[{ on := 5, ground := Ground.data }, { on := 23, ground := Ground.data }], guard := none }) (v := ?vq28) rfl (by kernel_rfl) (by kernel_rfl) (by kernel_rfl) (fun _ _ _ h => h) (Or.inl ⟨by rfl, ?hy28⟩) (by assumption) ?rest28
      case hy28 =>
        first
          | (intro w hSw; (try dsimp only at hSw); go_simp; done)
          | (intro w hSw; (try dsimp only at hSw); go_simp; with_reducible rfl)
          | (intro w hSw; (try dsimp only at hSw); go_simp; simp only [hwB, if_true, hnn]; done)
          | (intro w hSw; (try dsimp only at hSw); go_simp; simp only [hwB, if_true, hnn]; with_reducible rfl)
      try simp only [Act.put, List.setIfInBounds_toArray, List.set_cons_zero, List.set_cons_succ]
      refine wpAnyH_done (by kernel_rfl) ?_ _
      clear s0d s1 m0 m2 hwB h02 hn2
      obtain ⟨W1, hW1⟩ : ∃ W, W = (w.alloc (.cells #[.int .i64 1, .int .i64 2, .int .i64 1] 3)).drew := ⟨_, rfl⟩
      rw [← hW1] at hB1 ⊢
      clear hW1 CH
      go_wp2_with fail
      refine (CL1.out _ hB1).mono ?_
      rintro e w3 ⟨rfl, hb3⟩
      have hB3 : Below w.heap.size w w3 := hB1.trans (hb3.mono hB1.size)
      clear hb3
      cases l1 with
      | true =>
        have hF : Hid (decide (isC L i) = false) := by show _ = _; simp only [decide_eq_false_iff_not]; intro h; have := HA2.out.1 h; simp at this
        clear HA2 CL1 CL2 CD
        go_wp2
        go_ret
        exact .inr ⟨hF.out, rfl, hB3⟩
      | false =>
        go_wp2_with fail
        refine (CL2.out _ hB3).mono ?_
        rintro e w4 ⟨rfl, hb4⟩
        have hB4 : Below w.heap.size w w4 := hB3.trans (hb4.mono hB3.size)
        clear hb4
        cases l2 with
        | true =>
          have hF : Hid (decide (isC L i) = false) := by show _ = _; simp only [decide_eq_false_iff_not]; intro h; have := HA2.out.1 h; simp at this
          clear HA2 CL1 CL2 CD
          go_wp2
          go_ret
          exact .inr ⟨hF.out, rfl, hB4⟩
        | false =>
          have hC : isC L i := HA2.out.2 (by simp)
          have hF : Hid (decide (isC L i) = true) := by show _ = _; simpa using hC
          have HCD : Hid (Calls Tryd.prog 93 #[.pointer (some ⟨hb, 0, none⟩), .int .i64 ((i : Int) + 2), .int .i64 1] w4 fun e w' => e = .returned (.tuple #[]) ∧ HOut w4 hb (.slice (some ⟨g, 0, none⟩) L.length cap) (cutP L (i + 2) 1) w') := CD.out w4 hB4 hC
          clear HA2 CL1 CL2 CD hC
          go_wp2_with fail
          refine HCD.out.mono ?_
          rintro e w5 ⟨rfl, ho5⟩
          have HO : Hid (HOut w hb (.slice (some ⟨g, 0, none⟩) L.length cap) (cutP L (i + 2) 1) w5) := ho5.from hB4
          clear ho5 HCD
          go_wp2
          go_ret
          exact .inl ⟨hF.out, rfl, HO.out⟩
    · have hnn : (n0 != n2) = true := by simp; exact fun e => hnn0 e.symm
      have hF : Hid (decide (isC L i) = false) := by show _ = _; simp only [decide_eq_false_iff_not]; intro h; exact hnn0 (HA2.out.1 h).1
      clear HA2 CL1 CL2 CD
      go_enter Tryd.func66, Tryd.ntmps66
      go_wp2_with fail
      refine wp_region_held_drew (S := fun w' => w'.cell? ⟨hb, 0, none⟩ = some (.slice (some ⟨g, 0, none⟩) L.length cap) ∧ w'.cell? ⟨g, i * 6 + 2, none⟩ = some (.int .i64 n0) ∧ w'.cell? ⟨g, (i + 2) * 6 + 2, none⟩ = some (.int .i64 n2)) (by kernel_rfl) ?_ (fun hHeld => ?_)
      · exact s0d
      refine wpAnyH_take (i := 0) (oi := { dst := some 5, op := Op.move (Operand.tmp 0), type := 115, pos := "l8_program.go:249", after := #[], guard := none }) (v := ?vq29) rfl (by kernel_rfl) (by kernel_rfl) (by kernel_rfl) (fun _ _ _ h => h) (Or.inl ⟨by rfl, ?hy29⟩) (by assumption) ?rest29
      case hy29 =>
        first
          | (intro w hSw; (try dsimp only at hSw); go_simp; done)
          | (intro w hSw; (try dsimp only at hSw); go_simp; with_reducible rfl)
          | (intro w hSw; (try dsimp only at hSw); go_simp; simp only [hwB, if_true, hnn]; done)
          | (intro w hSw; (try dsimp only at hSw); go_simp; simp only [hwB, if_true, hnn]; with_reducible rfl)
      try simp only [Act.put, List.setIfInBounds_toArray, List.set_cons_zero, List.set_cons_succ]
      refine wpAnyH_take (i := 1) (oi := { dst := some 6, op := Op.move (Operand.tmp 1), type := 3, pos := "l8_program.go:249", after := #[], guard := none }) (v := ?vq30) rfl (by kernel_rfl) (by kernel_rfl) (by kernel_rfl) (fun _ _ _ h => h) (Or.inl ⟨by rfl, ?hy30⟩) (by assumption) ?rest30
      case hy30 =>
        first
          | (intro w hSw; (try dsimp only at hSw); go_simp; done)
          | (intro w hSw; (try dsimp only at hSw); go_simp; with_reducible rfl)
          | (intro w hSw; (try dsimp only at hSw); go_simp; simp only [hwB, if_true, hnn]; done)
          | (intro w hSw; (try dsimp only at hSw); go_simp; simp only [hwB, if_true, hnn]; with_reducible rfl)
      try simp only [Act.put, List.setIfInBounds_toArray, List.set_cons_zero, List.set_cons_succ]
      refine wpAnyH_ready (rs := [2]) (by kernel_rfl) (by simp) ?_
      refine AllReadyH.cons (o := { dst := some 7, op := Op.buildSlice 96 3 #[(0, Operand.const (Value.int IntKind.i64 1)), (1, Operand.const (Value.int IntKind.i64 2)), (2, Operand.const (Value.int IntKind.i64 1))], type := 96, pos := "l8_program.go:249", after := #[], guard := none }) rfl (fun K hK => ?_) AllReadyH.nil
      go_simp
      refine hK.out _ _ ?_ (fun hHeld => ?_)
      · exact s1
      clear hK K
      try simp only [Act.put, List.setIfInBounds_toArray, List.set_cons_zero, List.set_cons_succ]
      refine wpAnyH_ready (rs := [3]) (by kernel_rfl) (by simp) ?_
      refine AllReadyH.cons (o := { dst := some 8, op := Op.call { callee := Callee.value (Operand.func 91), args := #[Operand.tmp 5, Operand.tmp 6, Operand.tmp 7], argTypes := #[115, 3, 96] }, type := 4, pos := "l8_program.go:249", after := #[{ on := 0, ground := Ground.data }, { on := 1, ground := Ground.data }, { on := 2, ground := Ground.data }], guard := none }) rfl (fun K hK => ?_) AllReadyH.nil
      go_simp
      refine CH.out.mono ?_
      rintro e w5 ⟨rfl, rfl⟩
      go_wp2_with fail
      refine hK.out _ _ ?_ (fun hHeld => ?_)
      · exact s1
      clear hK K
      try simp only [Act.put, List.setIfInBounds_toArray, List.set_cons_zero, List.set_cons_succ]
      refine wpAnyH_take (i := 4) (oi := { dst := some 9, op := Op.unOp UnOp.not 4 (Operand.tmp 8), type := 4, pos := "l8_program.go:249", after := #[{ on := 3, ground := Ground.data }], guard := none }) (v := ?vq31) rfl (by kernel_rfl) (by kernel_rfl) (by kernel_rfl) (fun _ _ _ h => h) (Or.inl ⟨by rfl, ?hy31⟩) (by assumption) ?rest31
      case hy31 =>
        first
          | (intro w hSw; (try dsimp only at hSw); go_simp; done)
          | (intro w hSw; (try dsimp only at hSw); go_simp; with_reducible rfl)
          | (intro w hSw; (try dsimp only at hSw); go_simp; simp only [hwB, if_true, hnn]; done)
          | (intro w hSw; (try dsimp only at hSw); go_simp; simp only [hwB, if_true, hnn]; with_reducible rfl)
      try simp only [Act.put, List.setIfInBounds_toArray, List.set_cons_zero, List.set_cons_succ]
      refine wpAnyH_take (i := 5) (oi := { dst := some 10, op := Op.move (Operand.tmp 9), type := 4, pos := "l8_program.go:249", after := #[{ on := 4, ground := Ground.data }, { on := 3, ground := Ground.chain }], guard := none }) (v := ?vq32) rfl (by kernel_rfl) (by kernel_rfl) (by kernel_rfl) (fun _ _ _ h => h) (Or.inl ⟨by rfl, ?hy32⟩) (by assumption) ?rest32
      case hy32 =>
        first
          | (intro w hSw; (try dsimp only at hSw); go_simp; done)
          | (intro w hSw; (try dsimp only at hSw); go_simp; with_reducible rfl)
          | (intro w hSw; (try dsimp only at hSw); go_simp; simp only [hwB, if_true, hnn]; done)
          | (intro w hSw; (try dsimp only at hSw); go_simp; simp only [hwB, if_true, hnn]; with_reducible rfl)
      try simp only [Act.put, List.setIfInBounds_toArray, List.set_cons_zero, List.set_cons_succ]
      refine wpAnyH_take (i := 6) (oi := { dst := some 11, op := Op.move (Operand.tmp 0), type := 115, pos := "l8_program.go:249", after := #[{ on := 5, ground := Ground.guard }], guard := some (5, false) }) (v := ?vq33) rfl (by kernel_rfl) (by kernel_rfl) (by kernel_rfl) (fun _ _ _ h => h) (Or.inl ⟨by rfl, ?hy33⟩) (by assumption) ?rest33
      case hy33 =>
        first
          | (intro w hSw; (try dsimp only at hSw); go_simp; done)
          | (intro w hSw; (try dsimp only at hSw); go_simp; with_reducible rfl)
          | (intro w hSw; (try dsimp only at hSw); go_simp; simp only [hwB, if_true, hnn]; done)
          | (intro w hSw; (try dsimp only at hSw); go_simp; simp only [hwB, if_true, hnn]; with_reducible rfl)
      try simp only [Act.put, List.setIfInBounds_toArray, List.set_cons_zero, List.set_cons_succ]
      refine wpAnyH_take (i := 7) (oi := { dst := some 12, op := Op.nilCheck (Operand.tmp 11), type := 0, pos := "l8_program.go:249", after := #[{ on := 6, ground := Ground.data }, { on := 5, ground := Ground.guard }], guard := some (5, false) }) (v := ?vq34) rfl (by kernel_rfl) (by kernel_rfl) (by kernel_rfl) (fun _ _ _ h => h) (Or.inl ⟨by rfl, ?hy34⟩) (by assumption) ?rest34
      case hy34 =>
        first
          | (intro w hSw; (try dsimp only at hSw); go_simp; done)
          | (intro w hSw; (try dsimp only at hSw); go_simp; with_reducible rfl)
          | (intro w hSw; (try dsimp only at hSw); go_simp; simp only [hwB, if_true, hnn]; done)
          | (intro w hSw; (try dsimp only at hSw); go_simp; simp only [hwB, if_true, hnn]; with_reducible rfl)
      try simp only [Act.put, List.setIfInBounds_toArray, List.set_cons_zero, List.set_cons_succ]
      refine wpAnyH_take (i := 8) (oi := { dst := some 13, op := Op.fieldAddr 78 (Operand.tmp 12) 0, type := 0, pos := "l8_program.go:249", after := #[{ on := 7, ground := Ground.data }, { on := 5, ground := Ground.guard }], guard := some (5, false) }) (v := ?vq35) rfl (by kernel_rfl) (by kernel_rfl) (by kernel_rfl) (fun _ _ _ h => h) (Or.inl ⟨by rfl, ?hy35⟩) (by assumption) ?rest35
      case hy35 =>
        first
          | (intro w hSw; (try dsimp only at hSw); go_simp; done)
          | (intro w hSw; (try dsimp only at hSw); go_simp; with_reducible rfl)
          | (intro w hSw; (try dsimp only at hSw); go_simp; simp only [hwB, if_true, hnn]; done)
          | (intro w hSw; (try dsimp only at hSw); go_simp; simp only [hwB, if_true, hnn]; with_reducible rfl)
      try simp only [Act.put, List.setIfInBounds_toArray, List.set_cons_zero, List.set_cons_succ]
      refine wpAnyH_take (i := 9) (oi := { dst := some 14, op := Op.load 28 (Operand.tmp 13), type := 28, pos := "l8_program.go:249", after := #[{ on := 8, ground := Ground.data }, { on := 5, ground := Ground.guard }], guard := some (5, false) }) (v := ?vq36) rfl (by kernel_rfl) (by kernel_rfl) (by kernel_rfl) (fun _ _ _ h => h) (Or.inl ⟨by rfl, ?hy36⟩) (by assumption) ?rest36
      case hy36 =>
        first
          | (intro w hSw; (try dsimp only at hSw); go_simp; done)
          | (intro w hSw; (try dsimp only at hSw); go_simp; with_reducible rfl)
          | (intro w hSw; (try dsimp only at hSw); go_simp; simp only [hwB, if_true, hnn]; done)
          | (intro w hSw; (try dsimp only at hSw); go_simp; simp only [hwB, if_true, hnn]; with_reducible rfl)
      try simp only [Act.put, List.setIfInBounds_toArray, List.set_cons_zero, List.set_cons_succ]
      refine wpAnyH_take (i := 10) (oi := { dst := some 15, op := Op.move (Operand.tmp 1), type := 3, pos := "l8_program.go:249", after := #[{ on := 5, ground := Ground.guard }], guard := some (5, false) }) (v := ?vq37) rfl (by kernel_rfl) (by kernel_rfl) (by kernel_rfl) (fun _ _ _ h => h) (Or.inl ⟨by rfl, ?hy37⟩) (by assumption) ?rest37
      case hy37 =>
        first
          | (intro w hSw; (try dsimp only at hSw); go_simp; done)
          | (intro w hSw; (try dsimp only at hSw); go_simp; with_reducible rfl)
          | (intro w hSw; (try dsimp only at hSw); go_simp; simp only [hwB, if_true, hnn]; done)
          | (intro w hSw; (try dsimp only at hSw); go_simp; simp only [hwB, if_true, hnn]; with_reducible rfl)
      try simp only [Act.put, List.setIfInBounds_toArray, List.set_cons_zero, List.set_cons_succ]
      refine wpAnyH_take (i := 11) (oi := { dst := some 16, op := Op.indexAddr 28 (Operand.tmp 14) (Operand.tmp 15), type := 0, pos := "l8_program.go:249", after := #[{ on := 9, ground := Ground.data }, { on := 10, ground := Ground.data }, { on := 5, ground := Ground.guard }], guard := some (5, false) }) (v := ?vq38) rfl (by kernel_rfl) (by kernel_rfl) (by kernel_rfl) (fun _ _ _ h => h) (Or.inl ⟨by rfl, ?hy38⟩) (by assumption) ?rest38
      case hy38 =>
        first
          | (intro w hSw; (try dsimp only at hSw); go_simp; done)
          | (intro w hSw; (try dsimp only at hSw); go_simp; with_reducible rfl)
          | (intro w hSw; (try dsimp only at hSw); go_simp; simp only [hwB, if_true, hnn]; done)
          | (intro w hSw; (try dsimp only at hSw); go_simp; simp only [hwB, if_true, hnn]; with_reducible rfl)
      try simp only [Act.put, List.setIfInBounds_toArray, List.set_cons_zero, List.set_cons_succ]
      refine wpAnyH_take (i := 12) (oi := { dst := some 17, op := Op.fieldAddr 59 (Operand.tmp 16) 2, type := 0, pos := "l8_program.go:249", after := #[{ on := 11, ground := Ground.data }, { on := 5, ground := Ground.guard }], guard := some (5, false) }) (v := ?vq39) rfl (by kernel_rfl) (by kernel_rfl) (by kernel_rfl) (fun _ _ _ h => h) (Or.inl ⟨by rfl, ?hy39⟩) (by assumption) ?rest39
      case hy39 =>
        first
          | (intro w hSw; (try dsimp only at hSw); go_simp; done)
          | (intro w hSw; (try dsimp only at hSw); go_simp; with_reducible rfl)
          | (intro w hSw; (try dsimp only at hSw); go_simp; simp only [hwB, if_true, hnn]; done)
          | (intro w hSw; (try dsimp only at hSw); go_simp; simp only [hwB, if_true, hnn]; with_reducible rfl)
      try simp only [Act.put, List.setIfInBounds_toArray, List.set_cons_zero, List.set_cons_succ]
      refine wpAnyH_take (i := 13) (oi := { dst := some 18, op := Op.load 3 (Operand.tmp 17), type := 3, pos := "l8_program.go:249", after := #[{ on := 12, ground := Ground.data }, { on := 5, ground := Ground.guard }], guard := some (5, false) }) (v := ?vq40) rfl (by kernel_rfl) (by kernel_rfl) (by kernel_rfl) (fun _ _ _ h => h) (Or.inl ⟨by rfl, ?hy40⟩) (by assumption) ?rest40
      case hy40 =>
        first
          | (intro w hSw; (try dsimp only at hSw); go_simp; done)
          | (intro w hSw; (try dsimp only at hSw); go_simp; with_reducible rfl)
          | (intro w hSw; (try dsimp only at hSw); go_simp; simp only [hwB, if_true, hnn]; done)
          | (intro w hSw; (try dsimp only at hSw); go_simp; simp only [hwB, if_true, hnn]; with_reducible rfl)
      try simp only [Act.put, List.setIfInBounds_toArray, List.set_cons_zero, List.set_cons_succ]
      refine wpAnyH_take (i := 14) (oi := { dst := some 19, op := Op.move (Operand.tmp 0), type := 115, pos := "l8_program.go:249", after := #[{ on := 5, ground := Ground.guard }], guard := some (5, false) }) (v := ?vq41) rfl (by kernel_rfl) (by kernel_rfl) (by kernel_rfl) (fun _ _ _ h => h) (Or.inl ⟨by rfl, ?hy41⟩) (by assumption) ?rest41
      case hy41 =>
        first
          | (intro w hSw; (try dsimp only at hSw); go_simp; done)
          | (intro w hSw; (try dsimp only at hSw); go_simp; with_reducible rfl)
          | (intro w hSw; (try dsimp only at hSw); go_simp; simp only [hwB, if_true, hnn]; done)
          | (intro w hSw; (try dsimp only at hSw); go_simp; simp only [hwB, if_true, hnn]; with_reducible rfl)
      try simp only [Act.put, List.setIfInBounds_toArray, List.set_cons_zero, List.set_cons_succ]
      refine wpAnyH_take (i := 15) (oi := { dst := some 20, op := Op.nilCheck (Operand.tmp 19), type := 0, pos := "l8_program.go:249", after := #[{ on := 14, ground := Ground.data }, { on := 5, ground := Ground.guard }], guard := some (5, false) }) (v := ?vq42) rfl (by kernel_rfl) (by kernel_rfl) (by kernel_rfl) (fun _ _ _ h => h) (Or.inl ⟨by rfl, ?hy42⟩) (by assumption) ?rest42
      case hy42 =>
        first
          | (intro w hSw; (try dsimp only at hSw); go_simp; done)
          | (intro w hSw; (try dsimp only at hSw); go_simp; with_reducible rfl)
          | (intro w hSw; (try dsimp only at hSw); go_simp; simp only [hwB, if_true, hnn]; done)
          | (intro w hSw; (try dsimp only at hSw); go_simp; simp only [hwB, if_true, hnn]; with_reducible rfl)
      try simp only [Act.put, List.setIfInBounds_toArray, List.set_cons_zero, List.set_cons_succ]
      refine wpAnyH_take (i := 16) (oi := { dst := some 21, op := Op.fieldAddr 78 (Operand.tmp 20) 0, type := 0, pos := "l8_program.go:249", after := #[{ on := 15, ground := Ground.data }, { on := 5, ground := Ground.guard }], guard := some (5, false) }) (v := ?vq43) rfl (by kernel_rfl) (by kernel_rfl) (by kernel_rfl) (fun _ _ _ h => h) (Or.inl ⟨by rfl, ?hy43⟩) (by assumption) ?rest43
      case hy43 =>
        first
          | (intro w hSw; (try dsimp only at hSw); go_simp; done)
          | (intro w hSw; (try dsimp only at hSw); go_simp; with_reducible rfl)
          | (intro w hSw; (try dsimp only at hSw); go_simp; simp only [hwB, if_true, hnn]; done)
          | (intro w hSw; (try dsimp only at hSw); go_simp; simp only [hwB, if_true, hnn]; with_reducible rfl)
      try simp only [Act.put, List.setIfInBounds_toArray, List.set_cons_zero, List.set_cons_succ]
      refine wpAnyH_take (i := 17) (oi := { dst := some 22, op := Op.load 28 (Operand.tmp 21), type := 28, pos := "l8_program.go:249", after := #[{ on := 16, ground := Ground.data }, { on := 5, ground := Ground.guard }], guard := some (5, false) }) (v := ?vq44) rfl (by kernel_rfl) (by kernel_rfl) (by kernel_rfl) (fun _ _ _ h => h) (Or.inl ⟨by rfl, ?hy44⟩) (by assumption) ?rest44
      case hy44 =>
        first
          | (intro w hSw; (try dsimp only at hSw); go_simp; done)
          | (intro w hSw; (try dsimp only at hSw); go_simp; with_reducible rfl)
          | (intro w hSw; (try dsimp only at hSw); go_simp; simp only [hwB, if_true, hnn]; done)
          | (intro w hSw; (try dsimp only at hSw); go_simp; simp only [hwB, if_true, hnn]; with_reducible rfl)
      try simp only [Act.put, List.setIfInBounds_toArray, List.set_cons_zero, List.set_cons_succ]
      refine wpAnyH_take (i := 18) (oi := { dst := some 23, op := Op.move (Operand.tmp 1), type := 3, pos := "l8_program.go:249", after := #[{ on := 5, ground := Ground.guard }], guard := some (5, false) }) (v := ?vq45) rfl (by kernel_rfl) (by kernel_rfl) (by kernel_rfl) (fun _ _ _ h => h) (Or.inl ⟨by rfl, ?hy45⟩) (by assumption) ?rest45
      case hy45 =>
        first
          | (intro w hSw; (try dsimp only at hSw); go_simp; done)
          | (intro w hSw; (try dsimp only at hSw); go_simp; with_reducible rfl)
          | (intro w hSw; (try dsimp only at hSw); go_simp; simp only [hwB, if_true, hnn]; done)
          | (intro w hSw; (try dsimp only at hSw); go_simp; simp only [hwB, if_true, hnn]; with_reducible rfl)
      try simp only [Act.put, List.setIfInBounds_toArray, List.set_cons_zero, List.set_cons_succ]
      refine wpAnyH_take (i := 19) (oi := { dst := some 24, op := Op.binOp BinOp.add 3 (Operand.tmp 23) (Operand.const (Value.int IntKind.i64 2)) 3, type := 3, pos := "l8_program.go:249", after := #[{ on := 18, ground := Ground.data }, { on := 5, ground := Ground.guard }], guard := some (5, false) }) (v := ?vq46) rfl (by kernel_rfl) (by kernel_rfl) (by kernel_rfl) (fun _ _ _ h => h) (Or.inl ⟨by rfl, ?hy46⟩) (by assumption) ?rest46
      case hy46 =>
        first
          | (intro w hSw; (try dsimp only at hSw); go_simp; done)
          | (intro w hSw; (try dsimp only at hSw); go_simp; with_reducible rfl)
          | (intro w hSw; (try dsimp only at hSw); go_simp; simp only [hwB, if_true, hnn]; done)
          | (intro w hSw; (try dsimp only at hSw); go_simp; simp only [hwB, if_true, hnn]; with_reducible rfl)
      try simp only [Act.put, List.setIfInBounds_toArray, List.set_cons_zero, List.set_cons_succ]
      refine wpAnyH_take (i := 20) (oi := { dst := some 25, op := Op.indexAddr 28 (Operand.tmp 22) (Operand.tmp 24), type := 0, pos := "l8_program.go:249", after := #[{ on := 17, ground := Ground.data }, { on := 19, ground := Ground.data }, { on := 5, ground := Ground.guard }], guard := some (5, false) }) (v := ?vq47) rfl (by kernel_rfl) (by kernel_rfl) (by kernel_rfl) (fun _ _ _ h => h) (Or.inl ⟨by rfl, ?hy47⟩) (by assumption) ?rest47
      case hy47 =>
        first
          | (intro w hSw; (try dsimp only at hSw); go_simp; done)
          | (intro w hSw; (try dsimp only at hSw); go_simp; with_reducible rfl)
          | (intro w hSw; (try dsimp only at hSw); go_simp; simp only [hwB, if_true, hnn]; done)
          | (intro w hSw; (try dsimp only at hSw); go_simp; simp only [hwB, if_true, hnn]; with_reducible rfl)
      try simp only [Act.put, List.setIfInBounds_toArray, List.set_cons_zero, List.set_cons_succ]
      refine wpAnyH_take (i := 21) (oi := { dst := some 26, op := Op.fieldAddr 59 (Operand.tmp 25) 2, type := 0, pos := "l8_program.go:249", after := #[{ on := 20, ground := Ground.data }, { on := 5, ground := Ground.guard }], guard := some (5, false) }) (v := ?vq48) rfl (by kernel_rfl) (by kernel_rfl) (by kernel_rfl) (fun _ _ _ h => h) (Or.inl ⟨by rfl, ?hy48⟩) (by assumption) ?rest48
      case hy48 =>
        first
          | (intro w hSw; (try dsimp only at hSw); go_simp; done)
          | (intro w hSw; (try dsimp only at hSw); go_simp; with_reducible rfl)
          | (intro w hSw; (try dsimp only at hSw); go_simp; simp only [hwB, if_true, hnn]; done)
          | (intro w hSw; (try dsimp only at hSw); go_simp; simp only [hwB, if_true, hnn]; with_reducible rfl)
      try simp only [Act.put, List.setIfInBounds_toArray, List.set_cons_zero, List.set_cons_succ]
      refine wpAnyH_take (i := 22) (oi := { dst := some 27, op := Op.load 3 (Operand.tmp 26), type := 3, pos := "l8_program.go:249", after := #[{ on := 21, ground := Ground.data }, { on := 5, ground := Ground.guard }], guard := some (5, false) }) (v := ?vq49) rfl (by kernel_rfl) (by kernel_rfl) (by kernel_rfl) (fun _ _ _ h => h) (Or.inl ⟨by rfl, ?hy49⟩) (by assumption) ?rest49
      case hy49 =>
        first
          | (intro w hSw; (try dsimp only at hSw); go_simp; done)
          | (intro w hSw; (try dsimp only at hSw); go_simp; with_reducible rfl)
          | (intro w hSw; (try dsimp only at hSw); go_simp; simp only [hwB, if_true, hnn]; done)
          | (intro w hSw; (try dsimp only at hSw); go_simp; simp only [hwB, if_true, hnn]; with_reducible rfl)
      try simp only [Act.put, List.setIfInBounds_toArray, List.set_cons_zero, List.set_cons_succ]
      refine wpAnyH_take (i := 23) (oi := { dst := some 28, op := Op.binOp BinOp.neq 3 (Operand.tmp 18) (Operand.tmp 27) 3, type := 4, pos := "l8_program.go:249", after := #[{ on := 13, ground := Ground.data }, { on := 22, ground := Ground.data }, { on := 5, ground := Ground.guard }], guard := some (5, false) }) (v := ?vq50) rfl (by kernel_rfl) (by kernel_rfl) (by kernel_rfl) (fun _ _ _ h => h) (Or.inl ⟨by rfl, ?hy50⟩) (by assumption) ?rest50
      case hy50 =>
        first
          | (intro w hSw; (try dsimp only at hSw); go_simp; done)
          | (intro w hSw; (try dsimp only at hSw); go_simp; with_reducible rfl)
          | (intro w hSw; (try dsimp only at hSw); go_simp; simp only [hwB, if_true, hnn]; done)
          | (intro w hSw; (try dsimp only at hSw); go_simp; simp only [hwB, if_true, hnn]; with_reducible rfl)
      try simp only [Act.put, List.setIfInBounds_toArray, List.set_cons_zero, List.set_cons_succ]
      refine wpAnyH_take (i := 24) (oi := { dst := some 29, op := Op.pick (Operand.tmp 10) (Operand.const (Value.bool true)) (Operand.tmp 28), type := 4, pos := "l8_program.go:249", after := #[{ on := 5, ground := Ground.data }, { on := 23, ground := Ground.data }], guard := none }) (v := ?vq51) rfl (by kernel_rfl) (by kernel_rfl) (by kernel_rfl) (fun _ _ _ h => h) (Or.inl ⟨by rfl, ?hy51⟩) (by assumption) ?rest51
      case hy51 =>
        first
          | (intro w hSw; (try dsimp only at hSw); go_simp; done)
          | (intro w hSw; (try dsimp only at hSw); go_simp; with_reducible rfl)
          | (intro w hSw; (try dsimp only at hSw); go_simp; simp only [hwB, if_true, hnn]; done)
          | (intro w hSw; (try dsimp only at hSw); go_simp; simp only [hwB, if_true, hnn]; with_reducible rfl)
      try simp only [Act.put, List.setIfInBounds_toArray, List.set_cons_zero, List.set_cons_succ]
      refine wpAnyH_done (by kernel_rfl) ?_ _
      go_wp2
      go_ret
      exact .inr ⟨hF.out, rfl, hB1⟩

end Go.Proofs.YtmjpmmkjfimopaaDoor

namespace Go.Proofs.YtmjpmmkjfimopaaDoor
open Go.RowKit Plain Sch Wan Prg

theorem idxR0 (W : World) : (Instr.index 117 (.agg #[.func (.func 64) #[] #[], .func (.func 65) #[] #[], .func (.func 66) #[] #[]]) (.int .i64 0)).run Tryd.prog W = .ok (.func (.func 64) #[] #[]) W := by kernel_rfl
theorem idxR1 (W : World) : (Instr.index 117 (.agg #[.func (.func 64) #[] #[], .func (.func 65) #[] #[], .func (.func 66) #[] #[]]) (.int .i64 1)).run Tryd.prog W = .ok (.func (.func 65) #[] #[]) W := by kernel_rfl
theorem idxR2 (W : World) : (Instr.index 117 (.agg #[.func (.func 64) #[] #[], .func (.func 65) #[] #[], .func (.func 66) #[] #[]]) (.int .i64 2)).run Tryd.prog W = .ok (.func (.func 66) #[] #[]) W := by kernel_rfl
attribute [local go_sem] idxR0 idxR1 idxR2

/-- what makeBetter leaves -/
def MbOut (w : World) (hb : Nat) (v : Value) (R : Option (List Ins)) (e : Ending) (w' : World) : Prop :=
  (∃ U, R = some U ∧ e = .returned (.bool true) ∧ HOut w hb v U w') ∨ (R = none ∧ e = .returned (.bool false) ∧ Below w.heap.size w w')

theorem bet_A {L : List Ins} {i : Nat} (h : isA L i) : bet L i = some (cutP L i 2) := by unfold bet; rw [if_pos h]
theorem bet_B {L : List Ins} {i : Nat} (h1 : ¬ isA L i) (h : isB L i) : bet L i = some (ledOn L i) := by unfold bet; rw [if_neg h1, if_pos h]
theorem bet_C {L : List Ins} {i : Nat} (h1 : ¬ isA L i) (h2 : ¬ isB L i) (h : isC L i) : bet L i = some (cutP L (i + 2) 1) := by unfold bet; rw [if_neg h1, if_neg h2, if_pos h]
theorem bet_N {L : List Ins} {i : Nat} (h1 : ¬ isA L i) (h2 : ¬ isB L i) (h : ¬ isC L i) : bet L i = none := by unfold bet; rw [if_neg h1, if_neg h2, if_neg h]

set_option maxRecDepth 100000 in
set_option maxHeartbeats 8000000 in
theorem makeBetter_any (L : List Ins) (hb : Nat) (v : Value) (w : World) (hH : HSt w hb v L) (hg : gp L = true) :
    Calls Tryd.prog 36 #[.pointer (some ⟨hb, 0, none⟩)] w (MbOut w hb v (fstB L L.length 0)) := by
  obtain ⟨h0, h60⟩ := gp_len hg
  have HH : Hid (HSt w hb v L) := hH
  obtain ⟨g, cap, rfl, hhg, hgw, hlc, hcm2⟩ := hH.form (by omega)
  have hcm3 : cap ≤ 9223372036854775807 := by unfold maxLen at hcm2; omega
  have hc0 := hH.2.1
  have hb0 := hH.1
  have CA : Hid (∀ (i : Nat) (W : World), i < L.length → Below w.heap.size w W → Calls Tryd.prog 64 #[.pointer (some ⟨hb, 0, none⟩), .int .i64 i] W (RuleOut W hb (.slice (some ⟨g, 0, none⟩) L.length cap) (decide (isA L i)) (cutP L i 2))) := fun i W hi hW => dropFlips_any L i hb _ W (HH.out.below hW) hg hi
  have CB : Hid (∀ (i : Nat) (W : World), i < L.length → Below w.heap.size w W → Calls Tryd.prog 65 #[.pointer (some ⟨hb, 0, none⟩), .int .i64 i] W (RuleOut W hb (.slice (some ⟨g, 0, none⟩) L.length cap) (decide (isB L i)) (ledOn L i))) := fun i W hi hW => leadOn_any L i hb _ W (HH.out.below hW) hg hi
  have CC : Hid (∀ (i : Nat) (W : World), i < L.length → Below w.heap.size w W → Calls Tryd.prog 66 #[.pointer (some ⟨hb, 0, none⟩), .int .i64 i] W (RuleOut W hb (.slice (some ⟨g, 0, none⟩) L.length cap) (decide (isC L i)) (cutP L (i + 2) 1))) := fun i W hi hW => dropSeek_any L i hb _ W (HH.out.below hW) hg hi
  obtain ⟨R, hR⟩ : ∃ R, R = fstB L L.length 0 := ⟨_, rfl⟩
  rw [← hR]
  have HFND : Hid (∀ (i : Nat) (U : List Ins), i < L.length → (∀ j, j < i → bet L j = none) → bet L i = some U → R = some U) := fun i U hi hn hs => by
    rw [hR]
    exact fstB_found L U L.length 0 i (by omega) (fun q hq => by rw [Nat.zero_add]; exact hn q hq) (by rw [Nat.zero_add]; exact hs)
  have HNON : Hid ((∀ j, j < L.length → bet L j = none) → R = none) := fun hn => by
    rw [hR]
    exact fstB_none L L.length 0 (fun q hq => by rw [Nat.zero_add]; exact hn q hq)
  clear hR hH hg
  obtain ⟨W1, hW1⟩ : ∃ W, W = w.alloc (.cells #[.func (.func 64) #[] #[], .func (.func 65) #[] #[], .func (.func 66) #[] #[]] 117) := ⟨_, rfl⟩
  have hB1 : Below w.heap.size w W1 := by rw [hW1]; exact (Below.refl _ w).alloc (Nat.le_refl _) _
  have hl1 : w.heap.size < W1.heap.size := by rw [hW1]; simp
  have r0 : W1.cell? ⟨w.heap.size, 0, none⟩ = some (.func (.func 64) #[] #[]) := by rw [hW1]; go_simp
  have r1 : W1.cell? ⟨w.heap.size, 1, none⟩ = some (.func (.func 65) #[] #[]) := by rw [hW1]; go_simp
  have r2 : W1.cell? ⟨w.heap.size, 2, none⟩ = some (.func (.func 66) #[] #[]) := by rw [hW1]; go_simp
  have hc1 := (hB1.cell (p := ⟨hb, 0, none⟩) hb0).trans hc0
  have hb1 : hb < W1.heap.size := by omega
  go_enter Tryd.func36, Tryd.ntmps36
  go_upto_region 2 with fail
  rw [← hW1]
  clear hW1
  go_wp2
  go_loopw [13] (fun vi wr => ∃ i : Nat, i ≤ L.length ∧ vi = .int .i64 (i : Int) ∧ Hid (∀ j, j < i → bet L j = none) ∧ Hid (Below W1.heap.size W1 wr))
    (fun vi _ => L.length - (intOf vi).toNat)
  case atStart => exact ⟨0, by omega, rfl, fun j hj => by omega, Below.refl _ _⟩
  case round =>
    obtain ⟨i, hi, rfl, hall, HB⟩ := hrel
    obtain ⟨wo, rfl⟩ : ∃ W, W = wr := ⟨_, rfl⟩
    by_cases hlt : i < L.length
    · have hlt' : (i : Int) < (L.length : Int) := by omega
      have q0 := (HB.out.cell (p := ⟨w.heap.size, 0, none⟩) hl1).trans r0
      have q1 := (HB.out.cell (p := ⟨w.heap.size, 1, none⟩) hl1).trans r1
      have q2 := (HB.out.cell (p := ⟨w.heap.size, 2, none⟩) hl1).trans r2
      have hwo : w.heap.size < wo.heap.size := by have := HB.out.size; omega
      go_wp2
      go_loopw [17] (fun vj wr => ∃ j : Nat, j ≤ 3 ∧ vj = .int .i64 (j : Int) ∧ Hid ((1 ≤ j → ¬ isA L i) ∧ (2 ≤ j → ¬ isB L i) ∧ (3 ≤ j → ¬ isC L i)) ∧ Hid (Below W1.heap.size W1 wr))
        (fun vj _ => 3 - (intOf vj).toNat)
      case atStart => exact ⟨0, by omega, rfl, ⟨fun h => by omega, fun h => by omega, fun h => by omega⟩, HB⟩
      case round =>
        obtain ⟨j, hj, rfl, hno, HBr⟩ := hrel
        have hBw : Below w.heap.size w wr := hB1.trans (HBr.out.mono hB1.size)
        have hszr := HBr.out.size
        match j, hj with
        | 0, _ =>
          rw [show (((0 : Nat)) : Int) = 0 from rfl]
          go_wp2_with fail
          refine (CA.out i _ hlt hBw).mono ?_
          rintro e w4 (⟨hd, rfl, ho⟩ | ⟨hd, rfl, hb4⟩)
          · have hA : isA L i := by simpa using hd
            have HE : Hid (MbOut w hb (.slice (some ⟨g, 0, none⟩) L.length cap) R (.returned (.bool true)) w4) := .inl ⟨_, HFND.out i _ hlt hall.out (bet_A hA), rfl, ho.from hBw⟩
            clear hd ho hA
            go_wp2
            go_ret
            exact HE.out
          · have hA : ¬ isA L i := by simpa using hd
            have HN : Hid ((1 ≤ 1 → ¬ isA L i) ∧ (2 ≤ 1 → ¬ isB L i) ∧ (3 ≤ 1 → ¬ isC L i)) := ⟨fun _ => hA, fun h => by omega, fun h => by omega⟩
            have HB4 : Hid (Below W1.heap.size W1 w4) := HBr.out.trans (hb4.mono hszr)
            clear hd hb4 hA
            go_wp2
            go_roundw
            case rel => exact ⟨1, by omega, by go_num, HN, HB4⟩
            case measure => simp [intOf]
        | 1, _ =>
          rw [show (((1 : Nat)) : Int) = 1 from rfl]
          go_wp2_with fail
          refine (CB.out i _ hlt hBw).mono ?_
          rintro e w4 (⟨hd, rfl, ho⟩ | ⟨hd, rfl, hb4⟩)
          · have hA : isB L i := by simpa using hd
            have HE : Hid (MbOut w hb (.slice (some ⟨g, 0, none⟩) L.length cap) R (.returned (.bool true)) w4) := .inl ⟨_, HFND.out i _ hlt hall.out (bet_B (hno.out.1 (by omega)) hA), rfl, ho.from hBw⟩
            clear hd ho hA
            go_wp2
            go_ret
            exact HE.out
          · have hA : ¬ isB L i := by simpa using hd
            have HN : Hid ((1 ≤ 2 → ¬ isA L i) ∧ (2 ≤ 2 → ¬ isB L i) ∧ (3 ≤ 2 → ¬ isC L i)) := ⟨fun _ => hno.out.1 (by omega), fun _ => hA, fun h => by omega⟩
            have HB4 : Hid (Below W1.heap.size W1 w4) := HBr.out.trans (hb4.mono hszr)
            clear hd hb4 hA
            go_wp2
            go_roundw
            case rel => exact ⟨2, by omega, by go_num, HN, HB4⟩
            case measure => simp [intOf]
        | 2, _ =>
          rw [show (((2 : Nat)) : Int) = 2 from rfl]
          go_wp2_with fail
          refine (CC.out i _ hlt hBw).mono ?_
          rintro e w4 (⟨hd, rfl, ho⟩ | ⟨hd, rfl, hb4⟩)
          · have hA : isC L i := by simpa using hd
            have HE : Hid (MbOut w hb (.slice (some ⟨g, 0, none⟩) L.length cap) R (.returned (.bool true)) w4) := .inl ⟨_, HFND.out i _ hlt hall.out (bet_C (hno.out.1 (by omega)) (hno.out.2.1 (by omega)) hA), rfl, ho.from hBw⟩
            clear hd ho hA
            go_wp2
            go_ret
            exact HE.out
          · have hA : ¬ isC L i := by simpa using hd
            have HN : Hid ((1 ≤ 3 → ¬ isA L i) ∧ (2 ≤ 3 → ¬ isB L i) ∧ (3 ≤ 3 → ¬ isC L i)) := ⟨fun _ => hno.out.1 (by omega), fun _ => hno.out.2.1 (by omega), fun _ => hA⟩
            have HB4 : Hid (Below W1.heap.size W1 w4) := HBr.out.trans (hb4.mono hszr)
            clear hd hb4 hA
            go_wp2
            go_roundw
            case rel => exact ⟨3, by omega, by go_num, HN, HB4⟩
            case measure => simp [intOf]
        | 3, _ =>
          rw [show (((3 : Nat)) : Int) = 3 from rfl]
          have HALL : Hid (∀ j, j < i + 1 → bet L j = none) := fun j hj => by
            by_cases e : j = i
            · rw [e]; exact bet_N (hno.out.1 (by omega)) (hno.out.2.1 (by omega)) (hno.out.2.2 (by omega))
            · exact hall.out j (by omega)
          clear hno
          go_wp2
          go_roundw
          case rel => exact ⟨i + 1, by omega, by go_num, HALL, HBr⟩
          case measure => simp [intOf]; omega
        | n + 4, h => exact absurd h (by omega)
    · have hlt' : ¬ (i : Int) < (L.length : Int) := by omega
      have HE : Hid (MbOut w hb (.slice (some ⟨g, 0, none⟩) L.length cap) R (.returned (.bool false)) wo) := .inr ⟨HNON.out (fun j hj => hall.out j (by omega)), rfl, hB1.trans (HB.out.mono hB1.size)⟩
      clear hall
      go_wp2
      go_ret
      exact HE.out

end Go.Proofs.YtmjpmmkjfimopaaDoor
