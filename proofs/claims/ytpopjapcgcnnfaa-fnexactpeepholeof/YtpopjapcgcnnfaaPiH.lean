/- The program's drop. -/
import Derived.Test.YtpopjapcgcnnfaaPiG
namespace Go.Proofs.Ytpopjapcgcnnfaa
open Go.RowKit Plain Sch Wan Prg

/-- the first so many of a list told anew -/
def dwnTo (f m : Nat) (L : List Ins) (i : Nat) : List Ins := (L.take i).map (dwn f m) ++ L.drop i

theorem dwnTo_zero (f m : Nat) (L : List Ins) : dwnTo f m L 0 = L := by simp [dwnTo]
theorem dwnTo_len (f m : Nat) (L : List Ins) (i : Nat) (h : i ≤ L.length) : (dwnTo f m L i).length = L.length := by simp [dwnTo]; omega
theorem dwnTo_at (f m : Nat) (L : List Ins) (i : Nat) (h : i < L.length) : ins (dwnTo f m L i) i = ins L i := by
  refine ins_of ?_
  unfold dwnTo
  rw [List.getElem?_append_right (by simp; omega)]
  simp only [List.length_map, List.length_take, Nat.min_eq_left (Nat.le_of_lt h), Nat.sub_self, List.getElem?_drop, Nat.add_zero]
  exact ins_get h
theorem dwnTo_step (f m : Nat) (L : List Ins) (i : Nat) (h : i < L.length) : dwnTo f m L (i + 1) = (dwnTo f m L i).set i (dwn f m (ins L i)) := by
  unfold dwnTo
  have hl : ((L.take i).map (dwn f m)).length = i := by simp; omega
  have hd : L.drop i = ins L i :: L.drop (i + 1) := by
    have := List.getElem?_eq_getElem h
    rw [ins_get h] at this
    simp only [Option.some.injEq] at this
    rw [this, List.getElem_cons_drop]
  rw [take_snocI L i h, List.map_append, hd, List.set_append_right _ _ (by omega), hl]
  simp
theorem set_self_ins (L : List Ins) (i : Nat) (h : i < L.length) : L.set i (ins L i) = L := by
  have := List.getElem?_eq_getElem h
  rw [ins_get h] at this
  simp only [Option.some.injEq] at this
  rw [this, List.set_getElem_self]

/-- what a call may leave of a peephole -/
def HOut (w : World) (hb : Nat) (v : Value) (L : List Ins) (w' : World) : Prop := ∃ v', HSt w' hb v' L ∧ Pu w w' (some hb) v v'

set_option maxRecDepth 100000 in
set_option maxHeartbeats 8000000 in
theorem drop_any (L : List Ins) (f m hb : Nat) (v : Value) (w : World) (hH : HSt w hb v L) (hfm : f + m < L.length) (hm : 1 ≤ m) (h60 : L.length ≤ 60) (hdst : ∀ i, i < L.length → (ins L i).code = 3 → 0 ≤ (ins L i).dst ∧ (ins L i).dst ≤ 60) :
    Calls Try.prog 129 #[.pointer (some ⟨hb, 0, none⟩), .int .i64 f, .int .i64 m] w fun e w' => e = .returned (.tuple #[]) ∧ HOut w hb v (cutP L f m) w' := by
  obtain ⟨g, cap, rfl, hhg, hgw, hlc, hcm2⟩ := hH.form (by omega)
  obtain ⟨h1, h2, h3, hR⟩ := hH
  have hcm3 : cap ≤ 9223372036854775807 := by unfold maxLen at hcm2; omega
  obtain ⟨D, hD⟩ : ∃ D, D = L.take f ++ L.drop (f + m) := ⟨_, rfl⟩
  have hDl : D.length = L.length - m := by rw [hD]; simp; omega
  have HCUT : Hid (cutP L f m = D.map (dwn f m)) := by show _ = _; rw [hD]; rfl
  have HDD : Hid (∀ i, i < D.length → (ins D i).code = 3 → 0 ≤ (ins D i).dst ∧ (ins D i).dst ≤ 60) := fun i hi hc => by
    have hm : ins D i ∈ L := by
      have h0 : ins D i ∈ D := List.mem_of_getElem? (ins_get hi)
      have h1 : ins D i ∈ L.take f ++ L.drop (f + m) := by rw [← hD]; exact h0
      rcases List.mem_append.1 h1 with h0 | h0
      · exact List.mem_of_mem_take h0
      · exact List.mem_of_mem_drop h0
    obtain ⟨j, hj, hje⟩ := List.getElem_of_mem hm
    have e : ins L j = L[j] := by unfold ins; rw [List.getD, List.getElem?_eq_getElem hj]; rfl
    have := hdst j hj
    rw [e, hje] at this
    exact this hc
  have CD : Hid (∀ W : World, IRow W (hb + 1) (.slice (some ⟨g, 0, none⟩) L.length cap) L → Calls Try.prog 157 #[.slice (some ⟨g, 0, none⟩) L.length cap, .int .i64 f, .int .i64 ((f : Int) + (m : Int))] W fun e w' => e = .returned (.slice (some ⟨g, 0, none⟩) D.length cap) ∧ IRow w' (hb + 1) (.slice (some ⟨g, 0, none⟩) D.length cap) D ∧ W.grownBy w' (some g)) := fun W h => by
    have := delete_any L (hb + 1) g cap f m (f + m) W rfl h hfm hm h60
    rw [hDl, hD]
    simpa using this
  have hD60 : D.length ≤ 60 := by omega
  have hD0 : 0 < D.length := by omega
  have hDc : D.length ≤ cap := by omega
  have hfI : (f : Int) + (m : Int) < (L.length : Int) := by omega
  have HR0 : Hid (IRow w (hb + 1) (.slice (some ⟨g, 0, none⟩) L.length cap) L) := hR
  clear hR hD hDl hdst
  go_enter Try.func129, Try.ntmps129
  go_wp2_with fail
  refine (CD.out _ HR0.out).mono ?_
  rintro e w2 ⟨rfl, hr2, hg2⟩
  have hs2 := hg2.size
  have hne : some hb ≠ some g := fun e => by simp at e; omega
  have hblk : w2.heap[hb]? = w.heap[hb]? := hg2.block hb h1 hne
  have c2 : w2.cell? ⟨hb, 0, none⟩ = some (.slice (some ⟨g, 0, none⟩) L.length cap) := (World.cell?_of_block (w := w) hblk).trans h2
  have f2 : w2.frozen? ⟨hb, 0, none⟩ = false := (World.frozen?_of_block (w := w) hblk).trans h3
  have hl2 : hb < w2.heap.size := by omega
  obtain ⟨W3, hW3⟩ : ∃ W, W = w2.setCell ⟨hb, 0, none⟩ (.slice (some ⟨g, 0, none⟩) D.length cap) := ⟨_, rfl⟩
  have HH3 : Hid (HSt W3 hb (.slice (some ⟨g, 0, none⟩) D.length cap) D) := by
    show HSt _ _ _ _
    rw [hW3]
    exact ⟨by simp; omega, World.cell?_setCell_same _ _ _ c2, by rw [World.frozen?_setCell]; exact f2, IRow.setCell hr2 (by show hb < hb + 1; omega) _⟩
  have HP3 : Hid (Pu w W3 (some hb) (.slice (some ⟨g, 0, none⟩) L.length cap) (.slice (some ⟨g, 0, none⟩) D.length cap)) := by
    show Pu _ _ _ _ _
    rw [hW3]
    refine ⟨hg2.os, hg2.tape, hg2.output, by simp; omega, fun j hj hc hv => ?_, fun g' hg' => .inl hg'⟩
    rw [Below.heap_setCell _ _ _ _ (fun e => hc (by rw [e]))]
    exact hg2.block j hj hv
  go_upto_region 1 with fail
  rw [← hW3]
  clear hW3 hr2 hg2 hblk c2 f2 CD HR0 h2 h3
  have HI0 : Hid (HSt W3 hb (.slice (some ⟨g, 0, none⟩) D.length cap) (dwnTo f m D 0)) := by rw [dwnTo_zero]; exact HH3
  have c3 := HH3.out.2.1
  have hb3 := HH3.out.1
  go_wp2
  go_loopw [25] (fun vi wr => ∃ i : Nat, i ≤ D.length ∧ vi = .int .i64 (i : Int) ∧ Hid (HSt wr hb (.slice (some ⟨g, 0, none⟩) D.length cap) (dwnTo f m D i)) ∧ Hid (Pu w wr (some hb) (.slice (some ⟨g, 0, none⟩) L.length cap) (.slice (some ⟨g, 0, none⟩) D.length cap)))
    (fun vi _ => D.length - (intOf vi).toNat)
  case atStart => exact ⟨0, by omega, rfl, HI0, HP3⟩
  case round =>
    clear HI0 HP3 HH3 c3 hb3
    obtain ⟨i, hi, rfl, HH, HP⟩ := hrel
    have hlI := dwnTo_len f m D i hi
    have hcr := HH.out.2.1
    have hbr := HH.out.1
    have hgr : g < wr.heap.size := (World.ownsRow.lt HH.out.2.2.2 g rfl).2
    by_cases hlt : i < D.length
    · have hlt' : (i : Int) < (D.length : Int) := by omega
      have hH2 : HSt wr hb (.slice (some ⟨g, 0, none⟩) (dwnTo f m D i).length cap) (dwnTo f m D i) := by rw [hlI]; exact HH.out
      have hci := hH2.ins (k := i) (by omega)
      rw [dwnTo_at f m D i hlt] at hci
      have hDD := HDD.out i hlt
      have hSTEP := dwnTo_step f m D i hlt
      have hSET : Hid (∀ W : World, IRow W (hb + 1) (.slice (some ⟨g, 0, none⟩) D.length cap) (dwnTo f m D i) → ∀ d : Int, IRow (W.setCell ⟨g, i * 6 + 5, none⟩ (.int .i64 d)) (hb + 1) (.slice (some ⟨g, 0, none⟩) D.length cap) ((dwnTo f m D i).set i ⟨(ins D i).code, (ins D i).kind, (ins D i).no, (ins D i).num, (ins D i).text, d⟩)) := fun W h d => by
        have h' : IRow W (hb + 1) (.slice (some ⟨g, 0, none⟩) (dwnTo f m D i).length cap) (dwnTo f m D i) := by rw [hlI]; exact h
        have := h'.dst (k := i) (by omega) d
        rw [dwnTo_at f m D i hlt, hlI] at this
        exact this
      have hKeep : Hid (dwn f m (ins D i) = ins D i → dwnTo f m D (i + 1) = dwnTo f m D i) := fun h => by
        rw [hSTEP, h]
        have := set_self_ins (dwnTo f m D i) i (by omega)
        rw [dwnTo_at f m D i hlt] at this
        exact this
      have HSTEP : Hid (dwnTo f m D (i + 1) = (dwnTo f m D i).set i (dwn f m (ins D i))) := hSTEP
      have hfr : wr.frozen? ⟨g, i * 6 + 5, none⟩ = false := World.ownsRow.frozenAt (n := D.length) (by have := HH.out.2.2.2; unfold IRow at this; rw [hlI] at this; exact this) (i * 6 + 5)
      clear hSTEP hH2
      generalize ins D i = x at hci hDD hSET hKeep HSTEP
      obtain ⟨c, k, n, mm, t, jt⟩ := x
      obtain ⟨c0, c1, c2, c3, c4, c5⟩ := hci
      dsimp only at c0 c1 c2 c3 c4 c5 hDD hSET hKeep HSTEP
      obtain ⟨W4, hW4⟩ : ∃ W, W = wr.alloc (.cells #[.int .i64 c, .int .i64 k, .int .i64 n, .int .i64 mm, .string t, .int .i64 jt] 76) := ⟨_, rfl⟩
      have hA4 : Below wr.heap.size wr W4 := by rw [hW4]; exact (Below.refl _ wr).alloc (Nat.le_refl _) _
      have hl4 : wr.heap.size < W4.heap.size := by rw [hW4]; simp
      have x0 : W4.cell? ⟨wr.heap.size, 0, none⟩ = some (.int .i64 c) := by rw [hW4]; go_simp
      have x5 : W4.cell? ⟨wr.heap.size, 5, none⟩ = some (.int .i64 jt) := by rw [hW4]; go_simp
      have HH4 : Hid (HSt W4 hb (.slice (some ⟨g, 0, none⟩) D.length cap) (dwnTo f m D i)) := HH.out.below hA4
      have HP4 : Hid (Pu w W4 (some hb) (.slice (some ⟨g, 0, none⟩) L.length cap) (.slice (some ⟨g, 0, none⟩) D.length cap)) := HP.out.trans (Pu.of_below hA4)
      have d5 := (hA4.cell (p := ⟨g, i * 6 + 5, none⟩) hgr).trans c5
      have e5 := (hA4.frozen (p := ⟨g, i * 6 + 5, none⟩) hgr).trans hfr
      have hc4 := HH4.out.2.1
      have hb4 := HH4.out.1
      have hg4 : g < W4.heap.size := by omega
      go_upto_region 4 with fail
      rw [← hW4]
      clear hW4 c0 c1 c2 c3 c4 c5 HH HP hcr hfr
      by_cases h3 : c = 3
      · subst h3
        by_cases hfj : (f : Int) < jt
        · obtain ⟨j0, j60⟩ := hDD rfl
          have HN : Hid (HSt (W4.setCell ⟨g, i * 6 + 5, none⟩ (.int .i64 (jt - (m : Int)))) hb (.slice (some ⟨g, 0, none⟩) D.length cap) (dwnTo f m D (i + 1))) := by
            show HSt _ _ _ _
            rw [HSTEP.out]
            have hd : dwn f m ⟨3, k, n, mm, t, jt⟩ = ⟨3, k, n, mm, t, jt - (m : Int)⟩ := by simp [dwn, hfj]
            rw [hd]
            obtain ⟨a1, a2, a3, a4⟩ := HH4.out
            exact ⟨by simp; omega, by rw [World.cell?_setCell_other _ _ _ _ (by simp <;> omega)]; exact a2, by rw [World.frozen?_setCell]; exact a3, hSET.out W4 a4 _⟩
          have HPN : Hid (Pu w (W4.setCell ⟨g, i * 6 + 5, none⟩ (.int .i64 (jt - (m : Int)))) (some hb) (.slice (some ⟨g, 0, none⟩) L.length cap) (.slice (some ⟨g, 0, none⟩) D.length cap)) := by
            obtain ⟨a1, a2, a3, a4, a5, a6⟩ := HP4.out
            refine ⟨a1, a2, a3, by simp; omega, fun j hj hc hv => ?_, a6⟩
            rw [Below.heap_setCell _ _ _ _ (fun e => hv (by rw [e]; rfl))]
            exact a5 j hj hc hv
          clear HH4 HP4 HSTEP hKeep hSET
          go_wp2
          go_roundw
          case rel => exact ⟨i + 1, by omega, by go_num, HN, HPN⟩
          case measure => simp [intOf]; omega
        · have hfj' : decide ((f : Int) < jt) = false := by simpa using hfj
          have HN : Hid (HSt W4 hb (.slice (some ⟨g, 0, none⟩) D.length cap) (dwnTo f m D (i + 1))) := by show HSt _ _ _ _; rw [hKeep.out (by simp [dwn, hfj])]; exact HH4.out
          clear HH4 HSTEP hKeep hSET hfj
          go_wp2
          go_roundw
          case rel => exact ⟨i + 1, by omega, by go_num, HN, HP4⟩
          case measure => simp [intOf]; omega
      · have h3' : (c == 3) = false := by simp [h3]
        have HN : Hid (HSt W4 hb (.slice (some ⟨g, 0, none⟩) D.length cap) (dwnTo f m D (i + 1))) := by show HSt _ _ _ _; rw [hKeep.out (by simp [dwn, h3])]; exact HH4.out
        clear HH4 HSTEP hKeep hSET h3
        go_wp2
        go_roundw
        case rel => exact ⟨i + 1, by omega, by go_num, HN, HP4⟩
        case measure => simp [intOf]; omega
    · have hlt' : ¬ (i : Int) < (D.length : Int) := by omega
      have hie : i = D.length := by omega
      have HE : Hid (HOut w hb (.slice (some ⟨g, 0, none⟩) L.length cap) (cutP L f m) wr) := by
        refine ⟨_, ?_, HP.out⟩
        rw [HCUT.out]
        have := HH.out
        rw [hie] at this
        simpa [dwnTo] using this
      clear HH HP
      go_wp2
      go_end0
      exact ⟨rfl, HE.out⟩

end Go.Proofs.Ytpopjapcgcnnfaa
