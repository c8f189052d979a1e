/- The model's PeepholeOf. The program's PeepholeOf. -/
import Derived.Test.YtmjpmmkjfimopaaDoorHm
import Derived.Test.YtmjpmmkjfimopaaDoorHh
import Derived.Test.YtmjpmmkjfimopaaDoorHi
import Derived.Test.YtmjpmmkjfimopaaDoorHo
import Derived.Test.YtmjpmmkjfimopaaDoorPiD
import Derived.Test.YtmjpmmkjfimopaaDoorClnA
namespace Go.Proofs.YtmjpmmkjfimopaaDoor
open Go.RowKit Plain Sch Wan Prg

theorem gp_texts {T : List Ins} (hg : gp T = true) : ∀ x ∈ T, x.text.size ≤ 30 := by
  intro x hx
  obtain ⟨j, hj, rfl⟩ := List.getElem_of_mem hx
  have e : ins T j = T[j] := by unfold ins; rw [List.getD, List.getElem?_eq_getElem hj]; rfl
  have := gp_text hg hj
  rw [e] at this
  exact this

theorem news_at {T : List Ins} {w : World} {ao : Option Addr} {cap : Nat} (hT : InsAt w w.heap.size (.slice ao T.length cap) T) (h0 : 0 < T.length) {W : World} (hW : Below w.heap.size w W) : ∃ g o, ao = some ⟨g, o, none⟩ ∧ g < w.heap.size ∧ ∀ j u, (T.flatMap Ins.cells)[j]? = some u → W.cell? ((⟨g, o, none⟩ : Addr).add j) = some u := by
  obtain ⟨ao', cap', hv, _, _, hrow, _⟩ := hT
  simp only [Value.slice.injEq, true_and] at hv
  obtain ⟨rfl, rfl⟩ := hv
  obtain ⟨g, o, ha, hgw, _⟩ := hrow 0 h0
  refine ⟨g, o, ha, hgw, fun j u hju => ?_⟩
  have hjl : j < T.length * 6 := by have := (List.getElem?_eq_some_iff.1 hju).1; rw [flat6Ins_len] at this; exact this
  obtain ⟨g', o', ha', hg', hc'⟩ := hrow (j / 6) (by omega)
  rw [ha] at ha'
  simp only [Option.some.injEq, Addr.mk.injEq, and_true] at ha'
  obtain ⟨rfl, rfl⟩ := ha'
  have hcc := hc'.below hW hg'
  have e : j = j / 6 * 6 + j % 6 := by omega
  have hf := flat6Ins T (j / 6) (j % 6) (by omega) (by omega)
  rw [← e] at hf
  rw [hf] at hju
  have ha2 : ((⟨g, o, none⟩ : Addr).add j) = ⟨g, o + (j / 6) * 6 + j % 6, none⟩ := by
    unfold Addr.add
    by_cases hj0 : j = 0
    · rw [if_pos hj0, hj0]
      rfl
    · rw [if_neg hj0]
      show (⟨g, o + j, none⟩ : Addr) = _
      congr 1
      omega
  rw [ha2]
  obtain ⟨k0, k1, k2, k3, k4, k5⟩ := hcc
  have hm : j % 6 < 6 := Nat.mod_lt _ (by omega)
  generalize j % 6 = r at hju hm ⊢
  match r, hm with
  | 0, _ => rw [← hju]; exact k0
  | 1, _ => rw [← hju]; exact k1
  | 2, _ => rw [← hju]; exact k2
  | 3, _ => rw [← hju]; exact k3
  | 4, _ => rw [← hju]; exact k4
  | 5, _ => rw [← hju]; exact k5
  | n + 6, h => exact absurd h (by omega)

/-- where the making better stands: this list is good, it comes to R, and none ahead of i makes it better -/
def PhI0 (R : List Ins) (L : List Ins) (i : Nat) : Prop := gp L = true ∧ i ≤ L.length ∧ (∀ j, j < i → bet L j = none) ∧ ∃ f, mea L ≤ f ∧ peep f L = R

theorem PhI0.next {R L : List Ins} {i : Nat} (h : PhI0 R L i) (hi : i < L.length) (hn : bet L i = none) : PhI0 R L (i + 1) := by
  obtain ⟨h1, h2, h3, h4⟩ := h
  exact ⟨h1, by omega, fun j hj => by
    by_cases e : j = i
    · rw [e]; exact hn
    · exact h3 j (by omega), h4⟩

theorem PhI0.better {R L U : List Ins} {i : Nat} (h : PhI0 R L i) (hi : i < L.length) (hs : bet L i = some U) : PhI0 R U 0 ∧ mea U < mea L := by
  obtain ⟨h1, h2, h3, f, h4, h5⟩ := h
  obtain ⟨g1, g2⟩ := bet_good h1 hi hs
  have hf := fstB_found L U L.length 0 i (by omega) (fun q hq => by rw [Nat.zero_add]; exact h3 q hq) (by rw [Nat.zero_add]; exact hs)
  obtain ⟨f', rfl⟩ : ∃ f', f = f' + 1 := ⟨f - 1, by omega⟩
  rw [peep_some hf] at h5
  exact ⟨⟨g1, by omega, fun j hj => by omega, f', by omega, h5⟩, g2⟩

theorem PhI0.done {R L : List Ins} {i : Nat} (h : PhI0 R L i) (hi : i = L.length) : R = L := by
  obtain ⟨h1, h2, h3, f, h4, h5⟩ := h
  have hf := fstB_none L L.length 0 (fun q hq => by rw [Nat.zero_add]; exact h3 q (by omega))
  rw [peep_none hf] at h5
  exact h5.symm

def ivC (o : Option Value) : Int := match o with | some (.int _ n) => n | _ => 0
def svC (o : Option Value) : ByteArray := match o with | some (.string s) => s | _ => ⟨#[]⟩
def rdI (w : World) (g k : Nat) : Ins := ⟨ivC (w.cell? ⟨g, k * 6, none⟩), ivC (w.cell? ⟨g, k * 6 + 1, none⟩), ivC (w.cell? ⟨g, k * 6 + 2, none⟩), ivC (w.cell? ⟨g, k * 6 + 3, none⟩), svC (w.cell? ⟨g, k * 6 + 4, none⟩), ivC (w.cell? ⟨g, k * 6 + 5, none⟩)⟩
/-- the row that lies there, read off -/
def rdL (w : World) : Value → List Ins
  | .slice (some a) n _ => (List.range n).map (rdI w a.block)
  | _ => []

theorem rdL_row {w : World} {B : Nat} {v : Value} {L : List Ins} (h : IRow w B v L) : rdL w v = L := by
  have h0 := h
  unfold IRow at h0
  obtain ⟨_, ⟨rfl, hn0⟩ | ⟨g, cap, cur, rfl, hB, hb, hnc, hcm, _⟩⟩ := h
  · rw [List.length_eq_zero_iff.1 hn0]; rfl
  · unfold rdL
    apply List.ext_getElem?
    intro k
    by_cases hk : k < L.length
    · rw [List.getElem?_map, List.getElem?_range hk]
      have c : ∀ j, j < 6 → w.cell? ⟨g, k * 6 + j, none⟩ = (ins L k).cells[j]? := fun j hj => by
        rw [h0.cellAt (k * 6 + j) (by omega)]
        exact flat6Ins L k j hk hj
      have c0 := c 0 (by omega)
      rw [Nat.add_zero] at c0
      rw [ins_get hk]
      simp only [Option.map_some, Option.some.injEq]
      unfold rdI
      rw [c0, c 1 (by omega), c 2 (by omega), c 3 (by omega), c 4 (by omega), c 5 (by omega)]
      rfl
    · rw [List.getElem?_eq_none (by simp; omega), List.getElem?_eq_none (by omega)]

def meaV (w : World) (v : Value) (i : Nat) : Nat := mea (rdL w v) * 100 + ((rdL w v).length - i)

theorem meaV_row {w : World} {B : Nat} {v : Value} {L : List Ins} (h : IRow w B v L) (i : Nat) : meaV w v i = mea L * 100 + (L.length - i) := by
  unfold meaV; rw [rdL_row h]

theorem peo_good {T : List Ins} (hg : gp T = true) : peo T = (peep (mea T) T, true) := by unfold peo; rw [hg]; rfl

set_option maxRecDepth 100000 in
set_option maxHeartbeats 8000000 in
theorem specPeep (T : List Ins) (v : Value) (w : World) (hT : InsAt w w.heap.size v T) :
    Calls Tryd.prog 17 #[.agg #[v]] w fun e w' => OPro w w' e (peo T) := by
  obtain ⟨i0, hi, hz0, hz1, hz2⟩ := info_parts Tryd.infoIns
  have HT : Hid (InsAt w w.heap.size v T) := hT
  obtain ⟨ao, cap, rfl, hlc, hcm, _⟩ := hT
  unfold maxLen at hcm
  obtain ⟨Q, hQ⟩ : ∃ Q, Q = peo T := ⟨_, rfl⟩
  rw [← hQ]
  have HQ : Hid (Q = peo T) := hQ
  clear hQ
  unfold OPro
  obtain ⟨W1, hW1⟩ : ∃ W, W = (w.alloc (.cells #[.slice ao T.length cap] 30)).alloc (.cells #[.slice none 0 0] 30) := ⟨_, rfl⟩
  have hB1 : Below w.heap.size w W1 := by rw [hW1]; exact ((Below.refl _ w).alloc (Nat.le_refl _) _).alloc (by simp) _
  have hs1 : Hid (W1.heap.size = w.heap.size + 2) := by show _ = _; rw [hW1]; simp
  have hl1 : w.heap.size + 1 < W1.heap.size := by rw [hs1.out]; omega
  have q1 : W1.cell? ⟨w.heap.size, 0, none⟩ = some (.slice ao T.length cap) := by rw [hW1]; go_simp
  have r1 : W1.cell? ⟨w.heap.size + 1, 0, none⟩ = some (.slice none 0 0) := by rw [hW1]; go_simp
  have f1 : W1.frozen? ⟨w.heap.size + 1, 0, none⟩ = false := by rw [hW1]; go_simp
  go_enter Tryd.func17, Tryd.ntmps17
  go_wp2_with fail
  rw [← hW1]
  clear hW1
  refine (specGoodP T _ _ (HT.out.below hB1)).mono ?_
  rintro e w2 ⟨rfl, hb2⟩
  have hB2 : Below w.heap.size w w2 := hB1.trans (hb2.mono (by omega))
  have hl2 : w.heap.size + 1 < w2.heap.size := by have := hb2.size; omega
  have hl2' : w.heap.size < w2.heap.size := by omega
  have q2 := (hb2.cell (p := ⟨w.heap.size, 0, none⟩) (by show w.heap.size < _; omega)).trans q1
  have r2 := (hb2.cell (p := ⟨w.heap.size + 1, 0, none⟩) hl1).trans r1
  have f2 := (hb2.frozen (p := ⟨w.heap.size + 1, 0, none⟩) hl1).trans f1
  clear hb2 q1 r1 f1 hs1 hl1
  cases hg : gp T with
  | false =>
    have hn : Hid (Q = ([], false)) := HQ.out.trans (by unfold peo; rw [hg]; rfl)
    clear HQ hg
    go_wp2
    (try simp only [Exit.inBlock, Exit.then])
    refine bodyPost_ret (v := .tuple #[.agg #[.slice none 0 0], .bool false]) ?_ rfl ⟨.slice none 0 0, by rw [hn.out], by rw [hn.out]; exact World.ownsRow_nil _ _ _ _, ?_⟩
    · rw [results_cell_tmp rfl]
      go_simp
    · exact hB2.setCell (by simp) _
  | true =>
    obtain ⟨h0, h60⟩ := gp_len hg
    obtain ⟨R, hRR⟩ : ∃ R, R = peep (mea T) T := ⟨_, rfl⟩
    have hn : Hid (Q = (R, true)) := HQ.out.trans (by rw [peo_good hg, hRR])
    have HI0 : Hid (PhI0 R T 0) := ⟨hg, by omega, fun j hj => by omega, mea T, Nat.le_refl _, hRR.symm⟩
    clear HQ hg hRR
    have HT2 : Hid (InsAt w2 w2.heap.size (.slice ao T.length cap) T) := HT.out.below hB2
    obtain ⟨g, o, rfl, hgw, hnw⟩ := news_at HT2.out (by omega) (W := w2.alloc (.cells #[] 59)) ((Below.refl _ w2).alloc (Nat.le_refl _) _)
    have HNW : Hid (∀ j u, (T.flatMap Ins.cells)[j]? = some u → (w2.alloc (.cells #[] 59)).cell? ((⟨g, o, none⟩ : Addr).add j) = some u) := hnw
    clear hnw
    go_wp2_with (at_builtin; refine wpList_append_lies _ rfl _ _ 28 rfl w2.heap.size 59 i0 (.agg #[.int .i64 0, .int .i64 0, .int .i64 0, .int .i64 0, .string ⟨#[]⟩, .int .i64 0]) 6 56 Tryd.underlying28 hi hz0 hz1 hz2 rfl (by decide) _ 0 [] rfl (World.ownsRow_made w2 #[] 0 (by omega) (by unfold maxLen; omega) rfl) ⟨g, o, none⟩ T.length cap (T.flatMap Ins.cells) rfl (flat6Ins_len T) HNW.out (onesI T) (by omega) (by unfold maxLen; omega) (by omega) (by simp) (w2.heap.size + 1) (by simp) ?_)
    intro g9 cap9 w9 hown9 hgrow9 hat9 hlt9
    (try simp only [Nat.zero_add, List.nil_append] at hown9)
    (try simp only [Nat.zero_add])
    have hs9 : w2.heap.size + 1 ≤ w9.heap.size := by have := hgrow9.size; simpa using this
    have HB9 : Hid (Below w2.heap.size w2 w9) := ⟨hgrow9.os, hgrow9.tape, hgrow9.output, by omega, fun j hj => (hgrow9.block j (by simp; omega) (by simp [Value.ownBlock]; omega)).trans (Below.heap_alloc _ _ _ hj)⟩
    have HR9 : Hid (IRow w9 w2.heap.size (.slice (some ⟨g9, 0, none⟩) T.length cap9) T) := hown9
    clear hown9 hgrow9 hat9 q2
    go_wp2
    go_loopw [4, 5] (fun vl vi wr => ∃ (L : List Ins) (i : Nat), vi = .int .i64 (i : Int) ∧ Hid (IRow wr w2.heap.size vl L) ∧ Hid (PhI0 R L i) ∧ Hid (Below w2.heap.size w2 wr))
      (fun vl vi wr => meaV wr vl (intOf vi).toNat)
    case atStart => exact ⟨T, 0, rfl, HR9, HI0, HB9⟩
    case round =>
      clear HR9 HI0 HB9
      obtain ⟨L, i, rfl, HRL, HIL, HBL⟩ := hrel
      have hm0 := meaV_row HRL.out i
      have hsz := HBL.out.size
      obtain ⟨hgL, hiL, _⟩ := HIL.out
      have hL60 := (gp_len hgL).2
      obtain ⟨ar, capr, rfl, hnr, hcmr⟩ := HRL.out.slice
      have hcmr' : capr ≤ 9223372036854775807 := by unfold maxLen at hcmr; omega
      by_cases hlt : i < L.length
      · have hlt' : (i : Int) < (L.length : Int) := by omega
        have HBE : Hid (Calls Tryd.prog 37 #[.slice ar L.length capr, .int .i64 i] wr (BetOut wr (bet L i))) := l8Better_any L _ i wr (HRL.out.at (gp_texts hgL)) hgL hlt
        cases hb : bet L i with
        | none =>
          have HC : Hid (Calls Tryd.prog 37 #[.slice ar L.length capr, .int .i64 i] wr (fun e w' => e = .returned (.tuple #[.slice none 0 0, .bool false]) ∧ Below wr.heap.size wr w')) := HBE.out.mono fun e w' h => by rw [hb] at h; exact ⟨h.2.1 rfl, h.2.2⟩
          have HI2 : Hid (PhI0 R L (i + 1)) := HIL.out.next hlt hb
          clear HBE hb
          go_wp2_with fail
          refine HC.out.mono ?_
          rintro e w4 ⟨rfl, hb4⟩
          have HR4 : Hid (IRow w4 w2.heap.size (.slice ar L.length capr) L) := HRL.out.below hb4
          have HB4 : Hid (Below w2.heap.size w2 w4) := HBL.out.trans (hb4.mono hsz)
          have hm4 := meaV_row HR4.out (i + 1)
          clear hb4
          go_wp2
          go_roundw
          case rel => exact ⟨L, i + 1, by go_num, HR4, HI2, HB4⟩
          case measure =>
            have e1 : (intOf (Value.int IntKind.i64 ((i : Int) + 1))).toNat = i + 1 := by simp [intOf] <;> omega
            have e2 : (intOf (Value.int IntKind.i64 (i : Int))).toNat = i := by simp [intOf]
            rw [e1, e2, hm0, hm4]
            omega
        | some U =>
          have HC : Hid (Calls Tryd.prog 37 #[.slice ar L.length capr, .int .i64 i] wr (fun e w' => ∃ a4 cap4, e = .returned (.tuple #[.slice a4 U.length cap4, .bool true]) ∧ IRow w' wr.heap.size (.slice a4 U.length cap4) U ∧ Below wr.heap.size wr w')) := HBE.out.mono fun e w' h => by
            rw [hb] at h
            obtain ⟨v', he, hr⟩ := h.1 U rfl
            obtain ⟨a4, cap4, rfl, _⟩ := hr.slice
            exact ⟨a4, cap4, he, hr, h.2.2⟩
          obtain ⟨hI2, hmU⟩ := HIL.out.better hlt hb
          have HI2 : Hid (PhI0 R U 0) := hI2
          have hU60 := (gp_len hI2.1).2
          clear HBE hb hI2
          go_wp2_with fail
          refine HC.out.mono ?_
          rintro e w4 ⟨a4, cap4, rfl, hr4, hb4⟩
          have HR4 : Hid (IRow w4 w2.heap.size (.slice a4 U.length cap4) U) := hr4.lower hsz
          have HB4 : Hid (Below w2.heap.size w2 w4) := HBL.out.trans (hb4.mono hsz)
          have hm4 := meaV_row HR4.out 0
          clear hb4 hr4
          go_wp2
          go_roundw
          case rel => exact ⟨U, 0, by go_num, HR4, HI2, HB4⟩
          case measure =>
            have e1 : (intOf (Value.int IntKind.i64 0)).toNat = 0 := by simp [intOf]
            have e2 : (intOf (Value.int IntKind.i64 (i : Int))).toNat = i := by simp [intOf]
            rw [e1, e2, hm0, hm4]
            omega
      · have hlt' : ¬ (i : Int) < (L.length : Int) := by omega
        have hRL : R = L := HIL.out.done (by omega)
        have r5 := (HBL.out.cell (p := ⟨w.heap.size + 1, 0, none⟩) hl2).trans r2
        have f5 := (HBL.out.frozen (p := ⟨w.heap.size + 1, 0, none⟩) hl2).trans f2
        have hBw : Hid (Below w.heap.size w wr) := hB2.trans (HBL.out.mono (by omega))
        have hn2 : Hid (Q = (L, true)) := by show Q = _; rw [hn.out, hRL]
        have hlr : w.heap.size + 1 < wr.heap.size := by omega
        clear hm0 HIL hRL hgL
        go_wp2
        (try simp only [Exit.inBlock, Exit.then])
        refine bodyPost_ret (v := .tuple #[.agg #[.slice ar L.length capr], .bool true]) ?_ rfl ⟨.slice ar L.length capr, by rw [hn2.out], by rw [hn2.out]; exact (HRL.out.setCell (a := ⟨w.heap.size + 1, 0, none⟩) (by show w.heap.size + 1 < _; omega) _).lower (by omega), hBw.out.setCell (by simp) _⟩
        rw [results_cell_tmp rfl]
        go_simp

end Go.Proofs.YtmjpmmkjfimopaaDoor

namespace Go.Proofs.YtmjpmmkjfimopaaDoor
open Go.RowKit Plain Sch Wan Prg

def meaH (w : World) (hb : Nat) : Nat := mea (rdL w ((w.cell? ⟨hb, 0, none⟩).getD undef))

theorem meaH_row {w : World} {hb : Nat} {v : Value} {L : List Ins} (h : HSt w hb v L) : meaH w hb = mea L := by
  unfold meaH
  rw [h.2.1]
  show mea (rdL w v) = _
  rw [rdL_row h.2.2.2]

theorem HSt.setOther {w : World} {hb : Nat} {v : Value} {L : List Ins} (h : HSt w hb v L) {a : Addr} (h1 : a.block ≠ hb) (h2 : v.ownBlock ≠ some a.block) (u : Value) : HSt (w.setCell a u) hb v L := by
  obtain ⟨a1, a2, a3, a4⟩ := h
  have hblk : (w.setCell a u).heap[hb]? = w.heap[hb]? := Below.heap_setCell _ _ _ _ (fun e => h1 e.symm)
  exact ⟨by simp; omega, (World.cell?_of_block (w := w) hblk).trans a2, (World.frozen?_of_block (w := w) hblk).trans a3, ownsRow_setCell_other a4 h2 u⟩

theorem app_h {w w9 : World} {hb g9 cap9 n : Nat} {v : Value} {D : List Ins} {x : Ins} {o : Obj} (hH : HSt w hb v D) (hn : n = D.length)
    (hown9 : w9.ownsRow (hb + 1) 59 6 (.slice (some ⟨g9, 0, none⟩) (n + 1) cap9) (n + 1) (D.flatMap Ins.cells ++ x.cells)) (hgrow : (w.alloc o).grownBy w9 v.ownBlock) :
    w9.cell? ⟨hb, 0, none⟩ = some v ∧ w9.frozen? ⟨hb, 0, none⟩ = false ∧ hb < w9.heap.size ∧ HSt (w9.setCell ⟨hb, 0, none⟩ (.slice (some ⟨g9, 0, none⟩) (n + 1) cap9)) hb (.slice (some ⟨g9, 0, none⟩) (n + 1) cap9) (D ++ [x]) ∧ Below hb w (w9.setCell ⟨hb, 0, none⟩ (.slice (some ⟨g9, 0, none⟩) (n + 1) cap9)) := by
  obtain ⟨h1, h2, h3, h5⟩ := hH
  have hlt := World.ownsRow.lt h5
  have hsz : w.heap.size + 1 ≤ w9.heap.size := by have := hgrow.size; simpa using this
  have hne : some hb ≠ v.ownBlock := fun e => by have := (hlt _ e.symm).1; omega
  have hblk : w9.heap[hb]? = w.heap[hb]? := (hgrow.block hb (by simp; omega) hne).trans (Below.heap_alloc _ _ _ h1)
  have c1 : w9.cell? ⟨hb, 0, none⟩ = some v := (World.cell?_of_block (w := w) hblk).trans h2
  have e1 : w9.frozen? ⟨hb, 0, none⟩ = false := (World.frozen?_of_block (w := w) hblk).trans h3
  refine ⟨c1, e1, by omega, ⟨by simp; omega, World.cell?_setCell_same _ _ _ c1, by rw [World.frozen?_setCell]; exact e1, IRow.setCell (IRow.snoc hown9 (by omega) rfl) (by show hb < hb + 1; omega) _⟩, hgrow.os, hgrow.tape, hgrow.output, by simp; omega, fun j hj => ?_⟩
  rw [Below.heap_setCell _ _ _ _ (by show j ≠ hb; omega), hgrow.block j (by simp; omega) (fun e => by have := (hlt _ e.symm).1; omega), Below.heap_alloc _ _ _ (by omega)]

set_option maxRecDepth 100000 in
set_option maxHeartbeats 8000000 in
theorem implPeep (T : List Ins) (v : Value) (w : World) (hT : InsAt w w.heap.size v T) :
    Calls Tryd.prog 16 #[.agg #[v]] w fun e w' => OPro w w' e (peo T) := by
  obtain ⟨i0, hi0, hz0, hz1, hz2⟩ := info_parts Tryd.infoIns
  have HT : Hid (InsAt w w.heap.size v T) := hT
  obtain ⟨ao, cap, rfl, hlc, hcm, hrow, hnm⟩ := hT
  have HROW : Hid (∀ i, i < T.length → ∃ g o, ao = some ⟨g, o, none⟩ ∧ g < w.heap.size ∧ InsIn w g (o + i * 6) (ins T i)) := hrow
  clear hrow hnm
  unfold maxLen at hcm
  obtain ⟨Q, hQ⟩ : ∃ Q, Q = peo T := ⟨_, rfl⟩
  rw [← hQ]
  have HQ : Hid (Q = peo T) := hQ
  clear hQ
  unfold OPro
  obtain ⟨W1, hW1⟩ : ∃ W, W = (w.alloc (.cells #[.slice ao T.length cap] 30)).alloc (.cells #[.slice none 0 0] 30) := ⟨_, rfl⟩
  have hB1 : Below w.heap.size w W1 := by rw [hW1]; exact ((Below.refl _ w).alloc (Nat.le_refl _) _).alloc (by simp) _
  have hs1 : Hid (W1.heap.size = w.heap.size + 2) := by show _ = _; rw [hW1]; simp
  have hl1 : w.heap.size + 1 < W1.heap.size := by rw [hs1.out]; omega
  have q1 : W1.cell? ⟨w.heap.size, 0, none⟩ = some (.slice ao T.length cap) := by rw [hW1]; go_simp
  have r1 : W1.cell? ⟨w.heap.size + 1, 0, none⟩ = some (.slice none 0 0) := by rw [hW1]; go_simp
  have f1 : W1.frozen? ⟨w.heap.size + 1, 0, none⟩ = false := by rw [hW1]; go_simp
  go_enter Tryd.func16, Tryd.ntmps16
  go_wp2_with fail
  rw [← hW1]
  clear hW1
  refine (implGoodP T _ _ (HT.out.below hB1)).mono ?_
  rintro e w2 ⟨rfl, hb2⟩
  have hB2 : Below w.heap.size w w2 := hB1.trans (hb2.mono (by omega))
  have hl2 : w.heap.size + 1 < w2.heap.size := by have := hb2.size; omega
  have hl2' : w.heap.size < w2.heap.size := by omega
  have q2 := (hb2.cell (p := ⟨w.heap.size, 0, none⟩) (by show w.heap.size < _; omega)).trans q1
  have r2 := (hb2.cell (p := ⟨w.heap.size + 1, 0, none⟩) hl1).trans r1
  have f2 := (hb2.frozen (p := ⟨w.heap.size + 1, 0, none⟩) hl1).trans f1
  clear hb2 q1 r1 f1 hs1 hl1
  cases hg : gp T with
  | false =>
    have hn : Hid (Q = ([], false)) := HQ.out.trans (by unfold peo; rw [hg]; rfl)
    clear HQ hg
    go_wp2
    (try simp only [Exit.inBlock, Exit.then])
    refine bodyPost_ret (v := .tuple #[.agg #[.slice none 0 0], .bool false]) ?_ rfl ⟨.slice none 0 0, by rw [hn.out], by rw [hn.out]; exact World.ownsRow_nil _ _ _ _, ?_⟩
    · rw [results_cell_tmp rfl]
      go_simp
    · exact hB2.setCell (by simp) _
  | true =>
    obtain ⟨h0, h60⟩ := gp_len hg
    obtain ⟨R, hRR⟩ : ∃ R, R = peep (mea T) T := ⟨_, rfl⟩
    have hn : Hid (Q = (R, true)) := HQ.out.trans (by rw [peo_good hg, hRR])
    have HI0 : Hid (PhI0 R T 0) := ⟨hg, by omega, fun j hj => by omega, mea T, Nat.le_refl _, hRR.symm⟩
    have HTX : Hid (∀ i, i < T.length → (ins T i).text.size ≤ 30) := fun i hi => gp_text hg hi
    clear HQ hg hRR
    obtain ⟨W3, hW3⟩ : ∃ W, W = w2.alloc (.cells #[.slice none 0 0] 78) := ⟨_, rfl⟩
    have hB3 : Below w2.heap.size w2 W3 := by rw [hW3]; exact (Below.refl _ w2).alloc (Nat.le_refl _) _
    have HH3 : Hid (HSt W3 w2.heap.size (.slice none 0 0) []) := by
      show HSt _ _ _ _
      refine ⟨by rw [hW3]; simp, by rw [hW3]; go_simp, by rw [hW3]; go_simp, World.ownsRow_nil _ _ _ _⟩
    have q3 := (hB3.cell (p := ⟨w.heap.size, 0, none⟩) hl2').trans q2
    go_upto_region 4 with fail
    rw [← hW3]
    clear hW3 q2
    go_wp2
    go_loopw [15] (fun vi wr => ∃ (i : Nat) (v : Value), i ≤ T.length ∧ vi = .int .i64 (i : Int) ∧ Hid (HSt wr w2.heap.size v (T.take i)) ∧ Hid (Below w2.heap.size w2 wr))
      (fun vi _ => T.length - (intOf vi).toNat)
    case atStart => exact ⟨0, .slice none 0 0, by omega, rfl, by rw [List.take_zero]; exact HH3, hB3⟩
    case round =>
      clear HH3 hB3 q3
      obtain ⟨i, vr, hi, rfl, HHr, HBr⟩ := hrel
      have hszr := HBr.out.size
      by_cases hlt : i < T.length
      · have hlt' : (i : Int) < (T.length : Int) := by omega
        obtain ⟨g, o, rfl, hg, hty⟩ := HROW.out i hlt
        have hBw : Below w.heap.size w wr := hB2.trans (HBr.out.mono (by omega))
        have hci := hty.below hBw hg
        have htx := HTX.out i hlt
        have hSN : Hid (T.take (i + 1) = T.take i ++ [ins T i]) := take_snocI T i hlt
        have hDl : Hid ((T.take i).length = i) := by show _ = _; rw [List.length_take, Nat.min_eq_left hi]
        have hgw : g < wr.heap.size := by have := hBw.size; omega
        obtain ⟨ar, capr, rfl, hnr, hcmr⟩ := HHr.out.2.2.2.slice
        rw [hDl.out] at HHr hnr
        have hcmr' : capr ≤ 9223372036854775807 := by unfold maxLen at hcmr; omega
        obtain ⟨D1, hD1⟩ : ∃ D1, T.take (i + 1) = D1 := ⟨_, rfl⟩
        rw [hD1] at hSN
        have HD1 : Hid (T.take (i + 1) = D1) := hD1
        clear hD1
        generalize T.take i = D at HHr hSN hDl
        generalize ins T i = x at hci htx hSN
        obtain ⟨c, k, n, m, t, jt⟩ := x
        obtain ⟨c0, c1, c2, c3, c4, c5⟩ := hci
        dsimp only at c0 c1 c2 c3 c4 c5 htx
        clear hty
        have HDL : Hid (i = D.length) := hDl.out.symm
        obtain ⟨W4, hW4⟩ : ∃ W, W = wr.alloc (.cells #[.int .i64 c, .int .i64 k, .int .i64 n, .int .i64 m, .string t, .int .i64 jt] 59) := ⟨_, rfl⟩
        have hA4 : Below wr.heap.size wr W4 := by rw [hW4]; exact (Below.refl _ wr).alloc (Nat.le_refl _) _
        have hl4 : wr.heap.size < W4.heap.size := by rw [hW4]; simp
        have z0 : W4.cell? ⟨wr.heap.size, 0, none⟩ = some (.int .i64 c) := by rw [hW4]; go_simp
        have z1 : W4.cell? ⟨wr.heap.size, 1, none⟩ = some (.int .i64 k) := by rw [hW4]; go_simp
        have z2 : W4.cell? ⟨wr.heap.size, 2, none⟩ = some (.int .i64 n) := by rw [hW4]; go_simp
        have z3 : W4.cell? ⟨wr.heap.size, 3, none⟩ = some (.int .i64 m) := by rw [hW4]; go_simp
        have z4 : W4.cell? ⟨wr.heap.size, 4, none⟩ = some (.string t) := by rw [hW4]; go_simp
        have z5 : W4.cell? ⟨wr.heap.size, 5, none⟩ = some (.int .i64 jt) := by rw [hW4]; go_simp
        have y4 : W4.frozen? ⟨wr.heap.size, 4, none⟩ = false := by rw [hW4]; go_simp
        have hlr : ∀ g, (Value.slice ar i capr).ownBlock = some g → g < wr.heap.size := fun g hg => (World.ownsRow.lt HHr.out.2.2.2 g hg).2
        have hbr := HHr.out.1
        go_wp2_with fail
        rw [← hW4]
        clear hW4 c0 c1 c2 c3 c4 c5
        refine (clone_any t _ (by omega)).mono ?_
        rintro e w5 ⟨rfl, hb5⟩
        have hA5 : Below wr.heap.size wr w5 := hA4.trans (hb5.mono (by omega))
        have hl5 : wr.heap.size < w5.heap.size := by have := hb5.size; omega
        have z0 := (hb5.cell (p := ⟨wr.heap.size, 0, none⟩) hl4).trans z0
        have z1 := (hb5.cell (p := ⟨wr.heap.size, 1, none⟩) hl4).trans z1
        have z2 := (hb5.cell (p := ⟨wr.heap.size, 2, none⟩) hl4).trans z2
        have z3 := (hb5.cell (p := ⟨wr.heap.size, 3, none⟩) hl4).trans z3
        have z4 := (hb5.cell (p := ⟨wr.heap.size, 4, none⟩) hl4).trans z4
        have z5 := (hb5.cell (p := ⟨wr.heap.size, 5, none⟩) hl4).trans z5
        have y4 := (hb5.frozen (p := ⟨wr.heap.size, 4, none⟩) hl4).trans y4
        have hH5 := HHr.out.below hA5
        obtain ⟨W6, hW6⟩ : ∃ W, W = w5.setCell ⟨wr.heap.size, 4, none⟩ (.string t) := ⟨_, rfl⟩
        have x0 : W6.cell? ⟨wr.heap.size, 0, none⟩ = some (.int .i64 c) := by rw [hW6, World.cell?_setCell_other _ _ _ _ (by simp)]; exact z0
        have x1 : W6.cell? ⟨wr.heap.size, 1, none⟩ = some (.int .i64 k) := by rw [hW6, World.cell?_setCell_other _ _ _ _ (by simp)]; exact z1
        have x2 : W6.cell? ⟨wr.heap.size, 2, none⟩ = some (.int .i64 n) := by rw [hW6, World.cell?_setCell_other _ _ _ _ (by simp)]; exact z2
        have x3 : W6.cell? ⟨wr.heap.size, 3, none⟩ = some (.int .i64 m) := by rw [hW6, World.cell?_setCell_other _ _ _ _ (by simp)]; exact z3
        have x4 : W6.cell? ⟨wr.heap.size, 4, none⟩ = some (.string t) := by rw [hW6]; exact World.cell?_setCell_same _ _ _ z4
        have x5 : W6.cell? ⟨wr.heap.size, 5, none⟩ = some (.int .i64 jt) := by rw [hW6, World.cell?_setCell_other _ _ _ _ (by simp)]; exact z5
        have HH6 : Hid (HSt W6 w2.heap.size (.slice ar i capr) D) := by
          show HSt _ _ _ _
          rw [hW6]
          exact hH5.setOther (a := ⟨wr.heap.size, 4, none⟩) (by show wr.heap.size ≠ _; omega) (fun e => absurd (hlr wr.heap.size e) (Nat.lt_irrefl _)) _
        have hB6 : Below w2.heap.size w2 W6 := by rw [hW6]; exact (HBr.out.trans (hA5.mono hszr)).setCell (by show w2.heap.size ≤ wr.heap.size; omega) _
        have hl6 : wr.heap.size < W6.heap.size := by rw [hW6]; simpa [World.setCell] using hl5
        have hc6 := HH6.out.2.1
        have hb6 := HH6.out.1
        have HO6 : Hid (W6.ownsRow (w2.heap.size + 1) 59 6 (.slice ar i capr) i (D.flatMap Ins.cells)) := by
          have := HH6.out.2.2.2
          unfold IRow at this
          rw [← HDL.out] at this
          exact this
        go_upto_region 8 with fail
        rw [← hW6]
        clear hW6 z0 z1 z2 z3 z4 z5 y4 hb5 hA4 hA5 hH5 hl4 hl5
        go_wp2_with (at_builtin; refine wpList_append_lies _ rfl _ _ 28 rfl (w2.heap.size + 1) 59 i0 (.agg #[.int .i64 0, .int .i64 0, .int .i64 0, .int .i64 0, .string ⟨#[]⟩, .int .i64 0]) 6 56 Tryd.underlying28 hi0 hz0 hz1 hz2 rfl (by decide) _ i _ rfl (World.ownsRow.alloc HO6.out _) ⟨W6.heap.size, 0, none⟩ 1 1 [.int .i64 c, .int .i64 k, .int .i64 n, .int .i64 m, .string t, .int .i64 jt] rfl rfl (World.news_of_block (heap_alloc_new W6 _)) (one6I _ _ _ _ _ _) (by omega) (by unfold maxLen; omega) (by omega) (by simp; omega) (W6.heap.size + 1) (by simp) ?_)
        intro g9 cap9 w9 hown9 hgrow9 hat9 hlt9
        obtain ⟨c9, e9, hb9, hH9, hB9⟩ := app_h (x := ⟨c, k, n, m, t, jt⟩) HH6.out HDL.out hown9 hgrow9
        have HH9 : Hid (HSt (w9.setCell ⟨w2.heap.size, 0, none⟩ (.slice (some ⟨g9, 0, none⟩) (i + 1) cap9)) w2.heap.size (.slice (some ⟨g9, 0, none⟩) (i + 1) cap9) D1) := by
          show HSt _ _ _ _
          rw [hSN.out]
          exact hH9
        have HB9 : Hid (Below w2.heap.size w2 (w9.setCell ⟨w2.heap.size, 0, none⟩ (.slice (some ⟨g9, 0, none⟩) (i + 1) cap9))) := hB6.trans hB9
        clear hown9 hgrow9 hat9 hH9 hB9 HO6 HH6
        go_wp2
        go_roundw
        case rel => exact ⟨i + 1, _, by omega, by go_num, by rw [HD1.out]; exact HH9, HB9⟩
        case measure => simp [intOf]; omega
      · have hlt' : ¬ (i : Int) < (T.length : Int) := by omega
        have hie : i = T.length := by omega
        subst hie
        rw [List.take_length] at HHr
        have hHm := meaH_row HHr.out
        clear HROW HTX
        go_wp2
        go_loopw [30] (fun _ wr => ∃ (L : List Ins) (v : Value), Hid (HSt wr w2.heap.size v L) ∧ Hid (PhI0 R L 0) ∧ Hid (Below w2.heap.size w2 wr))
          (fun _ wr => meaH wr w2.heap.size)
        case atStart => exact ⟨T, vr, HHr, HI0, HBr⟩
        case round =>
          clear HHr HI0 HBr hHm
          obtain ⟨L, vL, HHL, HIL, HBL⟩ := hrel
          have hm0 := meaH_row HHL.out
          have hgL := HIL.out.1
          obtain ⟨hL0, hL60⟩ := gp_len hgL
          have hszL := HBL.out.size
          have HC : Hid (Calls Tryd.prog 36 #[.pointer (some ⟨w2.heap.size, 0, none⟩)] wr (MbOut wr w2.heap.size vL (fstB L L.length 0))) := makeBetter_any L _ vL wr HHL.out hgL
          have hlo : ∀ g, vL.ownBlock = some g → w2.heap.size ≤ g := fun g hg => by have := (World.ownsRow.lt HHL.out.2.2.2 g hg).1; omega
          go_wp2_with fail
          refine HC.out.mono ?_
          rintro e w4 (⟨U, hU, rfl, v4, hH4, hP4⟩ | ⟨hU, rfl, hb4⟩)
          · obtain ⟨j, _, hj2, hj3⟩ := fstB_some L U L.length 0 hU
            have hfst : PhI0 R U 0 ∧ mea U < mea L := by
              obtain ⟨g1, g2⟩ := bet_good hgL (by omega) hj3
              obtain ⟨_, _, _, f, h4, h5⟩ := HIL.out
              obtain ⟨f', rfl⟩ : ∃ f', f = f' + 1 := ⟨f - 1, by omega⟩
              rw [peep_some hU] at h5
              exact ⟨⟨g1, by omega, fun j hj => by omega, f', by omega, h5⟩, g2⟩
            have HI4 : Hid (PhI0 R U 0) := hfst.1
            have hmU := hfst.2
            have HH4 : Hid (HSt w4 w2.heap.size v4 U) := hH4
            have HB4 : Hid (Below w2.heap.size w2 w4) := HBL.out.trans (hP4.below hszL (fun g hg => by simp at hg; omega) hlo)
            have hm4 := meaH_row hH4
            clear hH4 hP4 hU hj3 hfst hlo
            go_wp2
            go_roundw
            case rel => exact ⟨U, v4, HH4, HI4, HB4⟩
            case measure => rw [hm0, hm4]; exact hmU
          · have hRL : R = L := by
              obtain ⟨_, _, _, f, h4, h5⟩ := HIL.out
              rw [peep_none hU] at h5
              exact h5.symm
            have HH4 := HHL.out.below hb4
            have hB4 : Below w2.heap.size w2 w4 := HBL.out.trans (hb4.mono hszL)
            have r5 := (hB4.cell (p := ⟨w.heap.size + 1, 0, none⟩) hl2).trans r2
            have f5 := (hB4.frozen (p := ⟨w.heap.size + 1, 0, none⟩) hl2).trans f2
            have hBw : Hid (Below w.heap.size w w4) := hB2.trans (hB4.mono (by omega))
            have hn2 : Hid (Q = (L, true)) := by show Q = _; rw [hn.out, hRL]
            have hl4 : w.heap.size + 1 < w4.heap.size := by have := hB4.size; omega
            obtain ⟨a4, cap4, rfl, _⟩ := HHL.out.2.2.2.slice
            have c4 := HH4.2.1
            have hb4' := HH4.1
            have HR4 : Hid (IRow w4 (w2.heap.size + 1) (.slice a4 L.length cap4) L) := HH4.2.2.2
            clear hm0 HIL hRL hgL HHL HBL hU hb4 HH4 HC hlo hB4
            go_wp2
            (try simp only [Exit.inBlock, Exit.then])
            refine bodyPost_ret (v := .tuple #[.agg #[.slice a4 L.length cap4], .bool true]) ?_ rfl ⟨.slice a4 L.length cap4, by rw [hn2.out], by rw [hn2.out]; exact (HR4.out.setCell (a := ⟨w.heap.size + 1, 0, none⟩) (by show w.heap.size + 1 < _; omega) _).lower (by omega), hBw.out.setCell (by simp) _⟩
            rw [results_cell_tmp rfl]
            go_simp

end Go.Proofs.YtmjpmmkjfimopaaDoor
