/- The model's look whether two terms are the same. -/
import Derived.Test.YtlmhjkcollohnaaTmD
import Derived.Test.YtlmhjkcollohnaaInA
import Derived.Deep.RegionWith
namespace Go.Proofs.Ytlmhjkcollohnaa
open Go.RowKit Plain Sch Trm

def SameC (d : Nat) : Prop := ∀ (e : Nat) (a b : TT) (aa : Option Addr) (la ca : Nat) (ab : Option Addr) (lb cb : Nat) (w : World) (S S' : Nat → Prop), TKids d w S (.slice aa la ca) a.kids → (∀ g, S g → g < w.heap.size) → TKids e w S' (.slice ab lb cb) b.kids → (∀ g, S' g → g < w.heap.size) →
  Calls Try.prog 46 #[.agg #[.int .i64 a.v, .string a.name, .slice aa la ca], .agg #[.int .i64 b.v, .string b.name, .slice ab lb cb]] w fun r w' => r = .returned (.bool (decide (fl a = fl b))) ∧ Below w.heap.size w w'

theorem TKids.len {d : Nat} {w : World} {S : Nat → Prop} {a : Option Addr} {n c : Nat} {l : List TT} (h : TKids d w S (.slice a n c) l) : n = l.length ∧ c ≤ maxLen := by
  obtain ⟨ao, cap, hf, hc⟩ := h.form
  simp only [Value.slice.injEq] at hf
  exact ⟨hf.2.1, by rw [hf.2.2]; exact hc⟩

/-- a term of a term's own, in memory -/
theorem TKids.kid {d : Nat} {w : World} {S : Nat → Prop} {a : Option Addr} {n c : Nat} {l : List TT} (h : TKids d w S (.slice a n c) l) (i : Nat) (t : TT) (hi : l[i]? = some t) : ∃ d' g o at_ lt ct, d = d' + 1 ∧ a = some ⟨g, o, Option.none⟩ ∧ S g ∧ n ≤ c ∧ TdIn w g (o + i * 3) t.v t.name (.slice at_ lt ct) ∧ TKids d' w S (.slice at_ lt ct) t.kids := by
  cases d with
  | zero =>
    obtain ⟨_, _, _, _, h⟩ := h
    rw [h] at hi
    simp at hi
  | succ d =>
    obtain ⟨ao, cap, hf, hlc, hcm, hrows⟩ := h
    simp only [Value.slice.injEq] at hf
    obtain ⟨rfl, rfl, rfl⟩ := hf
    obtain ⟨g, o, c', ha, hg, hn, hk⟩ := hrows i t hi
    obtain ⟨at_, ct, rfl, _⟩ := hk.form
    exact ⟨d, g, o, at_, t.kids.length, ct, rfl, ha, hg, hlc, hn, hk⟩

set_option maxRecDepth 100000 in
set_option maxHeartbeats 8000000 in
theorem sameC_step (d : Nat) (ih0 : ∀ d', d = d' + 1 → SameC d') : SameC d := by
  intro e a b aa la ca ab lb cb w S S' hA hS hB hS'
  have ih : Hid (∀ d', d = d' + 1 → SameC d') := ih0
  clear ih0
  obtain ⟨av, an, aks⟩ := a
  obtain ⟨bv, bn, bks⟩ := b
  obtain ⟨hla, hca⟩ := hA.len
  obtain ⟨hlb, hcb⟩ := hB.len
  replace hla : la = aks.length := hla
  replace hlb : lb = bks.length := hlb
  subst hla hlb
  have hca' : ca ≤ 9223372036854775807 := by unfold maxLen at hca; omega
  have hcb' : cb ≤ 9223372036854775807 := by unfold maxLen at hcb; omega
  have HA : Hid (TKids d w S (.slice aa aks.length ca) aks) := hA
  have HB : Hid (TKids e w S' (.slice ab bks.length cb) bks) := hB
  have HS : Hid (∀ g, S g → g < w.heap.size) := hS
  have HS' : Hid (∀ g, S' g → g < w.heap.size) := hS'
  have hfs := fl_same av an aks bv bn bks
  have HFS : Hid ((fl (.mk av an aks) = fl (.mk bv bn bks)) ↔ (av = bv ∧ an = bn ∧ aks.length = bks.length ∧ flL aks = flL bks)) := hfs
  show Calls Try.prog 46 #[.agg #[.int .i64 av, .string an, .slice aa aks.length ca], .agg #[.int .i64 bv, .string bn, .slice ab bks.length cb]] w _
  obtain ⟨R, hR⟩ : ∃ R, Hid (R = decide (fl (.mk av an aks) = fl (.mk bv bn bks))) := ⟨_, rfl⟩
  rw [← hR.out]
  clear hA hB hS hS' hfs
  have hB2 : ∀ o1 o2, Below w.heap.size w ((w.alloc o1).alloc o2) := fun o1 o2 => ((Below.refl _ w).alloc (Nat.le_refl _) o1).alloc (by simp) o2
  by_cases hv : av = bv
  · subst hv
    by_cases hn : an = bn
    · subst hn
      by_cases hl : aks.length = bks.length
      · have HL : Hid (aks.length = bks.length) := hl
        have hR2 : Hid (R = decide (flL (aks.drop 0) = flL (bks.drop 0))) := by
          show _ = _
          rw [hR.out]
          refine decide_eq_decide.2 (HFS.out.trans ?_)
          simp [hl]
        rw [← hl]
        clear hl hR HFS
        go_enter Try.func46, Try.ntmps46
        go_wp2
        go_loopw [30] (fun vi wr => ∃ i : Nat, i ≤ aks.length ∧ vi = .int .i64 (i : Int) ∧ Hid (R = decide (flL (aks.drop i) = flL (bks.drop i))) ∧ Below (w.heap.size + 2) ((w.alloc (.cells #[.int .i64 av, .string an, .slice aa aks.length ca] 48)).alloc (.cells #[.int .i64 av, .string an, .slice ab aks.length cb] 48)) wr)
          (fun vi _ => aks.length - (intOf vi).toNat)
        case atStart => exact ⟨0, by omega, rfl, hR2, Below.refl _ _⟩
        case round =>
          obtain ⟨i, hi, rfl, hr, hbw⟩ := hrel
          clear hR2
          have hB0 : Below w.heap.size w wr := (hB2 _ _).trans (hbw.mono (by omega))
          have hsz : w.heap.size + 1 < wr.heap.size := by have := hbw.size; simp at this; omega
          have x2 : wr.cell? ⟨w.heap.size, 2, none⟩ = some (.slice aa aks.length ca) := (hbw.cell (p := ⟨w.heap.size, 2, none⟩) (by simp)).trans (by simp)
          have y2 : wr.cell? ⟨w.heap.size + 1, 2, none⟩ = some (.slice ab aks.length cb) := (hbw.cell (p := ⟨w.heap.size + 1, 2, none⟩) (by simp)).trans (by simp)
          by_cases hlt : i < aks.length
          · have hlt' : (i : Int) < (aks.length : Int) := by omega
            obtain ⟨t, ht⟩ : ∃ t, aks[i]? = some t := ⟨_, List.getElem?_eq_getElem hlt⟩
            obtain ⟨u, hu⟩ : ∃ u, bks[i]? = some u := ⟨_, List.getElem?_eq_getElem (by rw [← HL.out]; exact hlt)⟩
            obtain ⟨d', g, o, at_, lt, ct, hd', hao, hSg, hnc, hnd, hkt⟩ := HA.out.kid i t ht
            obtain ⟨e', g', o', au, lu, cu, he', hbo, hSg', hnc', hnd', hku⟩ := HB.out.kid i u hu
            rw [← HL.out] at hnc'
            subst hao hbo
            obtain ⟨c0, c1, c2⟩ := hnd.kept (hB0.block g (HS.out g hSg))
            obtain ⟨d0, d1, d2⟩ := hnd'.kept (hB0.block g' (HS'.out g' hSg'))
            have hg : g < wr.heap.size := by have := HS.out g hSg; omega
            have hg' : g' < wr.heap.size := by have := HS'.out g' hSg'; omega
            have hstep : Hid (R = (decide (fl t = fl u) && decide (flL (aks.drop (i + 1)) = flL (bks.drop (i + 1))))) := by
              show _ = _
              have h1 : aks.drop i = t :: aks.drop (i + 1) := by
                rw [List.drop_eq_getElem_cons hlt]
                rw [List.getElem?_eq_getElem hlt] at ht
                cases ht
                rfl
              have hlt2 : i < bks.length := by rw [← HL.out]; exact hlt
              have h2 : bks.drop i = u :: bks.drop (i + 1) := by
                rw [List.drop_eq_getElem_cons hlt2]
                rw [List.getElem?_eq_getElem hlt2] at hu
                cases hu
                rfl
              rw [hr.out, h1, h2, ← Bool.decide_and]
              exact decide_eq_decide.2 (flL_same _ _ _ _)
            have HC : Hid (∀ W : World, Below w.heap.size w W → Calls Try.prog 46 #[.agg #[.int .i64 t.v, .string t.name, .slice at_ lt ct], .agg #[.int .i64 u.v, .string u.name, .slice au lu cu]] W fun r w' => r = .returned (.bool (decide (fl t = fl u))) ∧ Below W.heap.size W w') := fun W hW => by
              have hs := hW.size
              refine ih.out d' hd' e' t u at_ lt ct au lu cu W S S' (hkt.kept (fun g hg => hW.block g (HS.out g hg)) (fun g hg => hg)) (fun g hg => by have := HS.out g hg; omega) (hku.kept (fun g hg => hW.block g (HS'.out g hg)) (fun g hg => hg)) (fun g hg => by have := HS'.out g hg; omega)
            have hBd : Hid (Below w.heap.size w wr.drew) := hB0.drew
            clear hnd hnd' hkt hku ht hu hr
            generalize hq9 : decide (fl t = fl u) = q at HC hstep
            clear hq9
            go_wp2_with fail
            go_region_with (go_at_call 46; refine (HC.out _ hBd.out).mono ?_; rintro e w2 ⟨rfl, hb2⟩; have hb2 : Below wr.heap.size wr w2 := ⟨hb2.os, hb2.tape, hb2.output, hb2.size, hb2.block⟩)
            all_goals
              have hbw2 := hbw.trans (hb2.mono (by omega))
              have hB2w : Below w.heap.size w w2 := hB0.trans (hb2.mono hB0.size)
              cases q with
              | true =>
                have hstep2 : Hid (R = decide (flL (aks.drop (i + 1)) = flL (bks.drop (i + 1)))) := by show _ = _; rw [hstep.out, Bool.true_and]
                clear hstep hb2 hbw c0 c1 c2 d0 d1 d2
                go_wp2
                go_roundw
                case rel => exact ⟨i + 1, by omega, by go_num, hstep2, hbw2⟩
                case measure => simp [intOf]; omega
              | false =>
                have hn : Hid (R = false) := by show _ = _; rw [hstep.out, Bool.false_and]
                clear hstep hb2 hbw c0 c1 c2 d0 d1 d2
                go_wp2
                go_ret
                exact ⟨by rw [hn.out]; rfl, hB2w⟩
          · have hke : i = aks.length := by omega
            have hn : Hid (R = true) := by
              show _ = _
              rw [hr.out, hke, List.drop_length, HL.out, List.drop_length]
              simp
            subst hke
            have hge : ¬ ((aks.length : Int) < (aks.length : Int)) := by omega
            clear hr
            go_wp2
            go_ret
            exact ⟨by rw [hn.out]; rfl, hB0⟩
      · have hn : Hid (R = false) := by
          show _ = _
          rw [hR.out, decide_eq_false_iff_not, HFS.out]
          exact fun h => hl h.2.2.1
        have hl' : ((aks.length : Int) == (bks.length : Int)) = false := by simp; omega
        have hln : (aks.length == bks.length) = false := by simpa using hl
        clear hR HFS hl
        go_enter Try.func46, Try.ntmps46
        go_wp2
        go_ret
        exact ⟨by rw [hn.out]; rfl, hB2 _ _⟩
    · have hn' : (an.toList == bn.toList) = false := str_neB hn
      have hn2 : Hid (R = false) := by
        show _ = _
        rw [hR.out, decide_eq_false_iff_not, HFS.out]
        exact fun h => hn h.2.1
      clear hR HFS hn
      go_enter Try.func46, Try.ntmps46
      go_wp2
      go_ret
      exact ⟨by rw [hn2.out]; rfl, hB2 _ _⟩
  · have hv' : (av == bv) = false := by simpa using hv
    have hv2 : (av != bv) = true := by simpa using hv
    have hn2 : Hid (R = false) := by
      show _ = _
      rw [hR.out, decide_eq_false_iff_not, HFS.out]
      exact fun h => hv h.1
    clear hR HFS hv
    go_enter Try.func46, Try.ntmps46
    go_wp2
    go_ret
    exact ⟨by rw [hn2.out]; rfl, hB2 _ _⟩

theorem sameC_all : ∀ d, SameC d := by
  intro d
  induction d with
  | zero => exact sameC_step 0 (fun d' h => by omega)
  | succ d ih => exact sameC_step (d + 1) (fun d' h => by obtain rfl : d = d' := by omega
                                                          exact ih)

end Go.Proofs.Ytlmhjkcollohnaa
