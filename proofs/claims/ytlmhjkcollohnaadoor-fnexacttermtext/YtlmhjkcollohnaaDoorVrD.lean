/- The model's VarsOf, whole. -/
import Derived.Test.YtlmhjkcollohnaaDoorVrC
namespace Go.Proofs.YtlmhjkcollohnaaDoor
open Go.RowKit Plain Sch Trm

def VarsC (d : Nat) : Prop := ∀ (x : TT) (p : Nat → Bool) (ac : Option Addr) (lc cc : Nat) (vo : Value) (w : World) (S : Nat → Prop), TKids d w S (.slice ac lc cc) x.kids → (∀ g, S g → g < w.heap.size) → (∀ c ∈ fl x, okCe c = true) → NAt w w.heap.size vo (pick6 p) →
  Calls Tryd.prog 65 #[.agg #[.int .i64 x.v, .string x.name, .slice ac lc cc], vo] w fun e w' => ∃ r, e = .returned r ∧ NAt w' w'.heap.size r (vars x (pick6 p)) ∧ Below w.heap.size w w'

theorem fl_kid {x t : TT} {i : Nat} (h : x.kids[i]? = some t) : ∀ c ∈ fl t, c ∈ fl x := by
  obtain ⟨v, n, ks⟩ := x
  intro c hc
  rw [fl]
  refine List.mem_cons_of_mem _ ?_
  have hL : ∀ (l : List TT) (i : Nat), l[i]? = some t → c ∈ flL l := by
    intro l
    induction l with
    | nil => intro i h; simp at h
    | cons a l ih =>
      intro i h
      rw [flL, List.mem_append]
      cases i with
      | zero => simp at h; subst h; exact .inl hc
      | succ i => exact .inr (ih i (by simpa using h))
  exact hL ks i h

set_option maxRecDepth 100000 in
set_option maxHeartbeats 8000000 in
theorem varsC_step (d : Nat) (ih0 : ∀ d', d = d' + 1 → VarsC d') : VarsC d := by
  intro x p ac lc cc vo w S hK hS hok hL
  have ih : Hid (∀ d', d = d' + 1 → VarsC d') := ih0
  clear ih0
  obtain ⟨v, name, ks⟩ := x
  have hc := hok ⟨v, name, (ks.length : Int)⟩ (by simp [fl])
  by_cases hv : 0 < v
  · obtain ⟨h1, h6, _, hm⟩ := okCe_pos hc hv
    dsimp only at h1 h6 hm
    obtain ⟨m, rfl⟩ := Int.eq_ofNat_of_zero_le (show 0 ≤ v by omega)
    have hr : vars (.mk (m : Int) name ks) (pick6 p) = ins m (pick6 p) := by rw [vars, if_pos hv]; rfl
    rw [hr]
    exact l6Vars_var m name ac lc cc (pick6 p) vo w (by omega) (by omega) hL (pick6_len p)
  · have h0 := okCe_neg hc hv
    dsimp only at h0
    subst h0
    have HR : Hid (vars (.mk 0 name ks) (pick6 p) = varsL ks (pick6 p)) := by show _ = _; rw [vars, if_neg hv]
    have HL : Hid (NAt w w.heap.size vo (pick6 p)) := hL
    have HK : Hid (TKids d w S (.slice ac lc cc) ks) := hK
    have HS : Hid (∀ g, S g → g < w.heap.size) := hS
    have HOK : Hid (∀ c ∈ fl (.mk 0 name ks), okCe c = true) := hok
    obtain ⟨ac', cap', hform, hcap⟩ := hK.form
    have hlc : lc = ks.length := by simp only [Value.slice.injEq] at hform; exact hform.2.1
    clear hform
    subst hlc
    obtain ⟨RR, hRR⟩ : ∃ RR, RR = vars (.mk 0 name ks) (pick6 p) := ⟨_, rfl⟩
    rw [← hRR] at HR ⊢
    clear hRR hL hK hS hok hc hv
    show Calls Tryd.prog 65 #[.agg #[.int .i64 0, .string name, .slice ac ks.length cc], vo] w _
    obtain ⟨ao0, cap0, hvo, _⟩ := id HL.out
    subst hvo
    go_enter Tryd.func65, Tryd.ntmps65
    go_wp2
    go_loopw [59, 1] (fun vi vl wr => ∃ (i : Nat) (q : Nat → Bool), i ≤ ks.length ∧ vi = .int .i64 (i : Int) ∧ Hid (RR = varsL (ks.drop i) (pick6 q)) ∧ Hid (NAt wr wr.heap.size vl (pick6 q)) ∧ Below (w.heap.size + 1) (w.alloc (.cells #[.int .i64 0, .string name, .slice ac ks.length cc] 66)) wr)
      (fun vi _ _ => ks.length - (intOf vi).toNat)
    case atStart => exact ⟨0, p, by omega, rfl, HR, HL.out.below ((Below.refl _ w).alloc (Nat.le_refl _) _), Below.refl _ _⟩
    case round =>
      obtain ⟨i, q, hi, rfl, hr, hn, hbw⟩ := hrel
      have hB0 : Below w.heap.size w wr := ((Below.refl _ w).alloc (Nat.le_refl _) _).trans (hbw.mono (by omega))
      have hsz : w.heap.size < wr.heap.size := by have := hbw.size; simp at this; omega
      by_cases hlt : i < ks.length
      · have hlt' : (i : Int) < (ks.length : Int) := by omega
        obtain ⟨t, ht⟩ : ∃ t, ks[i]? = some t := ⟨_, List.getElem?_eq_getElem hlt⟩
        have hkt := fl_kid (x := .mk 0 name ks) (i := i) ht
        obtain ⟨d', hd'⟩ : ∃ d', d = d' + 1 := by
          cases d with
          | zero => obtain ⟨_, _, _, _, h⟩ := id HK.out; rw [h] at hlt; simp at hlt
          | succ d => exact ⟨d, rfl⟩
        have HKd := HK.out
        rw [hd'] at HKd
        obtain ⟨ao', cap2, hac, hlc2, hcm2, hrows⟩ := HKd
        have hac1 : ac = ao' := by simp only [Value.slice.injEq] at hac; exact hac.1
        have hac2 : cc = cap2 := by simp only [Value.slice.injEq] at hac; exact hac.2.2
        clear hac
        subst hac1 hac2
        obtain ⟨g, o, c', hao, hSg, hnd, hkids⟩ := hrows i t ht
        subst hao
        obtain ⟨at_, capt, hct, _⟩ := hkids.form
        subst hct
        have hnd' := hnd.kept (hB0.block g (HS.out g hSg))
        obtain ⟨n0, n1, n2⟩ := hnd'
        have hg : g < wr.heap.size := by have := HS.out g hSg; omega
        obtain ⟨aol, capl, hvl, _⟩ := id hn.out
        subst hvl
        have HC : Hid (∀ (W : World), Below wr.heap.size wr W → Calls Tryd.prog 65 #[.agg #[.int .i64 t.v, .string t.name, .slice at_ t.kids.length capt], .slice aol (pick6 q).length capl] W fun e w' => ∃ r, e = .returned r ∧ NAt w' w'.heap.size r (vars t (pick6 q)) ∧ Below W.heap.size W w') := fun W hW => by
          have hBW := hB0.trans (hW.mono hB0.size)
          refine ih.out d' hd' t q at_ t.kids.length capt (.slice aol (pick6 q).length capl) W S (hkids.kept (fun g hg => hBW.block g (HS.out g hg)) (fun g hg => hg)) (fun g hg => ?_) (fun c hc => HOK.out c (hkt c hc)) (hn.out.below hW)
          have := HS.out g hg
          have := hBW.size
          omega
        have hvp : Hid (vars t (pick6 q) = pick6 fun k => q k || hasV (fl t) k) := vars_pick t q (fun c hc => HOK.out c (hkt c hc))
        have hstep : Hid (ks.drop i = t :: ks.drop (i + 1)) := by
          show _ = _
          rw [List.drop_eq_getElem_cons hlt]
          rw [List.getElem?_eq_getElem hlt] at ht
          cases ht
          rfl
        have hcm2' : cc ≤ 9223372036854775807 := by unfold maxLen at hcm2; omega
        clear hnd hkids hrows hkt
        go_wp2_with fail
        refine (HC.out _ ((Below.refl _ wr).alloc (Nat.le_refl _) _)).mono ?_
        rintro e w2 ⟨r, rfl, hn2, hb2⟩
        have hbw2 := (hbw.alloc (by omega) (.cells #[.int .i64 t.v, .string t.name, .slice at_ t.kids.length capt] 66)).trans (hb2.mono (by simp; omega))
        have hr2 : Hid (RR = varsL (ks.drop (i + 1)) (pick6 fun k => q k || hasV (fl t) k)) := by
          show _ = _
          rw [hr.out, hstep.out, varsL, hvp.out]
        have hn3 : Hid (NAt w2 w2.heap.size r (pick6 fun k => q k || hasV (fl t) k)) := by rw [hvp.out] at hn2; exact hn2
        clear hb2 hn2 hn n0 n1 n2 hbw hr
        go_wp2
        go_roundw
        case rel => exact ⟨i + 1, _, by omega, by go_num, hr2, hn3, hbw2⟩
        case measure => simp [intOf]; omega
      · have hke : i = ks.length := by omega
        subst hke
        have hge : ¬ ((ks.length : Int) < (ks.length : Int)) := by omega
        have hfin : Hid (RR = pick6 q) := by show _ = _; rw [hr.out, List.drop_length, varsL]
        clear hr
        go_wp2
        go_ret
        exact ⟨_, rfl, by rw [hfin.out]; exact hn.out, hB0⟩

theorem varsC_all : ∀ d, VarsC d := by
  intro d
  induction d with
  | zero => exact varsC_step 0 (fun d' h => by omega)
  | succ d ih => exact varsC_step (d + 1) (fun d' h => by obtain rfl : d = d' := by omega
                                                          exact ih)

def OVarsS (w w' : World) (e : Ending) (R : List Nat × Bool) : Prop := ∃ r, e = .returned (.tuple #[r, .bool R.2]) ∧ NAt w' w'.heap.size r R.1 ∧ Below w.heap.size w w'

set_option maxRecDepth 100000 in
set_option maxHeartbeats 4000000 in
theorem specVars (T : List Ce) (v : Value) (w : World) (hT : CesAt w w.heap.size v T) :
    Calls Tryd.prog 29 #[.agg #[v]] w fun e w' => OVarsS w w' e (vof T) := by
  have HT : Hid (CesAt w w.heap.size v T) := hT
  obtain ⟨ao, cap, rfl, _⟩ := hT
  have hB1 : ∀ o, Below w.heap.size w (w.alloc o) := fun o => (Below.refl _ w).alloc (Nat.le_refl _) o
  by_cases hg : gt T = true
  · have HV : Hid (vof T = (pick6 (hasV T), true)) := vof_yes hg
    obtain ⟨R, hR⟩ : ∃ R, R = vof T := ⟨_, rfl⟩
    rw [← hR] at HV ⊢
    clear hR
    go_enter Tryd.func29, Tryd.ntmps29
    go_wp2_with fail
    refine (l6Tree_any T _ _ (HT.out.below (hB1 _))).mono ?_
    intro e w2 h2
    obtain ⟨xv, xn, ac, lc, cc, rfl, hb2, hx⟩ := h2.form
    obtain ⟨x, hx1, hx2, hx3, hx4⟩ := hx.out hg
    have HX1 : Hid (tre T = some x) := hx1
    clear h2 hx hx1
    rw [hg]
    have hB2 : Below w.heap.size w w2 := (hB1 _).trans (hb2.mono (by simp))
    subst hx2 hx3
    obtain ⟨W3, hW3⟩ : ∃ W, W = w2.alloc (.cells #[.int .i64 x.v, .string x.name, .slice ac lc cc] 66) := ⟨_, rfl⟩
    have hb3 : Below w2.heap.size w2 W3 := by rw [hW3]; exact (Below.refl _ w2).alloc (Nat.le_refl _) _
    have hB3 : Below w.heap.size w W3 := hB2.trans (hb3.mono hB2.size)
    have y0 : W3.cell? ⟨w2.heap.size, 0, none⟩ = some (.int .i64 x.v) := by rw [hW3]; go_simp
    have y1 : W3.cell? ⟨w2.heap.size, 1, none⟩ = some (.string x.name) := by rw [hW3]; go_simp
    have y2 : W3.cell? ⟨w2.heap.size, 2, none⟩ = some (.slice ac lc cc) := by rw [hW3]; go_simp
    have HC : Hid (Calls Tryd.prog 65 #[.agg #[.int .i64 x.v, .string x.name, .slice ac lc cc], .slice none 0 0] W3 fun e w' => ∃ r, e = .returned r ∧ NAt w' w'.heap.size r (pick6 (hasV T)) ∧ Below W3.heap.size W3 w') := by
      have h := varsC_all 31 x (fun _ => false) ac lc cc (.slice none 0 0) W3 _ (hx4.kept (fun g hg => hb3.block g hg.2) (fun g hg => hg)) (fun g hg => by have := hb3.size; have := hg.2; omega) (rd_ok 31 _ _ _ (tre_some HX1.out)) (by rw [pick6_none]; exact NAt.nil _)
      rw [pick6_none, vars_tre HX1.out] at h
      exact h
    clear hx4
    go_upto_region 4 with fail
    rw [← hW3]
    clear hW3
    go_wp2_with fail
    refine HC.out.mono ?_
    rintro e w4 ⟨r, rfl, hn, hb4⟩
    have HN : Hid (NAt w4 w4.heap.size r (pick6 (hasV T))) := hn
    have hB4 : Below w.heap.size w w4 := hB3.trans (hb4.mono hB3.size)
    clear hn
    go_wp2
    go_ret2
    rw [HV.out]
    exact ⟨r, rfl, HN.out, hB4⟩
  · have hg' : gt T = false := by simpa using hg
    have HV : Hid (vof T = ([], false)) := vof_no hg'
    obtain ⟨R, hR⟩ : ∃ R, R = vof T := ⟨_, rfl⟩
    rw [← hR] at HV ⊢
    clear hR hg
    go_enter Tryd.func29, Tryd.ntmps29
    go_wp2_with fail
    refine (l6Tree_any T _ _ (HT.out.below (hB1 _))).mono ?_
    intro e w2 h2
    obtain ⟨xv, xn, ac, lc, cc, rfl, hb2, hx⟩ := h2.form
    clear h2 hx
    rw [hg']
    have hB2 : Below w.heap.size w w2 := (hB1 _).trans (hb2.mono (by simp))
    go_wp2
    go_ret2
    rw [HV.out]
    exact ⟨_, rfl, NAt.nil _, hB2.alloc hB2.size _⟩

end Go.Proofs.YtlmhjkcollohnaaDoor
