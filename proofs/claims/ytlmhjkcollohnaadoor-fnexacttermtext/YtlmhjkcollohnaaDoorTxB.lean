/- The model's text of a term. -/
import Derived.Test.YtlmhjkcollohnaaDoorTmD
import Derived.Test.YtlmhjkcollohnaaDoorTxA
import Derived.Test.YtlmhjkcollohnaaDoorVrD
import Derived.Test.YtlmhjkcollohnaaDoorInT
import Derived.Test.YtlmhjkcollohnaaDoorVarB
import Derived.Test.YtlmhjkcollohnaaDoorInA
namespace Go.Proofs.YtlmhjkcollohnaaDoor
open Go.RowKit Plain Sch Trm

set_option maxRecDepth 100000 in
set_option maxHeartbeats 1000000 in
theorem l1Num_digit (n : Nat) (h : n < 10) (w : World) :
    Calls Tryd.prog 82 #[.int .i64 (n : Int)] w fun e w' => e = .returned (.string ⟨#[(48 + n).toUInt8]⟩) ∧ Below w.heap.size w w' := by
  have h0 : ¬ ((n : Int) < 0) := by omega
  have h1 : (n : Int) < 10 := by omega
  have hc := convert_one w (48 + n)
  rw [show ((48 + n : Nat) : Int) = 48 + (n : Int) by omega] at hc
  go_enter Tryd.func82, Tryd.ntmps82
  go_wp2
  go_ret
  exact ⟨rfl, (Below.refl _ w).alloc (Nat.le_refl _) _⟩

theorem bytes_app (a b : List UInt8) : (({ data := a.toArray } : ByteArray) ++ ({ data := b.toArray } : ByteArray)) = ⟨(a ++ b).toArray⟩ := by
  apply ByteArray.ext
  simp

theorem bytes_self (s : ByteArray) : (⟨s.data.toList.toArray⟩ : ByteArray) = s := by
  apply ByteArray.ext
  simp

theorem txL_snoc : ∀ (m : UInt8) (xs : List TT) (y : TT), txL m (xs ++ [y]) = txL m xs ++ (if xs.isEmpty then m else 44) :: txt y
  | m, [], y => by simp [txL_cons, txL]
  | m, x :: xs, y => by
    rw [List.cons_append, txL_cons, txL_cons, txL_snoc 44 xs y]
    cases xs <;> simp

theorem fl_kid_len {x t : TT} {i : Nat} (h : x.kids[i]? = some t) : (fl t).length < (fl x).length := by
  obtain ⟨v, n, ks⟩ := x
  rw [fl, List.length_cons]
  have hL : ∀ (l : List TT) (i : Nat), l[i]? = some t → (fl t).length ≤ (flL l).length := by
    intro l
    induction l with
    | nil => intro i h; simp at h
    | cons a l ih =>
      intro i h
      rw [flL, List.length_append]
      cases i with
      | zero => simp at h; subst h; omega
      | succ i => have := ih i (by simpa using h); omega
  have := hL ks i h
  omega

theorem name_txL_len {name : ByteArray} {ks : List TT} (hok : ∀ c ∈ fl (.mk 0 name ks), okCe c = true) (h30 : (fl (.mk 0 name ks)).length ≤ 30) (i : Nat) : (name.data.toList ++ txL 40 (ks.take i)).length ≤ 300 := by
  have hc := okCe_name (hok ⟨0, name, (ks.length : Int)⟩ (by simp [fl]))
  dsimp only at hc
  have hsp : flL ks = flL (ks.take i) ++ flL (ks.drop i) := by rw [← flL_append, List.take_append_drop]
  have h1 := txL_len 40 (ks.take i) (fun c hc => hok c (by rw [fl, hsp]; exact List.mem_cons_of_mem _ (List.mem_append_left _ hc)))
  rw [fl, List.length_cons, hsp, List.length_append] at h30
  have h3 : name.data.toList.length = name.size := Array.length_toList
  rw [List.length_append, h3]
  omega

def TextC (d : Nat) : Prop := ∀ (x : TT) (ac : Option Addr) (lc cc : Nat) (w : World) (S : Nat → Prop), TKids d w S (.slice ac lc cc) x.kids → (∀ g, S g → g < w.heap.size) → (∀ c ∈ fl x, okCe c = true) → (fl x).length ≤ 30 →
  Calls Tryd.prog 54 #[.agg #[.int .i64 x.v, .string x.name, .slice ac lc cc]] w fun e w' => e = .returned (.string ⟨(txt x).toArray⟩) ∧ Below w.heap.size w w'

set_option maxRecDepth 100000 in
set_option maxHeartbeats 4000000 in
theorem textC_step (d : Nat) (ih0 : ∀ d', d = d' + 1 → TextC d') : TextC d := by
  intro x ac lc cc w S hK hS hok h30
  have ih : Hid (∀ d', d = d' + 1 → TextC d') := ih0
  clear ih0
  obtain ⟨v, name, ks⟩ := x
  have hc := hok ⟨v, name, (ks.length : Int)⟩ (by simp [fl])
  have hB1 : ∀ o, Below w.heap.size w (w.alloc o) := fun o => (Below.refl _ w).alloc (Nat.le_refl _) o
  by_cases hv : 0 < v
  · obtain ⟨h1, h6, _, hm⟩ := okCe_pos hc hv
    dsimp only at h1 h6 hm
    obtain ⟨m, rfl⟩ := Int.eq_ofNat_of_zero_le (show 0 ≤ v by omega)
    obtain ⟨q, hq⟩ : ∃ q, Hid (q = (48 + m).toUInt8) := ⟨_, rfl⟩
    have hr : txt (.mk (m : Int) name ks) = [36, q] := by rw [txt_var _ _ _ hv, hq.out]; rfl
    rw [hr]
    have HC : Hid (∀ W : World, Calls Tryd.prog 82 #[.int .i64 (m : Int)] W fun e w' => e = .returned (.string ⟨#[q]⟩) ∧ Below W.heap.size W w') := fun W => by rw [hq.out]; exact l1Num_digit m (by omega) W
    show Calls Tryd.prog 54 #[.agg #[.int .i64 (m : Int), .string name, .slice ac lc cc]] w _
    clear hr hc hok hK hS ih hm h1 h6
    go_enter Tryd.func54, Tryd.ntmps54
    go_wp2_with fail
    refine (HC.out _).mono ?_
    rintro e w2 ⟨rfl, hb2⟩
    have hB2 : Below w.heap.size w w2 := (hB1 _).trans (hb2.mono (by simp))
    go_wp2
    go_ret
    exact ⟨congrArg (fun s => Ending.returned (.string s)) (bytes_app [36] [q]), hB2⟩
  · have h0 := okCe_neg hc hv
    dsimp only at h0
    subst h0
    have HR : Hid (txt (.mk 0 name ks) = name.data.toList ++ txL 40 ks ++ (if ks.isEmpty then [] else [41])) := txt_fn _ _ _ hv
    obtain ⟨hlc, hcap⟩ := hK.len
    replace hlc : lc = ks.length := hlc
    subst hlc
    have HK : Hid (TKids d w S (.slice ac ks.length cc) ks) := hK
    have HS : Hid (∀ g, S g → g < w.heap.size) := hS
    have HOK : Hid (∀ c ∈ fl (.mk 0 name ks), okCe c = true) := hok
    have HLEN : Hid (∀ i, (name.data.toList ++ txL 40 (ks.take i)).length ≤ 300) := name_txL_len hok h30
    have H30 : Hid ((fl (.mk 0 name ks)).length ≤ 30) := h30
    have hcap' : cc ≤ 9223372036854775807 := by unfold maxLen at hcap; omega
    obtain ⟨RR, hRR⟩ : ∃ RR, Hid (RR = txt (.mk 0 name ks)) := ⟨_, rfl⟩
    rw [← hRR.out] at HR ⊢
    clear hK hS hok hc hv hRR h30
    show Calls Tryd.prog 54 #[.agg #[.int .i64 0, .string name, .slice ac ks.length cc]] w _
    go_enter Tryd.func54, Tryd.ntmps54
    go_wp2
    go_loopw [3, 18] (fun vs vi wr => ∃ (i : Nat) (L : List UInt8), i ≤ ks.length ∧ vi = .int .i64 (i : Int) ∧ vs = .string ⟨L.toArray⟩ ∧ L.length ≤ 300 ∧ Hid (L = name.data.toList ++ txL 40 (ks.take i)) ∧ Below (w.heap.size + 1) (w.alloc (.cells #[.int .i64 0, .string name, .slice ac ks.length cc] 66)) wr)
      (fun _ vi _ => ks.length - (intOf vi).toNat)
    case atStart => exact ⟨0, name.data.toList, by omega, rfl, by rw [bytes_self], by have h9 := HLEN.out 0; rw [List.length_append] at h9; omega, by show _ = _; simp [txL], Below.refl _ _⟩
    case round =>
      obtain ⟨i, L, hi, rfl, rfl, hLb, hL, hbw⟩ := hrel
      have hB0 : Below w.heap.size w wr := (hB1 _).trans (hbw.mono (by omega))
      have hsz : w.heap.size < wr.heap.size := by have := hbw.size; simp at this; omega
      have x2 : wr.cell? ⟨w.heap.size, 2, none⟩ = some (.slice ac ks.length cc) := (hbw.cell (p := ⟨w.heap.size, 2, none⟩) (by simp)).trans (by simp)
      by_cases hlt : i < ks.length
      · have hlt' : (i : Int) < (ks.length : Int) := by omega
        obtain ⟨t, ht⟩ : ∃ t, ks[i]? = some t := ⟨_, List.getElem?_eq_getElem hlt⟩
        have hkt := fl_kid (x := .mk 0 name ks) (i := i) ht
        obtain ⟨d', g, o, at_, lt, ct, hd', hao, hSg, hnc, hnd, hkids⟩ := HK.out.kid i t ht
        subst hao
        obtain ⟨n0, n1, n2⟩ := hnd.kept (hB0.block g (HS.out g hSg))
        have hg : g < wr.heap.size := by have := HS.out g hSg; omega
        have HC : Hid (∀ (W : World), Below wr.heap.size wr W → Calls Tryd.prog 54 #[.agg #[.int .i64 t.v, .string t.name, .slice at_ lt ct]] W fun e w' => e = .returned (.string ⟨(txt t).toArray⟩) ∧ Below W.heap.size W w') := fun W hW => by
          have hBW := hB0.trans (hW.mono hB0.size)
          have hs := hBW.size
          exact ih.out d' hd' t at_ lt ct W S (hkids.kept (fun g hg => hBW.block g (HS.out g hg)) (fun g hg => hg)) (fun g hg => by have := HS.out g hg; omega) (fun c hc => HOK.out c (hkt c hc)) (by have h9 := fl_kid_len (x := .mk 0 name ks) (i := i) ht; have := H30.out; omega)
        have hstep : Hid (name.data.toList ++ txL 40 (ks.take (i + 1)) = L ++ (if i = 0 then 40 else 44) :: txt t) := by
          show _ = _
          rw [List.take_add_one, ht, Option.toList_some, txL_snoc, hL.out, List.append_assoc]
          congr 3
          cases i with
          | zero => rfl
          | succ i =>
            have : (List.take (i + 1) ks).isEmpty = false := by
              cases ks with
              | nil => simp at hlt
              | cons _ _ => rfl
            rw [this]
            simp
        have hnl := HLEN.out (i + 1)
        rw [hstep.out, List.length_append, List.length_cons] at hnl
        have htl : (txt t).length ≤ 300 := by omega
        have HNL : Hid (L.length + ((txt t).length + 1) ≤ 300) := hnl
        clear hnl
        generalize txt t = tt at HC hstep htl HNL
        clear hnd hkids hkt ht hL
        by_cases hi0 : i = 0
        · subst hi0
          simp only [Nat.zero_mul, Nat.add_zero] at n0 n1 n2
          go_wp2_with fail
          refine (HC.out _ ((Below.refl _ wr).alloc (Nat.le_refl _) _)).mono ?_
          rintro e w2 ⟨rfl, hb2⟩
          have hbw2 := (hbw.alloc (by omega) (.cells #[.int .i64 t.v, .string t.name, .slice at_ lt ct] 66)).trans (hb2.mono (by simp; omega))
          clear hb2 n0 n1 n2 hbw
          go_wp2
          go_roundw
          case rel =>
            refine ⟨1, L ++ 40 :: tt, by omega, by go_num, ?_, by have := HNL.out; simp; omega, ?_, hbw2⟩
            · rw [show L ++ 40 :: tt = (L ++ [40]) ++ tt by simp, ← bytes_app, ← bytes_app]
            · exact hstep.out.symm
          case measure => simp [intOf]; omega
        · have hi0' : ((i : Int) == 0) = false := by simp; omega
          have hi0n : (i == 0) = false := by simpa using hi0
          go_wp2_with fail
          refine (HC.out _ ((Below.refl _ wr).alloc (Nat.le_refl _) _)).mono ?_
          rintro e w2 ⟨rfl, hb2⟩
          have hbw2 := (hbw.alloc (by omega) (.cells #[.int .i64 t.v, .string t.name, .slice at_ lt ct] 66)).trans (hb2.mono (by simp; omega))
          clear hb2 n0 n1 n2 hbw
          go_wp2
          go_roundw
          case rel =>
            refine ⟨i + 1, L ++ 44 :: tt, by omega, by go_num, ?_, by have := HNL.out; simp; omega, ?_, hbw2⟩
            · rw [show L ++ 44 :: tt = (L ++ [44]) ++ tt by simp, ← bytes_app, ← bytes_app]
            · have h9 := hstep.out
              rw [if_neg hi0] at h9
              exact h9.symm
          case measure => simp [intOf]; omega
      · have hke : i = ks.length := by omega
        subst hke
        have hge : ¬ ((ks.length : Int) < (ks.length : Int)) := by omega
        rw [List.take_length] at hL
        by_cases hk0 : ks.length = 0
        · have hks : ks = [] := List.length_eq_zero_iff.1 hk0
          have hfin : Hid (RR = L) := by show _ = _; rw [HR.out, hL.out, hks]; simp
          rw [hk0] at x2
          have hk0' : ¬ ((0 : Int) < (ks.length : Int)) := by omega
          rw [hk0]
          clear hks hL HR
          go_wp2
          go_ret
          exact ⟨by rw [hfin.out]; rfl, hB0⟩
        · have hk0' : (0 : Int) < (ks.length : Int) := by omega
          have hk0n : 0 < ks.length := by omega
          have hfin : Hid (RR = L ++ [41]) := by
            show _ = _
            rw [HR.out, hL.out]
            cases ks with
            | nil => simp at hk0
            | cons _ _ => rfl
          clear hL HR
          go_wp2
          go_ret
          exact ⟨by rw [hfin.out]; exact congrArg (fun s => Ending.returned (.string s)) (bytes_app L [41]), hB0⟩

theorem textC_all : ∀ d, TextC d := by
  intro d
  induction d with
  | zero => exact textC_step 0 (fun d' h => by omega)
  | succ d ih => exact textC_step (d + 1) (fun d' h => by obtain rfl : d = d' := by omega
                                                          exact ih)

/-- what TermText tells -/
def xof (T : List Ce) : List UInt8 × Bool :=
  match tre T with
  | some x => if gt T then (txt x, true) else ([], false)
  | none => ([], false)

theorem xof_no {T : List Ce} (h : gt T = false) : xof T = ([], false) := by unfold xof; rw [h]; split <;> rfl
theorem xof_yes {T : List Ce} {x : TT} (h : gt T = true) (hx : tre T = some x) : xof T = (txt x, true) := by unfold xof; rw [hx, h]; rfl

set_option maxRecDepth 100000 in
set_option maxHeartbeats 4000000 in
theorem specText (T : List Ce) (v : Value) (w : World) (hT : CesAt w w.heap.size v T) :
    Calls Tryd.prog 19 #[.agg #[v]] w fun e w' => e = .returned (.tuple #[.string ⟨(xof T).1.toArray⟩, .bool (xof T).2]) ∧ Below w.heap.size w w' := by
  have HT : Hid (CesAt w w.heap.size v T) := hT
  obtain ⟨ao, cap, rfl, _⟩ := hT
  have hB1 : ∀ o, Below w.heap.size w (w.alloc o) := fun o => (Below.refl _ w).alloc (Nat.le_refl _) o
  obtain ⟨R, hR⟩ : ∃ R, Hid (R = xof T) := ⟨_, rfl⟩
  rw [← hR.out]
  by_cases hg : gt T = true
  · go_enter Tryd.func19, Tryd.ntmps19
    go_wp2_with fail
    refine (l6Tree_any T _ _ (HT.out.below (hB1 _))).mono ?_
    intro e w2 h2
    obtain ⟨xv, xn, ac, lc, cc, rfl, hb2, hx⟩ := h2.form
    obtain ⟨x, hx1, hx2, hx3, hx4⟩ := hx.out hg
    have hRR : Hid (R = (txt x, true)) := hR.out.trans (xof_yes hg hx1)
    have hok := rd_ok 31 _ _ _ (tre_some hx1)
    have HX1 : Hid (tre T = some x) := hx1
    clear h2 hx hx1
    rw [hg]
    have hB2 : Below w.heap.size w w2 := (hB1 _).trans (hb2.mono (by simp))
    subst hx2 hx3
    obtain ⟨W3, hW3⟩ : ∃ W, W = w2.alloc (.cells #[.int .i64 x.v, .string x.name, .slice ac lc cc] 66) := ⟨_, rfl⟩
    have hb3 : Below w2.heap.size w2 W3 := by rw [hW3]; exact (Below.refl _ w2).alloc (Nat.le_refl _) _
    have hB3 : Below w.heap.size w W3 := hB2.trans (hb3.mono hB2.size)
    have y0 : W3.cell? ⟨w2.heap.size, 0, none⟩ = some (.int .i64 x.v) := by rw [hW3]; go_simp
    have y1 : W3.cell? ⟨w2.heap.size, 1, none⟩ = some (.string x.name) := by rw [hW3]; go_simp
    have y2 : W3.cell? ⟨w2.heap.size, 2, none⟩ = some (.slice ac lc cc) := by rw [hW3]; go_simp
    have HC : Hid (Calls Tryd.prog 54 #[.agg #[.int .i64 x.v, .string x.name, .slice ac lc cc]] W3 fun e w' => e = .returned (.string ⟨(txt x).toArray⟩) ∧ Below W3.heap.size W3 w') :=
      textC_all 31 x ac lc cc W3 _ (hx4.kept (fun g hg => hb3.block g hg.2) (fun g hg => hg)) (fun g hg => by have := hb3.size; have := hg.2; omega) hok (by rw [← tre_fl HX1.out]; exact (gt_tre hg).1)
    clear hx4 hok
    generalize txt x = tt at HC hRR
    go_upto_region 4 with fail
    rw [← hW3]
    clear hW3
    go_wp2_with fail
    refine HC.out.mono ?_
    rintro e w4 ⟨rfl, hb4⟩
    have hB4 : Below w.heap.size w w4 := hB3.trans (hb4.mono hB3.size)
    go_wp2
    go_ret2
    rw [hRR.out]
    exact ⟨rfl, hB4⟩
  · have hg' : gt T = false := by simpa using hg
    have hRR : Hid (R = ([], false)) := hR.out.trans (xof_no hg')
    clear hg
    go_enter Tryd.func19, Tryd.ntmps19
    go_wp2_with fail
    refine (l6Tree_any T _ _ (HT.out.below (hB1 _))).mono ?_
    intro e w2 h2
    obtain ⟨xv, xn, ac, lc, cc, rfl, hb2, hx⟩ := h2.form
    clear h2 hx
    rw [hg']
    have hB2 : Below w.heap.size w w2 := (hB1 _).trans (hb2.mono (by simp))
    go_wp2
    go_ret2
    rw [hRR.out]
    exact ⟨rfl, hB2.alloc hB2.size _⟩

end Go.Proofs.YtlmhjkcollohnaaDoor
