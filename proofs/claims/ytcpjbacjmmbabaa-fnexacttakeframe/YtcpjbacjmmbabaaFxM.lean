/- Good readers: the model's and the program's. -/
import Derived.Test.YtcpjbacjmmbabaaFxL
namespace Go.Proofs.Ytcpjbacjmmbabaa
open Go.RowKit Plain Tpc Frm
attribute [local go_sem ↓] Go.wp_at_zero Go.wp_at_succ

/-- whether it may still become a frame -/
def mor (l : List UInt8) : Bool := match nx l with | .more => true | _ => false
theorem mor_iff (l : List UInt8) : mor l = true ↔ nx l = .more := by
  unfold mor
  cases h : nx l with
  | more => simp
  | bad => simp
  | one t r => simp

theorem mor_len (l : List UInt8) : decide ((unR l).length = l.length) = mor l := by
  rw [Bool.eq_iff_iff, decide_eq_true_eq, mor_iff]
  constructor
  · intro h
    have hu := (unf_short (l.length + 1) l (by omega)).2 h
    cases hx : nx l with
    | more => rfl
    | bad =>
      rw [unf_bad hx] at hu
      simp at hu
    | one t r =>
      rw [unf_one hx] at hu
      simp at hu
  · intro h
    rw [(unT_more h).2.1]

theorem mor_un (l : List UInt8) : mor l = (decide ((unT l).length = 0) && (decide (unR l = l) && !unB l)) := by
  rw [Bool.eq_iff_iff, mor_iff]
  constructor
  · intro h
    obtain ⟨h1, h2, h3⟩ := unT_more h
    rw [h1, h2, h3]
    simp
  · intro h
    simp only [Bool.and_eq_true, decide_eq_true_eq, Bool.not_eq_true'] at h
    cases hx : nx l with
    | more => rfl
    | bad =>
      rw [(unT_bad hx).2.2] at h
      simp at h
    | one t r =>
      rw [(unT_one hx).1] at h
      simp at h

theorem mor_short {l : List UInt8} (h : mor l = true) : l.length ≤ 62 := more_short ((mor_iff l).1 h)
theorem mor_nil : mor [] = true := rfl

theorem tksT_snoc : ∀ (l : List UInt8) (T : List ByteArray) (r : List UInt8) (bad : Bool) (x : UInt8), tksT T r bad (l ++ [x]) = tkT (tksT T r bad l).1 (tksT T r bad l).2.1 (tksT T r bad l).2.2 x
  | [], _, _, _, _ => rfl
  | y :: l, T, r, bad, x => by
    show tksT _ _ _ (l ++ [x]) = _
    rw [tksT_snoc l]
    rfl

theorem tksT_sizes : ∀ (l : List UInt8) (T : List ByteArray) (r : List UInt8) (bad : Bool), (tksT T r bad l).2.1.length ≤ r.length + l.length ∧ (tksT T r bad l).1.length ≤ T.length + l.length
  | [], _, _, _ => ⟨Nat.le_refl _, Nat.le_refl _⟩
  | x :: l, T, r, bad => by
    obtain ⟨h1, h2⟩ := tkT_sizes T r bad x
    obtain ⟨h3, h4⟩ := tksT_sizes l (tkT T r bad x).1 (tkT T r bad x).2.1 (tkT T r bad x).2.2
    rw [tksT, List.length_cons]
    exact ⟨by omega, by omega⟩

set_option maxRecDepth 100000 in
set_option maxHeartbeats 4000000 in
theorem isRest_any (s : ByteArray) (w : World) (hs : s.size ≤ maxLen) :
    Calls Try.prog 53 #[.string s] w fun e w' => e = .returned (.bool (mor (ul s))) ∧ Below w.heap.size w w' := by
  unfold maxLen at hs
  by_cases h : s.size ≤ 62
  · have hU0 := Um.fresh w 62
    have hall := tksT_all [] (ul s) rfl
    rw [List.nil_append] at hall
    have HF : Hid (mor (ul s) = decide ((tksT [] [] false (ul s)).2.1.length = s.size)) := by
      show _ = _
      rw [hall, ← mor_len, ul_len]
    obtain ⟨M, hM⟩ : ∃ M, M = mor (ul s) := ⟨_, rfl⟩
    rw [← hM]
    rw [← hM] at HF
    clear hM hall
    have h' : ¬ ((62 : Int) < (s.size : Int)) := by omega
    have HU0 : Hid (type_of% hU0) := hU0
    clear hU0
    go_enter Try.func53, Try.ntmps53
    go_wp2_with fail
    go_loopw [10] (fun vi wr => ∃ (i : Nat) (vt vr : Value) (T : List ByteArray) (r : List UInt8) (bad : Bool), i ≤ s.size ∧ vi = .int .i64 (i : Int) ∧ Hid (Um wr w.heap.size w.heap.size vt vr T r bad) ∧ Hid (tksT [] [] false ((ul s).take i) = (T, r, bad)) ∧ Below w.heap.size w wr)
      (fun vi _ => s.size - (intOf vi).toNat)
    case atStart => exact ⟨0, _, _, [], [], false, by omega, rfl, HU0.out, rfl, (Below.refl _ w).alloc (Nat.le_refl _) _⟩
    case round =>
      obtain ⟨i, vt, vr, T, r, bad, hi, rfl, hU, ht, hbw⟩ := hrel
      clear HU0
      have hsz := tksT_sizes ((ul s).take i) [] [] false
      rw [ht.out] at hsz
      have hlt' : ((ul s).take i).length ≤ 62 := by rw [List.length_take, ul_len]; omega
      have hrl : r.length ≤ 62 := by have := hsz.1; simp at this; omega
      have hTl : T.length ≤ 62 := by have := hsz.2; simp at this; omega
      clear hsz hlt'
      have hs9 := hbw.size
      by_cases hlt : i < s.size
      · have hltI : (i : Int) < (s.size : Int) := by omega
        have ixs := idxL s i hlt
        rw [bt_ul s i] at ixs
        have htk : (ul s).take (i + 1) = (ul s).take i ++ [(ul s).getD i 0] := by
          rw [List.take_add_one, List.getD_eq_getElem?_getD, ul_at s i hlt]
          rfl
        generalize (ul s).getD i 0 = x at ixs htk
        have CT := take_any wr w.heap.size w.heap.size vt vr T r bad x hU.out hs9 (by omega) (by omega)
        have HT2 : Hid (tksT [] [] false ((ul s).take (i + 1)) = tkT T r bad x) := by
          show _ = _
          rw [htk, tksT_snoc, ht.out]
        have hlr := hU.out.ownT
        have HX : Hid (∀ w' vt' vr', Pu wr w' w.heap.size vt vr vt' vr' → Below w.heap.size w w') := fun w' vt' vr' hP => hbw.trans (hP.below hs9 (Nat.le_refl _) (fun g hg => (World.ownsRow.lt hlr g hg).1) (fun g hg => (hU.out.ownR.lt g hg).1))
        clear htk ht hU hlr hrl hTl
        generalize tkT T r bad x = q at CT HT2
        obtain ⟨T2, r2, b2⟩ := q
        dsimp only at CT
        go_wp2_with fail
        go_at_call 62
        refine CT.mono ?_
        rintro e w2 ⟨rfl, vt2, vr2, hU2, hP2⟩
        have hb2 := HX.out _ _ _ hP2
        have HU2 : Hid (type_of% hU2) := hU2
        clear hU2 hP2 CT HX
        go_wp2_with fail
        go_roundw
        case rel => exact ⟨i + 1, _, _, _, _, _, by omega, by go_num, HU2, HT2, hb2⟩
        case measure => simp [intOf]; omega
      · have hke : i = s.size := by omega
        have hge : ¬ ((i : Int) < (s.size : Int)) := by omega
        have HF2 : Hid (M = decide ((r.length : Int) = (s.size : Int))) := by
          have h1 := HF.out
          rw [hke, List.take_of_length_le (Nat.le_of_eq (ul_len s))] at ht
          rw [ht.out] at h1
          show _ = _
          rw [h1, decide_eq_decide]
          dsimp only
          omega
        obtain ⟨ar, cr, rfl, _, _⟩ := hU.out.ownR.form
        have c1 := hU.out.c1
        have hbl := hU.out.low
        clear hke ht hU HF
        go_wp2_with fail
        go_ret
        exact ⟨by rw [HF2.out]; rfl, hbw⟩
  · have hm : mor (ul s) = false := by
      rw [Bool.eq_false_iff]
      intro hT
      have := mor_short hT
      rw [ul_len] at this
      omega
    rw [hm]
    have h' : ((62 : Int) < (s.size : Int)) := by omega
    clear hm
    go_enter Try.func53, Try.ntmps53
    go_wp2_with fail
    go_ret
    exact ⟨rfl, Below.refl _ _⟩

/-- a reader -/
structure Rdr where
  rest : ByteArray
  got : List ByteArray
  bad : Bool

def Rdr.val (r : Rdr) (v : Value) : Value := .agg #[.string r.rest, v, .bool r.bad]
/-- whether it is good -/
def gdr (r : Rdr) : Bool := decide (r.got.length ≤ 40) && hv 0 60 r.got && (if r.bad then decide (r.rest.size = 0) else mor (ul r.rest))

theorem gdr_parts {r : Rdr} (h : gdr r = true) : r.got.length ≤ 40 ∧ (∀ i, i < r.got.length → (lq r.got i).size ≤ 60) ∧ mor (ul r.rest) = true ∧ (r.bad = true → r.rest.size = 0) := by
  unfold gdr at h
  rw [Bool.and_eq_true, Bool.and_eq_true, decide_eq_true_eq] at h
  obtain ⟨⟨h1, h2⟩, h3⟩ := h
  refine ⟨h1, fun i hi => ?_, ?_, fun hb => ?_⟩
  · unfold hv at h2
    rw [List.all_eq_true] at h2
    have := h2 _ (lq_mem hi)
    simp at this
    omega
  · cases hb : r.bad with
    | true =>
      rw [hb, if_pos rfl, decide_eq_true_eq] at h3
      rw [show ul r.rest = [] from List.length_eq_zero_iff.1 (by rw [ul_len]; exact h3)]
      rfl
    | false =>
      rw [hb] at h3
      simpa using h3
  · rw [hb, if_pos rfl, decide_eq_true_eq] at h3
    exact h3

set_option maxRecDepth 100000 in
set_option maxHeartbeats 4000000 in
theorem implGood (r : Rdr) (v : Value) (w : World) (hT : StAt w w.heap.size v r.got) (hN : ∀ i, i < r.got.length → (lq r.got i).size ≤ 9223372036854775807) (hR : r.rest.size ≤ maxLen) :
    Calls Try.prog 30 #[r.val v] w fun e w' => e = .returned (.bool (gdr r)) ∧ Below w.heap.size w w' := by
  obtain ⟨q, L, bad⟩ := r
  unfold Rdr.val gdr
  dsimp only at hT hN hR ⊢
  have hTT := hT
  obtain ⟨ao, cap, rfl, hlc, hcm, _⟩ := hT
  have hcm' : cap ≤ 9223372036854775807 := by unfold maxLen at hcm; omega
  have hBa : ∀ o, Below w.heap.size w (w.alloc o) := fun o => (Below.refl _ w).alloc (Nat.le_refl _) o
  have CH : Hid (∀ o, Calls Try.prog 52 #[.int .i64 0, .int .i64 60, .slice ao L.length cap] (w.alloc o) fun e w' => e = .returned (.bool (hv 0 60 L)) ∧ w' = w.alloc o) := fun o => haveBytes_any 0 60 L _ _ (hTT.below (hBa o)) hN (by omega)
  have CI : Hid (∀ o, Calls Try.prog 53 #[.string q] (w.alloc o) fun e w' => e = .returned (.bool (mor (ul q))) ∧ Below (w.alloc o).heap.size (w.alloc o) w') := fun o => isRest_any q _ hR
  unfold maxLen at hR
  clear hTT hN
  generalize hv 0 60 L = hb at CH ⊢
  generalize mor (ul q) = mq at CI ⊢
  by_cases h40 : L.length ≤ 40
  · have h40' : ¬ ((40 : Int) < (L.length : Int)) := by omega
    rw [decide_eq_true h40, Bool.true_and]
    cases hb with
    | false =>
      rw [Bool.false_and]
      go_enter Try.func30, Try.ntmps30
      go_wp2_with fail
      go_at_call 52
      refine (CH.out _).mono ?_
      rintro e w2 ⟨rfl, rfl⟩
      go_wp2_with fail
      all_goals
        go_ret
        exact ⟨rfl, hBa _⟩
    | true =>
      rw [Bool.true_and]
      cases bad with
      | true =>
        rw [if_pos rfl]
        by_cases h0 : q.size = 0
        · have he : q.toList.isEmpty = true := by rw [isEmptyF h0, Lib.toList_data]; rfl
          rw [decide_eq_true h0]
          go_enter Try.func30, Try.ntmps30
          go_wp2_with fail
          go_at_call 52
          refine (CH.out _).mono ?_
          rintro e w2 ⟨rfl, rfl⟩
          go_wp2_with fail
          go_ret
          exact ⟨rfl, hBa _⟩
        · have he : q.toList.isEmpty = false := notEmptyF h0
          rw [decide_eq_false h0]
          go_enter Try.func30, Try.ntmps30
          go_wp2_with fail
          go_at_call 52
          refine (CH.out _).mono ?_
          rintro e w2 ⟨rfl, rfl⟩
          go_wp2_with fail
          go_ret
          exact ⟨rfl, hBa _⟩
      | false =>
        rw [if_neg (by simp)]
        go_enter Try.func30, Try.ntmps30
        go_wp2_with fail
        go_at_call 52
        refine (CH.out _).mono ?_
        rintro e w2 ⟨rfl, rfl⟩
        go_wp2_with fail
        go_at_call 53
        refine (CI.out _).mono ?_
        rintro e w3 ⟨rfl, hb3⟩
        have hB3 : Below w.heap.size w w3 := (hBa _).trans (hb3.mono (by simp))
        clear hb3
        go_wp2_with fail
        go_ret
        exact ⟨rfl, hB3⟩
  · have h40' : ((40 : Int) < (L.length : Int)) := by omega
    rw [decide_eq_false h40, Bool.false_and, Bool.false_and]
    go_enter Try.func30, Try.ntmps30
    go_wp2_with fail
    go_ret
    exact ⟨rfl, hBa _⟩

end Go.Proofs.Ytcpjbacjmmbabaa
