/- What is turned tells the other; both tell what each tells. The law's own comparison of filters, where both sides are the same. From a slice of bytes that came in to what the draws ask of it. -/
import Derived.Test.YtpopjapcgcnnfabDoorMtA
import Derived.Test.YtpopjapcgcnnfabDoorWnB
import Derived.Test.YtpopjapcgcnnfabDoorWfH
import Derived.Deep.QuietTactic
import Derived.BigQuiet
import Derived.Deep.DeepCutAuto
import Derived.Test.YtpopjapcgcnnfabDoorGn
import Derived.OpenShut
namespace Go.Proofs.YtpopjapcgcnnfabDoor.Wan
open Plain Sch

theorem wa_left {T R : List Wa} {i : Nat} (h : i < T.length) : wa (T ++ R) i = wa T i := by
  unfold wa; rw [List.getD, List.getD, List.getElem?_append_left h]
theorem wa_right {T R : List Wa} {i : Nat} : wa (T ++ R) (T.length + i) = wa R i := by
  unfold wa; rw [List.getD, List.getD, List.getElem?_append_right (by omega)]
  congr 2
  omega
theorem wa_map {U : List Wa} {n i : Nat} (h : i < U.length) : wa (U.map (sh n)) i = sh n (wa U i) := by
  unfold wa; rw [List.getD, List.getD, List.getElem?_map, List.getElem?_eq_getElem h]; rfl

theorem use_app (A B : List Wa) (j : Nat) : use (A ++ B) j = use A j + use B j := by
  unfold use; rw [List.flatMap_append, List.count_append]

theorem own_mem {T : List Wa} (hg : gf T = true) {x : Int} (hx : x ∈ T.flatMap own) : 0 ≤ x ∧ x < (T.length : Int) - 1 := by
  rw [List.mem_flatMap] at hx
  obtain ⟨w, hw, hx⟩ := hx
  obtain ⟨i, hi, rfl⟩ := List.getElem_of_mem hw
  have e : wa T i = T[i] := by unfold wa; rw [List.getD, List.getElem?_eq_getElem hi]; rfl
  have := gf_own hg i hi x (by rw [e]; exact hx)
  omega

theorem use_big {T : List Wa} (hg : gf T = true) {j : Nat} (h : T.length - 1 ≤ j) : use T j = 0 := by
  unfold use
  rw [List.count_eq_zero]
  intro hx
  have := own_mem hg hx
  have := gf_len hg
  omega

theorem gf_use {T : List Wa} (hg : gf T = true) {j : Nat} (h : j < T.length - 1) : use T j = 1 := by
  simp only [gf, Bool.and_eq_true, decide_eq_true_eq] at hg
  exact hg.2 j h

theorem gf_mk {T : List Wa} (h1 : 1 ≤ T.length) (h2 : T.length ≤ 20) (h3 : ∀ i, i < T.length → okW (wa T i) i = true) (h4 : ∀ j, j < T.length - 1 → use T j = 1) : gf T = true := by
  simp only [gf, Bool.and_eq_true, decide_eq_true_eq]
  exact ⟨⟨⟨h1, h2⟩, h3⟩, h4⟩

theorem sh_kind (n : Nat) (w : Wa) : (sh n w).kind = w.kind := by
  unfold sh
  by_cases h1 : isBin w.kind = true
  · rw [if_pos h1]
  · rw [if_neg h1]
    by_cases h2 : isNot w.kind = true
    · rw [if_pos h2]
    · rw [if_neg h2]
theorem sh_bin {n : Nat} {w : Wa} (h : isBin w.kind = true) : sh n w = ⟨w.kind, w.no, w.num, w.text, w.a + n, w.b + n⟩ := by unfold sh; rw [if_pos h]
theorem sh_not {n : Nat} {w : Wa} (h : isNot w.kind = true) : sh n w = ⟨w.kind, w.no, w.num, w.text, w.a + n, w.b⟩ := by
  unfold sh; rw [if_neg (by intro e; have := bin_bounds e; have := not_bounds h; omega), if_pos h]
theorem sh_ask {n : Nat} {w : Wa} (h : isAsk w.kind = true) : sh n w = w := by
  have := ask_bounds h
  unfold sh; rw [if_neg (by intro e; have := bin_bounds e; omega), if_neg (by intro e; have := not_bounds e; omega)]

theorem own_sh (n : Nat) (w : Wa) : own (sh n w) = (own w).map (· + (n : Int)) := by
  unfold own
  rw [sh_kind]
  by_cases h1 : isBin w.kind = true
  · rw [if_pos h1, if_pos h1, sh_bin h1]; rfl
  · rw [if_neg h1, if_neg h1]
    by_cases h2 : isNot w.kind = true
    · rw [if_pos h2, if_pos h2, sh_not h2]; rfl
    · rw [if_neg h2, if_neg h2]; rfl

theorem flat_sh (n : Nat) (U : List Wa) : (U.map (sh n)).flatMap own = (U.flatMap own).map (· + (n : Int)) := by
  induction U with
  | nil => rfl
  | cons x U ih => rw [List.map_cons, List.flatMap_cons, List.flatMap_cons, List.map_append, ih, own_sh]

theorem use_sh (n j : Nat) (U : List Wa) : use (U.map (sh n)) (n + j) = use U j := by
  unfold use
  rw [flat_sh]
  have : ((n + j : Nat) : Int) = (fun x : Int => x + (n : Int)) (j : Int) := by simp; omega
  rw [this]
  induction U.flatMap own with
  | nil => rfl
  | cons a l ih =>
    rw [List.map_cons, List.count_cons, List.count_cons, ih]
    congr 1
    by_cases h : a = (j : Int)
    · rw [h]; simp
    · have h1 : (a == (j : Int)) = false := by simpa using h
      have h2 : (a + (n : Int) == (j : Int) + (n : Int)) = false := by simp; omega
      rw [h1]
      simp only [h2]

theorem use_sh_low {n j : Nat} {U : List Wa} (hg : gf U = true) (h : j < n) : use (U.map (sh n)) j = 0 := by
  unfold use
  rw [flat_sh, List.count_eq_zero]
  intro hx
  rw [List.mem_map] at hx
  obtain ⟨x, hx, he⟩ := hx
  have := own_mem hg hx
  omega

theorem okW_sh {w : Wa} {i n : Nat} (h : okW w i = true) : okW (sh n w) (n + i) = true := by
  rcases kind_cases h with k | k | k
  · rw [sh_ask k]
    unfold okW at h ⊢
    rw [if_pos k] at h ⊢
    exact h
  · have hk := bin_bounds k
    have hna : ¬ isAsk w.kind = true := by intro e; have := ask_bounds e; omega
    rw [sh_bin k]
    unfold okW at h ⊢
    rw [if_neg hna, if_pos k] at h
    dsimp only
    rw [if_neg hna, if_pos k]
    simp only [okBin, Bool.and_eq_true, decide_eq_true_eq] at h ⊢
    obtain ⟨⟨⟨h1, h2⟩, h3⟩, h4⟩ := h
    refine ⟨⟨⟨?_, by omega⟩, by omega⟩, by omega⟩
    rw [h1]
  · have hk := not_bounds k
    have hna : ¬ isAsk w.kind = true := by intro e; have := ask_bounds e; omega
    have hnb : ¬ isBin w.kind = true := by intro e; have := bin_bounds e; omega
    rw [sh_not k]
    unfold okW at h ⊢
    rw [if_neg hna, if_neg hnb, if_pos k] at h
    dsimp only
    rw [if_neg hna, if_neg hnb, if_pos k]
    simp only [okNot, Bool.and_eq_true, decide_eq_true_eq] at h ⊢
    obtain ⟨⟨h1, h2⟩, h3⟩ := h
    refine ⟨⟨?_, by omega⟩, by omega⟩
    rw [h1]

theorem use_one (x : Wa) (j : Nat) : use [x] j = (own x).count (j : Int) := by simp [use]

theorem gf_not {T : List Wa} (hg : gf T = true) (hl : T.length < 20) : gf (T ++ [⟨8, 0, 0, ⟨#[]⟩, (T.length : Int) - 1, 0⟩]) = true := by
  have h1 := gf_len hg
  apply gf_mk
  · simp
  · simp; omega
  · intro i hi
    simp at hi
    by_cases h : i < T.length
    · rw [wa_left h]; exact gf_ok hg i h
    · have e : i = T.length + 0 := by omega
      rw [e, wa_right]
      show okW ⟨8, 0, 0, ⟨#[]⟩, (T.length : Int) - 1, 0⟩ _ = true
      unfold okW
      rw [if_neg (show ¬ isAsk 8 = true by decide), if_neg (show ¬ isBin 8 = true by decide), if_pos (show isNot 8 = true by decide)]
      simp only [okNot, Bool.and_eq_true, decide_eq_true_eq]
      exact ⟨⟨trivial, by omega⟩, by omega⟩
  · intro j hj
    simp at hj
    rw [use_app, use_one]
    have ho : own (⟨8, 0, 0, ⟨#[]⟩, (T.length : Int) - 1, 0⟩ : Wa) = [(T.length : Int) - 1] := rfl
    rw [ho]
    by_cases h : j < T.length - 1
    · rw [gf_use hg h, List.count_eq_zero.2 (by simp; omega)]
    · have e : (j : Int) = (T.length : Int) - 1 := by omega
      rw [use_big hg (by omega), e]
      simp

theorem gf_both {T U : List Wa} (hg : gf T = true) (hu : gf U = true) (hl : T.length + U.length < 20) :
    gf (T ++ U.map (sh T.length) ++ [⟨6, 0, 0, ⟨#[]⟩, (T.length : Int) - 1, (T.length : Int) + U.length - 1⟩]) = true := by
  have h1 := gf_len hg
  have h2 := gf_len hu
  have hlen : (T ++ U.map (sh T.length)).length = T.length + U.length := by simp
  apply gf_mk
  · simp; omega
  · simp; omega
  · intro i hi
    simp at hi
    by_cases h : i < T.length + U.length
    · rw [wa_left (by omega)]
      by_cases h' : i < T.length
      · rw [wa_left h']; exact gf_ok hg i h'
      · obtain ⟨k, rfl⟩ : ∃ k, i = T.length + k := ⟨i - T.length, by omega⟩
        rw [wa_right, wa_map (by omega)]
        exact okW_sh (gf_ok hu k (by omega))
    · have e : i = (T ++ U.map (sh T.length)).length + 0 := by omega
      rw [e, wa_right]
      show okW ⟨6, 0, 0, ⟨#[]⟩, (T.length : Int) - 1, (T.length : Int) + U.length - 1⟩ _ = true
      unfold okW
      rw [if_neg (show ¬ isAsk 6 = true by decide), if_pos (show isBin 6 = true by decide)]
      simp only [okBin, Bool.and_eq_true, decide_eq_true_eq]
      exact ⟨⟨⟨trivial, by omega⟩, by omega⟩, by omega⟩
  · intro j hj
    simp at hj
    rw [use_app, use_app, use_one]
    have ho : own (⟨6, 0, 0, ⟨#[]⟩, (T.length : Int) - 1, (T.length : Int) + U.length - 1⟩ : Wa) = [(T.length : Int) - 1, (T.length : Int) + U.length - 1] := rfl
    rw [ho]
    by_cases h' : j < T.length
    · rw [use_sh_low hu h']
      by_cases h : j < T.length - 1
      · rw [gf_use hg h, List.count_eq_zero.2 (by simp; omega)]
      · have e : (j : Int) = (T.length : Int) - 1 := by omega
        rw [use_big hg (by omega), e]
        rw [List.count_cons_self, List.count_eq_zero.2 (by simp; omega)]
    · obtain ⟨k, rfl⟩ : ∃ k, j = T.length + k := ⟨j - T.length, by omega⟩
      rw [use_big hg (by omega), use_sh]
      by_cases h : k < U.length - 1
      · rw [gf_use hu h, List.count_eq_zero.2 (by simp; omega)]
      · rw [use_big hu (by omega)]
        have e : ((T.length + k : Nat) : Int) = (T.length : Int) + U.length - 1 := by omega
        rw [e, List.count_cons_of_ne (by omega)]
        simp

theorem tl_left {l : List Fld} {T R : List Wa} {k : Nat} (h : k < T.length) : tl l (T ++ R) k = tl l T k := by
  have h1 := fldB_get (s := tlS l) (T := T ++ R) (k := T.length) (j := k) (by simp) h
  rw [List.take_left] at h1
  exact h1.symm

theorem tl_sh {l : List Fld} {T U R : List Wa} (hv : gf (T ++ U.map (sh T.length) ++ R) = true) (hu : gf U = true) : ∀ k, k < U.length → tl l (T ++ U.map (sh T.length) ++ R) (T.length + k) = tl l U k := by
  intro k
  induction k using Nat.strongRecOn with
  | _ k ih =>
    intro hk
    have hlen : T.length + k < (T ++ U.map (sh T.length) ++ R).length := by simp; omega
    have hw : wa (T ++ U.map (sh T.length) ++ R) (T.length + k) = sh T.length (wa U k) := by
      rw [wa_left (by simp; omega), wa_right, wa_map hk]
    have hx := gf_own hu k hk
    rcases kind_cases (gf_ok hu k hk) with q | q | q
    · rw [tl_ask hlen (by rw [hw, sh_kind]; exact q), tl_ask hk q, hw, sh_ask q]
    · rw [own_bin q] at hx
      have ha := hx (wa U k).a (by simp)
      have hb := hx (wa U k).b (by simp)
      have ea : (sh T.length (wa U k)).a.toNat = T.length + (wa U k).a.toNat := by rw [sh_bin q]; dsimp only; omega
      have eb : (sh T.length (wa U k)).b.toNat = T.length + (wa U k).b.toNat := by rw [sh_bin q]; dsimp only; omega
      rcases bin_bounds q with q6 | q7
      · rw [tl_and hv hlen (by rw [hw, sh_kind]; exact q6), tl_and hu hk q6, hw, ea, eb, ih _ (by omega) (by omega), ih _ (by omega) (by omega)]
      · rw [tl_or hv hlen (by rw [hw, sh_kind]; exact q7), tl_or hu hk q7, hw, ea, eb, ih _ (by omega) (by omega), ih _ (by omega) (by omega)]
    · rw [own_not q] at hx
      have ha := hx (wa U k).a (by simp)
      have ea : (sh T.length (wa U k)).a.toNat = T.length + (wa U k).a.toNat := by rw [sh_not q]; dsimp only; omega
      rw [tl_not hv hlen (by rw [hw, sh_kind]; exact not_bounds q), tl_not hu hk (not_bounds q), hw, ea, ih _ (by omega) (by omega)]

theorem not_tells {T : List Wa} {s : ByteArray} (h1 : (mto T s).2 = true) (h2 : (notF T).2 = true) : mto (notF T).1 s = (!(mto T s).1, true) := by
  unfold notF at h2 ⊢
  by_cases hc : (gf T && decide (T.length < 20)) = true
  · rw [if_pos hc]
    simp only [Bool.and_eq_true, decide_eq_true_eq] at hc
    obtain ⟨hg, hl⟩ := hc
    have hn := gf_len hg
    unfold mto at h1 ⊢
    dsimp only
    by_cases hr : (rr s).2 = true
    · rw [gf_not hg hl, hg, hr]
      simp only [Bool.and_self, if_true, List.length_append, List.length_singleton, Nat.add_sub_cancel]
      have hw : wa (T ++ [(⟨8, 0, 0, ⟨#[]⟩, (T.length : Int) - 1, 0⟩ : Wa)]) T.length = ⟨8, 0, 0, ⟨#[]⟩, (T.length : Int) - 1, 0⟩ := wa_right (i := 0)
      rw [tl_not (gf_not hg hl) (by simp) (by rw [hw]), hw]
      dsimp only
      have e : ((T.length : Int) - 1).toNat = T.length - 1 := by omega
      rw [e, tl_left (by omega)]
    · rw [if_neg (by simp [hr])] at h1; cases h1
  · rw [if_neg hc] at h2; cases h2

theorem both_tells {T U : List Wa} {s : ByteArray} (h : (bothF T U).2 = true) :
    (mto T s).2 = (rr s).2 ∧ (mto U s).2 = (rr s).2 ∧ (mto (bothF T U).1 s).2 = (rr s).2 ∧ ((rr s).2 = true → (mto (bothF T U).1 s).1 = ((mto T s).1 && (mto U s).1)) := by
  unfold bothF at h ⊢
  by_cases hc : (gf T && gf U && decide (T.length + U.length < 20)) = true
  · rw [if_pos hc]
    simp only [Bool.and_eq_true, decide_eq_true_eq] at hc
    obtain ⟨⟨hg, hu⟩, hl⟩ := hc
    have hn := gf_len hg
    have hm := gf_len hu
    have hv := gf_both hg hu hl
    unfold mto
    dsimp only
    rw [hg, hu, hv]
    by_cases hr : (rr s).2 = true
    · rw [hr]
      simp only [Bool.and_self, if_true, true_and]
      intro _
      have hlen : (T ++ U.map (sh T.length) ++ [(⟨6, 0, 0, ⟨#[]⟩, (T.length : Int) - 1, (T.length : Int) + U.length - 1⟩ : Wa)]).length - 1 = (T ++ U.map (sh T.length)).length + 0 := by simp
      have hw : wa (T ++ U.map (sh T.length) ++ [(⟨6, 0, 0, ⟨#[]⟩, (T.length : Int) - 1, (T.length : Int) + U.length - 1⟩ : Wa)]) ((T ++ U.map (sh T.length)).length + 0) = ⟨6, 0, 0, ⟨#[]⟩, (T.length : Int) - 1, (T.length : Int) + U.length - 1⟩ := wa_right (i := 0)
      rw [hlen, tl_and hv (by simp) (by rw [hw]), hw]
      dsimp only
      have e1 : ((T.length : Int) - 1).toNat = T.length - 1 := by omega
      have e2 : ((T.length : Int) + U.length - 1).toNat = T.length + (U.length - 1) := by omega
      rw [e1, e2, tl_sh hv hu _ (by omega), tl_left (by simp; omega), tl_left (by omega)]
    · have hf : (rr s).2 = false := by simpa using hr
      rw [hf]
      simp
  · rw [if_neg hc] at h; cases h

end Go.Proofs.YtpopjapcgcnnfabDoor.Wan

namespace Go.Proofs.YtpopjapcgcnnfabDoor
open Go.RowKit Plain Sch Wan

theorem below_drewS {B : Nat} {a w : World} (h : Below B a w) (q : Nat) : Below B a (w.drewN q) := ⟨h.os, h.tape, h.output, h.size, h.block⟩

set_option maxRecDepth 100000 in
set_option maxHeartbeats 4000000 in
theorem sameFilters_same (T : List Wa) (v1 v2 : Value) (w : World) (h1 : WasAt w w.heap.size v1 T) (h2 : WasAt w w.heap.size v2 T) (hl : T.length ≤ 2097152) :
    Calls Tryd.prog 25 #[.agg #[v1], .agg #[v2]] w fun e w' => e = .returned (.bool true) ∧ Below w.heap.size w w' := by
  obtain ⟨ao, cap, rfl, _, hmax, hrow, _⟩ := h1
  obtain ⟨ao2, cap2, rfl, _, _, hrow2, _⟩ := h2
  have HROW : Hid (∀ i, i < T.length → ∃ g o, ao = some ⟨g, o, none⟩ ∧ g < w.heap.size ∧ WaIn w g (o + i * 6) (wa T i)) := hrow
  have HROW2 : Hid (∀ i, i < T.length → ∃ g o, ao2 = some ⟨g, o, none⟩ ∧ g < w.heap.size ∧ WaIn w g (o + i * 6) (wa T i)) := hrow2
  clear hrow hrow2
  obtain ⟨W2, hW2⟩ : ∃ W, W = (w.alloc (.cells #[.slice ao T.length cap] 25)).alloc (.cells #[.slice ao2 T.length cap2] 25) := ⟨_, rfl⟩
  have hB2 : Below w.heap.size w W2 := by rw [hW2]; exact ((Below.refl _ w).alloc (Nat.le_refl _) _).alloc (by simp) _
  have HS2 : Hid (W2.heap.size = w.heap.size + 2) := by show _ = _; rw [hW2]; simp
  have y2 : W2.cell? ⟨w.heap.size, 0, none⟩ = some (.slice ao T.length cap) ∧ W2.cell? ⟨w.heap.size + 1, 0, none⟩ = some (.slice ao2 T.length cap2) := by rw [hW2]; exact ⟨by go_simp, by go_simp⟩
  have hq1 := y2.1
  have hq2 := y2.2
  have hne : ((T.length : Int) != (T.length : Int)) = false := by simp
  have hz0 : w.heap.size < W2.heap.size := by have := HS2.out; omega
  have hz1 : w.heap.size + 1 < W2.heap.size := by have := HS2.out; omega
  go_enter Tryd.func25, Tryd.ntmps25
  go_upto_region 1 with fail
  rw [← hW2]
  clear hW2
  go_wp2
  go_loopw [16] (fun vi wr => ∃ k : Nat, k ≤ T.length ∧ vi = .int .i64 (k : Int) ∧ Below W2.heap.size W2 wr)
    (fun vi _ => T.length - (intOf vi).toNat)
  case atStart => exact ⟨0, by omega, rfl, Below.refl _ _⟩
  case round =>
    obtain ⟨k, hk, rfl, hbw⟩ := hrel
    have c1 := (hbw.cell (p := ⟨w.heap.size, 0, none⟩) (by show w.heap.size < _; omega)).trans hq1
    have c2 := (hbw.cell (p := ⟨w.heap.size + 1, 0, none⟩) (by show w.heap.size + 1 < _; omega)).trans hq2
    have hbw0 : Below w.heap.size w wr := hB2.trans (hbw.mono hB2.size)
    clear hq1 hq2 y2
    by_cases hlt : k < T.length
    · obtain ⟨g, o, rfl, hgB, hy1⟩ := HROW.out k hlt
      obtain ⟨g2, o2, rfl, hgB2, hy2⟩ := HROW2.out k hlt
      have e1 := hy1.below hbw0 hgB
      have e2 := hy2.below hbw0 hgB2
      clear hy1 hy2
      obtain ⟨ti, hti⟩ : ∃ t, wa T k = t := ⟨_, rfl⟩
      rw [hti] at e1 e2
      clear hti
      obtain ⟨kind, no, num, text, ja, jb⟩ := ti
      obtain ⟨a0, a1, a2, a3, a4, a5⟩ := e1
      obtain ⟨x0, x1, x2, x3, x4, x5⟩ := e2
      dsimp only at a0 a1 a2 a3 a4 a5 x0 x1 x2 x3 x4 x5
      have hlt' : (k : Int) < (T.length : Int) := by omega
      go_wp2
      go_quiet (fail)
      go_wp2
      go_roundw
      case rel => exact ⟨k + 1, by omega, by go_num, below_drewS hbw _⟩
      case measure => simp [intOf]; omega
    · have hke : k = T.length := by omega
      subst hke
      have hge : ¬ ((T.length : Int) < (T.length : Int)) := by omega
      go_wp2
      go_ret
      exact ⟨rfl, hbw0⟩

end Go.Proofs.YtpopjapcgcnnfabDoor

namespace Go.Proofs.YtpopjapcgcnnfabDoor
open Go.RowKit

theorem code_of_cells {w : World} {x : Addr} {len : Nat} {zs : List Int} (hl : len ≤ zs.length) (hc : ∀ i, i < zs.length → w.cell? (x.add i) = some (.int .u8 (zs.getD i 0))) (hw : ∀ n ∈ zs, (Lit.int .u8 n).wf = true) (h : len ≤ 1048576) : CodeAt w (some x) len := by
  refine ⟨h, fun hz => ?_⟩
  obtain ⟨ab, o, sp⟩ := x
  have h0 := hc 0 (by omega)
  have hsp : sp = none := by simpa [Addr.add] using World.cell?_spot h0
  subst hsp
  refine ⟨ab, o, rfl, World.block_lt_of_cell? w _ h0, fun i hi => ?_⟩
  have hi' : i < zs.length := by omega
  have hci := hc i hi'
  have hmem : zs.getD i 0 ∈ zs := by rw [List.getD_eq_getElem?_getD, List.getElem?_eq_getElem hi']; exact List.getElem_mem hi'
  have hwf := hw _ hmem
  generalize zs.getD i 0 = n at hci hwf
  have hb : 0 ≤ n ∧ n ≤ 255 := bounds_u8 hwf
  obtain ⟨y, rfl⟩ := Int.eq_ofNat_of_zero_le hb.1
  refine ⟨y, by omega, ?_⟩
  by_cases h0 : i = 0
  · subst h0; simpa [Addr.add] using hci
  · simpa [Addr.add, h0] using hci

def IsRow (k : IntKind) (w : World) (a : Option Addr) (len cap : Nat) (zs : List Int) : Prop :=
  (a = none ∧ len = 0 ∧ cap = 0 ∧ zs = []) ∨
  ∃ x, a = some x ∧ len ≤ cap ∧ cap ≤ maxLen ∧ zs.length = cap ∧ (∀ i, i < zs.length → w.cell? (x.add i) = some (.int k (zs.getD i 0))) ∧ ∀ n ∈ zs, (Lit.int k n).wf = true

theorem code_of_row {w : World} {a : Option Addr} {len cap : Nat} {zs : List Int} (h : IsRow .u8 w a len cap zs) (hl : len ≤ 1048576) : CodeAt w a len := by
  rcases h with ⟨rfl, rfl, rfl, rfl⟩ | ⟨x, rfl, h1, h2, h3, h4, h5⟩
  · exact ⟨hl, fun hz => by omega⟩
  · exact code_of_cells (by omega) h4 h5 hl

end Go.Proofs.YtpopjapcgcnnfabDoor
