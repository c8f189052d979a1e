/- The program's queue under way: its cells; next, oldest, last, newest, all. -/
import Derived.Test.YtfkhbbmnjndmcaaQuD
import Derived.Test.YtfkhbbmnjndmcaaQuB
import Derived.Test.YtfkhbbmnjndmcaaCnA
import Derived.Deep.AppendLies
import Derived.Deep.DeepCutAuto
import Derived.Lib.BufferOwn
import Derived.Lib.OthersKept
import Derived.Laws.EntriesVeiled
namespace Go.Proofs.Ytfkhbbmnjndmcaa
open Go.RowKit Plain Qus

/-- whom the rule drops, as a bound method -/
def fnD (r : Int) (b : Nat) : Value := if r = 1 then .func (.func 65) #[.pointer (some ⟨b, 0, none⟩)] #[] else if r = 2 then .func (.func 66) #[.pointer (some ⟨b, 0, none⟩)] #[] else .func (.func 57) #[.pointer (some ⟨b, 0, none⟩)] #[]

/-- a queue under way in memory -/
structure Lu (w : World) (B b : Nat) (c r : Int) (M : List Int) (vm : Value) : Prop where
  lo : B ≤ b
  hi : b < w.heap.size
  c0 : w.cell? ⟨b, 0, none⟩ = some (.int .i64 c)
  c1 : w.cell? ⟨b, 1, none⟩ = some (.int .i64 r)
  c2 : w.cell? ⟨b, 2, none⟩ = some (fnD r b)
  c3 : w.cell? ⟨b, 3, none⟩ = some vm
  f3 : w.frozen? ⟨b, 3, none⟩ = false
  row : ZRow w B vm M
  ap : vm.ownBlock ≠ some b

theorem Lu.kept {w w' : World} {B b : Nat} {c r : Int} {M M' : List Int} {vm : Value} (h : Lu w B b c r M vm) (hb : w'.heap[b]? = w.heap[b]?) (hs : w.heap.size ≤ w'.heap.size) (hr : ZRow w' B vm M') : Lu w' B b c r M' vm := by
  have hc : ∀ k, w'.cell? ⟨b, k, none⟩ = w.cell? ⟨b, k, none⟩ := fun k => by simp only [World.cell?, hb]
  have hf : ∀ k, w'.frozen? ⟨b, k, none⟩ = w.frozen? ⟨b, k, none⟩ := fun k => by simp only [World.frozen?, hb]
  exact ⟨h.lo, by have := h.hi; omega, (hc 0).trans h.c0, (hc 1).trans h.c1, (hc 2).trans h.c2, (hc 3).trans h.c3, (hf 3).trans h.f3, hr, h.ap⟩

theorem Lu.below {w w' : World} {B b : Nat} {c r : Int} {M : List Int} {vm : Value} (h : Lu w B b c r M vm) (hb : Below w.heap.size w w') : Lu w' B b c r M vm :=
  h.kept (hb.block b h.hi) hb.size (h.row.below hb)

set_option maxRecDepth 100000 in
set_option maxHeartbeats 1000000 in
theorem nextU (B b : Nat) (c r : Int) (M : List Int) (vm : Value) (w : World) (h : Lu w B b c r M vm) :
    Calls Try.prog 57 #[.pointer (some ⟨b, 0, none⟩)] w fun e w' => e = .returned (.int .i64 (M.length : Int)) ∧ w' = w := by
  have c3 := h.c3
  obtain ⟨ao, cap, rfl⟩ := ZRow.slice h.row
  clear h
  go_enter Try.func57, Try.ntmps57
  go_wp2
  go_ret
  exact ⟨rfl, rfl⟩

set_option maxRecDepth 100000 in
set_option maxHeartbeats 2000000 in
theorem indexZ (l : List Int) (n : Int) (v : Value) (w : World) (h : ZAt w w.heap.size v l) (hl : l.length ≤ 2097152) :
    Calls Try.prog 72 #[v, .int .i64 n] w fun e w' => e = .returned (.int .i64 (fstM l n)) ∧ w' = w := by
  obtain ⟨ao, cap, rfl, hlc, hcm, hrow⟩ := h
  have hcm' : cap ≤ 9223372036854775807 := by unfold maxLen at hcm; omega
  have HROW : Hid (∀ i (x : Int), l[i]? = some x → ∃ g o, ao = some ⟨g, o, none⟩ ∧ g < w.heap.size ∧ w.cell? ⟨g, o + i, none⟩ = some (.int .i64 x)) := hrow
  obtain ⟨R, hR⟩ : ∃ R, R = fstM l n := ⟨_, rfl⟩
  rw [← hR]
  have HR : Hid (R = fstM l n) := hR
  clear hR hrow
  go_enter Try.func72, Try.ntmps72
  go_wp2
  go_loopw [8] (fun vi wr => ∃ k : Nat, k ≤ l.length ∧ vi = .int .i64 (k : Int) ∧ Hid (∀ j x, j < k → l[j]? = some x → x ≠ n) ∧ wr = w)
    (fun vi _ => l.length - (intOf vi).toNat)
  case atStart => exact ⟨0, by omega, rfl, fun j x hj => by omega, rfl⟩
  case round =>
    obtain ⟨k, hk, rfl, hall, rfl⟩ := hrel
    by_cases hlt : k < l.length
    · have hltI : (k : Int) < (l.length : Int) := by omega
      have hk0 : (0 : Int) ≤ (k : Int) := by omega
      obtain ⟨x, hx⟩ : ∃ x, l[k]? = some x := ⟨_, List.getElem?_eq_getElem hlt⟩
      obtain ⟨g, o, rfl, hg, c⟩ := HROW.out k x hx
      by_cases hxn : n = x
      · have hn : Hid (R = (k : Int)) := HR.out.trans (fstM_eq (by rw [hx, hxn]) hall.out)
        have hxn' : (n == x) = true := by simpa using hxn
        clear hall hxn hx
        go_wp2
        go_ret
        exact ⟨by rw [hn.out]; rfl, rfl⟩
      · have hxn' : (n == x) = false := by simpa using hxn
        have hall2 : Hid (∀ j z, j < k + 1 → l[j]? = some z → z ≠ n) := fun j z hj hz => by
          by_cases hjk : j = k
          · rw [hjk, hx] at hz; cases hz; exact fun e => hxn e.symm
          · exact hall.out j z (by omega) hz
        clear hall hxn hx
        go_wp2
        go_roundw
        case rel => exact ⟨k + 1, by omega, by go_num, hall2, trivial⟩
        case measure => simp [intOf]; omega
    · have hke : k = l.length := by omega
      have hge : ¬ ((k : Int) < (l.length : Int)) := by omega
      have hn : Hid (R = -1) := HR.out.trans (fstM_none (by rw [← hke]; exact hall.out))
      clear hall hke
      go_wp2
      go_ret
      exact ⟨by rw [hn.out]; rfl, rfl⟩

set_option maxRecDepth 100000 in
set_option maxHeartbeats 1000000 in
theorem oldestU (B b : Nat) (c r : Int) (M : List Int) (vm : Value) (w : World) (h : Lu w B b c r M vm) (hl : M.length ≤ 1000) :
    Calls Try.prog 65 #[.pointer (some ⟨b, 0, none⟩)] w fun e w' => e = .returned (.int .i64 (fstM M 1)) ∧ w' = w := by
  have c3 := h.c3
  have C := indexZ M 1 vm w (ZAt.own h.row) (by omega)
  obtain ⟨ao, cap, rfl⟩ := ZRow.slice h.row
  clear h
  go_enter Try.func65, Try.ntmps65
  go_wp2_with fail
  go_at_call 72
  refine C.mono ?_
  rintro e w1 ⟨rfl, hw⟩
  have hw := hw.symm
  subst hw
  go_wp2_with fail
  go_ret
  exact ⟨rfl, rfl⟩

theorem Lu.cell {w : World} {B b : Nat} {c r : Int} {M : List Int} {vm : Value} (h : Lu w B b c r M vm) {i : Nat} (hi : i < M.length) : ∃ g cap, vm = Value.slice (some ⟨g, 0, none⟩) M.length cap ∧ B ≤ g ∧ g < w.heap.size ∧ w.cell? ⟨g, i, none⟩ = some (.int .i64 (M.getD i 0)) ∧ w.frozen? ⟨g, i, none⟩ = false ∧ M.length ≤ cap ∧ cap ≤ maxLen := by
  have h0 := h.row
  obtain ⟨_, ⟨_, hn⟩ | ⟨g, cap, cur, hv, hB, hb, hnc, hcm, _⟩⟩ := h.row
  · omega
  · rw [hv] at h0
    refine ⟨g, cap, hv, hB, (World.ownsRow.lt h0 g rfl).2, ?_, World.ownsRow.frozenAt h0 i, hnc, hcm⟩
    have := World.ownsRow.cellAt h0 i (by omega)
    rw [this, List.getD_eq_getElem?_getD]
    simp [zints, List.getElem?_eq_getElem hi]

theorem getD_some {M : List Int} {i : Nat} {x : Int} (h : M[i]? = some x) : M.getD i 0 = x := by rw [List.getD_eq_getElem?_getD, h]; rfl
theorem some_getD {M : List Int} {i : Nat} (h : i < M.length) : M[i]? = some (M.getD i 0) := by rw [List.getD_eq_getElem?_getD, List.getElem?_eq_getElem h]; rfl

set_option maxRecDepth 100000 in
set_option maxHeartbeats 4000000 in
theorem lastU (B b : Nat) (c r a : Int) (M : List Int) (vm : Value) (w : World) (h : Lu w B b c r M vm) (hl : M.length ≤ 1000) :
    Calls Try.prog 58 #[.pointer (some ⟨b, 0, none⟩), .int .i64 a] w fun e w' => e = .returned (.int .i64 (lstM M a)) ∧ w' = w := by
  have C := nextU B b c r M vm w h
  have H : Hid (Lu w B b c r M vm) := h
  obtain ⟨R, hR⟩ : ∃ R, R = lstM M a := ⟨_, rfl⟩
  rw [← hR]
  have HR : Hid (R = lstM M a) := hR
  have hl' : (M.length : Int) ≤ 1000 := by omega
  clear hR h
  go_enter Try.func58, Try.ntmps58
  go_wp2_with fail
  go_at_call 57
  refine C.mono ?_
  rintro e w1 ⟨rfl, hw⟩
  have hw := hw.symm
  subst hw
  clear C
  go_wp2
  go_loopw [5] (fun vi wr => ∃ k : Nat, k ≤ M.length ∧ vi = .int .i64 ((k : Int) - 1) ∧ Hid (∀ (j : Nat) x, k ≤ j → M[j]? = some x → x ≠ a) ∧ wr = w)
    (fun vi _ => (intOf vi + 1).toNat)
  case atStart => exact ⟨M.length, by omega, rfl, fun j x hj hx => by have := (List.getElem?_eq_some_iff.1 hx).1; omega, rfl⟩
  case round =>
    obtain ⟨k, hk, rfl, hall, rfl⟩ := hrel
    obtain ⟨w, rfl⟩ : ∃ W, W = wr := ⟨_, rfl⟩
    have c3 := H.out.c3
    match k, hk, hall with
    | 0, hk, hall =>
      have hn : Hid (R = -1) := HR.out.trans (lstM_none fun j x hx => hall.out j x (by omega) hx)
      have d0 : ¬ ((0 : Int) ≤ ((0 : Nat) : Int) - 1) := by omega
      obtain ⟨ao, cap, hvm⟩ := ZRow.slice H.out.row
      subst hvm
      clear hall
      go_wp2
      go_ret
      exact ⟨by rw [hn.out]; rfl, rfl⟩
    | k + 1, hk, hall =>
      have hx := some_getD (M := M) (i := k) (by omega)
      obtain ⟨g, cap, hvm, _, hg, hcc, _, hlc, hcm⟩ := H.out.cell (i := k) (by omega)
      unfold maxLen at hcm
      have hkl : (k : Int) < (M.length : Int) := by omega
      subst hvm
      rw [show ((k + 1 : Nat) : Int) - 1 = (k : Int) by omega]
      have d0 : (0 : Int) ≤ (k : Int) := by omega
      generalize M.getD k 0 = x at hx hcc
      by_cases hxa : x = a
      · have hn : Hid (R = (k : Int)) := HR.out.trans (lstM_eq (by rw [hx, hxa]) fun j y hj hy => hall.out j y (by omega) hy)
        have hne : (x != a) = false := by simpa using hxa
        clear hall hxa hx
        go_wp2
        go_ret
        exact ⟨by rw [hn.out]; rfl, rfl⟩
      · have hne : (x != a) = true := by simpa using hxa
        have hall2 : Hid (∀ (j : Nat) z, k ≤ j → M[j]? = some z → z ≠ a) := fun j z hj hz => by
          by_cases hjk : j = k
          · rw [hjk, hx] at hz; cases hz; exact hxa
          · exact hall.out j z (by omega) hz
        clear hall hxa hx
        go_wp2
        go_roundw
        case rel => exact ⟨k, by omega, by go_num, hall2, trivial⟩
        case measure => simp [intOf]

set_option maxRecDepth 100000 in
set_option maxHeartbeats 1000000 in
theorem newestU (B b : Nat) (c r : Int) (M : List Int) (vm : Value) (w : World) (h : Lu w B b c r M vm) (hl : M.length ≤ 1000) :
    Calls Try.prog 66 #[.pointer (some ⟨b, 0, none⟩)] w fun e w' => e = .returned (.int .i64 (lstM M 1)) ∧ w' = w := by
  have C := lastU B b c r 1 M vm w h hl
  clear h
  go_enter Try.func66, Try.ntmps66
  go_wp2_with fail
  go_at_call 58
  refine C.mono ?_
  rintro e w1 ⟨rfl, hw⟩
  have hw := hw.symm
  subst hw
  go_wp2_with fail
  go_ret
  exact ⟨rfl, rfl⟩

theorem ZRow.nilQ (w : World) (B : Nat) : ZRow w B (.slice none 0 0) [] := ⟨rfl, .inl ⟨rfl, rfl⟩⟩
theorem ZRow.snocQ {w : World} {B g cap : Nat} {l : List Int} {x : Int} (hown : w.ownsRow B 3 1 (.slice (some ⟨g, 0, none⟩) (l.length + 1) cap) (l.length + 1) (zints l ++ [.int .i64 x])) : ZRow w B (.slice (some ⟨g, 0, none⟩) (l.length + 1) cap) (l ++ [x]) := by
  show World.ownsRow _ _ _ _ _ _ _
  rw [List.length_append]
  have e : zints (l ++ [x]) = zints l ++ [.int .i64 x] := by unfold zints; simp
  rw [e]
  exact hown
theorem one1Q (x : Int) : ∀ u ∈ [Value.int .i64 x], u.oneCell' = true := by
  intro u hu
  simp at hu
  subst hu
  rfl
theorem grown_belowQ {wr w9 : World} {e B n : Nat} {v : Value} {xs : List Value} {o : Obj} (h : wr.ownsRow B e 1 v n xs) (hg : (wr.alloc o).grownBy w9 v.ownBlock) (hB : B ≤ wr.heap.size) : Below B wr w9 := by
  have hlt := World.ownsRow.lt h
  have h1 : Below B wr (wr.alloc o) := (Below.refl _ wr).alloc hB _
  have h2 : Below B (wr.alloc o) w9 := ⟨hg.os, hg.tape, hg.output, hg.size, fun j hj => hg.block j (by simp; omega) (fun e2 => by have := hlt j e2.symm; omega)⟩
  exact h1.trans h2
theorem al_take (M : List Int) (a : Int) (k : Nat) (x : Int) (h : M[k]? = some x) : al (M.take (k + 1)) a = al (M.take k) a ++ if x = a then [(k : Int)] else [] := by
  rw [List.take_add_one, h]
  have hk := (List.getElem?_eq_some_iff.1 h).1
  show al (M.take k ++ [x]) a = _
  rw [al_app, List.length_take, Nat.min_eq_left (by omega)]
theorem al_le (M : List Int) (a : Int) : (al M a).length ≤ M.length := by rw [al_len]; exact List.countP_le_length

theorem infoIntQ : (Try.prog.info? 3).map (fun i => (i.zero, i.size, i.bytes)) = some (some (.int .i64 0), 1, 8) := by kernel_rfl

set_option maxRecDepth 100000 in
set_option maxHeartbeats 4000000 in
theorem allU (B b : Nat) (c r a : Int) (M : List Int) (vm : Value) (w : World) (h : Lu w B b c r M vm) (hl : M.length ≤ 1000) :
    Calls Try.prog 59 #[.pointer (some ⟨b, 0, none⟩), .int .i64 a] w fun e w' => ∃ v, e = .returned v ∧ ZRow w' w.heap.size v (al M a) ∧ Below w.heap.size w w' := by
  obtain ⟨i0, hi0, hz0, hz1', hz2⟩ := info_parts infoIntQ
  have H : Hid (Lu w B b c r M vm) := h
  have c3 := h.c3
  have hl' : (M.length : Int) ≤ 1000 := by omega
  obtain ⟨ao, cap, rfl⟩ := ZRow.slice h.row
  clear h
  go_enter Try.func59, Try.ntmps59
  go_wp2
  go_loopw [5, 13] (fun vl vi wr => ∃ i : Nat, i ≤ M.length ∧ vi = .int .i64 (i : Int) ∧ Hid (ZRow wr w.heap.size vl (al (M.take i) a)) ∧ Hid (Below w.heap.size w wr))
    (fun _ vi _ => M.length - (intOf vi).toNat)
  case atStart => exact ⟨0, by omega, rfl, ZRow.nilQ _ _, Below.refl _ _⟩
  case round =>
    obtain ⟨i, hi, rfl, hZ, hBw⟩ := hrel
    obtain ⟨L, hL⟩ : ∃ L, L = al (M.take i) a := ⟨_, rfl⟩
    have HL : Hid (L = al (M.take i) a) := hL
    rw [← hL] at hZ
    have hLl : L.length ≤ 1000 := by rw [hL]; have := al_le (M.take i) a; rw [List.length_take] at this; omega
    clear hL
    obtain ⟨av, cv, hv0⟩ := ZRow.slice hZ.out
    subst hv0
    have hsz : w.heap.size ≤ wr.heap.size := hBw.out.size
    by_cases hlt : i < M.length
    · have hlt' : (i : Int) < (M.length : Int) := by omega
      have hx := some_getD hlt
      obtain ⟨g, cap1, hvm, _, hg, hcc, _, hlc, hcm⟩ := H.out.cell hlt
      simp only [Value.slice.injEq] at hvm
      obtain ⟨rfl, -, rfl⟩ := hvm
      have hci := (hBw.out.cell (p := ⟨g, i, none⟩) hg).trans hcc
      generalize M.getD i 0 = x at hx hcc hci
      have hstep := al_take M a i x hx
      clear hcc hx
      unfold maxLen at hcm
      by_cases hxa : x = a
      · have hE : Hid (al (M.take (i + 1)) a = L ++ [(i : Int)]) := by show _ = _; rw [hstep, if_pos hxa, HL.out]
        have hne : (x == a) = true := by simpa using hxa
        have hBz : w.heap.size ≤ wr.heap.size := hsz
        clear hstep hxa
        go_wp2_with (at_builtin; refine wpList_append_lies _ rfl _ _ 22 rfl w.heap.size 3 i0 (.int .i64 0) 1 8 Try.underlying22 hi0 hz0 hz1' hz2 rfl (by decide) _ L.length _ rfl (World.ownsRow.alloc hZ.out _) ⟨wr.heap.size, 0, none⟩ 1 1 [.int .i64 (i : Int)] rfl rfl (World.news_of_block (heap_alloc_new wr _)) (one1Q _) (by omega) (by unfold maxLen; omega) (by omega) (by simp; omega) (wr.heap.size + 1) (by simp) ?_)
        intro g9 cap9 w9 hown9 hgrow9 hat9 hlt9
        have HZ9 : Hid (ZRow w9 w.heap.size (.slice (some ⟨g9, 0, none⟩) (L.length + 1) cap9) (L ++ [(i : Int)])) := ZRow.snocQ hown9
        have HB9 : Hid (Below w.heap.size w w9) := hBw.out.trans (grown_belowQ hZ.out hgrow9 hBz)
        clear hown9 hgrow9 hat9 hlt9 hZ hBw
        go_wp2
        go_roundw
        case rel => exact ⟨i + 1, by omega, by go_num, by show ZRow _ _ _ _; rw [hE.out]; exact HZ9.out, HB9⟩
        case measure => simp [intOf]; omega
      · have hE : Hid (al (M.take (i + 1)) a = L) := by show _ = _; rw [hstep, if_neg hxa, HL.out, List.append_nil]
        have hne : (x == a) = false := by simpa using hxa
        clear hstep hxa
        go_wp2
        go_roundw
        case rel => exact ⟨i + 1, by omega, by go_num, by show ZRow _ _ _ _; rw [hE.out]; exact hZ.out, hBw⟩
        case measure => simp [intOf]; omega
    · have hke : i = M.length := by omega
      subst hke
      have hge : ¬ ((M.length : Int) < (M.length : Int)) := by omega
      have HZ9 : Hid (ZRow wr w.heap.size (.slice av L.length cv) (al M a)) := by rw [HL.out, List.take_length] at hZ; rw [HL.out, List.take_length]; exact hZ.out
      clear hZ
      go_wp2
      go_ret
      exact ⟨_, rfl, HZ9.out, hBw.out⟩

end Go.Proofs.Ytfkhbbmnjndmcaa
