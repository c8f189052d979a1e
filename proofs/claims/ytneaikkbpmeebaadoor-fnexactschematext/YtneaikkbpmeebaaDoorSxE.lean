/- The model's text of a schema. -/
import Derived.Test.YtneaikkbpmeebaaDoorSxA
import Derived.Test.YtneaikkbpmeebaaDoorSxD
import Derived.Test.YtneaikkbpmeebaaDoorSchL
import Derived.Deep.Cut
namespace Go.Proofs.YtneaikkbpmeebaaDoor
open Go.RowKit Plain Sch

theorem KidsIn.kid {d : Nat} {w : World} {S : Nat → Prop} {a : Option Addr} {n c : Nat} {l : List Tr} (h : KidsIn d w S (.slice a n c) l) (i : Nat) (t : Tr) (hi : l[i]? = some t) : ∃ d' g o at_ lt ct, d = d' + 1 ∧ a = some ⟨g, o, none⟩ ∧ S g ∧ n ≤ c ∧ c ≤ maxLen ∧ NdIn w g (o + i * 6) t (.slice at_ lt ct) ∧ KidsIn d' w S (.slice at_ lt ct) t.kids := by
  cases d with
  | zero =>
    obtain ⟨_, _, _, _, h⟩ := h
    rw [h] at hi
    simp at hi
  | succ d =>
    obtain ⟨ao, cap, hf, hlc, hcm, hrows⟩ := h
    simp only [Value.slice.injEq] at hf
    obtain ⟨rfl, rfl, rfl⟩ := hf
    obtain ⟨g, o, c', ha, hg, hn, hk⟩ := hrows i t hi
    obtain ⟨at_, ct, rfl, _⟩ := hk.form
    exact ⟨d, g, o, at_, t.kids.length, ct, rfl, ha, hg, hlc, hcm, hn, hk⟩

theorem sizeL_take : ∀ (l : List Tr) (i : Nat), sizeL (l.take i) ≤ sizeL l
  | [], i => by simp [sizeL]
  | x :: l, 0 => by simp [sizeL]
  | x :: l, i + 1 => by rw [List.take_succ_cons, sizeL, sizeL]; have := sizeL_take l i; omega

def TypeC (d : Nat) : Prop := ∀ (t : Tr) (ac : Option Addr) (lc cc : Nat) (w : World) (S : Nat → Prop), KidsIn d w S (.slice ac lc cc) t.kids → (∀ g, S g → g < w.heap.size) → GT t → NmT t → t.size ≤ 30 →
  Calls Tryd.prog 11 #[.agg #[.int .i64 t.kind, .string t.name, .int .i64 t.no, .bool t.must, .int .i64 t.most, .slice ac lc cc]] w fun e w' => e = .returned (.string ⟨(sx t).toArray⟩) ∧ Below w.heap.size w w'

theorem gt_kind {t : Tr} (h : GT t) : t.kind = 1 ∨ t.kind = 2 ∨ (t.kind = 3 ∧ 0 ≤ t.most ∧ t.most ≤ 20) ∨ t.kind = 4 ∨ t.kind = 5 := by
  have h1 := ((GT_iff t).1 h).1
  unfold okKind at h1
  dsimp only at h1
  by_cases h3 : t.kind = 3
  · rw [if_pos h3] at h1; simp at h1; omega
  · rw [if_neg h3] at h1; simp at h1; omega

theorem gt_list {t : Tr} (h : GT t) (h4 : t.kind = 4) : ∃ x, t.kids = [x] ∧ GT x := by
  obtain ⟨_, hk, hx⟩ := (GT_iff t).1 h
  obtain ⟨x, e, _⟩ := hk.2.1 h4
  exact ⟨x, e, hx x (by rw [e]; simp)⟩

theorem gt_part {t x : Tr} (h : GT t) (h5 : t.kind = 5) (hx : x ∈ t.kids) : GT x ∧ 1 ≤ x.no ∧ x.no ≤ 30 := by
  obtain ⟨_, hk, hg⟩ := (GT_iff t).1 h
  have := (hk.2.2 h5).1 x hx
  exact ⟨hg x hx, this.2.1, this.2.2⟩

set_option maxRecDepth 100000 in
set_option maxHeartbeats 4000000 in
theorem typeC_step (d : Nat) (ih0 : ∀ d', d = d' + 1 → TypeC d') : TypeC d := by
  intro t ac lc cc w S hK hS hG hN hz
  have ih : Hid (∀ d', d = d' + 1 → TypeC d') := ih0
  clear ih0
  have hB1 : ∀ o, Below w.heap.size w (w.alloc o) := fun o => (Below.refl _ w).alloc (Nat.le_refl _) o
  have hsl := sx_len t hN
  obtain ⟨R, hR⟩ : ∃ R, Hid (R = sx t) := ⟨_, rfl⟩
  rw [← hR.out] at hsl ⊢
  obtain ⟨kind, hkind⟩ : ∃ k, t.kind = k := ⟨_, rfl⟩
  obtain ⟨name, hname⟩ : ∃ k, Hid (t.name = k) := ⟨_, rfl⟩
  obtain ⟨no, hno⟩ : ∃ k, Hid (t.no = k) := ⟨_, rfl⟩
  obtain ⟨must, hmust⟩ : ∃ k, Hid (t.must = k) := ⟨_, rfl⟩
  obtain ⟨most, hmost⟩ : ∃ k, Hid (t.most = k) := ⟨_, rfl⟩
  rw [hname.out, hno.out, hmust.out, hmost.out, hkind]
  rcases gt_kind hG with h1 | h1 | ⟨h1, h10, h20⟩ | h1 | h1
  · have hn : Hid (R = [110, 117, 109]) := hR.out.trans (sx_num t h1)
    rw [h1] at hkind
    subst hkind
    clear h1 hK hS hG hN ih hR
    go_enter Tryd.func11, Tryd.ntmps11
    go_wp2
    go_ret
    exact ⟨by rw [hn.out]; rfl, hB1 _⟩
  · have hn : Hid (R = [116, 101, 120, 116]) := hR.out.trans (sx_txt t h1)
    rw [h1] at hkind
    subst hkind
    clear h1 hK hS hG hN ih hR
    go_enter Tryd.func11, Tryd.ntmps11
    go_wp2
    go_ret
    exact ⟨by rw [hn.out]; rfl, hB1 _⟩
  · rw [hmost.out] at h10 h20
    obtain ⟨m, rfl⟩ := Int.eq_ofNat_of_zero_le h10
    have hn : Hid (R = [101, 110, 117, 109, 40] ++ dec m ++ [41]) := by
      have := hR.out.trans (sx_enu t h1)
      rw [hmost.out] at this
      exact this
    rw [h1] at hkind
    subst hkind
    have hdl := dec_len m
    have HC : Hid (∀ W : World, Calls Tryd.prog 23 #[.int .i64 (m : Int)] W fun e w' => e = .returned (.string ⟨(dec m).toArray⟩) ∧ Below W.heap.size W w') := fun W => l1Num_dec m (by omega) W
    generalize dec m = dm at hdl HC hn
    clear h1 hK hS hG hN ih hR
    go_enter Tryd.func11, Tryd.ntmps11
    go_wp2_with fail
    refine (HC.out _).mono ?_
    rintro e w2 ⟨rfl, hb2⟩
    have hB2 : Below w.heap.size w w2 := (hB1 _).trans (hb2.mono (by simp))
    go_wp2
    go_ret
    refine ⟨?_, hB2⟩
    rw [hn.out, ← bytes_appD, ← bytes_appD]
    rfl
  · obtain ⟨x, hxk, hxG⟩ := gt_list hG h1
    have hn : Hid (R = [91] ++ sx x ++ [93]) := hR.out.trans (sx_lst t x h1 hxk)
    have hxN : NmT x := ((NmT_iff t).1 hN).2 x (by rw [hxk]; simp)
    have hxz : x.size ≤ 30 := by have := Tr.size_eq t; rw [hxk] at this; simp [sizeL] at this; omega
    have hxl := sx_len x hxN
    obtain ⟨d', g, o, at_, lt, ct, hd', hao, hSg, hnc, hcm, hnd, hkx⟩ := hK.kid 0 x (by rw [hxk]; rfl)
    have hlc : lc = 1 := by
      obtain ⟨_, _, hf, _⟩ := hK.form
      simp only [Value.slice.injEq] at hf
      rw [hf.2.1, hxk]; rfl
    rw [h1] at hkind
    subst hkind hao hlc
    simp only [Nat.zero_mul, Nat.add_zero] at hnd
    obtain ⟨c0, c1, c2, c3, c4, c5⟩ := hnd
    have hcm' : cc ≤ 9223372036854775807 := by unfold maxLen at hcm; omega
    have hg : g < w.heap.size := hS g hSg
    have HC : Hid (∀ W : World, Below w.heap.size w W → Calls Tryd.prog 11 #[.agg #[.int .i64 x.kind, .string x.name, .int .i64 x.no, .bool x.must, .int .i64 x.most, .slice at_ lt ct]] W fun e w' => e = .returned (.string ⟨(sx x).toArray⟩) ∧ Below W.heap.size W w') := fun W hW => by
      have hs := hW.size
      exact ih.out d' hd' x at_ lt ct W S (hkx.kept (fun g hg => hW.block g (hS g hg)) (fun g hg => hg)) (fun g hg => by have := hS g hg; omega) hxG hxN hxz
    generalize sx x = xx at HC hn hxl
    have hxx : xx.length ≤ 800 := by omega
    clear h1 hK hG hN ih hR hxG hxN hkx hS hxl hxk
    go_enter Tryd.func11, Tryd.ntmps11
    go_wp2_with fail
    refine (HC.out _ (hB1 _)).mono ?_
    rintro e w2 ⟨rfl, hb2⟩
    have hB2 : Below w.heap.size w w2 := (hB1 _).trans (hb2.mono (by simp))
    go_wp2
    go_ret
    refine ⟨?_, hB2⟩
    rw [hn.out, ← bytes_appD, ← bytes_appD]
    rfl
  · have hn : Hid (R = [123] ++ sxL t.kids ++ [125]) := hR.out.trans (sx_msg t h1)
    rw [h1] at hkind
    subst hkind
    have HP : Hid (∀ x ∈ t.kids, GT x ∧ NmT x ∧ 1 ≤ x.no ∧ x.no ≤ 30 ∧ x.size ≤ 30) := fun x hx => by
      have h9 := gt_part hG h1 hx
      have h8 := sizeL_mem _ _ hx
      have h7 := Tr.size_eq t
      exact ⟨h9.1, ((NmT_iff t).1 hN).2 x hx, h9.2.1, h9.2.2, by omega⟩
    have HLEN : Hid (∀ i, (sxL (t.kids.take i)).length ≤ 800) := fun i => by
      have h9 : NmL (t.kids.take i) := (NmL_iff _).2 (fun x hx => ((NmT_iff t).1 hN).2 x (List.mem_of_mem_take hx))
      have h8 := sxL_len _ h9
      have h7 := Tr.size_eq t
      have h6 : sizeL (t.kids.take i) ≤ sizeL t.kids := sizeL_take t.kids i
      omega
    obtain ⟨ks, hks⟩ : ∃ ks, t.kids = ks := ⟨_, rfl⟩
    rw [hks] at hK hn HP HLEN
    have hlc : lc = ks.length := by
      obtain ⟨_, _, hf, _⟩ := hK.form
      simp only [Value.slice.injEq] at hf
      exact hf.2.1
    subst hlc
    have HK : Hid (KidsIn d w S (.slice ac ks.length cc) ks) := hK
    have HS : Hid (∀ g, S g → g < w.heap.size) := hS
    clear h1 hK hG hN hR hS hks hsl hz
    go_enter Tryd.func11, Tryd.ntmps11
    go_wp2
    go_loopw [3, 31] (fun vs vi wr => ∃ (i : Nat) (L : List UInt8), i ≤ ks.length ∧ vi = .int .i64 (i : Int) ∧ vs = .string ⟨L.toArray⟩ ∧ L.length ≤ 801 ∧ Hid (L = [123] ++ sxL (ks.take i)) ∧ Below (w.heap.size + 1) (w.alloc (.cells #[.int .i64 5, .string name, .int .i64 no, .bool must, .int .i64 most, .slice ac ks.length cc] 39)) wr)
      (fun _ vi _ => ks.length - (intOf vi).toNat)
    case atStart => exact ⟨0, [123], by omega, rfl, rfl, by simp, by show _ = _; simp [sxL], Below.refl _ _⟩
    case round =>
      obtain ⟨i, L, hi, rfl, rfl, hLb, hL, hbw⟩ := hrel
      have hB0 : Below w.heap.size w wr := (hB1 _).trans (hbw.mono (by omega))
      have hsz : w.heap.size < wr.heap.size := by have := hbw.size; simp at this; omega
      by_cases hlt : i < ks.length
      · have hlt' : (i : Int) < (ks.length : Int) := by omega
        obtain ⟨x, hx⟩ : ∃ x, ks[i]? = some x := ⟨_, List.getElem?_eq_getElem hlt⟩
        obtain ⟨hxG, hxN, hn1, hn30, hxz⟩ := HP.out x (List.mem_of_getElem? hx)
        obtain ⟨d', g, o, at_, lt, ct, hd', hao, hSg, hnc, hcm, hnd, hkx⟩ := HK.out.kid i x hx
        subst hao
        have hcm' : cc ≤ 9223372036854775807 := by unfold maxLen at hcm; omega
        obtain ⟨c0, c1, c2, c3, c4, c5⟩ := hnd.kept (hB0.block g (HS.out g hSg))
        have hg : g < wr.heap.size := by have := HS.out g hSg; omega
        have hnl := HLEN.out (i + 1)
        have hst := sxL_take ks i x hx
        rw [hst, List.length_append, List.length_append, List.length_append] at hnl
        have hll : L.length = 1 + (sxL (ks.take i)).length := by rw [hL.out, List.length_append]; rfl
        have hnx := ((NmT_iff x).1 hxN).1
        obtain ⟨nn, hnn⟩ := Int.eq_ofNat_of_zero_le (show 0 ≤ x.no by omega)
        have hdl := dec_len nn
        have HD : Hid (∀ W : World, Calls Tryd.prog 23 #[.int .i64 (nn : Int)] W fun e w' => e = .returned (.string ⟨(dec nn).toArray⟩) ∧ Below W.heap.size W w') := fun W => l1Num_dec nn (by omega) W
        have HC : Hid (∀ W : World, Below w.heap.size w W → Calls Tryd.prog 11 #[.agg #[.int .i64 x.kind, .string x.name, .int .i64 (nn : Int), .bool x.must, .int .i64 x.most, .slice at_ lt ct]] W fun e w' => e = .returned (.string ⟨(sx x).toArray⟩) ∧ Below W.heap.size W w') := fun W hW => by
          have hs := hW.size
          have h9 := ih.out d' hd' x at_ lt ct W S (hkx.kept (fun g hg => hW.block g (HS.out g hg)) (fun g hg => hg)) (fun g hg => by have := HS.out g hg; omega) hxG hxN hxz
          rw [hnn] at h9
          exact h9
        have hstep : Hid ([123] ++ sxL (ks.take (i + 1)) = L ++ ((if i = 0 then [] else [44]) ++ ((x.name.data.toList ++ ([58] ++ (dec nn ++ ((if x.must then [33] else []) ++ [32])))) ++ sx x))) := by
          show _ = _
          rw [hst, ← List.append_assoc, ← hL.out]
          unfold hdx
          rw [hnn]
          rfl
        have HNL : Hid (([123] ++ sxL (ks.take (i + 1))).length ≤ 801) := by show _ ≤ _; rw [List.length_append, List.length_singleton]; have := HLEN.out (i + 1); omega
        rw [hnn] at c2
        have hxl : (sx x).length ≤ 800 := by omega
        generalize sx x = xx at HC hstep hnl hxl
        generalize dec nn = dn at HD hstep hdl
        obtain ⟨xk, hxk⟩ : ∃ k, Hid (x.kind = k) := ⟨_, rfl⟩
        obtain ⟨xn, hxn⟩ : ∃ k, Hid (x.name = k) := ⟨_, rfl⟩
        obtain ⟨xm, hxm⟩ : ∃ k, Hid (x.must = k) := ⟨_, rfl⟩
        obtain ⟨xo, hxo⟩ : ∃ k, Hid (x.most = k) := ⟨_, rfl⟩
        rw [hxk.out, hxn.out, hxm.out, hxo.out] at HC
        rw [hxk.out] at c0
        rw [hxn.out] at c1 hnx
        rw [hxm.out] at c3
        rw [hxo.out] at c4
        rw [hxn.out, hxm.out] at hstep
        have hxnl : xn.data.toList.length = xn.size := Array.length_toList
        clear hnd hkx hx hst hL hxG hxN hll
        obtain ⟨W2, hW2⟩ : ∃ W, W = wr.alloc (.cells #[.int .i64 xk, .string xn, .int .i64 (nn : Int), .bool xm, .int .i64 xo, .slice at_ lt ct] 39) := ⟨_, rfl⟩
        have hb2 : Below wr.heap.size wr W2 := by rw [hW2]; exact (Below.refl _ wr).alloc (Nat.le_refl _) _
        have hB2 : Below w.heap.size w W2 := hB0.trans (hb2.mono hB0.size)
        have hbw2 := hbw.trans (hb2.mono (by omega))
        have HS2 : Hid (W2.heap.size = wr.heap.size + 1) := by show _ = _; rw [hW2]; simp
        have e0 : W2.cell? ⟨wr.heap.size, 0, none⟩ = some (.int .i64 xk) := by rw [hW2]; go_simp
        have e1 : W2.cell? ⟨wr.heap.size, 1, none⟩ = some (.string xn) := by rw [hW2]; go_simp
        have e2 : W2.cell? ⟨wr.heap.size, 2, none⟩ = some (.int .i64 (nn : Int)) := by rw [hW2]; go_simp
        have e3 : W2.cell? ⟨wr.heap.size, 3, none⟩ = some (.bool xm) := by rw [hW2]; go_simp
        have e4 : W2.cell? ⟨wr.heap.size, 4, none⟩ = some (.int .i64 xo) := by rw [hW2]; go_simp
        have e5 : W2.cell? ⟨wr.heap.size, 5, none⟩ = some (.slice at_ lt ct) := by rw [hW2]; go_simp
        have hs2 : wr.heap.size < W2.heap.size := by have := HS2.out; omega
        go_upto_region 14 with fail
        rw [← hW2]
        clear hW2 c0 c1 c2 c3 c4 c5
        by_cases hi0 : i = 0
        · subst hi0
          go_wp2_with fail
          go_region_with (go_at_call 23; refine (HD.out _).mono ?_; rintro e w3 ⟨rfl, hb3⟩; have hb3 : Below W2.heap.size W2 w3 := ⟨hb3.os, hb3.tape, hb3.output, hb3.size, hb3.block⟩; have f0 := (hb3.cell (p := ⟨wr.heap.size, 0, none⟩) hs2).trans e0; have f1 := (hb3.cell (p := ⟨wr.heap.size, 1, none⟩) hs2).trans e1; have f2 := (hb3.cell (p := ⟨wr.heap.size, 2, none⟩) hs2).trans e2; have f3 := (hb3.cell (p := ⟨wr.heap.size, 3, none⟩) hs2).trans e3; have f4 := (hb3.cell (p := ⟨wr.heap.size, 4, none⟩) hs2).trans e4; have f5 := (hb3.cell (p := ⟨wr.heap.size, 5, none⟩) hs2).trans e5; have hB3 : Below w.heap.size w w3 := hB2.trans (hb3.mono hB2.size); have hbw3 := hbw2.trans (hb3.mono (by have := HS2.out; omega)))
          all_goals
            cases xm with
            | true =>
              go_wp2_with fail
              refine (HC.out _ hB3).mono ?_
              rintro e w4 ⟨rfl, hb4⟩
              have hbw4 := hbw3.trans (hb4.mono (by have := hbw3.size; simp at this; omega))
              clear f0 f1 f2 f3 f4 f5 hb4
              go_wp2
              go_roundw
              case rel =>
                have hL' : L ++ ([] ++ ((xn.data.toList ++ ([58] ++ (dn ++ ([33] ++ [32])))) ++ xx)) = [123] ++ sxL (ks.take (0 + 1)) := by have h9 := hstep.out; simpa using h9.symm
                refine ⟨0 + 1, L ++ ([] ++ ((xn.data.toList ++ ([58] ++ (dn ++ ([33] ++ [32])))) ++ xx)), by omega, by go_num, ?_, by rw [hL']; exact HNL.out, hL', hbw4⟩
                · congr 1
                  apply ByteArray.ext
                  simp
              case measure => simp [intOf]; omega
            | false =>
              go_wp2_with fail
              refine (HC.out _ hB3).mono ?_
              rintro e w4 ⟨rfl, hb4⟩
              have hbw4 := hbw3.trans (hb4.mono (by have := hbw3.size; simp at this; omega))
              clear f0 f1 f2 f3 f4 f5 hb4
              go_wp2
              go_roundw
              case rel =>
                have hL' : L ++ ([] ++ ((xn.data.toList ++ ([58] ++ (dn ++ ([] ++ [32])))) ++ xx)) = [123] ++ sxL (ks.take (0 + 1)) := by have h9 := hstep.out; simpa using h9.symm
                refine ⟨0 + 1, L ++ ([] ++ ((xn.data.toList ++ ([58] ++ (dn ++ ([] ++ [32])))) ++ xx)), by omega, by go_num, ?_, by rw [hL']; exact HNL.out, hL', hbw4⟩
                · congr 1
                  apply ByteArray.ext
                  simp
              case measure => simp [intOf]; omega
        · have hi0' : (0 : Int) < (i : Int) := by omega
          have hi0n : 0 < i := by omega
          rw [if_neg hi0] at hstep hnl
          go_wp2_with fail
          go_region_with (go_at_call 23; refine (HD.out _).mono ?_; rintro e w3 ⟨rfl, hb3⟩; have hb3 : Below W2.heap.size W2 w3 := ⟨hb3.os, hb3.tape, hb3.output, hb3.size, hb3.block⟩; have f0 := (hb3.cell (p := ⟨wr.heap.size, 0, none⟩) hs2).trans e0; have f1 := (hb3.cell (p := ⟨wr.heap.size, 1, none⟩) hs2).trans e1; have f2 := (hb3.cell (p := ⟨wr.heap.size, 2, none⟩) hs2).trans e2; have f3 := (hb3.cell (p := ⟨wr.heap.size, 3, none⟩) hs2).trans e3; have f4 := (hb3.cell (p := ⟨wr.heap.size, 4, none⟩) hs2).trans e4; have f5 := (hb3.cell (p := ⟨wr.heap.size, 5, none⟩) hs2).trans e5; have hB3 : Below w.heap.size w w3 := hB2.trans (hb3.mono hB2.size); have hbw3 := hbw2.trans (hb3.mono (by have := HS2.out; omega)))
          all_goals
            cases xm with
            | true =>
              go_wp2_with fail
              refine (HC.out _ hB3).mono ?_
              rintro e w4 ⟨rfl, hb4⟩
              have hbw4 := hbw3.trans (hb4.mono (by have := hbw3.size; simp at this; omega))
              clear f0 f1 f2 f3 f4 f5 hb4
              go_wp2
              go_roundw
              case rel =>
                have hL' : L ++ ([44] ++ ((xn.data.toList ++ ([58] ++ (dn ++ ([33] ++ [32])))) ++ xx)) = [123] ++ sxL (ks.take (i + 1)) := by have h9 := hstep.out; simpa using h9.symm
                refine ⟨i + 1, L ++ ([44] ++ ((xn.data.toList ++ ([58] ++ (dn ++ ([33] ++ [32])))) ++ xx)), by omega, by go_num, ?_, by rw [hL']; exact HNL.out, hL', hbw4⟩
                · congr 1
                  apply ByteArray.ext
                  simp
              case measure => simp [intOf]; omega
            | false =>
              go_wp2_with fail
              refine (HC.out _ hB3).mono ?_
              rintro e w4 ⟨rfl, hb4⟩
              have hbw4 := hbw3.trans (hb4.mono (by have := hbw3.size; simp at this; omega))
              clear f0 f1 f2 f3 f4 f5 hb4
              go_wp2
              go_roundw
              case rel =>
                have hL' : L ++ ([44] ++ ((xn.data.toList ++ ([58] ++ (dn ++ ([] ++ [32])))) ++ xx)) = [123] ++ sxL (ks.take (i + 1)) := by have h9 := hstep.out; simpa using h9.symm
                refine ⟨i + 1, L ++ ([44] ++ ((xn.data.toList ++ ([58] ++ (dn ++ ([] ++ [32])))) ++ xx)), by omega, by go_num, ?_, by rw [hL']; exact HNL.out, hL', hbw4⟩
                · congr 1
                  apply ByteArray.ext
                  simp
              case measure => simp [intOf]; omega
      · have hke : i = ks.length := by omega
        have hfin : Hid (R = L ++ [125]) := by show _ = _; rw [hn.out, hL.out, hke, List.take_length]
        subst hke
        have hge : ¬ ((ks.length : Int) < (ks.length : Int)) := by omega
        clear hL
        go_wp2
        go_ret
        exact ⟨by rw [hfin.out, ← bytes_appD]; rfl, hB0⟩

theorem typeC_all : ∀ d, TypeC d := by
  intro d
  induction d with
  | zero => exact typeC_step 0 (fun d' h => by omega)
  | succ d ih => exact typeC_step (d + 1) (fun d' h => by obtain rfl : d = d' := by omega
                                                          exact ih)

end Go.Proofs.YtneaikkbpmeebaaDoor
