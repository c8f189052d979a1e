/- The draw of a machine at work. The draw of a machine. -/
import Derived.Test.YtecgjhnihagleaaMcEe
import Derived.Test.YtecgjhnihagleaaGn
import Derived.Deep.DeepCutAuto
import Derived.Deep.RegionLaw
import Derived.Deep.RegionHeld3
namespace Go.Proofs.Ytecgjhnihagleaa
open Go.RowKit Plain Mch Tpc

/-- the draw of a machine at work: the result's variable at w.heap.size, the machine's behind it -/
structure DMt (w : World) (b : Nat) (tv te : Value) (L : List (List Int)) (F : List Bool) (us : List Value) (m : Nat) (w' : World) : Prop where
  cur : Cur w' b m
  ts : TSt w' (w.heap.size + 1) tv te L F us
  y0 : w'.cell? ⟨w.heap.size, 0, none⟩ = some (.slice none 0 0)
  y1 : w'.cell? ⟨w.heap.size, 1, none⟩ = some (.slice none 0 0)
  z0 : w'.frozen? ⟨w.heap.size, 0, none⟩ = false
  z1 : w'.frozen? ⟨w.heap.size, 1, none⟩ = false
  gr : w.grownBy w' (some b)
  b0 : b < w.heap.size

variable {w w' w'' : World} {b m : Nat} {tv te : Value} {L : List (List Int)} {F : List Bool} {us : List Value}

theorem DMt.lt (h : DMt w b tv te L F us m w') : w.heap.size + 1 < w'.heap.size := h.ts.lb

theorem DMt.le (h : DMt w b tv te L F us m w') {m' : Nat} (hm : m ≤ m') : DMt w b tv te L F us m' w' := ⟨h.cur.le hm, h.ts, h.y0, h.y1, h.z0, h.z1, h.gr, h.b0⟩

/-- whatever grows or is written at a block that is none of these -/
theorem DMt.grown (h : DMt w b tv te L F us m w') {m' : Nat} {x : Value} (hc : Cur w'' b m') (hg : w'.grownBy w'' x.ownBlock) (hx : ∀ g, x.ownBlock = some g → g = b ∨ (w.heap.size + 1 < g)) (ha : Apt4 x tv te us) : DMt w b tv te L F us m' w'' := by
  have hb := h.b0
  have hl := h.lt
  have hn : x.ownBlock ≠ some (w.heap.size + 1) := fun e => by rcases hx _ e with h | h <;> omega
  have hblk : w''.heap[w.heap.size]? = w'.heap[w.heap.size]? := hg.block _ (by omega) (fun e => by rcases hx _ e.symm with h | h <;> omega)
  refine ⟨hc, h.ts.beside hg hn ha, (World.cell?_of_block (w := w') hblk).trans h.y0, (World.cell?_of_block (w := w') hblk).trans h.y1, (World.frozen?_of_block (w := w') hblk).trans h.z0, (World.frozen?_of_block (w := w') hblk).trans h.z1, ⟨hg.os.trans h.gr.os, hg.tape.trans h.gr.tape, hg.output.trans h.gr.output, Nat.le_trans h.gr.size hg.size, fun i hi hne => ?_⟩, hb⟩
  refine (hg.block i (Nat.lt_of_lt_of_le hi h.gr.size) (fun e => ?_)).trans (h.gr.block i hi hne)
  rcases hx _ e.symm with h' | h'
  · exact hne (by rw [h'])
  · omega

theorem apt_cur (h : DMt w b tv te L F us m w') : Apt4 (.slice (some ⟨b, 0, none⟩) 0 0) tv te us := fun g e => by
  simp [Value.ownBlock] at e
  subst e
  obtain ⟨r1, r2, r3⟩ := h.ts.rows_lt
  have hb := h.b0
  exact ⟨fun e => by have := (r1 _ e).1; omega, fun e => by have := (r2 _ e).1; omega, fun u hu e => by have := (r3 u hu _ e).1; omega⟩

theorem DMt.pick (h : DMt w b tv te L F us m w') {m' : Nat} (hc : Cur w'' b m') (hg : w'.grownBy w'' (some b)) : DMt w b tv te L F us m' w'' :=
  h.grown (x := .slice (some ⟨b, 0, none⟩) 0 0) hc hg (fun g e => by simp [Value.ownBlock] at e; exact .inl e.symm) (apt_cur h)

theorem DMt.below (h : DMt w b tv te L F us m w') (hb : Below w'.heap.size w' w'') : DMt w b tv te L F us m w'' :=
  h.grown (x := .slice none 0 0) (h.cur.below (hb.mono (by have := h.cur.lt; omega))) ⟨hb.os, hb.tape, hb.output, hb.size, fun k hk _ => hb.block k hk⟩ (fun g e => by simp [Value.ownBlock] at e) (fun g e => by simp [Value.ownBlock] at e)

theorem DMt.alloc (h : DMt w b tv te L F us m w') (o : Obj) : DMt w b tv te L F us m (w'.alloc o) := h.below ((Below.refl _ w').alloc (Nat.le_refl _) o)
theorem DMt.drew (h : DMt w b tv te L F us m w') : DMt w b tv te L F us m w'.drew := h.below ((Below.refl _ w').drew)

/-- a row of ints beside the machine -/
theorem row_pick {B : Nat} {v : Value} {l : List Int} (h : ZRow w' B v l) (hg : w'.grownBy w'' (some b)) (hb : b < B) : ZRow w'' B v l :=
  own_besideM h hg (fun g e e2 => by
    have := (World.ownsRow.lt h g e).1
    simp at e2
    omega)

/-- the row l appended to Next -/
theorem DMt.next {w9 : World} {g cap : Nat} {u : Value} {r : List Int} {o : Obj} (h : DMt w b tv te L F us m w') (hq : ZRow w' (w.heap.size + 2) u r) (hu : Apt4 u tv te us)
    (hown : w9.ownsRow (w.heap.size + 2) 27 1 (.slice (some ⟨g, 0, none⟩) (L.length + 1) cap) (L.length + 1) (us ++ [u])) (hgrow : (w'.alloc o).grownBy w9 tv.ownBlock) (hat : tv.ownBlock = some g ∨ g = w'.heap.size + 1) :
    TNx w' w9 (w.heap.size + 1) 0 tv ∧ DMt w b (.slice (some ⟨g, 0, none⟩) (L.length + 1) cap) te (L ++ [r]) F (us ++ [u]) m (w9.setCell ⟨w.heap.size + 1, 0, none⟩ (.slice (some ⟨g, 0, none⟩) (L.length + 1) cap)) := by
  have hL : LSt w' (w.heap.size + 1) (w.heap.size + 1) (.slice none 0 0) tv te [] L F us := ⟨h.ts, ⟨rfl, .inl ⟨rfl, rfl⟩⟩, Nat.le_refl _, by simp [Value.ownBlock], fun g e => by simp [Value.ownBlock] at e⟩
  obtain ⟨t1, t2, t3⟩ := hL.next hq hu (fun g e => by simp [Value.ownBlock]) hown hgrow hat
  have hb := h.b0
  refine ⟨t1, ⟨h.cur.below (t3.mono (by omega)), t2.ts, (t3.cell (p := ⟨w.heap.size, 0, none⟩) (by show w.heap.size < _; omega)).trans h.y0, (t3.cell (p := ⟨w.heap.size, 1, none⟩) (by show w.heap.size < _; omega)).trans h.y1, (t3.frozen (p := ⟨w.heap.size, 0, none⟩) (by show w.heap.size < _; omega)).trans h.z0, (t3.frozen (p := ⟨w.heap.size, 1, none⟩) (by show w.heap.size < _; omega)).trans h.z1, ⟨t3.os.trans h.gr.os, t3.tape.trans h.gr.tape, t3.output.trans h.gr.output, Nat.le_trans h.gr.size t3.size, fun i hi hne => (t3.block i (by omega)).trans (h.gr.block i hi hne)⟩, hb⟩⟩

theorem DMt.ends {w9 : World} {g cap : Nat} {x : Bool} {o : Obj} (h : DMt w b tv te L F us m w')
    (hown : w9.ownsRow (w.heap.size + 2) 4 1 (.slice (some ⟨g, 0, none⟩) (F.length + 1) cap) (F.length + 1) (bols F ++ [.bool x])) (hgrow : (w'.alloc o).grownBy w9 te.ownBlock) (hat : te.ownBlock = some g ∨ g = w'.heap.size + 1) :
    TNx w' w9 (w.heap.size + 1) 1 te ∧ DMt w b tv (.slice (some ⟨g, 0, none⟩) (F.length + 1) cap) L (F ++ [x]) us m (w9.setCell ⟨w.heap.size + 1, 1, none⟩ (.slice (some ⟨g, 0, none⟩) (F.length + 1) cap)) := by
  obtain ⟨t1, t2, t3⟩ := h.ts.ends hown hgrow hat
  have hb := h.b0
  refine ⟨t1, ⟨h.cur.below (t3.mono (by omega)), t2, (t3.cell (p := ⟨w.heap.size, 0, none⟩) (by show w.heap.size < _; omega)).trans h.y0, (t3.cell (p := ⟨w.heap.size, 1, none⟩) (by show w.heap.size < _; omega)).trans h.y1, (t3.frozen (p := ⟨w.heap.size, 0, none⟩) (by show w.heap.size < _; omega)).trans h.z0, (t3.frozen (p := ⟨w.heap.size, 1, none⟩) (by show w.heap.size < _; omega)).trans h.z1, ⟨t3.os.trans h.gr.os, t3.tape.trans h.gr.tape, t3.output.trans h.gr.output, Nat.le_trans h.gr.size t3.size, fun i hi hne => (t3.block i (by omega)).trans (h.gr.block i hi hne)⟩, hb⟩⟩

/-- a machine drawn -/
def MacR (b m : Nat) (w : World) (e : Ending) (w' : World) : Prop :=
  ∃ rv re M E us, e = .returned (.agg #[rv, re]) ∧ MaOwn w' w.heap.size rv re M E us ∧ (M.length ≤ 13 ∧ E.length ≤ 13 ∧ ∀ i, i < M.length → (rx M i).length ≤ 3) ∧ Cur w' b m ∧ w.grownBy w' (some b)

/-- the first state of the first row written -/
theorem rx_set {M : List (List Int)} {r : List Int} {i : Nat} : rx (M.set 0 r) i = if i = 0 ∧ 0 < M.length then r else rx M i := by
  unfold rx
  rw [List.getD, List.getElem?_set]
  by_cases h : 0 = i
  · subst h
    by_cases h2 : 0 < M.length
    · simp [h2]
    · simp [h2, List.getD]
  · rw [if_neg h, if_neg (fun e => h e.1.symm)]
    rfl

theorem MOwn.write {B : Nat} {v : Value} {M : List (List Int)} (h : MOwn w B v M us) {g cap : Nat} {x y : Int} {r : List Int} (hu : us[0]? = some (.slice (some ⟨g, 0, none⟩) 3 cap)) (hr : rx M 0 = y :: r) (hr3 : (rx M 0).length = 3) (hM : 0 < M.length) :
    MOwn (w.setCell ⟨g, 0, none⟩ (.int .i64 x)) B v (M.set 0 (x :: r)) us := by
  have hg := Lib.grownBy_setCell w g 0 (.int .i64 x)
  obtain ⟨u, h1, h2, h3⟩ := h.2.1 0 hM
  rw [hu] at h1
  simp at h1
  subst h1
  refine ⟨?_, fun i hi => ?_, h.2.2⟩
  · rw [List.length_set]
    exact own_besideM h.1 hg (fun g' e1 e2 => by
      simp at e2
      subst e2
      exact h3 g' rfl e1)
  · rw [List.length_set] at hi
    by_cases hi0 : i = 0
    · subst hi0
      refine ⟨_, hu, ?_, h3⟩
      rw [rx_set, if_pos ⟨rfl, hM⟩]
      have h4 : w.ownsRow B 3 1 (.slice (some ⟨g, 0, none⟩) 3 cap) 3 (zints (y :: r)) := by
        have h5 := h2
        unfold ZRow at h5
        rw [hr3, hr] at h5
        exact h5
      have h6 := (World.ownsRow.stored h4 0 (.int .i64 x)).1
      unfold ZRow
      rw [hr] at hr3
      have e : (x :: r).length = 3 := by simpa using hr3
      rw [e]
      exact h6
    · obtain ⟨u', k1, k2, k3⟩ := h.2.1 i hi
      refine ⟨u', k1, ?_, k3⟩
      rw [rx_set, if_neg (fun e => hi0 e.1)]
      exact own_besideM k2 hg (fun g' e1 e2 => by
        simp at e2
        subst e2
        exact h.2.2 0 i _ u' (by omega) hu k1 g' rfl e1)

theorem MaOwn.write {B : Nat} {v e : Value} {M : List (List Int)} {E : List Bool} (h : MaOwn w B v e M E us) {g cap : Nat} {x y : Int} {r : List Int} (hu : us[0]? = some (.slice (some ⟨g, 0, none⟩) 3 cap)) (hr : rx M 0 = y :: r) (hr3 : (rx M 0).length = 3) (hM : 0 < M.length) :
    MaOwn (w.setCell ⟨g, 0, none⟩ (.int .i64 x)) B v e (M.set 0 (x :: r)) E us :=
  ⟨h.1.write hu hr hr3 hM, own_besideM h.2.1 (Lib.grownBy_setCell w g 0 (.int .i64 x)) (fun g' e1 e2 => by
    simp at e2
    subst e2
    exact (h.2.2 g' e1).2 _ (List.mem_of_getElem? hu) rfl), h.2.2⟩

end Go.Proofs.Ytecgjhnihagleaa

namespace Go.Proofs.Ytecgjhnihagleaa
open Go.RowKit Plain Mch Tpc

theorem mac_fin {w w' : World} {b m : Nat} {tv te : Value} {L : List (List Int)} {F : List Bool} {us : List Value} (hc : Cur w' b m) (ho : MaOwn w' (w.heap.size + 2) tv te L F us) (hg : w.grownBy w' (some b)) (hb : b < w.heap.size) (hl : L.length ≤ 13 ∧ F.length ≤ 13 ∧ ∀ i, i < L.length → (rx L i).length ≤ 3) {m' : Nat} (hm : m ≤ m') (u v : Value) :
    MacR b m' w (.returned (.agg #[tv, te])) ((w'.setCell ⟨w.heap.size, 0, none⟩ u).setCell ⟨w.heap.size, 1, none⟩ v) := by
  have hs := Lib.grownBy_trans (Lib.grownBy_setCell w' w.heap.size 0 u) (Lib.grownBy_setCell _ w.heap.size 1 v)
  refine ⟨tv, te, L, F, us, rfl, ((ho.setCell (a := ⟨w.heap.size, 0, none⟩) (by show w.heap.size < _; omega) _).setCell (a := ⟨w.heap.size, 1, none⟩) (by show w.heap.size < _; omega) _).lower (by omega), hl, (hc.grown hs (fun k hk => by simp at hk; omega)).le hm, ?_⟩
  exact ⟨hs.os.trans hg.os, hs.tape.trans hg.tape, hs.output.trans hg.output, Nat.le_trans hg.size hs.size, fun i hi hne => (hs.block i (by have := hg.size; omega) (by simp; omega)).trans (hg.block i hi hne)⟩

/-- a state drawn, or spoilt -/
def AmR2 (b m : Nat) (w : World) (e : Ending) (w' : World) : Prop := ∃ x : Int, e = .returned (.int .i64 x) ∧ Cur w' b m ∧ w.grownBy w' (some b)

theorem among_two (b m' g : Nat) (w : World) {m : Nat} {x y : Int} (hc : Cur w b m) (hm : m ≤ 1000000000) (hmm : m + 2 ≤ m') (hg : g ≠ b) (h0 : w.cell? ⟨g, 0, none⟩ = some (.int .i64 x)) (h1 : w.cell? ⟨g, 1, none⟩ = some (.int .i64 y)) :
    Calls Try.prog 78 #[.pointer (some ⟨b, 0, none⟩), .slice (some ⟨g, 0, none⟩) 2 2] w (AmR2 b m' w) := by
  refine (among_any b m g 2 2 (fun i => if i = 0 then x else y) w hc hm (by omega) (by omega) hg ?_).mono ?_
  · intro i hi
    match i, hi with
    | 0, _ => exact h0
    | 1, _ => exact h1
  · rintro e w' ⟨i, _, rfl, hc', hg'⟩
    exact ⟨_, rfl, hc'.le hmm, hg'⟩

set_option maxRecDepth 100000 in
set_option maxHeartbeats 16000000 in
theorem drawMac_any (b m : Nat) (w : World) (hc : Cur w b m) (hm : m ≤ 700000000) :
    Calls Try.prog 54 #[.pointer (some ⟨b, 0, none⟩)] w (MacR b (m + 200) w) := by
  obtain ⟨i0, hi, hz0, hz1, hz2⟩ := info_parts Try.infoInt
  obtain ⟨s0, hs, sz0, sz1, sz2⟩ := info_parts Try.infoZs
  obtain ⟨j0, hj, jz0, jz1, jz2⟩ := info_parts Try.infoBo
  have hbw := hc.lt
  have rc := fun (tmps : Array Value) (P : Program) (w : World) => results_cellM (fn := Try.f54) (p := 2) (ty := 30) rfl tmps P w
  obtain ⟨W1, hW1⟩ : ∃ W, W = (w.alloc (.cells #[.slice none 0 0, .slice none 0 0] 30)).alloc (.cells #[.slice none 0 0, .slice none 0 0] 30) := ⟨_, rfl⟩
  have HS1 : Hid (DMt w b (.slice none 0 0) (.slice none 0 0) [] [] [] m W1) := by
    show DMt _ _ _ _ _ _ _ _ _
    rw [hW1]
    exact ⟨(hc.alloc _).alloc _, ⟨by simp, by go_simp, by go_simp, by go_simp, by go_simp, MaOwn.nil _ _⟩, by go_simp, by go_simp, by go_simp, by go_simp, Lib.grownBy_allocR (Lib.grownBy_allocR (World.grownBy.refl w _) _) _, hbw⟩
  go_enter Try.func54, Try.ntmps54
  go_upto_region 2 with fail
  rw [← hW1]
  clear hW1
  go_wp2_with fail
  refine (pick_any b _ 5 _ HS1.out.cur (by omega)).mono ?_
  rintro e w2 ⟨x, rfl, hx, hc2, hg2⟩
  have HS2 : Hid (DMt w b (.slice none 0 0) (.slice none 0 0) [] [] [] (m + 2) w2) := HS1.out.pick hc2 hg2
  have hx5 : (x : Int) ≤ 5 := by omega
  clear HS1 hc2 hg2 hx
  go_wp2_with fail
  refine (one_any b _ 20 _ HS2.out.cur (by omega)).mono ?_
  rintro e w3 ⟨t, rfl, hc3, hg3⟩
  have HS3 : Hid (DMt w b (.slice none 0 0) (.slice none 0 0) [] [] [] (m + 4) w3) := HS2.out.pick hc3 hg3
  clear HS2 hc3 hg3
  go_upto_if 13 with fail
  go_cut [4] (fun s4 wx => ∃ n : Nat, s4 = .int .i64 (n : Int) ∧ 1 ≤ n ∧ n ≤ 13 ∧ Hid (DMt w b (.slice none 0 0) (.slice none 0 0) [] [] [] (m + 6) wx))
  case first =>
    cases t with
    | false =>
      go_wp2_with fail
      go_meet
      exact ⟨1 + x, by simp, by omega, by omega, HS3.out.le (by omega)⟩
    | true =>
      go_wp2_with fail
      refine (pick_any b _ 2 _ HS3.out.cur (by omega)).mono ?_
      rintro e w4 ⟨y, rfl, hy, hc4, hg4⟩
      have HS4 : Hid (DMt w b (.slice none 0 0) (.slice none 0 0) [] [] [] (m + 6) w4) := HS3.out.pick hc4 hg4
      have hy1 : (y : Int) ≤ 1 := by omega
      clear hc4 hg4 HS3 hy
      go_wp2_with fail
      go_meet
      exact ⟨12 + y, by simp, by omega, by omega, HS4⟩
  case rest =>
    obtain ⟨n, rfl, hn1, hn13, HSc⟩ := hcut
    clear HS3
    go_wp2
    go_loopw [5] (fun vk wr => ∃ (k : Nat) (tv te : Value) (L : List (List Int)) (F : List Bool) (us : List Value), k ≤ n ∧ vk = .int .i64 (k : Int) ∧ Hid (L.length = k ∧ F.length = k ∧ ∀ i, i < k → (rx L i).length = 3) ∧ Hid (DMt w b tv te L F us (m + 6 + 8 * k) wr))
      (fun vk _ => n - (intOf vk).toNat)
    case atStart => exact ⟨0, _, _, [], [], [], by omega, rfl, ⟨rfl, rfl, fun i hi => by omega⟩, HSc⟩
    case round =>
      obtain ⟨k, tv, te, L, F, us, hkn, rfl, hLn, hD⟩ := hrel
      clear HSc
      have hk13 : k ≤ 13 := by omega
      by_cases hlt : k < n
      · have hlt' : (k : Int) < (n : Int) := by omega
        have HK0 : Hid (ZRow wr (w.heap.size + 2) (.slice none 0 0) []) := ⟨rfl, .inl ⟨rfl, rfl⟩⟩
        go_wp2
        go_loopw [6, 7] (fun vl vi wr => ∃ (i : Nat) (l : List Int), i ≤ 3 ∧ vi = .int .i64 (i : Int) ∧ Hid (l.length = i) ∧ Hid (ZRow wr (w.heap.size + 2) vl l) ∧ Hid (Apt4 vl tv te us) ∧ Hid (DMt w b tv te L F us (m + 6 + 8 * k + 2 * i) wr))
          (fun _ vi _ => 3 - (intOf vi).toNat)
        case atStart => exact ⟨0, [], by omega, rfl, rfl, HK0, fun g hg => by simp [Value.ownBlock] at hg, hD⟩
        case round =>
          obtain ⟨i, l, hi3, rfl, hll, hK, hA, hDi⟩ := hrel
          clear HK0
          obtain ⟨al, cl', hvl⟩ := ZRow.slice hK.out
          subst hvl
          rw [hll.out] at hK hA ⊢
          by_cases hi' : i < 3
          · have hi3' : (i : Int) < 3 := by omega
            go_wp2_with fail
            refine (pick_any b _ (n : Int) _ hDi.out.cur (by omega)).mono ?_
            rintro e w5 ⟨x5, rfl, hx5', hc5, hg5⟩
            have HD5 : Hid (DMt w b tv te L F us (m + 6 + 8 * k + 2 * i + 2) w5) := hDi.out.pick hc5 hg5
            have HK5 : Hid (ZRow w5 (w.heap.size + 2) (.slice al i cl') l) := row_pick hK.out hg5 (by omega)
            have hs5 : w.heap.size + 1 < w5.heap.size := HD5.out.lt
            clear hc5 hg5 hx5' hDi hK
            go_wp2_with (at_builtin; refine wpList_append_lies _ rfl _ _ 27 rfl (w.heap.size + 2) 3 i0 (.int .i64 0) 1 8 Try.underlying27 hi hz0 hz1 hz2 rfl (by decide) _ i _ rfl (World.ownsRow.alloc (by have h := HK5.out; unfold ZRow at h; rw [hll.out] at h; exact h) _) ⟨w5.heap.size, 0, none⟩ 1 1 [.int .i64 (x5 : Int)] rfl rfl (World.news_of_block (heap_alloc_new w5 _)) (onezJ _) (by omega) (by unfold maxLen; omega) (by omega) (by simp; omega) (w5.heap.size + 1) (by simp) ?_)
            intro g9 cap9 w9 hown9 hgrow9 hat9 hlt9
            have HKL := World.ownsRow.lt HK5.out
            have HK9 : Hid (ZRow w9 (w.heap.size + 2) (.slice (some ⟨g9, 0, none⟩) (i + 1) cap9) (l ++ [(x5 : Int)])) := by
              have h := hown9
              rw [← hll.out] at h
              have h2 := ZRow.snocM h
              rw [hll.out] at h2
              exact h2
            have HD9 : Hid (DMt w b tv te L F us (m + 6 + 8 * k + 2 * (i + 1)) w9) := ((HD5.out.alloc _).grown (x := .slice al i cl') ((HD5.out.alloc _).cur.grown hgrow9 (fun g hg => by have := (HKL g hg).1; omega)) hgrow9 (fun g hg => .inr (by have := (HKL g hg).1; omega)) hA.out).le (by omega)
            have HA9 : Hid (Apt4 (.slice (some ⟨g9, 0, none⟩) (i + 1) cap9) tv te us) := fun g e => by
              simp [Value.ownBlock] at e
              subst e
              obtain ⟨r1, r2, r3⟩ := HD5.out.ts.rows_lt
              rcases hat9 with e | e
              · exact hA.out g9 e
              · exact ⟨fun e2 => by have := (r1 g9 e2).2; omega, fun e2 => by have := (r2 g9 e2).2; omega, fun u hu e2 => by have := (r3 u hu g9 e2).2; omega⟩
            clear hown9 hgrow9 hat9 hlt9 HKL HD5 HK5
            go_wp2
            go_roundw
            case rel => exact ⟨i + 1, _, by omega, by go_num, by show (_ ++ [_]).length = _; rw [List.length_append, hll.out]; rfl, HK9, HA9, HD9⟩
            case measure => simp [intOf]; omega
          · have hie : i = 3 := by omega
            subst hie
            have hge : ¬ ((3 : Int) < 3) := by omega
            obtain ⟨at1, ct1, htv⟩ := hDi.out.ts.own.1.slice
            obtain ⟨at2, ct2, hte⟩ := ERow.slice hDi.out.ts.own.2.1
            subst htv hte
            have t0 := hDi.out.ts.c0
            have hL13 : L.length ≤ 13 := by rw [hLn.out.1]; exact hk13
            have hF13 : F.length ≤ 13 := by rw [hLn.out.2.1]; exact hk13
            have hsz : w.heap.size + 1 < wr.heap.size := hDi.out.lt
            go_wp2_with (at_builtin; refine wpList_append_lies _ rfl _ _ 22 rfl (w.heap.size + 2) 27 s0 (.slice none 0 0) 1 24 Try.underlying22 hs sz0 sz1 sz2 rfl (by decide) _ L.length _ rfl (World.ownsRow.alloc hDi.out.ts.own.1.1 _) ⟨wr.heap.size, 0, none⟩ 1 1 [.slice al 3 cl'] rfl rfl (World.news_of_block (heap_alloc_new wr _)) (one1M _ _ _) (by omega) (by unfold maxLen; omega) (by omega) (by simp; omega) (wr.heap.size + 1) (by simp) ?_)
            intro g9 cap9 w9 hown9 hgrow9 hat9 hlt9
            obtain ⟨⟨q9, f9, k9⟩, hT9⟩ := hDi.out.next hK.out hA.out hown9 hgrow9 hat9
            obtain ⟨W6, hW6⟩ : ∃ W, W = w9.setCell ⟨w.heap.size + 1, 0, none⟩ (.slice (some ⟨g9, 0, none⟩) (L.length + 1) cap9) := ⟨_, rfl⟩
            rw [← hW6] at hT9
            have hLN : Hid ((L ++ [l]).length = k + 1 ∧ ∀ i, i < k + 1 → (rx (L ++ [l]) i).length = 3) := by
              refine ⟨by rw [List.length_append, hLn.out.1]; rfl, fun j hj => ?_⟩
              by_cases h : j < L.length
              · rw [rx_old h]; exact hLn.out.2.2 j (by have := hLn.out.1; omega)
              · have : j = L.length := by have := hLn.out.1; omega
                rw [this, rx_new, hll.out]
            have HS6 : Hid (DMt w b (.slice (some ⟨g9, 0, none⟩) (L.length + 1) cap9) (.slice at2 F.length ct2) (L ++ [l]) F (us ++ [.slice al 3 cl']) (m + 6 + 8 * k + 6) W6) := hT9
            have hSd := hT9.drew
            have hcd := hSd.cur
            have t6 := hT9.ts.c1
            have t6d : W6.drew.cell? ⟨w.heap.size + 1, 1, none⟩ = some (.slice at2 F.length ct2) := t6
            clear hT9 hown9 hgrow9 hat9 hlt9 t0 hDi hK hA hll
            go_upto_region 14 with fail
            rw [← hW6]
            clear hW6 q9 f9 k9
            go_region_law
              (first
                | (go_simp; go_at_call 68; refine (one_any b _ 3 _ hcd (by omega)).mono ?_; rintro e w10 ⟨t1, rfl, hc10, hg10⟩; have hS10 := hSd.pick hc10 hg10; have q10 := hS10.ts.c1; have q10a := (hS10.alloc (.cells #[.bool t1] 4)).ts.c1; have hrow10 := hS10.ts.own.2.1; have hsz10 : w.heap.size + 1 < w10.heap.size := hS10.lt)
                | (refine step_append_lies _ (by rfl) _ _ _ (by rfl) (w.heap.size + 2) 4 j0 (.bool false) 1 1 Try.underlying23 hj jz0 jz1 jz2 rfl (by decide) _ F.length _ (by rfl) (World.ownsRow.alloc hrow10 _) ⟨w10.heap.size, 0, none⟩ 1 1 [.bool t1] (by rfl) rfl (World.news_of_block (heap_alloc_new w10 _)) (onebM _) (by omega) (by unfold maxLen; omega) (by omega) (by simp; omega) (w10.heap.size + 1) (by simp) ?_; intro g8 cap8 w8 hown8 hgrow8 hat8 hlt8; obtain ⟨⟨q8, f8, k8⟩, hS8⟩ := hS10.ends hown8 hgrow8 hat8)
                | fail "none")
            all_goals
              have HS8 : Hid (DMt w b (.slice (some ⟨g9, 0, none⟩) (L.length + 1) cap9) (.slice (some ⟨g8, 0, none⟩) (F.length + 1) cap8) (L ++ [l]) (F ++ [t1]) (us ++ [.slice al 3 cl']) (m + 6 + 8 * (k + 1)) (w8.setCell ⟨w.heap.size + 1, 1, none⟩ (.slice (some ⟨g8, 0, none⟩) (F.length + 1) cap8))) := hS8.le (by omega)
              have hLM : Hid ((L ++ [l]).length = k + 1 ∧ (F ++ [t1]).length = k + 1 ∧ ∀ i, i < k + 1 → (rx (L ++ [l]) i).length = 3) := ⟨hLN.out.1, by rw [List.length_append, hLn.out.2.1]; rfl, hLN.out.2⟩
              clear hS8 hown8 hgrow8 hat8 hlt8 hS10 hrow10 hc10 hg10 hSd hcd t6 t6d q10 q10a HS6
              go_wp2
              go_roundw
              case rel => exact ⟨k + 1, _, _, _, _, _, by omega, by go_num, hLM, HS8⟩
              case measure => simp [intOf]; omega
      · have hke : k = n := by omega
        have hge : ¬ ((k : Int) < (n : Int)) := by omega
        have HLE : Hid (L.length ≤ 13 ∧ F.length ≤ 13 ∧ ∀ i, i < L.length → (rx L i).length ≤ 3) := ⟨by rw [hLn.out.1]; exact hk13, by rw [hLn.out.2.1]; exact hk13, fun i hi => by rw [hLn.out.2.2 i (by have := hLn.out.1; omega)]; exact Nat.le_refl _⟩
        have HL0 : Hid (0 < L.length ∧ (rx L 0).length = 3) := ⟨by rw [hLn.out.1]; omega, hLn.out.2.2 0 (by omega)⟩
        clear hke
        go_wp2_with fail
        refine (one_any b _ 30 _ hD.out.cur (by omega)).mono ?_
        rintro e w7 ⟨t, rfl, hc7, hg7⟩
        have hS7 := hD.out.pick hc7 hg7
        clear hc7 hg7 hD hLn
        obtain ⟨at1, ct1, htv⟩ := hS7.ts.own.1.slice
        obtain ⟨at2, ct2, hte⟩ := ERow.slice hS7.ts.own.2.1
        subst htv hte
        have c0 := hS7.ts.c0
        have c1 := hS7.ts.c1
        have y0 := hS7.y0
        have y1 := hS7.y1
        have z0 := hS7.z0
        have z1 := hS7.z1
        have hsz := hS7.lt
        have HS7 : Hid (DMt w b (.slice at1 L.length ct1) (.slice at2 F.length ct2) L F us (m + 6 + 8 * k + 2) w7) := hS7
        clear hS7
        cases t
        · go_wp2
          (try simp only [Exit.inBlock, Exit.then])
          refine bodyPost_ret (v := .agg #[.slice at1 L.length ct1, .slice at2 F.length ct2]) ?_ rfl ?_
          · rw [rc]
            go_simp
          · exact mac_fin HS7.out.cur HS7.out.ts.own HS7.out.gr hbw HLE.out (by omega) _ _
        · obtain ⟨gN, hgN⟩ : ∃ gN, at1 = some ⟨gN, 0, none⟩ := by
            obtain ⟨g, cap, hv⟩ := Joins.ownsRow_form HS7.out.ts.own.1.1 (by have := HL0.out.1; omega)
            simp only [Value.slice.injEq] at hv
            exact ⟨g, hv.1⟩
          subst hgN
          obtain ⟨u0, hu0, hz0', hn0⟩ := HS7.out.ts.own.1.2.1 0 HL0.out.1
          obtain ⟨g0, cp0, hv0⟩ := Joins.ownsRow_form hz0' (by have := HL0.out.2; omega)
          subst hv0
          rw [HL0.out.2] at hu0 hz0'
          have HU0 : Hid (us[0]? = some (.slice (some ⟨g0, 0, none⟩) 3 cp0)) := hu0
          have HNE0 : Hid (g0 ≠ gN ∧ g0 ≠ w.heap.size + 1 ∧ w.heap.size + 1 < g0 ∧ gN ≠ w.heap.size + 1 ∧ gN < w7.heap.size ∧ g0 < w7.heap.size) := by
            have h1 := World.ownsRow.lt HS7.out.ts.own.1.1 gN rfl
            have h2 := World.ownsRow.lt hz0' g0 rfl
            refine ⟨fun e => ?_, by omega, by omega, by omega, h1.2, h2.2⟩
            subst e
            exact hn0 _ rfl rfl
          have cN0 : w7.cell? ⟨gN, 0, none⟩ = some (.slice (some ⟨g0, 0, none⟩) 3 cp0) := by
            rw [World.ownsRow.cellAt HS7.out.ts.own.1.1 0 (by have := HL0.out.1; omega)]
            exact hu0
          obtain ⟨yy, rr, hyr⟩ : ∃ y r, rx L 0 = y :: r := by
            match e : rx L 0, HL0.out.2 with
            | y :: r, _ => exact ⟨y, r, rfl⟩
          have HYR : Hid (rx L 0 = yy :: rr) := hyr
          have HST : Hid (∀ (w' : World) (m' : Nat), DMt w b (.slice (some ⟨gN, 0, none⟩) L.length ct1) (.slice at2 F.length ct2) L F us m' w' → (w'.cell? ⟨w.heap.size + 1, 0, none⟩ = some (.slice (some ⟨gN, 0, none⟩) L.length ct1) ∧ w'.cell? ⟨gN, 0, none⟩ = some (.slice (some ⟨g0, 0, none⟩) 3 cp0)) ∧ w'.cell? ⟨g0, 0, none⟩ = some (.int .i64 yy) ∧ w'.frozen? ⟨g0, 0, none⟩ = false) := fun w' m' h => by
            refine ⟨⟨h.ts.c0, ?_⟩, ?_⟩
            · rw [World.ownsRow.cellAt h.ts.own.1.1 0 (by have := HL0.out.1; omega)]
              exact HU0.out
            · obtain ⟨u, k1, k2, _⟩ := h.ts.own.1.2.1 0 HL0.out.1
              rw [HU0.out] at k1
              simp at k1
              subst k1
              have k3 : w'.ownsRow (w.heap.size + 2) 3 1 (.slice (some ⟨g0, 0, none⟩) 3 cp0) 3 (zints (rx L 0)) := by
                have h := k2
                unfold ZRow at h
                rw [HL0.out.2] at h
                exact h
              refine ⟨?_, World.ownsRow.frozenAt k3 0⟩
              rw [World.ownsRow.cellAt k3 0 (by omega), HYR.out]
              rfl
          have hSw := (HST.out _ _ HS7.out).1
          have hSd := (HST.out _ _ HS7.out.drew).1
          have hSa := fun o => (HST.out _ _ (HS7.out.alloc o).drew).1
          have hSs : ∀ (w' : World) (x : Value), (w'.cell? ⟨w.heap.size + 1, 0, none⟩ = some (.slice (some ⟨gN, 0, none⟩) L.length ct1) ∧ w'.cell? ⟨gN, 0, none⟩ = some (.slice (some ⟨g0, 0, none⟩) 3 cp0)) → (w'.setCell ⟨g0, 0, none⟩ x).cell? ⟨w.heap.size + 1, 0, none⟩ = some (.slice (some ⟨gN, 0, none⟩) L.length ct1) ∧ (w'.setCell ⟨g0, 0, none⟩ x).cell? ⟨gN, 0, none⟩ = some (.slice (some ⟨g0, 0, none⟩) 3 cp0) := fun w' x h => by
            obtain ⟨n1, n2, _, _, _, _⟩ := HNE0.out
            refine ⟨?_, ?_⟩
            · rw [World.cell?_setCell_other _ _ _ _ (fun e => by have := congrArg Addr.block e; simp at this; omega)]; exact h.1
            · rw [World.cell?_setCell_other _ _ _ _ (fun e => by have := congrArg Addr.block e; simp at this; omega)]; exact h.2
          have HSS : Hid (type_of% hSs) := hSs
          have hl0 : 0 < L.length := HL0.out.1
          have hl0' : (0 : Int) < (L.length : Int) := by omega
          have hg0l : g0 < w7.heap.size := HNE0.out.2.2.2.2.2
          have hgNl : gN < w7.heap.size := HNE0.out.2.2.2.2.1
          clear hSs hyr hu0 hz0' hn0 c0 c1 y0 y1 z0 z1 cN0
          go_upto_region 16 with fail
          go_region_held3 (fun w' => w'.cell? ⟨w.heap.size + 1, 0, none⟩ = some (.slice (some ⟨gN, 0, none⟩) L.length ct1) ∧ w'.cell? ⟨gN, 0, none⟩ = some (.slice (some ⟨g0, 0, none⟩) 3 cp0))
            (first
              | with_reducible exact hS9
              | with_reducible exact hS8'
              | with_reducible exact hSa _
              | with_reducible exact hSd
              | exact hSw)
            (first
              | (go_at_call 78; (with_reducible refine (among_two (x := -1) (y := (n : Int)) b (m + 6 + 8 * k + 4) w7.heap.size _ ((HS7.out.alloc _).drew).cur (by omega) (by omega) (by omega) (by go_simp) (by go_simp)).mono ?_); rintro e w8 ⟨x8, rfl, hc8, hg8⟩; have hS8 := ((HS7.out.alloc _).drew).pick hc8 hg8; obtain ⟨hS8', r0, rf0⟩ := HST.out _ _ hS8; have hS9 := HSS.out w8 (.int .i64 x8) hS8'; have HS8 : Hid (DMt w b (.slice (some ⟨gN, 0, none⟩) L.length ct1) (.slice at2 F.length ct2) L F us (m + 6 + 8 * k + 4) w8) := hS8; have hl8 : g0 < w8.heap.size := (by have := hg8.size; simp at this; omega)))
          all_goals
            obtain ⟨W9, hW9⟩ : ∃ W, W = w8.setCell ⟨g0, 0, none⟩ (.int .i64 x8) := ⟨_, rfl⟩
            have HO9 : Hid (MaOwn W9 (w.heap.size + 2) (.slice (some ⟨gN, 0, none⟩) L.length ct1) (.slice at2 F.length ct2) (L.set 0 (x8 :: rr)) F us) := by
              show MaOwn _ _ _ _ _ _ _
              rw [hW9]
              exact HS8.out.ts.own.write HU0.out HYR.out HL0.out.2 HL0.out.1
            have hgs := Lib.grownBy_setCell w8 g0 0 (.int .i64 x8)
            have hbelow : Below (w.heap.size + 2) w8 W9 := by
              rw [hW9]
              exact (Below.refl _ w8).setCell (p := ⟨g0, 0, none⟩) (by show w.heap.size + 2 ≤ g0; have := HNE0.out; omega) _
            have HC9 : Hid (Cur W9 b (m + 6 + 8 * k + 4)) := HS8.out.cur.below (hbelow.mono (by omega))
            have HG9 : Hid (w.grownBy W9 (some b)) := ⟨hbelow.os.trans HS8.out.gr.os, hbelow.tape.trans HS8.out.gr.tape, hbelow.output.trans HS8.out.gr.output, Nat.le_trans HS8.out.gr.size hbelow.size, fun i hi hne => (hbelow.block i (by omega)).trans (HS8.out.gr.block i hi hne)⟩
            have v0 := (hbelow.cell (p := ⟨w.heap.size + 1, 0, none⟩) (by show w.heap.size + 1 < _; omega)).trans HS8.out.ts.c0
            have v1 := (hbelow.cell (p := ⟨w.heap.size + 1, 1, none⟩) (by show w.heap.size + 1 < _; omega)).trans HS8.out.ts.c1
            have y0 := (hbelow.cell (p := ⟨w.heap.size, 0, none⟩) (by show w.heap.size < _; omega)).trans HS8.out.y0
            have y1 := (hbelow.cell (p := ⟨w.heap.size, 1, none⟩) (by show w.heap.size < _; omega)).trans HS8.out.y1
            have z0 := (hbelow.frozen (p := ⟨w.heap.size, 0, none⟩) (by show w.heap.size < _; omega)).trans HS8.out.z0
            have z1 := (hbelow.frozen (p := ⟨w.heap.size, 1, none⟩) (by show w.heap.size < _; omega)).trans HS8.out.z1
            have hs9 : w.heap.size + 1 < W9.heap.size := Nat.lt_of_lt_of_le HS8.out.lt hbelow.size
            have HLS : Hid ((L.set 0 (x8 :: rr)).length ≤ 13 ∧ F.length ≤ 13 ∧ ∀ i, i < (L.set 0 (x8 :: rr)).length → (rx (L.set 0 (x8 :: rr)) i).length ≤ 3) := by
              refine ⟨by rw [List.length_set]; exact HLE.out.1, HLE.out.2.1, fun i hi => ?_⟩
              rw [List.length_set] at hi
              rw [rx_set]
              split
              · have h := HL0.out.2
                rw [HYR.out] at h
                simp at h ⊢
                omega
              · exact HLE.out.2.2 i hi
            clear hS8 hS8' hS9 r0 rf0 hc8 hg8 hSw hSd hSa hgs hbelow HSS
            go_upto_region 17 with fail
            rw [← hW9]
            clear hW9
            go_wp2
            (try simp only [Exit.inBlock, Exit.then])
            refine bodyPost_ret (v := .agg #[.slice (some ⟨gN, 0, none⟩) L.length ct1, .slice at2 F.length ct2]) ?_ rfl ?_
            · rw [rc]
              go_simp
            · exact mac_fin HC9.out HO9.out HG9.out hbw HLS.out (by omega) _ _

end Go.Proofs.Ytecgjhnihagleaa
