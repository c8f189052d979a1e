/- Lists of boxes in arrays: rows of six cells; the program's sidesOfAll. -/
import Derived.Test.YtnbaeplbnonhkaaByM
import Derived.Test.YtnbaeplbnonhkaaBxI
import Derived.Test.YtnbaeplbnonhkaaBxE
import Derived.Deep.AppendLies
namespace Go.Proofs.Ytnbaeplbnonhkaa
open Go.RowKit Plain Sch Bxs

def Bxs.Bx.cells (x : Bx) : List Value := [.int .i64 x.a.lo, .int .i64 x.a.hi, .int .i64 x.b.lo, .int .i64 x.b.hi, .int .i64 x.c.lo, .int .i64 x.c.hi]
def xb (X : List Bx) (i : Nat) : Bx := X.getD i default

theorem flat6B (l : List Bx) (i j : Nat) (h : i < l.length) (hj : j < 6) : (l.flatMap Bx.cells)[i * 6 + j]? = (xb l i).cells[j]? := by
  induction l generalizing i with
  | nil => simp at h
  | cons a l ih =>
    rw [List.flatMap_cons]
    have ha : a.cells.length = 6 := rfl
    cases i with
    | zero =>
      rw [Nat.zero_mul, Nat.zero_add, List.getElem?_append_left (by omega)]
      rfl
    | succ i =>
      rw [List.getElem?_append_right (by omega)]
      have := ih i (by simpa using h)
      have e : xb (a :: l) (i + 1) = xb l i := by simp [xb]
      rw [e, ← this]
      congr 1
      omega

theorem flat6B_len (l : List Bx) : (l.flatMap Bx.cells).length = l.length * 6 := by
  induction l with
  | nil => rfl
  | cons a l ih => rw [List.flatMap_cons, List.length_append, ih, List.length_cons]; have : a.cells.length = 6 := rfl; omega

/-- an own row of arrays -/
def ARow (w : World) (B : Nat) (v : Value) (X : List Bx) : Prop := w.ownsRow B 60 6 v X.length (X.flatMap Bx.cells)

/-- a slice of arrays, in blocks below B -/
def AsAt (w : World) (B : Nat) (v : Value) (X : List Bx) : Prop :=
  ∃ ao cap, v = .slice ao X.length cap ∧ X.length ≤ cap ∧ cap ≤ maxLen ∧ ∀ i, i < X.length → ∃ g o, ao = some ⟨g, o, none⟩ ∧ g < B ∧ ArrIn w g (o + i * 6) (xb X i)

theorem AsAt.below {w w' : World} {v : Value} {X : List Bx} {B : Nat} (h : AsAt w B v X) (hb : Below B w w') (hB : B ≤ w.heap.size := by exact Nat.le_refl _) : AsAt w' w'.heap.size v X := by
  obtain ⟨ao, cap, hv, hc, hm, hr⟩ := h
  refine ⟨ao, cap, hv, hc, hm, fun i hi => ?_⟩
  obtain ⟨g, o, ha, hg, c⟩ := hr i hi
  have := hb.size
  exact ⟨g, o, ha, by omega, c.below hb hg⟩

theorem ARow.at {w : World} {B : Nat} {v : Value} {X : List Bx} (h : ARow w B v X) : AsAt w w.heap.size v X := by
  have h0 : w.ownsRow B 60 6 v X.length (X.flatMap Bx.cells) := h
  obtain ⟨_, ⟨rfl, hn0⟩ | ⟨g, cap, cur, rfl, hB, hb, hnc, hcm, _⟩⟩ := h
  · exact ⟨none, 0, by rw [hn0], by omega, by unfold maxLen; omega, fun i hi => by omega⟩
  · refine ⟨some ⟨g, 0, none⟩, cap, rfl, hnc, hcm, fun i hi => ⟨g, 0, rfl, (h0.lt g rfl).2, ?_⟩⟩
    have c : ∀ j, j < 6 → w.cell? ⟨g, 0 + i * 6 + j, none⟩ = (xb X i).cells[j]? := fun j hj => by
      rw [Nat.zero_add, h0.cellAt (i * 6 + j) (by omega)]
      exact flat6B X i j hi hj
    exact ⟨c 0 (by omega), c 1 (by omega), c 2 (by omega), c 3 (by omega), c 4 (by omega), c 5 (by omega)⟩

theorem ARow.slice {w : World} {B : Nat} {v : Value} {X : List Bx} (h : ARow w B v X) : ∃ ao cap, v = Value.slice ao X.length cap := by
  rcases h.2 with ⟨rfl, h0⟩ | ⟨g, cap, _, rfl, _⟩
  · exact ⟨none, 0, by rw [h0]⟩
  · exact ⟨_, _, rfl⟩

theorem ARow.nil (w : World) (B : Nat) : ARow w B (.slice none 0 0) [] := ⟨rfl, .inl ⟨rfl, rfl⟩⟩

theorem ARow.below {w w' : World} {B : Nat} {v : Value} {X : List Bx} (h : ARow w B v X) (hb : Below w.heap.size w w') : ARow w' B v X := own_below2 h hb

theorem one6B (a b c d e f : Int) : ∀ u ∈ [Value.int .i64 a, .int .i64 b, .int .i64 c, .int .i64 d, .int .i64 e, .int .i64 f], u.oneCell' = true := by
  intro u hu
  simp at hu
  rcases hu with rfl | rfl | rfl | rfl | rfl | rfl <;> rfl

theorem Try.infoArr : (Try.prog.info? 60).map (fun i => (i.zero, i.size, i.bytes)) = some (some (.agg #[.int .i64 0, .int .i64 0, .int .i64 0, .int .i64 0, .int .i64 0, .int .i64 0]), 6, 48) := by kernel_rfl

theorem ARow.snoc {w : World} {B g cap : Nat} {X : List Bx} {x : Bx} (hown : w.ownsRow B 60 6 (.slice (some ⟨g, 0, none⟩) (X.length + 1) cap) (X.length + 1) (X.flatMap Bx.cells ++ x.cells)) : ARow w B (.slice (some ⟨g, 0, none⟩) (X.length + 1) cap) (X ++ [x]) := by
  show World.ownsRow _ _ _ _ _ _ _
  rw [List.length_append, List.flatMap_append]
  simpa using hown

/-- a row grown at its end, seen from below -/
theorem grown_belowB {w w9 : World} {B e size n : Nat} {v : Value} {xs : List Value} {o : Obj} (h : w.ownsRow B e size v n xs) (hgrow : (w.alloc o).grownBy w9 v.ownBlock) (hB : B ≤ w.heap.size) : Below B w w9 := by
  have hlt := h.lt
  have hs : w.heap.size + 1 ≤ w9.heap.size := by have := hgrow.size; simpa using this
  refine ⟨hgrow.os, hgrow.tape, hgrow.output, by omega, fun j hj => ?_⟩
  exact (hgrow.block j (by simp; omega) (fun e => by have := (hlt j e.symm).1; omega)).trans (Below.heap_alloc _ _ _ (by omega))

def gl (M : List (List Sd)) : Bool := decide (M.length ≤ 20) && M.all gb
/-- what sidesOfAll tells -/
def sal (M : List (List Sd)) : List Bx := if gl M then M.map bx else []

theorem mx_mem {M : List (List Sd)} {i : Nat} (h : i < M.length) : mx M i ∈ M := by
  unfold mx
  rw [List.getD, List.getElem?_eq_getElem h]
  exact List.getElem_mem h

theorem gl_bad {M : List (List Sd)} {i : Nat} (h : i < M.length) (hb : gb (mx M i) = false) : gl M = false := by
  unfold gl
  rw [Bool.and_eq_false_iff]
  right
  rw [List.all_eq_false]
  exact ⟨_, mx_mem h, by rw [hb]; decide⟩

theorem gl_len {M : List (List Sd)} (h : ¬ M.length ≤ 20) : gl M = false := by
  unfold gl
  simp [h]

theorem gl_all {M : List (List Sd)} (h3 : M.length ≤ 20) (h : ∀ i, i < M.length → gb (mx M i) = true) : gl M = true := by
  unfold gl
  rw [Bool.and_eq_true]
  refine ⟨by simp [h3], ?_⟩
  rw [List.all_eq_true]
  intro x hx
  obtain ⟨i, hi, he⟩ := List.getElem_of_mem hx
  have := h i hi
  unfold mx at this
  rw [List.getD, List.getElem?_eq_getElem hi] at this
  rw [← he]
  exact this

theorem gl_get {M : List (List Sd)} (h : gl M = true) : M.length ≤ 20 ∧ ∀ i, i < M.length → gb (mx M i) = true := by
  unfold gl at h
  rw [Bool.and_eq_true, List.all_eq_true] at h
  exact ⟨by simpa using h.1, fun i hi => h.2 _ (mx_mem hi)⟩

theorem map_take (M : List (List Sd)) (i : Nat) (h : i < M.length) : (M.map bx).take (i + 1) = (M.map bx).take i ++ [bx (mx M i)] := by
  rw [List.take_add_one, List.getElem?_map, List.getElem?_eq_getElem h]
  unfold mx
  rw [List.getD, List.getElem?_eq_getElem h]
  rfl

set_option maxRecDepth 100000 in
set_option maxHeartbeats 8000000 in
theorem sidesOfAll_any (M : List (List Sd)) (v : Value) (w : World) (hT : BxsAt w w.heap.size v M) :
    Calls Try.prog 44 #[v] w fun e w' => (∃ r, e = .returned (.tuple #[r, .bool (gl M)]) ∧ ARow w' w.heap.size r (sal M)) ∧ Below w.heap.size w w' := by
  obtain ⟨i0, hi0, hz0, hz1', hz2⟩ := info_parts Try.infoArr
  obtain ⟨ao, cap, rfl, hlc, hcm, hrow⟩ := hT
  unfold maxLen at hcm
  have HROW : Hid (∀ i, i < M.length → ∃ g o u, ao = some ⟨g, o, none⟩ ∧ g < w.heap.size ∧ w.cell? ⟨g, o + i, none⟩ = some u ∧ SdsAt w w.heap.size u (mx M i)) := hrow
  clear hrow
  obtain ⟨R, hR⟩ : ∃ R, R = sal M := ⟨_, rfl⟩
  obtain ⟨G, hG⟩ : ∃ G, G = gl M := ⟨_, rfl⟩
  rw [← hR, ← hG]
  have HNo : Hid (gl M = false → R = [] ∧ G = false) := fun h => by rw [hR, hG]; unfold sal; rw [h]; exact ⟨rfl, rfl⟩
  have HYes : Hid (gl M = true → R = M.map bx ∧ G = true) := fun h => by rw [hR, hG]; unfold sal; rw [h]; exact ⟨rfl, rfl⟩
  clear hR hG
  by_cases h20 : M.length ≤ 20
  · have h20' : ¬ (20 : Int) < (M.length : Int) := by omega
    go_enter Try.func44, Try.ntmps44
    go_wp2
    go_loopw [4, 14] (fun vl vi wr => ∃ i : Nat, i ≤ M.length ∧ vi = .int .i64 (i : Int) ∧ Hid (∀ j, j < i → gb (mx M j) = true) ∧ Hid (ARow wr w.heap.size vl ((M.map bx).take i)) ∧ Hid (Below w.heap.size w wr))
      (fun _ vi _ => M.length - (intOf vi).toNat)
    case atStart => exact ⟨0, by omega, rfl, fun j hj => by omega, ARow.nil _ _, Below.refl _ _⟩
    case round =>
      obtain ⟨i, hi, rfl, hall, hA, hBw⟩ := hrel
      obtain ⟨L, hL⟩ : ∃ L, L = (M.map bx).take i := ⟨_, rfl⟩
      have HL : Hid (L = (M.map bx).take i) := hL
      rw [← hL] at hA
      have hLl : L.length ≤ 20 := by rw [hL, List.length_take]; omega
      clear hL
      obtain ⟨av, cv, hv0⟩ := hA.out.slice
      subst hv0
      have hsz : w.heap.size ≤ wr.heap.size := hBw.out.size
      by_cases hlt : i < M.length
      · have hlt' : (i : Int) < (M.length : Int) := by omega
        obtain ⟨g, o, u, rfl, hg, hc, hs⟩ := HROW.out i hlt
        have c0 := (hBw.out.cell (p := ⟨g, o + i, none⟩) hg).trans hc
        have hs2 := hs.below hBw.out
        obtain ⟨su, cu, rfl, _⟩ := hs
        obtain ⟨W3, hW3⟩ : ∃ W, W = wr.alloc (.cells #[.slice su (mx M i).length cu] 25) := ⟨_, rfl⟩
        have hA3 : Below wr.heap.size wr W3 := by rw [hW3]; exact (Below.refl _ wr).alloc (Nat.le_refl _) _
        have z0 : W3.cell? ⟨wr.heap.size, 0, none⟩ = some (.slice su (mx M i).length cu) := by rw [hW3]; go_simp
        have HS3 : Hid (SdsAt W3 W3.heap.size (.slice su (mx M i).length cu) (mx M i)) := hs2.below hA3
        have hl3 : wr.heap.size < W3.heap.size := by rw [hW3]; simp
        clear hc hs2
        go_upto_region 7 with fail
        rw [← hW3]
        clear hW3 c0
        go_wp2_with fail
        refine (sidesOf_any (mx M i) _ _ HS3.out).mono ?_
        rintro e w4 ⟨rfl, hb4⟩
        have hA4 : Below wr.heap.size wr w4 := hA3.trans (hb4.mono (by omega))
        obtain ⟨X, hX⟩ : ∃ X, X = sof (mx M i) := ⟨_, rfl⟩
        obtain ⟨gk, hgk⟩ : ∃ g, g = gb (mx M i) := ⟨_, rfl⟩
        have HX : Hid (gk = true → bx (mx M i) = X) := fun h => by rw [hX]; rw [hgk] at h; unfold sof; rw [h]; rfl
        have HGK : Hid (gk = gb (mx M i)) := hgk
        rw [← hX, ← hgk]
        clear hX hgk hb4 hA3
        obtain ⟨W5, hW5⟩ : ∃ W, W = w4.alloc X.obj := ⟨_, rfl⟩
        have hA7 : Hid (ArrAt W5 w4.heap.size X) := by rw [hW5]; exact ArrAt.made w4 X
        have hA5 : Below wr.heap.size wr W5 := by rw [hW5]; exact hA4.alloc hA4.size _
        have hz5 : w4.heap.size < W5.heap.size := hA7.out.1
        have HB5 : Hid (Below w.heap.size w W5) := hBw.out.trans (hA5.mono hsz)
        have HA5 : Hid (ARow W5 w.heap.size (.slice av L.length cv) L) := hA.out.below hA5
        obtain ⟨⟨x0, x1⟩, ⟨x2, x3⟩, ⟨x4, x5⟩⟩ := X
        unfold Bx.val
        dsimp only [Bx.obj] at hW5
        dsimp only
        go_upto_region 8 with fail
        rw [← hW5]
        clear hW5 hA hBw hA4
        cases gk with
        | false =>
          have hF : Hid (R = [] ∧ G = false) := HNo.out (gl_bad hlt HGK.out.symm)
          clear hall HX
          go_wp2
          go_ret2
          exact ⟨⟨_, by rw [hF.out.2]; rfl, by rw [hF.out.1]; exact ARow.nil _ _⟩, HB5.out⟩
        | true =>
          have hN : Hid (∀ j, j < i + 1 → gb (mx M j) = true) := fun j hj => by
            by_cases e : j = i
            · rw [e]; exact HGK.out.symm
            · exact hall.out j (by omega)
          have HPS : Hid ((M.map bx).take (i + 1) = L ++ [⟨⟨x0, x1⟩, ⟨x2, x3⟩, ⟨x4, x5⟩⟩]) := by
            rw [HL.out, ← HX.out (by trivial)]
            exact map_take M i hlt
          obtain ⟨_, ⟨d0, d1, d2, d3, d4, d5⟩, _⟩ := hA7.out
          dsimp only [Nat.zero_add] at d0 d1 d2 d3 d4 d5
          clear hall hA7
          have hB5z : w.heap.size ≤ W5.heap.size := HB5.out.size
          go_wp2_with (at_builtin; refine wpList_append_lies _ rfl _ _ 71 rfl w.heap.size 60 i0 (.agg #[.int .i64 0, .int .i64 0, .int .i64 0, .int .i64 0, .int .i64 0, .int .i64 0]) 6 48 Try.underlying71 hi0 hz0 hz1' hz2 rfl (by decide) _ L.length _ rfl (World.ownsRow.alloc HA5.out _) ⟨W5.heap.size, 0, none⟩ 1 1 [.int .i64 x0, .int .i64 x1, .int .i64 x2, .int .i64 x3, .int .i64 x4, .int .i64 x5] rfl rfl (World.news_of_block (heap_alloc_new W5 _)) (one6B _ _ _ _ _ _) (by omega) (by unfold maxLen; omega) (by omega) (by simp; omega) (W5.heap.size + 1) (by simp) ?_)
          intro g9 cap9 w9 hown9 hgrow9 hat9 hlt9
          have HA9 : Hid (ARow w9 w.heap.size (.slice (some ⟨g9, 0, none⟩) (L.length + 1) cap9) (L ++ [⟨⟨x0, x1⟩, ⟨x2, x3⟩, ⟨x4, x5⟩⟩])) := ARow.snoc hown9
          have HB9 : Hid (Below w.heap.size w w9) := HB5.out.trans (grown_belowB HA5.out hgrow9 hB5z)
          clear hown9 hgrow9 hat9 hlt9 HA5 HB5 d0 d1 d2 d3 d4 d5
          go_wp2
          go_roundw
          case rel => exact ⟨i + 1, by omega, by go_num, hN, by show ARow _ _ _ _; rw [HPS.out]; exact HA9.out, HB9⟩
          case measure => simp [intOf]; omega
      · have hke : i = M.length := by omega
        subst hke
        have hge : ¬ ((M.length : Int) < (M.length : Int)) := by omega
        have hF : Hid (R = M.map bx ∧ G = true) := HYes.out (gl_all h20 hall.out)
        have HA9 : Hid (ARow wr w.heap.size (.slice av L.length cv) (M.map bx)) := by
          have h := hA.out
          have e : L = M.map bx := by rw [HL.out]; exact List.take_of_length_le (by simp)
          rw [← e]
          exact h
        clear hall hA
        go_wp2
        go_ret2
        exact ⟨⟨_, by rw [hF.out.2]; rfl, by rw [hF.out.1]; exact HA9.out⟩, hBw.out⟩
  · have h20' : (20 : Int) < (M.length : Int) := by omega
    have hF : Hid (R = [] ∧ G = false) := HNo.out (gl_len h20)
    go_enter Try.func44, Try.ntmps44
    go_wp2
    go_ret2
    exact ⟨⟨_, by rw [hF.out.2]; rfl, by rw [hF.out.1]; exact ARow.nil _ _⟩, Below.refl _ _⟩

end Go.Proofs.Ytnbaeplbnonhkaa
