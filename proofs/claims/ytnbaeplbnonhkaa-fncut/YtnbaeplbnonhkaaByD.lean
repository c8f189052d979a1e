/- The program's CutAway. -/
import Derived.Test.YtnbaeplbnonhkaaBxB
import Derived.Test.YtnbaeplbnonhkaaByC
import Derived.Test.YtnbaeplbnonhkaaByB
namespace Go.Proofs.Ytnbaeplbnonhkaa
open Go.RowKit Plain Sch Bxs

/-- what CutAway tells -/
def cto (T U : List Sd) : List (List Sd) := if gb T && gb U then (cut (bx T) (bx U)).map Bx.list else []

theorem map_takeL (X : List Bx) (i : Nat) (h : i < X.length) : (X.map Bx.list).take (i + 1) = (X.map Bx.list).take i ++ [(xb X i).list] := by
  rw [List.take_add_one, List.getElem?_map, List.getElem?_eq_getElem h]
  unfold xb
  rw [List.getD, List.getElem?_eq_getElem h]
  rfl

theorem cutK_len (x k : Bx) : (cutK x k).length ≤ 6 := by
  rw [← cutP_all, cutP_3, List.length_append]
  have := cutP_len2 x k
  have := pcs_len (fun s => ⟨k.a, k.b, s⟩) x.c k.c
  omega
theorem cut_len (x y : Bx) : (cut x y).length ≤ 6 := by
  unfold cut
  split
  · simp
  · exact cutK_len _ _

set_option maxRecDepth 100000 in
set_option maxHeartbeats 4000000 in
theorem implCut (T U : List Sd) (v u : Value) (w : World) (hT : SdsAt w w.heap.size v T) (hU : SdsAt w w.heap.size u U) :
    Calls Try.prog 23 #[.agg #[v], .agg #[u]] w fun e w' => (∃ r, e = .returned (.tuple #[r, .bool (gb T && gb U)]) ∧ ∃ us, BOwn w' w.heap.size r (cto T U) us) ∧ Below w.heap.size w w' := by
  obtain ⟨i0, hi0, hz0, hz1', hz2'⟩ := info_parts Try.infoBx
  have HT : Hid (SdsAt w w.heap.size v T) := hT
  have HU : Hid (SdsAt w w.heap.size u U) := hU
  obtain ⟨ao, cap, rfl, _⟩ := hT
  obtain ⟨bo, dap, rfl, _⟩ := hU
  obtain ⟨W1, hW1⟩ : ∃ W, W = (w.alloc (.cells #[.slice ao T.length cap] 25)).alloc (.cells #[.slice bo U.length dap] 25) := ⟨_, rfl⟩
  have hB1 : Below w.heap.size w W1 := by rw [hW1]; exact ((Below.refl _ w).alloc (Nat.le_refl _) _).alloc (by simp) _
  have hs1 : Hid (W1.heap.size = w.heap.size + 2) := by show _ = _; rw [hW1]; simp
  have q0 : W1.cell? ⟨w.heap.size, 0, none⟩ = some (.slice ao T.length cap) := by rw [hW1]; go_simp
  have q1 : W1.cell? ⟨w.heap.size + 1, 0, none⟩ = some (.slice bo U.length dap) := by rw [hW1]; go_simp
  go_enter Try.func23, Try.ntmps23
  go_upto_region 1 with fail
  rw [← hW1]
  clear hW1
  go_wp2_with fail
  refine (sidesOfBoth_any T U _ _ W1 (HT.out.below hB1) (HU.out.below hB1)).mono ?_
  rintro e w2 ⟨rfl, hb2⟩
  have hB2 : Below w.heap.size w w2 := hB1.trans (hb2.mono hB1.size)
  obtain ⟨X, hX⟩ : ∃ X, X = sof T := ⟨_, rfl⟩
  obtain ⟨Y, hY⟩ : ∃ Y, Y = sof U := ⟨_, rfl⟩
  obtain ⟨g, hg⟩ : ∃ g, g = (gb T && gb U) := ⟨_, rfl⟩
  have HX : Hid (g = true → bx T = X ∧ bx U = Y) := fun h => by
    rw [hX, hY]
    rw [hg, Bool.and_eq_true] at h
    unfold sof
    rw [h.1, h.2]
    exact ⟨rfl, rfl⟩
  have HG : Hid ((gb T && gb U) = g) := hg.symm
  rw [← hX, ← hY, ← hg]
  clear hX hY hg q0 q1
  obtain ⟨W3, hW3⟩ : ∃ W, W = (w2.alloc X.obj).alloc Y.obj := ⟨_, rfl⟩
  have hs3 : Hid (W3.heap.size = w2.heap.size + 2) := by show _ = _; rw [hW3]; simp
  have hA6 : Hid (ArrAt W3 w2.heap.size X) := by
    show ArrAt _ _ _
    rw [hW3]
    exact (ArrAt.made w2 X).kept (Below.heap_alloc _ _ _ (by simp)) (by simp)
  have hA7 : Hid (ArrAt W3 (w2.heap.size + 1) Y) := by
    show ArrAt _ _ _
    rw [hW3]
    have h := ArrAt.made (w2.alloc X.obj) Y
    simp only [World.size_alloc] at h
    exact h
  have hB23 : Hid (Below w2.heap.size w2 W3) := by rw [hW3]; exact ((Below.refl _ w2).alloc (Nat.le_refl _) _).alloc (by simp) _
  have hB3 : Below w.heap.size w W3 := hB2.trans (hB23.out.mono hB2.size)
  have hz1 := hs1.out
  have hz2 := hb2.size
  have hz3 := hs3.out
  obtain ⟨⟨x0, x1⟩, ⟨x2, x3⟩, ⟨x4, x5⟩⟩ := X
  obtain ⟨⟨y0, y1⟩, ⟨y2, y3⟩, ⟨y4, y5⟩⟩ := Y
  unfold Bx.val
  dsimp only [Bx.obj] at hW3
  dsimp only
  go_upto_region 2 with fail
  rw [← hW3]
  clear hW3 hb2 hs1 hs3
  cases g with
  | false =>
    have hF : Hid (cto T U = [] ∧ (gb T && gb U) = false) := ⟨by unfold cto; rw [HG.out]; rfl, HG.out⟩
    clear hA6 hA7 hB23
    go_wp2
    go_ret2
    exact ⟨⟨_, by rw [hF.out.2]; rfl, by rw [hF.out.1]; exact ⟨[], BOwn.nil _ _⟩⟩, hB3⟩
  | true =>
    obtain ⟨_, ⟨c0, c1, c2, c3, c4, c5⟩, _⟩ := hA6.out
    obtain ⟨_, ⟨d0, d1, d2, d3, d4, d5⟩, _⟩ := hA7.out
    dsimp only [Nat.zero_add] at c0 c1 c2 c3 c4 c5 d0 d1 d2 d3 d4 d5
    have hxy := HX.out (by trivial)
    have hgg := HG.out
    have hF : Hid (cto T U = (cut ⟨⟨x0, x1⟩, ⟨x2, x3⟩, ⟨x4, x5⟩⟩ ⟨⟨y0, y1⟩, ⟨y2, y3⟩, ⟨y4, y5⟩⟩).map Bx.list ∧ (gb T && gb U) = true) := ⟨by unfold cto; rw [hgg, hxy.1, hxy.2]; rfl, hgg⟩
    rw [Bool.and_eq_true] at hgg
    have hox : okB ⟨⟨x0, x1⟩, ⟨x2, x3⟩, ⟨x4, x5⟩⟩ = true := by rw [← hxy.1]; exact (gb_good hgg.1).2
    have hoy : okB ⟨⟨y0, y1⟩, ⟨y2, y3⟩, ⟨y4, y5⟩⟩ = true := by rw [← hxy.2]; exact (gb_good hgg.2).2
    have CW : Hid (Calls Try.prog 49 #[.agg #[.int .i64 x0, .int .i64 x1, .int .i64 x2, .int .i64 x3, .int .i64 x4, .int .i64 x5], .agg #[.int .i64 y0, .int .i64 y1, .int .i64 y2, .int .i64 y3, .int .i64 y4, .int .i64 y5]] W3 fun e w' => ∃ r, e = .returned r ∧ ARow w' W3.heap.size r (cut ⟨⟨x0, x1⟩, ⟨x2, x3⟩, ⟨x4, x5⟩⟩ ⟨⟨y0, y1⟩, ⟨y2, y3⟩, ⟨y4, y5⟩⟩) ∧ Below W3.heap.size W3 w') := without_any ⟨⟨x0, x1⟩, ⟨x2, x3⟩, ⟨x4, x5⟩⟩ ⟨⟨y0, y1⟩, ⟨y2, y3⟩, ⟨y4, y5⟩⟩ W3 hox hoy
    obtain ⟨X, hX⟩ : ∃ X, X = cut ⟨⟨x0, x1⟩, ⟨x2, x3⟩, ⟨x4, x5⟩⟩ ⟨⟨y0, y1⟩, ⟨y2, y3⟩, ⟨y4, y5⟩⟩ := ⟨_, rfl⟩
    have hXl : X.length ≤ 6 := by rw [hX]; exact cut_len _ _
    rw [← hX] at CW hF
    clear hX hox hoy hgg hxy HX HG hA6 hA7 hB23
    go_wp2_with fail
    refine CW.out.mono ?_
    rintro e w4 ⟨r4, rfl, hr4, hb4⟩
    have HB4 : Hid (Below w.heap.size w w4) := hB3.trans (hb4.mono hB3.size)
    obtain ⟨ar, cr, rfl⟩ := hr4.slice
    obtain ⟨ao4, cap4, hv4, hlc4, hcm4, hrow4⟩ := hr4.at
    simp only [Value.slice.injEq, true_and] at hv4
    obtain ⟨rfl, rfl⟩ := hv4
    unfold maxLen at hcm4
    have HROW : Hid (∀ i, i < X.length → ∃ g o, ar = some ⟨g, o, none⟩ ∧ g < w4.heap.size ∧ ArrIn w4 g (o + i * 6) (xb X i)) := hrow4
    have hs4 : w.heap.size ≤ w4.heap.size := HB4.out.size
    clear hrow4 hr4 CW hb4 c0 c1 c2 c3 c4 c5 d0 d1 d2 d3 d4 d5
    go_wp2
    go_loopw [9, 25] (fun vl vi wr => ∃ i : Nat, i ≤ X.length ∧ vi = .int .i64 (i : Int) ∧ Hid (∃ us, BOwn wr w4.heap.size vl ((X.map Bx.list).take i) us) ∧ Hid (Below w4.heap.size w4 wr))
      (fun _ vi _ => X.length - (intOf vi).toNat)
    case atStart => exact ⟨0, by omega, rfl, ⟨[], BOwn.nil _ _⟩, Below.refl _ _⟩
    case round =>
      obtain ⟨i, hi, rfl, hO0, hBw⟩ := hrel
      obtain ⟨us, hO1⟩ := hO0.out
      obtain ⟨L, hL⟩ : ∃ L, L = (X.map Bx.list).take i := ⟨_, rfl⟩
      have HL : Hid (L = (X.map Bx.list).take i) := hL
      rw [← hL] at hO1
      have hLl : L.length ≤ 6 := by rw [hL, List.length_take]; omega
      have HO : Hid (BOwn wr w4.heap.size u9 L us) := hO1
      clear hL hO0 hO1
      obtain ⟨av, cv, hv0⟩ := HO.out.slice
      subst hv0
      have hsz : w4.heap.size ≤ wr.heap.size := hBw.out.size
      by_cases hlt : i < X.length
      · have hlt' : (i : Int) < (X.length : Int) := by omega
        obtain ⟨g, o, rfl, hg, hc⟩ := HROW.out i hlt
        have hci := hc.below hBw.out hg
        obtain ⟨x, hx⟩ : ∃ x, xb X i = x := ⟨_, rfl⟩
        have HPS : Hid ((X.map Bx.list).take (i + 1) = L ++ [x.list]) := by rw [HL.out, ← hx]; exact map_takeL X i hlt
        rw [hx] at hci
        clear hx hc
        obtain ⟨W5, hW5⟩ : ∃ W, W = wr.alloc x.obj := ⟨_, rfl⟩
        have hA11 : Hid (ArrAt W5 wr.heap.size x) := by rw [hW5]; exact ArrAt.made wr x
        have hB5 : Below wr.heap.size wr W5 := by rw [hW5]; exact (Below.refl _ wr).alloc (Nat.le_refl _) _
        obtain ⟨⟨p0, p1⟩, ⟨p2, p3⟩, ⟨p4, p5⟩⟩ := x
        obtain ⟨e0, e1, e2, e3, e4, e5⟩ := hci
        dsimp only [Bx.obj] at hW5
        dsimp only at e0 e1 e2 e3 e4 e5
        go_upto_region 8 with fail
        rw [← hW5]
        clear hW5 e0 e1 e2 e3 e4 e5
        obtain ⟨_, ⟨c0, c1, c2, c3, c4, c5⟩, _⟩ := hA11.out
        dsimp only [Nat.zero_add] at c0 c1 c2 c3 c4 c5
        go_wp2_with fail
        refine (box_any ⟨⟨p0, p1⟩, ⟨p2, p3⟩, ⟨p4, p5⟩⟩ _).mono ?_
        rintro e w6 ⟨v6, rfl, hr6, hb6⟩
        have hB6 : Below wr.heap.size wr w6 := hB5.trans (hb6.mono hB5.size)
        have HQ6 : Hid (QRow w6 wr.heap.size v6 (Bx.list ⟨⟨p0, p1⟩, ⟨p2, p3⟩, ⟨p4, p5⟩⟩)) := ⟨_, own_lower hr6 hB5.size⟩
        have HO6 : Hid (BOwn w6 w4.heap.size (.slice av L.length cv) L us) := HO.out.below hB6
        have HB6 : Hid (Below w4.heap.size w4 w6) := hBw.out.trans (hB6.mono hsz)
        obtain ⟨a6, cc6, hv6⟩ := hr6.slice
        have hv6' : v6 = .slice a6 3 cc6 := hv6
        clear hv6
        subst hv6'
        have hs6 := hB6.size
        clear hr6 hb6 hA11 hB5 hBw c0 c1 c2 c3 c4 c5
        go_wp2_with (at_builtin; refine wpList_append_lies _ rfl _ _ 37 rfl w4.heap.size 25 i0 (.agg #[.slice none 0 0]) 1 24 Try.underlying37 hi0 hz0 hz1' hz2' rfl (by decide) _ L.length _ rfl (World.ownsRow.alloc HO6.out.1 _) ⟨w6.heap.size, 0, none⟩ 1 1 [.slice a6 3 cc6] rfl rfl (World.news_of_block (heap_alloc_new w6 _)) (one1B _ _ _) (by omega) (by unfold maxLen; omega) (by omega) (by simp; omega) (w6.heap.size + 1) (by simp) ?_)
        intro g9 cap9 w9 hown9 hgrow9 hat9 hlt9
        have HO9 : Hid (∃ us, BOwn w9 w4.heap.size (.slice (some ⟨g9, 0, none⟩) (L.length + 1) cap9) (L ++ [Bx.list ⟨⟨p0, p1⟩, ⟨p2, p3⟩, ⟨p4, p5⟩⟩]) us) := ⟨_, HO.out.snoc hB6 HQ6.out hown9 hgrow9 hat9 hsz⟩
        have HB9 : Hid (Below w4.heap.size w4 w9) := HB6.out.trans (grown_belowB HO6.out.1 hgrow9 (by omega))
        clear hown9 hgrow9 hat9 hlt9 HO6 HB6 HQ6 HO hB6
        go_wp2
        go_roundw
        case rel => exact ⟨i + 1, by omega, by go_num, by rw [HPS.out]; exact HO9, HB9⟩
        case measure => simp [intOf]; omega
      · have hke : i = X.length := by omega
        subst hke
        have hge : ¬ ((X.length : Int) < (X.length : Int)) := by omega
        have hLe : L = X.map Bx.list := by rw [HL.out]; exact List.take_of_length_le (by simp)
        have HO9 : Hid (∃ us, BOwn wr w.heap.size (.slice av L.length cv) (X.map Bx.list) us) := by
          have h := HO.out
          refine ⟨us, ?_⟩
          rw [← hLe]
          exact ⟨own_lower h.1 hs4, fun j hj => by obtain ⟨u, h1, h2, h3⟩ := h.2.1 j hj; exact ⟨u, h1, h2.lower hs4, h3⟩, h.2.2⟩
        have HB9 : Hid (Below w.heap.size w wr) := HB4.out.trans (hBw.out.mono hs4)
        clear hLe HO hBw
        go_wp2
        go_ret2
        exact ⟨⟨_, by rw [hF.out.2]; rfl, by rw [hF.out.1]; exact HO9.out⟩, HB9.out⟩

end Go.Proofs.Ytnbaeplbnonhkaa
