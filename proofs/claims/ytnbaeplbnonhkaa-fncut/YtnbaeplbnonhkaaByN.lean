/- Which boxes are needed: the program's neededOf, LeastCover. -/
import Derived.Test.YtnbaeplbnonhkaaByA
import Derived.Test.YtnbaeplbnonhkaaBxC
import Derived.Test.YtnbaeplbnonhkaaZnA
namespace Go.Proofs.Ytnbaeplbnonhkaa
open Go.RowKit Plain Sch Bxs
attribute [local go_sem ↓] neqB

/-- whether the box k makes the box i not needed -/
def ndd (X : List Bx) (i k : Nat) : Bool := cov (xb X k) (xb X i) && (!beq9 (xb X k) (xb X i) || decide (k < i))
def nd (X : List Bx) (i k : Nat) : Bool := (List.range k).all fun j => !ndd X i j
/-- the numbers of those needed among the first i -/
def lst (X : List Bx) (i : Nat) : List Int := ((List.range i).filter fun j => nd X j X.length).map fun (j : Nat) => (j : Int)

theorem nd_zero (X : List Bx) (i : Nat) : nd X i 0 = true := rfl
theorem nd_step (X : List Bx) (i k : Nat) : nd X i (k + 1) = (nd X i k && !ndd X i k) := by
  unfold nd
  rw [List.range_succ, List.all_append]
  simp

theorem lst_zero (X : List Bx) : lst X 0 = [] := rfl
theorem lst_yes (X : List Bx) (i : Nat) (h : nd X i X.length = true) : lst X (i + 1) = lst X i ++ [(i : Int)] := by
  unfold lst
  rw [List.range_succ, List.filter_append, List.map_append]
  simp [h]
theorem lst_no (X : List Bx) (i : Nat) (h : nd X i X.length = false) : lst X (i + 1) = lst X i := by
  unfold lst
  rw [List.range_succ, List.filter_append, List.map_append]
  simp [h]
theorem lst_len (X : List Bx) (i : Nat) : (lst X i).length ≤ i := by
  unfold lst
  rw [List.length_map]
  exact Nat.le_trans (List.length_filter_le _ _) (by simp)

theorem ZRow.nil9 (w : World) (B : Nat) : ZRow w B (.slice none 0 0) [] := ⟨rfl, .inl ⟨rfl, rfl⟩⟩
theorem ZRow.snoc9 {w : World} {B g cap : Nat} {l : List Int} {x : Int} (hown : w.ownsRow B 3 1 (.slice (some ⟨g, 0, none⟩) (l.length + 1) cap) (l.length + 1) (zints l ++ [.int .i64 x])) : ZRow w B (.slice (some ⟨g, 0, none⟩) (l.length + 1) cap) (l ++ [x]) := by
  show World.ownsRow _ _ _ _ _ _ _
  rw [List.length_append]
  have e : zints (l ++ [x]) = zints l ++ [.int .i64 x] := by unfold zints; simp
  rw [e]
  exact hown
theorem one1Z (x : Int) : ∀ u ∈ [Value.int .i64 x], u.oneCell' = true := by
  intro u hu
  simp at hu
  subst hu
  rfl

theorem Try.infoIntN : (Try.prog.info? 3).map (fun i => (i.zero, i.size, i.bytes)) = some (some (.int .i64 0), 1, 8) := by kernel_rfl

set_option maxRecDepth 100000 in
set_option maxHeartbeats 8000000 in
theorem neededOf_any (X : List Bx) (v : Value) (w : World) (hX : AsAt w w.heap.size v X) (h20 : X.length ≤ 20) :
    Calls Try.prog 45 #[v, .func (.func 34) #[] #[]] w fun e w' => ∃ r, e = .returned r ∧ ZRow w' w.heap.size r (lst X X.length) ∧ Below w.heap.size w w' := by
  obtain ⟨i0, hi0, hz0, hz1', hz2⟩ := info_parts Try.infoIntN
  obtain ⟨ao, cap, rfl, hlc, hcm, hrow⟩ := hX
  unfold maxLen at hcm
  have HROW : Hid (∀ i, i < X.length → ∃ g o, ao = some ⟨g, o, none⟩ ∧ g < w.heap.size ∧ ArrIn w g (o + i * 6) (xb X i)) := hrow
  clear hrow
  go_enter Try.func45, Try.ntmps45
  go_wp2
  go_loopw [5, 13] (fun vl vi wr => ∃ i : Nat, i ≤ X.length ∧ vi = .int .i64 (i : Int) ∧ Hid (ZRow wr w.heap.size vl (lst X i)) ∧ Hid (Below w.heap.size w wr))
    (fun _ vi _ => X.length - (intOf vi).toNat)
  case atStart => exact ⟨0, by omega, rfl, by rw [lst_zero]; exact ZRow.nil9 _ _, Below.refl _ _⟩
  case round =>
    obtain ⟨i, hi, rfl, hZ, hBw⟩ := hrel
    obtain ⟨L, hL⟩ : ∃ L, L = lst X i := ⟨_, rfl⟩
    have HL : Hid (L = lst X i) := hL
    rw [← hL] at hZ
    have hLl : L.length ≤ 20 := by rw [hL]; have := lst_len X i; omega
    clear hL
    obtain ⟨av, cv, hv0⟩ := ZRow.slice hZ.out
    subst hv0
    have hsz : w.heap.size ≤ wr.heap.size := hBw.out.size
    by_cases hlt : i < X.length
    · have hlt' : (i : Int) < (X.length : Int) := by omega
      have hi20 : (i : Int) ≤ 20 := by omega
      obtain ⟨g, o, rfl, hg, hc⟩ := HROW.out i hlt
      have hci := hc.below hBw.out hg
      obtain ⟨x, hx⟩ : ∃ x, xb X i = x := ⟨_, rfl⟩
      have HXI : Hid (xb X i = x) := hx
      rw [hx] at hci
      clear hx hc
      obtain ⟨W3, hW3⟩ : ∃ W, W = wr.alloc x.obj := ⟨_, rfl⟩
      have hA7 : Hid (ArrAt W3 wr.heap.size x) := by rw [hW3]; exact ArrAt.made wr x
      have hB13 : Below wr.heap.size wr W3 := by rw [hW3]; exact (Below.refl _ wr).alloc (Nat.le_refl _) _
      have hl3 : wr.heap.size < W3.heap.size := hA7.out.1
      have HB3 : Hid (Below w.heap.size w W3) := hBw.out.trans (hB13.mono hsz)
      have HZ3 : Hid (ZRow W3 w.heap.size (.slice av L.length cv) L) := ZRow.below hZ.out hB13
      obtain ⟨⟨x0, x1⟩, ⟨x2, x3⟩, ⟨x4, x5⟩⟩ := x
      obtain ⟨c0, c1, c2, c3, c4, c5⟩ := hci
      dsimp only [Bx.obj] at hW3
      dsimp only at c0 c1 c2 c3 c4 c5
      go_upto_region 5 with fail
      rw [← hW3]
      clear hW3 c0 c1 c2 c3 c4 c5 hB13 hZ hBw
      go_wp2
      obtain ⟨wo, rfl⟩ : ∃ W, W = wr := ⟨_, rfl⟩
      go_loopw [8, 20] (fun vn vi wr => ∃ k : Nat, k ≤ X.length ∧ vi = .int .i64 (k : Int) ∧ vn = .bool (nd X i k) ∧ Hid (Below W3.heap.size W3 wr))
        (fun _ vi _ => X.length - (intOf vi).toNat)
      case atStart => exact ⟨0, by omega, rfl, rfl, Below.refl _ _⟩
      case round =>
        obtain ⟨k, hk, rfl, rfl, hBk⟩ := hrel
        have hB0 : Below w.heap.size w wr := HB3.out.trans (hBk.out.mono (by omega))
        have hszk : W3.heap.size ≤ wr.heap.size := hBk.out.size
        by_cases hltk : k < X.length
        · have hltk' : (k : Int) < (X.length : Int) := by omega
          obtain ⟨g2, o2, hao, hg2, hc2⟩ := HROW.out k hltk
          simp only [Option.some.injEq, Addr.mk.injEq, and_true] at hao
          obtain ⟨rfl, rfl⟩ := hao
          have hci2 := hc2.below hB0 hg2
          obtain ⟨y, hy⟩ : ∃ y, xb X k = y := ⟨_, rfl⟩
          have HYK : Hid (xb X k = y) := hy
          rw [hy] at hci2
          clear hy hc2
          obtain ⟨W5, hW5⟩ : ∃ W, W = wr.alloc y.obj := ⟨_, rfl⟩
          have hA10 : Hid (ArrAt W5 wr.heap.size y) := by rw [hW5]; exact ArrAt.made wr y
          have hB5 : Below wr.heap.size wr W5 := by rw [hW5]; exact (Below.refl _ wr).alloc (Nat.le_refl _) _
          have hA75 : Hid (ArrAt W5 wo.heap.size ⟨⟨x0, x1⟩, ⟨x2, x3⟩, ⟨x4, x5⟩⟩) := (hA7.out.below hBk.out hl3).below hB5 (by omega)
          have HB35 : Hid (Below W3.heap.size W3 W5) := hBk.out.trans (hB5.mono hszk)
          have hl5 : wr.heap.size < W5.heap.size := hA10.out.1
          have hl57 : wo.heap.size < W5.heap.size := hA75.out.1
          obtain ⟨⟨y0, y1⟩, ⟨y2, y3⟩, ⟨y4, y5⟩⟩ := y
          obtain ⟨e0, e1, e2, e3, e4, e5⟩ := hci2
          dsimp only [Bx.obj] at hW5
          dsimp only at e0 e1 e2 e3 e4 e5
          go_upto_region 9 with fail
          rw [← hW5]
          clear hW5 e0 e1 e2 e3 e4 e5 hB5 hBk hB0
          have f10 := hA10.out.2.1
          have f7 := hA75.out.2.1
          obtain ⟨c0, c1, c2, c3, c4, c5⟩ := f7
          obtain ⟨d0, d1, d2, d3, d4, d5⟩ := f10
          dsimp only [Nat.zero_add] at c0 c1 c2 c3 c4 c5 d0 d1 d2 d3 d4 d5
          have HND : Hid (nd X i (k + 1) = (nd X i k && !(cov ⟨⟨y0, y1⟩, ⟨y2, y3⟩, ⟨y4, y5⟩⟩ ⟨⟨x0, x1⟩, ⟨x2, x3⟩, ⟨x4, x5⟩⟩ && (!beq9 ⟨⟨y0, y1⟩, ⟨y2, y3⟩, ⟨y4, y5⟩⟩ ⟨⟨x0, x1⟩, ⟨x2, x3⟩, ⟨x4, x5⟩⟩ || decide (k < i))))) := by
            show _ = _
            rw [nd_step]
            unfold ndd
            rw [HXI.out, HYK.out]
          have CC : Hid (Calls Try.prog 34 #[.agg #[.int .i64 y0, .int .i64 y1, .int .i64 y2, .int .i64 y3, .int .i64 y4, .int .i64 y5], .agg #[.int .i64 x0, .int .i64 x1, .int .i64 x2, .int .i64 x3, .int .i64 x4, .int .i64 x5]] W5 fun e w' => e = .returned (.bool (cov ⟨⟨y0, y1⟩, ⟨y2, y3⟩, ⟨y4, y5⟩⟩ ⟨⟨x0, x1⟩, ⟨x2, x3⟩, ⟨x4, x5⟩⟩)) ∧ Below W5.heap.size W5 w') := covers_any ⟨⟨y0, y1⟩, ⟨y2, y3⟩, ⟨y4, y5⟩⟩ ⟨⟨x0, x1⟩, ⟨x2, x3⟩, ⟨x4, x5⟩⟩ W5
          obtain ⟨cv1, hcv1⟩ : ∃ c, c = cov ⟨⟨y0, y1⟩, ⟨y2, y3⟩, ⟨y4, y5⟩⟩ ⟨⟨x0, x1⟩, ⟨x2, x3⟩, ⟨x4, x5⟩⟩ := ⟨_, rfl⟩
          rw [← hcv1] at HND CC
          clear hcv1
          obtain ⟨q, hq⟩ : ∃ q, q = beq9 ⟨⟨y0, y1⟩, ⟨y2, y3⟩, ⟨y4, y5⟩⟩ ⟨⟨x0, x1⟩, ⟨x2, x3⟩, ⟨x4, x5⟩⟩ := ⟨_, rfl⟩
          have HQ : Hid (beq9 ⟨⟨y0, y1⟩, ⟨y2, y3⟩, ⟨y4, y5⟩⟩ ⟨⟨x0, x1⟩, ⟨x2, x3⟩, ⟨x4, x5⟩⟩ = q) := hq.symm
          rw [← hq] at HND
          clear hq
          obtain ⟨nk, hnk⟩ : ∃ n, n = nd X i k := ⟨_, rfl⟩
          rw [← hnk] at HND ⊢
          clear hnk
          go_wp2_with fail
          refine CC.out.mono ?_
          rintro e w6 ⟨rfl, hb6⟩
          have HB6 : Hid (Below W3.heap.size W3 w6) := HB35.out.trans (hb6.mono (by have := HB35.out.size; omega))
          obtain ⟨c0, c1, c2, c3, c4, c5⟩ := (hA75.out.below hb6 hA75.out.1).2.1
          obtain ⟨d0, d1, d2, d3, d4, d5⟩ := (hA10.out.below hb6 hA10.out.1).2.1
          dsimp only [Nat.zero_add] at c0 c1 c2 c3 c4 c5 d0 d1 d2 d3 d4 d5
          clear hb6 HB35 hA10 hA75 CC
          cases cv1 with
          | false =>
            have hE : Hid (nd X i (k + 1) = nk) := by show _ = _; rw [HND.out]; cases nk <;> rfl
            clear HND
            go_wp2
            go_roundw
            case rel => exact ⟨k + 1, by omega, by go_num, by rw [hE.out], HB6⟩
            case measure => simp [intOf]; omega
          | true =>
            cases q with
            | false =>
              have hq1 := HQ.out
              have hE : Hid (nd X i (k + 1) = false) := by show _ = _; rw [HND.out]; cases nk <;> rfl
              clear HND HQ
              go_wp2
              go_roundw
              case rel => exact ⟨k + 1, by omega, by go_num, by rw [hE.out], HB6⟩
              case measure => simp [intOf]; omega
            | true =>
              have hq1 := HQ.out
              by_cases hki : k < i
              · have hE : Hid (nd X i (k + 1) = false) := by show _ = _; rw [HND.out]; simp [hki]
                have hki' : (k : Int) < (i : Int) := by omega
                clear HND HQ
                go_wp2
                go_roundw
                case rel => exact ⟨k + 1, by omega, by go_num, by rw [hE.out], HB6⟩
                case measure => simp [intOf]; omega
              · have hE : Hid (nd X i (k + 1) = nk) := by show _ = _; rw [HND.out]; simp [hki]
                have hki' : ¬ (k : Int) < (i : Int) := by omega
                clear HND HQ
                go_wp2
                go_roundw
                case rel => exact ⟨k + 1, by omega, by go_num, by rw [hE.out], HB6⟩
                case measure => simp [intOf]; omega
        · have hke : k = X.length := by omega
          subst hke
          have hge : ¬ ((X.length : Int) < (X.length : Int)) := by omega
          obtain ⟨nk, hnk⟩ : ∃ n, n = nd X i X.length := ⟨_, rfl⟩
          have HNK : Hid (nk = nd X i X.length) := hnk
          rw [← hnk]
          clear hnk
          have HZk : Hid (ZRow wr w.heap.size (.slice av L.length cv) L) := ZRow.below HZ3.out hBk.out
          have HB0 : Hid (Below w.heap.size w wr) := hB0
          clear hB0 hBk
          cases nk with
          | false =>
            have hE : Hid (lst X (i + 1) = L) := by rw [HL.out]; exact lst_no X i HNK.out.symm
            go_wp2
            go_roundw
            case rel => exact ⟨i + 1, by omega, by go_num, by show ZRow _ _ _ _; rw [hE.out]; exact HZk.out, HB0⟩
            case measure => simp [intOf]; omega
          | true =>
            have hE : Hid (lst X (i + 1) = L ++ [(i : Int)]) := by rw [HL.out]; exact lst_yes X i HNK.out.symm
            have hBz : w.heap.size ≤ wr.heap.size := HB0.out.size
            go_wp2_with (at_builtin; refine wpList_append_lies _ rfl _ _ 34 rfl w.heap.size 3 i0 (.int .i64 0) 1 8 Try.underlying34 hi0 hz0 hz1' hz2 rfl (by decide) _ L.length _ rfl (World.ownsRow.alloc HZk.out _) ⟨wr.heap.size, 0, none⟩ 1 1 [.int .i64 (i : Int)] rfl rfl (World.news_of_block (heap_alloc_new wr _)) (one1Z _) (by omega) (by unfold maxLen; omega) (by omega) (by simp; omega) (wr.heap.size + 1) (by simp) ?_)
            intro g9 cap9 w9 hown9 hgrow9 hat9 hlt9
            have HZ9 : Hid (ZRow w9 w.heap.size (.slice (some ⟨g9, 0, none⟩) (L.length + 1) cap9) (L ++ [(i : Int)])) := ZRow.snoc9 hown9
            have HB9 : Hid (Below w.heap.size w w9) := HB0.out.trans (grown_belowB HZk.out hgrow9 hBz)
            clear hown9 hgrow9 hat9 hlt9 HZk HB0
            go_wp2
            go_roundw
            case rel => exact ⟨i + 1, by omega, by go_num, by show ZRow _ _ _ _; rw [hE.out]; exact HZ9.out, HB9⟩
            case measure => simp [intOf]; omega
    · have hke : i = X.length := by omega
      subst hke
      have hge : ¬ ((X.length : Int) < (X.length : Int)) := by omega
      have HZ9 : Hid (ZRow wr w.heap.size (.slice av L.length cv) (lst X X.length)) := by rw [← HL.out]; exact hZ.out
      clear hZ
      go_wp2
      go_ret
      exact ⟨_, rfl, HZ9.out, hBw.out⟩

/-- what LeastCover tells -/
def lco (M : List (List Sd)) : List Int := if gl M then lst (M.map bx) M.length else []

set_option maxRecDepth 100000 in
set_option maxHeartbeats 4000000 in
theorem implLeast (M : List (List Sd)) (v : Value) (w : World) (hT : BxsAt w w.heap.size v M) :
    Calls Try.prog 18 #[v] w fun e w' => (∃ r, e = .returned (.tuple #[r, .bool (gl M)]) ∧ ZRow w' w.heap.size r (lco M)) ∧ Below w.heap.size w w' := by
  have HT : Hid (BxsAt w w.heap.size v M) := hT
  obtain ⟨ao, cap, rfl, _⟩ := hT
  obtain ⟨R, hR⟩ : ∃ R, R = lco M := ⟨_, rfl⟩
  obtain ⟨G, hG⟩ : ∃ G, G = gl M := ⟨_, rfl⟩
  obtain ⟨X, hX⟩ : ∃ X, X = sal M := ⟨_, rfl⟩
  rw [← hR, ← hG]
  have HNo : Hid (G = false → R = []) := fun h => by rw [hR]; unfold lco; rw [← hG, h]; rfl
  have HYes : Hid (G = true → R = lst X X.length ∧ X.length ≤ 20) := fun h => by
    rw [hG] at h
    have e : sal M = M.map bx := by unfold sal; rw [h]; rfl
    rw [hR, hX, e]
    unfold lco
    rw [h, List.length_map]
    exact ⟨rfl, (gl_get h).1⟩
  have S1 : Hid (∀ W v, BxsAt W W.heap.size v M → Calls Try.prog 44 #[v] W fun e w' => (∃ r, e = .returned (.tuple #[r, .bool G]) ∧ ARow w' W.heap.size r X) ∧ Below W.heap.size W w') := fun W v h => by rw [hX, hG]; exact sidesOfAll_any M v W h
  clear hR hX hG
  go_enter Try.func18, Try.ntmps18
  go_wp2_with fail
  refine (S1.out _ _ HT.out).mono ?_
  rintro e w2 ⟨⟨r2, rfl, hr2⟩, hb2⟩
  have HR2 : Hid (ARow w2 w.heap.size r2 X) := hr2
  obtain ⟨ar, cr, rfl⟩ := hr2.slice
  clear hr2
  cases G with
  | false =>
    have hF : Hid (R = []) := HNo.out rfl
    clear HNo HYes
    go_wp2
    go_ret2
    exact ⟨⟨_, rfl, by rw [hF.out]; exact ZRow.nil9 _ _⟩, hb2⟩
  | true =>
    have hF : Hid (R = lst X X.length) := (HYes.out rfl).1
    have h20 : X.length ≤ 20 := (HYes.out rfl).2
    clear HNo HYes
    go_wp2_with fail
    refine (neededOf_any X _ _ HR2.out.at h20).mono ?_
    rintro e w4 ⟨r4, rfl, hr4, hb4⟩
    have hB4 : Below w.heap.size w w4 := hb2.trans (hb4.mono hb2.size)
    have HR4 : Hid (ZRow w4 w.heap.size r4 R) := by rw [hF.out]; exact ZRow.lower hr4 hb2.size
    clear hr4
    go_wp2
    go_ret2
    exact ⟨⟨_, rfl, HR4.out⟩, hB4⟩

end Go.Proofs.Ytnbaeplbnonhkaa
