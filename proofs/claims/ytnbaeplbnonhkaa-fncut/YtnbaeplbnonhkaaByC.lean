/- What is left of a box when another is cut away: the program's without. -/
import Derived.Test.YtnbaeplbnonhkaaByA
import Derived.Test.YtnbaeplbnonhkaaBxG
import Derived.RegionTactic
import Derived.BigRegion
namespace Go.Proofs.Ytnbaeplbnonhkaa
open Go.RowKit Plain Sch Bxs

def pc1 (f : Sd → Bx) (s k : Sd) : List Bx := if s.lo < k.lo then [f ⟨s.lo, k.lo - 1⟩] else []
def pc2 (f : Sd → Bx) (s k : Sd) : List Bx := if k.hi < s.hi then [f ⟨k.hi + 1, s.hi⟩] else []
theorem pcs_eq (f : Sd → Bx) (s k : Sd) : pcs f s k = pc1 f s k ++ pc2 f s k := rfl

/-- the pieces of the first i sides -/
def cutP (x k : Bx) (i : Nat) : List Bx := (if 0 < i then pcs (fun s => ⟨s, x.b, x.c⟩) x.a k.a else []) ++ ((if 1 < i then pcs (fun s => ⟨k.a, s, x.c⟩) x.b k.b else []) ++ (if 2 < i then pcs (fun s => ⟨k.a, k.b, s⟩) x.c k.c else []))

theorem cutP_0 (x k : Bx) : cutP x k 0 = [] := rfl
theorem cutP_1 (x k : Bx) : cutP x k 1 = cutP x k 0 ++ pcs (fun s => ⟨s, x.b, x.c⟩) x.a k.a := by simp [cutP]
theorem cutP_2 (x k : Bx) : cutP x k 2 = cutP x k 1 ++ pcs (fun s => ⟨k.a, s, x.c⟩) x.b k.b := by simp [cutP]
theorem cutP_3 (x k : Bx) : cutP x k 3 = cutP x k 2 ++ pcs (fun s => ⟨k.a, k.b, s⟩) x.c k.c := by simp [cutP]
theorem cutP_all (x k : Bx) : cutP x k 3 = cutK x k := rfl
theorem pc1_len (f : Sd → Bx) (s k : Sd) : (pc1 f s k).length ≤ 1 := by unfold pc1; split <;> simp
theorem pc2_len (f : Sd → Bx) (s k : Sd) : (pc2 f s k).length ≤ 1 := by unfold pc2; split <;> simp
theorem pcs_len (f : Sd → Bx) (s k : Sd) : (pcs f s k).length ≤ 2 := by rw [pcs_eq, List.length_append]; have := pc1_len f s k; have := pc2_len f s k; omega
theorem cutP_len1 (x k : Bx) : (cutP x k 1).length ≤ 2 := by rw [cutP_1, cutP_0, List.nil_append]; exact pcs_len _ _ _
theorem cutP_len2 (x k : Bx) : (cutP x k 2).length ≤ 4 := by rw [cutP_2, List.length_append]; have := cutP_len1 x k; have := pcs_len (fun s => ⟨k.a, s, x.c⟩) x.b k.b; omega

/-- a side's block, and the row beside it -/
def T9 (w : World) (b : Nat) (kl kh : Int) (v : Value) : Prop := w.cell? ⟨b, 0, none⟩ = some (.int .i64 kl) ∧ w.cell? ⟨b, 1, none⟩ = some (.int .i64 kh) ∧ b < w.heap.size ∧ ∀ g, v.ownBlock = some g → g ≠ b

theorem T9.below {w w' : World} {b : Nat} {kl kh : Int} {v : Value} (h : T9 w b kl kh v) (hb : Below w.heap.size w w') : T9 w' b kl kh v :=
  ⟨(hb.cell (p := ⟨b, 0, none⟩) h.2.2.1).trans h.1, (hb.cell (p := ⟨b, 1, none⟩) h.2.2.1).trans h.2.1, Nat.lt_of_lt_of_le h.2.2.1 hb.size, h.2.2.2⟩

theorem T9.set {w : World} {b : Nat} {kl kh : Int} {v : Value} (h : T9 w b kl kh v) {a : Addr} (ha : a.block ≠ b) (u : Value) : T9 (w.setCell a u) b kl kh v := by
  have hk : (w.setCell a u).heap[b]? = w.heap[b]? := Below.heap_setCell _ _ _ _ (fun e => ha e.symm)
  exact ⟨(World.cell?_of_block (w := w) hk).trans h.1, (World.cell?_of_block (w := w) hk).trans h.2.1, by simpa [World.setCell] using h.2.2.1, h.2.2.2⟩

theorem T9.grow {w w9 : World} {b g n cap : Nat} {kl kh : Int} {v : Value} {o : Obj} (h : T9 w b kl kh v) (hg : (w.alloc o).grownBy w9 v.ownBlock) (hat : v.ownBlock = some g ∨ g = w.heap.size + 1) : T9 w9 b kl kh (.slice (some ⟨g, 0, none⟩) n cap) := by
  obtain ⟨h1, h2, h3, h4⟩ := h
  have hk : w9.heap[b]? = w.heap[b]? := (hg.block b (by simp; omega) (fun e => h4 b e.symm rfl)).trans (Below.heap_alloc _ _ _ h3)
  have hs := hg.size
  simp at hs
  refine ⟨(World.cell?_of_block (w := w) hk).trans h1, (World.cell?_of_block (w := w) hk).trans h2, by omega, fun g' e => ?_⟩
  simp [Value.ownBlock] at e
  rcases hat with e2 | e2
  · rw [← e]; exact h4 g e2
  · omega

theorem ArrAt.drew {w : World} {g : Nat} {x : Bx} (h : ArrAt w g x) : ArrAt w.drew g x := h.below ((Below.refl _ w).drew) h.1

set_option maxRecDepth 100000 in
set_option maxHeartbeats 16000000 in
theorem without_any (x y : Bx) (w : World) (hx : okB x = true) (hy : okB y = true) :
    Calls Try.prog 49 #[x.val, y.val] w fun e w' => ∃ r, e = .returned r ∧ ARow w' w.heap.size r (cut x y) ∧ Below w.heap.size w w' := by
  obtain ⟨i0, hi0, hz0, hz1', hz2⟩ := info_parts Try.infoArr
  obtain ⟨W1, hW1⟩ : ∃ W, W = (w.alloc x.obj).alloc y.obj := ⟨_, rfl⟩
  have hB1 : Below w.heap.size w W1 := by rw [hW1]; exact ((Below.refl _ w).alloc (Nat.le_refl _) _).alloc (by simp) _
  have hA0 : Hid (ArrAt W1 w.heap.size x) := by
    show ArrAt _ _ _
    rw [hW1]
    exact (ArrAt.made w x).kept (Below.heap_alloc _ _ _ (by simp)) (by simp)
  have hA1 : Hid (ArrAt W1 (w.heap.size + 1) y) := by
    show ArrAt _ _ _
    rw [hW1]
    have h := ArrAt.made (w.alloc x.obj) y
    simp only [World.size_alloc] at h
    exact h
  have hs1 : w.heap.size + 1 < W1.heap.size := hA1.out.1
  obtain ⟨R, hR⟩ : ∃ R, R = cut x y := ⟨_, rfl⟩
  rw [← hR]
  have HAp : Hid (apart x y = true → R = [x]) := fun h => by rw [hR]; unfold cut; rw [h]; rfl
  have HNo : Hid (apart x y = false → R = cutP x (mee x y) 3) := fun h => by rw [hR]; unfold cut; rw [h]; rfl
  clear hR
  have C : Hid (Calls Try.prog 38 #[x.val, y.val] W1 fun e w' => e = .returned (.tuple #[(mof9 x y).val, .bool (!apart x y)]) ∧ Below W1.heap.size W1 w') := meetWith_any x y W1
  obtain ⟨ap, hap⟩ : ∃ ap, ap = apart x y := ⟨_, rfl⟩
  obtain ⟨K, hK⟩ : ∃ K, K = mof9 x y := ⟨_, rfl⟩
  have HK : Hid (ap = false → mee x y = K ∧ okB K = true) := fun h => by
    rw [hap] at h
    have e : mof9 x y = mee x y := by unfold mof9; rw [h]; rfl
    rw [hK, e]
    exact ⟨rfl, mee_ok hx hy h⟩
  rw [← hap] at HAp HNo C
  rw [← hK] at C
  clear hap hK
  have hxa := (okB_iff x).1 hx
  obtain ⟨h1a, h1b, h1c⟩ := hxa
  rw [okS_iff] at h1a h1b h1c
  clear hx hy
  obtain ⟨_, ⟨c0, c1, c2, c3, c4, c5⟩, _⟩ := hA0.out
  obtain ⟨_, ⟨d0, d1, d2, d3, d4, d5⟩, _⟩ := hA1.out
  obtain ⟨⟨x0, x1⟩, ⟨x2, x3⟩, ⟨x4, x5⟩⟩ := x
  obtain ⟨⟨y0, y1⟩, ⟨y2, y3⟩, ⟨y4, y5⟩⟩ := y
  unfold Bx.val at C ⊢
  dsimp only [Bx.obj, Nat.zero_add] at hW1 c0 c1 c2 c3 c4 c5 d0 d1 d2 d3 d4 d5 h1a h1b h1c
  dsimp only at C
  go_enter Try.func49, Try.ntmps49
  go_upto_region 1 with fail
  rw [← hW1]
  clear hW1
  go_wp2_with fail
  refine C.out.mono ?_
  rintro e w2 ⟨rfl, hb2⟩
  obtain ⟨W3, hW3⟩ : ∃ W, W = w2.alloc K.obj := ⟨_, rfl⟩
  have hB23 : Below w2.heap.size w2 W3 := by rw [hW3]; exact (Below.refl _ w2).alloc (Nat.le_refl _) _
  have hA5 : Hid (ArrAt W3 w2.heap.size K) := by rw [hW3]; exact ArrAt.made w2 K
  have hB13 : Below W1.heap.size W1 W3 := hb2.trans (hB23.mono hb2.size)
  have hA03 : Hid (ArrAt W3 w.heap.size ⟨⟨x0, x1⟩, ⟨x2, x3⟩, ⟨x4, x5⟩⟩) := hA0.out.below hB13 hA0.out.1
  have HB3 : Hid (Below w.heap.size w W3) := hB1.trans (hB13.mono hB1.size)
  have hs3 : w2.heap.size < W3.heap.size := hA5.out.1
  have hs12 := hb2.size
  obtain ⟨⟨k0, k1⟩, ⟨k2, k3⟩, ⟨k4, k5⟩⟩ := K
  dsimp only [Bx.obj] at hW3
  dsimp only
  clear C hb2 hB23 hB13 hA0 hA1 c0 c1 c2 c3 c4 c5 d0 d1 d2 d3 d4 d5 hB1
  go_upto_region 2 with fail
  rw [← hW3]
  clear hW3
  obtain ⟨_, ⟨c0, c1, c2, c3, c4, c5⟩, _⟩ := hA03.out
  obtain ⟨_, ⟨d0, d1, d2, d3, d4, d5⟩, _⟩ := hA5.out
  dsimp only [Nat.zero_add] at c0 c1 c2 c3 c4 c5 d0 d1 d2 d3 d4 d5
  cases ap with
  | true =>
    have HF : Hid (R = [⟨⟨x0, x1⟩, ⟨x2, x3⟩, ⟨x4, x5⟩⟩]) := HAp.out rfl
    have hRow : Hid (ARow (W3.alloc (.cells #[.int .i64 x0, .int .i64 x1, .int .i64 x2, .int .i64 x3, .int .i64 x4, .int .i64 x5] 60)) w.heap.size (.slice (some ⟨W3.heap.size, 0, none⟩) 1 1) [⟨⟨x0, x1⟩, ⟨x2, x3⟩, ⟨x4, x5⟩⟩]) :=
      ⟨rfl, .inr ⟨W3.heap.size, 1, _, rfl, HB3.out.size, heap_alloc_new W3 _, Nat.le_refl _, by unfold maxLen; omega, rfl, rfl⟩⟩
    clear HAp HNo HK hA03 hA5
    go_wp2
    go_ret
    exact ⟨_, rfl, by rw [HF.out]; exact hRow.out, HB3.out.alloc HB3.out.size _⟩
  | false =>
    have HF := HNo.out rfl
    obtain ⟨hme, hKok⟩ := HK.out rfl
    rw [hme] at HF
    have hkk := (okB_iff _).1 hKok
    obtain ⟨h2a, h2b, h2c⟩ := hkk
    rw [okS_iff] at h2a h2b h2c
    dsimp only at h2a h2b h2c
    have hmx0 : Hid (mst ⟨⟨x0, x1⟩, ⟨x2, x3⟩, ⟨x4, x5⟩⟩ ⟨⟨y0, y1⟩, ⟨y2, y3⟩, ⟨y4, y5⟩⟩ 0 = ⟨⟨x0, x1⟩, ⟨x2, x3⟩, ⟨x4, x5⟩⟩) := rfl
    clear HAp HNo HK hme hKok hmx0
    obtain ⟨P, hP⟩ : ∃ P, P = cutP ⟨⟨x0, x1⟩, ⟨x2, x3⟩, ⟨x4, x5⟩⟩ ⟨⟨k0, k1⟩, ⟨k2, k3⟩, ⟨k4, k5⟩⟩ := ⟨_, rfl⟩
    have HP : Hid (P = cutP ⟨⟨x0, x1⟩, ⟨x2, x3⟩, ⟨x4, x5⟩⟩ ⟨⟨k0, k1⟩, ⟨k2, k3⟩, ⟨k4, k5⟩⟩) := hP
    have HRP : Hid (R = P 3) := by show _ = _; rw [HF, hP]
    obtain ⟨S, hS⟩ : ∃ S : Nat → Bx, S = fun i => ⟨if 0 < i then ⟨k0, k1⟩ else ⟨x0, x1⟩, if 1 < i then ⟨k2, k3⟩ else ⟨x2, x3⟩, if 2 < i then ⟨k4, k5⟩ else ⟨x4, x5⟩⟩ := ⟨_, rfl⟩
    have HS : Hid (S = fun i => ⟨if 0 < i then ⟨k0, k1⟩ else ⟨x0, x1⟩, if 1 < i then ⟨k2, k3⟩ else ⟨x2, x3⟩, if 2 < i then ⟨k4, k5⟩ else ⟨x4, x5⟩⟩) := hS
    have hS0 : Hid (ArrAt W3 w.heap.size (S 0)) := by rw [hS]; exact hA03.out
    have hP0 : Hid (ARow W3 (w.heap.size + 2) (.slice none 0 0) (P 0)) := by rw [hP, cutP_0]; exact ARow.nil _ _
    clear hP hS HF hA03 hA5
    have ix0 : ∀ w : World, (Instr.index 60 (.agg #[.int .i64 k0, .int .i64 k1, .int .i64 k2, .int .i64 k3, .int .i64 k4, .int .i64 k5]) (.int .i64 0)).run Try.prog w = .ok (.agg #[.int .i64 k0, .int .i64 k1]) w := fun _ => by kernel_rfl
    have ix1 : ∀ w : World, (Instr.index 60 (.agg #[.int .i64 k0, .int .i64 k1, .int .i64 k2, .int .i64 k3, .int .i64 k4, .int .i64 k5]) (.int .i64 1)).run Try.prog w = .ok (.agg #[.int .i64 k2, .int .i64 k3]) w := fun _ => by kernel_rfl
    have ix2 : ∀ w : World, (Instr.index 60 (.agg #[.int .i64 k0, .int .i64 k1, .int .i64 k2, .int .i64 k3, .int .i64 k4, .int .i64 k5]) (.int .i64 2)).run Try.prog w = .ok (.agg #[.int .i64 k4, .int .i64 k5]) w := fun _ => by kernel_rfl
    go_wp2
    clear c0 c1 c2 c3 c4 c5 d0 d1 d2 d3 d4 d5
    go_loopw [7, 25] (fun vl vi wr => ∃ i : Nat, i ≤ 3 ∧ vi = .int .i64 (i : Int) ∧ Hid (ArrAt wr w.heap.size (S i)) ∧ Hid (ARow wr (w.heap.size + 2) vl (P i)) ∧ Hid (Below w.heap.size w wr) ∧ w.heap.size + 2 ≤ wr.heap.size)
      (fun _ vi _ => 3 - (intOf vi).toNat)
    case atStart => exact ⟨0, by omega, rfl, hS0, hP0, HB3, by omega⟩
    case round =>
      obtain ⟨i, hi, rfl, hAr, hPr, hBw, hsz⟩ := hrel
      clear hS0 hP0 HB3
      have hcase : i = 0 ∨ i = 1 ∨ i = 2 ∨ i = 3 := by omega
      rcases hcase with rfl | rfl | rfl | rfl
      · obtain ⟨W4, hW4⟩ : ∃ W, W = wr.alloc (.cells #[.int .i64 k0, .int .i64 k1] 58) := ⟨_, rfl⟩
        have hB4 : Below wr.heap.size wr W4 := by rw [hW4]; exact (Below.refl _ wr).alloc (Nat.le_refl _) _
        have z0 : W4.cell? ⟨wr.heap.size, 0, none⟩ = some (.int .i64 k0) := by rw [hW4]; go_simp
        have z1 : W4.cell? ⟨wr.heap.size, 1, none⟩ = some (.int .i64 k1) := by rw [hW4]; go_simp
        have hl4 : wr.heap.size < W4.heap.size := by rw [hW4]; simp
        have hSi : Hid (S 0 = ⟨⟨x0, x1⟩, ⟨x2, x3⟩, ⟨x4, x5⟩⟩) := by rw [HS.out]; rfl
        have hAr4 : Hid (ArrAt W4 w.heap.size ⟨⟨x0, x1⟩, ⟨x2, x3⟩, ⟨x4, x5⟩⟩) := by have h := hAr.out; rw [hSi.out] at h; exact h.below hB4 (by omega)
        obtain ⟨_, ⟨c0, c1, c2, c3, c4, c5⟩, _⟩ := hAr4.out
        dsimp only [Nat.zero_add] at c0 c1 c2 c3 c4 c5
        go_upto_region 8 with fail
        rw [← hW4]
        clear hW4
        go_region
        obtain ⟨W5, hW5⟩ : ∃ W, W = (W4.alloc (.cells #[.int .i64 x0, .int .i64 (k0 - 1)] 58)).drew := ⟨_, rfl⟩
        have hB5 : Below W4.heap.size W4 W5 := by rw [hW5]; exact ((Below.refl _ W4).alloc (Nat.le_refl _) _).drew
        have b0 : W5.cell? ⟨W4.heap.size, 0, none⟩ = some (.int .i64 x0) := by rw [hW5]; go_simp
        have b1 : W5.cell? ⟨W4.heap.size, 1, none⟩ = some (.int .i64 (k0 - 1)) := by rw [hW5]; go_simp
        have hl5 : W4.heap.size < W5.heap.size := by rw [hW5]; simp
        have hl45 : wr.heap.size < W5.heap.size := by omega
        have hlw5 : w.heap.size < W5.heap.size := by omega
        rw [← hW5]
        clear hW5 c0 c1 c2 c3 c4 c5
        have z0 := (hB5.cell (p := ⟨wr.heap.size, 0, none⟩) hl4).trans z0
        have z1 := (hB5.cell (p := ⟨wr.heap.size, 1, none⟩) hl4).trans z1
        have hAr5 : Hid (ArrAt W5 w.heap.size ⟨⟨x0, x1⟩, ⟨x2, x3⟩, ⟨x4, x5⟩⟩) := hAr4.out.below hB5 (by omega)
        obtain ⟨_, ⟨c0, c1, c2, c3, c4, c5⟩, _⟩ := hAr5.out
        dsimp only [Nat.zero_add] at c0 c1 c2 c3 c4 c5
        go_upto_region 9 with fail
        go_region
        obtain ⟨W6, hW6⟩ : ∃ W, W = (W5.alloc (.cells #[.int .i64 (k1 + 1), .int .i64 x1] 58)).drew := ⟨_, rfl⟩
        have hB6 : Below W5.heap.size W5 W6 := by rw [hW6]; exact ((Below.refl _ W5).alloc (Nat.le_refl _) _).drew
        have e0 : W6.cell? ⟨W5.heap.size, 0, none⟩ = some (.int .i64 (k1 + 1)) := by rw [hW6]; go_simp
        have e1 : W6.cell? ⟨W5.heap.size, 1, none⟩ = some (.int .i64 x1) := by rw [hW6]; go_simp
        have hl6 : W5.heap.size < W6.heap.size := by rw [hW6]; simp
        have hl46 : wr.heap.size < W6.heap.size := by omega
        have hl56 : W4.heap.size < W6.heap.size := by omega
        have hlw6 : w.heap.size < W6.heap.size := by omega
        rw [← hW6]
        clear hW6 c0 c1 c2 c3 c4 c5
        have z0 := (hB6.cell (p := ⟨wr.heap.size, 0, none⟩) (by show wr.heap.size < _; omega)).trans z0
        have z1 := (hB6.cell (p := ⟨wr.heap.size, 1, none⟩) (by show wr.heap.size < _; omega)).trans z1
        have b0 := (hB6.cell (p := ⟨W4.heap.size, 0, none⟩) hl5).trans b0
        have b1 := (hB6.cell (p := ⟨W4.heap.size, 1, none⟩) hl5).trans b1
        have hB46 : Below wr.heap.size wr W6 := (hB4.trans (hB5.mono (by omega))).trans (hB6.mono (by omega))
        have hAr6 : Hid (ArrAt W6 w.heap.size ⟨⟨x0, x1⟩, ⟨x2, x3⟩, ⟨x4, x5⟩⟩) := hAr5.out.below hB6 (by omega)
        have HB6 : Hid (Below w.heap.size w W6) := hBw.out.trans (hB46.mono (by omega))
        obtain ⟨Q, hQ⟩ : ∃ Q : Nat → List Bx, Q = fun j => if j = 0 then P 0 else if j = 1 then P 0 ++ pc1 (fun s => ⟨s, ⟨x2, x3⟩, ⟨x4, x5⟩⟩) ⟨x0, x1⟩ ⟨k0, k1⟩ else P 0 ++ pc1 (fun s => ⟨s, ⟨x2, x3⟩, ⟨x4, x5⟩⟩) ⟨x0, x1⟩ ⟨k0, k1⟩ ++ pc2 (fun s => ⟨s, ⟨x2, x3⟩, ⟨x4, x5⟩⟩) ⟨x0, x1⟩ ⟨k0, k1⟩ := ⟨_, rfl⟩
        have HQ1 : Hid (Q 1 = Q 0 ++ pc1 (fun s => ⟨s, ⟨x2, x3⟩, ⟨x4, x5⟩⟩) ⟨x0, x1⟩ ⟨k0, k1⟩) := by rw [hQ]; rfl
        have HQ2 : Hid (Q 2 = Q 1 ++ pc2 (fun s => ⟨s, ⟨x2, x3⟩, ⟨x4, x5⟩⟩) ⟨x0, x1⟩ ⟨k0, k1⟩) := by rw [hQ]; rfl
        have HQP : Hid (Q 2 = P 1) := by
          show _ = _
          rw [hQ, HP.out, cutP_1]
          simp only [pcs_eq, List.append_assoc]
          rfl
        have hQ0 : Q 0 = P 0 := by rw [hQ]; rfl
        have hq0 : (Q 0).length ≤ 4 := by rw [hQ0]; exact by rw [HP.out, cutP_0]; simp
        clear hQ0
        have hq1 : (Q 1).length ≤ 5 := by rw [HQ1.out, List.length_append]; have := pc1_len (fun s => ⟨s, ⟨x2, x3⟩, ⟨x4, x5⟩⟩) ⟨x0, x1⟩ ⟨k0, k1⟩; omega
        have HQ6 : Hid (ARow W6 (w.heap.size + 2) u7 (Q 0)) := by rw [hQ]; exact hPr.out.below hB46
        have HT6 : Hid (T9 W6 wr.heap.size k0 k1 u7) := ⟨z0, z1, by omega, fun g hg e => by have := (World.ownsRow.lt hPr.out g hg).2; omega⟩
        have jx0 : ∀ w : World, (Instr.index 88 (.agg #[.int .i64 x0, .int .i64 (k0 - 1), .int .i64 (k1 + 1), .int .i64 x1]) (.int .i64 0)).run Try.prog w = .ok (.agg #[.int .i64 x0, .int .i64 (k0 - 1)]) w := fun _ => by kernel_rfl
        have jx1 : ∀ w : World, (Instr.index 88 (.agg #[.int .i64 x0, .int .i64 (k0 - 1), .int .i64 (k1 + 1), .int .i64 x1]) (.int .i64 1)).run Try.prog w = .ok (.agg #[.int .i64 (k1 + 1), .int .i64 x1]) w := fun _ => by kernel_rfl
        clear hQ hB4 hB5 hB6 hAr4 hAr5 hB46 hAr hPr hBw
        go_upto_region 10 with fail
        go_wp2
        clear z0 z1 b0 b1 e0 e1
        obtain ⟨wo, rfl⟩ : ∃ W, W = wr := ⟨_, rfl⟩
        go_loopw [7, 48] (fun vl vj wr => ∃ (j : Nat) (ta tb : Int), j ≤ 2 ∧ vj = .int .i64 (j : Int) ∧ Hid (ArrAt wr w.heap.size ⟨⟨ta, tb⟩, ⟨x2, x3⟩, ⟨x4, x5⟩⟩) ∧ Hid (ARow wr (w.heap.size + 2) vl (Q j)) ∧ Hid (Below w.heap.size w wr) ∧ Hid (T9 wr wo.heap.size k0 k1 vl) ∧ w.heap.size + 2 ≤ wr.heap.size)
          (fun _ vj _ => 2 - (intOf vj).toNat)
        case atStart => exact ⟨0, x0, x1, by omega, rfl, hAr6, HQ6, HB6, HT6, by omega⟩
        case round =>
          clear hAr6 HQ6 HB6 HT6
          obtain ⟨j, ta, tb, hj, rfl, hAr, hQr, hBw, hT9, hszj⟩ := hrel
          have hcj : j = 0 ∨ j = 1 ∨ j = 2 := by omega
          rcases hcj with rfl | rfl | rfl
          · obtain ⟨av, cv, hv0⟩ := hQr.out.slice
            subst hv0
            obtain ⟨aa, haa⟩ : ∃ a, a = x0 := ⟨_, rfl⟩
            obtain ⟨bb, hbb⟩ : ∃ b, b = (k0 - 1) := ⟨_, rfl⟩
            have HAA : Hid (x0 = aa) := haa.symm
            have HBB : Hid ((k0 - 1) = bb) := hbb.symm
            obtain ⟨W5, hW5⟩ : ∃ W, W = wr.alloc (.cells #[.int .i64 aa, .int .i64 bb] 58) := ⟨_, rfl⟩
            have hB5 : Below wr.heap.size wr W5 := by rw [hW5]; exact (Below.refl _ wr).alloc (Nat.le_refl _) _
            have z0 : W5.cell? ⟨wr.heap.size, 0, none⟩ = some (.int .i64 aa) := by rw [hW5]; go_simp
            have z1 : W5.cell? ⟨wr.heap.size, 1, none⟩ = some (.int .i64 bb) := by rw [hW5]; go_simp
            have hl5 : wr.heap.size < W5.heap.size := by rw [hW5]; simp
            rw [haa, hbb] at hW5
            go_upto_region 13 with fail
            rw [← hW5]
            clear hW5 haa hbb
            go_wp2_with fail
            refine (isEmpty_any aa bb _).mono ?_
            rintro e w6 ⟨rfl, hb6⟩
            have hB6 : Below wr.heap.size wr w6 := hB5.trans (hb6.mono (by omega))
            have z0 := (hb6.cell (p := ⟨wr.heap.size, 0, none⟩) hl5).trans z0
            have z1 := (hb6.cell (p := ⟨wr.heap.size, 1, none⟩) hl5).trans z1
            have hA6 : Hid (ArrAt w6 w.heap.size ⟨⟨ta, tb⟩, ⟨x2, x3⟩, ⟨x4, x5⟩⟩) := hAr.out.below hB6 (by omega)
            have HQ6 : Hid (ARow w6 (w.heap.size + 2) (.slice av (Q 0).length cv) (Q 0)) := hQr.out.below hB6
            have HB6 : Hid (Below w.heap.size w w6) := hBw.out.trans (hB6.mono (by omega))
            have HT6 : Hid (T9 w6 wo.heap.size k0 k1 (.slice av (Q 0).length cv)) := hT9.out.below hB6
            have hs6 : wr.heap.size < w6.heap.size := by have := hb6.size; omega
            have hs6' : w.heap.size < w6.heap.size := by omega
            clear hb6 hB5 hB6 hAr hQr hBw hT9
            by_cases kc : x0 < k0
            · have hd : decide (bb < aa) = false := by rw [← HAA.out, ← HBB.out]; simp; omega
              rw [hd]
              have hE : Hid ((Q 1) = (Q 0) ++ [⟨⟨aa, bb⟩, ⟨x2, x3⟩, ⟨x4, x5⟩⟩]) := by
                show _ = _
                rw [HQ1.out]
                unfold pc1
                dsimp only
                rw [if_pos kc, ← HAA.out, ← HBB.out]
              obtain ⟨W7, hW7⟩ : ∃ W, W = (w6.setCell ⟨w.heap.size, 0, none⟩ (.int .i64 aa)).setCell ⟨w.heap.size, 1, none⟩ (.int .i64 bb) := ⟨_, rfl⟩
              have hA7 : Hid (ArrAt W7 w.heap.size ⟨⟨aa, bb⟩, ⟨x2, x3⟩, ⟨x4, x5⟩⟩) := by rw [hW7]; exact hA6.out.setA ⟨aa, bb⟩
              have HB7 : Hid (Below w.heap.size w W7) := by rw [hW7]; exact (HB6.out.setCell (p := ⟨w.heap.size, 0, none⟩) (Nat.le_refl _) _).setCell (p := ⟨w.heap.size, 1, none⟩) (Nat.le_refl _) _
              have HQ7 : Hid (ARow W7 (w.heap.size + 2) (.slice av (Q 0).length cv) (Q 0)) := by
                rw [hW7]
                exact ownsRow_setCell_below (ownsRow_setCell_below HQ6.out (a := ⟨w.heap.size, 0, none⟩) (by show w.heap.size < _; omega) _) (a := ⟨w.heap.size, 1, none⟩) (by show w.heap.size < _; omega) _
              have HT7 : Hid (T9 W7 wo.heap.size k0 k1 (.slice av (Q 0).length cv)) := by rw [hW7]; exact (HT6.out.set (a := ⟨w.heap.size, 0, none⟩) (by show w.heap.size ≠ _; omega) _).set (a := ⟨w.heap.size, 1, none⟩) (by show w.heap.size ≠ _; omega) _
              have hs7 : w6.heap.size ≤ W7.heap.size := by rw [hW7]; simp [World.setCell]
              obtain ⟨_, ⟨c0, c1, c2, c3, c4, c5⟩, cf⟩ := hA6.out
              have cf0 := cf 0 (by omega)
              have cf1 := cf 1 (by omega)
              dsimp only [Nat.zero_add] at c0 c1 c2 c3 c4 c5
              clear cf
              go_upto_region 15 with fail
              rw [← hW7]
              clear hW7 c0 c1 c2 c3 c4 c5 cf0 cf1 hA6 HB6 HQ6
              obtain ⟨_, ⟨c0, c1, c2, c3, c4, c5⟩, _⟩ := hA7.out
              dsimp only [Nat.zero_add] at c0 c1 c2 c3 c4 c5
              go_wp2_with (at_builtin; refine wpList_append_lies _ rfl _ _ 71 rfl (w.heap.size + 2) 60 i0 (.agg #[.int .i64 0, .int .i64 0, .int .i64 0, .int .i64 0, .int .i64 0, .int .i64 0]) 6 48 Try.underlying71 hi0 hz0 hz1' hz2 rfl (by decide) _ (Q 0).length _ rfl (World.ownsRow.alloc HQ7.out _) ⟨W7.heap.size, 0, none⟩ 1 1 [.int .i64 aa, .int .i64 bb, .int .i64 x2, .int .i64 x3, .int .i64 x4, .int .i64 x5] rfl rfl (World.news_of_block (heap_alloc_new W7 _)) (one6B _ _ _ _ _ _) (by omega) (by unfold maxLen; omega) (by omega) (by simp; omega) (W7.heap.size + 1) (by simp) ?_)
              intro g9 cap9 w9 hown9 hgrow9 hat9 hlt9
              have HQ9 : Hid (ARow w9 (w.heap.size + 2) (.slice (some ⟨g9, 0, none⟩) ((Q 0).length + 1) cap9) (Q 1)) := by rw [hE.out]; exact ARow.snoc hown9
              have hB79 : Below (w.heap.size + 2) W7 w9 := grown_belowB HQ7.out hgrow9 (by omega)
              have HB9 : Hid (Below w.heap.size w w9) := HB7.out.trans (hB79.mono (by omega))
              have hA9 : Hid (ArrAt w9 w.heap.size ⟨⟨aa, bb⟩, ⟨x2, x3⟩, ⟨x4, x5⟩⟩) := hA7.out.below hB79 (by omega)
              have HT9 : Hid (T9 w9 wo.heap.size k0 k1 (.slice (some ⟨g9, 0, none⟩) ((Q 0).length + 1) cap9)) := HT7.out.grow hgrow9 hat9
              have hs9 := hB79.size
              clear hown9 hgrow9 hat9 hlt9 HQ7 HB7 hA7 c0 c1 c2 c3 c4 c5 hB79
              go_wp2
              go_roundw
              case rel => first | exact ⟨1, aa, bb, by omega, by go_num, hA9, HQ9, HB9, HT9, by omega⟩ | ((repeat apply Exists.intro); exact ⟨⟨1, aa, bb, by omega, by go_num, hA9, HQ9, HB9, HT9, by omega⟩, rfl⟩)
              case measure => simp [intOf]
            · have hd : decide (bb < aa) = true := by rw [← HAA.out, ← HBB.out]; simp; omega
              rw [hd]
              have hE : Hid ((Q 1) = (Q 0)) := by
                show _ = _
                rw [HQ1.out]
                unfold pc1
                dsimp only
                rw [if_neg kc, List.append_nil]
              have HQ8 : Hid (ARow w6 (w.heap.size + 2) (.slice av (Q 0).length cv) (Q 1)) := by rw [hE.out]; exact HQ6.out
              go_wp2
              go_roundw
              case rel => first | exact ⟨1, ta, tb, by omega, by go_num, hA6, HQ8, HB6, HT6, by omega⟩ | ((repeat apply Exists.intro); exact ⟨⟨1, ta, tb, by omega, by go_num, hA6, HQ8, HB6, HT6, by omega⟩, rfl⟩)
              case measure => simp [intOf]
          · obtain ⟨av, cv, hv0⟩ := hQr.out.slice
            subst hv0
            obtain ⟨aa, haa⟩ : ∃ a, a = (k1 + 1) := ⟨_, rfl⟩
            obtain ⟨bb, hbb⟩ : ∃ b, b = x1 := ⟨_, rfl⟩
            have HAA : Hid ((k1 + 1) = aa) := haa.symm
            have HBB : Hid (x1 = bb) := hbb.symm
            obtain ⟨W5, hW5⟩ : ∃ W, W = wr.alloc (.cells #[.int .i64 aa, .int .i64 bb] 58) := ⟨_, rfl⟩
            have hB5 : Below wr.heap.size wr W5 := by rw [hW5]; exact (Below.refl _ wr).alloc (Nat.le_refl _) _
            have z0 : W5.cell? ⟨wr.heap.size, 0, none⟩ = some (.int .i64 aa) := by rw [hW5]; go_simp
            have z1 : W5.cell? ⟨wr.heap.size, 1, none⟩ = some (.int .i64 bb) := by rw [hW5]; go_simp
            have hl5 : wr.heap.size < W5.heap.size := by rw [hW5]; simp
            rw [haa, hbb] at hW5
            go_upto_region 13 with fail
            rw [← hW5]
            clear hW5 haa hbb
            go_wp2_with fail
            refine (isEmpty_any aa bb _).mono ?_
            rintro e w6 ⟨rfl, hb6⟩
            have hB6 : Below wr.heap.size wr w6 := hB5.trans (hb6.mono (by omega))
            have z0 := (hb6.cell (p := ⟨wr.heap.size, 0, none⟩) hl5).trans z0
            have z1 := (hb6.cell (p := ⟨wr.heap.size, 1, none⟩) hl5).trans z1
            have hA6 : Hid (ArrAt w6 w.heap.size ⟨⟨ta, tb⟩, ⟨x2, x3⟩, ⟨x4, x5⟩⟩) := hAr.out.below hB6 (by omega)
            have HQ6 : Hid (ARow w6 (w.heap.size + 2) (.slice av (Q 1).length cv) (Q 1)) := hQr.out.below hB6
            have HB6 : Hid (Below w.heap.size w w6) := hBw.out.trans (hB6.mono (by omega))
            have HT6 : Hid (T9 w6 wo.heap.size k0 k1 (.slice av (Q 1).length cv)) := hT9.out.below hB6
            have hs6 : wr.heap.size < w6.heap.size := by have := hb6.size; omega
            have hs6' : w.heap.size < w6.heap.size := by omega
            clear hb6 hB5 hB6 hAr hQr hBw hT9
            by_cases kc : k1 < x1
            · have hd : decide (bb < aa) = false := by rw [← HAA.out, ← HBB.out]; simp; omega
              rw [hd]
              have hE : Hid ((Q 2) = (Q 1) ++ [⟨⟨aa, bb⟩, ⟨x2, x3⟩, ⟨x4, x5⟩⟩]) := by
                show _ = _
                rw [HQ2.out]
                unfold pc2
                dsimp only
                rw [if_pos kc, ← HAA.out, ← HBB.out]
              obtain ⟨W7, hW7⟩ : ∃ W, W = (w6.setCell ⟨w.heap.size, 0, none⟩ (.int .i64 aa)).setCell ⟨w.heap.size, 1, none⟩ (.int .i64 bb) := ⟨_, rfl⟩
              have hA7 : Hid (ArrAt W7 w.heap.size ⟨⟨aa, bb⟩, ⟨x2, x3⟩, ⟨x4, x5⟩⟩) := by rw [hW7]; exact hA6.out.setA ⟨aa, bb⟩
              have HB7 : Hid (Below w.heap.size w W7) := by rw [hW7]; exact (HB6.out.setCell (p := ⟨w.heap.size, 0, none⟩) (Nat.le_refl _) _).setCell (p := ⟨w.heap.size, 1, none⟩) (Nat.le_refl _) _
              have HQ7 : Hid (ARow W7 (w.heap.size + 2) (.slice av (Q 1).length cv) (Q 1)) := by
                rw [hW7]
                exact ownsRow_setCell_below (ownsRow_setCell_below HQ6.out (a := ⟨w.heap.size, 0, none⟩) (by show w.heap.size < _; omega) _) (a := ⟨w.heap.size, 1, none⟩) (by show w.heap.size < _; omega) _
              have HT7 : Hid (T9 W7 wo.heap.size k0 k1 (.slice av (Q 1).length cv)) := by rw [hW7]; exact (HT6.out.set (a := ⟨w.heap.size, 0, none⟩) (by show w.heap.size ≠ _; omega) _).set (a := ⟨w.heap.size, 1, none⟩) (by show w.heap.size ≠ _; omega) _
              have hs7 : w6.heap.size ≤ W7.heap.size := by rw [hW7]; simp [World.setCell]
              obtain ⟨_, ⟨c0, c1, c2, c3, c4, c5⟩, cf⟩ := hA6.out
              have cf0 := cf 0 (by omega)
              have cf1 := cf 1 (by omega)
              dsimp only [Nat.zero_add] at c0 c1 c2 c3 c4 c5
              clear cf
              go_upto_region 15 with fail
              rw [← hW7]
              clear hW7 c0 c1 c2 c3 c4 c5 cf0 cf1 hA6 HB6 HQ6
              obtain ⟨_, ⟨c0, c1, c2, c3, c4, c5⟩, _⟩ := hA7.out
              dsimp only [Nat.zero_add] at c0 c1 c2 c3 c4 c5
              go_wp2_with (at_builtin; refine wpList_append_lies _ rfl _ _ 71 rfl (w.heap.size + 2) 60 i0 (.agg #[.int .i64 0, .int .i64 0, .int .i64 0, .int .i64 0, .int .i64 0, .int .i64 0]) 6 48 Try.underlying71 hi0 hz0 hz1' hz2 rfl (by decide) _ (Q 1).length _ rfl (World.ownsRow.alloc HQ7.out _) ⟨W7.heap.size, 0, none⟩ 1 1 [.int .i64 aa, .int .i64 bb, .int .i64 x2, .int .i64 x3, .int .i64 x4, .int .i64 x5] rfl rfl (World.news_of_block (heap_alloc_new W7 _)) (one6B _ _ _ _ _ _) (by omega) (by unfold maxLen; omega) (by omega) (by simp; omega) (W7.heap.size + 1) (by simp) ?_)
              intro g9 cap9 w9 hown9 hgrow9 hat9 hlt9
              have HQ9 : Hid (ARow w9 (w.heap.size + 2) (.slice (some ⟨g9, 0, none⟩) ((Q 1).length + 1) cap9) (Q 2)) := by rw [hE.out]; exact ARow.snoc hown9
              have hB79 : Below (w.heap.size + 2) W7 w9 := grown_belowB HQ7.out hgrow9 (by omega)
              have HB9 : Hid (Below w.heap.size w w9) := HB7.out.trans (hB79.mono (by omega))
              have hA9 : Hid (ArrAt w9 w.heap.size ⟨⟨aa, bb⟩, ⟨x2, x3⟩, ⟨x4, x5⟩⟩) := hA7.out.below hB79 (by omega)
              have HT9 : Hid (T9 w9 wo.heap.size k0 k1 (.slice (some ⟨g9, 0, none⟩) ((Q 1).length + 1) cap9)) := HT7.out.grow hgrow9 hat9
              have hs9 := hB79.size
              clear hown9 hgrow9 hat9 hlt9 HQ7 HB7 hA7 c0 c1 c2 c3 c4 c5 hB79
              go_wp2
              go_roundw
              case rel => first | exact ⟨2, aa, bb, by omega, by go_num, hA9, HQ9, HB9, HT9, by omega⟩ | ((repeat apply Exists.intro); exact ⟨⟨2, aa, bb, by omega, by go_num, hA9, HQ9, HB9, HT9, by omega⟩, rfl⟩)
              case measure => simp [intOf]
            · have hd : decide (bb < aa) = true := by rw [← HAA.out, ← HBB.out]; simp; omega
              rw [hd]
              have hE : Hid ((Q 2) = (Q 1)) := by
                show _ = _
                rw [HQ2.out]
                unfold pc2
                dsimp only
                rw [if_neg kc, List.append_nil]
              have HQ8 : Hid (ARow w6 (w.heap.size + 2) (.slice av (Q 1).length cv) (Q 2)) := by rw [hE.out]; exact HQ6.out
              go_wp2
              go_roundw
              case rel => first | exact ⟨2, ta, tb, by omega, by go_num, hA6, HQ8, HB6, HT6, by omega⟩ | ((repeat apply Exists.intro); exact ⟨⟨2, ta, tb, by omega, by go_num, hA6, HQ8, HB6, HT6, by omega⟩, rfl⟩)
              case measure => simp [intOf]
          · obtain ⟨y0, y1, y2, y3⟩ := hT9.out
            obtain ⟨W8, hW8⟩ : ∃ W, W = (wr.setCell ⟨w.heap.size, 0, none⟩ (.int .i64 k0)).setCell ⟨w.heap.size, 1, none⟩ (.int .i64 k1) := ⟨_, rfl⟩
            have hA8 : Hid (ArrAt W8 w.heap.size (S 1)) := by
              rw [hW8]
              have hh := hAr.out.setA ⟨k0, k1⟩
              rw [HS.out]
              exact hh
            have HB8 : Hid (Below w.heap.size w W8) := by rw [hW8]; exact (hBw.out.setCell (p := ⟨w.heap.size, 0, none⟩) (Nat.le_refl _) _).setCell (p := ⟨w.heap.size, 1, none⟩) (Nat.le_refl _) _
            have HQ8 : Hid (ARow W8 (w.heap.size + 2) u7 (P 1)) := by
              rw [hW8, ← HQP.out]
              exact ownsRow_setCell_below (ownsRow_setCell_below hQr.out (a := ⟨w.heap.size, 0, none⟩) (by show w.heap.size < _; omega) _) (a := ⟨w.heap.size, 1, none⟩) (by show w.heap.size < _; omega) _
            have hs8 : wr.heap.size ≤ W8.heap.size := by rw [hW8]; simp [World.setCell]
            obtain ⟨_, ⟨c0, c1, c2, c3, c4, c5⟩, cf⟩ := hAr.out
            have cf0 := cf 0 (by omega)
            have cf1 := cf 1 (by omega)
            dsimp only [Nat.zero_add] at c0 c1 c2 c3 c4 c5
            clear cf hQr hBw hT9 hAr
            go_upto_region 18 with fail
            rw [← hW8]
            clear hW8 c0 c1 c2 c3 c4 c5 cf0 cf1 y0 y1
            go_wp2
            go_roundw
            case rel => first | exact ⟨1, by omega, by go_num, hA8, HQ8, HB8, by omega⟩ | ((repeat apply Exists.intro); exact ⟨⟨1, by omega, by go_num, hA8, HQ8, HB8, by omega⟩, rfl⟩)
            case measure => simp [intOf]
      · obtain ⟨W4, hW4⟩ : ∃ W, W = wr.alloc (.cells #[.int .i64 k2, .int .i64 k3] 58) := ⟨_, rfl⟩
        have hB4 : Below wr.heap.size wr W4 := by rw [hW4]; exact (Below.refl _ wr).alloc (Nat.le_refl _) _
        have z0 : W4.cell? ⟨wr.heap.size, 0, none⟩ = some (.int .i64 k2) := by rw [hW4]; go_simp
        have z1 : W4.cell? ⟨wr.heap.size, 1, none⟩ = some (.int .i64 k3) := by rw [hW4]; go_simp
        have hl4 : wr.heap.size < W4.heap.size := by rw [hW4]; simp
        have hSi : Hid (S 1 = ⟨⟨k0, k1⟩, ⟨x2, x3⟩, ⟨x4, x5⟩⟩) := by rw [HS.out]; rfl
        have hAr4 : Hid (ArrAt W4 w.heap.size ⟨⟨k0, k1⟩, ⟨x2, x3⟩, ⟨x4, x5⟩⟩) := by have h := hAr.out; rw [hSi.out] at h; exact h.below hB4 (by omega)
        obtain ⟨_, ⟨c0, c1, c2, c3, c4, c5⟩, _⟩ := hAr4.out
        dsimp only [Nat.zero_add] at c0 c1 c2 c3 c4 c5
        go_upto_region 8 with fail
        rw [← hW4]
        clear hW4
        go_region
        obtain ⟨W5, hW5⟩ : ∃ W, W = (W4.alloc (.cells #[.int .i64 x2, .int .i64 (k2 - 1)] 58)).drew := ⟨_, rfl⟩
        have hB5 : Below W4.heap.size W4 W5 := by rw [hW5]; exact ((Below.refl _ W4).alloc (Nat.le_refl _) _).drew
        have b0 : W5.cell? ⟨W4.heap.size, 0, none⟩ = some (.int .i64 x2) := by rw [hW5]; go_simp
        have b1 : W5.cell? ⟨W4.heap.size, 1, none⟩ = some (.int .i64 (k2 - 1)) := by rw [hW5]; go_simp
        have hl5 : W4.heap.size < W5.heap.size := by rw [hW5]; simp
        have hl45 : wr.heap.size < W5.heap.size := by omega
        have hlw5 : w.heap.size < W5.heap.size := by omega
        rw [← hW5]
        clear hW5 c0 c1 c2 c3 c4 c5
        have z0 := (hB5.cell (p := ⟨wr.heap.size, 0, none⟩) hl4).trans z0
        have z1 := (hB5.cell (p := ⟨wr.heap.size, 1, none⟩) hl4).trans z1
        have hAr5 : Hid (ArrAt W5 w.heap.size ⟨⟨k0, k1⟩, ⟨x2, x3⟩, ⟨x4, x5⟩⟩) := hAr4.out.below hB5 (by omega)
        obtain ⟨_, ⟨c0, c1, c2, c3, c4, c5⟩, _⟩ := hAr5.out
        dsimp only [Nat.zero_add] at c0 c1 c2 c3 c4 c5
        go_upto_region 9 with fail
        go_region
        obtain ⟨W6, hW6⟩ : ∃ W, W = (W5.alloc (.cells #[.int .i64 (k3 + 1), .int .i64 x3] 58)).drew := ⟨_, rfl⟩
        have hB6 : Below W5.heap.size W5 W6 := by rw [hW6]; exact ((Below.refl _ W5).alloc (Nat.le_refl _) _).drew
        have e0 : W6.cell? ⟨W5.heap.size, 0, none⟩ = some (.int .i64 (k3 + 1)) := by rw [hW6]; go_simp
        have e1 : W6.cell? ⟨W5.heap.size, 1, none⟩ = some (.int .i64 x3) := by rw [hW6]; go_simp
        have hl6 : W5.heap.size < W6.heap.size := by rw [hW6]; simp
        have hl46 : wr.heap.size < W6.heap.size := by omega
        have hl56 : W4.heap.size < W6.heap.size := by omega
        have hlw6 : w.heap.size < W6.heap.size := by omega
        rw [← hW6]
        clear hW6 c0 c1 c2 c3 c4 c5
        have z0 := (hB6.cell (p := ⟨wr.heap.size, 0, none⟩) (by show wr.heap.size < _; omega)).trans z0
        have z1 := (hB6.cell (p := ⟨wr.heap.size, 1, none⟩) (by show wr.heap.size < _; omega)).trans z1
        have b0 := (hB6.cell (p := ⟨W4.heap.size, 0, none⟩) hl5).trans b0
        have b1 := (hB6.cell (p := ⟨W4.heap.size, 1, none⟩) hl5).trans b1
        have hB46 : Below wr.heap.size wr W6 := (hB4.trans (hB5.mono (by omega))).trans (hB6.mono (by omega))
        have hAr6 : Hid (ArrAt W6 w.heap.size ⟨⟨k0, k1⟩, ⟨x2, x3⟩, ⟨x4, x5⟩⟩) := hAr5.out.below hB6 (by omega)
        have HB6 : Hid (Below w.heap.size w W6) := hBw.out.trans (hB46.mono (by omega))
        obtain ⟨Q, hQ⟩ : ∃ Q : Nat → List Bx, Q = fun j => if j = 0 then P 1 else if j = 1 then P 1 ++ pc1 (fun s => ⟨⟨k0, k1⟩, s, ⟨x4, x5⟩⟩) ⟨x2, x3⟩ ⟨k2, k3⟩ else P 1 ++ pc1 (fun s => ⟨⟨k0, k1⟩, s, ⟨x4, x5⟩⟩) ⟨x2, x3⟩ ⟨k2, k3⟩ ++ pc2 (fun s => ⟨⟨k0, k1⟩, s, ⟨x4, x5⟩⟩) ⟨x2, x3⟩ ⟨k2, k3⟩ := ⟨_, rfl⟩
        have HQ1 : Hid (Q 1 = Q 0 ++ pc1 (fun s => ⟨⟨k0, k1⟩, s, ⟨x4, x5⟩⟩) ⟨x2, x3⟩ ⟨k2, k3⟩) := by rw [hQ]; rfl
        have HQ2 : Hid (Q 2 = Q 1 ++ pc2 (fun s => ⟨⟨k0, k1⟩, s, ⟨x4, x5⟩⟩) ⟨x2, x3⟩ ⟨k2, k3⟩) := by rw [hQ]; rfl
        have HQP : Hid (Q 2 = P 2) := by
          show _ = _
          rw [hQ, HP.out, cutP_2]
          simp only [pcs_eq, List.append_assoc]
          rfl
        have hQ0 : Q 0 = P 1 := by rw [hQ]; rfl
        have hq0 : (Q 0).length ≤ 4 := by rw [hQ0]; exact by rw [HP.out]; have := cutP_len1 ⟨⟨x0, x1⟩, ⟨x2, x3⟩, ⟨x4, x5⟩⟩ ⟨⟨k0, k1⟩, ⟨k2, k3⟩, ⟨k4, k5⟩⟩; omega
        clear hQ0
        have hq1 : (Q 1).length ≤ 5 := by rw [HQ1.out, List.length_append]; have := pc1_len (fun s => ⟨⟨k0, k1⟩, s, ⟨x4, x5⟩⟩) ⟨x2, x3⟩ ⟨k2, k3⟩; omega
        have HQ6 : Hid (ARow W6 (w.heap.size + 2) u7 (Q 0)) := by rw [hQ]; exact hPr.out.below hB46
        have HT6 : Hid (T9 W6 wr.heap.size k2 k3 u7) := ⟨z0, z1, by omega, fun g hg e => by have := (World.ownsRow.lt hPr.out g hg).2; omega⟩
        have jx0 : ∀ w : World, (Instr.index 88 (.agg #[.int .i64 x2, .int .i64 (k2 - 1), .int .i64 (k3 + 1), .int .i64 x3]) (.int .i64 0)).run Try.prog w = .ok (.agg #[.int .i64 x2, .int .i64 (k2 - 1)]) w := fun _ => by kernel_rfl
        have jx1 : ∀ w : World, (Instr.index 88 (.agg #[.int .i64 x2, .int .i64 (k2 - 1), .int .i64 (k3 + 1), .int .i64 x3]) (.int .i64 1)).run Try.prog w = .ok (.agg #[.int .i64 (k3 + 1), .int .i64 x3]) w := fun _ => by kernel_rfl
        clear hQ hB4 hB5 hB6 hAr4 hAr5 hB46 hAr hPr hBw
        go_upto_region 10 with fail
        go_wp2
        clear z0 z1 b0 b1 e0 e1
        obtain ⟨wo, rfl⟩ : ∃ W, W = wr := ⟨_, rfl⟩
        go_loopw [7, 48] (fun vl vj wr => ∃ (j : Nat) (ta tb : Int), j ≤ 2 ∧ vj = .int .i64 (j : Int) ∧ Hid (ArrAt wr w.heap.size ⟨⟨k0, k1⟩, ⟨ta, tb⟩, ⟨x4, x5⟩⟩) ∧ Hid (ARow wr (w.heap.size + 2) vl (Q j)) ∧ Hid (Below w.heap.size w wr) ∧ Hid (T9 wr wo.heap.size k2 k3 vl) ∧ w.heap.size + 2 ≤ wr.heap.size)
          (fun _ vj _ => 2 - (intOf vj).toNat)
        case atStart => exact ⟨0, x2, x3, by omega, rfl, hAr6, HQ6, HB6, HT6, by omega⟩
        case round =>
          clear hAr6 HQ6 HB6 HT6
          obtain ⟨j, ta, tb, hj, rfl, hAr, hQr, hBw, hT9, hszj⟩ := hrel
          have hcj : j = 0 ∨ j = 1 ∨ j = 2 := by omega
          rcases hcj with rfl | rfl | rfl
          · obtain ⟨av, cv, hv0⟩ := hQr.out.slice
            subst hv0
            obtain ⟨aa, haa⟩ : ∃ a, a = x2 := ⟨_, rfl⟩
            obtain ⟨bb, hbb⟩ : ∃ b, b = (k2 - 1) := ⟨_, rfl⟩
            have HAA : Hid (x2 = aa) := haa.symm
            have HBB : Hid ((k2 - 1) = bb) := hbb.symm
            obtain ⟨W5, hW5⟩ : ∃ W, W = wr.alloc (.cells #[.int .i64 aa, .int .i64 bb] 58) := ⟨_, rfl⟩
            have hB5 : Below wr.heap.size wr W5 := by rw [hW5]; exact (Below.refl _ wr).alloc (Nat.le_refl _) _
            have z0 : W5.cell? ⟨wr.heap.size, 0, none⟩ = some (.int .i64 aa) := by rw [hW5]; go_simp
            have z1 : W5.cell? ⟨wr.heap.size, 1, none⟩ = some (.int .i64 bb) := by rw [hW5]; go_simp
            have hl5 : wr.heap.size < W5.heap.size := by rw [hW5]; simp
            rw [haa, hbb] at hW5
            go_upto_region 13 with fail
            rw [← hW5]
            clear hW5 haa hbb
            go_wp2_with fail
            refine (isEmpty_any aa bb _).mono ?_
            rintro e w6 ⟨rfl, hb6⟩
            have hB6 : Below wr.heap.size wr w6 := hB5.trans (hb6.mono (by omega))
            have z0 := (hb6.cell (p := ⟨wr.heap.size, 0, none⟩) hl5).trans z0
            have z1 := (hb6.cell (p := ⟨wr.heap.size, 1, none⟩) hl5).trans z1
            have hA6 : Hid (ArrAt w6 w.heap.size ⟨⟨k0, k1⟩, ⟨ta, tb⟩, ⟨x4, x5⟩⟩) := hAr.out.below hB6 (by omega)
            have HQ6 : Hid (ARow w6 (w.heap.size + 2) (.slice av (Q 0).length cv) (Q 0)) := hQr.out.below hB6
            have HB6 : Hid (Below w.heap.size w w6) := hBw.out.trans (hB6.mono (by omega))
            have HT6 : Hid (T9 w6 wo.heap.size k2 k3 (.slice av (Q 0).length cv)) := hT9.out.below hB6
            have hs6 : wr.heap.size < w6.heap.size := by have := hb6.size; omega
            have hs6' : w.heap.size < w6.heap.size := by omega
            clear hb6 hB5 hB6 hAr hQr hBw hT9
            by_cases kc : x2 < k2
            · have hd : decide (bb < aa) = false := by rw [← HAA.out, ← HBB.out]; simp; omega
              rw [hd]
              have hE : Hid ((Q 1) = (Q 0) ++ [⟨⟨k0, k1⟩, ⟨aa, bb⟩, ⟨x4, x5⟩⟩]) := by
                show _ = _
                rw [HQ1.out]
                unfold pc1
                dsimp only
                rw [if_pos kc, ← HAA.out, ← HBB.out]
              obtain ⟨W7, hW7⟩ : ∃ W, W = (w6.setCell ⟨w.heap.size, 2, none⟩ (.int .i64 aa)).setCell ⟨w.heap.size, 3, none⟩ (.int .i64 bb) := ⟨_, rfl⟩
              have hA7 : Hid (ArrAt W7 w.heap.size ⟨⟨k0, k1⟩, ⟨aa, bb⟩, ⟨x4, x5⟩⟩) := by rw [hW7]; exact hA6.out.setB ⟨aa, bb⟩
              have HB7 : Hid (Below w.heap.size w W7) := by rw [hW7]; exact (HB6.out.setCell (p := ⟨w.heap.size, 2, none⟩) (Nat.le_refl _) _).setCell (p := ⟨w.heap.size, 3, none⟩) (Nat.le_refl _) _
              have HQ7 : Hid (ARow W7 (w.heap.size + 2) (.slice av (Q 0).length cv) (Q 0)) := by
                rw [hW7]
                exact ownsRow_setCell_below (ownsRow_setCell_below HQ6.out (a := ⟨w.heap.size, 2, none⟩) (by show w.heap.size < _; omega) _) (a := ⟨w.heap.size, 3, none⟩) (by show w.heap.size < _; omega) _
              have HT7 : Hid (T9 W7 wo.heap.size k2 k3 (.slice av (Q 0).length cv)) := by rw [hW7]; exact (HT6.out.set (a := ⟨w.heap.size, 2, none⟩) (by show w.heap.size ≠ _; omega) _).set (a := ⟨w.heap.size, 3, none⟩) (by show w.heap.size ≠ _; omega) _
              have hs7 : w6.heap.size ≤ W7.heap.size := by rw [hW7]; simp [World.setCell]
              obtain ⟨_, ⟨c0, c1, c2, c3, c4, c5⟩, cf⟩ := hA6.out
              have cf0 := cf 2 (by omega)
              have cf1 := cf 3 (by omega)
              dsimp only [Nat.zero_add] at c0 c1 c2 c3 c4 c5
              clear cf
              go_upto_region 15 with fail
              rw [← hW7]
              clear hW7 c0 c1 c2 c3 c4 c5 cf0 cf1 hA6 HB6 HQ6
              obtain ⟨_, ⟨c0, c1, c2, c3, c4, c5⟩, _⟩ := hA7.out
              dsimp only [Nat.zero_add] at c0 c1 c2 c3 c4 c5
              go_wp2_with (at_builtin; refine wpList_append_lies _ rfl _ _ 71 rfl (w.heap.size + 2) 60 i0 (.agg #[.int .i64 0, .int .i64 0, .int .i64 0, .int .i64 0, .int .i64 0, .int .i64 0]) 6 48 Try.underlying71 hi0 hz0 hz1' hz2 rfl (by decide) _ (Q 0).length _ rfl (World.ownsRow.alloc HQ7.out _) ⟨W7.heap.size, 0, none⟩ 1 1 [.int .i64 k0, .int .i64 k1, .int .i64 aa, .int .i64 bb, .int .i64 x4, .int .i64 x5] rfl rfl (World.news_of_block (heap_alloc_new W7 _)) (one6B _ _ _ _ _ _) (by omega) (by unfold maxLen; omega) (by omega) (by simp; omega) (W7.heap.size + 1) (by simp) ?_)
              intro g9 cap9 w9 hown9 hgrow9 hat9 hlt9
              have HQ9 : Hid (ARow w9 (w.heap.size + 2) (.slice (some ⟨g9, 0, none⟩) ((Q 0).length + 1) cap9) (Q 1)) := by rw [hE.out]; exact ARow.snoc hown9
              have hB79 : Below (w.heap.size + 2) W7 w9 := grown_belowB HQ7.out hgrow9 (by omega)
              have HB9 : Hid (Below w.heap.size w w9) := HB7.out.trans (hB79.mono (by omega))
              have hA9 : Hid (ArrAt w9 w.heap.size ⟨⟨k0, k1⟩, ⟨aa, bb⟩, ⟨x4, x5⟩⟩) := hA7.out.below hB79 (by omega)
              have HT9 : Hid (T9 w9 wo.heap.size k2 k3 (.slice (some ⟨g9, 0, none⟩) ((Q 0).length + 1) cap9)) := HT7.out.grow hgrow9 hat9
              have hs9 := hB79.size
              clear hown9 hgrow9 hat9 hlt9 HQ7 HB7 hA7 c0 c1 c2 c3 c4 c5 hB79
              go_wp2
              go_roundw
              case rel => first | exact ⟨1, aa, bb, by omega, by go_num, hA9, HQ9, HB9, HT9, by omega⟩ | ((repeat apply Exists.intro); exact ⟨⟨1, aa, bb, by omega, by go_num, hA9, HQ9, HB9, HT9, by omega⟩, rfl⟩)
              case measure => simp [intOf]
            · have hd : decide (bb < aa) = true := by rw [← HAA.out, ← HBB.out]; simp; omega
              rw [hd]
              have hE : Hid ((Q 1) = (Q 0)) := by
                show _ = _
                rw [HQ1.out]
                unfold pc1
                dsimp only
                rw [if_neg kc, List.append_nil]
              have HQ8 : Hid (ARow w6 (w.heap.size + 2) (.slice av (Q 0).length cv) (Q 1)) := by rw [hE.out]; exact HQ6.out
              go_wp2
              go_roundw
              case rel => first | exact ⟨1, ta, tb, by omega, by go_num, hA6, HQ8, HB6, HT6, by omega⟩ | ((repeat apply Exists.intro); exact ⟨⟨1, ta, tb, by omega, by go_num, hA6, HQ8, HB6, HT6, by omega⟩, rfl⟩)
              case measure => simp [intOf]
          · obtain ⟨av, cv, hv0⟩ := hQr.out.slice
            subst hv0
            obtain ⟨aa, haa⟩ : ∃ a, a = (k3 + 1) := ⟨_, rfl⟩
            obtain ⟨bb, hbb⟩ : ∃ b, b = x3 := ⟨_, rfl⟩
            have HAA : Hid ((k3 + 1) = aa) := haa.symm
            have HBB : Hid (x3 = bb) := hbb.symm
            obtain ⟨W5, hW5⟩ : ∃ W, W = wr.alloc (.cells #[.int .i64 aa, .int .i64 bb] 58) := ⟨_, rfl⟩
            have hB5 : Below wr.heap.size wr W5 := by rw [hW5]; exact (Below.refl _ wr).alloc (Nat.le_refl _) _
            have z0 : W5.cell? ⟨wr.heap.size, 0, none⟩ = some (.int .i64 aa) := by rw [hW5]; go_simp
            have z1 : W5.cell? ⟨wr.heap.size, 1, none⟩ = some (.int .i64 bb) := by rw [hW5]; go_simp
            have hl5 : wr.heap.size < W5.heap.size := by rw [hW5]; simp
            rw [haa, hbb] at hW5
            go_upto_region 13 with fail
            rw [← hW5]
            clear hW5 haa hbb
            go_wp2_with fail
            refine (isEmpty_any aa bb _).mono ?_
            rintro e w6 ⟨rfl, hb6⟩
            have hB6 : Below wr.heap.size wr w6 := hB5.trans (hb6.mono (by omega))
            have z0 := (hb6.cell (p := ⟨wr.heap.size, 0, none⟩) hl5).trans z0
            have z1 := (hb6.cell (p := ⟨wr.heap.size, 1, none⟩) hl5).trans z1
            have hA6 : Hid (ArrAt w6 w.heap.size ⟨⟨k0, k1⟩, ⟨ta, tb⟩, ⟨x4, x5⟩⟩) := hAr.out.below hB6 (by omega)
            have HQ6 : Hid (ARow w6 (w.heap.size + 2) (.slice av (Q 1).length cv) (Q 1)) := hQr.out.below hB6
            have HB6 : Hid (Below w.heap.size w w6) := hBw.out.trans (hB6.mono (by omega))
            have HT6 : Hid (T9 w6 wo.heap.size k2 k3 (.slice av (Q 1).length cv)) := hT9.out.below hB6
            have hs6 : wr.heap.size < w6.heap.size := by have := hb6.size; omega
            have hs6' : w.heap.size < w6.heap.size := by omega
            clear hb6 hB5 hB6 hAr hQr hBw hT9
            by_cases kc : k3 < x3
            · have hd : decide (bb < aa) = false := by rw [← HAA.out, ← HBB.out]; simp; omega
              rw [hd]
              have hE : Hid ((Q 2) = (Q 1) ++ [⟨⟨k0, k1⟩, ⟨aa, bb⟩, ⟨x4, x5⟩⟩]) := by
                show _ = _
                rw [HQ2.out]
                unfold pc2
                dsimp only
                rw [if_pos kc, ← HAA.out, ← HBB.out]
              obtain ⟨W7, hW7⟩ : ∃ W, W = (w6.setCell ⟨w.heap.size, 2, none⟩ (.int .i64 aa)).setCell ⟨w.heap.size, 3, none⟩ (.int .i64 bb) := ⟨_, rfl⟩
              have hA7 : Hid (ArrAt W7 w.heap.size ⟨⟨k0, k1⟩, ⟨aa, bb⟩, ⟨x4, x5⟩⟩) := by rw [hW7]; exact hA6.out.setB ⟨aa, bb⟩
              have HB7 : Hid (Below w.heap.size w W7) := by rw [hW7]; exact (HB6.out.setCell (p := ⟨w.heap.size, 2, none⟩) (Nat.le_refl _) _).setCell (p := ⟨w.heap.size, 3, none⟩) (Nat.le_refl _) _
              have HQ7 : Hid (ARow W7 (w.heap.size + 2) (.slice av (Q 1).length cv) (Q 1)) := by
                rw [hW7]
                exact ownsRow_setCell_below (ownsRow_setCell_below HQ6.out (a := ⟨w.heap.size, 2, none⟩) (by show w.heap.size < _; omega) _) (a := ⟨w.heap.size, 3, none⟩) (by show w.heap.size < _; omega) _
              have HT7 : Hid (T9 W7 wo.heap.size k2 k3 (.slice av (Q 1).length cv)) := by rw [hW7]; exact (HT6.out.set (a := ⟨w.heap.size, 2, none⟩) (by show w.heap.size ≠ _; omega) _).set (a := ⟨w.heap.size, 3, none⟩) (by show w.heap.size ≠ _; omega) _
              have hs7 : w6.heap.size ≤ W7.heap.size := by rw [hW7]; simp [World.setCell]
              obtain ⟨_, ⟨c0, c1, c2, c3, c4, c5⟩, cf⟩ := hA6.out
              have cf0 := cf 2 (by omega)
              have cf1 := cf 3 (by omega)
              dsimp only [Nat.zero_add] at c0 c1 c2 c3 c4 c5
              clear cf
              go_upto_region 15 with fail
              rw [← hW7]
              clear hW7 c0 c1 c2 c3 c4 c5 cf0 cf1 hA6 HB6 HQ6
              obtain ⟨_, ⟨c0, c1, c2, c3, c4, c5⟩, _⟩ := hA7.out
              dsimp only [Nat.zero_add] at c0 c1 c2 c3 c4 c5
              go_wp2_with (at_builtin; refine wpList_append_lies _ rfl _ _ 71 rfl (w.heap.size + 2) 60 i0 (.agg #[.int .i64 0, .int .i64 0, .int .i64 0, .int .i64 0, .int .i64 0, .int .i64 0]) 6 48 Try.underlying71 hi0 hz0 hz1' hz2 rfl (by decide) _ (Q 1).length _ rfl (World.ownsRow.alloc HQ7.out _) ⟨W7.heap.size, 0, none⟩ 1 1 [.int .i64 k0, .int .i64 k1, .int .i64 aa, .int .i64 bb, .int .i64 x4, .int .i64 x5] rfl rfl (World.news_of_block (heap_alloc_new W7 _)) (one6B _ _ _ _ _ _) (by omega) (by unfold maxLen; omega) (by omega) (by simp; omega) (W7.heap.size + 1) (by simp) ?_)
              intro g9 cap9 w9 hown9 hgrow9 hat9 hlt9
              have HQ9 : Hid (ARow w9 (w.heap.size + 2) (.slice (some ⟨g9, 0, none⟩) ((Q 1).length + 1) cap9) (Q 2)) := by rw [hE.out]; exact ARow.snoc hown9
              have hB79 : Below (w.heap.size + 2) W7 w9 := grown_belowB HQ7.out hgrow9 (by omega)
              have HB9 : Hid (Below w.heap.size w w9) := HB7.out.trans (hB79.mono (by omega))
              have hA9 : Hid (ArrAt w9 w.heap.size ⟨⟨k0, k1⟩, ⟨aa, bb⟩, ⟨x4, x5⟩⟩) := hA7.out.below hB79 (by omega)
              have HT9 : Hid (T9 w9 wo.heap.size k2 k3 (.slice (some ⟨g9, 0, none⟩) ((Q 1).length + 1) cap9)) := HT7.out.grow hgrow9 hat9
              have hs9 := hB79.size
              clear hown9 hgrow9 hat9 hlt9 HQ7 HB7 hA7 c0 c1 c2 c3 c4 c5 hB79
              go_wp2
              go_roundw
              case rel => first | exact ⟨2, aa, bb, by omega, by go_num, hA9, HQ9, HB9, HT9, by omega⟩ | ((repeat apply Exists.intro); exact ⟨⟨2, aa, bb, by omega, by go_num, hA9, HQ9, HB9, HT9, by omega⟩, rfl⟩)
              case measure => simp [intOf]
            · have hd : decide (bb < aa) = true := by rw [← HAA.out, ← HBB.out]; simp; omega
              rw [hd]
              have hE : Hid ((Q 2) = (Q 1)) := by
                show _ = _
                rw [HQ2.out]
                unfold pc2
                dsimp only
                rw [if_neg kc, List.append_nil]
              have HQ8 : Hid (ARow w6 (w.heap.size + 2) (.slice av (Q 1).length cv) (Q 2)) := by rw [hE.out]; exact HQ6.out
              go_wp2
              go_roundw
              case rel => first | exact ⟨2, ta, tb, by omega, by go_num, hA6, HQ8, HB6, HT6, by omega⟩ | ((repeat apply Exists.intro); exact ⟨⟨2, ta, tb, by omega, by go_num, hA6, HQ8, HB6, HT6, by omega⟩, rfl⟩)
              case measure => simp [intOf]
          · obtain ⟨y0, y1, y2, y3⟩ := hT9.out
            obtain ⟨W8, hW8⟩ : ∃ W, W = (wr.setCell ⟨w.heap.size, 2, none⟩ (.int .i64 k2)).setCell ⟨w.heap.size, 3, none⟩ (.int .i64 k3) := ⟨_, rfl⟩
            have hA8 : Hid (ArrAt W8 w.heap.size (S 2)) := by
              rw [hW8]
              have hh := hAr.out.setB ⟨k2, k3⟩
              rw [HS.out]
              exact hh
            have HB8 : Hid (Below w.heap.size w W8) := by rw [hW8]; exact (hBw.out.setCell (p := ⟨w.heap.size, 2, none⟩) (Nat.le_refl _) _).setCell (p := ⟨w.heap.size, 3, none⟩) (Nat.le_refl _) _
            have HQ8 : Hid (ARow W8 (w.heap.size + 2) u7 (P 2)) := by
              rw [hW8, ← HQP.out]
              exact ownsRow_setCell_below (ownsRow_setCell_below hQr.out (a := ⟨w.heap.size, 2, none⟩) (by show w.heap.size < _; omega) _) (a := ⟨w.heap.size, 3, none⟩) (by show w.heap.size < _; omega) _
            have hs8 : wr.heap.size ≤ W8.heap.size := by rw [hW8]; simp [World.setCell]
            obtain ⟨_, ⟨c0, c1, c2, c3, c4, c5⟩, cf⟩ := hAr.out
            have cf0 := cf 2 (by omega)
            have cf1 := cf 3 (by omega)
            dsimp only [Nat.zero_add] at c0 c1 c2 c3 c4 c5
            clear cf hQr hBw hT9 hAr
            go_upto_region 18 with fail
            rw [← hW8]
            clear hW8 c0 c1 c2 c3 c4 c5 cf0 cf1 y0 y1
            go_wp2
            go_roundw
            case rel => first | exact ⟨2, by omega, by go_num, hA8, HQ8, HB8, by omega⟩ | ((repeat apply Exists.intro); exact ⟨⟨2, by omega, by go_num, hA8, HQ8, HB8, by omega⟩, rfl⟩)
            case measure => simp [intOf]
      · obtain ⟨W4, hW4⟩ : ∃ W, W = wr.alloc (.cells #[.int .i64 k4, .int .i64 k5] 58) := ⟨_, rfl⟩
        have hB4 : Below wr.heap.size wr W4 := by rw [hW4]; exact (Below.refl _ wr).alloc (Nat.le_refl _) _
        have z0 : W4.cell? ⟨wr.heap.size, 0, none⟩ = some (.int .i64 k4) := by rw [hW4]; go_simp
        have z1 : W4.cell? ⟨wr.heap.size, 1, none⟩ = some (.int .i64 k5) := by rw [hW4]; go_simp
        have hl4 : wr.heap.size < W4.heap.size := by rw [hW4]; simp
        have hSi : Hid (S 2 = ⟨⟨k0, k1⟩, ⟨k2, k3⟩, ⟨x4, x5⟩⟩) := by rw [HS.out]; rfl
        have hAr4 : Hid (ArrAt W4 w.heap.size ⟨⟨k0, k1⟩, ⟨k2, k3⟩, ⟨x4, x5⟩⟩) := by have h := hAr.out; rw [hSi.out] at h; exact h.below hB4 (by omega)
        obtain ⟨_, ⟨c0, c1, c2, c3, c4, c5⟩, _⟩ := hAr4.out
        dsimp only [Nat.zero_add] at c0 c1 c2 c3 c4 c5
        go_upto_region 8 with fail
        rw [← hW4]
        clear hW4
        go_region
        obtain ⟨W5, hW5⟩ : ∃ W, W = (W4.alloc (.cells #[.int .i64 x4, .int .i64 (k4 - 1)] 58)).drew := ⟨_, rfl⟩
        have hB5 : Below W4.heap.size W4 W5 := by rw [hW5]; exact ((Below.refl _ W4).alloc (Nat.le_refl _) _).drew
        have b0 : W5.cell? ⟨W4.heap.size, 0, none⟩ = some (.int .i64 x4) := by rw [hW5]; go_simp
        have b1 : W5.cell? ⟨W4.heap.size, 1, none⟩ = some (.int .i64 (k4 - 1)) := by rw [hW5]; go_simp
        have hl5 : W4.heap.size < W5.heap.size := by rw [hW5]; simp
        have hl45 : wr.heap.size < W5.heap.size := by omega
        have hlw5 : w.heap.size < W5.heap.size := by omega
        rw [← hW5]
        clear hW5 c0 c1 c2 c3 c4 c5
        have z0 := (hB5.cell (p := ⟨wr.heap.size, 0, none⟩) hl4).trans z0
        have z1 := (hB5.cell (p := ⟨wr.heap.size, 1, none⟩) hl4).trans z1
        have hAr5 : Hid (ArrAt W5 w.heap.size ⟨⟨k0, k1⟩, ⟨k2, k3⟩, ⟨x4, x5⟩⟩) := hAr4.out.below hB5 (by omega)
        obtain ⟨_, ⟨c0, c1, c2, c3, c4, c5⟩, _⟩ := hAr5.out
        dsimp only [Nat.zero_add] at c0 c1 c2 c3 c4 c5
        go_upto_region 9 with fail
        go_region
        obtain ⟨W6, hW6⟩ : ∃ W, W = (W5.alloc (.cells #[.int .i64 (k5 + 1), .int .i64 x5] 58)).drew := ⟨_, rfl⟩
        have hB6 : Below W5.heap.size W5 W6 := by rw [hW6]; exact ((Below.refl _ W5).alloc (Nat.le_refl _) _).drew
        have e0 : W6.cell? ⟨W5.heap.size, 0, none⟩ = some (.int .i64 (k5 + 1)) := by rw [hW6]; go_simp
        have e1 : W6.cell? ⟨W5.heap.size, 1, none⟩ = some (.int .i64 x5) := by rw [hW6]; go_simp
        have hl6 : W5.heap.size < W6.heap.size := by rw [hW6]; simp
        have hl46 : wr.heap.size < W6.heap.size := by omega
        have hl56 : W4.heap.size < W6.heap.size := by omega
        have hlw6 : w.heap.size < W6.heap.size := by omega
        rw [← hW6]
        clear hW6 c0 c1 c2 c3 c4 c5
        have z0 := (hB6.cell (p := ⟨wr.heap.size, 0, none⟩) (by show wr.heap.size < _; omega)).trans z0
        have z1 := (hB6.cell (p := ⟨wr.heap.size, 1, none⟩) (by show wr.heap.size < _; omega)).trans z1
        have b0 := (hB6.cell (p := ⟨W4.heap.size, 0, none⟩) hl5).trans b0
        have b1 := (hB6.cell (p := ⟨W4.heap.size, 1, none⟩) hl5).trans b1
        have hB46 : Below wr.heap.size wr W6 := (hB4.trans (hB5.mono (by omega))).trans (hB6.mono (by omega))
        have hAr6 : Hid (ArrAt W6 w.heap.size ⟨⟨k0, k1⟩, ⟨k2, k3⟩, ⟨x4, x5⟩⟩) := hAr5.out.below hB6 (by omega)
        have HB6 : Hid (Below w.heap.size w W6) := hBw.out.trans (hB46.mono (by omega))
        obtain ⟨Q, hQ⟩ : ∃ Q : Nat → List Bx, Q = fun j => if j = 0 then P 2 else if j = 1 then P 2 ++ pc1 (fun s => ⟨⟨k0, k1⟩, ⟨k2, k3⟩, s⟩) ⟨x4, x5⟩ ⟨k4, k5⟩ else P 2 ++ pc1 (fun s => ⟨⟨k0, k1⟩, ⟨k2, k3⟩, s⟩) ⟨x4, x5⟩ ⟨k4, k5⟩ ++ pc2 (fun s => ⟨⟨k0, k1⟩, ⟨k2, k3⟩, s⟩) ⟨x4, x5⟩ ⟨k4, k5⟩ := ⟨_, rfl⟩
        have HQ1 : Hid (Q 1 = Q 0 ++ pc1 (fun s => ⟨⟨k0, k1⟩, ⟨k2, k3⟩, s⟩) ⟨x4, x5⟩ ⟨k4, k5⟩) := by rw [hQ]; rfl
        have HQ2 : Hid (Q 2 = Q 1 ++ pc2 (fun s => ⟨⟨k0, k1⟩, ⟨k2, k3⟩, s⟩) ⟨x4, x5⟩ ⟨k4, k5⟩) := by rw [hQ]; rfl
        have HQP : Hid (Q 2 = P 3) := by
          show _ = _
          rw [hQ, HP.out, cutP_3]
          simp only [pcs_eq, List.append_assoc]
          rfl
        have hQ0 : Q 0 = P 2 := by rw [hQ]; rfl
        have hq0 : (Q 0).length ≤ 4 := by rw [hQ0]; exact by rw [HP.out]; have := cutP_len2 ⟨⟨x0, x1⟩, ⟨x2, x3⟩, ⟨x4, x5⟩⟩ ⟨⟨k0, k1⟩, ⟨k2, k3⟩, ⟨k4, k5⟩⟩; omega
        clear hQ0
        have hq1 : (Q 1).length ≤ 5 := by rw [HQ1.out, List.length_append]; have := pc1_len (fun s => ⟨⟨k0, k1⟩, ⟨k2, k3⟩, s⟩) ⟨x4, x5⟩ ⟨k4, k5⟩; omega
        have HQ6 : Hid (ARow W6 (w.heap.size + 2) u7 (Q 0)) := by rw [hQ]; exact hPr.out.below hB46
        have HT6 : Hid (T9 W6 wr.heap.size k4 k5 u7) := ⟨z0, z1, by omega, fun g hg e => by have := (World.ownsRow.lt hPr.out g hg).2; omega⟩
        have jx0 : ∀ w : World, (Instr.index 88 (.agg #[.int .i64 x4, .int .i64 (k4 - 1), .int .i64 (k5 + 1), .int .i64 x5]) (.int .i64 0)).run Try.prog w = .ok (.agg #[.int .i64 x4, .int .i64 (k4 - 1)]) w := fun _ => by kernel_rfl
        have jx1 : ∀ w : World, (Instr.index 88 (.agg #[.int .i64 x4, .int .i64 (k4 - 1), .int .i64 (k5 + 1), .int .i64 x5]) (.int .i64 1)).run Try.prog w = .ok (.agg #[.int .i64 (k5 + 1), .int .i64 x5]) w := fun _ => by kernel_rfl
        clear hQ hB4 hB5 hB6 hAr4 hAr5 hB46 hAr hPr hBw
        go_upto_region 10 with fail
        go_wp2
        clear z0 z1 b0 b1 e0 e1
        obtain ⟨wo, rfl⟩ : ∃ W, W = wr := ⟨_, rfl⟩
        go_loopw [7, 48] (fun vl vj wr => ∃ (j : Nat) (ta tb : Int), j ≤ 2 ∧ vj = .int .i64 (j : Int) ∧ Hid (ArrAt wr w.heap.size ⟨⟨k0, k1⟩, ⟨k2, k3⟩, ⟨ta, tb⟩⟩) ∧ Hid (ARow wr (w.heap.size + 2) vl (Q j)) ∧ Hid (Below w.heap.size w wr) ∧ Hid (T9 wr wo.heap.size k4 k5 vl) ∧ w.heap.size + 2 ≤ wr.heap.size)
          (fun _ vj _ => 2 - (intOf vj).toNat)
        case atStart => exact ⟨0, x4, x5, by omega, rfl, hAr6, HQ6, HB6, HT6, by omega⟩
        case round =>
          clear hAr6 HQ6 HB6 HT6
          obtain ⟨j, ta, tb, hj, rfl, hAr, hQr, hBw, hT9, hszj⟩ := hrel
          have hcj : j = 0 ∨ j = 1 ∨ j = 2 := by omega
          rcases hcj with rfl | rfl | rfl
          · obtain ⟨av, cv, hv0⟩ := hQr.out.slice
            subst hv0
            obtain ⟨aa, haa⟩ : ∃ a, a = x4 := ⟨_, rfl⟩
            obtain ⟨bb, hbb⟩ : ∃ b, b = (k4 - 1) := ⟨_, rfl⟩
            have HAA : Hid (x4 = aa) := haa.symm
            have HBB : Hid ((k4 - 1) = bb) := hbb.symm
            obtain ⟨W5, hW5⟩ : ∃ W, W = wr.alloc (.cells #[.int .i64 aa, .int .i64 bb] 58) := ⟨_, rfl⟩
            have hB5 : Below wr.heap.size wr W5 := by rw [hW5]; exact (Below.refl _ wr).alloc (Nat.le_refl _) _
            have z0 : W5.cell? ⟨wr.heap.size, 0, none⟩ = some (.int .i64 aa) := by rw [hW5]; go_simp
            have z1 : W5.cell? ⟨wr.heap.size, 1, none⟩ = some (.int .i64 bb) := by rw [hW5]; go_simp
            have hl5 : wr.heap.size < W5.heap.size := by rw [hW5]; simp
            rw [haa, hbb] at hW5
            go_upto_region 13 with fail
            rw [← hW5]
            clear hW5 haa hbb
            go_wp2_with fail
            refine (isEmpty_any aa bb _).mono ?_
            rintro e w6 ⟨rfl, hb6⟩
            have hB6 : Below wr.heap.size wr w6 := hB5.trans (hb6.mono (by omega))
            have z0 := (hb6.cell (p := ⟨wr.heap.size, 0, none⟩) hl5).trans z0
            have z1 := (hb6.cell (p := ⟨wr.heap.size, 1, none⟩) hl5).trans z1
            have hA6 : Hid (ArrAt w6 w.heap.size ⟨⟨k0, k1⟩, ⟨k2, k3⟩, ⟨ta, tb⟩⟩) := hAr.out.below hB6 (by omega)
            have HQ6 : Hid (ARow w6 (w.heap.size + 2) (.slice av (Q 0).length cv) (Q 0)) := hQr.out.below hB6
            have HB6 : Hid (Below w.heap.size w w6) := hBw.out.trans (hB6.mono (by omega))
            have HT6 : Hid (T9 w6 wo.heap.size k4 k5 (.slice av (Q 0).length cv)) := hT9.out.below hB6
            have hs6 : wr.heap.size < w6.heap.size := by have := hb6.size; omega
            have hs6' : w.heap.size < w6.heap.size := by omega
            clear hb6 hB5 hB6 hAr hQr hBw hT9
            by_cases kc : x4 < k4
            · have hd : decide (bb < aa) = false := by rw [← HAA.out, ← HBB.out]; simp; omega
              rw [hd]
              have hE : Hid ((Q 1) = (Q 0) ++ [⟨⟨k0, k1⟩, ⟨k2, k3⟩, ⟨aa, bb⟩⟩]) := by
                show _ = _
                rw [HQ1.out]
                unfold pc1
                dsimp only
                rw [if_pos kc, ← HAA.out, ← HBB.out]
              obtain ⟨W7, hW7⟩ : ∃ W, W = (w6.setCell ⟨w.heap.size, 4, none⟩ (.int .i64 aa)).setCell ⟨w.heap.size, 5, none⟩ (.int .i64 bb) := ⟨_, rfl⟩
              have hA7 : Hid (ArrAt W7 w.heap.size ⟨⟨k0, k1⟩, ⟨k2, k3⟩, ⟨aa, bb⟩⟩) := by rw [hW7]; exact hA6.out.setC ⟨aa, bb⟩
              have HB7 : Hid (Below w.heap.size w W7) := by rw [hW7]; exact (HB6.out.setCell (p := ⟨w.heap.size, 4, none⟩) (Nat.le_refl _) _).setCell (p := ⟨w.heap.size, 5, none⟩) (Nat.le_refl _) _
              have HQ7 : Hid (ARow W7 (w.heap.size + 2) (.slice av (Q 0).length cv) (Q 0)) := by
                rw [hW7]
                exact ownsRow_setCell_below (ownsRow_setCell_below HQ6.out (a := ⟨w.heap.size, 4, none⟩) (by show w.heap.size < _; omega) _) (a := ⟨w.heap.size, 5, none⟩) (by show w.heap.size < _; omega) _
              have HT7 : Hid (T9 W7 wo.heap.size k4 k5 (.slice av (Q 0).length cv)) := by rw [hW7]; exact (HT6.out.set (a := ⟨w.heap.size, 4, none⟩) (by show w.heap.size ≠ _; omega) _).set (a := ⟨w.heap.size, 5, none⟩) (by show w.heap.size ≠ _; omega) _
              have hs7 : w6.heap.size ≤ W7.heap.size := by rw [hW7]; simp [World.setCell]
              obtain ⟨_, ⟨c0, c1, c2, c3, c4, c5⟩, cf⟩ := hA6.out
              have cf0 := cf 4 (by omega)
              have cf1 := cf 5 (by omega)
              dsimp only [Nat.zero_add] at c0 c1 c2 c3 c4 c5
              clear cf
              go_upto_region 15 with fail
              rw [← hW7]
              clear hW7 c0 c1 c2 c3 c4 c5 cf0 cf1 hA6 HB6 HQ6
              obtain ⟨_, ⟨c0, c1, c2, c3, c4, c5⟩, _⟩ := hA7.out
              dsimp only [Nat.zero_add] at c0 c1 c2 c3 c4 c5
              go_wp2_with (at_builtin; refine wpList_append_lies _ rfl _ _ 71 rfl (w.heap.size + 2) 60 i0 (.agg #[.int .i64 0, .int .i64 0, .int .i64 0, .int .i64 0, .int .i64 0, .int .i64 0]) 6 48 Try.underlying71 hi0 hz0 hz1' hz2 rfl (by decide) _ (Q 0).length _ rfl (World.ownsRow.alloc HQ7.out _) ⟨W7.heap.size, 0, none⟩ 1 1 [.int .i64 k0, .int .i64 k1, .int .i64 k2, .int .i64 k3, .int .i64 aa, .int .i64 bb] rfl rfl (World.news_of_block (heap_alloc_new W7 _)) (one6B _ _ _ _ _ _) (by omega) (by unfold maxLen; omega) (by omega) (by simp; omega) (W7.heap.size + 1) (by simp) ?_)
              intro g9 cap9 w9 hown9 hgrow9 hat9 hlt9
              have HQ9 : Hid (ARow w9 (w.heap.size + 2) (.slice (some ⟨g9, 0, none⟩) ((Q 0).length + 1) cap9) (Q 1)) := by rw [hE.out]; exact ARow.snoc hown9
              have hB79 : Below (w.heap.size + 2) W7 w9 := grown_belowB HQ7.out hgrow9 (by omega)
              have HB9 : Hid (Below w.heap.size w w9) := HB7.out.trans (hB79.mono (by omega))
              have hA9 : Hid (ArrAt w9 w.heap.size ⟨⟨k0, k1⟩, ⟨k2, k3⟩, ⟨aa, bb⟩⟩) := hA7.out.below hB79 (by omega)
              have HT9 : Hid (T9 w9 wo.heap.size k4 k5 (.slice (some ⟨g9, 0, none⟩) ((Q 0).length + 1) cap9)) := HT7.out.grow hgrow9 hat9
              have hs9 := hB79.size
              clear hown9 hgrow9 hat9 hlt9 HQ7 HB7 hA7 c0 c1 c2 c3 c4 c5 hB79
              go_wp2
              go_roundw
              case rel => first | exact ⟨1, aa, bb, by omega, by go_num, hA9, HQ9, HB9, HT9, by omega⟩ | ((repeat apply Exists.intro); exact ⟨⟨1, aa, bb, by omega, by go_num, hA9, HQ9, HB9, HT9, by omega⟩, rfl⟩)
              case measure => simp [intOf]
            · have hd : decide (bb < aa) = true := by rw [← HAA.out, ← HBB.out]; simp; omega
              rw [hd]
              have hE : Hid ((Q 1) = (Q 0)) := by
                show _ = _
                rw [HQ1.out]
                unfold pc1
                dsimp only
                rw [if_neg kc, List.append_nil]
              have HQ8 : Hid (ARow w6 (w.heap.size + 2) (.slice av (Q 0).length cv) (Q 1)) := by rw [hE.out]; exact HQ6.out
              go_wp2
              go_roundw
              case rel => first | exact ⟨1, ta, tb, by omega, by go_num, hA6, HQ8, HB6, HT6, by omega⟩ | ((repeat apply Exists.intro); exact ⟨⟨1, ta, tb, by omega, by go_num, hA6, HQ8, HB6, HT6, by omega⟩, rfl⟩)
              case measure => simp [intOf]
          · obtain ⟨av, cv, hv0⟩ := hQr.out.slice
            subst hv0
            obtain ⟨aa, haa⟩ : ∃ a, a = (k5 + 1) := ⟨_, rfl⟩
            obtain ⟨bb, hbb⟩ : ∃ b, b = x5 := ⟨_, rfl⟩
            have HAA : Hid ((k5 + 1) = aa) := haa.symm
            have HBB : Hid (x5 = bb) := hbb.symm
            obtain ⟨W5, hW5⟩ : ∃ W, W = wr.alloc (.cells #[.int .i64 aa, .int .i64 bb] 58) := ⟨_, rfl⟩
            have hB5 : Below wr.heap.size wr W5 := by rw [hW5]; exact (Below.refl _ wr).alloc (Nat.le_refl _) _
            have z0 : W5.cell? ⟨wr.heap.size, 0, none⟩ = some (.int .i64 aa) := by rw [hW5]; go_simp
            have z1 : W5.cell? ⟨wr.heap.size, 1, none⟩ = some (.int .i64 bb) := by rw [hW5]; go_simp
            have hl5 : wr.heap.size < W5.heap.size := by rw [hW5]; simp
            rw [haa, hbb] at hW5
            go_upto_region 13 with fail
            rw [← hW5]
            clear hW5 haa hbb
            go_wp2_with fail
            refine (isEmpty_any aa bb _).mono ?_
            rintro e w6 ⟨rfl, hb6⟩
            have hB6 : Below wr.heap.size wr w6 := hB5.trans (hb6.mono (by omega))
            have z0 := (hb6.cell (p := ⟨wr.heap.size, 0, none⟩) hl5).trans z0
            have z1 := (hb6.cell (p := ⟨wr.heap.size, 1, none⟩) hl5).trans z1
            have hA6 : Hid (ArrAt w6 w.heap.size ⟨⟨k0, k1⟩, ⟨k2, k3⟩, ⟨ta, tb⟩⟩) := hAr.out.below hB6 (by omega)
            have HQ6 : Hid (ARow w6 (w.heap.size + 2) (.slice av (Q 1).length cv) (Q 1)) := hQr.out.below hB6
            have HB6 : Hid (Below w.heap.size w w6) := hBw.out.trans (hB6.mono (by omega))
            have HT6 : Hid (T9 w6 wo.heap.size k4 k5 (.slice av (Q 1).length cv)) := hT9.out.below hB6
            have hs6 : wr.heap.size < w6.heap.size := by have := hb6.size; omega
            have hs6' : w.heap.size < w6.heap.size := by omega
            clear hb6 hB5 hB6 hAr hQr hBw hT9
            by_cases kc : k5 < x5
            · have hd : decide (bb < aa) = false := by rw [← HAA.out, ← HBB.out]; simp; omega
              rw [hd]
              have hE : Hid ((Q 2) = (Q 1) ++ [⟨⟨k0, k1⟩, ⟨k2, k3⟩, ⟨aa, bb⟩⟩]) := by
                show _ = _
                rw [HQ2.out]
                unfold pc2
                dsimp only
                rw [if_pos kc, ← HAA.out, ← HBB.out]
              obtain ⟨W7, hW7⟩ : ∃ W, W = (w6.setCell ⟨w.heap.size, 4, none⟩ (.int .i64 aa)).setCell ⟨w.heap.size, 5, none⟩ (.int .i64 bb) := ⟨_, rfl⟩
              have hA7 : Hid (ArrAt W7 w.heap.size ⟨⟨k0, k1⟩, ⟨k2, k3⟩, ⟨aa, bb⟩⟩) := by rw [hW7]; exact hA6.out.setC ⟨aa, bb⟩
              have HB7 : Hid (Below w.heap.size w W7) := by rw [hW7]; exact (HB6.out.setCell (p := ⟨w.heap.size, 4, none⟩) (Nat.le_refl _) _).setCell (p := ⟨w.heap.size, 5, none⟩) (Nat.le_refl _) _
              have HQ7 : Hid (ARow W7 (w.heap.size + 2) (.slice av (Q 1).length cv) (Q 1)) := by
                rw [hW7]
                exact ownsRow_setCell_below (ownsRow_setCell_below HQ6.out (a := ⟨w.heap.size, 4, none⟩) (by show w.heap.size < _; omega) _) (a := ⟨w.heap.size, 5, none⟩) (by show w.heap.size < _; omega) _
              have HT7 : Hid (T9 W7 wo.heap.size k4 k5 (.slice av (Q 1).length cv)) := by rw [hW7]; exact (HT6.out.set (a := ⟨w.heap.size, 4, none⟩) (by show w.heap.size ≠ _; omega) _).set (a := ⟨w.heap.size, 5, none⟩) (by show w.heap.size ≠ _; omega) _
              have hs7 : w6.heap.size ≤ W7.heap.size := by rw [hW7]; simp [World.setCell]
              obtain ⟨_, ⟨c0, c1, c2, c3, c4, c5⟩, cf⟩ := hA6.out
              have cf0 := cf 4 (by omega)
              have cf1 := cf 5 (by omega)
              dsimp only [Nat.zero_add] at c0 c1 c2 c3 c4 c5
              clear cf
              go_upto_region 15 with fail
              rw [← hW7]
              clear hW7 c0 c1 c2 c3 c4 c5 cf0 cf1 hA6 HB6 HQ6
              obtain ⟨_, ⟨c0, c1, c2, c3, c4, c5⟩, _⟩ := hA7.out
              dsimp only [Nat.zero_add] at c0 c1 c2 c3 c4 c5
              go_wp2_with (at_builtin; refine wpList_append_lies _ rfl _ _ 71 rfl (w.heap.size + 2) 60 i0 (.agg #[.int .i64 0, .int .i64 0, .int .i64 0, .int .i64 0, .int .i64 0, .int .i64 0]) 6 48 Try.underlying71 hi0 hz0 hz1' hz2 rfl (by decide) _ (Q 1).length _ rfl (World.ownsRow.alloc HQ7.out _) ⟨W7.heap.size, 0, none⟩ 1 1 [.int .i64 k0, .int .i64 k1, .int .i64 k2, .int .i64 k3, .int .i64 aa, .int .i64 bb] rfl rfl (World.news_of_block (heap_alloc_new W7 _)) (one6B _ _ _ _ _ _) (by omega) (by unfold maxLen; omega) (by omega) (by simp; omega) (W7.heap.size + 1) (by simp) ?_)
              intro g9 cap9 w9 hown9 hgrow9 hat9 hlt9
              have HQ9 : Hid (ARow w9 (w.heap.size + 2) (.slice (some ⟨g9, 0, none⟩) ((Q 1).length + 1) cap9) (Q 2)) := by rw [hE.out]; exact ARow.snoc hown9
              have hB79 : Below (w.heap.size + 2) W7 w9 := grown_belowB HQ7.out hgrow9 (by omega)
              have HB9 : Hid (Below w.heap.size w w9) := HB7.out.trans (hB79.mono (by omega))
              have hA9 : Hid (ArrAt w9 w.heap.size ⟨⟨k0, k1⟩, ⟨k2, k3⟩, ⟨aa, bb⟩⟩) := hA7.out.below hB79 (by omega)
              have HT9 : Hid (T9 w9 wo.heap.size k4 k5 (.slice (some ⟨g9, 0, none⟩) ((Q 1).length + 1) cap9)) := HT7.out.grow hgrow9 hat9
              have hs9 := hB79.size
              clear hown9 hgrow9 hat9 hlt9 HQ7 HB7 hA7 c0 c1 c2 c3 c4 c5 hB79
              go_wp2
              go_roundw
              case rel => first | exact ⟨2, aa, bb, by omega, by go_num, hA9, HQ9, HB9, HT9, by omega⟩ | ((repeat apply Exists.intro); exact ⟨⟨2, aa, bb, by omega, by go_num, hA9, HQ9, HB9, HT9, by omega⟩, rfl⟩)
              case measure => simp [intOf]
            · have hd : decide (bb < aa) = true := by rw [← HAA.out, ← HBB.out]; simp; omega
              rw [hd]
              have hE : Hid ((Q 2) = (Q 1)) := by
                show _ = _
                rw [HQ2.out]
                unfold pc2
                dsimp only
                rw [if_neg kc, List.append_nil]
              have HQ8 : Hid (ARow w6 (w.heap.size + 2) (.slice av (Q 1).length cv) (Q 2)) := by rw [hE.out]; exact HQ6.out
              go_wp2
              go_roundw
              case rel => first | exact ⟨2, ta, tb, by omega, by go_num, hA6, HQ8, HB6, HT6, by omega⟩ | ((repeat apply Exists.intro); exact ⟨⟨2, ta, tb, by omega, by go_num, hA6, HQ8, HB6, HT6, by omega⟩, rfl⟩)
              case measure => simp [intOf]
          · obtain ⟨y0, y1, y2, y3⟩ := hT9.out
            obtain ⟨W8, hW8⟩ : ∃ W, W = (wr.setCell ⟨w.heap.size, 4, none⟩ (.int .i64 k4)).setCell ⟨w.heap.size, 5, none⟩ (.int .i64 k5) := ⟨_, rfl⟩
            have hA8 : Hid (ArrAt W8 w.heap.size (S 3)) := by
              rw [hW8]
              have hh := hAr.out.setC ⟨k4, k5⟩
              rw [HS.out]
              exact hh
            have HB8 : Hid (Below w.heap.size w W8) := by rw [hW8]; exact (hBw.out.setCell (p := ⟨w.heap.size, 4, none⟩) (Nat.le_refl _) _).setCell (p := ⟨w.heap.size, 5, none⟩) (Nat.le_refl _) _
            have HQ8 : Hid (ARow W8 (w.heap.size + 2) u7 (P 3)) := by
              rw [hW8, ← HQP.out]
              exact ownsRow_setCell_below (ownsRow_setCell_below hQr.out (a := ⟨w.heap.size, 4, none⟩) (by show w.heap.size < _; omega) _) (a := ⟨w.heap.size, 5, none⟩) (by show w.heap.size < _; omega) _
            have hs8 : wr.heap.size ≤ W8.heap.size := by rw [hW8]; simp [World.setCell]
            obtain ⟨_, ⟨c0, c1, c2, c3, c4, c5⟩, cf⟩ := hAr.out
            have cf0 := cf 4 (by omega)
            have cf1 := cf 5 (by omega)
            dsimp only [Nat.zero_add] at c0 c1 c2 c3 c4 c5
            clear cf hQr hBw hT9 hAr
            go_upto_region 18 with fail
            rw [← hW8]
            clear hW8 c0 c1 c2 c3 c4 c5 cf0 cf1 y0 y1
            go_wp2
            go_roundw
            case rel => first | exact ⟨3, by omega, by go_num, hA8, HQ8, HB8, by omega⟩ | ((repeat apply Exists.intro); exact ⟨⟨3, by omega, by go_num, hA8, HQ8, HB8, by omega⟩, rfl⟩)
            case measure => simp [intOf]
      · have HRW : Hid (ARow wr w.heap.size u7 R) := by
          rw [HRP.out]
          exact own_lower hPr.out (by omega)
        clear hAr hPr
        go_wp2
        go_ret
        exact ⟨_, rfl, HRW.out, hBw.out⟩

end Go.Proofs.Ytnbaeplbnonhkaa
