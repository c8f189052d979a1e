/- The program's small steps on ways up. -/
import Derived.Test.YtlglngmlaknmlaaLgQ
namespace Go.Proofs.Ytlglngmlaknmlaa
open Go.RowKit Plain Lgs Tpc

set_option maxRecDepth 100000 in
set_option maxHeartbeats 4000000 in
theorem routeOfText_any (n k : Nat) (w : World) (hk : k < n) (hn : n ≤ 40) :
    Calls Try.prog 59 #[.int .i64 (n : Int), .int .i64 (k : Int)] w fun e w' => ORt w w' e (rt isOne k 41 0 n) := by
  have rc := fun (tmps : Array Value) (P : Program) (w : World) => results_cellL (fn := Try.f59) (p := 4) (ty := 75) rfl tmps P w
  obtain ⟨W0, hW0⟩ : ∃ W, W = w.alloc (.cells #[.int .i64 0, .int .i64 0, .slice none 0 0] 75) := ⟨_, rfl⟩
  have hB0 : Below w.heap.size w W0 := by rw [hW0]; exact (Below.refl _ w).alloc (Nat.le_refl _) _
  have hs0 : W0.heap.size = w.heap.size + 1 := by rw [hW0]; simp
  have y0 : W0.cell? ⟨w.heap.size, 0, none⟩ = some (.int .i64 0) := by rw [hW0]; go_simp
  have y1 : W0.cell? ⟨w.heap.size, 1, none⟩ = some (.int .i64 0) := by rw [hW0]; go_simp
  have y2 : W0.cell? ⟨w.heap.size, 2, none⟩ = some (.slice none 0 0) := by rw [hW0]; go_simp
  have z0 : W0.frozen? ⟨w.heap.size, 0, none⟩ = false := by rw [hW0]; go_simp
  have z1 : W0.frozen? ⟨w.heap.size, 1, none⟩ = false := by rw [hW0]; go_simp
  have z2 : W0.frozen? ⟨w.heap.size, 2, none⟩ = false := by rw [hW0]; go_simp
  have CR : Hid (Calls Try.prog 87 #[.agg #[.int .i64 0, .int .i64 (n : Int)], .int .i64 (k : Int), .func (.func 88) #[] #[]] W0 fun e w' => ORt W0 w' e (rt isOne k 41 0 n)) := routeTo_one k 41 0 n W0 (by omega) hk (by omega) hn
  generalize rt isOne k 41 0 n = R at CR ⊢
  go_enter Try.func59, Try.ntmps59
  go_upto_region 1 with fail
  rw [← hW0]
  clear hW0
  go_wp2_with fail
  go_at_call 87
  refine CR.out.mono ?_
  rintro e w1 ⟨v, rfl, hr, hb1⟩
  have hs1 := hb1.size
  have y0 := (hb1.cell (p := ⟨w.heap.size, 0, none⟩) (by show w.heap.size < _; omega)).trans y0
  have y1 := (hb1.cell (p := ⟨w.heap.size, 1, none⟩) (by show w.heap.size < _; omega)).trans y1
  have y2 := (hb1.cell (p := ⟨w.heap.size, 2, none⟩) (by show w.heap.size < _; omega)).trans y2
  have z0 := (hb1.frozen (p := ⟨w.heap.size, 0, none⟩) (by show w.heap.size < _; omega)).trans z0
  have z1 := (hb1.frozen (p := ⟨w.heap.size, 1, none⟩) (by show w.heap.size < _; omega)).trans z1
  have z2 := (hb1.frozen (p := ⟨w.heap.size, 2, none⟩) (by show w.heap.size < _; omega)).trans z2
  obtain ⟨ar, cr, hv, _, _⟩ := hr.slice
  subst hv
  have HEND : Hid (ORt w (((w1.setCell ⟨w.heap.size, 0, none⟩ (.int .i64 (R.1.1 : Int))).setCell ⟨w.heap.size, 1, none⟩ (.int .i64 (R.1.2 : Int))).setCell ⟨w.heap.size, 2, none⟩ (.slice ar R.2.length cr)) (.returned (.agg #[.int .i64 (R.1.1 : Int), .int .i64 (R.1.2 : Int), .slice ar R.2.length cr])) R) := by
    have hne : ∀ g, (Value.slice ar R.2.length cr).ownBlock = some g → some g ≠ some w.heap.size := fun g hg e => by
      have := (World.ownsRow.lt hr g hg).1
      simp only [Option.some.injEq] at e
      omega
    refine ⟨_, rfl, ?_, ?_⟩
    · exact own_asideL (own_asideL (own_asideL (AsRow.lower hr (by omega)) (Lib.grownBy_setCell _ w.heap.size 0 _) hne) (Lib.grownBy_setCell _ w.heap.size 1 _) hne) (Lib.grownBy_setCell _ w.heap.size 2 _) hne
    · exact (((hB0.trans (hb1.mono (by omega))).setCell (p := ⟨w.heap.size, 0, none⟩) (Nat.le_refl _) _).setCell (p := ⟨w.heap.size, 1, none⟩) (Nat.le_refl _) _).setCell (p := ⟨w.heap.size, 2, none⟩) (Nat.le_refl _) _
  clear hr hb1
  go_wp2
  (try simp only [Exit.inBlock, Exit.then])
  refine bodyPost_ret (v := .agg #[.int .i64 (R.1.1 : Int), .int .i64 (R.1.2 : Int), .slice ar R.2.length cr]) ?_ rfl HEND.out
  rw [rc]
  go_simp

set_option maxRecDepth 100000 in
set_option maxHeartbeats 4000000 in
theorem routeOfElder_any (n k : Nat) (w : World) (hk : k < n) (hn : n ≤ 40) :
    Calls Try.prog 74 #[.int .i64 (n : Int), .int .i64 ((k : Int) + 1)] w fun e w' => ORt w w' e (rt (isEld (k + 1)) k 41 0 n) := by
  have rc := fun (tmps : Array Value) (P : Program) (w : World) => results_cellL (fn := Try.f74) (p := 4) (ty := 75) rfl tmps P w
  obtain ⟨W0, hW0⟩ : ∃ W, W = (w.alloc (.cells #[.int .i64 ((k : Int) + 1)] 3)).alloc (.cells #[.int .i64 0, .int .i64 0, .slice none 0 0] 75) := ⟨_, rfl⟩
  have hB0 : Below w.heap.size w W0 := by rw [hW0]; exact ((Below.refl _ w).alloc (Nat.le_refl _) _).alloc (by simp) _
  have hs0 : W0.heap.size = w.heap.size + 2 := by rw [hW0]; simp
  have x0 : W0.cell? ⟨w.heap.size, 0, none⟩ = some (.int .i64 ((k : Int) + 1)) := by rw [hW0]; go_simp
  have y0 : W0.cell? ⟨w.heap.size + 1, 0, none⟩ = some (.int .i64 0) := by rw [hW0]; go_simp
  have y1 : W0.cell? ⟨w.heap.size + 1, 1, none⟩ = some (.int .i64 0) := by rw [hW0]; go_simp
  have y2 : W0.cell? ⟨w.heap.size + 1, 2, none⟩ = some (.slice none 0 0) := by rw [hW0]; go_simp
  have z0 : W0.frozen? ⟨w.heap.size + 1, 0, none⟩ = false := by rw [hW0]; go_simp
  have z1 : W0.frozen? ⟨w.heap.size + 1, 1, none⟩ = false := by rw [hW0]; go_simp
  have z2 : W0.frozen? ⟨w.heap.size + 1, 2, none⟩ = false := by rw [hW0]; go_simp
  have CR : Hid (Calls Try.prog 87 #[.agg #[.int .i64 0, .int .i64 (n : Int)], .int .i64 (k : Int), .func (.func 89) #[] #[.pointer (some ⟨w.heap.size, 0, none⟩)]] W0 fun e w' => ORt W0 w' e (rt (isEld (k + 1)) k 41 0 n)) := routeTo_eld w.heap.size k 41 0 n W0 (by omega) hk (by omega) hn (by omega) x0
  generalize rt (isEld (k + 1)) k 41 0 n = R at CR ⊢
  have hk1 : ((k : Int) + 1) - 1 = (k : Int) := by omega
  go_enter Try.func74, Try.ntmps74
  go_upto_region 1 with fail
  rw [← hW0]
  clear hW0
  go_wp2_with fail
  go_at_call 87
  refine CR.out.mono ?_
  rintro e w1 ⟨v, rfl, hr, hb1⟩
  have hs1 := hb1.size
  have y0 := (hb1.cell (p := ⟨w.heap.size + 1, 0, none⟩) (by show w.heap.size + 1 < _; omega)).trans y0
  have y1 := (hb1.cell (p := ⟨w.heap.size + 1, 1, none⟩) (by show w.heap.size + 1 < _; omega)).trans y1
  have y2 := (hb1.cell (p := ⟨w.heap.size + 1, 2, none⟩) (by show w.heap.size + 1 < _; omega)).trans y2
  have z0 := (hb1.frozen (p := ⟨w.heap.size + 1, 0, none⟩) (by show w.heap.size + 1 < _; omega)).trans z0
  have z1 := (hb1.frozen (p := ⟨w.heap.size + 1, 1, none⟩) (by show w.heap.size + 1 < _; omega)).trans z1
  have z2 := (hb1.frozen (p := ⟨w.heap.size + 1, 2, none⟩) (by show w.heap.size + 1 < _; omega)).trans z2
  obtain ⟨ar, cr, hv, _, _⟩ := hr.slice
  subst hv
  have HEND : Hid (ORt w (((w1.setCell ⟨w.heap.size + 1, 0, none⟩ (.int .i64 (R.1.1 : Int))).setCell ⟨w.heap.size + 1, 1, none⟩ (.int .i64 (R.1.2 : Int))).setCell ⟨w.heap.size + 1, 2, none⟩ (.slice ar R.2.length cr)) (.returned (.agg #[.int .i64 (R.1.1 : Int), .int .i64 (R.1.2 : Int), .slice ar R.2.length cr])) R) := by
    have hne : ∀ g, (Value.slice ar R.2.length cr).ownBlock = some g → some g ≠ some (w.heap.size + 1) := fun g hg e => by
      have := (World.ownsRow.lt hr g hg).1
      simp only [Option.some.injEq] at e
      omega
    refine ⟨_, rfl, ?_, ?_⟩
    · exact own_asideL (own_asideL (own_asideL (AsRow.lower hr (by omega)) (Lib.grownBy_setCell _ (w.heap.size + 1) 0 _) hne) (Lib.grownBy_setCell _ (w.heap.size + 1) 1 _) hne) (Lib.grownBy_setCell _ (w.heap.size + 1) 2 _) hne
    · exact (((hB0.trans (hb1.mono (by omega))).setCell (p := ⟨w.heap.size + 1, 0, none⟩) (Nat.le_succ _) _).setCell (p := ⟨w.heap.size + 1, 1, none⟩) (Nat.le_succ _) _).setCell (p := ⟨w.heap.size + 1, 2, none⟩) (Nat.le_succ _) _
  clear hr hb1
  go_wp2
  (try simp only [Exit.inBlock, Exit.then])
  refine bodyPost_ret (v := .agg #[.int .i64 (R.1.1 : Int), .int .i64 (R.1.2 : Int), .slice ar R.2.length cr]) ?_ rfl HEND.out
  rw [rc]
  go_simp

set_option maxRecDepth 100000 in
set_option maxHeartbeats 4000000 in
theorem areSums_any (l : List Int) (v : Value) (w : World) (hv : ZAt w w.heap.size v l) :
    Calls Try.prog 70 #[v] w fun e w' => e = .returned (.bool (l.all (fun n => decide (0 ≤ n ∧ n ≤ 1000002)))) ∧ w' = w := by
  obtain ⟨ao, cap, rfl, hlc, hcm, hrow⟩ := hv
  unfold maxLen at hcm
  obtain ⟨R, hR⟩ : ∃ R, R = l.all (fun n => decide (0 ≤ n ∧ n ≤ 1000002)) := ⟨_, rfl⟩
  have HR : Hid (R = l.all (fun n => decide (0 ≤ n ∧ n ≤ 1000002))) := hR
  rw [← hR]
  clear hR
  have HROW : Hid (∀ i (x : Int), l[i]? = some x → ∃ g o, ao = some ⟨g, o, none⟩ ∧ g < w.heap.size ∧ w.cell? ⟨g, o + i, none⟩ = some (.int .i64 x)) := hrow
  clear hrow
  go_enter Try.func70, Try.ntmps70
  go_wp2_with fail
  go_loopw [7] (fun vi wr => ∃ i : Nat, i ≤ l.length ∧ vi = .int .i64 (i : Int) ∧ Hid (∀ j (x : Int), j < i → l[j]? = some x → 0 ≤ x ∧ x ≤ 1000002) ∧ wr = w)
    (fun vi _ => l.length - (intOf vi).toNat)
  case atStart => exact ⟨0, by omega, rfl, fun j x hj => by omega, rfl⟩
  case round =>
    obtain ⟨i, hi, rfl, hix, rfl⟩ := hrel
    by_cases hlt : i < l.length
    · have hlt' : (i : Int) < (l.length : Int) := by omega
      obtain ⟨x, hx⟩ : ∃ x, l[i]? = some x := ⟨_, List.getElem?_eq_getElem hlt⟩
      obtain ⟨g, o, rfl, hg, c⟩ := HROW.out i x hx
      have HX : Hid (l[i]? = some x) := hx
      clear hx
      obtain ⟨b, hb⟩ : ∃ b, b = decide (0 ≤ x ∧ x ≤ 1000002) := ⟨_, rfl⟩
      have HBD : Hid (b = decide (0 ≤ x ∧ x ≤ 1000002)) := hb
      have CI : Hid (∀ W : World, Calls Try.prog 52 #[.int .i64 x] W fun e w' => e = .returned (.bool b) ∧ w' = W) := fun W => by rw [hb]; exact isSum_any x W
      clear hb
      go_wp2_with fail
      go_at_call 52
      refine (CI.out _).mono ?_
      rintro e w' ⟨rfl, rfl⟩
      cases b with
      | false =>
        have HF : Hid (R = false) := by
          show _ = _
          rw [HR.out, List.all_eq_false]
          exact ⟨x, List.mem_of_getElem? HX.out, by rw [← HBD.out]; simp⟩
        go_wp2_with fail
        go_ret
        exact ⟨by rw [HF.out]; rfl, rfl⟩
      | true =>
        have hN : Hid (∀ j (y : Int), j < i + 1 → l[j]? = some y → 0 ≤ y ∧ y ≤ 1000002) := fun j y hj hy => by
          by_cases e : j = i
          · subst e
            have h := HX.out
            rw [hy] at h
            cases h
            exact of_decide_eq_true HBD.out.symm
          · exact hix.out j y (by omega) hy
        go_wp2_with fail
        go_roundw
        case rel => exact ⟨i + 1, by omega, by go_num, hN, by first | rfl | trivial⟩
        case measure => simp [intOf]; omega
    · have hke : i = l.length := by omega
      have hge : ¬ ((i : Int) < (l.length : Int)) := by omega
      have HF : Hid (R = true) := by
        show _ = _
        rw [HR.out, List.all_eq_true]
        intro x hx
        obtain ⟨j, hj, rfl⟩ := List.getElem_of_mem hx
        exact decide_eq_true (hix.out j _ (by omega) (List.getElem?_eq_getElem hj))
      clear hke hix
      go_wp2_with fail
      go_ret
      exact ⟨by rw [HF.out]; rfl, rfl⟩

set_option maxRecDepth 100000 in
set_option maxHeartbeats 4000000 in
theorem join_any (s : As) (x y : Nat) (w : World) (hx : x < 1000003) (hy : y < 1000003) :
    Calls Try.prog 71 #[.agg #[.int .i64 (s.fr : Int), .int .i64 (s.tt : Int), .bool s.ah], .int .i64 (x : Int), .int .i64 (y : Int)] w fun e w' => e = .returned (.int .i64 ((jn s x y : Nat) : Int)) ∧ Below w.heap.size w w' := by
  obtain ⟨fr, tt, ah⟩ := s
  dsimp only
  cases ah with
  | true =>
    have C : Hid (∀ W, Calls Try.prog 53 #[.int .i64 (y : Int), .int .i64 (x : Int)] W fun e w' => e = .returned (.int .i64 ((node y x : Nat) : Int)) ∧ w' = W) := fun W => nodeSum_any y x W hy hx
    rw [show jn ⟨fr, tt, true⟩ x y = node y x from rfl]
    generalize node y x = N at C
    go_enter Try.func71, Try.ntmps71
    go_wp2_with fail
    go_at_call 53
    refine (C.out _).mono ?_
    rintro e w' ⟨rfl, rfl⟩
    go_wp2_with fail
    go_ret
    exact ⟨rfl, (Below.refl _ w).alloc (Nat.le_refl _) _⟩
  | false =>
    have C : Hid (∀ W, Calls Try.prog 53 #[.int .i64 (x : Int), .int .i64 (y : Int)] W fun e w' => e = .returned (.int .i64 ((node x y : Nat) : Int)) ∧ w' = W) := fun W => nodeSum_any x y W hx hy
    rw [show jn ⟨fr, tt, false⟩ x y = node x y from rfl]
    generalize node x y = N at C
    go_enter Try.func71, Try.ntmps71
    go_wp2_with fail
    go_at_call 53
    refine (C.out _).mono ?_
    rintro e w' ⟨rfl, rfl⟩
    go_wp2_with fail
    go_ret
    exact ⟨rfl, (Below.refl _ w).alloc (Nat.le_refl _) _⟩

theorem sub_lq {l : List ByteArray} {x y i : Nat} (h : i < y - x) : lq (sub l x y) i = lq l (x + i) := by
  unfold lq sub
  rw [List.getD_eq_getElem?_getD, List.getD_eq_getElem?_getD, List.getElem?_take, if_pos h, List.getElem?_drop]

set_option maxRecDepth 100000 in
set_option maxHeartbeats 4000000 in
theorem rootIn_any (l : List ByteArray) (x y : Nat) (v : Value) (w : World) (hxy : x < y) (hy : y ≤ l.length) (h40 : l.length ≤ 40) (h20 : ∀ i, i < l.length → (lq l i).size ≤ 20) (hv : StAt w w.heap.size v l) :
    Calls Try.prog 77 #[.agg #[.int .i64 (x : Int), .int .i64 (y : Int)], v] w fun e w' => e = .returned (.int .i64 ((root (sub l x y) : Nat) : Int)) ∧ Below w.heap.size w w' := by
  obtain ⟨W0, hW0⟩ : ∃ W, W = w.alloc (.cells #[.int .i64 (x : Int), .int .i64 (y : Int)] 70) := ⟨_, rfl⟩
  have hB0 : Below w.heap.size w W0 := by rw [hW0]; exact (Below.refl _ w).alloc (Nat.le_refl _) _
  have x0 : W0.cell? ⟨w.heap.size, 0, none⟩ = some (.int .i64 (x : Int)) := by rw [hW0]; go_simp
  have x1 : W0.cell? ⟨w.heap.size, 1, none⟩ = some (.int .i64 (y : Int)) := by rw [hW0]; go_simp
  have hv0 := hv.below hB0
  obtain ⟨ao, cap, rfl, hlc, hcm, hrow⟩ := hv
  obtain ⟨g, o, rfl, hg, _⟩ := hrow 0 (by omega)
  unfold maxLen at hcm
  have hD := StAt.take (StAt.drop hv0 (k := x) (by omega) (some ⟨g, o + x, none⟩) (fun _ g' o' e => by
    simp only [Option.some.injEq, Addr.mk.injEq] at e
    obtain ⟨rfl, rfl, _⟩ := e
    rfl)) (k := y - x) (by rw [List.length_drop]; omega)
  have CR : Hid (Calls Try.prog 57 #[.slice (some ⟨g, o + x, none⟩) (y - x) (cap - x)] W0 fun e w' => e = .returned (.int .i64 ((root (sub l x y) : Nat) : Int)) ∧ ∃ m, w' = W0.drewN m) :=
    rootOf_any 41 (sub l x y) _ W0 (by rw [sub_len hy]; omega) (by rw [sub_len hy]; omega) (fun i hi => by rw [sub_len hy] at hi; rw [sub_lq hi]; exact h20 _ (by omega)) hD
  generalize root (sub l x y) = N at CR
  have h0 : (0 : Int) ≤ (x : Int) := by omega
  have h1 : (x : Int) ≤ (y : Int) := by omega
  have h2 : (y : Int) ≤ (l.length : Int) := by omega
  have h3 : (y : Int) ≤ (cap : Int) := by omega
  have h4 : ¬ cap = x := by omega
  have h5 : (y : Int) - (x : Int) = ((y - x : Nat) : Int) := by omega
  clear hD hv0 hrow h20
  go_enter Try.func77, Try.ntmps77
  go_upto_region 1 with fail
  rw [← hW0]
  clear hW0
  go_wp2_with fail
  go_at_call 57
  refine CR.out.mono ?_
  rintro e w' ⟨rfl, m, rfl⟩
  go_wp2_with fail
  go_ret
  exact ⟨rfl, below_drewT hB0⟩

end Go.Proofs.Ytlglngmlaknmlaa
