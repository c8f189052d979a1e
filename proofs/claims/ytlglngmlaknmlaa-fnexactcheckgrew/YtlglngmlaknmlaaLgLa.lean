/- Proofs that came in: opened, measured, copied. -/
import Derived.Test.YtlglngmlaknmlaaLgY
namespace Go.Proofs.Ytlglngmlaknmlaa
open Go.RowKit Plain Lgs Tpc

set_option maxRecDepth 100000 in
set_option maxHeartbeats 4000000 in
theorem szIntL (l : List Int) (v : Value) (w : World) (hT : ZAt w w.heap.size v l) :
    Calls Try.prog 65 #[v, .int .i64 1048576] w fun e w' => e = .returned (.int .i64 (if (1048576 : Int) < (l.length : Int) then -1 else 1048576 - (l.length : Int))) ∧ w' = w := by
  obtain ⟨ao, cap, rfl, hlc, hcm, _⟩ := hT
  unfold maxLen at hcm
  have hge : (-9223372036854775808 : Int) ≤ 1048576 - (l.length : Int) := by omega
  by_cases hbig : (1048576 : Int) < (l.length : Int)
  · have hlt : 1048576 - (l.length : Int) < 0 := by omega
    rw [if_pos hbig]
    go_enter Try.func65, Try.ntmps65
    go_wp2
    go_ret
    exact ⟨rfl, rfl⟩
  · have hlt : ¬ (1048576 - (l.length : Int) < 0) := by omega
    rw [if_neg hbig]
    go_enter Try.func65, Try.ntmps65
    go_wp2
    go_ret
    exact ⟨rfl, rfl⟩

set_option maxRecDepth 100000 in
set_option maxHeartbeats 4000000 in
theorem szProof_left (l : List Int) (v : Value) (w : World) (hT : ZAt w w.heap.size v l) :
    Calls Try.prog 30 #[.agg #[v], .int .i64 1048576] w fun e w' => (∃ r : Int, e = .returned (.int .i64 r) ∧ r ≤ 1048576 ∧ (0 ≤ r → l.length ≤ 1048576)) ∧ Below w.heap.size w w' := by
  obtain ⟨W0, hW0⟩ : ∃ W, W = w.alloc (.cells #[v] 43) := ⟨_, rfl⟩
  have hB0 : Below w.heap.size w W0 := by rw [hW0]; exact (Below.refl _ w).alloc (Nat.le_refl _) _
  have x0 : W0.cell? ⟨w.heap.size, 0, none⟩ = some v := by rw [hW0]; go_simp
  have C := szIntL l v W0 (hT.below hB0)
  obtain ⟨a1, c1, rfl, _⟩ := hT
  by_cases hbig : (1048576 : Int) < (l.length : Int)
  · rw [if_pos hbig] at C
    go_enter Try.func30, Try.ntmps30
    go_upto_region 1 with fail
    rw [← hW0]
    clear hW0
    go_wp2_with fail
    go_at_call 65
    refine C.mono ?_
    rintro e w1 ⟨rfl, rfl⟩
    go_wp2_with fail
    go_ret
    exact ⟨⟨_, rfl, by omega, fun h => by omega⟩, hB0⟩
  · rw [if_neg hbig] at C
    have hlt : ¬ (1048576 - (l.length : Int) < 0) := by omega
    go_enter Try.func30, Try.ntmps30
    go_upto_region 1 with fail
    rw [← hW0]
    clear hW0
    go_wp2_with fail
    go_at_call 65
    refine C.mono ?_
    rintro e w1 ⟨rfl, rfl⟩
    go_wp2_with fail
    go_ret
    exact ⟨⟨_, rfl, by omega, fun h => by omega⟩, hB0⟩

set_option maxRecDepth 100000 in
set_option maxHeartbeats 4000000 in
theorem toProof_any (l : List Int) (v : Value) (w : World) (hT : ZAt w w.heap.size v l) (hl : l.length ≤ 1048576) :
    Calls Try.prog 32 #[.agg #[v]] w fun e w' => ∃ a c, e = .returned (.agg #[.slice a l.length c]) ∧ ZRow w' w.heap.size (.slice a l.length c) l ∧ Below w.heap.size w w' := by
  have rc := fun (tmps : Array Value) (P : Program) (w : World) => results_cellL (fn := Try.f32) (p := 2) (ty := 37) rfl tmps P w
  have HT : Hid (ZAt w w.heap.size v l) := hT
  obtain ⟨a1, c1, rfl, _⟩ := hT
  obtain ⟨W0, hW0⟩ : ∃ W, W = ((w.alloc (.cells #[.slice a1 l.length c1] 43)).alloc (.cells #[.slice none 0 0] 37)).alloc (.cells #[.slice none 0 0] 37) := ⟨_, rfl⟩
  have hB0 : Below w.heap.size w W0 := by rw [hW0]; exact (((Below.refl _ w).alloc (Nat.le_refl _) _).alloc (by simp) _).alloc (by simp; omega) _
  have hs0 : W0.heap.size = w.heap.size + 3 := by rw [hW0]; simp
  have x0 : W0.cell? ⟨w.heap.size, 0, none⟩ = some (.slice a1 l.length c1) := by rw [hW0]; go_simp
  have x1 : W0.cell? ⟨w.heap.size + 1, 0, none⟩ = some (.slice none 0 0) := by rw [hW0]; go_simp
  have x2 : W0.cell? ⟨w.heap.size + 2, 0, none⟩ = some (.slice none 0 0) := by rw [hW0]; go_simp
  have z1 : W0.frozen? ⟨w.heap.size + 1, 0, none⟩ = false := by rw [hW0]; go_simp
  have z2 : W0.frozen? ⟨w.heap.size + 2, 0, none⟩ = false := by rw [hW0]; go_simp
  have C := toIntS_any l _ W0 (HT.out.below hB0) hl
  go_enter Try.func32, Try.ntmps32
  go_upto_region 2 with fail
  rw [← hW0]
  clear hW0
  go_wp2_with fail
  go_at_call 68
  refine C.mono ?_
  rintro e w1 ⟨u, rfl, hz, hb⟩
  have hs1 := hb.size
  have x1 := (hb.cell (p := ⟨w.heap.size + 1, 0, none⟩) (by show w.heap.size + 1 < _; omega)).trans x1
  have x2 := (hb.cell (p := ⟨w.heap.size + 2, 0, none⟩) (by show w.heap.size + 2 < _; omega)).trans x2
  have z1 := (hb.frozen (p := ⟨w.heap.size + 1, 0, none⟩) (by show w.heap.size + 1 < _; omega)).trans z1
  have z2 := (hb.frozen (p := ⟨w.heap.size + 2, 0, none⟩) (by show w.heap.size + 2 < _; omega)).trans z2
  obtain ⟨a, c, rfl⟩ := hz.slice
  have HZ : Hid (ZRow ((w1.setCell ⟨w.heap.size + 2, 0, none⟩ (.slice a l.length c)).setCell ⟨w.heap.size + 1, 0, none⟩ (.slice a l.length c)) w.heap.size (.slice a l.length c) l) := ((hz.lower (by omega)).aside (Lib.grownBy_setCell _ (w.heap.size + 2) 0 _) (fun g hg h => by
    have := (World.ownsRow.lt hz g hg).1
    simp only [Option.some.injEq] at h
    omega)).aside (Lib.grownBy_setCell _ (w.heap.size + 1) 0 _) (fun g hg h => by
    have := (World.ownsRow.lt hz g hg).1
    simp only [Option.some.injEq] at h
    omega)
  have HB : Hid (Below w.heap.size w ((w1.setCell ⟨w.heap.size + 2, 0, none⟩ (.slice a l.length c)).setCell ⟨w.heap.size + 1, 0, none⟩ (.slice a l.length c))) := ((hB0.trans (hb.mono (by omega))).setCell (p := ⟨w.heap.size + 2, 0, none⟩) (Nat.le_add_right _ _) _).setCell (p := ⟨w.heap.size + 1, 0, none⟩) (Nat.le_add_right _ _) _
  clear hz hb
  go_wp2
  (try simp only [Exit.inBlock, Exit.then])
  refine bodyPost_ret (v := .agg #[.slice a l.length c]) ?_ rfl ⟨a, c, rfl, HZ.out, HB.out⟩
  rw [rc]
  go_simp

set_option maxRecDepth 100000 in
theorem open_proof {H : Type} {enc : TypeId × Value → H} {W : World} {base : Nat} {v0 : Value} {d0 : DataW H} {p0 : List MemPlace} (hok : Value.okWide Try.prog W .any base 43 v0)
    (h0 : DataW.Trod enc Try.prog W 0 (fun _ => true) true 43 v0 d0 p0) : ∃ v l, v0 = .agg #[v] ∧ ZAt W W.heap.size v l := by
  unfold Value.okWide at hok
  rw [Try.underlying43] at hok
  obtain ⟨cs, rfl, hsz, _⟩ := hok
  have c24 : Try.prog.cellsOf 43 = 1 := by kernel_rfl
  have c22 : Try.prog.cellsOf 35 = 1 := by kernel_rfl
  rw [c24] at hsz
  obtain ⟨fuel, hf⟩ := h0
  obtain ⟨l⟩ := cs
  match l, hsz with
  | [v], _ =>
    refine ⟨v, ?_⟩
    obtain ⟨xs, m1, rfl, _, _, hn, hff⟩ := DataW.trod_struct Try.underlying43 hf
    have f0 : DataW.trod enc Try.prog W 0 (fun _ => true) true m1 35 ((([v] : List Value).drop 0).take (Try.prog.cellsOf 35)) = xs[0]? := hff 0 _ rfl
    rw [c22] at f0
    match xs, hn with
    | [x0], _ =>
      have f1 : DataW.trod enc Try.prog W 0 (fun _ => true) true m1 35 [v] = some x0 := f0
      have hv : v.cells = #[v] := by
        rcases DataW.trod_slice Try.underlying35 f1 with ⟨hcs, _⟩ | ⟨a, len, cap, elems, rest, m2, _, hcs, _⟩
        · simp at hcs
          subst hcs
          rfl
        · simp at hcs
          subst hcs
          rfl
      have hT : DataW.Trod enc Try.prog W 0 (fun _ => true) true 35 v x0.1 x0.2 := ⟨m1, by rw [hv]; exact f1⟩
      obtain ⟨l, hl⟩ := open_ints hT hv
      exact ⟨l, rfl, hl⟩

end Go.Proofs.Ytlglngmlaknmlaa
