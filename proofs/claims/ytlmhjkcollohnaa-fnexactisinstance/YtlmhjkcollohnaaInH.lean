/- The model's IsInstance at any two terms. -/
import Derived.Test.YtlmhjkcollohnaaInG
import Derived.Laws.MakeOwn
namespace Go.Proofs.Ytlmhjkcollohnaa
open Go.RowKit Plain Sch Trm

theorem Try.infoBl : (Try.prog.info? 4).map (fun i => (i.zero, i.size, i.bytes)) = some (some (.bool false), 1, 1) := by kernel_rfl

/-- the model's have and known, just made -/
theorem StM.made (w : World) (N H K : Nat) (S : Nat → Prop) (hNH : N ≤ H) (hNK : N ≤ K) (hHK : H ≠ K) (hH : H < w.heap.size) (hK : K < w.heap.size) (ch : Array Value) (ck : Array Value) (t1 t2 : TypeId)
    (h1 : w.heap[H]? = some (.cells ch t1)) (h2 : w.heap[K]? = some (.cells ck t2)) (s1 : ch.size = 18) (s2 : ∀ i, i < 6 → ck[i]? = some (.bool false)) : StM w N H K S fun _ => none := by
  refine ⟨hNH, hNK, hHK, hH, hK, fun i hi => ?_, fun i => ?_, fun i hi => ?_, fun i => ?_, fun i t hi ht => by cases ht⟩
  · have := s2 i hi
    simp [World.cell?, h2, this]
  · simp [World.frozen?, h2]
  · have : ch[i]? = some ch[i] := Array.getElem?_eq_getElem (by omega)
    exact ⟨ch[i], by simp only [World.cell?, h1]; first | exact this | simp [this]⟩
  · simp [World.frozen?, h1]

theorem mk6 : ∃ M, M = madeCells (Value.bool false).cells 6 ∧ ∀ i, i < 6 → M[i]? = some (.bool false) := by
  refine ⟨_, rfl, fun i hi => ?_⟩
  simp [madeCells, Value.cells, hi, Nat.mod_one]

set_option maxRecDepth 100000 in
set_option maxHeartbeats 2000000 in
theorem specInst (A B : List Ce) (va vb : Value) (w : World) (hA : CesAt w w.heap.size va A) (hB : CesAt w w.heap.size vb B) :
    Calls Try.prog 18 #[.agg #[va], .agg #[vb]] w fun e w' => e = .returned (.tuple #[.bool (iof A B).1, .bool (iof A B).2]) ∧ Below w.heap.size w w' := by
  have HA : Hid (CesAt w w.heap.size va A) := hA
  have HB : Hid (CesAt w w.heap.size vb B) := hB
  obtain ⟨ao, cap, rfl, _⟩ := hA
  obtain ⟨ao2, cap2, rfl, _⟩ := hB
  obtain ⟨R, hR⟩ : ∃ R, Hid (R = iof A B) := ⟨_, rfl⟩
  rw [← hR.out]
  obtain ⟨W2, hW2⟩ : ∃ W, W = (w.alloc (.cells #[.slice ao A.length cap] 29)).alloc (.cells #[.slice ao2 B.length cap2] 29) := ⟨_, rfl⟩
  have hB2 : Below w.heap.size w W2 := by rw [hW2]; exact ((Below.refl _ w).alloc (Nat.le_refl _) _).alloc (by simp) _
  have HS2 : Hid (W2.heap.size = w.heap.size + 2) := by show _ = _; rw [hW2]; simp
  have x0 : W2.cell? ⟨w.heap.size, 0, none⟩ = some (.slice ao A.length cap) := by rw [hW2]; go_simp
  have y0 : W2.cell? ⟨w.heap.size + 1, 0, none⟩ = some (.slice ao2 B.length cap2) := by rw [hW2]; go_simp
  have hsy : w.heap.size + 1 < W2.heap.size := by rw [HS2.out]; omega
  go_enter Try.func18, Try.ntmps18
  go_upto_region 1 with fail
  rw [← hW2]
  clear hW2
  go_wp2_with fail
  refine (l6Tree_any A _ _ (HA.out.below hB2)).mono ?_
  intro e w3 h3
  obtain ⟨av, an, aa, la, ca, rfl, hb3, hxa⟩ := h3.form
  clear h3
  have hB3 : Below w.heap.size w w3 := hB2.trans (hb3.mono hB2.size)
  have hs3 := hb3.size
  have y3 := (hb3.cell (p := ⟨w.heap.size + 1, 0, none⟩) hsy).trans y0
  obtain ⟨W4, hW4⟩ : ∃ W, W = w3.alloc (.cells #[.int .i64 av, .string an, .slice aa la ca] 48) := ⟨_, rfl⟩
  have hb4 : Below w3.heap.size w3 W4 := by rw [hW4]; exact (Below.refl _ w3).alloc (Nat.le_refl _) _
  have hB4 : Below w.heap.size w W4 := hB3.trans (hb4.mono hB3.size)
  have HS4 : Hid (W4.heap.size = w3.heap.size + 1) := by show _ = _; rw [hW4]; simp
  have y4 := (hb4.cell (p := ⟨w.heap.size + 1, 0, none⟩) (by show w.heap.size + 1 < _; omega)).trans y3
  have p0 : W4.cell? ⟨w3.heap.size, 0, none⟩ = some (.int .i64 av) := by rw [hW4]; go_simp
  have p1 : W4.cell? ⟨w3.heap.size, 1, none⟩ = some (.string an) := by rw [hW4]; go_simp
  have p2 : W4.cell? ⟨w3.heap.size, 2, none⟩ = some (.slice aa la ca) := by rw [hW4]; go_simp
  go_upto_region 2 with fail
  rw [← hW4]
  clear hW4
  go_wp2_with fail
  refine (l6Tree_any B _ _ (HB.out.below hB4)).mono ?_
  intro e w5 h5
  obtain ⟨bv, bn, ab, lb, cb, rfl, hb5, hxb⟩ := h5.form
  clear h5
  have hB5 : Below w.heap.size w w5 := hB4.trans (hb5.mono hB4.size)
  have hs5 := hb5.size
  have hp4 : w3.heap.size < W4.heap.size := by have := HS4.out; omega
  have p0 := (hb5.cell (p := ⟨w3.heap.size, 0, none⟩) hp4).trans p0
  have p1 := (hb5.cell (p := ⟨w3.heap.size, 1, none⟩) hp4).trans p1
  have p2 := (hb5.cell (p := ⟨w3.heap.size, 2, none⟩) hp4).trans p2
  obtain ⟨W6, hW6⟩ : ∃ W, W = w5.alloc (.cells #[.int .i64 bv, .string bn, .slice ab lb cb] 48) := ⟨_, rfl⟩
  have hb6 : Below w5.heap.size w5 W6 := by rw [hW6]; exact (Below.refl _ w5).alloc (Nat.le_refl _) _
  have hB6 : Below w.heap.size w W6 := hB5.trans (hb6.mono hB5.size)
  have HS6 : Hid (W6.heap.size = w5.heap.size + 1) := by show _ = _; rw [hW6]; simp
  have hp5 : w3.heap.size < w5.heap.size := by omega
  have p0 := (hb6.cell (p := ⟨w3.heap.size, 0, none⟩) hp5).trans p0
  have p1 := (hb6.cell (p := ⟨w3.heap.size, 1, none⟩) hp5).trans p1
  have p2 := (hb6.cell (p := ⟨w3.heap.size, 2, none⟩) hp5).trans p2
  have r0 : W6.cell? ⟨w5.heap.size, 0, none⟩ = some (.int .i64 bv) := by rw [hW6]; go_simp
  have r1 : W6.cell? ⟨w5.heap.size, 1, none⟩ = some (.string bn) := by rw [hW6]; go_simp
  have r2 : W6.cell? ⟨w5.heap.size, 2, none⟩ = some (.slice ab lb cb) := by rw [hW6]; go_simp
  go_upto_region 3 with fail
  rw [← hW6]
  clear hW6
  by_cases hgA : gt A = true
  · by_cases hgB : gt B = true
    · obtain ⟨x, hx1, hx2, hx3, hx4⟩ := hxa.out hgA
      obtain ⟨y, hy1, hy2, hy3, hy4⟩ := hxb.out hgB
      subst hx2 hx3 hy2 hy3
      have hRR : Hid (R = ((mt2 x y fun _ => none).isSome, true)) := hR.out.trans (iof_yes hgA hgB hx1 hy1)
      have hok := rd_ok 31 _ _ _ (tre_some hy1)
      obtain ⟨i0, hi, hz0, hz1, hz2⟩ := info_parts Try.infoTT
      obtain ⟨j0, hj, hj0, hj1, hj2⟩ := info_parts Try.infoBl
      obtain ⟨M, hM⟩ : ∃ M, M = madeCells (Value.agg #[.int .i64 0, .string ⟨#[]⟩, .slice none 0 0]).cells ((6 : Int).toNat * i0.size) := ⟨_, rfl⟩
      have hMs : Hid (M.size = 18) := by show _ = _; rw [hM, size_madeCells, hz1]; rfl
      obtain ⟨MB, hMB, hMB6⟩ := mk6
      have HMB : Hid (∀ i, i < 6 → MB[i]? = some (.bool false)) := hMB6
      have hmk1 : ∀ W : World, (Instr.makeSlice 46 (.int .i64 6) (.int .i64 6)).run Try.prog W = .ok (.slice (some ⟨W.heap.size, 0, none⟩) 6 6) (W.alloc (.cells M 48)) := fun W => by
        have h := run_make (P := Try.prog) W 46 48 i0 (.agg #[.int .i64 0, .string ⟨#[]⟩, .slice none 0 0]) Try.underlying46 hi hz0 .i64 .i64 6 6 (by omega) (by omega) (by rw [hz2]; omega) (by omega)
        rw [← hM] at h
        simpa using h
      have hmk2 : ∀ W : World, (Instr.makeSlice 61 (.int .i64 6) (.int .i64 6)).run Try.prog W = .ok (.slice (some ⟨W.heap.size, 0, none⟩) 6 6) (W.alloc (.cells MB 4)) := fun W => by
        have h := run_make (P := Try.prog) W 61 4 j0 (.bool false) Try.underlying61 hj hj0 .i64 .i64 6 6 (by omega) (by omega) (by rw [hj2]; omega) (by omega)
        rw [hj1] at h
        have e6 : madeCells (Value.bool false).cells ((6 : Int).toNat * 1) = MB := by rw [hMB]; rfl
        rw [e6] at h
        simpa using h
      clear hM hMB hMB6
      have HC : Hid (∀ W : World, Below W6.heap.size W6 W → ∀ H K, W6.heap.size ≤ H → W6.heap.size ≤ K → H ≠ K → H < W.heap.size → K < W.heap.size → W.heap[H]? = some (.cells M 48) → W.heap[K]? = some (.cells MB 4) →
          Calls Try.prog 32 #[.agg #[.int .i64 x.v, .string x.name, .slice aa la ca], .agg #[.int .i64 y.v, .string y.name, .slice ab lb cb], .slice (some ⟨H, 0, none⟩) 6 6, .slice (some ⟨K, 0, none⟩) 6 6] W fun r w' => r = .returned (.bool (mt2 x y fun _ => none).isSome) ∧ Below W6.heap.size W w') := fun W hW H K h1 h2 h3 h4 h5 h6 h7 => by
        have hlt : ∀ g, g < w5.heap.size → W.heap[g]? = w5.heap[g]? := fun g hg => (hW.block g (by have := HS6.out; omega)).trans (hb6.block g hg)
        refine (matchC_all 31 31 x y aa la ca ab lb cb W6.heap.size H K W (fun g => g < w5.heap.size) (fun _ => none) (hx4.kept (fun g hg => ?_) (fun g hg => ?_)) (fun g hg => by have := HS6.out; omega) (hy4.kept (fun g hg => hlt g hg.2) (fun g hg => hg.2)) hok (StM.made W _ H K _ h1 h2 h3 h4 h5 M MB _ _ h6 h7 hMs.out HMB.out)).mono ?_
        · rw [hlt g (by have := hg.2; omega), hb5.block g (by have := hg.2; have := HS4.out; omega), hb4.block g hg.2]
        · have := hg.2
          have := HS4.out
          omega
        · rintro r w' ⟨rfl, hf, _⟩
          exact ⟨rfl, hf.1⟩
      rw [hgA, hgB]
      have HS6' : Hid (w5.heap.size < W6.heap.size ∧ w3.heap.size < W6.heap.size) := by show _ ∧ _; have := HS6.out; omega
      clear hx4 hy4 hok hgA hgB hxa hxb hx1 hy1
      generalize (mt2 x y fun _ => none).isSome = q at HC hRR
      have hD : ∀ a b, Below W6.heap.size W6 ((W6.alloc a).alloc b).drew := fun a b => ((((Below.refl _ W6)).alloc (Nat.le_refl _) a).alloc (by simp) b).drew
      have HC1 : Hid (Calls Try.prog 32 #[.agg #[.int .i64 x.v, .string x.name, .slice aa la ca], .agg #[.int .i64 y.v, .string y.name, .slice ab lb cb], .slice (some ⟨W6.heap.size, 0, none⟩) 6 6, .slice (some ⟨W6.heap.size + 1, 0, none⟩) 6 6] ((W6.alloc (.cells M 48)).alloc (.cells MB 4)).drew fun r w' => r = .returned (.bool q) ∧ Below W6.heap.size ((W6.alloc (.cells M 48)).alloc (.cells MB 4)).drew w') := by
        have hs : ((W6.alloc (.cells M 48)).alloc (.cells MB 4)).drew.heap.size = W6.heap.size + 2 := by simp
        refine HC.out _ (hD _ _) W6.heap.size (W6.heap.size + 1) (by omega) (by omega) (by omega) (by omega) (by omega) ?_ ?_
        · show ((W6.alloc (.cells M 48)).alloc (.cells MB 4)).heap[W6.heap.size]? = _
          rw [Below.heap_alloc _ _ _ (by simp)]
          exact heap_alloc_new W6 _
        · have h9 := heap_alloc_new (W6.alloc (.cells M 48)) (.cells MB 4)
          have e9 : (W6.alloc (.cells M 48)).heap.size = W6.heap.size + 1 := by simp
          rw [e9] at h9
          exact h9
      have HC2 : Hid (Calls Try.prog 32 #[.agg #[.int .i64 x.v, .string x.name, .slice aa la ca], .agg #[.int .i64 y.v, .string y.name, .slice ab lb cb], .slice (some ⟨W6.heap.size + 1, 0, none⟩) 6 6, .slice (some ⟨W6.heap.size, 0, none⟩) 6 6] ((W6.alloc (.cells MB 4)).alloc (.cells M 48)).drew fun r w' => r = .returned (.bool q) ∧ Below W6.heap.size ((W6.alloc (.cells MB 4)).alloc (.cells M 48)).drew w') := by
        have hs : ((W6.alloc (.cells MB 4)).alloc (.cells M 48)).drew.heap.size = W6.heap.size + 2 := by simp
        refine HC.out _ (hD _ _) (W6.heap.size + 1) W6.heap.size (by omega) (by omega) (by omega) (by omega) (by omega) ?_ ?_
        · have h9 := heap_alloc_new (W6.alloc (.cells MB 4)) (.cells M 48)
          have e9 : (W6.alloc (.cells MB 4)).heap.size = W6.heap.size + 1 := by simp
          rw [e9] at h9
          exact h9
        · show ((W6.alloc (.cells MB 4)).alloc (.cells M 48)).heap[W6.heap.size]? = _
          rw [Below.heap_alloc _ _ _ (by simp)]
          exact heap_alloc_new W6 _
      have hBd : ∀ a b, Below w.heap.size w ((W6.alloc a).alloc b).drew := fun a b => hB6.trans ((hD a b).mono hB6.size)
      obtain ⟨hl5, hl3⟩ := HS6'.out
      go_wp2_with fail
      go_region_with (go_at_call 32; first
        | (with_reducible refine HC1.out.mono ?_; rintro e w7 ⟨rfl, hb7⟩; have hB7 : Below w.heap.size w w7 := (hBd _ _).trans (hb7.mono hB6.size))
        | (with_reducible refine HC2.out.mono ?_; rintro e w7 ⟨rfl, hb7⟩; have hB7 : Below w.heap.size w w7 := (hBd _ _).trans (hb7.mono hB6.size)))
      all_goals
        go_wp2
        go_ret2
        rw [hRR.out]
        exact ⟨rfl, hB7⟩
    · have hgB' : gt B = false := by simpa using hgB
      have hRR : Hid (R = (false, false)) := hR.out.trans (iof_no (by rw [hgB']; simp))
      rw [hgA, hgB']
      clear hgB hgA
      go_wp2
      go_ret2
      rw [hRR.out]
      exact ⟨rfl, hB6⟩
  · have hgA' : gt A = false := by simpa using hgA
    have hRR : Hid (R = (false, false)) := hR.out.trans (iof_no (by rw [hgA']; simp))
    rw [hgA']
    clear hgA
    go_wp2
    go_ret2
    rw [hRR.out]
    exact ⟨rfl, hB6⟩

end Go.Proofs.Ytlmhjkcollohnaa
