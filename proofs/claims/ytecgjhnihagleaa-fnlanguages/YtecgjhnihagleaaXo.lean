/- The program's met. The program's MeetMachines. -/
import Derived.Test.YtecgjhnihagleaaXi
import Derived.Deep.Upon
import Derived.Test.YtecgjhnihagleaaXg
namespace Go.Proofs.Ytecgjhnihagleaa
open Go.RowKit Plain Mch Tpc

set_option maxRecDepth 100000 in
set_option maxHeartbeats 8000000 in
theorem met_any (E F : List Bool) (B b : Nat) (vp vn vt : Value) (l : List Pq) (T : List ByteArray) (R : List (List Int)) (us : List Value) (va ea vb eb : Value) (A1 B1 : List (List Int)) (w : World) (hP : PWa w B b vp vn vt l T R us) (hA : MAt w w.heap.size va A1) (hEA : EAt w w.heap.size ea E) (hB : MAt w w.heap.size vb B1) (hEB : EAt w w.heap.size eb F) (hlo : ∀ i, i < l.length → (pq l i).a < E.length ∧ (pq l i).b < F.length) (hl : l.length ≤ 144) :
    Calls Try.prog 51 #[.pointer (some ⟨b, 0, none⟩), .agg #[va, ea], .agg #[vb, eb]] w fun x w' => (∃ e, x = .returned (.agg #[vn, e]) ∧ ERow w' w.heap.size e (l.map (ben E F))) ∧ Below w.heap.size w w' := by
  obtain ⟨j0, hj, jz0, jz1, jz2⟩ := info_parts Try.infoBo
  have HP : Hid (PWa w B b vp vn vt l T R us) := hP
  have HE : Hid (EAt w w.heap.size ea E) := hEA
  have HF : Hid (EAt w w.heap.size eb F) := hEB
  have HLO : Hid (∀ i, i < l.length → (pq l i).a < E.length ∧ (pq l i).b < F.length) := hlo
  obtain ⟨aA, cA, rfl, _⟩ := hA
  obtain ⟨aB, cB, rfl, _⟩ := hB
  obtain ⟨aE, cE, rfl, hlcE, hcmE, _⟩ := hEA
  obtain ⟨aF, cF, rfl, hlcF, hcmF, _⟩ := hEB
  unfold maxLen at hcmE hcmF
  obtain ⟨an, cn, hvn⟩ := hP.rn.slice
  subst hvn
  obtain ⟨ap, cp, hvp, hcp⟩ := hP.rp.slice
  subst hvp
  have rc := fun (tmps : Array Value) (P : Program) (w : World) => results_cellM (fn := Try.f51) (p := 6) (ty := 30) rfl tmps P w
  have n1 := hP.c1
  have hbl := hP.lb
  obtain ⟨W0, hW0⟩ : ∃ W, W = ((w.alloc (.cells #[.slice aA A1.length cA, .slice aE E.length cE] 30)).alloc (.cells #[.slice aB B1.length cB, .slice aF F.length cF] 30)).alloc (.cells #[.slice none 0 0, .slice none 0 0] 30) := ⟨_, rfl⟩
  have hb0 : Below w.heap.size w W0 := by rw [hW0]; exact (((Below.refl _ w).alloc (Nat.le_refl _) _).alloc (by simp) _).alloc (by simp; omega) _
  have HS0 : Hid (W0.heap.size = w.heap.size + 3) := by show _ = _; rw [hW0]; simp
  have n10 := (hb0.cell (p := ⟨b, 1, none⟩) hbl).trans n1
  obtain ⟨W1, hW1⟩ : ∃ W, W = W0.alloc (.cells #[.slice an R.length cn, .slice none 0 0] 30) := ⟨_, rfl⟩
  have HS1 : Hid (W1.heap.size = w.heap.size + 4) := by show _ = _; rw [hW1]; simp; exact HS0.out
  have hB1 : Below w.heap.size w W1 := by rw [hW1]; exact hb0.alloc (by have := HS0.out; omega) _
  have Q1 : Hid (W1.cell? ⟨w.heap.size, 1, none⟩ = some (.slice aE E.length cE)) := by show _ = _; rw [hW1, hW0]; go_simp
  have Q3 : Hid (W1.cell? ⟨w.heap.size + 1, 1, none⟩ = some (.slice aF F.length cF)) := by show _ = _; rw [hW1, hW0]; go_simp
  have P0 : Hid (W1.cell? ⟨w.heap.size + 2, 0, none⟩ = some (.slice none 0 0) ∧ W1.cell? ⟨w.heap.size + 2, 1, none⟩ = some (.slice none 0 0) ∧ W1.frozen? ⟨w.heap.size + 2, 0, none⟩ = false ∧ W1.frozen? ⟨w.heap.size + 2, 1, none⟩ = false) := by refine ⟨?_, ?_, ?_, ?_⟩ <;> rw [hW1, hW0] <;> go_simp
  have HV1 : Hid (VSt W1 (w.heap.size + 3) (.slice an R.length cn) (.slice none 0 0) []) := by
    have e := HS0.out
    refine ⟨by rw [HS1.out]; omega, ?_, ?_, ?_, ERow.nil _ _⟩
    · rw [hW1, ← e]; go_simp
    · rw [hW1, ← e]; go_simp
    · rw [hW1, ← e]; go_simp
  have p0 := (HP.out.below hB1).c0
  clear hP n1
  go_enter Try.func51, Try.ntmps51
  go_upto_region 1 with fail
  rw [← hW0]
  clear hW0
  have hS0' : W0.heap.size = w.heap.size + 3 := HS0.out
  go_upto_region 2 with fail
  rw [← hW1]
  clear hW1 n10 hS0'
  go_wp2
  go_loopw [20] (fun vi wr => ∃ (i : Nat) (e : Value), i ≤ l.length ∧ vi = .int .i64 (i : Int) ∧ Hid (VSt wr (w.heap.size + 3) (.slice an R.length cn) e ((l.map (ben E F)).take i)) ∧ Hid (Below (w.heap.size + 3) W1 wr))
    (fun vi _ => l.length - (intOf vi).toNat)
  case atStart => exact ⟨0, _, by omega, rfl, HV1, Below.refl _ _⟩
  case round =>
    obtain ⟨i, e, hin, rfl, hV, hbw⟩ := hrel
    clear HV1 p0
    have hBr : Below w.heap.size w wr := hB1.trans (hbw.out.mono (by omega))
    have hszr : w.heap.size + 4 ≤ wr.heap.size := by have := hbw.out.size; have := HS1.out; omega
    have HTL : Hid (((l.map (ben E F)).take i).length = i) := by show _ = _; rw [List.length_take, List.length_map]; omega
    obtain ⟨ev, dv, hev⟩ := ERow.slice hV.out.own
    subst hev
    by_cases hlt : i < l.length
    · have hlt' : (i : Int) < (l.length : Int) := by omega
      have HPr : Hid (PWa wr B b (.slice ap l.length cp) (.slice an R.length cn) vt l T R us) := HP.out.below hBr
      obtain ⟨g, hap, hgl, _, k0, k1⟩ := HPr.out.rp.cells hlt
      subst hap
      have hlo := HLO.out i hlt
      have HNX : Hid ((l.map (ben E F)).take (i + 1) = (l.map (ben E F)).take i ++ [ben E F (pq l i)]) := ben_at hlt
      obtain ⟨p, hp⟩ : ∃ p, pq l i = p := ⟨_, rfl⟩
      rw [hp] at k0 k1 hlo HNX
      clear hp
      obtain ⟨G, hG⟩ : ∃ G, G = (l.map (ben E F)).take i := ⟨_, rfl⟩
      rw [← hG] at HNX HTL
      have hV' : VSt wr (w.heap.size + 3) (.slice an R.length cn) (.slice ev G.length dv) G := by rw [hG]; exact hV.out
      clear hG hV
      obtain ⟨W5, hW5⟩ : ∃ W, W = wr.alloc (.cells #[.int .i64 (p.a : Int), .int .i64 (p.b : Int)] 86) := ⟨_, rfl⟩
      have hb5 : Below wr.heap.size wr W5 := by rw [hW5]; exact (Below.refl _ wr).alloc (Nat.le_refl _) _
      have x0 : W5.cell? ⟨wr.heap.size, 0, none⟩ = some (.int .i64 (p.a : Int)) := by rw [hW5]; go_simp
      have x1 : W5.cell? ⟨wr.heap.size, 1, none⟩ = some (.int .i64 (p.b : Int)) := by rw [hW5]; go_simp
      have hl5 : wr.heap.size < W5.heap.size := by rw [hW5]; simp
      have hB5 : Below w.heap.size w W5 := hBr.trans (hb5.mono hBr.size)
      have q1 := (hb5.cell (p := ⟨w.heap.size, 1, none⟩) (by show w.heap.size < _; omega)).trans ((hbw.out.cell (p := ⟨w.heap.size, 1, none⟩) (by show w.heap.size < _; omega)).trans Q1.out)
      have q3 := (hb5.cell (p := ⟨w.heap.size + 1, 1, none⟩) (by show w.heap.size + 1 < _; omega)).trans ((hbw.out.cell (p := ⟨w.heap.size + 1, 1, none⟩) (by show w.heap.size + 1 < _; omega)).trans Q3.out)
      obtain ⟨gE, oE, hvE, hgE, cE0⟩ := HE.out.to (i := p.a) hlo.1
      have cE5 := (hB5.cell (p := ⟨gE, oE + p.a, none⟩) hgE).trans cE0
      clear cE0
      obtain ⟨gF, oF, hvF, hgF, cF0⟩ := HF.out.to (i := p.b) hlo.2
      have cF5 := (hB5.cell (p := ⟨gF, oF + p.b, none⟩) hgF).trans cF0
      clear cF0
      subst hvE hvF
      have hpa : (p.a : Int) < (E.length : Int) := by omega
      have hpb : (p.b : Int) < (F.length : Int) := by omega
      have HV5 : Hid (VSt W5.drew (w.heap.size + 3) (.slice an R.length cn) (.slice ev G.length dv) G) := (hV'.below hb5).below ((Below.refl _ W5).drew)
      have m5 : W5.drew.cell? ⟨w.heap.size + 3, 1, none⟩ = some (.slice ev G.length dv) := HV5.out.c1
      have m5' : W5.cell? ⟨w.heap.size + 3, 1, none⟩ = some (.slice ev G.length dv) := m5
      have m5a : ∀ o, (W5.alloc o).cell? ⟨w.heap.size + 3, 1, none⟩ = some (.slice ev G.length dv) := fun o => (HV5.out.below ((Below.refl _ W5.drew).alloc (Nat.le_refl _) o)).c1
      have HB5 : Hid (Below (w.heap.size + 3) W1 W5) := hbw.out.trans (hb5.mono (by omega))
      have hG144 : G.length ≤ 144 := by have := HTL.out; omega
      have hs5 : w.heap.size + 4 ≤ W5.heap.size := by omega
      have HBN : Hid (ben E F p = (en E p.a && en F p.b)) := rfl
      rw [HBN.out] at HNX
      clear HBN
      generalize en E p.a = x at cE5 HNX
      generalize en F p.b = y at cF5 HNX
      have HRW : Hid (∀ j, (j < w.heap.size + 4 ∨ j = wr.heap.size) → some j ≠ (Value.slice ev G.length dv).ownBlock) := fun j h e => by
        have := World.ownsRow.lt hV'.own j e.symm
        omega
      have hgE5 : gE < W5.heap.size := by omega
      have hgF5 : gF < W5.heap.size := by omega
      clear hV' hb5 hlo hbw
      go_upto_region 5 with fail
      rw [← hW5]
      clear hW5 k0 k1
      have HSX : Hid (∀ w' : World, Below W5.heap.size W5 w' → w'.cell? ⟨w.heap.size, 1, none⟩ = some (.slice (some ⟨gE, oE, none⟩) E.length cE) ∧ w'.cell? ⟨w.heap.size + 1, 1, none⟩ = some (.slice (some ⟨gF, oF, none⟩) F.length cF) ∧ w'.cell? ⟨wr.heap.size, 0, none⟩ = some (.int .i64 (p.a : Int)) ∧ w'.cell? ⟨wr.heap.size, 1, none⟩ = some (.int .i64 (p.b : Int)) ∧ w'.cell? ⟨gE, oE + p.a, none⟩ = some (.bool x) ∧ w'.cell? ⟨gF, oF + p.b, none⟩ = some (.bool y)) := fun w' h => ⟨(h.cell (p := ⟨w.heap.size, 1, none⟩) (by show w.heap.size < _; omega)).trans q1, (h.cell (p := ⟨w.heap.size + 1, 1, none⟩) (by show w.heap.size + 1 < _; omega)).trans q3, (h.cell (p := ⟨wr.heap.size, 0, none⟩) hl5).trans x0, (h.cell (p := ⟨wr.heap.size, 1, none⟩) hl5).trans x1, (h.cell (p := ⟨gE, oE + p.a, none⟩) hgE5).trans cE5, (h.cell (p := ⟨gF, oF + p.b, none⟩) hgF5).trans cF5⟩
      have sd := HSX.out _ ((Below.refl _ W5).drew)
      have sa := fun (o : Obj) => HSX.out _ (((Below.refl _ W5).drew).alloc (Nat.le_refl _) o)
      have SK : Hid (∀ (w' : World) (o : Obj), (W5.drew.alloc o).grownBy w' (Value.slice ev G.length dv).ownBlock → w'.cell? ⟨w.heap.size, 1, none⟩ = some (.slice (some ⟨gE, oE, none⟩) E.length cE) ∧ w'.cell? ⟨w.heap.size + 1, 1, none⟩ = some (.slice (some ⟨gF, oF, none⟩) F.length cF) ∧ w'.cell? ⟨wr.heap.size, 0, none⟩ = some (.int .i64 (p.a : Int)) ∧ w'.cell? ⟨wr.heap.size, 1, none⟩ = some (.int .i64 (p.b : Int)) ∧ w'.cell? ⟨gE, oE + p.a, none⟩ = some (.bool x) ∧ w'.cell? ⟨gF, oF + p.b, none⟩ = some (.bool y)) := fun w' o h => by
        have blk : ∀ j, j < W5.heap.size → some j ≠ (Value.slice ev G.length dv).ownBlock → w'.heap[j]? = W5.heap[j]? := fun j h1 h2 => by
          rw [h.block j (by simp; omega) h2, Below.heap_alloc _ _ _ (by simpa using h1)]; rfl
        refine ⟨(World.cell?_of_block (w := W5) (blk _ (by show w.heap.size < _; omega) (HRW.out _ (Or.inl (by show w.heap.size < _; omega))))).trans q1, (World.cell?_of_block (w := W5) (blk _ (by show w.heap.size + 1 < _; omega) (HRW.out _ (Or.inl (by show w.heap.size + 1 < _; omega))))).trans q3, (World.cell?_of_block (w := W5) (blk _ hl5 (HRW.out _ (Or.inr rfl)))).trans x0, (World.cell?_of_block (w := W5) (blk _ hl5 (HRW.out _ (Or.inr rfl)))).trans x1, (World.cell?_of_block (w := W5) (blk _ hgE5 (HRW.out _ (Or.inl (by show gE < _; omega))))).trans cE5, (World.cell?_of_block (w := W5) (blk _ hgF5 (HRW.out _ (Or.inl (by show gF < _; omega))))).trans cF5⟩
      have SKS : Hid (∀ (w' : World) (v : Value), (w'.cell? ⟨w.heap.size, 1, none⟩ = some (.slice (some ⟨gE, oE, none⟩) E.length cE) ∧ w'.cell? ⟨w.heap.size + 1, 1, none⟩ = some (.slice (some ⟨gF, oF, none⟩) F.length cF) ∧ w'.cell? ⟨wr.heap.size, 0, none⟩ = some (.int .i64 (p.a : Int)) ∧ w'.cell? ⟨wr.heap.size, 1, none⟩ = some (.int .i64 (p.b : Int)) ∧ w'.cell? ⟨gE, oE + p.a, none⟩ = some (.bool x) ∧ w'.cell? ⟨gF, oF + p.b, none⟩ = some (.bool y)) → (w'.setCell ⟨w.heap.size + 3, 1, none⟩ v).cell? ⟨w.heap.size, 1, none⟩ = some (.slice (some ⟨gE, oE, none⟩) E.length cE) ∧ (w'.setCell ⟨w.heap.size + 3, 1, none⟩ v).cell? ⟨w.heap.size + 1, 1, none⟩ = some (.slice (some ⟨gF, oF, none⟩) F.length cF) ∧ (w'.setCell ⟨w.heap.size + 3, 1, none⟩ v).cell? ⟨wr.heap.size, 0, none⟩ = some (.int .i64 (p.a : Int)) ∧ (w'.setCell ⟨w.heap.size + 3, 1, none⟩ v).cell? ⟨wr.heap.size, 1, none⟩ = some (.int .i64 (p.b : Int)) ∧ (w'.setCell ⟨w.heap.size + 3, 1, none⟩ v).cell? ⟨gE, oE + p.a, none⟩ = some (.bool x) ∧ (w'.setCell ⟨w.heap.size + 3, 1, none⟩ v).cell? ⟨gF, oF + p.b, none⟩ = some (.bool y)) := fun w' v ⟨a0, a1, a2, a3, a4, a5⟩ => by
        refine ⟨?_, ?_, ?_, ?_, ?_, ?_⟩
        · rw [World.cell?_setCell_other _ _ _ _ (by intro e; injection e with e; omega)]; exact a0
        · rw [World.cell?_setCell_other _ _ _ _ (by intro e; injection e with e; omega)]; exact a1
        · rw [World.cell?_setCell_other _ _ _ _ (by intro e; injection e with e; omega)]; exact a2
        · rw [World.cell?_setCell_other _ _ _ _ (by intro e; injection e with e; omega)]; exact a3
        · rw [World.cell?_setCell_other _ _ _ _ (by intro e; injection e with e; omega)]; exact a4
        · rw [World.cell?_setCell_other _ _ _ _ (by intro e; injection e with e; omega)]; exact a5
      cases x with
      | false =>
        refine wp_region_held_drew (S := fun w' => w'.cell? ⟨w.heap.size, 1, none⟩ = some (.slice (some ⟨gE, oE, none⟩) E.length cE) ∧ w'.cell? ⟨w.heap.size + 1, 1, none⟩ = some (.slice (some ⟨gF, oF, none⟩) F.length cF) ∧ w'.cell? ⟨wr.heap.size, 0, none⟩ = some (.int .i64 (p.a : Int)) ∧ w'.cell? ⟨wr.heap.size, 1, none⟩ = some (.int .i64 (p.b : Int)) ∧ w'.cell? ⟨gE, oE + p.a, none⟩ = some (.bool false) ∧ w'.cell? ⟨gF, oF + p.b, none⟩ = some (.bool y)) (by kernel_rfl) ?_ (fun hHeld => ?_)
        · exact sd
        refine wpAnyH_take (i := 0) (oi := { dst := some 24, op := Op.fieldAddr 30 (Operand.tmp 7) 1, type := 0, pos := "l12_machine.go:98", after := #[], guard := none }) (v := ?vq1) rfl (by kernel_rfl) (by kernel_rfl) (by kernel_rfl) (fun _ _ _ h => h) (Or.inl ⟨by rfl, ?hy1⟩) (by assumption) ?rest1
        case hy1 =>
          first
            | (intro w hSw; (try dsimp only at hSw); go_simp; done)
            | (intro w hSw; (try dsimp only at hSw); go_simp; with_reducible rfl)
        try simp only [Act.put, List.setIfInBounds_toArray, List.set_cons_zero, List.set_cons_succ]
        refine wpAnyH_take (i := 2) (oi := { dst := some 26, op := Op.fieldAddr 30 (Operand.tmp 4) 1, type := 0, pos := "l12_machine.go:98", after := #[], guard := none }) (v := ?vq2) rfl (by kernel_rfl) (by kernel_rfl) (by kernel_rfl) (fun _ _ _ h => h) (Or.inl ⟨by rfl, ?hy2⟩) (by assumption) ?rest2
        case hy2 =>
          first
            | (intro w hSw; (try dsimp only at hSw); go_simp; done)
            | (intro w hSw; (try dsimp only at hSw); go_simp; with_reducible rfl)
        try simp only [Act.put, List.setIfInBounds_toArray, List.set_cons_zero, List.set_cons_succ]
        refine wpAnyH_take (i := 3) (oi := { dst := some 27, op := Op.load 23 (Operand.tmp 26), type := 23, pos := "l12_machine.go:98", after := #[{ on := 2, ground := Ground.data }], guard := none }) (v := ?vq3) rfl (by kernel_rfl) (by kernel_rfl) (by kernel_rfl) (fun _ _ _ h => h) (Or.inl ⟨by rfl, ?hy3⟩) (by assumption) ?rest3
        case hy3 =>
          first
            | (intro w hSw; (try dsimp only at hSw); go_simp; done)
            | (intro w hSw; (try dsimp only at hSw); go_simp; with_reducible rfl)
        try simp only [Act.put, List.setIfInBounds_toArray, List.set_cons_zero, List.set_cons_succ]
        refine wpAnyH_take (i := 4) (oi := { dst := some 28, op := Op.fieldAddr 86 (Operand.tmp 9) 0, type := 0, pos := "l12_machine.go:98", after := #[], guard := none }) (v := ?vq4) rfl (by kernel_rfl) (by kernel_rfl) (by kernel_rfl) (fun _ _ _ h => h) (Or.inl ⟨by rfl, ?hy4⟩) (by assumption) ?rest4
        case hy4 =>
          first
            | (intro w hSw; (try dsimp only at hSw); go_simp; done)
            | (intro w hSw; (try dsimp only at hSw); go_simp; with_reducible rfl)
        try simp only [Act.put, List.setIfInBounds_toArray, List.set_cons_zero, List.set_cons_succ]
        refine wpAnyH_take (i := 5) (oi := { dst := some 29, op := Op.load 3 (Operand.tmp 28), type := 3, pos := "l12_machine.go:98", after := #[{ on := 4, ground := Ground.data }], guard := none }) (v := ?vq5) rfl (by kernel_rfl) (by kernel_rfl) (by kernel_rfl) (fun _ _ _ h => h) (Or.inl ⟨by rfl, ?hy5⟩) (by assumption) ?rest5
        case hy5 =>
          first
            | (intro w hSw; (try dsimp only at hSw); go_simp; done)
            | (intro w hSw; (try dsimp only at hSw); go_simp; with_reducible rfl)
        try simp only [Act.put, List.setIfInBounds_toArray, List.set_cons_zero, List.set_cons_succ]
        refine wpAnyH_take (i := 6) (oi := { dst := some 30, op := Op.indexAddr 23 (Operand.tmp 27) (Operand.tmp 29), type := 0, pos := "l12_machine.go:98", after := #[{ on := 3, ground := Ground.data }, { on := 5, ground := Ground.data }], guard := none }) (v := ?vq6) rfl (by kernel_rfl) (by kernel_rfl) (by kernel_rfl) (fun _ _ _ h => h) (Or.inl ⟨by rfl, ?hy6⟩) (by assumption) ?rest6
        case hy6 =>
          first
            | (intro w hSw; (try dsimp only at hSw); go_simp; done)
            | (intro w hSw; (try dsimp only at hSw); go_simp; with_reducible rfl)
        try simp only [Act.put, List.setIfInBounds_toArray, List.set_cons_zero, List.set_cons_succ]
        refine wpAnyH_take (i := 7) (oi := { dst := some 31, op := Op.load 4 (Operand.tmp 30), type := 4, pos := "l12_machine.go:98", after := #[{ on := 6, ground := Ground.data }], guard := none }) (v := ?vq7) rfl (by kernel_rfl) (by kernel_rfl) (by kernel_rfl) (fun _ _ _ h => h) (Or.inl ⟨by rfl, ?hy7⟩) (by assumption) ?rest7
        case hy7 =>
          first
            | (intro w hSw; (try dsimp only at hSw); go_simp; done)
            | (intro w hSw; (try dsimp only at hSw); go_simp; with_reducible rfl)
        try simp only [Act.put, List.setIfInBounds_toArray, List.set_cons_zero, List.set_cons_succ]
        refine wpAnyH_take (i := 8) (oi := { dst := some 32, op := Op.move (Operand.tmp 31), type := 4, pos := "l12_machine.go:98", after := #[{ on := 7, ground := Ground.data }], guard := none }) (v := ?vq8) rfl (by kernel_rfl) (by kernel_rfl) (by kernel_rfl) (fun _ _ _ h => h) (Or.inl ⟨by rfl, ?hy8⟩) (by assumption) ?rest8
        case hy8 =>
          first
            | (intro w hSw; (try dsimp only at hSw); go_simp; done)
            | (intro w hSw; (try dsimp only at hSw); go_simp; with_reducible rfl)
        try simp only [Act.put, List.setIfInBounds_toArray, List.set_cons_zero, List.set_cons_succ]
        refine wpAnyH_take (i := 9) (oi := { dst := some 33, op := Op.fieldAddr 30 (Operand.tmp 5) 1, type := 0, pos := "l12_machine.go:98", after := #[{ on := 8, ground := Ground.guard }], guard := some (8, true) }) (v := undef) rfl (by kernel_rfl) (by kernel_rfl) (by kernel_rfl) (fun _ _ _ h => h) (Or.inr ⟨by rfl, rfl⟩) (by assumption) ?_
        try simp only [Act.put, List.setIfInBounds_toArray, List.set_cons_zero, List.set_cons_succ]
        refine wpAnyH_take (i := 10) (oi := { dst := some 34, op := Op.load 23 (Operand.tmp 33), type := 23, pos := "l12_machine.go:98", after := #[{ on := 9, ground := Ground.data }, { on := 8, ground := Ground.guard }], guard := some (8, true) }) (v := undef) rfl (by kernel_rfl) (by kernel_rfl) (by kernel_rfl) (fun _ _ _ h => h) (Or.inr ⟨by rfl, rfl⟩) (by assumption) ?_
        try simp only [Act.put, List.setIfInBounds_toArray, List.set_cons_zero, List.set_cons_succ]
        refine wpAnyH_take (i := 11) (oi := { dst := some 35, op := Op.fieldAddr 86 (Operand.tmp 9) 1, type := 0, pos := "l12_machine.go:98", after := #[{ on := 8, ground := Ground.guard }], guard := some (8, true) }) (v := undef) rfl (by kernel_rfl) (by kernel_rfl) (by kernel_rfl) (fun _ _ _ h => h) (Or.inr ⟨by rfl, rfl⟩) (by assumption) ?_
        try simp only [Act.put, List.setIfInBounds_toArray, List.set_cons_zero, List.set_cons_succ]
        refine wpAnyH_take (i := 12) (oi := { dst := some 36, op := Op.load 3 (Operand.tmp 35), type := 3, pos := "l12_machine.go:98", after := #[{ on := 11, ground := Ground.data }, { on := 8, ground := Ground.guard }], guard := some (8, true) }) (v := undef) rfl (by kernel_rfl) (by kernel_rfl) (by kernel_rfl) (fun _ _ _ h => h) (Or.inr ⟨by rfl, rfl⟩) (by assumption) ?_
        try simp only [Act.put, List.setIfInBounds_toArray, List.set_cons_zero, List.set_cons_succ]
        refine wpAnyH_take (i := 13) (oi := { dst := some 37, op := Op.indexAddr 23 (Operand.tmp 34) (Operand.tmp 36), type := 0, pos := "l12_machine.go:98", after := #[{ on := 10, ground := Ground.data }, { on := 12, ground := Ground.data }, { on := 8, ground := Ground.guard }], guard := some (8, true) }) (v := undef) rfl (by kernel_rfl) (by kernel_rfl) (by kernel_rfl) (fun _ _ _ h => h) (Or.inr ⟨by rfl, rfl⟩) (by assumption) ?_
        try simp only [Act.put, List.setIfInBounds_toArray, List.set_cons_zero, List.set_cons_succ]
        refine wpAnyH_take (i := 14) (oi := { dst := some 38, op := Op.load 4 (Operand.tmp 37), type := 4, pos := "l12_machine.go:98", after := #[{ on := 13, ground := Ground.data }, { on := 8, ground := Ground.guard }], guard := some (8, true) }) (v := undef) rfl (by kernel_rfl) (by kernel_rfl) (by kernel_rfl) (fun _ _ _ h => h) (Or.inr ⟨by rfl, rfl⟩) (by assumption) ?_
        try simp only [Act.put, List.setIfInBounds_toArray, List.set_cons_zero, List.set_cons_succ]
        refine wpAnyH_take (i := 15) (oi := { dst := some 39, op := Op.pick (Operand.tmp 32) (Operand.tmp 38) (Operand.const (Value.bool false)), type := 4, pos := "l12_machine.go:98", after := #[{ on := 8, ground := Ground.data }, { on := 14, ground := Ground.data }], guard := none }) (v := ?vq9) rfl (by kernel_rfl) (by kernel_rfl) (by kernel_rfl) (fun _ _ _ h => h) (Or.inl ⟨by rfl, ?hy9⟩) (by assumption) ?rest9
        case hy9 =>
          first
            | (intro w hSw; (try dsimp only at hSw); go_simp; done)
            | (intro w hSw; (try dsimp only at hSw); go_simp; with_reducible rfl)
        try simp only [Act.put, List.setIfInBounds_toArray, List.set_cons_zero, List.set_cons_succ]
        refine wpAnyH_ready (rs := [1, 16]) (by kernel_rfl) (by simp) ?_
        refine AllReadyH.cons (o := { dst := some 25, op := Op.load 23 (Operand.tmp 24), type := 23, pos := "l12_machine.go:98", after := #[{ on := 0, ground := Ground.data }], guard := none }) rfl (fun K hK => ?_) (AllReadyH.cons (o := { dst := some 40, op := Op.buildSlice 23 1 #[(0, Operand.tmp 39)], type := 23, pos := "l12_machine.go:98", after := #[{ on := 15, ground := Ground.data }], guard := none }) rfl (fun K hK => ?_) AllReadyH.nil)
        · skip
          go_simp
          refine hK.out _ _ ?_ (fun hHeld => ?_)
          · exact sd
          clear hK K
          try simp only [Act.put, List.setIfInBounds_toArray, List.set_cons_zero, List.set_cons_succ]
          refine wpAnyH_ready (rs := [16]) (by kernel_rfl) (by simp) ?_
          refine AllReadyH.cons (o := { dst := some 40, op := Op.buildSlice 23 1 #[(0, Operand.tmp 39)], type := 23, pos := "l12_machine.go:98", after := #[{ on := 15, ground := Ground.data }], guard := none }) rfl (fun K hK => ?_) AllReadyH.nil
          go_simp
          refine hK.out _ _ ?_ (fun hHeld => ?_)
          · exact sa _
          clear hK K
          try simp only [Act.put, List.setIfInBounds_toArray, List.set_cons_zero, List.set_cons_succ]
          refine wpAnyH_ready (rs := [17]) (by kernel_rfl) (by simp) ?_
          refine AllReadyH.cons (o := { dst := some 41, op := Op.call { callee := Callee.builtin Builtin.append, args := #[Operand.tmp 25, Operand.tmp 40], argTypes := #[23, 23] }, type := 23, pos := "l12_machine.go:98", after := #[{ on := 1, ground := Ground.data }, { on := 16, ground := Ground.data }, { on := 8, ground := Ground.chain }], guard := none }) rfl (fun K hK => ?_) AllReadyH.nil
          refine step_append_lies _ (by rfl) _ _ _ (by rfl) (w.heap.size + 3 + 1) 4 j0 (.bool false) 1 1 Try.underlying23 hj jz0 jz1 jz2 rfl (by decide) _ G.length _ (by rfl) (World.ownsRow.alloc HV5.out.own _) ⟨W5.heap.size, 0, none⟩ 1 1 [.bool false] (by rfl) rfl (World.news_of_block (heap_alloc_new W5.drew _)) (onebM _) (by omega) (by unfold maxLen; omega) (by omega) (by simp; omega) (W5.heap.size + 1) (by simp) ?_
          intro g9 cap9 w9 hown9 hgrow9 hat9 hlt9
          obtain ⟨⟨q9, f9, k9⟩, hV9, hB9⟩ := HV5.out.ends hown9 hgrow9
          have s9 := SK.out _ _ hgrow9
          refine hK.out _ _ ?_ (fun hHeld => ?_)
          · exact s9
          clear hK K
          try simp only [Act.put, List.setIfInBounds_toArray, List.set_cons_zero, List.set_cons_succ]
          refine wpAnyH_take (i := 18) (oi := { dst := some 42, op := Op.fieldAddr 30 (Operand.tmp 7) 1, type := 0, pos := "l12_machine.go:98", after := #[{ on := 0, ground := Ground.phase }, { on := 1, ground := Ground.phase }, { on := 2, ground := Ground.phase }, { on := 3, ground := Ground.phase }, { on := 4, ground := Ground.phase }, { on := 5, ground := Ground.phase }, { on := 6, ground := Ground.phase }, { on := 7, ground := Ground.phase }, { on := 8, ground := Ground.phase }, { on := 9, ground := Ground.phase }, { on := 10, ground := Ground.phase }, { on := 11, ground := Ground.phase }, { on := 12, ground := Ground.phase }, { on := 13, ground := Ground.phase }, { on := 14, ground := Ground.phase }, { on := 15, ground := Ground.phase }, { on := 16, ground := Ground.phase }, { on := 17, ground := Ground.phase }], guard := none }) (v := ?vq10) rfl (by kernel_rfl) (by kernel_rfl) (by kernel_rfl) (fun _ _ _ h => h) (Or.inl ⟨by rfl, ?hy10⟩) (by assumption) ?rest10
          case hy10 =>
            first
              | (intro w hSw; (try dsimp only at hSw); go_simp; done)
              | (intro w hSw; (try dsimp only at hSw); go_simp; with_reducible rfl)
          try simp only [Act.put, List.setIfInBounds_toArray, List.set_cons_zero, List.set_cons_succ]
          refine wpAnyH_ready (rs := [19]) (by kernel_rfl) (by simp) ?_
          refine AllReadyH.cons (o := _) rfl (fun K hK => ?_) AllReadyH.nil
          go_simp
          refine hK.out _ _ ?_ (fun hHeld => ?_)
          · exact SKS.out _ _ s9
          clear hK K
          try simp only [Act.put, List.setIfInBounds_toArray, List.set_cons_zero, List.set_cons_succ]
          refine wpAnyH_done (by kernel_rfl) ?_ _
          have HV9 : Hid (VSt (w9.setCell ⟨w.heap.size + 3, 1, none⟩ (.slice (some ⟨g9, 0, none⟩) (G.length + 1) cap9)) (w.heap.size + 3) (.slice an R.length cn) (.slice (some ⟨g9, 0, none⟩) (G.length + 1) cap9) ((l.map (ben E F)).take (i + 1))) := by rw [HNX.out]; exact hV9
          have HB9 : Hid (Below (w.heap.size + 3) W1 (w9.setCell ⟨w.heap.size + 3, 1, none⟩ (.slice (some ⟨g9, 0, none⟩) (G.length + 1) cap9))) := HB5.out.trans ⟨hB9.os, hB9.tape, hB9.output, hB9.size, hB9.block⟩
          clear hown9 hgrow9 hat9 hV9 hB9 s9
          go_wp2
          go_roundw
          case rel => exact ⟨i + 1, _, by omega, by go_num, HV9, HB9⟩
          case measure => simp [intOf]; omega
        · skip
          go_simp
          refine hK.out _ _ ?_ (fun hHeld => ?_)
          · exact sa _
          clear hK K
          try simp only [Act.put, List.setIfInBounds_toArray, List.set_cons_zero, List.set_cons_succ]
          refine wpAnyH_ready (rs := [1]) (by kernel_rfl) (by simp) ?_
          refine AllReadyH.cons (o := { dst := some 25, op := Op.load 23 (Operand.tmp 24), type := 23, pos := "l12_machine.go:98", after := #[{ on := 0, ground := Ground.data }], guard := none }) rfl (fun K hK => ?_) AllReadyH.nil
          go_simp
          refine hK.out _ _ ?_ (fun hHeld => ?_)
          · exact sa _
          clear hK K
          try simp only [Act.put, List.setIfInBounds_toArray, List.set_cons_zero, List.set_cons_succ]
          refine wpAnyH_ready (rs := [17]) (by kernel_rfl) (by simp) ?_
          refine AllReadyH.cons (o := { dst := some 41, op := Op.call { callee := Callee.builtin Builtin.append, args := #[Operand.tmp 25, Operand.tmp 40], argTypes := #[23, 23] }, type := 23, pos := "l12_machine.go:98", after := #[{ on := 1, ground := Ground.data }, { on := 16, ground := Ground.data }, { on := 8, ground := Ground.chain }], guard := none }) rfl (fun K hK => ?_) AllReadyH.nil
          refine step_append_lies _ (by rfl) _ _ _ (by rfl) (w.heap.size + 3 + 1) 4 j0 (.bool false) 1 1 Try.underlying23 hj jz0 jz1 jz2 rfl (by decide) _ G.length _ (by rfl) (World.ownsRow.alloc HV5.out.own _) ⟨W5.heap.size, 0, none⟩ 1 1 [.bool false] (by rfl) rfl (World.news_of_block (heap_alloc_new W5.drew _)) (onebM _) (by omega) (by unfold maxLen; omega) (by omega) (by simp; omega) (W5.heap.size + 1) (by simp) ?_
          intro g9 cap9 w9 hown9 hgrow9 hat9 hlt9
          obtain ⟨⟨q9, f9, k9⟩, hV9, hB9⟩ := HV5.out.ends hown9 hgrow9
          have s9 := SK.out _ _ hgrow9
          refine hK.out _ _ ?_ (fun hHeld => ?_)
          · exact s9
          clear hK K
          try simp only [Act.put, List.setIfInBounds_toArray, List.set_cons_zero, List.set_cons_succ]
          refine wpAnyH_take (i := 18) (oi := { dst := some 42, op := Op.fieldAddr 30 (Operand.tmp 7) 1, type := 0, pos := "l12_machine.go:98", after := #[{ on := 0, ground := Ground.phase }, { on := 1, ground := Ground.phase }, { on := 2, ground := Ground.phase }, { on := 3, ground := Ground.phase }, { on := 4, ground := Ground.phase }, { on := 5, ground := Ground.phase }, { on := 6, ground := Ground.phase }, { on := 7, ground := Ground.phase }, { on := 8, ground := Ground.phase }, { on := 9, ground := Ground.phase }, { on := 10, ground := Ground.phase }, { on := 11, ground := Ground.phase }, { on := 12, ground := Ground.phase }, { on := 13, ground := Ground.phase }, { on := 14, ground := Ground.phase }, { on := 15, ground := Ground.phase }, { on := 16, ground := Ground.phase }, { on := 17, ground := Ground.phase }], guard := none }) (v := ?vq11) rfl (by kernel_rfl) (by kernel_rfl) (by kernel_rfl) (fun _ _ _ h => h) (Or.inl ⟨by rfl, ?hy11⟩) (by assumption) ?rest11
          case hy11 =>
            first
              | (intro w hSw; (try dsimp only at hSw); go_simp; done)
              | (intro w hSw; (try dsimp only at hSw); go_simp; with_reducible rfl)
          try simp only [Act.put, List.setIfInBounds_toArray, List.set_cons_zero, List.set_cons_succ]
          refine wpAnyH_ready (rs := [19]) (by kernel_rfl) (by simp) ?_
          refine AllReadyH.cons (o := _) rfl (fun K hK => ?_) AllReadyH.nil
          go_simp
          refine hK.out _ _ ?_ (fun hHeld => ?_)
          · exact SKS.out _ _ s9
          clear hK K
          try simp only [Act.put, List.setIfInBounds_toArray, List.set_cons_zero, List.set_cons_succ]
          refine wpAnyH_done (by kernel_rfl) ?_ _
          have HV9 : Hid (VSt (w9.setCell ⟨w.heap.size + 3, 1, none⟩ (.slice (some ⟨g9, 0, none⟩) (G.length + 1) cap9)) (w.heap.size + 3) (.slice an R.length cn) (.slice (some ⟨g9, 0, none⟩) (G.length + 1) cap9) ((l.map (ben E F)).take (i + 1))) := by rw [HNX.out]; exact hV9
          have HB9 : Hid (Below (w.heap.size + 3) W1 (w9.setCell ⟨w.heap.size + 3, 1, none⟩ (.slice (some ⟨g9, 0, none⟩) (G.length + 1) cap9))) := HB5.out.trans ⟨hB9.os, hB9.tape, hB9.output, hB9.size, hB9.block⟩
          clear hown9 hgrow9 hat9 hV9 hB9 s9
          go_wp2
          go_roundw
          case rel => exact ⟨i + 1, _, by omega, by go_num, HV9, HB9⟩
          case measure => simp [intOf]; omega
      | true =>
        refine wp_region_held_drew (S := fun w' => w'.cell? ⟨w.heap.size, 1, none⟩ = some (.slice (some ⟨gE, oE, none⟩) E.length cE) ∧ w'.cell? ⟨w.heap.size + 1, 1, none⟩ = some (.slice (some ⟨gF, oF, none⟩) F.length cF) ∧ w'.cell? ⟨wr.heap.size, 0, none⟩ = some (.int .i64 (p.a : Int)) ∧ w'.cell? ⟨wr.heap.size, 1, none⟩ = some (.int .i64 (p.b : Int)) ∧ w'.cell? ⟨gE, oE + p.a, none⟩ = some (.bool true) ∧ w'.cell? ⟨gF, oF + p.b, none⟩ = some (.bool y)) (by kernel_rfl) ?_ (fun hHeld => ?_)
        · exact sd
        refine wpAnyH_take (i := 0) (oi := { dst := some 24, op := Op.fieldAddr 30 (Operand.tmp 7) 1, type := 0, pos := "l12_machine.go:98", after := #[], guard := none }) (v := ?vq12) rfl (by kernel_rfl) (by kernel_rfl) (by kernel_rfl) (fun _ _ _ h => h) (Or.inl ⟨by rfl, ?hy12⟩) (by assumption) ?rest12
        case hy12 =>
          first
            | (intro w hSw; (try dsimp only at hSw); go_simp; done)
            | (intro w hSw; (try dsimp only at hSw); go_simp; with_reducible rfl)
        try simp only [Act.put, List.setIfInBounds_toArray, List.set_cons_zero, List.set_cons_succ]
        refine wpAnyH_take (i := 2) (oi := { dst := some 26, op := Op.fieldAddr 30 (Operand.tmp 4) 1, type := 0, pos := "l12_machine.go:98", after := #[], guard := none }) (v := ?vq13) rfl (by kernel_rfl) (by kernel_rfl) (by kernel_rfl) (fun _ _ _ h => h) (Or.inl ⟨by rfl, ?hy13⟩) (by assumption) ?rest13
        case hy13 =>
          first
            | (intro w hSw; (try dsimp only at hSw); go_simp; done)
            | (intro w hSw; (try dsimp only at hSw); go_simp; with_reducible rfl)
        try simp only [Act.put, List.setIfInBounds_toArray, List.set_cons_zero, List.set_cons_succ]
        refine wpAnyH_take (i := 3) (oi := { dst := some 27, op := Op.load 23 (Operand.tmp 26), type := 23, pos := "l12_machine.go:98", after := #[{ on := 2, ground := Ground.data }], guard := none }) (v := ?vq14) rfl (by kernel_rfl) (by kernel_rfl) (by kernel_rfl) (fun _ _ _ h => h) (Or.inl ⟨by rfl, ?hy14⟩) (by assumption) ?rest14
        case hy14 =>
          first
            | (intro w hSw; (try dsimp only at hSw); go_simp; done)
            | (intro w hSw; (try dsimp only at hSw); go_simp; with_reducible rfl)
        try simp only [Act.put, List.setIfInBounds_toArray, List.set_cons_zero, List.set_cons_succ]
        refine wpAnyH_take (i := 4) (oi := { dst := some 28, op := Op.fieldAddr 86 (Operand.tmp 9) 0, type := 0, pos := "l12_machine.go:98", after := #[], guard := none }) (v := ?vq15) rfl (by kernel_rfl) (by kernel_rfl) (by kernel_rfl) (fun _ _ _ h => h) (Or.inl ⟨by rfl, ?hy15⟩) (by assumption) ?rest15
        case hy15 =>
          first
            | (intro w hSw; (try dsimp only at hSw); go_simp; done)
            | (intro w hSw; (try dsimp only at hSw); go_simp; with_reducible rfl)
        try simp only [Act.put, List.setIfInBounds_toArray, List.set_cons_zero, List.set_cons_succ]
        refine wpAnyH_take (i := 5) (oi := { dst := some 29, op := Op.load 3 (Operand.tmp 28), type := 3, pos := "l12_machine.go:98", after := #[{ on := 4, ground := Ground.data }], guard := none }) (v := ?vq16) rfl (by kernel_rfl) (by kernel_rfl) (by kernel_rfl) (fun _ _ _ h => h) (Or.inl ⟨by rfl, ?hy16⟩) (by assumption) ?rest16
        case hy16 =>
          first
            | (intro w hSw; (try dsimp only at hSw); go_simp; done)
            | (intro w hSw; (try dsimp only at hSw); go_simp; with_reducible rfl)
        try simp only [Act.put, List.setIfInBounds_toArray, List.set_cons_zero, List.set_cons_succ]
        refine wpAnyH_take (i := 6) (oi := { dst := some 30, op := Op.indexAddr 23 (Operand.tmp 27) (Operand.tmp 29), type := 0, pos := "l12_machine.go:98", after := #[{ on := 3, ground := Ground.data }, { on := 5, ground := Ground.data }], guard := none }) (v := ?vq17) rfl (by kernel_rfl) (by kernel_rfl) (by kernel_rfl) (fun _ _ _ h => h) (Or.inl ⟨by rfl, ?hy17⟩) (by assumption) ?rest17
        case hy17 =>
          first
            | (intro w hSw; (try dsimp only at hSw); go_simp; done)
            | (intro w hSw; (try dsimp only at hSw); go_simp; with_reducible rfl)
        try simp only [Act.put, List.setIfInBounds_toArray, List.set_cons_zero, List.set_cons_succ]
        refine wpAnyH_take (i := 7) (oi := { dst := some 31, op := Op.load 4 (Operand.tmp 30), type := 4, pos := "l12_machine.go:98", after := #[{ on := 6, ground := Ground.data }], guard := none }) (v := ?vq18) rfl (by kernel_rfl) (by kernel_rfl) (by kernel_rfl) (fun _ _ _ h => h) (Or.inl ⟨by rfl, ?hy18⟩) (by assumption) ?rest18
        case hy18 =>
          first
            | (intro w hSw; (try dsimp only at hSw); go_simp; done)
            | (intro w hSw; (try dsimp only at hSw); go_simp; with_reducible rfl)
        try simp only [Act.put, List.setIfInBounds_toArray, List.set_cons_zero, List.set_cons_succ]
        refine wpAnyH_take (i := 8) (oi := { dst := some 32, op := Op.move (Operand.tmp 31), type := 4, pos := "l12_machine.go:98", after := #[{ on := 7, ground := Ground.data }], guard := none }) (v := ?vq19) rfl (by kernel_rfl) (by kernel_rfl) (by kernel_rfl) (fun _ _ _ h => h) (Or.inl ⟨by rfl, ?hy19⟩) (by assumption) ?rest19
        case hy19 =>
          first
            | (intro w hSw; (try dsimp only at hSw); go_simp; done)
            | (intro w hSw; (try dsimp only at hSw); go_simp; with_reducible rfl)
        try simp only [Act.put, List.setIfInBounds_toArray, List.set_cons_zero, List.set_cons_succ]
        refine wpAnyH_take (i := 9) (oi := { dst := some 33, op := Op.fieldAddr 30 (Operand.tmp 5) 1, type := 0, pos := "l12_machine.go:98", after := #[{ on := 8, ground := Ground.guard }], guard := some (8, true) }) (v := ?vq20) rfl (by kernel_rfl) (by kernel_rfl) (by kernel_rfl) (fun _ _ _ h => h) (Or.inl ⟨by rfl, ?hy20⟩) (by assumption) ?rest20
        case hy20 =>
          first
            | (intro w hSw; (try dsimp only at hSw); go_simp; done)
            | (intro w hSw; (try dsimp only at hSw); go_simp; with_reducible rfl)
        try simp only [Act.put, List.setIfInBounds_toArray, List.set_cons_zero, List.set_cons_succ]
        refine wpAnyH_take (i := 10) (oi := { dst := some 34, op := Op.load 23 (Operand.tmp 33), type := 23, pos := "l12_machine.go:98", after := #[{ on := 9, ground := Ground.data }, { on := 8, ground := Ground.guard }], guard := some (8, true) }) (v := ?vq21) rfl (by kernel_rfl) (by kernel_rfl) (by kernel_rfl) (fun _ _ _ h => h) (Or.inl ⟨by rfl, ?hy21⟩) (by assumption) ?rest21
        case hy21 =>
          first
            | (intro w hSw; (try dsimp only at hSw); go_simp; done)
            | (intro w hSw; (try dsimp only at hSw); go_simp; with_reducible rfl)
        try simp only [Act.put, List.setIfInBounds_toArray, List.set_cons_zero, List.set_cons_succ]
        refine wpAnyH_take (i := 11) (oi := { dst := some 35, op := Op.fieldAddr 86 (Operand.tmp 9) 1, type := 0, pos := "l12_machine.go:98", after := #[{ on := 8, ground := Ground.guard }], guard := some (8, true) }) (v := ?vq22) rfl (by kernel_rfl) (by kernel_rfl) (by kernel_rfl) (fun _ _ _ h => h) (Or.inl ⟨by rfl, ?hy22⟩) (by assumption) ?rest22
        case hy22 =>
          first
            | (intro w hSw; (try dsimp only at hSw); go_simp; done)
            | (intro w hSw; (try dsimp only at hSw); go_simp; with_reducible rfl)
        try simp only [Act.put, List.setIfInBounds_toArray, List.set_cons_zero, List.set_cons_succ]
        refine wpAnyH_take (i := 12) (oi := { dst := some 36, op := Op.load 3 (Operand.tmp 35), type := 3, pos := "l12_machine.go:98", after := #[{ on := 11, ground := Ground.data }, { on := 8, ground := Ground.guard }], guard := some (8, true) }) (v := ?vq23) rfl (by kernel_rfl) (by kernel_rfl) (by kernel_rfl) (fun _ _ _ h => h) (Or.inl ⟨by rfl, ?hy23⟩) (by assumption) ?rest23
        case hy23 =>
          first
            | (intro w hSw; (try dsimp only at hSw); go_simp; done)
            | (intro w hSw; (try dsimp only at hSw); go_simp; with_reducible rfl)
        try simp only [Act.put, List.setIfInBounds_toArray, List.set_cons_zero, List.set_cons_succ]
        refine wpAnyH_take (i := 13) (oi := { dst := some 37, op := Op.indexAddr 23 (Operand.tmp 34) (Operand.tmp 36), type := 0, pos := "l12_machine.go:98", after := #[{ on := 10, ground := Ground.data }, { on := 12, ground := Ground.data }, { on := 8, ground := Ground.guard }], guard := some (8, true) }) (v := ?vq24) rfl (by kernel_rfl) (by kernel_rfl) (by kernel_rfl) (fun _ _ _ h => h) (Or.inl ⟨by rfl, ?hy24⟩) (by assumption) ?rest24
        case hy24 =>
          first
            | (intro w hSw; (try dsimp only at hSw); go_simp; done)
            | (intro w hSw; (try dsimp only at hSw); go_simp; with_reducible rfl)
        try simp only [Act.put, List.setIfInBounds_toArray, List.set_cons_zero, List.set_cons_succ]
        refine wpAnyH_take (i := 14) (oi := { dst := some 38, op := Op.load 4 (Operand.tmp 37), type := 4, pos := "l12_machine.go:98", after := #[{ on := 13, ground := Ground.data }, { on := 8, ground := Ground.guard }], guard := some (8, true) }) (v := ?vq25) rfl (by kernel_rfl) (by kernel_rfl) (by kernel_rfl) (fun _ _ _ h => h) (Or.inl ⟨by rfl, ?hy25⟩) (by assumption) ?rest25
        case hy25 =>
          first
            | (intro w hSw; (try dsimp only at hSw); go_simp; done)
            | (intro w hSw; (try dsimp only at hSw); go_simp; with_reducible rfl)
        try simp only [Act.put, List.setIfInBounds_toArray, List.set_cons_zero, List.set_cons_succ]
        refine wpAnyH_take (i := 15) (oi := { dst := some 39, op := Op.pick (Operand.tmp 32) (Operand.tmp 38) (Operand.const (Value.bool false)), type := 4, pos := "l12_machine.go:98", after := #[{ on := 8, ground := Ground.data }, { on := 14, ground := Ground.data }], guard := none }) (v := ?vq26) rfl (by kernel_rfl) (by kernel_rfl) (by kernel_rfl) (fun _ _ _ h => h) (Or.inl ⟨by rfl, ?hy26⟩) (by assumption) ?rest26
        case hy26 =>
          first
            | (intro w hSw; (try dsimp only at hSw); go_simp; done)
            | (intro w hSw; (try dsimp only at hSw); go_simp; with_reducible rfl)
        try simp only [Act.put, List.setIfInBounds_toArray, List.set_cons_zero, List.set_cons_succ]
        refine wpAnyH_ready (rs := [1, 16]) (by kernel_rfl) (by simp) ?_
        refine AllReadyH.cons (o := { dst := some 25, op := Op.load 23 (Operand.tmp 24), type := 23, pos := "l12_machine.go:98", after := #[{ on := 0, ground := Ground.data }], guard := none }) rfl (fun K hK => ?_) (AllReadyH.cons (o := { dst := some 40, op := Op.buildSlice 23 1 #[(0, Operand.tmp 39)], type := 23, pos := "l12_machine.go:98", after := #[{ on := 15, ground := Ground.data }], guard := none }) rfl (fun K hK => ?_) AllReadyH.nil)
        · skip
          go_simp
          refine hK.out _ _ ?_ (fun hHeld => ?_)
          · exact sd
          clear hK K
          try simp only [Act.put, List.setIfInBounds_toArray, List.set_cons_zero, List.set_cons_succ]
          refine wpAnyH_ready (rs := [16]) (by kernel_rfl) (by simp) ?_
          refine AllReadyH.cons (o := { dst := some 40, op := Op.buildSlice 23 1 #[(0, Operand.tmp 39)], type := 23, pos := "l12_machine.go:98", after := #[{ on := 15, ground := Ground.data }], guard := none }) rfl (fun K hK => ?_) AllReadyH.nil
          go_simp
          refine hK.out _ _ ?_ (fun hHeld => ?_)
          · exact sa _
          clear hK K
          try simp only [Act.put, List.setIfInBounds_toArray, List.set_cons_zero, List.set_cons_succ]
          refine wpAnyH_ready (rs := [17]) (by kernel_rfl) (by simp) ?_
          refine AllReadyH.cons (o := { dst := some 41, op := Op.call { callee := Callee.builtin Builtin.append, args := #[Operand.tmp 25, Operand.tmp 40], argTypes := #[23, 23] }, type := 23, pos := "l12_machine.go:98", after := #[{ on := 1, ground := Ground.data }, { on := 16, ground := Ground.data }, { on := 8, ground := Ground.chain }], guard := none }) rfl (fun K hK => ?_) AllReadyH.nil
          refine step_append_lies _ (by rfl) _ _ _ (by rfl) (w.heap.size + 3 + 1) 4 j0 (.bool false) 1 1 Try.underlying23 hj jz0 jz1 jz2 rfl (by decide) _ G.length _ (by rfl) (World.ownsRow.alloc HV5.out.own _) ⟨W5.heap.size, 0, none⟩ 1 1 [.bool y] (by rfl) rfl (World.news_of_block (heap_alloc_new W5.drew _)) (onebM _) (by omega) (by unfold maxLen; omega) (by omega) (by simp; omega) (W5.heap.size + 1) (by simp) ?_
          intro g9 cap9 w9 hown9 hgrow9 hat9 hlt9
          obtain ⟨⟨q9, f9, k9⟩, hV9, hB9⟩ := HV5.out.ends hown9 hgrow9
          have s9 := SK.out _ _ hgrow9
          refine hK.out _ _ ?_ (fun hHeld => ?_)
          · exact s9
          clear hK K
          try simp only [Act.put, List.setIfInBounds_toArray, List.set_cons_zero, List.set_cons_succ]
          refine wpAnyH_take (i := 18) (oi := { dst := some 42, op := Op.fieldAddr 30 (Operand.tmp 7) 1, type := 0, pos := "l12_machine.go:98", after := #[{ on := 0, ground := Ground.phase }, { on := 1, ground := Ground.phase }, { on := 2, ground := Ground.phase }, { on := 3, ground := Ground.phase }, { on := 4, ground := Ground.phase }, { on := 5, ground := Ground.phase }, { on := 6, ground := Ground.phase }, { on := 7, ground := Ground.phase }, { on := 8, ground := Ground.phase }, { on := 9, ground := Ground.phase }, { on := 10, ground := Ground.phase }, { on := 11, ground := Ground.phase }, { on := 12, ground := Ground.phase }, { on := 13, ground := Ground.phase }, { on := 14, ground := Ground.phase }, { on := 15, ground := Ground.phase }, { on := 16, ground := Ground.phase }, { on := 17, ground := Ground.phase }], guard := none }) (v := ?vq27) rfl (by kernel_rfl) (by kernel_rfl) (by kernel_rfl) (fun _ _ _ h => h) (Or.inl ⟨by rfl, ?hy27⟩) (by assumption) ?rest27
          case hy27 =>
            first
              | (intro w hSw; (try dsimp only at hSw); go_simp; done)
              | (intro w hSw; (try dsimp only at hSw); go_simp; with_reducible rfl)
          try simp only [Act.put, List.setIfInBounds_toArray, List.set_cons_zero, List.set_cons_succ]
          refine wpAnyH_ready (rs := [19]) (by kernel_rfl) (by simp) ?_
          refine AllReadyH.cons (o := _) rfl (fun K hK => ?_) AllReadyH.nil
          go_simp
          refine hK.out _ _ ?_ (fun hHeld => ?_)
          · exact SKS.out _ _ s9
          clear hK K
          try simp only [Act.put, List.setIfInBounds_toArray, List.set_cons_zero, List.set_cons_succ]
          refine wpAnyH_done (by kernel_rfl) ?_ _
          have HV9 : Hid (VSt (w9.setCell ⟨w.heap.size + 3, 1, none⟩ (.slice (some ⟨g9, 0, none⟩) (G.length + 1) cap9)) (w.heap.size + 3) (.slice an R.length cn) (.slice (some ⟨g9, 0, none⟩) (G.length + 1) cap9) ((l.map (ben E F)).take (i + 1))) := by rw [HNX.out]; exact hV9
          have HB9 : Hid (Below (w.heap.size + 3) W1 (w9.setCell ⟨w.heap.size + 3, 1, none⟩ (.slice (some ⟨g9, 0, none⟩) (G.length + 1) cap9))) := HB5.out.trans ⟨hB9.os, hB9.tape, hB9.output, hB9.size, hB9.block⟩
          clear hown9 hgrow9 hat9 hV9 hB9 s9
          go_wp2
          go_roundw
          case rel => exact ⟨i + 1, _, by omega, by go_num, HV9, HB9⟩
          case measure => simp [intOf]; omega
        · skip
          go_simp
          refine hK.out _ _ ?_ (fun hHeld => ?_)
          · exact sa _
          clear hK K
          try simp only [Act.put, List.setIfInBounds_toArray, List.set_cons_zero, List.set_cons_succ]
          refine wpAnyH_ready (rs := [1]) (by kernel_rfl) (by simp) ?_
          refine AllReadyH.cons (o := { dst := some 25, op := Op.load 23 (Operand.tmp 24), type := 23, pos := "l12_machine.go:98", after := #[{ on := 0, ground := Ground.data }], guard := none }) rfl (fun K hK => ?_) AllReadyH.nil
          go_simp
          refine hK.out _ _ ?_ (fun hHeld => ?_)
          · exact sa _
          clear hK K
          try simp only [Act.put, List.setIfInBounds_toArray, List.set_cons_zero, List.set_cons_succ]
          refine wpAnyH_ready (rs := [17]) (by kernel_rfl) (by simp) ?_
          refine AllReadyH.cons (o := { dst := some 41, op := Op.call { callee := Callee.builtin Builtin.append, args := #[Operand.tmp 25, Operand.tmp 40], argTypes := #[23, 23] }, type := 23, pos := "l12_machine.go:98", after := #[{ on := 1, ground := Ground.data }, { on := 16, ground := Ground.data }, { on := 8, ground := Ground.chain }], guard := none }) rfl (fun K hK => ?_) AllReadyH.nil
          refine step_append_lies _ (by rfl) _ _ _ (by rfl) (w.heap.size + 3 + 1) 4 j0 (.bool false) 1 1 Try.underlying23 hj jz0 jz1 jz2 rfl (by decide) _ G.length _ (by rfl) (World.ownsRow.alloc HV5.out.own _) ⟨W5.heap.size, 0, none⟩ 1 1 [.bool y] (by rfl) rfl (World.news_of_block (heap_alloc_new W5.drew _)) (onebM _) (by omega) (by unfold maxLen; omega) (by omega) (by simp; omega) (W5.heap.size + 1) (by simp) ?_
          intro g9 cap9 w9 hown9 hgrow9 hat9 hlt9
          obtain ⟨⟨q9, f9, k9⟩, hV9, hB9⟩ := HV5.out.ends hown9 hgrow9
          have s9 := SK.out _ _ hgrow9
          refine hK.out _ _ ?_ (fun hHeld => ?_)
          · exact s9
          clear hK K
          try simp only [Act.put, List.setIfInBounds_toArray, List.set_cons_zero, List.set_cons_succ]
          refine wpAnyH_take (i := 18) (oi := { dst := some 42, op := Op.fieldAddr 30 (Operand.tmp 7) 1, type := 0, pos := "l12_machine.go:98", after := #[{ on := 0, ground := Ground.phase }, { on := 1, ground := Ground.phase }, { on := 2, ground := Ground.phase }, { on := 3, ground := Ground.phase }, { on := 4, ground := Ground.phase }, { on := 5, ground := Ground.phase }, { on := 6, ground := Ground.phase }, { on := 7, ground := Ground.phase }, { on := 8, ground := Ground.phase }, { on := 9, ground := Ground.phase }, { on := 10, ground := Ground.phase }, { on := 11, ground := Ground.phase }, { on := 12, ground := Ground.phase }, { on := 13, ground := Ground.phase }, { on := 14, ground := Ground.phase }, { on := 15, ground := Ground.phase }, { on := 16, ground := Ground.phase }, { on := 17, ground := Ground.phase }], guard := none }) (v := ?vq28) rfl (by kernel_rfl) (by kernel_rfl) (by kernel_rfl) (fun _ _ _ h => h) (Or.inl ⟨by rfl, ?hy28⟩) (by assumption) ?rest28
          case hy28 =>
            first
              | (intro w hSw; (try dsimp only at hSw); go_simp; done)
              | (intro w hSw; (try dsimp only at hSw); go_simp; with_reducible rfl)
          try simp only [Act.put, List.setIfInBounds_toArray, List.set_cons_zero, List.set_cons_succ]
          refine wpAnyH_ready (rs := [19]) (by kernel_rfl) (by simp) ?_
          refine AllReadyH.cons (o := _) rfl (fun K hK => ?_) AllReadyH.nil
          go_simp
          refine hK.out _ _ ?_ (fun hHeld => ?_)
          · exact SKS.out _ _ s9
          clear hK K
          try simp only [Act.put, List.setIfInBounds_toArray, List.set_cons_zero, List.set_cons_succ]
          refine wpAnyH_done (by kernel_rfl) ?_ _
          have HV9 : Hid (VSt (w9.setCell ⟨w.heap.size + 3, 1, none⟩ (.slice (some ⟨g9, 0, none⟩) (G.length + 1) cap9)) (w.heap.size + 3) (.slice an R.length cn) (.slice (some ⟨g9, 0, none⟩) (G.length + 1) cap9) ((l.map (ben E F)).take (i + 1))) := by rw [HNX.out]; exact hV9
          have HB9 : Hid (Below (w.heap.size + 3) W1 (w9.setCell ⟨w.heap.size + 3, 1, none⟩ (.slice (some ⟨g9, 0, none⟩) (G.length + 1) cap9))) := HB5.out.trans ⟨hB9.os, hB9.tape, hB9.output, hB9.size, hB9.block⟩
          clear hown9 hgrow9 hat9 hV9 hB9 s9
          go_wp2
          go_roundw
          case rel => exact ⟨i + 1, _, by omega, by go_num, HV9, HB9⟩
          case measure => simp [intOf]; omega
    · have hke : i = l.length := by omega
      have hge : ¬ ((i : Int) < (l.length : Int)) := by omega
      have HF9 : Hid (VSt wr (w.heap.size + 3) (.slice an R.length cn) (.slice ev ((l.map (ben E F)).take i).length dv) (l.map (ben E F))) := by
        have h := hV.out
        have e9 : (l.map (ben E F)).take i = l.map (ben E F) := List.take_of_length_le (by rw [List.length_map]; omega)
        rw [e9] at h
        show VSt _ _ _ _ _
        rw [e9]
        exact h
      have t0 := HF9.out.c0
      have t1 := HF9.out.c1
      have hTlb := HF9.out.lb
      obtain ⟨p0, p1, y0, y1⟩ := P0.out
      have hlk : w.heap.size + 2 < w.heap.size + 3 := by omega
      have p0r := (hbw.out.cell (p := ⟨w.heap.size + 2, 0, none⟩) hlk).trans p0
      have p1r := (hbw.out.cell (p := ⟨w.heap.size + 2, 1, none⟩) hlk).trans p1
      have y0r := (hbw.out.frozen (p := ⟨w.heap.size + 2, 0, none⟩) hlk).trans y0
      have y1r := (hbw.out.frozen (p := ⟨w.heap.size + 2, 1, none⟩) hlk).trans y1
      generalize ((l.map (ben E F)).take i).length = nn at t1 HF9 ⊢
      clear hV hke p0 p1 y0 y1
      go_wp2
      (try simp only [Exit.inBlock, Exit.then])
      refine bodyPost_ret (v := .agg #[.slice an R.length cn, .slice ev nn dv]) ?_ rfl ⟨⟨_, rfl, ?_⟩, ?_⟩
      · rw [rc]
        go_simp
      · exact own_lowerM (ownsRow_setCell_below (ownsRow_setCell_below HF9.out.own (a := ⟨w.heap.size + 2, 0, none⟩) (by show w.heap.size + 2 < _; omega) _) (a := ⟨w.heap.size + 2, 1, none⟩) (by show w.heap.size + 2 < _; omega) _) (by omega)
      · exact (hBr.setCell (by simp <;> omega) _).setCell (by simp <;> omega) _

end Go.Proofs.Ytecgjhnihagleaa

namespace Go.Proofs.Ytecgjhnihagleaa
open Go.RowKit Plain Mch Tpc

set_option maxRecDepth 100000 in
set_option maxHeartbeats 8000000 in
theorem implMeet (A : List (List Int)) (E : List Bool) (va ea : Value) (B : List (List Int)) (F : List Bool) (vb eb : Value) (w : World) (hA : MAt w w.heap.size va A) (hEA : EAt w w.heap.size ea E) (hB : MAt w w.heap.size vb B) (hEB : EAt w w.heap.size eb F) :
    Calls Try.prog 26 #[.agg #[va, ea], .agg #[vb, eb]] w fun x w' => (∃ r q, x = .returned (.tuple #[.agg #[r, q], .bool (mok A E B F)]) ∧ ∃ us, MaOwn w' w.heap.size r q (meM A E B F) (meE A E B F) us) ∧ Below w.heap.size w w' := by
  have HA : Hid (MAt w w.heap.size va A) := hA
  have HB : Hid (MAt w w.heap.size vb B) := hB
  have HE : Hid (EAt w w.heap.size ea E) := hEA
  have HF : Hid (EAt w w.heap.size eb F) := hEB
  obtain ⟨aA, cA, rfl, hlcA, hcmA, _⟩ := hA
  obtain ⟨aB, cB, rfl, hlcB, hcmB, _⟩ := hB
  obtain ⟨aE, cE, rfl, hlcE, hcmE, _⟩ := hEA
  obtain ⟨aF, cF, rfl, hlcF, hcmF, _⟩ := hEB
  unfold maxLen at hcmA hcmB hcmE hcmF
  have rc := fun (tmps : Array Value) (P : Program) (w : World) => results_cell_tmpM2 (fn := Try.f26) (p := 4) (u := 5) (ty := 30) rfl tmps P w
  obtain ⟨W1, hW1⟩ : ∃ W, W = ((w.alloc (.cells #[.slice aA A.length cA, .slice aE E.length cE] 30)).alloc (.cells #[.slice aB B.length cB, .slice aF F.length cF] 30)).alloc (.cells #[.slice none 0 0, .slice none 0 0] 30) := ⟨_, rfl⟩
  have hB1 : Below w.heap.size w W1 := by rw [hW1]; exact (((Below.refl _ w).alloc (Nat.le_refl _) _).alloc (by simp) _).alloc (by simp; omega) _
  have q0 : W1.cell? ⟨w.heap.size, 0, none⟩ = some (.slice aA A.length cA) := by rw [hW1]; go_simp
  have q1 : W1.cell? ⟨w.heap.size, 1, none⟩ = some (.slice aE E.length cE) := by rw [hW1]; go_simp
  have q2 : W1.cell? ⟨w.heap.size + 1, 0, none⟩ = some (.slice aB B.length cB) := by rw [hW1]; go_simp
  have q3 : W1.cell? ⟨w.heap.size + 1, 1, none⟩ = some (.slice aF F.length cF) := by rw [hW1]; go_simp
  have p0 : W1.cell? ⟨w.heap.size + 2, 0, none⟩ = some (.slice none 0 0) := by rw [hW1]; go_simp
  have p1 : W1.cell? ⟨w.heap.size + 2, 1, none⟩ = some (.slice none 0 0) := by rw [hW1]; go_simp
  have y0 : W1.frozen? ⟨w.heap.size + 2, 0, none⟩ = false := by rw [hW1]; go_simp
  have y1 : W1.frozen? ⟨w.heap.size + 2, 1, none⟩ = false := by rw [hW1]; go_simp
  have hl2 : w.heap.size + 2 < W1.heap.size := by rw [hW1]; simp
  have hl1 : w.heap.size + 1 < W1.heap.size := by omega
  have hl0 : w.heap.size < W1.heap.size := by omega
  obtain ⟨G, hG⟩ : ∃ G, G = mok A E B F := ⟨_, rfl⟩
  obtain ⟨RM, hRM⟩ : ∃ R, R = meM A E B F := ⟨_, rfl⟩
  obtain ⟨RE, hRE⟩ : ∃ R, R = meE A E B F := ⟨_, rfl⟩
  have HG : Hid (G = mok A E B F) := hG
  have HRM : Hid (RM = meM A E B F) := hRM
  have HRE : Hid (RE = meE A E B F) := hRE
  rw [← hG, ← hRM, ← hRE]
  clear hG hRM hRE
  have HFF : Hid (mok A E B F = false → G = false ∧ RM = [] ∧ RE = []) := fun h => by
    refine ⟨HG.out.trans h, ?_, ?_⟩
    · rw [HRM.out]; unfold meM; rw [h]; rfl
    · rw [HRE.out]; unfold meE; rw [h]; rfl
  have HTT : Hid (mok A E B F = true → G = true ∧ RM = NR A B (prs A B).length ∧ RE = (prs A B).map (ben E F)) := fun h => by
    refine ⟨HG.out.trans h, ?_, ?_⟩
    · rw [HRM.out]; unfold meM; rw [h]; rfl
    · rw [HRE.out]; unfold meE; rw [h]; rfl
  clear HG HRM HRE
  go_enter Try.func26, Try.ntmps26
  go_wp2_with fail
  rw [← hW1]
  clear hW1
  refine (implGoodM A E _ _ _ (HA.out.below hB1) (HE.out.below hB1)).mono ?_
  rintro x w2 ⟨rfl, hb2⟩
  replace q0 := (hb2.cell (p := ⟨w.heap.size, 0, none⟩) hl0).trans q0
  replace q1 := (hb2.cell (p := ⟨w.heap.size, 1, none⟩) hl0).trans q1
  replace q2 := (hb2.cell (p := ⟨w.heap.size + 1, 0, none⟩) hl1).trans q2
  replace q3 := (hb2.cell (p := ⟨w.heap.size + 1, 1, none⟩) hl1).trans q3
  replace p0 := (hb2.cell (p := ⟨w.heap.size + 2, 0, none⟩) hl2).trans p0
  replace p1 := (hb2.cell (p := ⟨w.heap.size + 2, 1, none⟩) hl2).trans p1
  replace y0 := (hb2.frozen (p := ⟨w.heap.size + 2, 0, none⟩) hl2).trans y0
  replace y1 := (hb2.frozen (p := ⟨w.heap.size + 2, 1, none⟩) hl2).trans y1
  have hB2 : Below w.heap.size w w2 := hB1.trans (hb2.mono hB1.size)
  replace hl2 : w.heap.size + 2 < w2.heap.size := by have := hb2.size; omega
  replace hl1 : w.heap.size + 1 < w2.heap.size := by omega
  replace hl0 : w.heap.size < w2.heap.size := by omega
  clear hb2 hB1
  cases hgA : gm A E with
  | false =>
    have hF : Hid (G = false ∧ RM = [] ∧ RE = []) := HFF.out (by unfold mok; rw [hgA]; rfl)
    clear hgA HFF HTT
    go_wp2
    (try simp only [Exit.inBlock, Exit.then])
    refine bodyPost_ret (v := .tuple #[.agg #[.slice none 0 0, .slice none 0 0], .bool false]) ?_ rfl ⟨⟨_, _, by rw [hF.out.1], [], by rw [hF.out.2.1, hF.out.2.2]; exact MaOwn.nil _ _⟩, ?_⟩
    · rw [rc]
      go_simp
    · exact (hB2.setCell (by simp <;> omega) _).setCell (by simp <;> omega) _
  | true =>
  have HGA : Hid (gm A E = true) := hgA
  clear hgA
  go_wp2_with fail
  refine (implGoodM B F _ _ _ (HB.out.below hB2) (HF.out.below hB2)).mono ?_
  rintro x w3 ⟨rfl, hb3⟩
  replace q0 := (hb3.cell (p := ⟨w.heap.size, 0, none⟩) hl0).trans q0
  replace q1 := (hb3.cell (p := ⟨w.heap.size, 1, none⟩) hl0).trans q1
  replace q2 := (hb3.cell (p := ⟨w.heap.size + 1, 0, none⟩) hl1).trans q2
  replace q3 := (hb3.cell (p := ⟨w.heap.size + 1, 1, none⟩) hl1).trans q3
  replace p0 := (hb3.cell (p := ⟨w.heap.size + 2, 0, none⟩) hl2).trans p0
  replace p1 := (hb3.cell (p := ⟨w.heap.size + 2, 1, none⟩) hl2).trans p1
  replace y0 := (hb3.frozen (p := ⟨w.heap.size + 2, 0, none⟩) hl2).trans y0
  replace y1 := (hb3.frozen (p := ⟨w.heap.size + 2, 1, none⟩) hl2).trans y1
  have hB3 : Below w.heap.size w w3 := hB2.trans (hb3.mono hB2.size)
  replace hl2 : w.heap.size + 2 < w3.heap.size := by have := hb3.size; omega
  replace hl1 : w.heap.size + 1 < w3.heap.size := by omega
  replace hl0 : w.heap.size < w3.heap.size := by omega
  clear hb3 hB2
  cases hgB : gm B F with
  | false =>
    have hF : Hid (G = false ∧ RM = [] ∧ RE = []) := HFF.out (by unfold mok; rw [HGA.out, hgB]; rfl)
    clear hgB HFF HTT
    go_wp2
    (try simp only [Exit.inBlock, Exit.then])
    refine bodyPost_ret (v := .tuple #[.agg #[.slice none 0 0, .slice none 0 0], .bool false]) ?_ rfl ⟨⟨_, _, by rw [hF.out.1], [], by rw [hF.out.2.1, hF.out.2.2]; exact MaOwn.nil _ _⟩, ?_⟩
    · rw [rc]
      go_simp
    · exact (hB3.setCell (by simp <;> omega) _).setCell (by simp <;> omega) _
  | true =>
  have HGB : Hid (gm B F = true) := hgB
  clear hgB
  have HL3 : Hid (w.heap.size + 2 < w3.heap.size) := hl2
  go_wp2_with fail
  refine (walkPairs_any A B E F _ _ _ _ _ (HA.out.below hB3) (HB.out.below hB3) (HE.out.below hB3) (HF.out.below hB3) HGA.out HGB.out).mono ?_
  rintro x w4 ⟨b, vp, vn, vt, us, rfl, hP4, hb4⟩
  replace q0 := (hb4.cell (p := ⟨w.heap.size, 0, none⟩) hl0).trans q0
  replace q1 := (hb4.cell (p := ⟨w.heap.size, 1, none⟩) hl0).trans q1
  replace q2 := (hb4.cell (p := ⟨w.heap.size + 1, 0, none⟩) hl1).trans q2
  replace q3 := (hb4.cell (p := ⟨w.heap.size + 1, 1, none⟩) hl1).trans q3
  replace p0 := (hb4.cell (p := ⟨w.heap.size + 2, 0, none⟩) hl2).trans p0
  replace p1 := (hb4.cell (p := ⟨w.heap.size + 2, 1, none⟩) hl2).trans p1
  replace y0 := (hb4.frozen (p := ⟨w.heap.size + 2, 0, none⟩) hl2).trans y0
  replace y1 := (hb4.frozen (p := ⟨w.heap.size + 2, 1, none⟩) hl2).trans y1
  have hB4 : Below w.heap.size w w4 := hB3.trans (hb4.mono hB3.size)
  replace hl2 : w.heap.size + 2 < w4.heap.size := by have := hb4.size; omega
  replace hl1 : w.heap.size + 1 < w4.heap.size := by omega
  replace hl0 : w.heap.size < w4.heap.size := by omega
  have HP4 : Hid (PWa w4 w3.heap.size b vp vn vt (prs A B) ((prs A B).map Pq.s) (NR A B (prs A B).length) us) := hP4
  have HMET : Hid (Mch.Met A.length B.length (prs A B)) := prs_met HGA.out HGB.out
  have HL34 : Hid (w3.heap.size ≤ w4.heap.size) := hb4.size
  obtain ⟨ap, cp, hvp, hcp⟩ := hP4.rp.slice
  subst hvp
  have k0 := hP4.c0
  have hbl := hP4.lb
  obtain ⟨n, hn⟩ : ∃ n, n = (prs A B).length := ⟨_, rfl⟩
  have HN : Hid (n = (prs A B).length) := hn
  rw [← hn] at k0
  have hn144 : n ≤ 144 := by rw [hn]; exact HMET.out.le HGA.out HGB.out
  clear hn hP4 hb4 hB3
  by_cases h12 : 12 < n
  · have h12' : (12 : Int) < (n : Int) := by omega
    have hF : Hid (G = false ∧ RM = [] ∧ RE = []) := HFF.out (by unfold mok; rw [HGA.out, HGB.out, ← HN.out]; simp; omega)
    clear HFF HTT
    go_wp2
    (try simp only [Exit.inBlock, Exit.then])
    refine bodyPost_ret (v := .tuple #[.agg #[.slice none 0 0, .slice none 0 0], .bool false]) ?_ rfl ⟨⟨_, _, by rw [hF.out.1], [], by rw [hF.out.2.1, hF.out.2.2]; exact MaOwn.nil _ _⟩, ?_⟩
    · rw [rc]
      go_simp
    · exact (hB4.setCell (by simp <;> omega) _).setCell (by simp <;> omega) _
  · have h12' : ¬ ((12 : Int) < (n : Int)) := by omega
    have hF : Hid (G = true ∧ RM = NR A B (prs A B).length ∧ RE = (prs A B).map (ben E F)) := HTT.out (by unfold mok; rw [HGA.out, HGB.out, ← HN.out]; simp; omega)
    clear HFF HTT
    have hLE : Hid (E.length = A.length) := (gm_iff.1 HGA.out).1.2.2
    have hLF : Hid (F.length = B.length) := (gm_iff.1 HGB.out).1.2.2
    go_wp2_with fail
    refine (met_any E F _ _ _ _ _ _ _ _ _ _ _ _ _ A B _ HP4.out (HA.out.below hB4) (HE.out.below hB4) (HB.out.below hB4) (HF.out.below hB4) (fun i hi => by have h1 := HMET.out.lo i hi; have h2 := hLE.out; have h3 := hLF.out; omega) (by rw [← HN.out]; exact hn144)).mono ?_
    rintro x w5 ⟨⟨e5, rfl, he5⟩, hb5⟩
    replace q0 := (hb5.cell (p := ⟨w.heap.size, 0, none⟩) hl0).trans q0
    replace q1 := (hb5.cell (p := ⟨w.heap.size, 1, none⟩) hl0).trans q1
    replace q2 := (hb5.cell (p := ⟨w.heap.size + 1, 0, none⟩) hl1).trans q2
    replace q3 := (hb5.cell (p := ⟨w.heap.size + 1, 1, none⟩) hl1).trans q3
    replace p0 := (hb5.cell (p := ⟨w.heap.size + 2, 0, none⟩) hl2).trans p0
    replace p1 := (hb5.cell (p := ⟨w.heap.size + 2, 1, none⟩) hl2).trans p1
    replace y0 := (hb5.frozen (p := ⟨w.heap.size + 2, 0, none⟩) hl2).trans y0
    replace y1 := (hb5.frozen (p := ⟨w.heap.size + 2, 1, none⟩) hl2).trans y1
    have hB5 : Below w.heap.size w w5 := hB4.trans (hb5.mono hB4.size)
    replace hl2 : w.heap.size + 2 < w5.heap.size := by have := hb5.size; omega
    replace hl1 : w.heap.size + 1 < w5.heap.size := by omega
    replace hl0 : w.heap.size < w5.heap.size := by omega
    have HOWN : Hid (MaOwn w5 w3.heap.size vn e5 RM RE us) := by
      show MaOwn _ _ _ _ _ _ _
      rw [hF.out.2.1, hF.out.2.2]
      exact MaOwn.join HP4.out.rn he5 hb5 HL34.out
    obtain ⟨an, cn, hvn⟩ := HOWN.out.1.slice
    obtain ⟨ev, dv, hev⟩ := ERow.slice HOWN.out.2.1
    subst hvn hev
    clear he5 hb5 hB4 k0
    go_wp2
    (try simp only [Exit.inBlock, Exit.then])
    refine bodyPost_ret (v := .tuple #[.agg #[.slice an RM.length cn, .slice ev RE.length dv], .bool true]) ?_ rfl ⟨⟨_, _, by rw [hF.out.1], us, ?_⟩, ?_⟩
    · rw [rc]
      go_simp
    · have hL := HL3.out
      exact ((HOWN.out.setCell (a := ⟨w.heap.size + 2, 0, none⟩) (by show w.heap.size + 2 < _; omega) _).setCell (a := ⟨w.heap.size + 2, 1, none⟩) (by show w.heap.size + 2 < _; omega) _).lower (by omega)
    · exact (hB5.setCell (by simp <;> omega) _).setCell (by simp <;> omega) _

end Go.Proofs.Ytecgjhnihagleaa
