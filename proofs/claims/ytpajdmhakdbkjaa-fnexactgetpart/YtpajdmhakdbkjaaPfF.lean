/- The program's fitParts, and fitsPart at every shape. -/
import Derived.Test.YtpajdmhakdbkjaaPfE
import Derived.Deep.DeepCutAuto
import Derived.Deep.RegionHeld3
namespace Go.Proofs.Ytpajdmhakdbkjaa
open Go.RowKit Plain Sch

/-- the pieces that are left, from an address on -/
def RestAt (w : World) (g o B : Nat) (ao : Option Addr) (Q : List (Nat × List Ty)) : Prop :=
  ∀ i q, Q[i]? = some q → ∃ gr off : Nat, ao = some ⟨gr, off, none⟩ ∧ gr < B ∧ w.cell? ⟨gr, off + i * 2, none⟩ = some (.int .i64 (q.1 : Int)) ∧ w.cell? ⟨gr, off + i * 2 + 1, none⟩ = some (.slice (some ⟨g, o + q.1 * 5, none⟩) q.2.length q.2.length)

theorem goP_some {F : Nat × List Ty → Tr → Prop} {y : Tr} {ys : List Tr} {q : Nat × List Ty} {r : List (Nat × List Ty)} (h : (ty q.2 0).no = y.no) : GoP F (y :: ys) (q :: r) ↔ F q y ∧ GoP F ys r := by
  rw [GoP]
  constructor
  · rintro (⟨_, h1, h2⟩ | ⟨h1, _⟩)
    · exact ⟨h1, h2⟩
    · exact absurd h h1
  · rintro ⟨h1, h2⟩; exact .inl ⟨h, h1, h2⟩

theorem goP_other {F : Nat × List Ty → Tr → Prop} {y : Tr} {ys : List Tr} {q : Nat × List Ty} {r : List (Nat × List Ty)} (h : ¬ (ty q.2 0).no = y.no) : GoP F (y :: ys) (q :: r) ↔ y.must = false ∧ GoP F ys (q :: r) := by
  rw [GoP]
  constructor
  · rintro (⟨h1, _⟩ | ⟨_, h1, h2⟩)
    · exact absurd h1 h
    · exact ⟨h1, h2⟩
  · rintro ⟨h1, h2⟩; exact .inr ⟨h, h1, h2⟩

theorem fieldNd2 (a : Int) (n : ByteArray) (c u : Int) (m : Bool) (w : World) : (Instr.field 85 (.agg #[.int .i64 a, .string n, .int .i64 c, .int .i64 u, .bool m]) 2).run Try.prog w = .ok (.int .i64 c) w := by kernel_rfl

/-- what a call of a bool told -/
def Told (I : Prop) (w : World) (s : Value) (wx : World) : Prop := ∃ b : Bool, s = .bool (!b) ∧ (b = true ↔ I) ∧ Below w.heap.size w wx

set_option maxRecDepth 100000 in
set_option maxHeartbeats 4000000 in
theorem fitParts_of (d : Nat) (ih0 : FitOK d) (s : Nat) (h : Ty) (M : List Ty) (ys : List Tr) (ap : Option Addr) (cp : Nat) (g o cap : Nat) (S : Nat → Prop) (w : World) (hpa : PartsIn d w S (.slice ap ys.length cp) ys) (hS : ∀ g, S g → g < w.heap.size) (hG : ∀ y ∈ ys, GT y) (hin : PcIn w g o (s, h :: M)) (hg : g < w.heap.size) (hl : s + (h :: M).length ≤ 2097152) (hnc : (h :: M).length ≤ cap) (hc : cap ≤ maxLen) (hnm : ∀ i, i < (h :: M).length → (ty (h :: M) i).name.size ≤ maxLen) :
    Calls Try.prog 86 #[.agg #[.int .i64 (s : Int), .slice (some ⟨g, o + s * 5, none⟩) (h :: M).length cap], .slice ap ys.length cp] w fun e w' => ∃ b, e = .returned (.bool b) ∧ (b = true ↔ GoP (Fp d s) ys (own s (s + 1) M)) ∧ Below w.heap.size w w' := by
  have ih : Hid (FitOK d) := ih0
  clear ih0
  have HCU : Hid (Cuts w g o 2097152 (own s (s + 1) M)) := own_cuts hin hl hnm
  have hown := fun W (hW : Below w.heap.size w W) => own_any (h :: M) s g o cap W (hin.below hW hg) (by have := hW.size; omega) (by simp) hl hnc hc
  have HOWN : Hid (∀ W, Below w.heap.size w W → Calls Try.prog 51 #[.agg #[.int .i64 (s : Int), .slice (some ⟨g, o + s * 5, none⟩) (h :: M).length cap]] W fun e w' => ∃ r, e = .returned r ∧ w'.ownsRow W.heap.size 88 2 r (own s (s + 1) M).length ((own s (s + 1) M).flatMap (pcs g o)) ∧ Below W.heap.size W w') := hown
  obtain ⟨ap', cp', hcc, hlp, hcmp, hrow⟩ := hpa
  simp only [Value.slice.injEq, true_and] at hcc
  obtain ⟨rfl, rfl⟩ := hcc
  have hcp' : cp ≤ 9223372036854775807 := by unfold maxLen at hcmp; omega
  have HROW : Hid (∀ i x, ys[i]? = some x → ∃ (g o : Nat) (u : TypeId × Value), ap = some ⟨g, o, none⟩ ∧ S g ∧ PtIn w g (o + i * 4) x (.iface u.1 u.2) ∧ ShIn d w S (.iface u.1 u.2) x) := hrow
  have HSS : Hid (∀ g, S g → g < w.heap.size) := hS
  have HGT : Hid (∀ y ∈ ys, GT y) := hG
  have hc' : cap ≤ 9223372036854775807 := by unfold maxLen at hc; omega
  obtain ⟨P, hP⟩ : ∃ P, P = own s (s + 1) M := ⟨_, rfl⟩
  rw [← hP] at HCU HOWN ⊢
  clear hP hown hS hG hin hnm hrow
  obtain ⟨ln, hln⟩ : ∃ n, n = (h :: M).length := ⟨_, rfl⟩
  rw [← hln] at HOWN hnc hl ⊢
  clear hln
  obtain ⟨R, hR⟩ : ∃ R : Prop, R = GoP (Fp d s) ys P := ⟨_, rfl⟩
  rw [← hR]
  have HR : Hid (R = GoP (Fp d s) ys P) := hR
  clear hR
  obtain ⟨ob, hob⟩ : ∃ ob, ob = o + s * 5 := ⟨_, rfl⟩
  rw [← hob] at HOWN ⊢
  clear hob
  obtain ⟨W1, hW1⟩ : ∃ W, W = w.alloc (.cells #[.int .i64 (s : Int), .slice (some ⟨g, ob, none⟩) ln cap] 88) := ⟨_, rfl⟩
  have hB1 : Below w.heap.size w W1 := by rw [hW1]; exact (Below.refl _ w).alloc (Nat.le_refl _) _
  have HS1 : Hid (W1.heap.size = w.heap.size + 1) := by show _ = _; rw [hW1]; simp
  have k0 : W1.cell? ⟨w.heap.size, 0, none⟩ = some (.int .i64 (s : Int)) := by rw [hW1]; go_simp
  have k1 : W1.cell? ⟨w.heap.size, 1, none⟩ = some (.slice (some ⟨g, ob, none⟩) ln cap) := by rw [hW1]; go_simp
  go_enter Try.func86, Try.ntmps86
  go_upto_region 1 with fail
  rw [← hW1]
  clear hW1
  go_wp2_with fail
  refine (HOWN.out W1 hB1).mono ?_
  rintro e w2 ⟨r, rfl, hrow, hb2⟩
  obtain ⟨ar, cr, rfl, hlr, hcr, hcells⟩ := pcs_cells hrow
  have hs1 := HS1.out
  have hs2 := hb2.size
  have HRE : Hid (RestAt w2 g o w2.heap.size ar P) := fun i q hi => by
    obtain ⟨gr, e1, _, e2, e3, e4⟩ := hcells i q hi
    exact ⟨gr, 0, e1, e2, by rw [Nat.zero_add]; exact e3, by rw [Nat.zero_add]; exact e4⟩
  clear hcells hrow
  have q0 := (hb2.cell (p := ⟨w.heap.size, 0, none⟩) (by show w.heap.size < _; omega)).trans k0
  have hB2 : Below w.heap.size w w2 := hB1.trans (hb2.mono hB1.size)
  have hz2 : w.heap.size < w2.heap.size := by omega
  clear k0 k1 HOWN hb2
  go_wp2
  go_loopw [5, 13] (fun vo vi wr => ∃ (i : Nat) (Q : List (Nat × List Ty)) (ao : Option Addr) (cc : Nat), i ≤ ys.length ∧ vi = .int .i64 (i : Int) ∧ vo = .slice ao Q.length cc ∧ Q.length ≤ cc ∧ cc ≤ maxLen ∧ Hid (RestAt w2 g o w2.heap.size ao Q) ∧ Hid (∀ q ∈ Q, q ∈ P) ∧ Hid (R ↔ GoP (Fp d s) (ys.drop i) Q) ∧ Below w2.heap.size w2 wr)
    (fun _ vi _ => ys.length - (intOf vi).toNat)
  case atStart => exact ⟨0, P, ar, cr, by omega, rfl, rfl, hlr, hcr, HRE, fun _ h => h, by show _ ↔ _; rw [HR.out]; rfl, Below.refl _ _⟩
  case round =>
    obtain ⟨i, Q, ao, cc, hil, rfl, rfl, hQc, hccm, hre, hsub, hgo, hbw⟩ := hrel
    have hccm' : cc ≤ 9223372036854775807 := by unfold maxLen at hccm; omega
    have hB0 : Below w.heap.size w wr := hB2.trans (hbw.mono hB2.size)
    have hsr := hbw.size
    by_cases hlt : i < ys.length
    · have hltI : (i : Int) < (ys.length : Int) := by omega
      obtain ⟨y, hy⟩ : ∃ y, ys[i]? = some y := ⟨_, List.getElem?_eq_getElem hlt⟩
      obtain ⟨gp, op, ⟨ua, uv⟩, hap, hSg, hpt, hsh⟩ := HROW.out i y hy
      subst hap
      dsimp only at hpt hsh
      have hgp := HSS.out gp hSg
      have hdr : ys.drop i = y :: ys.drop (i + 1) := by
        rw [List.drop_eq_getElem_cons hlt]
        congr 1
        rw [List.getElem?_eq_getElem hlt] at hy
        exact Option.some.inj hy
      have HGO : Hid (R ↔ GoP (Fp d s) (y :: ys.drop (i + 1)) Q) := by
        have := hgo.out
        rw [hdr] at this
        exact this
      have hym := List.mem_of_getElem? hy
      obtain ⟨c0, c1, c2, c3⟩ := hpt.kept (hB0.block gp hgp)
      have hgpr : gp < wr.heap.size := by omega
      have HSH : Hid (ShIn d w S (.iface ua uv) y) := hsh
      obtain ⟨Wy, hWy⟩ : ∃ W, W = wr.alloc (.cells #[.string y.name, .int .i64 y.no, .bool y.must, .iface ua uv] 73) := ⟨_, rfl⟩
      have hBy : Below wr.heap.size wr Wy := by rw [hWy]; exact (Below.refl _ wr).alloc (Nat.le_refl _) _
      have HSY : Hid (Wy.heap.size = wr.heap.size + 1) := by show _ = _; rw [hWy]; simp
      have p0 : Wy.cell? ⟨wr.heap.size, 0, none⟩ = some (.string y.name) := by rw [hWy]; go_simp
      have p1 : Wy.cell? ⟨wr.heap.size, 1, none⟩ = some (.int .i64 y.no) := by rw [hWy]; go_simp
      have p2 : Wy.cell? ⟨wr.heap.size, 2, none⟩ = some (.bool y.must) := by rw [hWy]; go_simp
      have p3 : Wy.cell? ⟨wr.heap.size, 3, none⟩ = some (.iface ua uv) := by rw [hWy]; go_simp
      have HPP : Hid (∀ W : World, Below Wy.heap.size Wy W → (W.cell? ⟨wr.heap.size, 0, none⟩ = some (.string y.name) ∧ W.cell? ⟨wr.heap.size, 1, none⟩ = some (.int .i64 y.no) ∧ W.cell? ⟨wr.heap.size, 2, none⟩ = some (.bool y.must) ∧ W.cell? ⟨wr.heap.size, 3, none⟩ = some (.iface ua uv)) ∧ W.cell? ⟨w.heap.size, 0, none⟩ = some (.int .i64 (s : Int)) ∧ wr.heap.size < W.heap.size ∧ Below w.heap.size w W ∧ Below w2.heap.size w2 W) := fun W hW => by
        have e := HSY.out
        have hsz := hW.size
        have hw0 : W.cell? ⟨w.heap.size, 0, none⟩ = some (.int .i64 (s : Int)) := (hW.cell (p := ⟨w.heap.size, 0, none⟩) (by show w.heap.size < _; omega)).trans ((hBy.cell (p := ⟨w.heap.size, 0, none⟩) (by show w.heap.size < _; omega)).trans ((hbw.cell (p := ⟨w.heap.size, 0, none⟩) hz2).trans q0))
        refine ⟨⟨(hW.cell (p := ⟨wr.heap.size, 0, none⟩) (by show wr.heap.size < _; omega)).trans p0, (hW.cell (p := ⟨wr.heap.size, 1, none⟩) (by show wr.heap.size < _; omega)).trans p1, (hW.cell (p := ⟨wr.heap.size, 2, none⟩) (by show wr.heap.size < _; omega)).trans p2, (hW.cell (p := ⟨wr.heap.size, 3, none⟩) (by show wr.heap.size < _; omega)).trans p3⟩, hw0, by omega, hB0.trans ((hBy.trans (hW.mono hBy.size)).mono (by omega)), hbw.trans ((hBy.trans (hW.mono hBy.size)).mono (by omega))⟩
      have hBYY : Below Wy.heap.size Wy Wy := Below.refl _ _
      have hzy : wr.heap.size < Wy.heap.size := by have := HSY.out; omega
      clear hpt hsh hgo hdr
      go_upto_region 5 with fail
      rw [← hWy]
      clear hWy c0 c1 c2 c3
      cases Q with
      | nil =>
        have hgo2 : Hid (R ↔ y.must = false ∧ GoP (Fp d s) (ys.drop (i + 1)) []) := HGO.out
        have hw2 : Below w2.heap.size w2 Wy := (HPP.out _ hBYY).2.2.2.2
        have hwW : Below w.heap.size w Wy := (HPP.out _ hBYY).2.2.2.1
        have hq : Hid (RestAt w2 g o w2.heap.size ao []) := hre
        simp only [List.length_nil] at hQc ⊢
        rcases hm : y.must with _ | _
        · have HG3 : Hid (R ↔ GoP (Fp d s) (ys.drop (i + 1)) []) := by
            show _ ↔ _
            rw [hgo2.out]
            exact ⟨fun h => h.2, fun h => ⟨hm, h⟩⟩
          rw [hm] at p2
          clear hgo2 HGO HPP hm p0 p3
          go_wp2_with fail
          go_quiet (fail)
          go_wp2
          go_roundw
          case rel => exact ⟨i + 1, [], ao, cc, by omega, by go_num, rfl, by simp, hccm, hq, hsub, HG3, below_drewN hw2⟩
          case measure => simp [intOf]; omega
        · have hn : Hid (¬ R) := fun hh => by have := (hgo2.out.1 hh).1; rw [hm] at this; cases this
          rw [hm] at p2
          clear hgo2 HGO HPP hm p0 p3
          go_wp2_with fail
          go_quiet (fail)
          go_wp2
          go_ret
          first
            | exact ⟨false, rfl, ⟨fun hh => (by cases hh), fun hh => absurd hh hn.out⟩, below_drewN hwW⟩
            | exact .inl ⟨rfl, hn.out, below_drewN hwW⟩
      | cons q Q' =>
        obtain ⟨gr, off, hao, hgr, e0, e1⟩ := hre.out 0 q rfl
        subst hao
        rw [Nat.zero_mul, Nat.add_zero] at e0 e1
        have hqP := hsub.out q (by simp)
        obtain ⟨h2, hq2⟩ : ∃ h2, ty q.2 0 = h2 := ⟨_, rfl⟩
        have hw2y : Below w2.heap.size w2 Wy := (HPP.out _ hBYY).2.2.2.2
        have HEC : Hid (∀ W : World, Below Wy.heap.size Wy W → W.cell? ⟨gr, off, none⟩ = some (.int .i64 (q.1 : Int)) ∧ W.cell? ⟨gr, off + 1, none⟩ = some (.slice (some ⟨g, o + q.1 * 5, none⟩) q.2.length q.2.length) ∧ gr < W.heap.size) := fun W hW => by
          have hb := (HPP.out W hW).2.2.2.2
          have := hb.size
          exact ⟨(hb.cell (p := ⟨gr, off, none⟩) hgr).trans e0, (hb.cell (p := ⟨gr, off + 1, none⟩) hgr).trans e1, by omega⟩
        obtain ⟨f0, f1, hgy⟩ := HEC.out _ hBYY
        have HHD : Hid (∀ W : World, Below Wy.heap.size Wy W → Calls Try.prog 52 #[.agg #[.int .i64 (q.1 : Int), .slice (some ⟨g, o + q.1 * 5, none⟩) q.2.length q.2.length]] W fun e w' => e = .returned (.agg #[.int .i64 h2.most, .string h2.name, .int .i64 h2.no, .int .i64 h2.up, .bool h2.must]) ∧ Below W.heap.size W w') := fun W hW => by
          have hb := (HPP.out W hW).2.2.2.1
          have hsz := hb.size
          have hlim := HCU.out.lim q hqP
          have := (HCU.out.inn q hqP).below hb hg 0 (HCU.out.pos q hqP)
          rw [Nat.add_zero, hq2] at this
          exact head_any (q.1 : Int) g (o + q.1 * 5) q.2.length q.2.length h2 W this (by omega) (HCU.out.pos q hqP) (by unfold maxLen; omega)
        have HFP : Hid (∀ W : World, Below Wy.heap.size Wy W → Calls Try.prog 46 #[.agg #[.int .i64 (q.1 : Int), .slice (some ⟨g, o + q.1 * 5, none⟩) q.2.length q.2.length], .agg #[.string y.name, .int .i64 y.no, .bool y.must, .iface ua uv], .int .i64 (s : Int)] W fun e w' => ∃ b, e = .returned (.bool b) ∧ (b = true ↔ Fp d s q y) ∧ Below W.heap.size W w') := fun W hW => by
          have hb := (HPP.out W hW).2.2.2.1
          have hsz := hb.size
          have hlim := HCU.out.lim q hqP
          exact ih.out q y ua uv y.name y.must s g o q.2.length S W (HSH.out.kept (fun g hg => hb.block g (HSS.out g hg)) (fun _ h => h)) (fun g hg => by have h1 := HSS.out g hg; omega) (HGT.out y hym) ((HCU.out.inn q hqP).below hb hg) (by omega) (HCU.out.pos q hqP) hlim (Nat.le_refl _) (by unfold maxLen; omega) (HCU.out.nam q hqP)
        have HYES : Hid (h2.no = y.no → (R ↔ Fp d s q y ∧ GoP (Fp d s) (ys.drop (i + 1)) Q')) := fun hh => by rw [HGO.out, goP_some (by rw [hq2]; exact hh)]
        have HNO : Hid (¬ h2.no = y.no → (R ↔ y.must = false ∧ GoP (Fp d s) (ys.drop (i + 1)) (q :: Q'))) := fun hh => by rw [HGO.out, goP_other (by rw [hq2]; exact hh)]
        have HRE2 : Hid (RestAt w2 g o w2.heap.size (some ⟨gr, off + 2, none⟩) Q') := fun j x hj => by
          obtain ⟨gr', off', e1, e2, e3, e4⟩ := hre.out (j + 1) x (by simpa using hj)
          simp only [Option.some.injEq, Addr.mk.injEq, and_true] at e1
          obtain ⟨rfl, rfl⟩ := e1
          exact ⟨gr, off + 2, rfl, e2, by rw [show off + 2 + j * 2 = off + (j + 1) * 2 by omega]; exact e3, by rw [show off + 2 + j * 2 + 1 = off + (j + 1) * 2 + 1 by omega]; exact e4⟩
        have HRE1 : Hid (RestAt w2 g o w2.heap.size (some ⟨gr, off, none⟩) (q :: Q')) := hre
        have HSUB2 : Hid (∀ x ∈ Q', x ∈ P) := fun x hx => hsub.out x (by simp [hx])
        have HLQ : Hid ((q :: Q').length = Q'.length + 1) := by show _ = _; simp
        obtain ⟨lq, hlq⟩ : ∃ n, n = (q :: Q').length := ⟨_, rfl⟩
        rw [← hlq] at hQc ⊢
        have HLQ2 : Hid (lq = Q'.length + 1) := hlq.trans HLQ.out
        have hlq0 : (0 : Int) < (lq : Int) := by have := HLQ2.out; omega
        have hlqc : (1 : Int) ≤ (lq : Int) := by omega
        have hlqn : 0 < lq := by omega
        have hdy : Hid (Below Wy.heap.size Wy Wy.drew) := hBYY.drew
        clear hlq hre hsub e0 e1 hq2 HGO
        obtain ⟨TH, hTH⟩ : ∃ b : Bool, b = (h2.no == y.no) := ⟨_, rfl⟩
        have HTH : Hid (TH = (h2.no == y.no)) := hTH
        go_cut [8] from 17 to 29 (fun s8 wx => s8 = .bool TH ∧ Below Wy.heap.size Wy wx)
        case first =>
          clear p0 p2 p3
          have fd := fieldNd2
          have s0 : Wy.cell? ⟨gr, off, none⟩ = some (.int .i64 (q.1 : Int)) ∧ Wy.cell? ⟨gr, off + 1, none⟩ = some (.slice (some ⟨g, o + q.1 * 5, none⟩) q.2.length q.2.length) ∧ Wy.cell? ⟨wr.heap.size, 1, none⟩ = some (.int .i64 y.no) := ⟨f0, f1, p1⟩
          have s0d : Wy.drew.cell? ⟨gr, off, none⟩ = some (.int .i64 (q.1 : Int)) ∧ Wy.drew.cell? ⟨gr, off + 1, none⟩ = some (.slice (some ⟨g, o + q.1 * 5, none⟩) q.2.length q.2.length) ∧ Wy.drew.cell? ⟨wr.heap.size, 1, none⟩ = some (.int .i64 y.no) := s0
          go_region_held3 (fun w' => w'.cell? ⟨gr, off, none⟩ = some (.int .i64 (q.1 : Int)) ∧ w'.cell? ⟨gr, off + 1, none⟩ = some (.slice (some ⟨g, o + q.1 * 5, none⟩) q.2.length q.2.length) ∧ w'.cell? ⟨wr.heap.size, 1, none⟩ = some (.int .i64 y.no))
            (first | with_reducible exact s6 | with_reducible exact s0d | with_reducible exact s0)
            ((go_at_call 52; refine (HHD.out _ hdy.out).mono ?_; rintro e w6 ⟨rfl, hb6⟩; have hB6 : Below Wy.heap.size Wy w6 := hBYY.drew.trans hb6; have s6 : w6.cell? ⟨gr, off, none⟩ = some (.int .i64 (q.1 : Int)) ∧ w6.cell? ⟨gr, off + 1, none⟩ = some (.slice (some ⟨g, o + q.1 * 5, none⟩) q.2.length q.2.length) ∧ w6.cell? ⟨wr.heap.size, 1, none⟩ = some (.int .i64 y.no) := ⟨(HEC.out _ hB6).1, (HEC.out _ hB6).2.1, (HPP.out _ hB6).1.2.1⟩))
          all_goals
            go_wp2_with fail
            go_meet
            exact ⟨by rw [HTH.out], hB6⟩
        case rest =>
          obtain ⟨wb, rfl⟩ : ∃ W, W = wc := ⟨_, rfl⟩
          obtain ⟨rfl, hbc⟩ := hcut
          obtain ⟨⟨p0c, p1c, p2c, p3c⟩, q0c, hzc, hBc, hb2c⟩ := HPP.out _ hbc
          obtain ⟨f0c, f1c, hgc⟩ := HEC.out _ hbc
          clear p0 p1 p2 p3 f0 f1 hgy hTH HHD hdy
          cases TH
          · have hne : ¬ h2.no = y.no := by have := HTH.out; simpa using this.symm
            have hr := HNO.out hne
            rcases hm : y.must with _ | _
            · have HG3 : Hid (R ↔ GoP (Fp d s) (ys.drop (i + 1)) (q :: Q')) := by
                show _ ↔ _
                rw [hr]
                exact ⟨fun h => h.2, fun h => ⟨hm, h⟩⟩
              have HSB : Hid (∀ x ∈ q :: Q', x ∈ P) := fun x hx => by
                rcases List.mem_cons.1 hx with rfl | hx
                · exact hqP
                · exact HSUB2.out x hx
              rw [hm] at p2c
              clear hr hne hm HPP HEC HFP HYES HNO HSH
              go_wp2
              go_roundw
              case rel => exact ⟨i + 1, q :: Q', some ⟨gr, off, none⟩, cc, by omega, by go_num, by rw [HLQ.out, ← HLQ2.out], by rw [HLQ.out, ← HLQ2.out]; exact hQc, hccm, HRE1, HSB, HG3, hb2c⟩
              case measure => simp [intOf]; omega
            · have hn : Hid (¬ R) := fun hh => by have := (hr.1 hh).1; rw [hm] at this; cases this
              rw [hm] at p2c
              clear hr hne hm HPP HEC HFP HYES HNO HSH
              go_wp2
              go_ret
              first
                | exact ⟨false, rfl, ⟨fun hh => (by cases hh), fun hh => absurd hh hn.out⟩, hBc⟩
                | exact .inl ⟨rfl, hn.out, hBc⟩
          · have hye : h2.no = y.no := by have := HTH.out; simpa using this.symm
            have HR2 : Hid (R ↔ Fp d s q y ∧ GoP (Fp d s) (ys.drop (i + 1)) Q') := HYES.out hye
            have hdc : Hid (Below Wy.heap.size Wy wb.drew) := hbc.drew
            clear hye HYES HNO
            go_upto_region 9 with fail
            go_cut [45] from 38 to 45 (fun s45 wx => Told (Fp d s q y) wb s45 wx)
            case first =>
              go_region_with (go_at_call 46; refine (HFP.out _ hdc.out).mono ?_; rintro e w7 ⟨fb, rfl, hfb, hb7⟩; have hB7 : Below wb.heap.size wb w7 := (Below.refl _ wb).drew.trans hb7; have HFB : Hid (fb = true ↔ Fp d s q y) := hfb; clear hfb)
              all_goals
                go_wp2_with fail
                go_meet
                exact ⟨fb, rfl, HFB.out, hB7⟩
            case rest =>
              obtain ⟨fb, rfl, hfb, hbe⟩ := hcut
              have hbW : Below w2.heap.size w2 wc := hb2c.trans (hbe.mono hb2c.size)
              have hBW : Below w.heap.size w wc := hBc.trans (hbe.mono hBc.size)
              have HFB : Hid (fb = true ↔ Fp d s q y) := hfb
              clear hfb HPP HEC HFP p0c p1c p2c p3c q0c f0c f1c
              cases fb
              · have hn : Hid (¬ R) := fun hh => by have := HFB.out.2 (HR2.out.1 hh).1; cases this
                go_wp2
                go_ret
                first
                  | exact ⟨false, rfl, ⟨fun hh => (by cases hh), fun hh => absurd hh hn.out⟩, hBW⟩
                  | exact .inl ⟨rfl, hn.out, hBW⟩
              · have HG3 : Hid (R ↔ GoP (Fp d s) (ys.drop (i + 1)) Q') := by
                  show _ ↔ _
                  rw [HR2.out]
                  exact ⟨fun h => h.2, fun h => ⟨HFB.out.1 rfl, h⟩⟩
                go_wp2
                go_roundw
                case rel =>
                  have e1 := HLQ2.out
                  refine ⟨i + 1, Q', (if cc = 1 then some ⟨gr, off, none⟩ else some ⟨gr, off + 2, none⟩), cc - 1, by omega, by go_num, by rw [show lq - 1 = Q'.length by omega], by omega, by omega, ?_, HSUB2, HG3, hbW⟩
                  by_cases hcc1 : cc = 1
                  · intro j x hj
                    have : j < Q'.length := (List.getElem?_eq_some_iff.1 hj).1
                    omega
                  · rw [if_neg hcc1]
                    exact HRE2
                case measure => simp [intOf]; omega
    · have hge : ¬ ((i : Int) < (ys.length : Int)) := by omega
      have hke : i = ys.length := by omega
      have HE : Hid (R ↔ Q = []) := by
        have := hgo.out
        rw [hke, List.drop_length, GoP] at this
        exact this
      clear hgo hke
      cases Q with
      | nil =>
        have hn : Hid R := HE.out.2 rfl
        go_wp2
        go_ret
        exact .inr ⟨rfl, hn.out, hB0⟩
      | cons q Q' =>
        have hn : Hid (¬ R) := fun hh => by have := HE.out.1 hh; cases this
        have hl0 : (((q :: Q').length : Int) == 0) = false := by simp; omega
        generalize (q :: Q').length = lq at *
        go_wp2
        go_ret
        first
          | exact ⟨false, rfl, ⟨fun hh => (by cases hh), fun hh => absurd hh hn.out⟩, hB0⟩
          | exact .inl ⟨rfl, hn.out, hB0⟩

end Go.Proofs.Ytpajdmhakdbkjaa
