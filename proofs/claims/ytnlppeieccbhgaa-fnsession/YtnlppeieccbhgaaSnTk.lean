/- The program's: one is taken of what is on its way. -/
import Derived.Test.YtnlppeieccbhgaaSnDl
namespace Go.Proofs.Ytnlppeieccbhgaa
open Go.RowKit Plain Tpc Ssn

theorem Below.sets2 {w w' : World} {B b : Nat} {x0 x1 : Value} (h : Below B w w') (hb : B ≤ b) : Below B w ((w'.setCell ⟨b, 0, none⟩ x0).setCell ⟨b, 1, none⟩ x1) := by
  have h1 := h.setCell (p := ⟨b, 0, none⟩) hb x0
  exact h1.setCell (p := ⟨b, 1, none⟩) hb x1
theorem Below.sets3 {w w' : World} {B b : Nat} {x0 x1 x2 : Value} (h : Below B w w') (hb : B ≤ b) : Below B w (((w'.setCell ⟨b, 0, none⟩ x0).setCell ⟨b, 1, none⟩ x1).setCell ⟨b, 2, none⟩ x2) := by
  have h1 := h.setCell (p := ⟨b, 0, none⟩) hb x0
  have h2 := h1.setCell (p := ⟨b, 1, none⟩) hb x1
  exact h2.setCell (p := ⟨b, 2, none⟩) hb x2
theorem Ex.apart {w : World} {e B b k : Nat} {s : Ses} {vi vw va u : Value} (h : Ex w e B s vi vw va) (hne : ¬ b = e) (hn : ¬ P4 vi (.slice none 0 0) vw va b) : Ex (w.setCell ⟨b, k, none⟩ u) e B s vi vw va := ⟨h.v.apart (fun q => hne q.symm), h.r.setC hn, h.n, h.b⟩
theorem Ex.aparts2 {w : World} {e B b : Nat} {s : Ses} {vi vw va x0 x1 : Value} (h : Ex w e B s vi vw va) (hne : ¬ b = e) (hn : ¬ P4 vi (.slice none 0 0) vw va b) : Ex ((w.setCell ⟨b, 0, none⟩ x0).setCell ⟨b, 1, none⟩ x1) e B s vi vw va := (h.apart hne hn).apart hne hn
theorem Ex.aparts3 {w : World} {e B b : Nat} {s : Ses} {vi vw va x0 x1 x2 : Value} (h : Ex w e B s vi vw va) (hne : ¬ b = e) (hn : ¬ P4 vi (.slice none 0 0) vw va b) : Ex (((w.setCell ⟨b, 0, none⟩ x0).setCell ⟨b, 1, none⟩ x1).setCell ⟨b, 2, none⟩ x2) e B s vi vw va := ((h.apart hne hn).apart hne hn).apart hne hn
theorem Tch.sets2 {w w' : World} {P P' : Nat → Prop} {b : Nat} {x0 x1 : Value} (h : Tch w w' P P') (hb : w.heap.size ≤ b) : Tch w ((w'.setCell ⟨b, 0, none⟩ x0).setCell ⟨b, 1, none⟩ x1) P P' := (h.setCell b 0 x0 hb).setCell b 1 x1 hb
theorem Tch.sets3 {w w' : World} {P P' : Nat → Prop} {b : Nat} {x0 x1 x2 : Value} (h : Tch w w' P P') (hb : w.heap.size ≤ b) : Tch w (((w'.setCell ⟨b, 0, none⟩ x0).setCell ⟨b, 1, none⟩ x1).setCell ⟨b, 2, none⟩ x2) P P' := ((h.setCell b 0 x0 hb).setCell b 1 x1 hb).setCell b 2 x2 hb

theorem tkPk_end {w W1 w9 : World} {e B g cap kn : Nat} {s : Ses} {vi vw va : Value} (h : Ex w e B s vi vw va) (hb : Below w.heap.size w W1) (hv : vw.ownBlock = some g)
    (hr : PkRow w9 B (.slice (some ⟨g, 0, none⟩) (s.way.length - 1) cap) (outP s.way kn)) (hg : W1.grownBy w9 (some g)) :
    Ex (w9.setCell ⟨e, 4, none⟩ (.slice (some ⟨g, 0, none⟩) (s.way.length - 1) cap)) e B { s with way := outP s.way kn } vi (.slice (some ⟨g, 0, none⟩) (s.way.length - 1) cap) va ∧ Tch w (w9.setCell ⟨e, 4, none⟩ (.slice (some ⟨g, 0, none⟩) (s.way.length - 1) cap)) (PX e vi vw va) (PX e vi (.slice (some ⟨g, 0, none⟩) (s.way.length - 1) cap) va) := by
  have h1 := h.below hb
  obtain ⟨r9, t9⟩ := SesRow.putY h1.r hr (by rw [hv]; exact hg) (fun g' hg' => .inl (by rw [hv]; simpa [Value.ownBlock] using hg'))
  have n9 := t9.avoid h1.v.low h1.n
  have v9 := h1.v.step t9 h1.n
  refine ⟨⟨v9.set4 _, ?_, n9, h.b⟩, ((Tch.of_below hb).trans t9.px).setE⟩
  exact SesRow.setC r9 n9

set_option maxRecDepth 100000 in
set_option maxHeartbeats 4000000 in
theorem takePk_any (s : Ses) (e B : Nat) (vi vw va : Value) (k : Int) (w : World) (h : Ex w e B s vi vw va) (hg : Gd s) :
    Calls Try.prog 101 #[.pointer (some ⟨e, 4, none⟩), .int .i64 k] w fun r w' => r = .returned (.tuple #[if inW s k = true then (pk s.way k.toNat).val else .agg #[.int .i64 0, .int .i64 0, .string ⟨#[]⟩], .bool (inW s k)]) ∧ ∃ v9, Ex w' e B (if inW s k = true then { s with way := outP s.way k.toNat } else s) vi v9 va ∧ Tch w w' (PX e vi vw va) (PX e vi v9 va) := by
  have HX : Hid (Ex w e B s vi vw va) := h
  have hl12 : s.way.length ≤ 12 := hg.yl
  obtain ⟨W0, hW0⟩ : ∃ W, W = w.alloc (.cells #[.int .i64 0, .int .i64 0, .string ⟨#[]⟩] 84) := ⟨_, rfl⟩
  have hb0 : Below w.heap.size w W0 := by rw [hW0]; exact (Below.refl _ w).alloc (Nat.le_refl _) _
  have z0 : W0.cell? ⟨w.heap.size, 0, none⟩ = some (.int .i64 0) := by rw [hW0]; go_simp
  have q0 : W0.frozen? ⟨w.heap.size, 0, none⟩ = false := by rw [hW0]; go_simp
  have z1 : W0.cell? ⟨w.heap.size, 1, none⟩ = some (.int .i64 0) := by rw [hW0]; go_simp
  have q1 : W0.frozen? ⟨w.heap.size, 1, none⟩ = false := by rw [hW0]; go_simp
  have z2 : W0.cell? ⟨w.heap.size, 2, none⟩ = some (.string ⟨#[]⟩) := by rw [hW0]; go_simp
  have q2 : W0.frozen? ⟨w.heap.size, 2, none⟩ = false := by rw [hW0]; go_simp
  have HS0 : Hid (W0.heap.size = w.heap.size + 1) := by show _ = _; rw [hW0]; simp
  have HB0 : Hid (type_of% hb0) := hb0
  have rc := fun (tmps : Array Value) (P : Program) (w : World) => results_cell1S (fn := Try.f101) (p := 4) (q := 5) (ty := 84) rfl tmps P w
  have CA := atPk_any s e B vi vw va k W0 (h.below hb0)
  by_cases hin : inW s k = true
  · have hk := of_decide_eq_true hin
    rw [hin] at CA ⊢
    rw [if_pos rfl] at CA
    rw [if_pos rfl, if_pos rfl]
    obtain ⟨kn, rfl⟩ : ∃ n : Nat, k = (n : Int) := ⟨k.toNat, by omega⟩
    rw [Int.toNat_natCast] at CA ⊢
    have hkl : kn < s.way.length := by omega
    obtain ⟨g, cap, hvw⟩ : ∃ g cap, vw = .slice (some ⟨g, 0, none⟩) s.way.length cap := by
      rcases h.r.y.2 with ⟨rfl, h0⟩ | ⟨g, cap, _, rfl, _⟩
      · exfalso; dsimp only at h0; omega
      · exact ⟨g, cap, rfl⟩
    subst hvw
    have HR0 : Hid (PkRow w B (.slice (some ⟨g, 0, none⟩) s.way.length cap) s.way) := h.r.y
    generalize pk s.way kn = p at CA ⊢
    obtain ⟨pa, pb, pc⟩ := p
    rw [show (Pk.mk pa pb pc).val = .agg #[.int .i64 pa, .int .i64 pb, .string pc] from rfl] at CA ⊢
    have x4 := h.v.c4
    have f4 := h.v.f4
    have hel := h.v.low
    clear h hg hin hk hb0
    go_enter Try.func101, Try.ntmps101
    go_wp2_with fail
    rw [← hW0]
    clear hW0
    go_at_call 102
    refine CA.mono ?_
    rintro r w2 ⟨rfl, hb2⟩
    have hs : W0.heap.size = w.heap.size + 1 := HS0.out
    have hl2 := hb2.size
    have y0 := (hb2.cell (p := ⟨w.heap.size, 0, none⟩) (by show w.heap.size < _; omega)).trans z0
    have g0 := (hb2.frozen (p := ⟨w.heap.size, 0, none⟩) (by show w.heap.size < _; omega)).trans q0
    have y1 := (hb2.cell (p := ⟨w.heap.size, 1, none⟩) (by show w.heap.size < _; omega)).trans z1
    have g1 := (hb2.frozen (p := ⟨w.heap.size, 1, none⟩) (by show w.heap.size < _; omega)).trans q1
    have y2 := (hb2.cell (p := ⟨w.heap.size, 2, none⟩) (by show w.heap.size < _; omega)).trans z2
    have g2 := (hb2.frozen (p := ⟨w.heap.size, 2, none⟩) (by show w.heap.size < _; omega)).trans q2
    have Y0 : ∀ o, (w2.alloc o).cell? ⟨w.heap.size, 0, none⟩ = some (.int .i64 0) := fun o => (((Below.refl w2.heap.size w2).alloc (Nat.le_refl _) o).cell (p := ⟨w.heap.size, 0, none⟩) (by show w.heap.size < _; omega)).trans y0
    have G0 : ∀ o, (w2.alloc o).frozen? ⟨w.heap.size, 0, none⟩ = false := fun o => (((Below.refl w2.heap.size w2).alloc (Nat.le_refl _) o).frozen (p := ⟨w.heap.size, 0, none⟩) (by show w.heap.size < _; omega)).trans g0
    have Y1 : ∀ o, (w2.alloc o).cell? ⟨w.heap.size, 1, none⟩ = some (.int .i64 0) := fun o => (((Below.refl w2.heap.size w2).alloc (Nat.le_refl _) o).cell (p := ⟨w.heap.size, 1, none⟩) (by show w.heap.size < _; omega)).trans y1
    have G1 : ∀ o, (w2.alloc o).frozen? ⟨w.heap.size, 1, none⟩ = false := fun o => (((Below.refl w2.heap.size w2).alloc (Nat.le_refl _) o).frozen (p := ⟨w.heap.size, 1, none⟩) (by show w.heap.size < _; omega)).trans g1
    have Y2 : ∀ o, (w2.alloc o).cell? ⟨w.heap.size, 2, none⟩ = some (.string ⟨#[]⟩) := fun o => (((Below.refl w2.heap.size w2).alloc (Nat.le_refl _) o).cell (p := ⟨w.heap.size, 2, none⟩) (by show w.heap.size < _; omega)).trans y2
    have G2 : ∀ o, (w2.alloc o).frozen? ⟨w.heap.size, 2, none⟩ = false := fun o => (((Below.refl w2.heap.size w2).alloc (Nat.le_refl _) o).frozen (p := ⟨w.heap.size, 2, none⟩) (by show w.heap.size < _; omega)).trans g2
    have HB2 : Hid (Below w.heap.size w w2) := HB0.out.trans (hb2.mono HB0.out.size)
    have hb3 : ∀ o, Below w.heap.size w (w2.alloc o) := fun o => HB2.out.alloc HB2.out.size _
    have X4 : ∀ o, (w2.alloc o).cell? ⟨e, 4, none⟩ = some (.slice (some ⟨g, 0, none⟩) s.way.length cap) := fun o => ((hb3 o).cell (p := ⟨e, 4, none⟩) hel).trans x4
    have CD : ∀ o, Calls Try.prog 114 #[.slice (some ⟨g, 0, none⟩) s.way.length cap, .int .i64 (kn : Int), .int .i64 ((kn : Int) + 1)] (w2.alloc o) fun r w' => r = .returned (.slice (some ⟨g, 0, none⟩) (s.way.length - 1) cap) ∧ PkRow w' B (.slice (some ⟨g, 0, none⟩) (s.way.length - 1) cap) (outP s.way kn) ∧ (w2.alloc o).grownBy w' (some g) := fun o => by
      rw [show ((kn : Int) + 1) = ((kn + 1 : Nat) : Int) by omega]
      exact deletePk_any s.way B g cap kn (kn + 1) _ rfl (own_belowY HR0.out (hb3 o)) hkl (by omega)
    have HCD : Hid (type_of% CD) := CD
    have HB3 : Hid (type_of% hb3) := hb3
    have HF4 : Hid (type_of% f4) := f4
    have h64 : ((kn : Int) + 1) ≤ 100 := by omega
    have hw64 : IntKind.i64.wrap ((kn : Int) + 1) = (kn : Int) + 1 := by rw [IntKind.wrap_i64]; omega
    have hgl : g < w.heap.size := (World.ownsRow.lt HR0.out g (by simp [Value.ownBlock])).2
    have hl3 : w.heap.size < w2.heap.size := by omega
    clear hb2 hb3 CD y0 g0 z0 q0 y1 g1 z1 q1 y2 g2 z2 q2 x4 f4
    go_wp2_with fail
    go_at_call 114
    refine (HCD.out _).mono ?_
    rintro r w9 ⟨rfl, hr9, hg9⟩
    have HE := tkPk_end HX.out (HB3.out _) rfl hr9 hg9
    have HE9 : Hid (type_of% HE) := HE
    have f9 : w9.frozen? ⟨e, 4, none⟩ = false := (World.frozen?_of_block (hg9.block e (by simp; omega) (fun q => HX.out.n (.inr (.inr (.inl q.symm)))))).trans (((HB3.out _).frozen (p := ⟨e, 4, none⟩) hel).trans HF4.out)
    have c9 : w9.cell? ⟨e, 4, none⟩ = some (.slice (some ⟨g, 0, none⟩) s.way.length cap) := (hg9.cell_far ⟨e, 4, none⟩ (by simp; omega) (fun q => HX.out.n (.inr (.inr (.inl q.symm))))).trans (X4 _)
    have hgw : some w.heap.size ≠ some g := by simp; omega
    have hgv : some w2.heap.size ≠ some g := by simp; omega
    have y90 := (hg9.cell_far ⟨w.heap.size, 0, none⟩ (by simp; omega) hgw).trans (Y0 _)
    have g90 : w9.frozen? ⟨w.heap.size, 0, none⟩ = false := (World.frozen?_of_block (a := ⟨w.heap.size, 0, none⟩) (hg9.block w.heap.size (by simp; omega) hgw)).trans (G0 _)
    have o90 : w9.cell? ⟨w2.heap.size, 0, none⟩ = some (.int .i64 pa) := (hg9.cell_far ⟨w2.heap.size, 0, none⟩ (by simp) hgv).trans (by go_simp)
    have y91 := (hg9.cell_far ⟨w.heap.size, 1, none⟩ (by simp; omega) hgw).trans (Y1 _)
    have g91 : w9.frozen? ⟨w.heap.size, 1, none⟩ = false := (World.frozen?_of_block (a := ⟨w.heap.size, 1, none⟩) (hg9.block w.heap.size (by simp; omega) hgw)).trans (G1 _)
    have o91 : w9.cell? ⟨w2.heap.size, 1, none⟩ = some (.int .i64 pb) := (hg9.cell_far ⟨w2.heap.size, 1, none⟩ (by simp) hgv).trans (by go_simp)
    have y92 := (hg9.cell_far ⟨w.heap.size, 2, none⟩ (by simp; omega) hgw).trans (Y2 _)
    have g92 : w9.frozen? ⟨w.heap.size, 2, none⟩ = false := (World.frozen?_of_block (a := ⟨w.heap.size, 2, none⟩) (hg9.block w.heap.size (by simp; omega) hgw)).trans (G2 _)
    have o92 : w9.cell? ⟨w2.heap.size, 2, none⟩ = some (.string pc) := (hg9.cell_far ⟨w2.heap.size, 2, none⟩ (by simp) hgv).trans (by go_simp)
    have ne1 : ¬ e = w.heap.size := by omega
    have ne2 : ¬ e = w2.heap.size := by omega
    have ne3 : ¬ w.heap.size = w2.heap.size := by omega
    have ne4 : ¬ w.heap.size = e := by omega
    have ne5 : ¬ w2.heap.size = e := by omega
    have ne6 : ¬ w2.heap.size = w.heap.size := by omega
    have HNP : Hid (¬ P4 vi (.slice none 0 0) (.slice (some ⟨g, 0, none⟩) (s.way.length - 1) cap) va w.heap.size) := fun q => by
      have := (HX.out.r.lt4 w.heap.size q).2
      omega
    clear HE hr9 hg9 Y0 G0 Y1 G1 Y2 G2 X4
    go_wp2_with fail
    (try simp only [Exit.inBlock, Exit.then])
    refine bodyPost_ret (v := .tuple #[.agg #[.int .i64 pa, .int .i64 pb, .string pc], .bool true]) ?_ rfl ⟨rfl, _, Ex.aparts3 HE9.out.1 ne4 HNP.out, Tch.sets3 HE9.out.2 (Nat.le_refl _)⟩
    rw [rc]
    go_simp
  · have hinF : inW s k = false := by simpa using hin
    rw [hinF] at CA ⊢
    rw [if_neg (by decide)] at CA
    rw [if_neg (by decide), if_neg (by decide)]
    clear h hg hin hinF hb0
    go_enter Try.func101, Try.ntmps101
    go_wp2_with fail
    rw [← hW0]
    clear hW0
    go_at_call 102
    refine CA.mono ?_
    rintro r w2 ⟨rfl, hb2⟩
    have hs : W0.heap.size = w.heap.size + 1 := HS0.out
    have hl2 := hb2.size
    have y0 := (hb2.cell (p := ⟨w.heap.size, 0, none⟩) (by show w.heap.size < _; omega)).trans z0
    have g0 := (hb2.frozen (p := ⟨w.heap.size, 0, none⟩) (by show w.heap.size < _; omega)).trans q0
    have y1 := (hb2.cell (p := ⟨w.heap.size, 1, none⟩) (by show w.heap.size < _; omega)).trans z1
    have g1 := (hb2.frozen (p := ⟨w.heap.size, 1, none⟩) (by show w.heap.size < _; omega)).trans q1
    have y2 := (hb2.cell (p := ⟨w.heap.size, 2, none⟩) (by show w.heap.size < _; omega)).trans z2
    have g2 := (hb2.frozen (p := ⟨w.heap.size, 2, none⟩) (by show w.heap.size < _; omega)).trans q2
    have Y0 : ∀ o, (w2.alloc o).cell? ⟨w.heap.size, 0, none⟩ = some (.int .i64 0) := fun o => (((Below.refl w2.heap.size w2).alloc (Nat.le_refl _) o).cell (p := ⟨w.heap.size, 0, none⟩) (by show w.heap.size < _; omega)).trans y0
    have G0 : ∀ o, (w2.alloc o).frozen? ⟨w.heap.size, 0, none⟩ = false := fun o => (((Below.refl w2.heap.size w2).alloc (Nat.le_refl _) o).frozen (p := ⟨w.heap.size, 0, none⟩) (by show w.heap.size < _; omega)).trans g0
    have Y1 : ∀ o, (w2.alloc o).cell? ⟨w.heap.size, 1, none⟩ = some (.int .i64 0) := fun o => (((Below.refl w2.heap.size w2).alloc (Nat.le_refl _) o).cell (p := ⟨w.heap.size, 1, none⟩) (by show w.heap.size < _; omega)).trans y1
    have G1 : ∀ o, (w2.alloc o).frozen? ⟨w.heap.size, 1, none⟩ = false := fun o => (((Below.refl w2.heap.size w2).alloc (Nat.le_refl _) o).frozen (p := ⟨w.heap.size, 1, none⟩) (by show w.heap.size < _; omega)).trans g1
    have Y2 : ∀ o, (w2.alloc o).cell? ⟨w.heap.size, 2, none⟩ = some (.string ⟨#[]⟩) := fun o => (((Below.refl w2.heap.size w2).alloc (Nat.le_refl _) o).cell (p := ⟨w.heap.size, 2, none⟩) (by show w.heap.size < _; omega)).trans y2
    have G2 : ∀ o, (w2.alloc o).frozen? ⟨w.heap.size, 2, none⟩ = false := fun o => (((Below.refl w2.heap.size w2).alloc (Nat.le_refl _) o).frozen (p := ⟨w.heap.size, 2, none⟩) (by show w.heap.size < _; omega)).trans g2
    have HB2 : Hid (Below w.heap.size w w2) := HB0.out.trans (hb2.mono HB0.out.size)
    clear hb2 y0 g0 z0 q0 y1 g1 z1 q1 y2 g2 z2 q2
    go_wp2_with fail
    (try simp only [Exit.inBlock, Exit.then])
    refine bodyPost_ret (v := .tuple #[.agg #[.int .i64 0, .int .i64 0, .string ⟨#[]⟩], .bool false]) ?_ rfl ⟨rfl, _, HX.out.below ?_, .of_below ?_⟩
    · rw [rc]
      go_simp
    all_goals
      exact Below.sets3 (HB2.out.alloc (Nat.le_trans HB2.out.size (Nat.le_refl _)) _) (Nat.le_refl _)


theorem tkAk_end {w W1 w9 : World} {e B g cap kn : Nat} {s : Ses} {vi vw va : Value} (h : Ex w e B s vi vw va) (hb : Below w.heap.size w W1) (hv : va.ownBlock = some g)
    (hr : AkRow w9 B (.slice (some ⟨g, 0, none⟩) (s.acks.length - 1) cap) (outA s.acks kn)) (hg : W1.grownBy w9 (some g)) :
    Ex (w9.setCell ⟨e, 5, none⟩ (.slice (some ⟨g, 0, none⟩) (s.acks.length - 1) cap)) e B { s with acks := outA s.acks kn } vi vw (.slice (some ⟨g, 0, none⟩) (s.acks.length - 1) cap) ∧ Tch w (w9.setCell ⟨e, 5, none⟩ (.slice (some ⟨g, 0, none⟩) (s.acks.length - 1) cap)) (PX e vi vw va) (PX e vi vw (.slice (some ⟨g, 0, none⟩) (s.acks.length - 1) cap)) := by
  have h1 := h.below hb
  obtain ⟨r9, t9⟩ := SesRow.putA h1.r hr (by rw [hv]; exact hg) (fun g' hg' => .inl (by rw [hv]; simpa [Value.ownBlock] using hg'))
  have n9 := t9.avoid h1.v.low h1.n
  have v9 := h1.v.step t9 h1.n
  refine ⟨⟨v9.set5 _, ?_, n9, h.b⟩, ((Tch.of_below hb).trans t9.px).setE⟩
  exact SesRow.setC r9 n9

set_option maxRecDepth 100000 in
set_option maxHeartbeats 4000000 in
theorem takeAk_any (s : Ses) (e B : Nat) (vi vw va : Value) (k : Int) (w : World) (h : Ex w e B s vi vw va) (hg : Gd s) :
    Calls Try.prog 115 #[.pointer (some ⟨e, 5, none⟩), .int .i64 k] w fun r w' => r = .returned (.tuple #[if inA s k = true then (ak s.acks k.toNat).val else .agg #[.int .i64 0, .int .i64 0], .bool (inA s k)]) ∧ ∃ v9, Ex w' e B (if inA s k = true then { s with acks := outA s.acks k.toNat } else s) vi vw v9 ∧ Tch w w' (PX e vi vw va) (PX e vi vw v9) := by
  have HX : Hid (Ex w e B s vi vw va) := h
  have hl12 : s.acks.length ≤ 12 := hg.al
  obtain ⟨W0, hW0⟩ : ∃ W, W = w.alloc (.cells #[.int .i64 0, .int .i64 0] 86) := ⟨_, rfl⟩
  have hb0 : Below w.heap.size w W0 := by rw [hW0]; exact (Below.refl _ w).alloc (Nat.le_refl _) _
  have z0 : W0.cell? ⟨w.heap.size, 0, none⟩ = some (.int .i64 0) := by rw [hW0]; go_simp
  have q0 : W0.frozen? ⟨w.heap.size, 0, none⟩ = false := by rw [hW0]; go_simp
  have z1 : W0.cell? ⟨w.heap.size, 1, none⟩ = some (.int .i64 0) := by rw [hW0]; go_simp
  have q1 : W0.frozen? ⟨w.heap.size, 1, none⟩ = false := by rw [hW0]; go_simp
  have HS0 : Hid (W0.heap.size = w.heap.size + 1) := by show _ = _; rw [hW0]; simp
  have HB0 : Hid (type_of% hb0) := hb0
  have rc := fun (tmps : Array Value) (P : Program) (w : World) => results_cell1S (fn := Try.f115) (p := 4) (q := 5) (ty := 86) rfl tmps P w
  have CA := atAk_any s e B vi vw va k W0 (h.below hb0)
  by_cases hin : inA s k = true
  · have hk := of_decide_eq_true hin
    rw [hin] at CA ⊢
    rw [if_pos rfl] at CA
    rw [if_pos rfl, if_pos rfl]
    obtain ⟨kn, rfl⟩ : ∃ n : Nat, k = (n : Int) := ⟨k.toNat, by omega⟩
    rw [Int.toNat_natCast] at CA ⊢
    have hkl : kn < s.acks.length := by omega
    obtain ⟨g, cap, hvw⟩ : ∃ g cap, va = .slice (some ⟨g, 0, none⟩) s.acks.length cap := by
      rcases h.r.a.2 with ⟨rfl, h0⟩ | ⟨g, cap, _, rfl, _⟩
      · exfalso; dsimp only at h0; omega
      · exact ⟨g, cap, rfl⟩
    subst hvw
    have HR0 : Hid (AkRow w B (.slice (some ⟨g, 0, none⟩) s.acks.length cap) s.acks) := h.r.a
    generalize ak s.acks kn = p at CA ⊢
    obtain ⟨pa, pb⟩ := p
    rw [show (Ak.mk pa pb).val = .agg #[.int .i64 pa, .int .i64 pb] from rfl] at CA ⊢
    have x4 := h.v.c5
    have f4 := h.v.f5
    have hel := h.v.low
    clear h hg hin hk hb0
    go_enter Try.func115, Try.ntmps115
    go_wp2_with fail
    rw [← hW0]
    clear hW0
    go_at_call 119
    refine CA.mono ?_
    rintro r w2 ⟨rfl, hb2⟩
    have hs : W0.heap.size = w.heap.size + 1 := HS0.out
    have hl2 := hb2.size
    have y0 := (hb2.cell (p := ⟨w.heap.size, 0, none⟩) (by show w.heap.size < _; omega)).trans z0
    have g0 := (hb2.frozen (p := ⟨w.heap.size, 0, none⟩) (by show w.heap.size < _; omega)).trans q0
    have y1 := (hb2.cell (p := ⟨w.heap.size, 1, none⟩) (by show w.heap.size < _; omega)).trans z1
    have g1 := (hb2.frozen (p := ⟨w.heap.size, 1, none⟩) (by show w.heap.size < _; omega)).trans q1
    have Y0 : ∀ o, (w2.alloc o).cell? ⟨w.heap.size, 0, none⟩ = some (.int .i64 0) := fun o => (((Below.refl w2.heap.size w2).alloc (Nat.le_refl _) o).cell (p := ⟨w.heap.size, 0, none⟩) (by show w.heap.size < _; omega)).trans y0
    have G0 : ∀ o, (w2.alloc o).frozen? ⟨w.heap.size, 0, none⟩ = false := fun o => (((Below.refl w2.heap.size w2).alloc (Nat.le_refl _) o).frozen (p := ⟨w.heap.size, 0, none⟩) (by show w.heap.size < _; omega)).trans g0
    have Y1 : ∀ o, (w2.alloc o).cell? ⟨w.heap.size, 1, none⟩ = some (.int .i64 0) := fun o => (((Below.refl w2.heap.size w2).alloc (Nat.le_refl _) o).cell (p := ⟨w.heap.size, 1, none⟩) (by show w.heap.size < _; omega)).trans y1
    have G1 : ∀ o, (w2.alloc o).frozen? ⟨w.heap.size, 1, none⟩ = false := fun o => (((Below.refl w2.heap.size w2).alloc (Nat.le_refl _) o).frozen (p := ⟨w.heap.size, 1, none⟩) (by show w.heap.size < _; omega)).trans g1
    have HB2 : Hid (Below w.heap.size w w2) := HB0.out.trans (hb2.mono HB0.out.size)
    have hb3 : ∀ o, Below w.heap.size w (w2.alloc o) := fun o => HB2.out.alloc HB2.out.size _
    have X4 : ∀ o, (w2.alloc o).cell? ⟨e, 5, none⟩ = some (.slice (some ⟨g, 0, none⟩) s.acks.length cap) := fun o => ((hb3 o).cell (p := ⟨e, 5, none⟩) hel).trans x4
    have CD : ∀ o, Calls Try.prog 120 #[.slice (some ⟨g, 0, none⟩) s.acks.length cap, .int .i64 (kn : Int), .int .i64 ((kn : Int) + 1)] (w2.alloc o) fun r w' => r = .returned (.slice (some ⟨g, 0, none⟩) (s.acks.length - 1) cap) ∧ AkRow w' B (.slice (some ⟨g, 0, none⟩) (s.acks.length - 1) cap) (outA s.acks kn) ∧ (w2.alloc o).grownBy w' (some g) := fun o => by
      rw [show ((kn : Int) + 1) = ((kn + 1 : Nat) : Int) by omega]
      exact deleteAk_any s.acks B g cap kn (kn + 1) _ rfl (own_belowY HR0.out (hb3 o)) hkl (by omega)
    have HCD : Hid (type_of% CD) := CD
    have HB3 : Hid (type_of% hb3) := hb3
    have HF4 : Hid (type_of% f4) := f4
    have h64 : ((kn : Int) + 1) ≤ 100 := by omega
    have hw64 : IntKind.i64.wrap ((kn : Int) + 1) = (kn : Int) + 1 := by rw [IntKind.wrap_i64]; omega
    have hgl : g < w.heap.size := (World.ownsRow.lt HR0.out g (by simp [Value.ownBlock])).2
    have hl3 : w.heap.size < w2.heap.size := by omega
    clear hb2 hb3 CD y0 g0 z0 q0 y1 g1 z1 q1 x4 f4
    go_wp2_with fail
    go_at_call 120
    refine (HCD.out _).mono ?_
    rintro r w9 ⟨rfl, hr9, hg9⟩
    have HE := tkAk_end HX.out (HB3.out _) rfl hr9 hg9
    have HE9 : Hid (type_of% HE) := HE
    have f9 : w9.frozen? ⟨e, 5, none⟩ = false := (World.frozen?_of_block (hg9.block e (by simp; omega) (fun q => HX.out.n (.inr (.inr (.inr q.symm)))))).trans (((HB3.out _).frozen (p := ⟨e, 5, none⟩) hel).trans HF4.out)
    have c9 : w9.cell? ⟨e, 5, none⟩ = some (.slice (some ⟨g, 0, none⟩) s.acks.length cap) := (hg9.cell_far ⟨e, 5, none⟩ (by simp; omega) (fun q => HX.out.n (.inr (.inr (.inr q.symm))))).trans (X4 _)
    have hgw : some w.heap.size ≠ some g := by simp; omega
    have hgv : some w2.heap.size ≠ some g := by simp; omega
    have y90 := (hg9.cell_far ⟨w.heap.size, 0, none⟩ (by simp; omega) hgw).trans (Y0 _)
    have g90 : w9.frozen? ⟨w.heap.size, 0, none⟩ = false := (World.frozen?_of_block (a := ⟨w.heap.size, 0, none⟩) (hg9.block w.heap.size (by simp; omega) hgw)).trans (G0 _)
    have o90 : w9.cell? ⟨w2.heap.size, 0, none⟩ = some (.int .i64 pa) := (hg9.cell_far ⟨w2.heap.size, 0, none⟩ (by simp) hgv).trans (by go_simp)
    have y91 := (hg9.cell_far ⟨w.heap.size, 1, none⟩ (by simp; omega) hgw).trans (Y1 _)
    have g91 : w9.frozen? ⟨w.heap.size, 1, none⟩ = false := (World.frozen?_of_block (a := ⟨w.heap.size, 1, none⟩) (hg9.block w.heap.size (by simp; omega) hgw)).trans (G1 _)
    have o91 : w9.cell? ⟨w2.heap.size, 1, none⟩ = some (.int .i64 pb) := (hg9.cell_far ⟨w2.heap.size, 1, none⟩ (by simp) hgv).trans (by go_simp)
    have ne1 : ¬ e = w.heap.size := by omega
    have ne2 : ¬ e = w2.heap.size := by omega
    have ne3 : ¬ w.heap.size = w2.heap.size := by omega
    have ne4 : ¬ w.heap.size = e := by omega
    have ne5 : ¬ w2.heap.size = e := by omega
    have ne6 : ¬ w2.heap.size = w.heap.size := by omega
    have HNP : Hid (¬ P4 vi (.slice none 0 0) vw (.slice (some ⟨g, 0, none⟩) (s.acks.length - 1) cap) w.heap.size) := fun q => by
      have := (HX.out.r.lt4 w.heap.size q).2
      omega
    clear HE hr9 hg9 Y0 G0 Y1 G1 X4
    go_wp2_with fail
    (try simp only [Exit.inBlock, Exit.then])
    refine bodyPost_ret (v := .tuple #[.agg #[.int .i64 pa, .int .i64 pb], .bool true]) ?_ rfl ⟨rfl, _, Ex.aparts2 HE9.out.1 ne4 HNP.out, Tch.sets2 HE9.out.2 (Nat.le_refl _)⟩
    rw [rc]
    go_simp
  · have hinF : inA s k = false := by simpa using hin
    rw [hinF] at CA ⊢
    rw [if_neg (by decide)] at CA
    rw [if_neg (by decide), if_neg (by decide)]
    clear h hg hin hinF hb0
    go_enter Try.func115, Try.ntmps115
    go_wp2_with fail
    rw [← hW0]
    clear hW0
    go_at_call 119
    refine CA.mono ?_
    rintro r w2 ⟨rfl, hb2⟩
    have hs : W0.heap.size = w.heap.size + 1 := HS0.out
    have hl2 := hb2.size
    have y0 := (hb2.cell (p := ⟨w.heap.size, 0, none⟩) (by show w.heap.size < _; omega)).trans z0
    have g0 := (hb2.frozen (p := ⟨w.heap.size, 0, none⟩) (by show w.heap.size < _; omega)).trans q0
    have y1 := (hb2.cell (p := ⟨w.heap.size, 1, none⟩) (by show w.heap.size < _; omega)).trans z1
    have g1 := (hb2.frozen (p := ⟨w.heap.size, 1, none⟩) (by show w.heap.size < _; omega)).trans q1
    have Y0 : ∀ o, (w2.alloc o).cell? ⟨w.heap.size, 0, none⟩ = some (.int .i64 0) := fun o => (((Below.refl w2.heap.size w2).alloc (Nat.le_refl _) o).cell (p := ⟨w.heap.size, 0, none⟩) (by show w.heap.size < _; omega)).trans y0
    have G0 : ∀ o, (w2.alloc o).frozen? ⟨w.heap.size, 0, none⟩ = false := fun o => (((Below.refl w2.heap.size w2).alloc (Nat.le_refl _) o).frozen (p := ⟨w.heap.size, 0, none⟩) (by show w.heap.size < _; omega)).trans g0
    have Y1 : ∀ o, (w2.alloc o).cell? ⟨w.heap.size, 1, none⟩ = some (.int .i64 0) := fun o => (((Below.refl w2.heap.size w2).alloc (Nat.le_refl _) o).cell (p := ⟨w.heap.size, 1, none⟩) (by show w.heap.size < _; omega)).trans y1
    have G1 : ∀ o, (w2.alloc o).frozen? ⟨w.heap.size, 1, none⟩ = false := fun o => (((Below.refl w2.heap.size w2).alloc (Nat.le_refl _) o).frozen (p := ⟨w.heap.size, 1, none⟩) (by show w.heap.size < _; omega)).trans g1
    have HB2 : Hid (Below w.heap.size w w2) := HB0.out.trans (hb2.mono HB0.out.size)
    clear hb2 y0 g0 z0 q0 y1 g1 z1 q1
    go_wp2_with fail
    (try simp only [Exit.inBlock, Exit.then])
    refine bodyPost_ret (v := .tuple #[.agg #[.int .i64 0, .int .i64 0], .bool false]) ?_ rfl ⟨rfl, _, HX.out.below ?_, .of_below ?_⟩
    · rw [rc]
      go_simp
    all_goals
      exact Below.sets2 (HB2.out.alloc (Nat.le_trans HB2.out.size (Nat.le_refl _)) _) (Nat.le_refl _)


end Go.Proofs.Ytnlppeieccbhgaa
