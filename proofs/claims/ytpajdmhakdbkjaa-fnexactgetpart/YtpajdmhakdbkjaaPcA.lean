/- Pieces of nodes in memory: a piece's head, and a piece cut into what is in its head. -/
import Derived.Test.YtpajdmhakdbkjaaNdT
import Derived.Test.YtpajdmhakdbkjaaGv
import Derived.Test.YtpajdmhakdbkjaaGl
import Derived.Deep.DeepCutAuto
namespace Go.Proofs.Ytpajdmhakdbkjaa
open Go.RowKit Plain Sch

theorem Try.infoPc : (Try.prog.info? 88).map (fun i => (i.zero, i.size, i.bytes)) = some (some (.agg #[.int .i64 0, .slice none 0 0]), 2, 32) := by kernel_rfl

/-- the two cells of a piece of the nodes that lie from o on in block g -/
def pcs (g o : Nat) (q : Nat × List Ty) : List Value := [.int .i64 (q.1 : Int), .slice (some ⟨g, o + q.1 * 5, none⟩) q.2.length q.2.length]

/-- the nodes of a piece lie where they should -/
def PcIn (w : World) (g o : Nat) (q : Nat × List Ty) : Prop := ∀ i, i < q.2.length → NoIn w g (o + (q.1 + i) * 5) (ty q.2 i)

theorem PcIn.below {w w' : World} {g o B : Nat} {q : Nat × List Ty} (h : PcIn w g o q) (hb : Below B w w') (hg : g < B) : PcIn w' g o q := fun i hi => (h i hi).below hb hg

theorem one2 {k : Int} {ao : Option Addr} {l cp : Nat} : ∀ u ∈ [Value.int .i64 k, .slice ao l cp], u.oneCell' = true := by
  intro u hu
  simp at hu
  rcases hu with rfl | rfl <;> rfl

theorem pcs_len (g o : Nat) (l : List (Nat × List Ty)) : (l.flatMap (pcs g o)).length = l.length * 2 := by
  induction l with
  | nil => rfl
  | cons x l ih => rw [List.flatMap_cons, List.length_append, ih]; simp [pcs]; omega

set_option maxRecDepth 100000 in
set_option maxHeartbeats 1000000 in
theorem head_any (s : Int) (g o n cap : Nat) (h : Ty) (w : World) (hn : NoIn w g o h) (hg : g < w.heap.size) (h0 : 0 < n) (hc : cap ≤ maxLen) :
    Calls Try.prog 52 #[.agg #[.int .i64 s, .slice (some ⟨g, o, none⟩) n cap]] w fun e w' => e = .returned (.agg #[.int .i64 h.most, .string h.name, .int .i64 h.no, .int .i64 h.up, .bool h.must]) ∧ Below w.heap.size w w' := by
  have hc' : cap ≤ 9223372036854775807 := by unfold maxLen at hc; omega
  have h0' : (0 : Int) < (n : Int) := by omega
  obtain ⟨kind, name, no, must, up, most⟩ := h
  obtain ⟨W2, hW2⟩ : ∃ W, W = (w.alloc (.cells #[.int .i64 s, .slice (some ⟨g, o, none⟩) n cap] 88)).alloc (.cells #[.int .i64 0, .string ⟨#[]⟩, .int .i64 0, .int .i64 0, .bool false] 85) := ⟨_, rfl⟩
  have hB2 : Below w.heap.size w W2 := by rw [hW2]; exact ((Below.refl _ w).alloc (Nat.le_refl _) _).alloc (by simp) _
  have hz2 : w.heap.size + 1 < W2.heap.size := by rw [hW2]; simp
  obtain ⟨c0, c1, c2, c3, c4⟩ := hn.below hB2 hg
  dsimp only at c0 c1 c2 c3 c4 ⊢
  have q1 : W2.cell? ⟨w.heap.size, 1, none⟩ = some (.slice (some ⟨g, o, none⟩) n cap) := by rw [hW2]; go_simp
  have r0 : W2.cell? ⟨w.heap.size + 1, 0, none⟩ = some (.int .i64 0) := by rw [hW2]; go_simp
  have r1 : W2.cell? ⟨w.heap.size + 1, 1, none⟩ = some (.string ⟨#[]⟩) := by rw [hW2]; go_simp
  have r2 : W2.cell? ⟨w.heap.size + 1, 2, none⟩ = some (.int .i64 0) := by rw [hW2]; go_simp
  have r3 : W2.cell? ⟨w.heap.size + 1, 3, none⟩ = some (.int .i64 0) := by rw [hW2]; go_simp
  have r4 : W2.cell? ⟨w.heap.size + 1, 4, none⟩ = some (.bool false) := by rw [hW2]; go_simp
  have z0 : W2.frozen? ⟨w.heap.size + 1, 0, none⟩ = false := by rw [hW2]; go_simp
  have z1 : W2.frozen? ⟨w.heap.size + 1, 1, none⟩ = false := by rw [hW2]; go_simp
  have z2 : W2.frozen? ⟨w.heap.size + 1, 2, none⟩ = false := by rw [hW2]; go_simp
  have z3 : W2.frozen? ⟨w.heap.size + 1, 3, none⟩ = false := by rw [hW2]; go_simp
  have z4 : W2.frozen? ⟨w.heap.size + 1, 4, none⟩ = false := by rw [hW2]; go_simp
  have hle : w.heap.size ≤ w.heap.size + 1 := by omega
  go_enter Try.func52, Try.ntmps52
  go_upto_region 1 with fail
  rw [← hW2]
  clear hW2
  go_wp2
  (try simp only [Exit.inBlock, Exit.then])
  refine bodyPost_ret (v := .agg #[.int .i64 most, .string name, .int .i64 no, .int .i64 up, .bool must]) ?_ rfl ⟨rfl, ?_⟩
  · rw [results_cell1 rfl]
    go_simp
    try exact ⟨rfl, rfl, rfl, rfl, rfl⟩
  · repeat' (first | with_reducible exact hB2 | refine Below.setCell ?_ hle _)

/-- what the next cut is: the piece that begins at a node of the list, up to the next node that is in p -/
theorem own_next (p s : Nat) (L : List Ty) (from' to' : Nat) (hf : from' < to') (hto : to' ≤ L.length) (hall : ∀ j, from' < j → j < to' → (ty L j).up ≠ (p : Int)) (hend : to' = L.length ∨ (ty L to').up = (p : Int)) :
    own p (s + from') (L.drop from') = (s + from', (L.drop from').take (to' - from')) :: own p (s + to') (L.drop to') := by
  obtain ⟨x, l, hx⟩ : ∃ x l, L.drop from' = x :: l := by
    cases h : L.drop from' with
    | nil => have := congrArg List.length h; simp at this; omega
    | cons x l => exact ⟨x, l, rfl⟩
  have hl : l = L.drop (from' + 1) := by
    have := congrArg List.tail hx
    simpa using this.symm
  have hlen : l.length = L.length - from' - 1 := by rw [hl]; simp; omega
  have hty : ∀ j, ty l j = ty L (from' + 1 + j) := fun j => by
    rw [hl]
    unfold ty
    rw [List.getD_eq_getElem?_getD, List.getD_eq_getElem?_getD, List.getElem?_drop]
  rw [hx, own_cut p (to' - from' - 1) (s + from') x l (by omega) (fun j hj => by rw [hty]; exact hall _ (by omega) (by omega)) (by
    rcases hend with h | h
    · exact .inl (by omega)
    · refine .inr ?_
      rw [hty, show from' + 1 + (to' - from' - 1) = to' by omega]
      exact h)]
  have e1 : (x :: l).take (to' - from') = x :: l.take (to' - from' - 1) := by
    rw [show to' - from' = (to' - from' - 1) + 1 by omega, List.take_succ_cons, Nat.add_sub_cancel]
  rw [e1, show s + from' + 1 + (to' - from' - 1) = s + to' by omega, hl, List.drop_drop, show from' + 1 + (to' - from' - 1) = to' by omega]

set_option maxRecDepth 100000 in
set_option maxHeartbeats 4000000 in
attribute [local simp] Go.wp_at_zero Go.wp_at_succ in
theorem own_any (L : List Ty) (s g o cap : Nat) (w : World) (hin : PcIn w g o (s, L)) (hg : g < w.heap.size) (h0 : 0 < L.length) (hl : s + L.length ≤ 2097152) (hnc : L.length ≤ cap) (hc : cap ≤ maxLen) :
    Calls Try.prog 51 #[.agg #[.int .i64 (s : Int), .slice (some ⟨g, o + s * 5, none⟩) L.length cap]] w fun e w' => ∃ r, e = .returned r ∧ w'.ownsRow w.heap.size 88 2 r (own s (s + 1) (L.drop 1)).length ((own s (s + 1) (L.drop 1)).flatMap (pcs g o)) ∧ Below w.heap.size w w' := by
  obtain ⟨i0, hi, hz0, hz1, hz2⟩ := info_parts Try.infoPc
  have hc' : cap ≤ 9223372036854775807 := by unfold maxLen at hc; omega
  have HIN : Hid (∀ i, i < L.length → NoIn w g (o + (s + i) * 5) (ty L i)) := hin
  clear hin
  obtain ⟨ob, hob⟩ : ∃ ob, ob = o + s * 5 := ⟨_, rfl⟩
  rw [← hob]
  have HOB : Hid (∀ i : Nat, o + (s + i) * 5 = ob + i * 5) := fun i => by rw [hob]; omega
  clear hob
  obtain ⟨P, hP⟩ : ∃ P, P = own s (s + 1) (L.drop 1) := ⟨_, rfl⟩
  rw [← hP]
  have HP : Hid (P = own s (s + 1) (L.drop 1)) := hP
  clear hP
  obtain ⟨W1, hW1⟩ : ∃ W, W = w.alloc (.cells #[.int .i64 (s : Int), .slice (some ⟨g, ob, none⟩) L.length cap] 88) := ⟨_, rfl⟩
  have hB1 : Below w.heap.size w W1 := by rw [hW1]; exact (Below.refl _ w).alloc (Nat.le_refl _) _
  have HS1 : Hid (W1.heap.size = w.heap.size + 1) := by show _ = _; rw [hW1]; simp
  have k0 : W1.cell? ⟨w.heap.size, 0, none⟩ = some (.int .i64 (s : Int)) := by rw [hW1]; go_simp
  have k1 : W1.cell? ⟨w.heap.size, 1, none⟩ = some (.slice (some ⟨g, ob, none⟩) L.length cap) := by rw [hW1]; go_simp
  go_enter Try.func51, Try.ntmps51
  go_upto_region 1 with fail
  rw [← hW1]
  clear hW1
  go_wp2
  go_loopw [3, 4] (fun vl vf wr => ∃ (fr : Nat) (done : List (Nat × List Ty)), 1 ≤ fr ∧ fr ≤ L.length ∧ vf = .int .i64 (fr : Int) ∧ wr.ownsRow W1.heap.size 88 2 vl done.length (done.flatMap (pcs g o)) ∧ Hid (P = done ++ own s (s + fr) (L.drop fr)) ∧ Hid (done.length ≤ fr) ∧ Below W1.heap.size W1 wr)
    (fun _ vf _ => L.length - (intOf vf).toNat)
  case atStart => exact ⟨1, [], by omega, by omega, rfl, World.ownsRow_nil _ _ _ _, by show _ = _; rw [HP.out]; rfl, by show (0 : Nat) ≤ 1; omega, Below.refl _ _⟩
  case round =>
    obtain ⟨wo, rfl⟩ : ∃ W, W = wr := ⟨_, rfl⟩
    obtain ⟨fr, done, hf1, hfl, rfl, hown, hPd, hdl, hbw⟩ := hrel
    have hs1 := HS1.out
    have hsr := hbw.size
    have hBo : Below w.heap.size w wo := hB1.trans (hbw.mono hB1.size)
    have q0 := (hbw.cell (p := ⟨w.heap.size, 0, none⟩) (by show w.heap.size < _; omega)).trans k0
    have q1 := (hbw.cell (p := ⟨w.heap.size, 1, none⟩) (by show w.heap.size < _; omega)).trans k1
    have hwo : w.heap.size < wo.heap.size := by omega
    have hgo : g < wo.heap.size := by omega
    by_cases hlt : fr < L.length
    · have hltI : (fr : Int) < (L.length : Int) := by omega
      go_wp2
      go_loopw [5] (fun vt wr => ∃ (to' : Nat), fr < to' ∧ to' ≤ L.length ∧ vt = .int .i64 (to' : Int) ∧ Hid (∀ j, fr < j → j < to' → (ty L j).up ≠ (s : Int)) ∧ Below wo.heap.size wo wr)
        (fun vt _ => L.length - (intOf vt).toNat)
      case atStart => exact ⟨fr + 1, by omega, by omega, by go_num, fun j h1 h2 => by omega, Below.refl _ _⟩
      case round =>
        obtain ⟨to', hft, htl, rfl, hall, hbs⟩ := hrel
        have hss := hbs.size
        have q0 := (hbs.cell (p := ⟨w.heap.size, 0, none⟩) hwo).trans q0
        have q1 := (hbs.cell (p := ⟨w.heap.size, 1, none⟩) hwo).trans q1
        have hwr : w.heap.size < wr.heap.size := by omega
        have hgr : g < wr.heap.size := by omega
        by_cases hgo2 : to' < L.length ∧ (ty L to').up ≠ (s : Int)
        · obtain ⟨hltt, he⟩ := hgo2
          have hltt' : (to' : Int) < (L.length : Int) := by omega
          have hc3 := (((HIN.out to' hltt).below hBo hg).below hbs hgo).2.2.2.1
          rw [HOB.out to'] at hc3
          have hall2 : Hid (∀ j, fr < j → j < to' + 1 → (ty L j).up ≠ (s : Int)) := fun j h1 h2 => by
            by_cases hj : j = to'
            · rw [hj]; exact he
            · exact hall.out j h1 (by omega)
          generalize (ty L to').up = up at hc3 he
          have he' : (up != (s : Int)) = true := by simpa using he
          clear he hall hPd hown
          go_wp2_with fail
          go_quiet (fail)
          go_wp2
          go_roundw
          case rel => exact ⟨to' + 1, by omega, by omega, by go_num, hall2, below_drewN hbs⟩
          case measure => simp [intOf]; omega
        · have hend : to' = L.length ∨ (ty L to').up = (s : Int) := by
            by_cases h : to' < L.length
            · right
              by_cases h2 : (ty L to').up = (s : Int)
              · exact h2
              · exact absurd ⟨h, h2⟩ hgo2
            · left; omega
          have HNX : Hid (P = (done ++ [(s + fr, (L.drop fr).take (to' - fr))]) ++ own s (s + to') (L.drop to')) := by
            show _ = _
            rw [hPd.out, own_next s s L fr to' hft htl hall.out hend]
            simp
          have hlen9 : ((L.drop fr).take (to' - fr)).length = to' - fr := by simp; omega
          generalize hnx : (L.drop fr).take (to' - fr) = piece at HNX hlen9
          clear hnx hall hPd
          have hown2 := own_below hown hbs
          have hlt9 := hown.lt
          clear hown
          have hdc : done.length + 1 ≤ 2097152 := by have := hdl.out; omega
          have hwrap : IntKind.i64.wrap ((s : Int) + (fr : Int)) = (s : Int) + (fr : Int) := by rw [IntKind.wrap_i64]; omega
          have hfr0 : (0 : Int) ≤ (fr : Int) := by omega
          by_cases htL : to' = L.length
          · subst htL
            have hge2 : ¬ ((L.length : Int) < (L.length : Int)) := by omega
            have hnef : ¬ (L.length = fr) := by omega
            go_wp2_with fail
            go_quiet (fail)
            go_upto_region 7 with fail
            obtain ⟨Wd, hWd⟩ : ∃ W, W = wr.drewN nq := ⟨_, rfl⟩
            rw [← hWd]
            have hbd : Below wr.heap.size wr Wd := by rw [hWd]; exact below_drewN (Below.refl _ _)
            have HSD : Hid (Wd.heap.size = wr.heap.size) := by show _ = _; rw [hWd]; rfl
            clear hWd
            have s1 : Wd.cell? ⟨w.heap.size, 0, none⟩ = some (.int .i64 (s : Int)) ∧ Wd.cell? ⟨w.heap.size, 1, none⟩ = some (.slice (some ⟨g, ob, none⟩) L.length cap) := ⟨(hbd.cell (p := ⟨w.heap.size, 0, none⟩) hwr).trans q0, (hbd.cell (p := ⟨w.heap.size, 1, none⟩) hwr).trans q1⟩
            have s1d : Wd.drew.cell? ⟨w.heap.size, 0, none⟩ = some (.int .i64 (s : Int)) ∧ Wd.drew.cell? ⟨w.heap.size, 1, none⟩ = some (.slice (some ⟨g, ob, none⟩) L.length cap) := s1
            have hBd : Below wo.heap.size wo Wd := hbs.trans (hbd.mono hss)
            obtain ⟨N, hN⟩ : ∃ N : Obj, N = .cells #[.int .i64 ((s : Int) + fr), .slice (some ⟨g, ob + fr * 5, none⟩) (L.length - fr) (L.length - fr)] 88 := ⟨_, rfl⟩
            have hba : Below Wd.heap.size Wd (Wd.alloc N).drew := ((Below.refl _ Wd).alloc (Nat.le_refl _) N).drew
            have hwd : w.heap.size < Wd.heap.size := by have := HSD.out; omega
            have s1a : (Wd.alloc N).drew.cell? ⟨w.heap.size, 0, none⟩ = some (.int .i64 (s : Int)) ∧ (Wd.alloc N).drew.cell? ⟨w.heap.size, 1, none⟩ = some (.slice (some ⟨g, ob, none⟩) L.length cap) := ⟨(hba.cell (p := ⟨w.heap.size, 0, none⟩) hwd).trans s1.1, (hba.cell (p := ⟨w.heap.size, 1, none⟩) hwd).trans s1.2⟩
            have HOA : Hid ((Wd.alloc N).drew.ownsRow W1.heap.size 88 2 u3 done.length (done.flatMap (pcs g o))) := own_below (own_below hown2 hbd) hba
            have HNW : Hid (∀ j u, [Value.int .i64 ((s : Int) + fr), .slice (some ⟨g, ob + fr * 5, none⟩) (L.length - fr) (L.length - fr)][j]? = some u → (Wd.alloc N).drew.cell? ((⟨Wd.heap.size, 0, none⟩ : Addr).add j) = some u) := by
              rw [hN]
              exact World.news_of_block (w := (Wd.alloc _).drew) (heap_alloc_new Wd _)
            have hneu : ∀ k, u3.ownBlock = some k → W1.heap.size ≤ k := fun k hk => (hlt9 k hk).1
            have HNE : Hid (some w.heap.size ≠ u3.ownBlock) := fun e => by have := hneu _ e.symm; omega
            have HKA : Hid (∀ W : World, (Wd.alloc N).drew.grownBy W u3.ownBlock → W.cell? ⟨w.heap.size, 0, none⟩ = some (.int .i64 (s : Int)) ∧ W.cell? ⟨w.heap.size, 1, none⟩ = some (.slice (some ⟨g, ob, none⟩) L.length cap)) := fun W hW => ⟨(hW.cell_far ⟨w.heap.size, 0, none⟩ (by simp; omega) HNE.out).trans s1a.1, (hW.cell_far ⟨w.heap.size, 1, none⟩ (by simp; omega) HNE.out).trans s1a.2⟩
            rw [hN] at s1a HOA HNW HKA hba
            clear hN hown2 hneu
            go_region_held3 (fun w' => w'.cell? ⟨w.heap.size, 0, none⟩ = some (.int .i64 (s : Int)) ∧ w'.cell? ⟨w.heap.size, 1, none⟩ = some (.slice (some ⟨g, ob, none⟩) L.length cap))
              (first | with_reducible exact s9 | with_reducible exact s1a | with_reducible exact s1d | with_reducible exact s1)
              ((refine step_append_lies _ (by rfl) _ _ _ (by rfl) W1.heap.size 88 i0 (.agg #[.int .i64 0, .slice none 0 0]) 2 32 Try.underlying101 hi hz0 hz1 hz2 rfl (by decide) _ done.length _ (by rfl) HOA.out ⟨Wd.heap.size, 0, none⟩ 1 1 [.int .i64 ((s : Int) + fr), .slice (some ⟨g, ob + fr * 5, none⟩) (L.length - fr) (L.length - fr)] (by rfl) rfl HNW.out one2 (by omega) (by unfold maxLen; omega) (by omega) (by simp; omega) (Wd.heap.size + 1) (by simp) ?_; intro g9 cap9 w9 hown9 hgrow9 hat9 hlt99; have s9 := HKA.out _ hgrow9))
            have hbw9 : Below W1.heap.size W1 w9 := (hbw.trans ((hBd.trans (hba.mono (by have := hBd.size; omega))).mono (by omega))).grown hgrow9 (by simp; omega) (fun k hk => (hlt9 k hk).1)
            have hown10 : w9.ownsRow W1.heap.size 88 2 (.slice (some ⟨g9, 0, none⟩) (done.length + 1) cap9) (done ++ [(s + fr, piece)]).length ((done ++ [(s + fr, piece)]).flatMap (pcs g o)) := by
              rw [List.length_append, List.length_singleton, List.flatMap_append]
              have e : [(s + fr, piece)].flatMap (pcs g o) = [Value.int .i64 ((s : Int) + fr), .slice (some ⟨g, ob + fr * 5, none⟩) (L.length - fr) (L.length - fr)] := by
                simp only [List.flatMap_cons, List.flatMap_nil, List.append_nil, pcs]
                rw [hlen9, HOB.out fr]
                rfl
              rw [e]
              exact hown9
            clear hown9 hgrow9 hat9 HOA HNW HKA hba s1 s1a s1d s9
            go_wp2
            go_roundw
            case rel => exact ⟨L.length, done ++ [(s + fr, piece)], by omega, by omega, rfl, hown10, HNX, by show _ ≤ _; have := hdl.out; simp; omega, hbw9⟩
            case measure => simp [intOf]; omega
          · have hltt' : (to' : Int) < (L.length : Int) := by omega
            have hnef : ¬ (to' = fr) := by omega
            have hb1 : (fr : Int) ≤ (to' : Int) := by omega
            have hb2 : (to' : Int) ≤ (cap : Int) := by omega
            have hb3 : (0 : Int) ≤ (to' : Int) := by omega
            have hc3 := (((HIN.out to' (by omega)).below hBo hg).below hbs hgo).2.2.2.1
            rw [HOB.out to', hend.resolve_left htL] at hc3
            clear htL hend
            go_wp2_with fail
            go_quiet (fail)
            go_upto_region 7 with fail
            obtain ⟨Wd, hWd⟩ : ∃ W, W = wr.drewN nq := ⟨_, rfl⟩
            rw [← hWd]
            have hbd : Below wr.heap.size wr Wd := by rw [hWd]; exact below_drewN (Below.refl _ _)
            have HSD : Hid (Wd.heap.size = wr.heap.size) := by show _ = _; rw [hWd]; rfl
            clear hWd
            have s1 : Wd.cell? ⟨w.heap.size, 0, none⟩ = some (.int .i64 (s : Int)) ∧ Wd.cell? ⟨w.heap.size, 1, none⟩ = some (.slice (some ⟨g, ob, none⟩) L.length cap) := ⟨(hbd.cell (p := ⟨w.heap.size, 0, none⟩) hwr).trans q0, (hbd.cell (p := ⟨w.heap.size, 1, none⟩) hwr).trans q1⟩
            have s1d : Wd.drew.cell? ⟨w.heap.size, 0, none⟩ = some (.int .i64 (s : Int)) ∧ Wd.drew.cell? ⟨w.heap.size, 1, none⟩ = some (.slice (some ⟨g, ob, none⟩) L.length cap) := s1
            have hBd : Below wo.heap.size wo Wd := hbs.trans (hbd.mono hss)
            obtain ⟨N, hN⟩ : ∃ N : Obj, N = .cells #[.int .i64 ((s : Int) + fr), .slice (some ⟨g, ob + fr * 5, none⟩) (to' - fr) (to' - fr)] 88 := ⟨_, rfl⟩
            have hba : Below Wd.heap.size Wd (Wd.alloc N).drew := ((Below.refl _ Wd).alloc (Nat.le_refl _) N).drew
            have hwd : w.heap.size < Wd.heap.size := by have := HSD.out; omega
            have s1a : (Wd.alloc N).drew.cell? ⟨w.heap.size, 0, none⟩ = some (.int .i64 (s : Int)) ∧ (Wd.alloc N).drew.cell? ⟨w.heap.size, 1, none⟩ = some (.slice (some ⟨g, ob, none⟩) L.length cap) := ⟨(hba.cell (p := ⟨w.heap.size, 0, none⟩) hwd).trans s1.1, (hba.cell (p := ⟨w.heap.size, 1, none⟩) hwd).trans s1.2⟩
            have HOA : Hid ((Wd.alloc N).drew.ownsRow W1.heap.size 88 2 u3 done.length (done.flatMap (pcs g o))) := own_below (own_below hown2 hbd) hba
            have HNW : Hid (∀ j u, [Value.int .i64 ((s : Int) + fr), .slice (some ⟨g, ob + fr * 5, none⟩) (to' - fr) (to' - fr)][j]? = some u → (Wd.alloc N).drew.cell? ((⟨Wd.heap.size, 0, none⟩ : Addr).add j) = some u) := by
              rw [hN]
              exact World.news_of_block (w := (Wd.alloc _).drew) (heap_alloc_new Wd _)
            have hneu : ∀ k, u3.ownBlock = some k → W1.heap.size ≤ k := fun k hk => (hlt9 k hk).1
            have HNE : Hid (some w.heap.size ≠ u3.ownBlock) := fun e => by have := hneu _ e.symm; omega
            have HKA : Hid (∀ W : World, (Wd.alloc N).drew.grownBy W u3.ownBlock → W.cell? ⟨w.heap.size, 0, none⟩ = some (.int .i64 (s : Int)) ∧ W.cell? ⟨w.heap.size, 1, none⟩ = some (.slice (some ⟨g, ob, none⟩) L.length cap)) := fun W hW => ⟨(hW.cell_far ⟨w.heap.size, 0, none⟩ (by simp; omega) HNE.out).trans s1a.1, (hW.cell_far ⟨w.heap.size, 1, none⟩ (by simp; omega) HNE.out).trans s1a.2⟩
            rw [hN] at s1a HOA HNW HKA hba
            clear hN hown2 hneu
            go_region_held3 (fun w' => w'.cell? ⟨w.heap.size, 0, none⟩ = some (.int .i64 (s : Int)) ∧ w'.cell? ⟨w.heap.size, 1, none⟩ = some (.slice (some ⟨g, ob, none⟩) L.length cap))
              (first | with_reducible exact s9 | with_reducible exact s1a | with_reducible exact s1d | with_reducible exact s1)
              ((refine step_append_lies _ (by rfl) _ _ _ (by rfl) W1.heap.size 88 i0 (.agg #[.int .i64 0, .slice none 0 0]) 2 32 Try.underlying101 hi hz0 hz1 hz2 rfl (by decide) _ done.length _ (by rfl) HOA.out ⟨Wd.heap.size, 0, none⟩ 1 1 [.int .i64 ((s : Int) + fr), .slice (some ⟨g, ob + fr * 5, none⟩) (to' - fr) (to' - fr)] (by rfl) rfl HNW.out one2 (by omega) (by unfold maxLen; omega) (by omega) (by simp; omega) (Wd.heap.size + 1) (by simp) ?_; intro g9 cap9 w9 hown9 hgrow9 hat9 hlt99; have s9 := HKA.out _ hgrow9))
            have hbw9 : Below W1.heap.size W1 w9 := (hbw.trans ((hBd.trans (hba.mono (by have := hBd.size; omega))).mono (by omega))).grown hgrow9 (by simp; omega) (fun k hk => (hlt9 k hk).1)
            have hown10 : w9.ownsRow W1.heap.size 88 2 (.slice (some ⟨g9, 0, none⟩) (done.length + 1) cap9) (done ++ [(s + fr, piece)]).length ((done ++ [(s + fr, piece)]).flatMap (pcs g o)) := by
              rw [List.length_append, List.length_singleton, List.flatMap_append]
              have e : [(s + fr, piece)].flatMap (pcs g o) = [Value.int .i64 ((s : Int) + fr), .slice (some ⟨g, ob + fr * 5, none⟩) (to' - fr) (to' - fr)] := by
                simp only [List.flatMap_cons, List.flatMap_nil, List.append_nil, pcs]
                rw [hlen9, HOB.out fr]
                rfl
              rw [e]
              exact hown9
            clear hown9 hgrow9 hat9 HOA HNW HKA hba s1 s1a s1d s9
            go_wp2
            go_roundw
            case rel => exact ⟨to', done ++ [(s + fr, piece)], by omega, by omega, rfl, hown10, HNX, by show _ ≤ _; have := hdl.out; simp; omega, hbw9⟩
            case measure => simp [intOf]; omega
    · have hke : fr = L.length := by omega
      subst hke
      have hge : ¬ ((L.length : Int) < (L.length : Int)) := by omega
      have HE : Hid (P = done) := by show _ = _; rw [hPd.out, List.drop_length]; simp [own]
      clear hPd hdl
      go_wp2
      go_ret
      refine ⟨_, rfl, ?_, hBo⟩
      rw [HE.out]
      refine ⟨hown.1, ?_⟩
      rcases hown.2 with h | ⟨g', cap', cur, h1, h2, h3⟩
      · exact .inl h
      · exact .inr ⟨g', cap', cur, h1, by omega, h3⟩

end Go.Proofs.Ytpajdmhakdbkjaa
