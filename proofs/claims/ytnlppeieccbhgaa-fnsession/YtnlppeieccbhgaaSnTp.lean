/- The program's: a packet is taken. -/
import Derived.Test.YtnlppeieccbhgaaSnTk
namespace Go.Proofs.Ytnlppeieccbhgaa
open Go.RowKit Plain Tpc Ssn

set_option maxRecDepth 100000 in
set_option maxHeartbeats 16000000 in
theorem takePacketE_any (s : Ses) (e B : Nat) (vi vw va : Value) (k : Int) (w : World) (h : Ex w e B s vi vw va) (hg : Gd s) :
    Calls Try.prog 100 #[.pointer (some ⟨e, 0, none⟩), .int .i64 k] w fun r w' => r = .returned (.bool (inW s k)) ∧ ∃ v8 v9, Ex w' e B (if inW s k = true then takeS s k else s) vi v8 v9 ∧ Tch w w' (PX e vi vw va) (PX e vi v8 v9) := by
  have CA := takePk_any s e B vi vw va k w h hg
  have hel := h.v.low
  by_cases hin : inW s k = true
  · rw [hin] at CA ⊢
    rw [if_pos rfl, if_pos rfl] at CA
    rw [if_pos rfl]
    have hA : Hid (takeS s k = come { s with way := outP s.way k.toNat } (pk s.way k.toNat)) := rfl
    obtain ⟨S1, hS1⟩ : ∃ S, S = ({ s with way := outP s.way k.toNat } : Ses) := ⟨_, rfl⟩
    have e1 : S1.ep = s.ep := by rw [hS1]
    have e2 : S1.acks.length ≤ 12 := by rw [hS1]; exact hg.al
    have e3 : S1.handed.length ≤ 30 := by rw [hS1]; exact Nat.le_trans hg.hl hg.il
    rw [← hS1] at CA hA
    generalize pk s.way k.toNat = p at CA hA
    obtain ⟨pe, pn, pt⟩ := p
    rw [show (Pk.mk pe pn pt).val = .agg #[.int .i64 pe, .int .i64 pn, .string pt] from rfl] at CA
    clear h hg hin hS1 e1
    by_cases hp : pe = S1.ep
    · subst hp
      have hpq : (S1.ep != S1.ep) = false := by simp
      by_cases hn : pn = (S1.handed.length : Int)
      · subst hn
        have hnq : ((S1.handed.length : Int) == (S1.handed.length : Int)) = true := by simp
        have HQ : Hid (come S1 ⟨S1.ep, (S1.handed.length : Int), pt⟩ = if S1.acks.length < 12 then { S1 with handed := S1.handed ++ [pt], acks := S1.acks ++ [⟨S1.ep, ((S1.handed ++ [pt]).length : Int)⟩] } else { S1 with handed := S1.handed ++ [pt] }) := by
          show _ = _
          unfold come
          rw [if_pos rfl, if_pos rfl]
          split <;> rfl
        obtain ⟨pe, hpe⟩ : ∃ x, x = S1.ep := ⟨_, rfl⟩
        obtain ⟨pn, hpn⟩ : ∃ x : Int, x = (S1.handed.length : Int) := ⟨_, rfl⟩
        rw [← hpe] at hpq
        rw [← hpn] at hnq
        rw [← hpe, ← hpn] at CA
        have HPE : Hid (pe = S1.ep) := hpe
        have HPN : Hid (pn = (S1.handed.length : Int)) := hpn
        clear hpe hpn
        go_enter Try.func100, Try.ntmps100
        go_wp2_with fail
        go_at_call 101
        refine CA.mono ?_
        rintro r w2 ⟨rfl, v9, hE, hT⟩
        obtain ⟨W3, hW3⟩ : ∃ W, W = w2.alloc (.cells #[.int .i64 pe, .int .i64 pn, .string pt] 84) := ⟨_, rfl⟩
        have hb3 : Below w2.heap.size w2 W3 := by rw [hW3]; exact (Below.refl _ w2).alloc (Nat.le_refl _) _
        have HE3 : Hid (Ex W3 e B S1 vi v9 va) := hE.below hb3
        have HT3 : Hid (Tch w W3 (PX e vi vw va) (PX e vi v9 va)) := hT.belowR hb3
        have hN0 : W3.cell? ⟨w2.heap.size, 0, none⟩ = some (.int .i64 pe) := by rw [hW3]; simp
        have hN1 : W3.cell? ⟨w2.heap.size, 1, none⟩ = some (.int .i64 pn) := by rw [hW3]; simp
        have hNl : w2.heap.size < W3.heap.size := by rw [hW3]; simp
        have HPC : Hid (∀ W, Below W3.heap.size W3 W → W.cell? ⟨w2.heap.size, 0, none⟩ = some (.int .i64 pe) ∧ W.cell? ⟨w2.heap.size, 1, none⟩ = some (.int .i64 pn)) := fun W hW => ⟨(hW.cell (p := ⟨w2.heap.size, 0, none⟩) hNl).trans hN0, (hW.cell (p := ⟨w2.heap.size, 1, none⟩) hNl).trans hN1⟩
        have hD1 : Below W3.heap.size W3 W3.drew := (Below.refl _ W3).drew
        have hD2 : Below W3.heap.size W3 W3.drew.drew := hD1.drew
        have hel2 : e ≠ w2.heap.size := fun q => by have := hE.v.low; omega
        obtain ⟨y0, y1⟩ := HPC.out _ hD1
        obtain ⟨z0, z1⟩ := HPC.out _ hD2
        have C0 : Hid (Calls Try.prog 80 #[.pointer (some ⟨e, 0, none⟩)] W3.drew fun r w' => r = .returned (.int .i64 S1.ep) ∧ w' = W3.drew) := now_any e 0 S1.ep _ (HE3.out.below hD1).v.c0
        have C2 : Hid (Calls Try.prog 80 #[.pointer (some ⟨e, 2, none⟩)] W3.drew.drew fun r w' => r = .returned (.int .i64 (S1.handed.length : Int)) ∧ w' = W3.drew.drew) := now_any e 2 _ _ (HE3.out.below hD2).v.c2
        rw [← HPE.out] at C0
        rw [← HPN.out] at C2
        have CR : Hid (Calls Try.prog 112 #[.pointer (some ⟨e, 2, none⟩)] W3.drew.drew fun r w' => r = .returned (.tuple #[]) ∧ w' = W3.drew.drew.setCell ⟨e, 2, none⟩ (.int .i64 ((S1.handed.length : Int) + 1))) := rise_any e 2 _ _ (HE3.out.below hD2).v.c2 (HE3.out.below hD2).v.f2 (by omega) (by omega)
        obtain ⟨W6, hW6⟩ : ∃ W, W = W3.drew.drew.setCell ⟨e, 2, none⟩ (.int .i64 ((S1.handed.length : Int) + 1)) := ⟨_, rfl⟩
        rw [← hW6] at CR
        have HE6 : Hid (Ex W6 e B { S1 with handed := S1.handed ++ [pt] } vi v9 va) := by
          have E2 := HE3.out.below hD2
          rw [hW6]
          refine ⟨?_, SesRow.setC E2.r E2.n, E2.n, E2.b⟩
          have v := E2.v.set2 (.int .i64 ((S1.handed.length : Int) + 1))
          rw [show ((S1.handed.length : Int) + 1) = ((S1.handed ++ [pt]).length : Int) by simp] at v ⊢
          exact v
        have HT6 : Hid (Tch w W6 (PX e vi vw va) (PX e vi v9 va)) := by rw [hW6]; exact (HT3.out.belowR hD2).setE
        have q0 : W6.cell? ⟨w2.heap.size, 0, none⟩ = some (.int .i64 pe) := by rw [hW6]; exact (World.cell?_setCell_other _ _ _ _ (fun q => by have := congrArg Addr.block q; simp at this; omega)).trans z0
        have hD6 : Below W6.heap.size W6 W6.drew := (Below.refl _ W6).drew
        have q0d : W6.drew.cell? ⟨w2.heap.size, 0, none⟩ = some (.int .i64 pe) := q0
        have C2' : Hid (Calls Try.prog 80 #[.pointer (some ⟨e, 2, none⟩)] W6.drew fun r w' => r = .returned (.int .i64 ((S1.handed ++ [pt]).length : Int)) ∧ w' = W6.drew) := now_any e 2 _ _ (HE6.out.below hD6).v.c2
        have CP : Hid (Calls Try.prog 113 #[.pointer (some ⟨e, 5, none⟩), .agg #[.int .i64 pe, .int .i64 ((S1.handed ++ [pt]).length : Int)]] W6.drew fun r w' => (∃ tt : Bool, r = .returned (.bool tt)) ∧ Hid (∃ v8, Ex w' e B (if S1.acks.length < 12 then { S1 with handed := S1.handed ++ [pt], acks := S1.acks ++ [⟨S1.ep, ((S1.handed ++ [pt]).length : Int)⟩] } else { S1 with handed := S1.handed ++ [pt] }) vi v9 v8 ∧ Tch W6.drew w' (PX e vi v9 va) (PX e vi v9 v8))) := by
          rw [HPE.out]
          exact (putAk_any { S1 with handed := S1.handed ++ [pt] } ⟨S1.ep, ((S1.handed ++ [pt]).length : Int)⟩ e B vi v9 va W6.drew (HE6.out.below hD6) e2).mono fun r w' hh => ⟨⟨_, hh.1⟩, hh.2⟩
        have HFIN : Hid (∀ W v8, Ex W e B (if S1.acks.length < 12 then { S1 with handed := S1.handed ++ [pt], acks := S1.acks ++ [⟨S1.ep, ((S1.handed ++ [pt]).length : Int)⟩] } else { S1 with handed := S1.handed ++ [pt] }) vi v9 v8 → Ex W e B (takeS s k) vi v9 v8) := fun W v8 h => by
          have eq := HQ.out
          rw [hA.out]
          exact (congrArg (fun S => Ex W e B S vi v9 v8) eq).mpr h
        generalize ((S1.handed ++ [pt]).length : Int) = hl9 at C2' CP HFIN
        clear CA hE hT hb3 hN0 hN1 hW6
        go_upto_region 2 with fail
        rw [← hW3]
        clear hW3
        go_region_with (go_at_call 80; (with_reducible refine C0.out.mono ?_); rintro r w4 ⟨rfl, rfl⟩)
        all_goals
          go_upto_region 4 with fail
          (try simp only [Act.put, List.setIfInBounds_toArray, List.set_cons_zero, List.set_cons_succ, List.getElem_toArray, List.getElem_cons_zero, List.getElem_cons_succ])
          go_region_with (go_at_call 80; (with_reducible refine C2.out.mono ?_); rintro r w4 ⟨rfl, rfl⟩)
          all_goals
            go_wp2_with fail
            go_at_call 112
            refine CR.out.mono ?_
            rintro r w5 ⟨rfl, hw5⟩
            have hw5 := hw5.symm
            subst hw5
            go_upto_region 6 with fail
            (try simp only [Act.put, List.setIfInBounds_toArray, List.set_cons_zero, List.set_cons_succ, List.getElem_toArray, List.getElem_cons_zero, List.getElem_cons_succ])
            go_region_law (first | (go_simp; go_at_call 80; (with_reducible refine C2'.out.mono ?_); rintro r w7 ⟨rfl, rfl⟩) | (go_simp; go_at_call 113; (with_reducible refine CP.out.mono ?_); rintro r w8 ⟨⟨tt, rfl⟩, HE8⟩))
            all_goals
              go_wp2_with fail
              go_ret
              obtain ⟨v8, hE8, hT8⟩ := HE8.out
              refine ⟨rfl, v9, v8, ?_, (HT6.out.belowR hD6).trans hT8⟩
              exact HFIN.out _ _ hE8
      · have hnq : (pn == (S1.handed.length : Int)) = false := by simpa using hn
        have HQ : Hid (come S1 ⟨S1.ep, pn, pt⟩ = if S1.acks.length < 12 then { S1 with acks := S1.acks ++ [⟨S1.ep, (S1.handed.length : Int)⟩] } else S1) := by
          show _ = _
          unfold come
          rw [if_pos rfl, if_neg hn]
          split <;> rfl
        obtain ⟨pe, hpe⟩ : ∃ x, x = S1.ep := ⟨_, rfl⟩
        rw [← hpe] at hpq CA
        have HPE : Hid (pe = S1.ep) := hpe
        clear hpe hn
        go_enter Try.func100, Try.ntmps100
        go_wp2_with fail
        go_at_call 101
        refine CA.mono ?_
        rintro r w2 ⟨rfl, v9, hE, hT⟩
        obtain ⟨W3, hW3⟩ : ∃ W, W = w2.alloc (.cells #[.int .i64 pe, .int .i64 pn, .string pt] 84) := ⟨_, rfl⟩
        have hb3 : Below w2.heap.size w2 W3 := by rw [hW3]; exact (Below.refl _ w2).alloc (Nat.le_refl _) _
        have HE3 : Hid (Ex W3 e B S1 vi v9 va) := hE.below hb3
        have HT3 : Hid (Tch w W3 (PX e vi vw va) (PX e vi v9 va)) := hT.belowR hb3
        have hN0 : W3.cell? ⟨w2.heap.size, 0, none⟩ = some (.int .i64 pe) := by rw [hW3]; simp
        have hN1 : W3.cell? ⟨w2.heap.size, 1, none⟩ = some (.int .i64 pn) := by rw [hW3]; simp
        have hNl : w2.heap.size < W3.heap.size := by rw [hW3]; simp
        have HPC : Hid (∀ W, Below W3.heap.size W3 W → W.cell? ⟨w2.heap.size, 0, none⟩ = some (.int .i64 pe) ∧ W.cell? ⟨w2.heap.size, 1, none⟩ = some (.int .i64 pn)) := fun W hW => ⟨(hW.cell (p := ⟨w2.heap.size, 0, none⟩) hNl).trans hN0, (hW.cell (p := ⟨w2.heap.size, 1, none⟩) hNl).trans hN1⟩
        have hD1 : Below W3.heap.size W3 W3.drew := (Below.refl _ W3).drew
        have hD2 : Below W3.heap.size W3 W3.drew.drew := hD1.drew
        have hel2 : e ≠ w2.heap.size := fun q => by have := hE.v.low; omega
        obtain ⟨y0, y1⟩ := HPC.out _ hD1
        obtain ⟨z0, z1⟩ := HPC.out _ hD2
        have C0 : Hid (Calls Try.prog 80 #[.pointer (some ⟨e, 0, none⟩)] W3.drew fun r w' => r = .returned (.int .i64 S1.ep) ∧ w' = W3.drew) := now_any e 0 S1.ep _ (HE3.out.below hD1).v.c0
        have C2 : Hid (Calls Try.prog 80 #[.pointer (some ⟨e, 2, none⟩)] W3.drew.drew fun r w' => r = .returned (.int .i64 (S1.handed.length : Int)) ∧ w' = W3.drew.drew) := now_any e 2 _ _ (HE3.out.below hD2).v.c2
        rw [← HPE.out] at C0
        have hD3 : Below W3.heap.size W3 W3.drew.drew.drew := hD2.drew
        obtain ⟨q0, -⟩ := HPC.out _ hD3
        have C2' : Hid (Calls Try.prog 80 #[.pointer (some ⟨e, 2, none⟩)] W3.drew.drew.drew fun r w' => r = .returned (.int .i64 (S1.handed.length : Int)) ∧ w' = W3.drew.drew.drew) := now_any e 2 _ _ (HE3.out.below hD3).v.c2
        have CP : Hid (Calls Try.prog 113 #[.pointer (some ⟨e, 5, none⟩), .agg #[.int .i64 pe, .int .i64 (S1.handed.length : Int)]] W3.drew.drew.drew fun r w' => (∃ tt : Bool, r = .returned (.bool tt)) ∧ Hid (∃ v8, Ex w' e B (if S1.acks.length < 12 then { S1 with acks := S1.acks ++ [⟨S1.ep, (S1.handed.length : Int)⟩] } else S1) vi v9 v8 ∧ Tch W3.drew.drew.drew w' (PX e vi v9 va) (PX e vi v9 v8))) := by
          rw [HPE.out]
          exact (putAk_any S1 ⟨S1.ep, (S1.handed.length : Int)⟩ e B vi v9 va W3.drew.drew.drew (HE3.out.below hD3) e2).mono fun r w' hh => ⟨⟨_, hh.1⟩, hh.2⟩
        clear CA hE hT hb3 hN0 hN1
        have HFIN : Hid (∀ W v8, Ex W e B (if S1.acks.length < 12 then { S1 with acks := S1.acks ++ [⟨S1.ep, (S1.handed.length : Int)⟩] } else S1) vi v9 v8 → Ex W e B (takeS s k) vi v9 v8) := fun W v8 h => by
          have eq := HQ.out
          rw [hA.out]
          exact (congrArg (fun S => Ex W e B S vi v9 v8) eq).mpr h
        go_upto_region 2 with fail
        rw [← hW3]
        clear hW3
        go_region_with (go_at_call 80; (with_reducible refine C0.out.mono ?_); rintro r w4 ⟨rfl, rfl⟩)
        all_goals
          go_upto_region 4 with fail
          (try simp only [Act.put, List.setIfInBounds_toArray, List.set_cons_zero, List.set_cons_succ, List.getElem_toArray, List.getElem_cons_zero, List.getElem_cons_succ])
          go_region_with (go_at_call 80; (with_reducible refine C2.out.mono ?_); rintro r w4 ⟨rfl, rfl⟩)
          all_goals
            go_upto_region 6 with fail
            (try simp only [Act.put, List.setIfInBounds_toArray, List.set_cons_zero, List.set_cons_succ, List.getElem_toArray, List.getElem_cons_zero, List.getElem_cons_succ])
            go_region_law (first | (go_simp; go_at_call 80; (with_reducible refine C2'.out.mono ?_); rintro r w7 ⟨rfl, rfl⟩) | (go_simp; go_at_call 113; (with_reducible refine CP.out.mono ?_); rintro r w8 ⟨⟨tt, rfl⟩, HE8⟩))
            all_goals
              go_wp2_with fail
              go_ret
              obtain ⟨v8, hE8, hT8⟩ := HE8.out
              refine ⟨rfl, v9, v8, ?_, (HT3.out.belowR hD3).trans hT8⟩
              exact HFIN.out _ _ hE8
    · have hpq : (pe != S1.ep) = true := by simpa using hp
      have HQ : Hid (come S1 ⟨pe, pn, pt⟩ = S1) := by show _ = _; unfold come; rw [if_neg hp]
      clear hp
      go_enter Try.func100, Try.ntmps100
      go_wp2_with fail
      go_at_call 101
      refine CA.mono ?_
      rintro r w2 ⟨rfl, v9, hE, hT⟩
      obtain ⟨W3, hW3⟩ : ∃ W, W = w2.alloc (.cells #[.int .i64 pe, .int .i64 pn, .string pt] 84) := ⟨_, rfl⟩
      have hb3 : Below w2.heap.size w2 W3 := by rw [hW3]; exact (Below.refl _ w2).alloc (Nat.le_refl _) _
      have HE3 : Hid (Ex W3 e B S1 vi v9 va) := hE.below hb3
      have HT3 : Hid (Tch w W3 (PX e vi vw va) (PX e vi v9 va)) := hT.belowR hb3
      have hN0 : W3.cell? ⟨w2.heap.size, 0, none⟩ = some (.int .i64 pe) := by rw [hW3]; simp
      have hN1 : W3.cell? ⟨w2.heap.size, 1, none⟩ = some (.int .i64 pn) := by rw [hW3]; simp
      have hNl : w2.heap.size < W3.heap.size := by rw [hW3]; simp
      have HPC : Hid (∀ W, Below W3.heap.size W3 W → W.cell? ⟨w2.heap.size, 0, none⟩ = some (.int .i64 pe) ∧ W.cell? ⟨w2.heap.size, 1, none⟩ = some (.int .i64 pn)) := fun W hW => ⟨(hW.cell (p := ⟨w2.heap.size, 0, none⟩) hNl).trans hN0, (hW.cell (p := ⟨w2.heap.size, 1, none⟩) hNl).trans hN1⟩
      have hD1 : Below W3.heap.size W3 W3.drew := (Below.refl _ W3).drew
      have hD2 : Below W3.heap.size W3 W3.drew.drew := hD1.drew
      have hel2 : e ≠ w2.heap.size := fun q => by have := hE.v.low; omega
      obtain ⟨y0, y1⟩ := HPC.out _ hD1
      obtain ⟨z0, z1⟩ := HPC.out _ hD2
      have C0 : Hid (Calls Try.prog 80 #[.pointer (some ⟨e, 0, none⟩)] W3.drew fun r w' => r = .returned (.int .i64 S1.ep) ∧ w' = W3.drew) := now_any e 0 S1.ep _ (HE3.out.below hD1).v.c0
      have C2 : Hid (Calls Try.prog 80 #[.pointer (some ⟨e, 2, none⟩)] W3.drew.drew fun r w' => r = .returned (.int .i64 (S1.handed.length : Int)) ∧ w' = W3.drew.drew) := now_any e 2 _ _ (HE3.out.below hD2).v.c2
      clear CA hE hT hb3 hN0 hN1
      go_upto_region 2 with fail
      rw [← hW3]
      clear hW3
      go_region_with (go_at_call 80; (with_reducible refine C0.out.mono ?_); rintro r w4 ⟨rfl, rfl⟩)
      all_goals
        go_wp2_with fail
        go_ret
        rw [hA.out, HQ.out]
        exact ⟨rfl, _, _, HE3.out.below hD1, HT3.out.belowR hD1⟩
  · have hinF : inW s k = false := by simpa using hin
    rw [hinF] at CA ⊢
    rw [if_neg (by decide), if_neg (by decide)] at CA
    rw [if_neg (by decide)]
    clear h hg hin hinF
    go_enter Try.func100, Try.ntmps100
    go_wp2_with fail
    go_at_call 101
    refine CA.mono ?_
    rintro r w2 ⟨rfl, v9, hE, hT⟩
    have HE : Hid (type_of% hE) := hE
    have HT : Hid (type_of% hT) := hT
    have HB : Hid (∀ o, Below w2.heap.size w2 (w2.alloc o)) := fun o => (Below.refl _ w2).alloc (Nat.le_refl _) _
    clear hE hT
    go_wp2_with fail
    go_quiet (fail)
    go_wp2_with fail
    go_ret
    exact ⟨rfl, _, _, HE.out.below (below_drewN (HB.out _)), HT.out.belowR (below_drewN (HB.out _))⟩

end Go.Proofs.Ytnlppeieccbhgaa
