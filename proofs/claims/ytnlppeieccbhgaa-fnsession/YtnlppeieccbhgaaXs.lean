/- The program's: an item is pushed. The program's: an ack is taken. -/
import Derived.Test.YtnlppeieccbhgaaSnX
import Derived.Test.YtnlppeieccbhgaaSnJ
import Derived.Test.YtnlppeieccbhgaaXn
import Derived.Test.YtnlppeieccbhgaaSnTk
namespace Go.Proofs.Ytnlppeieccbhgaa
open Go.RowKit Plain Tpc Ssn

theorem push_end {w W1 w9 : World} {e B g9 cap9 : Nat} {s : Ses} {t : ByteArray} {vi vw va : Value} {o : Obj} (h : Ex w e B s vi vw va) (hb : Below w.heap.size w W1)
    (hown9 : w9.ownsRow B 9 1 (.slice (some ⟨g9, 0, none⟩) (s.items.length + 1) cap9) (s.items.length + 1) (strs s.items ++ [Value.string t])) (hgrow9 : (W1.alloc o).grownBy w9 vi.ownBlock) (hat9 : vi.ownBlock = some g9 ∨ g9 = W1.heap.size + 1) :
    Ex (w9.setCell ⟨e, 3, none⟩ (.slice (some ⟨g9, 0, none⟩) (s.items.length + 1) cap9)) e B (pushS s t) (.slice (some ⟨g9, 0, none⟩) (s.items.length + 1) cap9) vw va ∧ Tch w (w9.setCell ⟨e, 3, none⟩ (.slice (some ⟨g9, 0, none⟩) (s.items.length + 1) cap9)) (PX e vi vw va) (PX e (.slice (some ⟨g9, 0, none⟩) (s.items.length + 1) cap9) vw va) := by
  have h1 := h.below hb
  obtain ⟨r9, t9⟩ := SesRow.appI (x := t) h1.r hown9 rfl hgrow9 hat9
  have n9 := t9.avoid h1.v.low h1.n
  have v9 := h1.v.step t9 h1.n
  refine ⟨⟨v9.set3 _, ?_, n9, h.b⟩, ((Tch.of_below hb).trans t9.px).setE⟩
  exact SesRow.setC r9 n9

set_option maxRecDepth 100000 in
set_option maxHeartbeats 4000000 in
theorem push_any (s : Ses) (t : ByteArray) (e B : Nat) (vi vw va : Value) (w : World) (h : Ex w e B s vi vw va) (hg : Gd s) (ht : t.size ≤ 9223372036854775807) :
    Calls Try.prog 99 #[.pointer (some ⟨e, 0, none⟩), .string t] w fun r w' => r = .returned (.bool (pushK s t)) ∧ ∃ v9, Ex w' e B (if pushK s t = true then pushS s t else s) v9 vw va ∧ Tch w w' (PX e vi vw va) (PX e v9 vw va) := by
  have HX : Hid (Ex w e B s vi vw va) := h
  have HROW := h.r.i
  obtain ⟨ar, cr, rfl⟩ := StRow.slice HROW
  obtain ⟨aq, cq, hq, hlr, hcr, _⟩ := h.r.at.i
  simp only [Value.slice.injEq] at hq
  obtain ⟨rfl, -, rfl⟩ := hq
  dsimp only at hlr hcr HROW
  have x3 := h.v.c3
  have hil : s.items.length ≤ 30 := hg.il
  by_cases h30 : s.items.length = 30
  · have hK : pushK s t = false := by
      unfold pushK
      rw [show decide (s.items.length < 30) = false from decide_eq_false (by omega)]
      simp
    have h30' : ((s.items.length : Int) == 30) = true := by simp; omega
    rw [hK, if_neg (by decide)]
    clear h hg h30
    go_enter Try.func99, Try.ntmps99
    go_wp2_with fail
    go_ret
    exact ⟨rfl, _, HX.out, .refl _ _⟩
  · have h30' : ((s.items.length : Int) == 30) = false := by simp; omega
    obtain ⟨W0, hW0⟩ : ∃ W, W = w.alloc (.cells #[.string t] 9) := ⟨_, rfl⟩
    have hb0 : Below w.heap.size w W0 := by rw [hW0]; exact (Below.refl _ _).alloc (Nat.le_refl _) _
    have HB0 : Hid (type_of% hb0) := hb0
    have CT : Calls Try.prog 48 #[.int .i64 0, .int .i64 20, .slice (some ⟨w.heap.size, 0, none⟩) 1 1] W0 fun e w' => e = .returned (.bool (decide (t.size ≤ 20))) ∧ w' = W0 := by
      have h := haveBytes_any 0 20 [t] _ W0 (by rw [hW0]; exact one_text t w) (fun i hi => by
        obtain rfl : i = 0 := by simpa using hi
        simpa [lq] using ht) (by simp)
      rw [hv20] at h
      simpa using h
    by_cases h20 : t.size ≤ 20
    · have hK : pushK s t = true := by
        unfold pushK
        rw [decide_eq_true h20, show decide (s.items.length < 30) = true from decide_eq_true (by omega)]; rfl
      rw [decide_eq_true h20] at CT
      rw [hK, if_pos rfl]
      obtain ⟨i0, hi, hz0, hz1, hz2⟩ := info_parts infoStr
      have V := h.v.below hb0
      have x4 := V.c3
      have f4 := V.f3
      have hlow := V.low
      have hbB := h.b
      have HS1 : Hid (W0.heap.size = w.heap.size + 1) := by show _ = _; rw [hW0]; simp
      have HO1 : Hid (W0.ownsRow B 9 1 (.slice ar s.items.length cr) s.items.length (strs s.items)) := (h.below hb0).r.i
      unfold maxLen at hcr
      have S1a : ∀ o, (W0.alloc o).cell? ⟨e, 3, none⟩ = some (.slice ar s.items.length cr) := fun o => (((Below.refl W0.heap.size W0).alloc (Nat.le_refl _) o).cell (p := ⟨e, 3, none⟩) hlow).trans x4
      have f1a : ∀ o, (W0.alloc o).frozen? ⟨e, 3, none⟩ = false := fun o => (((Below.refl W0.heap.size W0).alloc (Nat.le_refl _) o).frozen (p := ⟨e, 3, none⟩) hlow).trans f4
      have hne0 : some e ≠ (Value.slice ar s.items.length cr).ownBlock := fun q => HX.out.n (.inl q.symm)
      clear V h hg HROW hK h20 hb0
      go_enter Try.func99, Try.ntmps99
      go_wp2_with fail
      rw [← hW0]
      clear hW0
      go_at_call 48
      refine CT.mono ?_
      rintro r w2 ⟨rfl, hw2⟩
      have hw2 := hw2.symm
      subst hw2
      go_wp2_with (at_builtin; refine wpList_append_lies _ rfl _ _ 22 rfl B 9 i0 (.string ByteArray.empty) 1 16 Try.underlying22 hi hz0 hz1 hz2 rfl (by decide) _ s.items.length _ rfl (World.ownsRow.alloc HO1.out _) ⟨W0.heap.size, 0, none⟩ 1 1 ([Value.string t]) rfl rfl (World.news_of_block (heap_alloc_new W0 _)) (by intro u hu; simp at hu; subst hu; rfl) (by omega) (by unfold maxLen; omega) (by omega) (by simp; omega) (W0.heap.size + 1) (by simp) ?_; intro g9 cap9 w9 hown9 hgrow9 hat9 hlt9; have c9 : w9.cell? ⟨e, 3, none⟩ = some (.slice ar s.items.length cr) := (hgrow9.cell_far ⟨e, 3, none⟩ (by simp; omega) hne0).trans (S1a _); have z9 : w9.frozen? ⟨e, 3, none⟩ = false := (World.frozen?_of_block (hgrow9.block e (by simp; omega) hne0)).trans (f1a _); have hend := push_end HX.out HB0.out hown9 hgrow9 hat9; have HEND : Hid (type_of% hend) := hend; clear hend hown9 hgrow9 hat9)
      go_ret
      exact ⟨rfl, _, HEND.out⟩
    · have hK : pushK s t = false := by
        unfold pushK
        rw [decide_eq_false h20]
        rfl
      rw [decide_eq_false h20] at CT
      rw [hK, if_neg (by decide)]
      clear h hg hb0 h20
      go_enter Try.func99, Try.ntmps99
      go_wp2_with fail
      rw [← hW0]
      clear hW0
      go_at_call 48
      refine CT.mono ?_
      rintro r w2 ⟨rfl, hw2⟩
      have hw2 := hw2.symm
      subst hw2
      go_wp2_with fail
      go_ret
      exact ⟨rfl, _, HX.out.below HB0.out, .of_below HB0.out⟩

end Go.Proofs.Ytnlppeieccbhgaa

namespace Go.Proofs.Ytnlppeieccbhgaa
open Go.RowKit Plain Tpc Ssn

set_option maxRecDepth 100000 in
set_option maxHeartbeats 4000000 in
theorem takeAckE_any (s : Ses) (e B : Nat) (vi vw va : Value) (k : Int) (w : World) (h : Ex w e B s vi vw va) (hg : Gd s) :
    Calls Try.prog 104 #[.pointer (some ⟨e, 0, none⟩), .int .i64 k] w fun r w' => r = .returned (.bool (inA s k)) ∧ ∃ v9, Ex w' e B (if inA s k = true then ackS s k else s) vi vw v9 ∧ Tch w w' (PX e vi vw va) (PX e vi vw v9) := by
  have CA := takeAk_any s e B vi vw va k w h hg
  have hel := h.v.low
  by_cases hin : inA s k = true
  · rw [hin] at CA ⊢
    rw [if_pos rfl, if_pos rfl] at CA
    rw [if_pos rfl]
    have hA : Hid (ackS s k = { s with acks := outA s.acks k.toNat, base := raise s.base s (ak s.acks k.toNat) }) := rfl
    generalize outA s.acks k.toNat = L9 at CA hA
    generalize ak s.acks k.toNat = a at CA hA
    obtain ⟨pa, pb⟩ := a
    rw [show (Ak.mk pa pb).val = .agg #[.int .i64 pa, .int .i64 pb] from rfl] at CA
    clear h hg hin
    by_cases hp : pa = s.ep
    · subst hp
      have hpq : (s.ep == s.ep) = true := by simp
      go_enter Try.func104, Try.ntmps104
      go_wp2_with fail
      go_at_call 115
      refine CA.mono ?_
      rintro r w2 ⟨rfl, v9, hE, hT⟩
      have HE : Hid (type_of% hE) := hE
      have HT : Hid (type_of% hT) := hT
      have HB : Hid (∀ o, Below w2.heap.size w2 (w2.alloc o)) := fun o => (Below.refl _ w2).alloc (Nat.le_refl _) _
      have CN : Hid (∀ o, Calls Try.prog 80 #[.pointer (some ⟨e, 0, none⟩)] (w2.alloc o).drew fun r w' => r = .returned (.int .i64 s.ep) ∧ w' = (w2.alloc o).drew) := fun o => now_any e 0 s.ep _ (HE.out.v.below (HB.out o).drew).c0
      have HEND : Hid (∀ o w5, (w5 = if s.base < pb then (w2.alloc o).drew.drew.setCell ⟨e, 1, none⟩ (.int .i64 pb) else (w2.alloc o).drew.drew) → Ex w5 e B { s with acks := L9, base := raise s.base s ⟨s.ep, pb⟩ } vi vw v9 ∧ Tch w w5 (PX e vi vw va) (PX e vi vw v9)) := fun o w5 h5 => by
        have E2 := HE.out.below (HB.out o).drew.drew
        have T2 := HT.out.belowR (HB.out o).drew.drew
        by_cases hb : s.base < pb
        · rw [if_pos hb] at h5
          subst h5
          rw [show raise s.base s ⟨s.ep, pb⟩ = pb from if_pos ⟨rfl, hb⟩]
          exact ⟨⟨E2.v.set1 _, SesRow.retag (SesRow.setC E2.r E2.n) rfl rfl rfl rfl, E2.n, E2.b⟩, T2.setE⟩
        · rw [if_neg hb] at h5
          subst h5
          rw [show raise s.base s ⟨s.ep, pb⟩ = s.base from if_neg (fun q => hb q.2)]
          exact ⟨E2, T2⟩
      have CR : Hid (∀ o, Calls Try.prog 98 #[.pointer (some ⟨e, 1, none⟩), .int .i64 pb] (w2.alloc o).drew.drew fun r w' => r = .returned (.tuple #[]) ∧ Hid (Ex w' e B { s with acks := L9, base := raise s.base s ⟨s.ep, pb⟩ } vi vw v9 ∧ Tch w w' (PX e vi vw va) (PX e vi vw v9))) := fun o => (raiseTo_any e 1 s.base pb _ (HE.out.v.below (HB.out o).drew.drew).c1 (HE.out.v.below (HB.out o).drew.drew).f1).mono fun r w5 h5 => ⟨h5.1, HEND.out o w5 h5.2⟩
      clear hE hT
      go_wp2_with fail
      go_region_with (go_at_call 80; (with_reducible refine (CN.out _).mono ?_); rintro r w4 ⟨rfl, rfl⟩)
      all_goals
        go_upto_region 3 with fail
        simp only [Act.put, List.setIfInBounds_toArray, List.set_cons_zero, List.set_cons_succ, List.getElem_toArray, List.getElem_cons_zero, List.getElem_cons_succ]
        go_region_with (go_at_call 98; (with_reducible refine (CR.out _).mono ?_); rintro r w5 ⟨rfl, HE5⟩)
        all_goals
          go_wp2_with fail
          go_ret
          rw [hA.out]
          exact ⟨rfl, _, HE5.out⟩
    · have hpq : (pa == s.ep) = false := by simpa using hp
      have hA2 : Hid (ackS s k = { s with acks := L9 }) := by
        show _ = _
        rw [hA.out]
        unfold raise
        rw [if_neg (fun q => hp q.1)]
      clear hA hp
      go_enter Try.func104, Try.ntmps104
      go_wp2_with fail
      go_at_call 115
      refine CA.mono ?_
      rintro r w2 ⟨rfl, v9, hE, hT⟩
      have HE : Hid (type_of% hE) := hE
      have HT : Hid (type_of% hT) := hT
      have HB : Hid (∀ o, Below w2.heap.size w2 (w2.alloc o)) := fun o => (Below.refl _ w2).alloc (Nat.le_refl _) _
      have CN : Hid (∀ o, Calls Try.prog 80 #[.pointer (some ⟨e, 0, none⟩)] (w2.alloc o).drew fun r w' => r = .returned (.int .i64 s.ep) ∧ w' = (w2.alloc o).drew) := fun o => now_any e 0 s.ep _ (HE.out.v.below (HB.out o).drew).c0
      clear hE hT
      go_wp2_with fail
      go_region_with (go_at_call 80; (with_reducible refine (CN.out _).mono ?_); rintro r w4 ⟨rfl, rfl⟩)
      all_goals
        go_wp2_with fail
        go_ret
        rw [hA2.out]
        exact ⟨rfl, _, HE.out.below (HB.out _).drew, HT.out.belowR (HB.out _).drew⟩
  · have hinF : inA s k = false := by simpa using hin
    rw [hinF] at CA ⊢
    rw [if_neg (by decide), if_neg (by decide)] at CA
    rw [if_neg (by decide)]
    clear h hg hin hinF
    go_enter Try.func104, Try.ntmps104
    go_wp2_with fail
    go_at_call 115
    refine CA.mono ?_
    rintro r w2 ⟨rfl, v9, hE, hT⟩
    have HE : Hid (type_of% hE) := hE
    have HT : Hid (type_of% hT) := hT
    have HB : Hid (∀ o, Below w2.heap.size w2 (w2.alloc o)) := fun o => (Below.refl _ w2).alloc (Nat.le_refl _) _
    clear hE hT
    go_wp2_with fail
    go_quiet (fail)
    go_wp2_with fail
    go_ret
    exact ⟨rfl, _, HE.out.below (below_drewN (HB.out _)), HT.out.belowR (below_drewN (HB.out _))⟩

end Go.Proofs.Ytnlppeieccbhgaa
