/- The types that the model draws: typeOf, from what it draws one step less deep. -/
import Derived.Test.YtjaklpibjijkkaaDrwA
namespace Go.Proofs.Ytjaklpibjijkkaa
open Go.RowKit Plain Sch

def TypOK (d : Nat) : Prop := ∀ (b m : Nat) (w : World), Cur w b m → m + stT d ≤ 900000000 → Calls Try.prog 89 #[.pointer (some ⟨b, 0, none⟩), .int .i64 (d : Int)] w (TypR b m d (szT d) (stT d) w)
def MsgOK (d : Nat) : Prop := ∀ (b m : Nat) (w : World), Cur w b m → m + (20 + 5 * stT d) ≤ 900000000 → Calls Try.prog 78 #[.pointer (some ⟨b, 0, none⟩), .int .i64 (d : Int)] w (TypR b m (d + 1) (1 + 5 * szT d) (20 + 5 * stT d) w)

theorem stT_ge : ∀ d : Nat, d ≤ stT d
  | 0 => by simp [stT]
  | d + 1 => by have := stT_ge d; rw [stT]; omega

theorem stT_four (d : Nat) : 4 ≤ stT d := by cases d <;> simp [stT] <;> omega

theorem nd_new (W : World) (t : Tr) (c : Value) (n : Nat) (hn : n = W.heap.size) (tid : TypeId) : NdIn (W.alloc (.cells #[.int .i64 t.kind, .string t.name, .int .i64 t.no, .bool t.must, .int .i64 t.most, c] tid)) n 0 t c := by
  subst hn
  exact ⟨by simp, by simp, by simp, by simp, by simp, by simp⟩

set_option maxRecDepth 100000 in
set_option maxHeartbeats 4000000 in
theorem typeOf_step (d : Nat) (ih0 : ∀ e, d = e + 1 → TypOK e ∧ MsgOK e) : TypOK d := by
  intro b m w hc hm
  have ih : Hid (∀ e, d = e + 1 → TypOK e ∧ MsgOK e) := ih0
  clear ih0
  have hst := stT_four d
  have hsp := szT_pos d
  have hbw := hc.lt
  have HSZ : Hid (1 ≤ szT d) := hsp
  have HST : Hid (4 ≤ stT d) := hst
  have HM : Hid (m + stT d ≤ 900000000) := hm
  have hm9 : m ≤ 900000000 := by omega
  have hd9 : (d : Int) ≤ 900000000 := by have := stT_ge d; omega
  obtain ⟨W1, hW1⟩ : ∃ W, W = w.alloc (.cells #[.int .i64 0, .string ⟨#[]⟩, .int .i64 0, .bool false, .int .i64 0, .slice none 0 0] 57) := ⟨_, rfl⟩
  have hc1 : Cur W1 b m := by rw [hW1]; exact hc.alloc _
  have HS1 : Hid (W1.heap.size = w.heap.size + 1) := by show _ = _; rw [hW1]; simp
  have hg1 : w.grownBy W1 (some b) := by rw [hW1]; exact grown_alloc (World.grownBy.refl _ _) _
  have hsix1 : Six W1 w.heap.size (.int .i64 0) (.string ⟨#[]⟩) (.int .i64 0) (.bool false) (.int .i64 0) (.slice none 0 0) := by
    rw [hW1]
    exact ⟨⟨by go_simp, by go_simp, by go_simp, by go_simp, by go_simp, by go_simp⟩, by go_simp, by go_simp, by go_simp, by go_simp, by go_simp, by go_simp⟩
  clear hst hsp hm
  unfold TypR
  go_enter Try.func89, Try.ntmps89
  go_wp2_with fail
  rw [← hW1]
  clear hW1
  refine (pick_any b m 6 _ hc1 (by omega)).mono ?_
  rintro e w2 ⟨x, rfl, hx, hc2, hg2⟩
  have hs2 : w.heap.size < w2.heap.size := by have h1 := hg2.size; have h2 := HS1.out; omega
  have hgw2 : w.grownBy w2 (some b) := Lib.grownBy_trans hg1 hg2
  have hsix : Six w2 w.heap.size (.int .i64 0) (.string ⟨#[]⟩) (.int .i64 0) (.bool false) (.int .i64 0) (.slice none 0 0) := hsix1.kept (hg2.block _ (by have := HS1.out; omega) (by simp; omega))
  clear hc1 hg1 hg2 hsix1 hc
  have hx6 : x = 0 ∨ x = 1 ∨ x = 2 ∨ x = 3 ∨ x = 4 ∨ x = 5 := by omega
  clear hx
  rcases hx6 with rfl | rfl | rfl | rfl | rfl | rfl
  · skip
    obtain ⟨⟨y0, y1, y2, y3, y4, y5⟩, z0, z1, z2, z3, z4, z5⟩ := id hsix
    clear hsix
    go_wp2
    (try simp only [Exit.inBlock, Exit.then])
    refine bodyPost_ret (v := tv (.mk 1 ⟨#[]⟩ 0 false 0 []) none 0 0) ?_ rfl ⟨.mk 1 ⟨#[]⟩ 0 false 0 [], none, 0, 0, rfl, nil_kids, (by simp only [Tr.size, sizeL]; exact HSZ.out), ?_, ?_, ?_⟩
    · unfold tv
      rw [results_cell1 rfl]
      go_simp
      exact ⟨rfl, rfl, rfl, rfl, rfl⟩
    · rw [NmT_iff]; exact ⟨by show ByteArray.size ⟨#[]⟩ ≤ 10; simp [ByteArray.size], fun x hx => by simp [Tr.kids] at hx⟩
    · exact six6_cur (hc2.le (by have := HST.out; omega)) hbw _ _ _ _ _ _
    · exact six6_grown hgw2 (Nat.le_refl _) _ _ _ _ _ _
  · skip
    obtain ⟨⟨y0, y1, y2, y3, y4, y5⟩, z0, z1, z2, z3, z4, z5⟩ := id hsix
    clear hsix
    go_wp2
    (try simp only [Exit.inBlock, Exit.then])
    refine bodyPost_ret (v := tv (.mk 1 ⟨#[]⟩ 0 false 0 []) none 0 0) ?_ rfl ⟨.mk 1 ⟨#[]⟩ 0 false 0 [], none, 0, 0, rfl, nil_kids, (by simp only [Tr.size, sizeL]; exact HSZ.out), ?_, ?_, ?_⟩
    · unfold tv
      rw [results_cell1 rfl]
      go_simp
      exact ⟨rfl, rfl, rfl, rfl, rfl⟩
    · rw [NmT_iff]; exact ⟨by show ByteArray.size ⟨#[]⟩ ≤ 10; simp [ByteArray.size], fun x hx => by simp [Tr.kids] at hx⟩
    · exact six6_cur (hc2.le (by have := HST.out; omega)) hbw _ _ _ _ _ _
    · exact six6_grown hgw2 (Nat.le_refl _) _ _ _ _ _ _
  · skip
    obtain ⟨⟨y0, y1, y2, y3, y4, y5⟩, z0, z1, z2, z3, z4, z5⟩ := id hsix
    clear hsix
    go_wp2
    (try simp only [Exit.inBlock, Exit.then])
    refine bodyPost_ret (v := tv (.mk 2 ⟨#[]⟩ 0 false 0 []) none 0 0) ?_ rfl ⟨.mk 2 ⟨#[]⟩ 0 false 0 [], none, 0, 0, rfl, nil_kids, (by simp only [Tr.size, sizeL]; exact HSZ.out), ?_, ?_, ?_⟩
    · unfold tv
      rw [results_cell1 rfl]
      go_simp
      exact ⟨rfl, rfl, rfl, rfl, rfl⟩
    · rw [NmT_iff]; exact ⟨by show ByteArray.size ⟨#[]⟩ ≤ 10; simp [ByteArray.size], fun x hx => by simp [Tr.kids] at hx⟩
    · exact six6_cur (hc2.le (by have := HST.out; omega)) hbw _ _ _ _ _ _
    · exact six6_grown hgw2 (Nat.le_refl _) _ _ _ _ _ _
  · go_wp2_with fail
    refine (pick_any b (m + 2) 5 _ hc2 (by omega)).mono ?_
    rintro e w3 ⟨z, rfl, _, hc3, hg3⟩
    have hsix3 := hsix.kept (hg3.block _ hs2 (by simp; omega))
    have hgw3 := Lib.grownBy_trans hgw2 hg3
    have hs3 : w.heap.size < w3.heap.size := by have := hg3.size; omega
    clear hsix hg3 hc2 hgw2
    have hsix := hsix3
    clear hsix3
    obtain ⟨⟨y0, y1, y2, y3, y4, y5⟩, z0, z1, z2, z3, z4, z5⟩ := id hsix
    clear hsix
    go_wp2
    (try simp only [Exit.inBlock, Exit.then])
    refine bodyPost_ret (v := tv (.mk 3 ⟨#[]⟩ 0 false (z : Int) []) none 0 0) ?_ rfl ⟨.mk 3 ⟨#[]⟩ 0 false (z : Int) [], none, 0, 0, rfl, nil_kids, (by simp only [Tr.size, sizeL]; exact HSZ.out), ?_, ?_, ?_⟩
    · unfold tv
      rw [results_cell1 rfl]
      go_simp
      exact ⟨rfl, rfl, rfl, rfl, rfl⟩
    · rw [NmT_iff]; exact ⟨by show ByteArray.size ⟨#[]⟩ ≤ 10; simp [ByteArray.size], fun x hx => by simp [Tr.kids] at hx⟩
    · exact six6_cur (hc3.le (by have := HST.out; omega)) hbw _ _ _ _ _ _
    · exact six6_grown hgw3 (Nat.le_refl _) _ _ _ _ _ _
  · by_cases hd : d = 0
    · subst hd
      obtain ⟨⟨y0, y1, y2, y3, y4, y5⟩, z0, z1, z2, z3, z4, z5⟩ := id hsix
      clear hsix
      go_wp2
      (try simp only [Exit.inBlock, Exit.then])
      refine bodyPost_ret (v := tv (.mk 1 ⟨#[]⟩ 0 false 0 []) none 0 0) ?_ rfl ⟨.mk 1 ⟨#[]⟩ 0 false 0 [], none, 0, 0, rfl, nil_kids, (by simp only [Tr.size, sizeL]; exact HSZ.out), ?_, ?_, ?_⟩
      · unfold tv
        rw [results_cell1 rfl]
        go_simp
        exact ⟨rfl, rfl, rfl, rfl, rfl⟩
      · rw [NmT_iff]; exact ⟨by show ByteArray.size ⟨#[]⟩ ≤ 10; simp [ByteArray.size], fun x hx => by simp [Tr.kids] at hx⟩
      · exact six6_cur (hc2.le (by have := HST.out; omega)) hbw _ _ _ _ _ _
      · exact six6_grown hgw2 (Nat.le_refl _) _ _ _ _ _ _
    · obtain ⟨e, he⟩ : ∃ e, d = e + 1 := ⟨d - 1, by omega⟩
      have HE : Hid (d = e + 1) := he
      have HSE : Hid (szT d = 1 + 5 * szT e ∧ stT d = 24 + 5 * stT e) := by rw [he]; exact ⟨rfl, rfl⟩
      have hd0 : (0 : Int) < (d : Int) := by omega
      have TC : Hid (Calls Try.prog 89 #[.pointer (some ⟨b, 0, none⟩), .int .i64 ((d : Int) - 1)] w2 (TypR b (m + 2) (e) (szT e) (stT e) w2)) := by
        have hd1 : (d : Int) - 1 = (e : Int) := by omega
        rw [hd1]
        exact (ih.out e he).1 b (m + 2) w2 hc2 (by have h1 := HM.out; have h2 := HSE.out.2; omega)
      unfold TypR at TC
      clear he hd
      go_wp2_with fail
      refine TC.out.mono ?_
      rintro e9 w3 ⟨t, ac, lc, cc, rfl, hk, hz, hnm, hc3, hg3⟩
      have hs3 : w2.heap.size ≤ w3.heap.size := hg3.size
      have hsix3 := hsix.kept (hg3.block _ hs2 (by simp; omega))
      have hgw3 := Lib.grownBy_trans hgw2 hg3
      have hz3 : w.heap.size < w3.heap.size := by omega
      obtain ⟨⟨y0, y1, y2, y3, y4, y5⟩, z0, z1, z2, z3, z4, z5⟩ := hsix3
      have HK : Hid (KidsIn (e) w3 (fun g => w2.heap.size ≤ g ∧ g < w3.heap.size) (.slice ac lc cc) t.kids) := hk
      have HN := (NmT_iff t).1 hnm
      clear hsix hg3 hc2 hgw2 TC hk
      unfold tv
      obtain ⟨tk, tn, tno, tmu, tmo, tks⟩ := t
      dsimp only [Tr.kind, Tr.name, Tr.no, Tr.must, Tr.most, Tr.kids] at *
      go_wp2
      (try simp only [Exit.inBlock, Exit.then])
      refine bodyPost_ret (v := tv (.mk 4 ⟨#[]⟩ 0 false 0 [.mk tk tn tno tmu tmo tks]) (some ⟨w3.heap.size, 0, none⟩) 1 1) ?_ rfl ⟨.mk 4 ⟨#[]⟩ 0 false 0 [.mk tk tn tno tmu tmo tks], some ⟨w3.heap.size, 0, none⟩, 1, 1, rfl, ?_, ?_, ?_, ?_, ?_⟩
      · unfold tv
        rw [results_cell1 rfl]
        go_simp
        exact ⟨rfl, rfl, rfl, rfl, rfl⟩
      · have hsz := six6_size w3 w.heap.size (.int .i64 4) (.string ⟨#[]⟩) (.int .i64 0) (.bool false) (.int .i64 0) (.slice (some ⟨w3.heap.size, 0, none⟩) 1 1)
        have hbk := six6_block w3 w.heap.size (.int .i64 4) (.string ⟨#[]⟩) (.int .i64 0) (.bool false) (.int .i64 0) (.slice (some ⟨w3.heap.size, 0, none⟩) 1 1)
        rw [HE.out]
        refine ⟨some ⟨w3.heap.size, 0, none⟩, 1, rfl, by simp [Tr.kids], by unfold maxLen; omega, fun i x hi => ?_⟩
        match i, hi with
        | 0, hi =>
          simp [Tr.kids] at hi
          subst hi
          refine ⟨w3.heap.size, 0, .slice ac lc cc, rfl, ⟨by omega, ?_⟩, ?_, ?_⟩
          · simp
          · rw [Nat.zero_mul, Nat.add_zero]
            exact nd_new (six6 w3 w.heap.size (.int .i64 4) (.string ⟨#[]⟩) (.int .i64 0) (.bool false) (.int .i64 0) (.slice (some ⟨w3.heap.size, 0, none⟩) 1 1)) (.mk tk tn tno tmu tmo tks) _ _ hsz.symm _
          · refine HK.out.kept (fun g hg => ?_) (fun g hg => ⟨by omega, by simp; omega⟩)
            have h1 := hbk g (by omega)
            refine Eq.trans (Below.heap_alloc (six6 w3 w.heap.size (.int .i64 4) (.string ⟨#[]⟩) (.int .i64 0) (.bool false) (.int .i64 0) (.slice (some ⟨w3.heap.size, 0, none⟩) 1 1)) _ g (by omega)) h1
        | i + 1, hi => simp [Tr.kids] at hi
      · simp only [Tr.size, sizeL] at hz ⊢
        have h1 := HSE.out.1
        omega
      · rw [NmT_iff]
        refine ⟨by show ByteArray.size ⟨#[]⟩ ≤ 10; simp [ByteArray.size], fun x hx => ?_⟩
        simp [Tr.kids] at hx
        subst hx
        exact hnm
      · exact (six6_cur (hc3.le (by have h1 := HSE.out.2; omega)) hbw _ _ _ _ _ _).alloc _
      · exact grown_alloc (six6_grown hgw3 (Nat.le_refl _) _ _ _ _ _ _) _
  · by_cases hd : d = 0
    · subst hd
      obtain ⟨⟨y0, y1, y2, y3, y4, y5⟩, z0, z1, z2, z3, z4, z5⟩ := id hsix
      clear hsix
      go_wp2
      (try simp only [Exit.inBlock, Exit.then])
      refine bodyPost_ret (v := tv (.mk 1 ⟨#[]⟩ 0 false 0 []) none 0 0) ?_ rfl ⟨.mk 1 ⟨#[]⟩ 0 false 0 [], none, 0, 0, rfl, nil_kids, (by simp only [Tr.size, sizeL]; exact HSZ.out), ?_, ?_, ?_⟩
      · unfold tv
        rw [results_cell1 rfl]
        go_simp
        exact ⟨rfl, rfl, rfl, rfl, rfl⟩
      · rw [NmT_iff]; exact ⟨by show ByteArray.size ⟨#[]⟩ ≤ 10; simp [ByteArray.size], fun x hx => by simp [Tr.kids] at hx⟩
      · exact six6_cur (hc2.le (by have := HST.out; omega)) hbw _ _ _ _ _ _
      · exact six6_grown hgw2 (Nat.le_refl _) _ _ _ _ _ _
    · obtain ⟨e, he⟩ : ∃ e, d = e + 1 := ⟨d - 1, by omega⟩
      have HE : Hid (d = e + 1) := he
      have HSE : Hid (szT d = 1 + 5 * szT e ∧ stT d = 24 + 5 * stT e) := by rw [he]; exact ⟨rfl, rfl⟩
      have hd0 : (0 : Int) < (d : Int) := by omega
      have TC : Hid (Calls Try.prog 78 #[.pointer (some ⟨b, 0, none⟩), .int .i64 ((d : Int) - 1)] w2 (TypR b (m + 2) (e + 1) (1 + 5 * szT e) (20 + 5 * stT e) w2)) := by
        have hd1 : (d : Int) - 1 = (e : Int) := by omega
        rw [hd1]
        exact (ih.out e he).2 b (m + 2) w2 hc2 (by have h1 := HM.out; have h2 := HSE.out.2; omega)
      unfold TypR at TC
      clear he hd
      go_wp2_with fail
      refine TC.out.mono ?_
      rintro e9 w3 ⟨t, ac, lc, cc, rfl, hk, hz, hnm, hc3, hg3⟩
      have hs3 : w2.heap.size ≤ w3.heap.size := hg3.size
      have hsix3 := hsix.kept (hg3.block _ hs2 (by simp; omega))
      have hgw3 := Lib.grownBy_trans hgw2 hg3
      have hz3 : w.heap.size < w3.heap.size := by omega
      obtain ⟨⟨y0, y1, y2, y3, y4, y5⟩, z0, z1, z2, z3, z4, z5⟩ := hsix3
      have HK : Hid (KidsIn (e + 1) w3 (fun g => w2.heap.size ≤ g ∧ g < w3.heap.size) (.slice ac lc cc) t.kids) := hk
      have HN := (NmT_iff t).1 hnm
      clear hsix hg3 hc2 hgw2 TC hk
      unfold tv
      obtain ⟨tk, tn, tno, tmu, tmo, tks⟩ := t
      dsimp only [Tr.kind, Tr.name, Tr.no, Tr.must, Tr.most, Tr.kids] at *
      go_wp2
      (try simp only [Exit.inBlock, Exit.then])
      refine bodyPost_ret (v := tv (.mk tk tn tno tmu tmo tks) ac lc cc) ?_ rfl ⟨.mk tk tn tno tmu tmo tks, ac, lc, cc, rfl, ?_, ?_, hnm, ?_, ?_⟩
      · unfold tv
        rw [results_cell1 rfl]
        go_simp
        exact ⟨rfl, rfl, rfl, rfl, rfl⟩
      · have hsz := six6_size w3 w.heap.size (.int .i64 tk) (.string tn) (.int .i64 tno) (.bool tmu) (.int .i64 tmo) (.slice ac lc cc)
        have hbk := six6_block w3 w.heap.size (.int .i64 tk) (.string tn) (.int .i64 tno) (.bool tmu) (.int .i64 tmo) (.slice ac lc cc)
        have h := HK.out.kept (w' := six6 w3 w.heap.size (.int .i64 tk) (.string tn) (.int .i64 tno) (.bool tmu) (.int .i64 tmo) (.slice ac lc cc)) (S' := fun g => w.heap.size ≤ g ∧ g < (six6 w3 w.heap.size (.int .i64 tk) (.string tn) (.int .i64 tno) (.bool tmu) (.int .i64 tmo) (.slice ac lc cc)).heap.size) (fun g hg => hbk g (by omega)) (fun g hg => by rw [hsz]; omega)
        rw [← HE.out] at h
        exact h
      · have h1 := HSE.out.1
        omega
      · exact six6_cur (hc3.le (by have h1 := HSE.out.2; omega)) hbw _ _ _ _ _ _
      · exact six6_grown hgw3 (Nat.le_refl _) _ _ _ _ _ _

end Go.Proofs.Ytjaklpibjijkkaa
