/- The types that the model draws: typeOf, from what it draws one step less deep. The messages that the model draws. -/
import Derived.Test.YtnhmleelhopjmaaGo
import Derived.Deep.DeepCutAuto
namespace Go.Proofs.Ytnhmleelhopjmaa
open Go.RowKit Plain Sch

def TypOK (d : Nat) : Prop := ∀ (b m : Nat) (w : World), Cur w b m → m + stT d ≤ 900000000 → Calls Try.prog 56 #[.pointer (some ⟨b, 0, none⟩), .int .i64 (d : Int)] w (TypR b m d (szT d) (stT d) w)
def MsgOK (d : Nat) : Prop := ∀ (b m : Nat) (w : World), Cur w b m → m + (20 + 5 * stT d) ≤ 900000000 → Calls Try.prog 40 #[.pointer (some ⟨b, 0, none⟩), .int .i64 (d : Int)] w (TypR b m (d + 1) (1 + 5 * szT d) (20 + 5 * stT d) w)

theorem stT_ge : ∀ d : Nat, d ≤ stT d
  | 0 => by simp [stT]
  | d + 1 => by have := stT_ge d; rw [stT]; omega

theorem stT_four (d : Nat) : 4 ≤ stT d := by cases d <;> simp [stT] <;> omega

theorem nd_new (W : World) (t : Tr) (c : Value) (n : Nat) (hn : n = W.heap.size) (tid : TypeId) : NdIn (W.alloc (.cells #[.int .i64 t.kind, .string t.name, .int .i64 t.no, .bool t.must, .int .i64 t.most, c] tid)) n 0 t c := by
  subst hn
  exact ⟨by simp, by simp, by simp, by simp, by simp, by simp⟩

set_option maxRecDepth 100000 in
set_option maxHeartbeats 4000000 in
theorem typeOf_step (d : Nat) (ih0 : ∀ e, d = e + 1 → TypOK e ∧ MsgOK e) : TypOK d := by
  intro b m w hc hm
  have ih : Hid (∀ e, d = e + 1 → TypOK e ∧ MsgOK e) := ih0
  clear ih0
  have hst := stT_four d
  have hsp := szT_pos d
  have hbw := hc.lt
  have HSZ : Hid (1 ≤ szT d) := hsp
  have HST : Hid (4 ≤ stT d) := hst
  have HM : Hid (m + stT d ≤ 900000000) := hm
  have hm9 : m ≤ 900000000 := by omega
  have hd9 : (d : Int) ≤ 900000000 := by have := stT_ge d; omega
  obtain ⟨W1, hW1⟩ : ∃ W, W = w.alloc (.cells #[.int .i64 0, .string ⟨#[]⟩, .int .i64 0, .bool false, .int .i64 0, .slice none 0 0] 56) := ⟨_, rfl⟩
  have hc1 : Cur W1 b m := by rw [hW1]; exact hc.alloc _
  have HS1 : Hid (W1.heap.size = w.heap.size + 1) := by show _ = _; rw [hW1]; simp
  have hg1 : w.grownBy W1 (some b) := by rw [hW1]; exact grown_alloc (World.grownBy.refl _ _) _
  have hsix1 : Six W1 w.heap.size (.int .i64 0) (.string ⟨#[]⟩) (.int .i64 0) (.bool false) (.int .i64 0) (.slice none 0 0) := by
    rw [hW1]
    exact ⟨⟨by go_simp, by go_simp, by go_simp, by go_simp, by go_simp, by go_simp⟩, by go_simp, by go_simp, by go_simp, by go_simp, by go_simp, by go_simp⟩
  clear hst hsp hm
  unfold TypR
  go_enter Try.func56, Try.ntmps56
  go_wp2_with fail
  rw [← hW1]
  clear hW1
  refine (pick_any b m 6 _ hc1 (by omega)).mono ?_
  rintro e w2 ⟨x, rfl, hx, hc2, hg2⟩
  have hs2 : w.heap.size < w2.heap.size := by have h1 := hg2.size; have h2 := HS1.out; omega
  have hgw2 : w.grownBy w2 (some b) := Lib.grownBy_trans hg1 hg2
  have hsix : Six w2 w.heap.size (.int .i64 0) (.string ⟨#[]⟩) (.int .i64 0) (.bool false) (.int .i64 0) (.slice none 0 0) := hsix1.kept (hg2.block _ (by have := HS1.out; omega) (by simp; omega))
  clear hc1 hg1 hg2 hsix1 hc
  have hx6 : x = 0 ∨ x = 1 ∨ x = 2 ∨ x = 3 ∨ x = 4 ∨ x = 5 := by omega
  clear hx
  rcases hx6 with rfl | rfl | rfl | rfl | rfl | rfl
  · skip
    obtain ⟨⟨y0, y1, y2, y3, y4, y5⟩, z0, z1, z2, z3, z4, z5⟩ := id hsix
    clear hsix
    go_wp2
    (try simp only [Exit.inBlock, Exit.then])
    refine bodyPost_ret (v := tv (.mk 1 ⟨#[]⟩ 0 false 0 []) none 0 0) ?_ rfl ⟨.mk 1 ⟨#[]⟩ 0 false 0 [], none, 0, 0, rfl, nil_kids, (by simp only [Tr.size, sizeL]; exact HSZ.out), ?_, ?_, ?_⟩
    · unfold tv
      rw [results_cell1 rfl]
      go_simp
      exact ⟨rfl, rfl, rfl, rfl, rfl⟩
    · rw [NmT_iff]; exact ⟨by show ByteArray.size ⟨#[]⟩ ≤ 10; simp [ByteArray.size], fun x hx => by simp [Tr.kids] at hx⟩
    · exact six6_cur (hc2.le (by have := HST.out; omega)) hbw _ _ _ _ _ _
    · exact six6_grown hgw2 (Nat.le_refl _) _ _ _ _ _ _
  · skip
    obtain ⟨⟨y0, y1, y2, y3, y4, y5⟩, z0, z1, z2, z3, z4, z5⟩ := id hsix
    clear hsix
    go_wp2
    (try simp only [Exit.inBlock, Exit.then])
    refine bodyPost_ret (v := tv (.mk 1 ⟨#[]⟩ 0 false 0 []) none 0 0) ?_ rfl ⟨.mk 1 ⟨#[]⟩ 0 false 0 [], none, 0, 0, rfl, nil_kids, (by simp only [Tr.size, sizeL]; exact HSZ.out), ?_, ?_, ?_⟩
    · unfold tv
      rw [results_cell1 rfl]
      go_simp
      exact ⟨rfl, rfl, rfl, rfl, rfl⟩
    · rw [NmT_iff]; exact ⟨by show ByteArray.size ⟨#[]⟩ ≤ 10; simp [ByteArray.size], fun x hx => by simp [Tr.kids] at hx⟩
    · exact six6_cur (hc2.le (by have := HST.out; omega)) hbw _ _ _ _ _ _
    · exact six6_grown hgw2 (Nat.le_refl _) _ _ _ _ _ _
  · skip
    obtain ⟨⟨y0, y1, y2, y3, y4, y5⟩, z0, z1, z2, z3, z4, z5⟩ := id hsix
    clear hsix
    go_wp2
    (try simp only [Exit.inBlock, Exit.then])
    refine bodyPost_ret (v := tv (.mk 2 ⟨#[]⟩ 0 false 0 []) none 0 0) ?_ rfl ⟨.mk 2 ⟨#[]⟩ 0 false 0 [], none, 0, 0, rfl, nil_kids, (by simp only [Tr.size, sizeL]; exact HSZ.out), ?_, ?_, ?_⟩
    · unfold tv
      rw [results_cell1 rfl]
      go_simp
      exact ⟨rfl, rfl, rfl, rfl, rfl⟩
    · rw [NmT_iff]; exact ⟨by show ByteArray.size ⟨#[]⟩ ≤ 10; simp [ByteArray.size], fun x hx => by simp [Tr.kids] at hx⟩
    · exact six6_cur (hc2.le (by have := HST.out; omega)) hbw _ _ _ _ _ _
    · exact six6_grown hgw2 (Nat.le_refl _) _ _ _ _ _ _
  · go_wp2_with fail
    refine (pick_any b (m + 2) 5 _ hc2 (by omega)).mono ?_
    rintro e w3 ⟨z, rfl, _, hc3, hg3⟩
    have hsix3 := hsix.kept (hg3.block _ hs2 (by simp; omega))
    have hgw3 := Lib.grownBy_trans hgw2 hg3
    have hs3 : w.heap.size < w3.heap.size := by have := hg3.size; omega
    clear hsix hg3 hc2 hgw2
    have hsix := hsix3
    clear hsix3
    obtain ⟨⟨y0, y1, y2, y3, y4, y5⟩, z0, z1, z2, z3, z4, z5⟩ := id hsix
    clear hsix
    go_wp2
    (try simp only [Exit.inBlock, Exit.then])
    refine bodyPost_ret (v := tv (.mk 3 ⟨#[]⟩ 0 false (z : Int) []) none 0 0) ?_ rfl ⟨.mk 3 ⟨#[]⟩ 0 false (z : Int) [], none, 0, 0, rfl, nil_kids, (by simp only [Tr.size, sizeL]; exact HSZ.out), ?_, ?_, ?_⟩
    · unfold tv
      rw [results_cell1 rfl]
      go_simp
      exact ⟨rfl, rfl, rfl, rfl, rfl⟩
    · rw [NmT_iff]; exact ⟨by show ByteArray.size ⟨#[]⟩ ≤ 10; simp [ByteArray.size], fun x hx => by simp [Tr.kids] at hx⟩
    · exact six6_cur (hc3.le (by have := HST.out; omega)) hbw _ _ _ _ _ _
    · exact six6_grown hgw3 (Nat.le_refl _) _ _ _ _ _ _
  · by_cases hd : d = 0
    · subst hd
      obtain ⟨⟨y0, y1, y2, y3, y4, y5⟩, z0, z1, z2, z3, z4, z5⟩ := id hsix
      clear hsix
      go_wp2
      (try simp only [Exit.inBlock, Exit.then])
      refine bodyPost_ret (v := tv (.mk 1 ⟨#[]⟩ 0 false 0 []) none 0 0) ?_ rfl ⟨.mk 1 ⟨#[]⟩ 0 false 0 [], none, 0, 0, rfl, nil_kids, (by simp only [Tr.size, sizeL]; exact HSZ.out), ?_, ?_, ?_⟩
      · unfold tv
        rw [results_cell1 rfl]
        go_simp
        exact ⟨rfl, rfl, rfl, rfl, rfl⟩
      · rw [NmT_iff]; exact ⟨by show ByteArray.size ⟨#[]⟩ ≤ 10; simp [ByteArray.size], fun x hx => by simp [Tr.kids] at hx⟩
      · exact six6_cur (hc2.le (by have := HST.out; omega)) hbw _ _ _ _ _ _
      · exact six6_grown hgw2 (Nat.le_refl _) _ _ _ _ _ _
    · obtain ⟨e, he⟩ : ∃ e, d = e + 1 := ⟨d - 1, by omega⟩
      have HE : Hid (d = e + 1) := he
      have HSE : Hid (szT d = 1 + 5 * szT e ∧ stT d = 24 + 5 * stT e) := by rw [he]; exact ⟨rfl, rfl⟩
      have hd0 : (0 : Int) < (d : Int) := by omega
      have TC : Hid (Calls Try.prog 56 #[.pointer (some ⟨b, 0, none⟩), .int .i64 ((d : Int) - 1)] w2 (TypR b (m + 2) (e) (szT e) (stT e) w2)) := by
        have hd1 : (d : Int) - 1 = (e : Int) := by omega
        rw [hd1]
        exact (ih.out e he).1 b (m + 2) w2 hc2 (by have h1 := HM.out; have h2 := HSE.out.2; omega)
      unfold TypR at TC
      clear he hd
      go_wp2_with fail
      refine TC.out.mono ?_
      rintro e9 w3 ⟨t, ac, lc, cc, rfl, hk, hz, hnm, hc3, hg3⟩
      have hs3 : w2.heap.size ≤ w3.heap.size := hg3.size
      have hsix3 := hsix.kept (hg3.block _ hs2 (by simp; omega))
      have hgw3 := Lib.grownBy_trans hgw2 hg3
      have hz3 : w.heap.size < w3.heap.size := by omega
      obtain ⟨⟨y0, y1, y2, y3, y4, y5⟩, z0, z1, z2, z3, z4, z5⟩ := hsix3
      have HK : Hid (KidsIn (e) w3 (fun g => w2.heap.size ≤ g ∧ g < w3.heap.size) (.slice ac lc cc) t.kids) := hk
      have HN := (NmT_iff t).1 hnm
      clear hsix hg3 hc2 hgw2 TC hk
      unfold tv
      obtain ⟨tk, tn, tno, tmu, tmo, tks⟩ := t
      dsimp only [Tr.kind, Tr.name, Tr.no, Tr.must, Tr.most, Tr.kids] at *
      go_wp2
      (try simp only [Exit.inBlock, Exit.then])
      refine bodyPost_ret (v := tv (.mk 4 ⟨#[]⟩ 0 false 0 [.mk tk tn tno tmu tmo tks]) (some ⟨w3.heap.size, 0, none⟩) 1 1) ?_ rfl ⟨.mk 4 ⟨#[]⟩ 0 false 0 [.mk tk tn tno tmu tmo tks], some ⟨w3.heap.size, 0, none⟩, 1, 1, rfl, ?_, ?_, ?_, ?_, ?_⟩
      · unfold tv
        rw [results_cell1 rfl]
        go_simp
        exact ⟨rfl, rfl, rfl, rfl, rfl⟩
      · have hsz := six6_size w3 w.heap.size (.int .i64 4) (.string ⟨#[]⟩) (.int .i64 0) (.bool false) (.int .i64 0) (.slice (some ⟨w3.heap.size, 0, none⟩) 1 1)
        have hbk := six6_block w3 w.heap.size (.int .i64 4) (.string ⟨#[]⟩) (.int .i64 0) (.bool false) (.int .i64 0) (.slice (some ⟨w3.heap.size, 0, none⟩) 1 1)
        rw [HE.out]
        refine ⟨some ⟨w3.heap.size, 0, none⟩, 1, rfl, by simp [Tr.kids], by unfold maxLen; omega, fun i x hi => ?_⟩
        match i, hi with
        | 0, hi =>
          simp [Tr.kids] at hi
          subst hi
          refine ⟨w3.heap.size, 0, .slice ac lc cc, rfl, ⟨by omega, ?_⟩, ?_, ?_⟩
          · simp
          · rw [Nat.zero_mul, Nat.add_zero]
            exact nd_new (six6 w3 w.heap.size (.int .i64 4) (.string ⟨#[]⟩) (.int .i64 0) (.bool false) (.int .i64 0) (.slice (some ⟨w3.heap.size, 0, none⟩) 1 1)) (.mk tk tn tno tmu tmo tks) _ _ hsz.symm _
          · refine HK.out.kept (fun g hg => ?_) (fun g hg => ⟨by omega, by simp; omega⟩)
            have h1 := hbk g (by omega)
            refine Eq.trans (Below.heap_alloc (six6 w3 w.heap.size (.int .i64 4) (.string ⟨#[]⟩) (.int .i64 0) (.bool false) (.int .i64 0) (.slice (some ⟨w3.heap.size, 0, none⟩) 1 1)) _ g (by omega)) h1
        | i + 1, hi => simp [Tr.kids] at hi
      · simp only [Tr.size, sizeL] at hz ⊢
        have h1 := HSE.out.1
        omega
      · rw [NmT_iff]
        refine ⟨by show ByteArray.size ⟨#[]⟩ ≤ 10; simp [ByteArray.size], fun x hx => ?_⟩
        simp [Tr.kids] at hx
        subst hx
        exact hnm
      · exact (six6_cur (hc3.le (by have h1 := HSE.out.2; omega)) hbw _ _ _ _ _ _).alloc _
      · exact grown_alloc (six6_grown hgw3 (Nat.le_refl _) _ _ _ _ _ _) _
  · by_cases hd : d = 0
    · subst hd
      obtain ⟨⟨y0, y1, y2, y3, y4, y5⟩, z0, z1, z2, z3, z4, z5⟩ := id hsix
      clear hsix
      go_wp2
      (try simp only [Exit.inBlock, Exit.then])
      refine bodyPost_ret (v := tv (.mk 1 ⟨#[]⟩ 0 false 0 []) none 0 0) ?_ rfl ⟨.mk 1 ⟨#[]⟩ 0 false 0 [], none, 0, 0, rfl, nil_kids, (by simp only [Tr.size, sizeL]; exact HSZ.out), ?_, ?_, ?_⟩
      · unfold tv
        rw [results_cell1 rfl]
        go_simp
        exact ⟨rfl, rfl, rfl, rfl, rfl⟩
      · rw [NmT_iff]; exact ⟨by show ByteArray.size ⟨#[]⟩ ≤ 10; simp [ByteArray.size], fun x hx => by simp [Tr.kids] at hx⟩
      · exact six6_cur (hc2.le (by have := HST.out; omega)) hbw _ _ _ _ _ _
      · exact six6_grown hgw2 (Nat.le_refl _) _ _ _ _ _ _
    · obtain ⟨e, he⟩ : ∃ e, d = e + 1 := ⟨d - 1, by omega⟩
      have HE : Hid (d = e + 1) := he
      have HSE : Hid (szT d = 1 + 5 * szT e ∧ stT d = 24 + 5 * stT e) := by rw [he]; exact ⟨rfl, rfl⟩
      have hd0 : (0 : Int) < (d : Int) := by omega
      have TC : Hid (Calls Try.prog 40 #[.pointer (some ⟨b, 0, none⟩), .int .i64 ((d : Int) - 1)] w2 (TypR b (m + 2) (e + 1) (1 + 5 * szT e) (20 + 5 * stT e) w2)) := by
        have hd1 : (d : Int) - 1 = (e : Int) := by omega
        rw [hd1]
        exact (ih.out e he).2 b (m + 2) w2 hc2 (by have h1 := HM.out; have h2 := HSE.out.2; omega)
      unfold TypR at TC
      clear he hd
      go_wp2_with fail
      refine TC.out.mono ?_
      rintro e9 w3 ⟨t, ac, lc, cc, rfl, hk, hz, hnm, hc3, hg3⟩
      have hs3 : w2.heap.size ≤ w3.heap.size := hg3.size
      have hsix3 := hsix.kept (hg3.block _ hs2 (by simp; omega))
      have hgw3 := Lib.grownBy_trans hgw2 hg3
      have hz3 : w.heap.size < w3.heap.size := by omega
      obtain ⟨⟨y0, y1, y2, y3, y4, y5⟩, z0, z1, z2, z3, z4, z5⟩ := hsix3
      have HK : Hid (KidsIn (e + 1) w3 (fun g => w2.heap.size ≤ g ∧ g < w3.heap.size) (.slice ac lc cc) t.kids) := hk
      have HN := (NmT_iff t).1 hnm
      clear hsix hg3 hc2 hgw2 TC hk
      unfold tv
      obtain ⟨tk, tn, tno, tmu, tmo, tks⟩ := t
      dsimp only [Tr.kind, Tr.name, Tr.no, Tr.must, Tr.most, Tr.kids] at *
      go_wp2
      (try simp only [Exit.inBlock, Exit.then])
      refine bodyPost_ret (v := tv (.mk tk tn tno tmu tmo tks) ac lc cc) ?_ rfl ⟨.mk tk tn tno tmu tmo tks, ac, lc, cc, rfl, ?_, ?_, hnm, ?_, ?_⟩
      · unfold tv
        rw [results_cell1 rfl]
        go_simp
        exact ⟨rfl, rfl, rfl, rfl, rfl⟩
      · have hsz := six6_size w3 w.heap.size (.int .i64 tk) (.string tn) (.int .i64 tno) (.bool tmu) (.int .i64 tmo) (.slice ac lc cc)
        have hbk := six6_block w3 w.heap.size (.int .i64 tk) (.string tn) (.int .i64 tno) (.bool tmu) (.int .i64 tmo) (.slice ac lc cc)
        have h := HK.out.kept (w' := six6 w3 w.heap.size (.int .i64 tk) (.string tn) (.int .i64 tno) (.bool tmu) (.int .i64 tmo) (.slice ac lc cc)) (S' := fun g => w.heap.size ≤ g ∧ g < (six6 w3 w.heap.size (.int .i64 tk) (.string tn) (.int .i64 tno) (.bool tmu) (.int .i64 tmo) (.slice ac lc cc)).heap.size) (fun g hg => hbk g (by omega)) (fun g hg => by rw [hsz]; omega)
        rw [← HE.out] at h
        exact h
      · have h1 := HSE.out.1
        omega
      · exact six6_cur (hc3.le (by have h1 := HSE.out.2; omega)) hbw _ _ _ _ _ _
      · exact six6_grown hgw3 (Nat.le_refl _) _ _ _ _ _ _

end Go.Proofs.Ytnhmleelhopjmaa

namespace Go.Proofs.Ytnhmleelhopjmaa
open Go.RowKit Plain Sch

/-- what holds when i names have been gone through -/
def MInv (b m d n : Nat) (w W3 : World) (i : Nat) (wr : World) : Prop :=
  ∃ (l : List Tr) (kv : Value), KInv (n + 3) (n + 3) d l kv wr ∧ l.length ≤ i ∧ sizeL l ≤ i * szT d ∧ NmL l ∧ Six wr (n + 1) (.int .i64 5) (.string ⟨#[]⟩) (.int .i64 0) (.bool false) (.int .i64 0) kv ∧
    Six wr n (.int .i64 0) (.string ⟨#[]⟩) (.int .i64 0) (.bool false) (.int .i64 0) (.slice none 0 0) ∧ wr.heap[n + 2]? = W3.heap[n + 2]? ∧ Cur wr b (m + i * (4 + stT d)) ∧ w.grownBy wr (some b) ∧ n + 3 ≤ wr.heap.size

theorem grown_row {w w1 w2 : World} {r row : Option Nat} (h : w.grownBy w1 r) (h2 : w1.grownBy w2 row) (hr : ∀ k, row = some k → w.heap.size ≤ k) : w.grownBy w2 r :=
  ⟨h2.os.trans h.os, h2.tape.trans h.tape, h2.output.trans h.output, Nat.le_trans h.size h2.size, fun j hj hne => (h2.block j (by have := h.size; omega) (fun e => by have := hr j e.symm; omega)).trans (h.block j hj hne)⟩

theorem NmL_snoc (l : List Tr) (x : Tr) (h : NmL l) (hx : NmT x) : NmL (l ++ [x]) := by
  rw [NmL_iff] at h ⊢
  intro y hy
  rcases List.mem_append.1 hy with hy | hy
  · exact h y hy
  · simp at hy; subst hy; exact hx

theorem sizeL_snoc : ∀ (l : List Tr) (x : Tr), sizeL (l ++ [x]) = sizeL l + x.size
  | [], x => by simp [sizeL]
  | y :: l, x => by rw [List.cons_append, sizeL, sizeL, sizeL_snoc l x]; omega

theorem Six.set5 {w : World} {b : Nat} {v0 v1 v2 v3 v4 v5 : Value} (h : Six w b v0 v1 v2 v3 v4 v5) (u : Value) : Six (w.setCell ⟨b, 5, none⟩ u) b v0 v1 v2 v3 v4 u := by
  obtain ⟨⟨c0, c1, c2, c3, c4, c5⟩, z0, z1, z2, z3, z4, z5⟩ := h
  refine ⟨⟨?_, ?_, ?_, ?_, ?_, World.cell?_setCell_same _ _ _ c5⟩, ?_, ?_, ?_, ?_, ?_, ?_⟩
  · exact (World.cell?_setCell_other _ _ _ _ (by simp)).trans c0
  · exact (World.cell?_setCell_other _ _ _ _ (by simp)).trans c1
  · exact (World.cell?_setCell_other _ _ _ _ (by simp)).trans c2
  · exact (World.cell?_setCell_other _ _ _ _ (by simp)).trans c3
  · exact (World.cell?_setCell_other _ _ _ _ (by simp)).trans c4
  all_goals (rw [World.frozen?_setCell]; assumption)

theorem Six.set3 {w : World} {b : Nat} {v0 v1 v2 v3 v4 v5 : Value} (h : Six w b v0 v1 v2 v3 v4 v5) (u : Value) : Six (w.setCell ⟨b, 3, none⟩ u) b v0 v1 v2 u v4 v5 := by
  obtain ⟨⟨c0, c1, c2, c3, c4, c5⟩, z0, z1, z2, z3, z4, z5⟩ := h
  refine ⟨⟨?_, ?_, ?_, World.cell?_setCell_same _ _ _ c3, ?_, ?_⟩, ?_, ?_, ?_, ?_, ?_, ?_⟩
  · exact (World.cell?_setCell_other _ _ _ _ (by simp)).trans c0
  · exact (World.cell?_setCell_other _ _ _ _ (by simp)).trans c1
  · exact (World.cell?_setCell_other _ _ _ _ (by simp)).trans c2
  · exact (World.cell?_setCell_other _ _ _ _ (by simp)).trans c4
  · exact (World.cell?_setCell_other _ _ _ _ (by simp)).trans c5
  all_goals (rw [World.frozen?_setCell]; assumption)

set_option maxRecDepth 100000 in
set_option maxHeartbeats 4000000 in
theorem messageOf_step (d : Nat) (ih0 : TypOK d) : MsgOK d := by
  intro b m w hc hm
  have ih : Hid (TypOK d) := ih0
  clear ih0
  obtain ⟨i0, hi, hz0, hz1, hz2⟩ := info_parts Try.infoTr
  have hbw := hc.lt
  have hd9 : (d : Int) ≤ 900000000 := by have := stT_ge d; omega
  have hm9 : m ≤ 900000000 := by omega
  have HM : Hid (m + (20 + 5 * stT d) ≤ 900000000) := hm
  obtain ⟨W3, hW3⟩ : ∃ W, W = ((w.alloc (.cells #[.int .i64 0, .string ⟨#[]⟩, .int .i64 0, .bool false, .int .i64 0, .slice none 0 0] 56)).alloc (.cells #[.int .i64 5, .string ⟨#[]⟩, .int .i64 0, .bool false, .int .i64 0, .slice none 0 0] 56)).alloc (.cells #[.string ⟨#[97]⟩, .string ⟨#[98]⟩, .string ⟨#[110, 97, 109, 101]⟩, .string ⟨#[108, 105, 115, 116]⟩, .string ⟨#[107, 105, 110, 100]⟩] 9) := ⟨_, rfl⟩
  have hc3 : Cur W3 b m := by rw [hW3]; exact ((hc.alloc _).alloc _).alloc _
  have HS3 : Hid (W3.heap.size = w.heap.size + 3) := by show _ = _; rw [hW3]; simp
  have hg3 : w.grownBy W3 (some b) := by rw [hW3]; exact grown_alloc (grown_alloc (grown_alloc (World.grownBy.refl _ _) _) _) _
  have HNM : Hid (∀ W : World, W.heap[w.heap.size + 2]? = W3.heap[w.heap.size + 2]? → ∀ i, i < 5 → ∃ nm : ByteArray, nm.size ≤ 10 ∧ W.cell? ⟨w.heap.size + 2, i, none⟩ = some (.string nm)) := by
    intro W hW i hi5
    have hcell : ∀ j, W.cell? ⟨w.heap.size + 2, j, none⟩ = W3.cell? ⟨w.heap.size + 2, j, none⟩ := fun j => World.cell?_of_block (w := W3) hW
    have h5 : i = 0 ∨ i = 1 ∨ i = 2 ∨ i = 3 ∨ i = 4 := by omega
    rcases h5 with rfl | rfl | rfl | rfl | rfl
    · exact ⟨⟨#[97]⟩, by decide, by rw [hcell, hW3]; go_simp⟩
    · exact ⟨⟨#[98]⟩, by decide, by rw [hcell, hW3]; go_simp⟩
    · exact ⟨⟨#[110, 97, 109, 101]⟩, by decide, by rw [hcell, hW3]; go_simp⟩
    · exact ⟨⟨#[108, 105, 115, 116]⟩, by decide, by rw [hcell, hW3]; go_simp⟩
    · exact ⟨⟨#[107, 105, 110, 100]⟩, by decide, by rw [hcell, hW3]; go_simp⟩
  have hst : MInv b m d w.heap.size w W3 0 W3 := by
    refine ⟨[], .slice none 0 0, KInv.start, by simp, by simp [sizeL], by rw [NmL]; trivial, ?_, ?_, rfl, by simpa using hc3, hg3, by rw [HS3.out]; exact Nat.le_refl _⟩
    · rw [hW3]; exact ⟨⟨by go_simp, by go_simp, by go_simp, by go_simp, by go_simp, by go_simp⟩, by go_simp, by go_simp, by go_simp, by go_simp, by go_simp, by go_simp⟩
    · rw [hW3]; exact ⟨⟨by go_simp, by go_simp, by go_simp, by go_simp, by go_simp, by go_simp⟩, by go_simp, by go_simp, by go_simp, by go_simp, by go_simp, by go_simp⟩
  have HST : Hid (MInv b m d w.heap.size w W3 0 W3) := hst
  clear hst hc3 hg3 hc hm
  unfold TypR
  go_enter Try.func40, Try.ntmps40
  go_wp2
  rw [← hW3]
  clear hW3
  go_loopw [12] (fun vi wr => ∃ i : Nat, i ≤ 5 ∧ vi = .int .i64 (i : Int) ∧ Hid (MInv b m d w.heap.size w W3 i wr)) (fun vi _ => 5 - (intOf vi).toNat)
  case atStart => exact ⟨0, by omega, rfl, HST⟩
  case round =>
    obtain ⟨i, hi5, rfl, hinv⟩ := hrel
    obtain ⟨l, kv, hki, hll, hsl, hnl, hs5, hs4, hb10, hcr, hgr, hsz⟩ := hinv.out
    have HKI : Hid (KInv (w.heap.size + 3) (w.heap.size + 3) d l kv wr) := hki
    have HNL : Hid (NmL l) := hnl
    have HSL : Hid (sizeL l ≤ i * szT d) := hsl
    have HCR : Hid (Cur wr b (m + i * (4 + stT d))) := hcr
    have him : i * (4 + stT d) ≤ 5 * (4 + stT d) := Nat.mul_le_mul_right _ hi5
    have hmi : m + i * (4 + stT d) ≤ 900000000 := by have := HM.out; omega
    by_cases hlt : i < 5
    · have hlt' : (i : Int) < 5 := by omega
      obtain ⟨nm, hnm, hcn⟩ := HNM.out wr hb10 i hlt
      have HIS : Hid ((i + 1) * (4 + stT d) = i * (4 + stT d) + (4 + stT d) ∧ (i + 1) * szT d = i * szT d + szT d) := ⟨Nat.succ_mul _ _, Nat.succ_mul _ _⟩
      have himl : i * (4 + stT d) + (4 + stT d) ≤ 5 * (4 + stT d) := by rw [← HIS.out.1]; exact Nat.mul_le_mul_right _ (by omega)
      have HB : Hid (m + i * (4 + stT d) + (4 + stT d) ≤ 900000000) := by show _ ≤ _; have := HM.out; omega
      clear hki hsl hnl him himl hinv
      go_wp2_with fail
      refine (one_any b (m + i * (4 + stT d)) 2 _ HCR.out (by omega)).mono ?_
      rintro e w1 ⟨t1, rfl, hc1, hg1⟩
      have hsz1 := hg1.size
      have bk : ∀ g, g ≠ b → g < wr.heap.size → w1.heap[g]? = wr.heap[g]? := fun g h1 h2 => hg1.block g h2 (by simp; omega)
      have hs51 := hs5.kept (bk _ (by omega) (by omega))
      have hs41 := hs4.kept (bk _ (by omega) (by omega))
      have hb101 := (bk (w.heap.size + 2) (by omega) (by omega)).trans hb10
      have hgr1 := Lib.grownBy_trans hgr hg1
      have HKI1 : Hid (KInv (w.heap.size + 3) (w.heap.size + 3) d l kv w1) := HKI.out.grown (Nat.le_refl _) hg1 (by omega)
      have hsz1' : w.heap.size + 3 ≤ w1.heap.size := by omega
      have HCR1 : Hid (Cur w1 b (m + i * (4 + stT d) + 2)) := hc1
      clear bk hg1 hc1 HKI HCR hs5 hs4 hb10 hgr hcn
      cases t1
      · have hnext : Hid (MInv b m d w.heap.size w W3 (i + 1) w1) := ⟨l, kv, HKI1.out, by omega, by rw [HIS.out.2]; have := HSL.out; omega, HNL.out, hs51, hs41, hb101, by rw [HIS.out.1]; exact HCR1.out.le (by omega), hgr1, hsz1'⟩
        clear hs51 hs41 hgr1 hb101
        go_wp2
        go_roundw
        case rel => exact ⟨i + 1, by omega, by go_num, hnext⟩
        case measure => simp [intOf]; omega
      · have TC : Hid (Calls Try.prog 56 #[.pointer (some ⟨b, 0, none⟩), .int .i64 (d : Int)] w1 (TypR b (m + i * (4 + stT d) + 2) d (szT d) (stT d) w1)) := ih.out b _ w1 HCR1.out (by have := HB.out; omega)
        unfold TypR at TC
        go_wp2_with fail
        refine TC.out.mono ?_
        rintro e w2 ⟨t, ac, lc, cc, rfl, hk, hz, hnt, hc2, hg2⟩
        obtain ⟨tk, tn, tno, tmu, tmo, tks⟩ := t
        unfold tv
        dsimp only [Tr.kind, Tr.name, Tr.no, Tr.must, Tr.most, Tr.kids] at *
        have hsz2 := hg2.size
        have bk2 : ∀ g, g ≠ b → g < w1.heap.size → w2.heap[g]? = w1.heap[g]? := fun g h1 h2 => hg2.block g h2 (by simp; omega)
        have hs52 := hs51.kept (bk2 _ (by omega) (by omega))
        have hs42 := hs41.kept (bk2 _ (by omega) (by omega))
        have hb102 := (bk2 (w.heap.size + 2) (by omega) (by omega)).trans hb101
        have hgr2 := Lib.grownBy_trans hgr1 hg2
        have HKI2 : Hid (KInv (w.heap.size + 3) (w.heap.size + 3) d l kv w2) := HKI1.out.grown (Nat.le_refl _) hg2 (by omega)
        have HK2 : Hid (KidsIn d w2 (fun g => w1.heap.size ≤ g ∧ g < w2.heap.size) (.slice ac lc cc) tks) := hk
        have HC2 : Hid (Cur w2 b (m + i * (4 + stT d) + 2 + stT d)) := hc2
        obtain ⟨W6, hW6⟩ : ∃ W, W = w2.alloc (.cells #[.int .i64 tk, .string nm, .int .i64 ((i : Int) + 1), .bool tmu, .int .i64 tmo, .slice ac lc cc] 56) := ⟨_, rfl⟩
        have hB6 : Below w2.heap.size w2 W6 := by rw [hW6]; exact (Below.refl _ w2).alloc (Nat.le_refl _) _
        have HS6 : Hid (W6.heap.size = w2.heap.size + 1) := by show _ = _; rw [hW6]; simp
        have hsx6 : Six W6 w2.heap.size (.int .i64 tk) (.string nm) (.int .i64 ((i : Int) + 1)) (.bool tmu) (.int .i64 tmo) (.slice ac lc cc) := by
          rw [hW6]; exact ⟨⟨by go_simp, by go_simp, by go_simp, by go_simp, by go_simp, by go_simp⟩, by go_simp, by go_simp, by go_simp, by go_simp, by go_simp, by go_simp⟩
        have HC6 : Hid (Cur W6 b (m + i * (4 + stT d) + 2 + stT d)) := by rw [hW6]; exact hc2.alloc _
        have HKW : Hid (∀ g, kv.ownBlock = some g → g < w1.heap.size) := fun g hg => by
          obtain ⟨xs1, hown1⟩ := HKI1.out.own
          exact (hown1.lt g hg).2
        clear hk hc2 bk2 hg2 TC HKI1 HCR1 hs51 hs41 hb101 hgr1
        go_wp2_with fail
        rw [← hW6]
        clear hW6
        refine (one_any b (m + i * (4 + stT d) + 2 + stT d) 3 _ HC6.out (by have := HB.out; omega)).mono ?_
        rintro e w7 ⟨t2, rfl, hc7, hg7⟩
        have hs6 := HS6.out
        have hsz7 := hg7.size
        have hsx7 := hsx6.kept (hg7.block w2.heap.size (by omega) (by simp; omega))
        have hgr7 : w.grownBy w7 (some b) := Lib.grownBy_trans (Lib.grownBy_trans hgr2 ⟨hB6.os, hB6.tape, hB6.output, hB6.size, fun j hj _ => hB6.block j hj⟩) hg7
        have bk7 : ∀ g, g ≠ b → g < w2.heap.size → w7.heap[g]? = w2.heap[g]? := fun g h1 h2 => (hg7.block g (by omega) (by simp; omega)).trans (hB6.block g h2)
        obtain ⟨⟨xc0, xc1, xc2, xc3, xc4, xc5⟩, xz0, xz1, xz2, xz3, xz4, xz5⟩ := id hsx7
        have hz27 : w2.heap.size < w7.heap.size := by omega
        go_upto_region 10 with fail
        obtain ⟨W8, hW8⟩ : ∃ W, W = w7.setCell ⟨w2.heap.size, 3, none⟩ (.bool t2) := ⟨_, rfl⟩
        rw [← hW8]
        have hs8 : W8.heap.size = w7.heap.size := by rw [hW8]; simp
        have bk8 : ∀ g, g ≠ b → g < w2.heap.size → W8.heap[g]? = w2.heap[g]? := fun g h1 h2 => by rw [hW8, Below.heap_setCell _ _ _ _ (by show g ≠ w2.heap.size; omega)]; exact bk7 g h1 h2
        have hsx8 : Six W8 w2.heap.size (.int .i64 tk) (.string nm) (.int .i64 ((i : Int) + 1)) (.bool t2) (.int .i64 tmo) (.slice ac lc cc) := by rw [hW8]; exact hsx7.set3 _
        have HC8 : Hid (Cur W8 b (m + i * (4 + stT d) + 2 + stT d + 2)) := by rw [hW8]; exact hc7.below ((Below.refl _ w7).setCell (p := ⟨w2.heap.size, 3, none⟩) (by show b + 1 ≤ w2.heap.size; omega) _)
        have HGR8 : Hid (w.grownBy W8 (some b)) := by rw [hW8]; exact grown_set hgr7 (a := ⟨w2.heap.size, 3, none⟩) (by show w.heap.size ≤ w2.heap.size; omega) _
        have hs58 := hs52.kept (bk8 _ (by omega) (by omega))
        have hs48 := hs42.kept (bk8 _ (by omega) (by omega))
        have hb108 := (bk8 (w.heap.size + 2) (by omega) (by omega)).trans hb102
        have HKI8 : Hid (KInv (w.heap.size + 3) (w.heap.size + 3) d l kv W8) := HKI2.out.kept (Nat.le_refl _) (by omega) (fun g h1 h2 => bk8 g (by omega) h2)
        have HK8 : Hid (KidsIn d W8 (fun g => w1.heap.size ≤ g ∧ g < w2.heap.size) (.slice ac lc cc) tks) := HK2.out.kept (fun g hg => bk8 g (by omega) hg.2) (fun _ h => h)
        obtain ⟨xs8, hown8⟩ := HKI8.out.own
        have hlt8 := hown8.lt
        have HKB : Hid (∀ g, kv.ownBlock = some g → w.heap.size + 3 ≤ g ∧ g < w2.heap.size) := fun g hg => by
          obtain ⟨xs2, hown2⟩ := HKI2.out.own
          exact hown2.lt g hg
        clear hW8 xc0 xc1 xc2 xc3 xc4 xc5 xz0 xz1 xz2 xz3 xz4 xz5 bk7 bk8 hsx7 hsx6 hg7 hc7 HC6 hs52 hs42 hb102 HKI2 HK2 hgr7 hgr2 HC2
        obtain ⟨⟨xc0, xc1, xc2, xc3, xc4, xc5⟩, _⟩ := hsx8
        obtain ⟨⟨_, _, _, _, _, yk⟩, _⟩ := id hs58
        have HS8 : Hid (W8.heap.size = w7.heap.size) := hs8
        have hz28 : w2.heap.size < W8.heap.size := by omega
        have hz18 : w.heap.size + 1 < W8.heap.size := by omega
        have hl5 : l.length ≤ 5 := by omega
        clear hs8
        go_wp2_with (at_builtin; refine wpList_append_lies _ rfl _ _ 54 rfl (w.heap.size + 3) 56 i0 (.agg #[.int .i64 0, .string ⟨#[]⟩, .int .i64 0, .bool false, .int .i64 0, .slice none 0 0]) 6 72 Try.underlying54 hi hz0 hz1 hz2 rfl (by decide) _ l.length _ rfl (hown8.alloc _) ⟨W8.heap.size, 0, none⟩ 1 1 [.int .i64 tk, .string nm, .int .i64 ((i : Int) + 1), .bool t2, .int .i64 tmo, .slice ac lc cc] rfl rfl ?c1 one6 ?c2 ?c3 ?c4 ?c5 (W8.heap.size + 1) ?c6 ?_)
        case c1 => exact World.news_of_block (heap_alloc_new W8 _)
        case c2 => omega
        case c3 => unfold maxLen; omega
        case c4 => omega
        case c5 => simp; omega
        case c6 => simp
        intro g9 cap9 w9 hown9 hgrow9 hat9 hlt9
        have hB8a : Below W8.heap.size W8 (W8.alloc (.cells #[.int .i64 tk, .string nm, .int .i64 ((i : Int) + 1), .bool t2, .int .i64 tmo, .slice ac lc cc] 56)) := (Below.refl _ W8).alloc (Nat.le_refl _) _
        have hs9 : W8.heap.size + 1 ≤ w9.heap.size := by have := hgrow9.size; simpa using this
        have bk9 : ∀ g, g < w.heap.size + 3 → g < W8.heap.size → w9.heap[g]? = W8.heap[g]? := fun g h1 h2 => (hgrow9.block g (by simp; omega) (fun e => by have := (HKB.out g e.symm).1; omega)).trans (hB8a.block g h2)
        have hs59 := hs58.kept (bk9 _ (by omega) (by omega))
        have hs49 := hs48.kept (bk9 _ (by omega) (by omega))
        have hb109 := (bk9 (w.heap.size + 2) (by omega) (by omega)).trans hb108
        have hk9 : KInv (w.heap.size + 3) (w.heap.size + 3) d (l ++ [.mk tk nm ((i : Int) + 1) t2 tmo tks]) (.slice (some ⟨g9, 0, none⟩) (l.length + 1) cap9) w9 :=
          (HKI8.out.kept (Nat.le_refl _) hB8a.size (fun g _ h2 => hB8a.block g h2)).step (t := .mk tk nm ((i : Int) + 1) t2 tmo tks) (c := .slice ac lc cc) (S2 := fun g => w1.heap.size ≤ g ∧ g < w2.heap.size) (HK8.out.kept (fun g hg => hB8a.block g (by omega)) (fun _ h => h)) (fun g hg => ⟨by omega, by simp; omega, fun e => by
            have h1 := HKW.out g e
            omega⟩) (hown8.alloc _) rfl hown9 hgrow9 (by rcases hat9 with h | h; exact .inl h; exact .inr (by simp; omega))
        have hc9 : Cur w9 b (m + i * (4 + stT d) + 2 + stT d + 2) := (HC8.out.alloc _).grown hgrow9 (fun k hk => by have := (HKB.out k hk).1; omega)
        have hg9 : w.grownBy w9 (some b) := grown_row (grown_alloc HGR8.out _) hgrow9 (fun k hk => by have := (HKB.out k hk).1; omega)
        obtain ⟨⟨_, _, _, _, _, yk9⟩, _, _, _, _, _, yz9⟩ := id hs59
        have hz19 : w.heap.size + 1 < w9.heap.size := by omega
        have hnext : Hid (MInv b m d w.heap.size w W3 (i + 1) (w9.setCell ⟨w.heap.size + 1, 5, none⟩ (.slice (some ⟨g9, 0, none⟩) (l.length + 1) cap9))) := by
          have bs : ∀ g, g ≠ w.heap.size + 1 → (w9.setCell ⟨w.heap.size + 1, 5, none⟩ (.slice (some ⟨g9, 0, none⟩) (l.length + 1) cap9)).heap[g]? = w9.heap[g]? := fun g hg => Below.heap_setCell _ _ _ _ (by show g ≠ w.heap.size + 1; exact hg)
          refine ⟨l ++ [.mk tk nm ((i : Int) + 1) t2 tmo tks], .slice (some ⟨g9, 0, none⟩) (l.length + 1) cap9, hk9.kept (Nat.le_refl _) (by simp) (fun g h1 _ => bs g (by omega)), by simp; omega, ?_, NmL_snoc _ _ HNL.out ?_, hs59.set5 _, hs49.kept (bs _ (by omega)), (bs _ (by omega)).trans hb109, ?_, grown_set hg9 (a := ⟨w.heap.size + 1, 5, none⟩) (by show w.heap.size ≤ w.heap.size + 1; omega) _, by simp; omega⟩
          · rw [sizeL_snoc, HIS.out.2]
            have h1 := HSL.out
            simp only [Tr.size] at hz ⊢
            omega
          · have h1 := (NmT_iff _).1 hnt
            rw [NmT_iff]
            exact ⟨hnm, h1.2⟩
          · rw [HIS.out.1]
            refine Cur.le (hc9.below ((Below.refl _ w9).setCell (p := ⟨w.heap.size + 1, 5, none⟩) (by show b + 1 ≤ w.heap.size + 1; omega) _)) (by omega)
        clear hown9 hgrow9 hat9 hk9 hc9 hg9 hs59 hs49 hs58 hs48 hb108 hb109 bk9 hB8a hown8 xc0 xc1 xc2 xc3 xc4 xc5 yk
        go_wp2
        go_roundw
        case rel => exact ⟨i + 1, by omega, by go_num, hnext⟩
        case measure => simp [intOf]; omega
    · have hke : i = 5 := by omega
      subst hke
      have hge : ¬ ((5 : Int) < 5) := by omega
      have HK9 : Hid (KidsIn (d + 1) wr (fun g => w.heap.size + 3 ≤ g ∧ g < wr.heap.size) kv l) := hki.kids (Nat.le_refl _)
      obtain ⟨ak, capk, rfl, _⟩ := HK9.out.form
      obtain ⟨⟨q0, q1, q2, q3, q4, q5⟩, _⟩ := hs5
      obtain ⟨⟨y0, y1, y2, y3, y4, y5⟩, z0, z1, z2, z3, z4, z5⟩ := hs4
      have hzr : w.heap.size + 1 < wr.heap.size := by omega
      have hzr0 : w.heap.size < wr.heap.size := by omega
      clear hki hsl hnl hcr hb10 him hmi hinv HKI
      go_wp2
      (try simp only [Exit.inBlock, Exit.then])
      refine bodyPost_ret (v := tv (.mk 5 ⟨#[]⟩ 0 false 0 l) ak l.length capk) ?_ rfl ⟨.mk 5 ⟨#[]⟩ 0 false 0 l, ak, l.length, capk, rfl, ?_, ?_, ?_, ?_, ?_⟩
      · unfold tv
        rw [results_cell1 rfl]
        go_simp
        exact ⟨rfl, rfl, rfl, rfl, rfl⟩
      · have hsz6 := six6_size wr w.heap.size (.int .i64 5) (.string ⟨#[]⟩) (.int .i64 0) (.bool false) (.int .i64 0) (.slice ak l.length capk)
        have hbk := six6_block wr w.heap.size (.int .i64 5) (.string ⟨#[]⟩) (.int .i64 0) (.bool false) (.int .i64 0) (.slice ak l.length capk)
        exact HK9.out.kept (w' := six6 wr w.heap.size (.int .i64 5) (.string ⟨#[]⟩) (.int .i64 0) (.bool false) (.int .i64 0) (.slice ak l.length capk)) (S' := fun g => w.heap.size ≤ g ∧ g < (six6 wr w.heap.size (.int .i64 5) (.string ⟨#[]⟩) (.int .i64 0) (.bool false) (.int .i64 0) (.slice ak l.length capk)).heap.size) (fun g hg => hbk g (by omega)) (fun g hg => by rw [hsz6]; omega)
      · simp only [Tr.size]
        have := HSL.out
        omega
      · rw [NmT_iff]
        exact ⟨by show ByteArray.size ⟨#[]⟩ ≤ 10; simp [ByteArray.size], (NmL_iff l).1 HNL.out⟩
      · exact six6_cur (HCR.out.le (by omega)) hbw _ _ _ _ _ _
      · exact six6_grown hgr (Nat.le_refl _) _ _ _ _ _ _

end Go.Proofs.Ytnhmleelhopjmaa
