/- The functions of one text and of two: the program's and the model's. -/
import Derived.Test.YtndeikgkncfmbaaDoorToL
namespace Go.Proofs.YtndeikgkncfmbaaDoor
open Go.RowKit Plain Tpc

set_option maxRecDepth 100000 in
set_option maxHeartbeats 1000000 in
theorem implGoodTopic (s : ByteArray) (w : World) (hs : s.size ≤ 1048576) :
    Calls Tryd.prog 12 #[.string s] w fun e w' => e = .returned (.bool (gt s)) ∧ Below w.heap.size w w' := by
  have C : Hid (Calls Tryd.prog 39 #[.string s] w fun e w' => (∃ r, e = .returned (.tuple #[r, .bool (gt s)]) ∧ StAt w' w'.heap.size r (tls s)) ∧ Below w.heap.size w w') := topicLevels_any s w hs
  generalize tls s = L at C
  generalize gt s = G at C ⊢
  go_enter Tryd.func12, Tryd.ntmps12
  go_wp2_with fail
  refine C.out.mono ?_
  rintro e w2 ⟨⟨r, rfl, hr⟩, hB2⟩
  obtain ⟨ao, cap, rfl, _⟩ := hr
  go_wp2
  go_ret
  exact ⟨rfl, hB2⟩

set_option maxRecDepth 100000 in
set_option maxHeartbeats 1000000 in
theorem implGoodPattern (s : ByteArray) (w : World) (hs : s.size ≤ 1048576) :
    Calls Tryd.prog 14 #[.string s] w fun e w' => e = .returned (.bool (gp s)) ∧ Below w.heap.size w w' := by
  have C : Hid (Calls Tryd.prog 40 #[.string s] w fun e w' => (∃ r, e = .returned (.tuple #[r, .bool (gp s)]) ∧ StAt w' w'.heap.size r (pls s)) ∧ Below w.heap.size w w') := patternLevels_any s w hs
  generalize pls s = L at C
  generalize gp s = G at C ⊢
  go_enter Tryd.func14, Tryd.ntmps14
  go_wp2_with fail
  refine C.out.mono ?_
  rintro e w2 ⟨⟨r, rfl, hr⟩, hB2⟩
  obtain ⟨ao, cap, rfl, _⟩ := hr
  go_wp2
  go_ret
  exact ⟨rfl, hB2⟩

theorem Tpc.pls_len (s : ByteArray) : (pls s).length ≤ 6 := by
  unfold pls
  cases h : gp s with
  | false => exact Nat.zero_le _
  | true => exact (gpL_at h).2

theorem Tpc.tls_len (s : ByteArray) : (tls s).length ≤ 6 := by
  unfold tls
  cases h : gt s with
  | false => exact Nat.zero_le _
  | true => exact (gtL_at h).2

set_option maxRecDepth 100000 in
set_option maxHeartbeats 2000000 in
theorem implFits (p t : ByteArray) (w : World) (hp : p.size ≤ 1048576) (ht : t.size ≤ 1048576) :
    Calls Tryd.prog 16 #[.string p, .string t] w fun e w' => e = .returned (.tuple #[.bool (tfo p t), .bool (gp p && gt t)]) ∧ Below w.heap.size w w' := by
  have C1 : Hid (∀ W, Calls Tryd.prog 40 #[.string p] W fun e w' => (∃ r, e = .returned (.tuple #[r, .bool (gp p)]) ∧ StAt w' w'.heap.size r (pls p)) ∧ Below W.heap.size W w') := fun W => patternLevels_any p W hp
  have C2 : Hid (∀ W, Calls Tryd.prog 39 #[.string t] W fun e w' => (∃ r, e = .returned (.tuple #[r, .bool (gt t)]) ∧ StAt w' w'.heap.size r (tls t)) ∧ Below W.heap.size W w') := fun W => topicLevels_any t W ht
  have H6 := pls_len p
  have H7 := tls_len t
  obtain ⟨R, hR⟩ : ∃ R, R = tfo p t := ⟨_, rfl⟩
  have HNo : Hid ((gp p && gt t) = false → R = false) := fun h => by rw [hR]; unfold tfo; rw [h]; rfl
  have HYes : Hid (gp p = true → gt t = true → cvs (pls p) (tls t) = R) := fun h1 h2 => by
    rw [hR]
    unfold tfo pls tls
    rw [h1, h2, if_pos rfl, if_pos rfl, fts_cvs _ _ (gt_noH h2)]
    rfl
  rw [← hR]
  clear hR
  generalize pls p = L1 at C1 HYes H6
  generalize tls t = L2 at C2 HYes H7
  generalize gp p = g1 at C1 HNo HYes ⊢
  generalize gt t = g2 at C2 HNo HYes ⊢
  go_enter Tryd.func16, Tryd.ntmps16
  go_wp2_with fail
  refine (C1.out _).mono ?_
  rintro e w2 ⟨⟨r, rfl, hr⟩, hB2⟩
  have H1 : Hid (StAt w2 w2.heap.size r L1) := hr
  obtain ⟨ao, cap, rfl, _⟩ := hr
  go_wp2_with fail
  refine (C2.out _).mono ?_
  rintro e w3 ⟨⟨r2, rfl, hr2⟩, hB3⟩
  have H2 : Hid (StAt w3 w3.heap.size r2 L2) := hr2
  obtain ⟨ao2, cap2, rfl, _⟩ := hr2
  have H1' : Hid (StAt w3 w3.heap.size (.slice ao L1.length cap) L1) := H1.out.below hB3
  have hB : Below w.heap.size w w3 := hB2.trans (hB3.mono hB2.size)
  clear hB2 hB3 H1 C1 C2
  cases g1 with
  | false =>
    have hF : Hid (R = false) := HNo.out rfl
    clear HNo HYes
    go_wp2
    go_ret2
    exact ⟨by rw [hF.out]; rfl, hB⟩
  | true =>
    cases g2 with
    | false =>
      have hF : Hid (R = false) := HNo.out rfl
      clear HNo HYes
      go_wp2
      go_ret2
      exact ⟨by rw [hF.out]; rfl, hB⟩
    | true =>
      have HC : Hid (Calls Tryd.prog 42 #[.slice ao L1.length cap, .slice ao2 L2.length cap2] w3 fun e w' => e = .returned (.bool (cvs L1 L2)) ∧ w' = w3) := levelsCover_any L1 L2 _ _ _ H1'.out H2.out (by omega) (by omega)
      rw [HYes.out (by trivial) (by trivial)] at HC
      clear HNo HYes
      go_wp2_with fail
      refine HC.out.mono ?_
      rintro e w4 ⟨rfl, rfl⟩
      go_wp2
      go_ret2
      exact ⟨rfl, hB⟩

set_option maxRecDepth 100000 in
set_option maxHeartbeats 2000000 in
theorem implCovers10 (p q : ByteArray) (w : World) (hp : p.size ≤ 1048576) (hq : q.size ≤ 1048576) :
    Calls Tryd.prog 18 #[.string p, .string q] w fun e w' => e = .returned (.tuple #[.bool (pco p q), .bool (gp p && gp q)]) ∧ Below w.heap.size w w' := by
  have C1 : Hid (∀ W, Calls Tryd.prog 44 #[.string p, .string q] W fun e w' => (∃ r s, e = .returned (.tuple #[r, s, .bool (gp p && gp q)]) ∧ StAt w' w'.heap.size r (pls p) ∧ StAt w' w'.heap.size s (pls q)) ∧ Below W.heap.size W w') := fun W => bothLevels_any p q W hp hq
  have H6 := pls_len p
  have H7 := pls_len q
  obtain ⟨R, hR⟩ : ∃ R, R = pco p q := ⟨_, rfl⟩
  have HNo : Hid ((gp p && gp q) = false → R = false) := fun h => by rw [hR]; unfold pco; rw [h]; rfl
  have HYes : Hid ((gp p && gp q) = true → cvs (pls p) (pls q) = R) := fun h => by
    rw [hR]
    unfold pco pls
    rw [h]
    rw [Bool.and_eq_true] at h
    rw [h.1, h.2, if_pos rfl, if_pos rfl]
    rfl
  rw [← hR]
  clear hR
  generalize pls p = L1 at C1 HYes H6
  generalize pls q = L2 at C1 HYes H7
  generalize (gp p && gp q) = g1 at C1 HNo HYes ⊢
  go_enter Tryd.func18, Tryd.ntmps18
  go_wp2_with fail
  refine (C1.out _).mono ?_
  rintro e w3 ⟨⟨r, s, rfl, hr, hr2⟩, hB⟩
  have H1 : Hid (StAt w3 w3.heap.size r L1) := hr
  have H2 : Hid (StAt w3 w3.heap.size s L2) := hr2
  obtain ⟨ao, cap, rfl, _⟩ := hr
  obtain ⟨ao2, cap2, rfl, _⟩ := hr2
  clear C1
  cases g1 with
  | false =>
    have hF : Hid (R = false) := HNo.out rfl
    clear HNo HYes
    go_wp2
    go_ret2
    exact ⟨by rw [hF.out]; rfl, hB⟩
  | true =>
    have HC : Hid (Calls Tryd.prog 42 #[.slice ao L1.length cap, .slice ao2 L2.length cap2] w3 fun e w' => e = .returned (.bool (cvs L1 L2)) ∧ w' = w3) := levelsCover_any L1 L2 _ _ _ H1.out H2.out (by omega) (by omega)
    rw [HYes.out (by trivial)] at HC
    clear HNo HYes
    go_wp2_with fail
    refine HC.out.mono ?_
    rintro e w4 ⟨rfl, rfl⟩
    go_wp2
    go_ret2
    exact ⟨rfl, hB⟩

set_option maxRecDepth 100000 in
set_option maxHeartbeats 2000000 in
theorem implMeet10 (p q : ByteArray) (w : World) (hp : p.size ≤ 1048576) (hq : q.size ≤ 1048576) :
    Calls Tryd.prog 20 #[.string p, .string q] w fun e w' => e = .returned (.tuple #[.bool (pmo p q), .bool (gp p && gp q)]) ∧ Below w.heap.size w w' := by
  have C1 : Hid (∀ W, Calls Tryd.prog 44 #[.string p, .string q] W fun e w' => (∃ r s, e = .returned (.tuple #[r, s, .bool (gp p && gp q)]) ∧ StAt w' w'.heap.size r (pls p) ∧ StAt w' w'.heap.size s (pls q)) ∧ Below W.heap.size W w') := fun W => bothLevels_any p q W hp hq
  have H6 := pls_len p
  have H7 := pls_len q
  obtain ⟨R, hR⟩ : ∃ R, R = pmo p q := ⟨_, rfl⟩
  have HNo : Hid ((gp p && gp q) = false → R = false) := fun h => by rw [hR]; unfold pmo; rw [h]; rfl
  have HYes : Hid ((gp p && gp q) = true → mts (pls p) (pls q) = R) := fun h => by
    rw [hR]
    unfold pmo pls
    rw [h]
    rw [Bool.and_eq_true] at h
    rw [h.1, h.2, if_pos rfl, if_pos rfl]
    rfl
  rw [← hR]
  clear hR
  generalize pls p = L1 at C1 HYes H6
  generalize pls q = L2 at C1 HYes H7
  generalize (gp p && gp q) = g1 at C1 HNo HYes ⊢
  go_enter Tryd.func20, Tryd.ntmps20
  go_wp2_with fail
  refine (C1.out _).mono ?_
  rintro e w3 ⟨⟨r, s, rfl, hr, hr2⟩, hB⟩
  have H1 : Hid (StAt w3 w3.heap.size r L1) := hr
  have H2 : Hid (StAt w3 w3.heap.size s L2) := hr2
  obtain ⟨ao, cap, rfl, _⟩ := hr
  obtain ⟨ao2, cap2, rfl, _⟩ := hr2
  clear C1
  cases g1 with
  | false =>
    have hF : Hid (R = false) := HNo.out rfl
    clear HNo HYes
    go_wp2
    go_ret2
    exact ⟨by rw [hF.out]; rfl, hB⟩
  | true =>
    have HC : Hid (Calls Tryd.prog 46 #[.slice ao L1.length cap, .slice ao2 L2.length cap2] w3 fun e w' => e = .returned (.bool (mts L1 L2)) ∧ Below w3.heap.size w3 w') := levelsMeet_any L1 L2 _ _ _ H1.out H2.out
    rw [HYes.out (by trivial)] at HC
    clear HNo HYes
    go_wp2_with fail
    refine HC.out.mono ?_
    rintro e w4 ⟨rfl, hb4⟩
    go_wp2
    go_ret2
    exact ⟨rfl, hB.trans (hb4.mono hB.size)⟩

set_option maxRecDepth 100000 in
set_option maxHeartbeats 2000000 in
theorem specFits10 (p q : ByteArray) (w : World) (hp : p.size ≤ 1048576) (hq : q.size ≤ 1048576) :
    Calls Tryd.prog 15 #[.string p, .string q] w fun e w' => e = .returned (.tuple #[.bool (tfo p q), .bool (gp p && gt q)]) ∧ Below w.heap.size w w' := by
  have C1 : Hid (∀ W, Calls Tryd.prog 13 #[.string p] W fun e w' => e = .returned (.bool (gp p)) ∧ Below W.heap.size W w') := fun W => specGoodPattern p W hp
  have C2 : Hid (∀ W, Calls Tryd.prog 11 #[.string q] W fun e w' => e = .returned (.bool (gt q)) ∧ Below W.heap.size W w') := fun W => specGoodTopic q W hq
  have S1 : Hid (∀ W, Calls Tryd.prog 37 #[.string p, .int .u8 47] W fun e w' => ∃ r, e = .returned r ∧ StRow w' W.heap.size r (spl p) ∧ Below W.heap.size W w') := fun W => l10Split_any p W hp
  have S2 : Hid (∀ W, Calls Tryd.prog 37 #[.string q, .int .u8 47] W fun e w' => ∃ r, e = .returned r ∧ StRow w' W.heap.size r (spl q) ∧ Below W.heap.size W w') := fun W => l10Split_any q W hq
  have H6 : (spl p).length ≤ 1048577 := by have := spl_le p; omega
  have H7 : (spl q).length ≤ 1048577 := by have := spl_le q; omega
  obtain ⟨R, hR⟩ : ∃ R, R = tfo p q := ⟨_, rfl⟩
  have HNo : Hid ((gp p && gt q) = false → R = false) := fun h => by rw [hR]; unfold tfo; rw [h]; rfl
  have HYes : Hid (gp p = true → gt q = true → fts (spl p) (spl q) = R) := fun h1 h2 => by
    rw [hR]
    unfold tfo
    rw [h1, h2]
    rfl
  rw [← hR]
  clear hR
  generalize spl p = L1 at S1 HYes H6
  generalize spl q = L2 at S2 HYes H7
  generalize gp p = g1 at C1 HNo HYes ⊢
  generalize gt q = g2 at C2 HNo HYes ⊢
  go_enter Tryd.func15, Tryd.ntmps15
  go_wp2_with fail
  refine (C1.out _).mono ?_
  rintro e w2 ⟨rfl, hB2⟩
  cases g1 with
  | false =>
    have hF : Hid (R = false) := HNo.out rfl
    clear HNo HYes
    go_wp2
    go_ret2
    exact ⟨by rw [hF.out]; rfl, hB2⟩
  | true =>
    go_wp2_with fail
    refine (C2.out _).mono ?_
    rintro e w3 ⟨rfl, hb3⟩
    have hB3 : Below w.heap.size w w3 := hB2.trans (hb3.mono hB2.size)
    clear hb3 hB2
    cases g2 with
    | false =>
      have hF : Hid (R = false) := HNo.out rfl
      clear HNo HYes
      go_wp2
      go_ret2
      exact ⟨by rw [hF.out]; rfl, hB3⟩
    | true =>
      go_wp2_with fail
      refine (S1.out _).mono ?_
      rintro e w4 ⟨r, rfl, hr, hb4⟩
      have hB4 : Below w.heap.size w w4 := hB3.trans (hb4.mono hB3.size)
      have H1 : Hid (StAt w4 w4.heap.size r L1) := StAt.own hr
      obtain ⟨ao, cap, rfl⟩ := hr.slice
      clear hr hb4 hB3
      go_wp2_with fail
      refine (S2.out _).mono ?_
      rintro e w5 ⟨r2, rfl, hr2, hb5⟩
      have hB5 : Below w.heap.size w w5 := hB4.trans (hb5.mono hB4.size)
      have H2 : Hid (StAt w5 w5.heap.size r2 L2) := StAt.own hr2
      have H1' : Hid (StAt w5 w5.heap.size (.slice ao L1.length cap) L1) := H1.out.below hb5
      obtain ⟨ao2, cap2, rfl⟩ := hr2.slice
      clear hr2 hb5 hB4
      have HC : Hid (∀ W, StAt W W.heap.size (.slice ao L1.length cap) L1 → StAt W W.heap.size (.slice ao2 L2.length cap2) L2 → Calls Tryd.prog 41 #[.slice ao L1.length cap, .slice ao2 L2.length cap2] W fun e w' => e = .returned (.bool (fts L1 L2)) ∧ w' = W) := fun W h1 h2 => l10Fits_any L1 L2 _ _ _ h1 h2 H6 H7
      rw [HYes.out (by trivial) (by trivial)] at HC
      clear HNo HYes S1 S2 C1 C2
      go_wp2_with fail
      refine (HC.out _ H1'.out H2.out).mono ?_
      rintro e w6 ⟨rfl, rfl⟩
      go_wp2
      go_ret2
      exact ⟨rfl, hB5⟩

set_option maxRecDepth 100000 in
set_option maxHeartbeats 2000000 in
theorem specCovers10 (p q : ByteArray) (w : World) (hp : p.size ≤ 1048576) (hq : q.size ≤ 1048576) :
    Calls Tryd.prog 17 #[.string p, .string q] w fun e w' => e = .returned (.tuple #[.bool (pco p q), .bool (gp p && gp q)]) ∧ Below w.heap.size w w' := by
  have C1 : Hid (∀ W, Calls Tryd.prog 13 #[.string p] W fun e w' => e = .returned (.bool (gp p)) ∧ Below W.heap.size W w') := fun W => specGoodPattern p W hp
  have C2 : Hid (∀ W, Calls Tryd.prog 13 #[.string q] W fun e w' => e = .returned (.bool (gp q)) ∧ Below W.heap.size W w') := fun W => specGoodPattern q W hq
  have S1 : Hid (∀ W, Calls Tryd.prog 37 #[.string p, .int .u8 47] W fun e w' => ∃ r, e = .returned r ∧ StRow w' W.heap.size r (spl p) ∧ Below W.heap.size W w') := fun W => l10Split_any p W hp
  have S2 : Hid (∀ W, Calls Tryd.prog 37 #[.string q, .int .u8 47] W fun e w' => ∃ r, e = .returned r ∧ StRow w' W.heap.size r (spl q) ∧ Below W.heap.size W w') := fun W => l10Split_any q W hq
  have H6 : (spl p).length ≤ 1048577 := by have := spl_le p; omega
  have H7 : (spl q).length ≤ 1048577 := by have := spl_le q; omega
  obtain ⟨R, hR⟩ : ∃ R, R = pco p q := ⟨_, rfl⟩
  have HNo : Hid ((gp p && gp q) = false → R = false) := fun h => by rw [hR]; unfold pco; rw [h]; rfl
  have HYes : Hid (gp p = true → gp q = true → cvs (spl p) (spl q) = R) := fun h1 h2 => by
    rw [hR]
    unfold pco
    rw [h1, h2]
    rfl
  rw [← hR]
  clear hR
  generalize spl p = L1 at S1 HYes H6
  generalize spl q = L2 at S2 HYes H7
  generalize gp p = g1 at C1 HNo HYes ⊢
  generalize gp q = g2 at C2 HNo HYes ⊢
  go_enter Tryd.func17, Tryd.ntmps17
  go_wp2_with fail
  refine (C1.out _).mono ?_
  rintro e w2 ⟨rfl, hB2⟩
  cases g1 with
  | false =>
    have hF : Hid (R = false) := HNo.out rfl
    clear HNo HYes
    go_wp2
    go_ret2
    exact ⟨by rw [hF.out]; rfl, hB2⟩
  | true =>
    go_wp2_with fail
    refine (C2.out _).mono ?_
    rintro e w3 ⟨rfl, hb3⟩
    have hB3 : Below w.heap.size w w3 := hB2.trans (hb3.mono hB2.size)
    clear hb3 hB2
    cases g2 with
    | false =>
      have hF : Hid (R = false) := HNo.out rfl
      clear HNo HYes
      go_wp2
      go_ret2
      exact ⟨by rw [hF.out]; rfl, hB3⟩
    | true =>
      go_wp2_with fail
      refine (S1.out _).mono ?_
      rintro e w4 ⟨r, rfl, hr, hb4⟩
      have hB4 : Below w.heap.size w w4 := hB3.trans (hb4.mono hB3.size)
      have H1 : Hid (StAt w4 w4.heap.size r L1) := StAt.own hr
      obtain ⟨ao, cap, rfl⟩ := hr.slice
      clear hr hb4 hB3
      go_wp2_with fail
      refine (S2.out _).mono ?_
      rintro e w5 ⟨r2, rfl, hr2, hb5⟩
      have hB5 : Below w.heap.size w w5 := hB4.trans (hb5.mono hB4.size)
      have H2 : Hid (StAt w5 w5.heap.size r2 L2) := StAt.own hr2
      have H1' : Hid (StAt w5 w5.heap.size (.slice ao L1.length cap) L1) := H1.out.below hb5
      obtain ⟨ao2, cap2, rfl⟩ := hr2.slice
      clear hr2 hb5 hB4
      have HC : Hid (∀ W, StAt W W.heap.size (.slice ao L1.length cap) L1 → StAt W W.heap.size (.slice ao2 L2.length cap2) L2 → Calls Tryd.prog 43 #[.slice ao L1.length cap, .slice ao2 L2.length cap2] W fun e w' => e = .returned (.bool (cvs L1 L2)) ∧ w' = W) := fun W h1 h2 => l10Covers_any L1 L2 _ _ _ h1 h2 H6 H7
      rw [HYes.out (by trivial) (by trivial)] at HC
      clear HNo HYes S1 S2 C1 C2
      go_wp2_with fail
      refine (HC.out _ H1'.out H2.out).mono ?_
      rintro e w6 ⟨rfl, rfl⟩
      go_wp2
      go_ret2
      exact ⟨rfl, hB5⟩

set_option maxRecDepth 100000 in
set_option maxHeartbeats 2000000 in
theorem specMeet10 (p q : ByteArray) (w : World) (hp : p.size ≤ 1048576) (hq : q.size ≤ 1048576) :
    Calls Tryd.prog 19 #[.string p, .string q] w fun e w' => e = .returned (.tuple #[.bool (pmo p q), .bool (gp p && gp q)]) ∧ Below w.heap.size w w' := by
  have C1 : Hid (∀ W, Calls Tryd.prog 13 #[.string p] W fun e w' => e = .returned (.bool (gp p)) ∧ Below W.heap.size W w') := fun W => specGoodPattern p W hp
  have C2 : Hid (∀ W, Calls Tryd.prog 13 #[.string q] W fun e w' => e = .returned (.bool (gp q)) ∧ Below W.heap.size W w') := fun W => specGoodPattern q W hq
  have S1 : Hid (∀ W, Calls Tryd.prog 37 #[.string p, .int .u8 47] W fun e w' => ∃ r, e = .returned r ∧ StRow w' W.heap.size r (spl p) ∧ Below W.heap.size W w') := fun W => l10Split_any p W hp
  have S2 : Hid (∀ W, Calls Tryd.prog 37 #[.string q, .int .u8 47] W fun e w' => ∃ r, e = .returned r ∧ StRow w' W.heap.size r (spl q) ∧ Below W.heap.size W w') := fun W => l10Split_any q W hq
  have H6 : (spl p).length ≤ 1048577 := by have := spl_le p; omega
  have H7 : (spl q).length ≤ 1048577 := by have := spl_le q; omega
  obtain ⟨R, hR⟩ : ∃ R, R = pmo p q := ⟨_, rfl⟩
  have HNo : Hid ((gp p && gp q) = false → R = false) := fun h => by rw [hR]; unfold pmo; rw [h]; rfl
  have HYes : Hid (gp p = true → gp q = true → mts (spl p) (spl q) = R) := fun h1 h2 => by
    rw [hR]
    unfold pmo
    rw [h1, h2]
    rfl
  rw [← hR]
  clear hR
  generalize spl p = L1 at S1 HYes H6
  generalize spl q = L2 at S2 HYes H7
  generalize gp p = g1 at C1 HNo HYes ⊢
  generalize gp q = g2 at C2 HNo HYes ⊢
  go_enter Tryd.func19, Tryd.ntmps19
  go_wp2_with fail
  refine (C1.out _).mono ?_
  rintro e w2 ⟨rfl, hB2⟩
  cases g1 with
  | false =>
    have hF : Hid (R = false) := HNo.out rfl
    clear HNo HYes
    go_wp2
    go_ret2
    exact ⟨by rw [hF.out]; rfl, hB2⟩
  | true =>
    go_wp2_with fail
    refine (C2.out _).mono ?_
    rintro e w3 ⟨rfl, hb3⟩
    have hB3 : Below w.heap.size w w3 := hB2.trans (hb3.mono hB2.size)
    clear hb3 hB2
    cases g2 with
    | false =>
      have hF : Hid (R = false) := HNo.out rfl
      clear HNo HYes
      go_wp2
      go_ret2
      exact ⟨by rw [hF.out]; rfl, hB3⟩
    | true =>
      go_wp2_with fail
      refine (S1.out _).mono ?_
      rintro e w4 ⟨r, rfl, hr, hb4⟩
      have hB4 : Below w.heap.size w w4 := hB3.trans (hb4.mono hB3.size)
      have H1 : Hid (StAt w4 w4.heap.size r L1) := StAt.own hr
      obtain ⟨ao, cap, rfl⟩ := hr.slice
      clear hr hb4 hB3
      go_wp2_with fail
      refine (S2.out _).mono ?_
      rintro e w5 ⟨r2, rfl, hr2, hb5⟩
      have hB5 : Below w.heap.size w w5 := hB4.trans (hb5.mono hB4.size)
      have H2 : Hid (StAt w5 w5.heap.size r2 L2) := StAt.own hr2
      have H1' : Hid (StAt w5 w5.heap.size (.slice ao L1.length cap) L1) := H1.out.below hb5
      obtain ⟨ao2, cap2, rfl⟩ := hr2.slice
      clear hr2 hb5 hB4
      have HC : Hid (∀ W, StAt W W.heap.size (.slice ao L1.length cap) L1 → StAt W W.heap.size (.slice ao2 L2.length cap2) L2 → Calls Tryd.prog 45 #[.slice ao L1.length cap, .slice ao2 L2.length cap2] W fun e w' => e = .returned (.bool (mts L1 L2)) ∧ Below W.heap.size W w') := fun W h1 h2 => l10Meet_any L1 L2 _ _ _ h1 h2 H6 H7
      rw [HYes.out (by trivial) (by trivial)] at HC
      clear HNo HYes S1 S2 C1 C2
      go_wp2_with fail
      refine (HC.out _ H1'.out H2.out).mono ?_
      rintro e w6 ⟨rfl, hb6⟩
      go_wp2
      go_ret2
      exact ⟨rfl, hB5.trans (hb6.mono hB5.size)⟩

end Go.Proofs.YtndeikgkncfmbaaDoor
