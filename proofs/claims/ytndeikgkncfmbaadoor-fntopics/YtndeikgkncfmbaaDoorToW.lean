/- The law FnTopics, walked: for what is drawn from the bytes it answers true. -/
import Derived.Test.YtndeikgkncfmbaaDoorToD
import Derived.Test.YtndeikgkncfmbaaDoorToB
namespace Go.Proofs.YtndeikgkncfmbaaDoor
open Go.RowKit Plain Tpc

set_option maxRecDepth 100000 in
set_option maxHeartbeats 16000000 in
theorem walkFnTopics (a0 a1 : Option Addr) (len0 cap0 len1 cap1 : Nat) (w : World) (h0 : len0 ≤ 1048576 → CodeAt w a0 len0) (h1 : len1 ≤ 1048576 → CodeAt w a1 len1) (y0 : len0 ≤ 140737488351232) (y1 : len1 ≤ 140737488351232) :
    Calls Tryd.prog 8 #[.slice a0 len0 cap0, .slice a1 len1 cap1] w fun e w' => e = .returned (.bool true) ∧ Below w.heap.size w w' := by
  by_cases hbig : 1048576 < len0 + len1
  · have hbig' : (1048576 : Int) < (len0 : Int) + (len1 : Int) := by omega
    clear h0 h1
    go_enter Tryd.func8, Tryd.ntmps8
    go_wp2
    go_ret
    exact ⟨rfl, Below.refl _ _⟩
  have hbig' : ¬ (1048576 : Int) < (len0 : Int) + (len1 : Int) := by omega
  have H0 : Hid (CodeAt w a0 len0) := h0 (by omega)
  have H1 : Hid (CodeAt w a1 len1) := h1 (by omega)
  clear h0 h1 hbig
  go_enter Tryd.func8, Tryd.ntmps8
  go_wp2_with fail
  refine (drawFits_any a0 len0 cap0 w H0.out).mono ?_
  rintro e w1 ⟨⟨p, t, rfl, hp, ht⟩, hB1⟩
  clear H0
  have CI : Hid (∀ W, Calls Tryd.prog 16 #[.string p, .string t] W fun e w' => e = .returned (.tuple #[.bool (tfo p t), .bool (gp p && gt t)]) ∧ Below W.heap.size W w') := fun W => implFits p t W (by omega) (by omega)
  have CS : Hid (∀ W, Calls Tryd.prog 15 #[.string p, .string t] W fun e w' => e = .returned (.tuple #[.bool (tfo p t), .bool (gp p && gt t)]) ∧ Below W.heap.size W w') := fun W => specFits10 p t W (by omega) (by omega)
  have GI : Hid (∀ W, Calls Tryd.prog 12 #[.string t] W fun e w' => e = .returned (.bool (gt t)) ∧ Below W.heap.size W w') := fun W => implGoodTopic t W (by omega)
  have GS : Hid (∀ W, Calls Tryd.prog 11 #[.string t] W fun e w' => e = .returned (.bool (gt t)) ∧ Below W.heap.size W w') := fun W => specGoodTopic t W (by omega)
  have PI : Hid (∀ W, Calls Tryd.prog 14 #[.string p] W fun e w' => e = .returned (.bool (gp p)) ∧ Below W.heap.size W w') := fun W => implGoodPattern p W (by omega)
  have PS : Hid (∀ W, Calls Tryd.prog 13 #[.string p] W fun e w' => e = .returned (.bool (gp p)) ∧ Below W.heap.size W w') := fun W => specGoodPattern p W (by omega)
  obtain ⟨f, hf⟩ : ∃ f, f = tfo p t := ⟨_, rfl⟩
  obtain ⟨ok, hok⟩ : ∃ f, f = (gp p && gt t) := ⟨_, rfl⟩
  obtain ⟨G, hG⟩ : ∃ f, f = gt t := ⟨_, rfl⟩
  obtain ⟨A, hA⟩ : ∃ f, f = gp p := ⟨_, rfl⟩
  rw [← hf, ← hok] at CI CS
  rw [← hG] at GI GS
  rw [← hA] at PI PS
  have HG : Hid (G = gt t) := hG
  have n1 : (ok != ok) = false := bne_self_eq_false ok
  have n2 : (f != f) = false := bne_self_eq_false f
  have n3 : (G != G) = false := bne_self_eq_false G
  have n4 : (A != A) = false := bne_self_eq_false A
  clear hf hok hG hA
  go_wp2_with fail
  refine (CI.out _).mono ?_
  rintro e w2 ⟨rfl, hb2⟩
  have hB2 : Below w.heap.size w w2 := hB1.trans (hb2.mono hB1.size)
  clear hb2 CI
  go_wp2_with fail
  refine (CS.out _).mono ?_
  rintro e w3 ⟨rfl, hb3⟩
  have hB3 : Below w.heap.size w w3 := hB2.trans (hb3.mono hB2.size)
  clear hb3 CS hB1 hB2
  go_wp2_with fail
  refine (GI.out _).mono ?_
  rintro e w4 ⟨rfl, hb4⟩
  have hB4 : Below w.heap.size w w4 := hB3.trans (hb4.mono hB3.size)
  clear hb4 hB3
  go_wp2_with fail
  refine (GS.out _).mono ?_
  rintro e w5 ⟨rfl, hb5⟩
  have hB5 : Below w.heap.size w w5 := hB4.trans (hb5.mono hB4.size)
  clear hb5 hB4
  go_wp2_with fail
  refine (PI.out _).mono ?_
  rintro e w6 ⟨rfl, hb6⟩
  have hB6 : Below w.heap.size w w6 := hB5.trans (hb6.mono hB5.size)
  clear hb6 hB5
  go_wp2_with fail
  refine (PS.out _).mono ?_
  rintro e w7 ⟨rfl, hb7⟩
  have hB7 : Below w.heap.size w w7 := hB6.trans (hb7.mono hB6.size)
  clear hb7 hB6 PI PS GS n1 n2 n3 n4
  go_wp2_with fail
  refine (drawCovers_any a1 len1 cap1 w7 (H1.out.below hB7)).mono ?_
  rintro e w8 ⟨⟨q, r, rfl, hq, hr⟩, hb8⟩
  have hB8 : Below w.heap.size w w8 := hB7.trans (hb8.mono hB7.size)
  clear hb8 hB7 H1
  obtain ⟨c, hc⟩ : ∃ f, f = pco q r := ⟨_, rfl⟩
  obtain ⟨m, hm⟩ : ∃ f, f = pmo q r := ⟨_, rfl⟩
  obtain ⟨I, hI⟩ : ∃ f, f = (gp q && gp r) := ⟨_, rfl⟩
  have KI : Hid (∀ W, Calls Tryd.prog 18 #[.string q, .string r] W fun e w' => e = .returned (.tuple #[.bool c, .bool I]) ∧ Below W.heap.size W w') := fun W => by rw [hc, hI]; exact implCovers10 q r W (by omega) (by omega)
  have KS : Hid (∀ W, Calls Tryd.prog 17 #[.string q, .string r] W fun e w' => e = .returned (.tuple #[.bool c, .bool I]) ∧ Below W.heap.size W w') := fun W => by rw [hc, hI]; exact specCovers10 q r W (by omega) (by omega)
  have MI : Hid (∀ W, Calls Tryd.prog 20 #[.string q, .string r] W fun e w' => e = .returned (.tuple #[.bool m, .bool I]) ∧ Below W.heap.size W w') := fun W => by rw [hm, hI]; exact implMeet10 q r W (by omega) (by omega)
  have MS : Hid (∀ W, Calls Tryd.prog 19 #[.string q, .string r] W fun e w' => e = .returned (.tuple #[.bool m, .bool I]) ∧ Below W.heap.size W w') := fun W => by rw [hm, hI]; exact specMeet10 q r W (by omega) (by omega)
  have GOOD : Hid (I = true → gp q = true ∧ gp r = true) := fun h => by rw [hI, Bool.and_eq_true] at h; exact h
  have SELF : Hid (I = true → ∀ W, Calls Tryd.prog 18 #[.string q, .string q] W fun e w' => e = .returned (.tuple #[.bool true, .bool true]) ∧ Below W.heap.size W w') := fun h W => by
    have h1 := (GOOD.out h).1
    have h2 := implCovers10 q q W (by omega) (by omega)
    unfold pco at h2
    rw [h1, cvs_refl] at h2
    exact h2
  have TURN : Hid (I = true → ∀ W, Calls Tryd.prog 20 #[.string r, .string q] W fun e w' => e = .returned (.tuple #[.bool m, .bool true]) ∧ Below W.heap.size W w') := fun h W => by
    have h1 := GOOD.out h
    have h2 := implMeet10 r q W (by omega) (by omega)
    unfold pmo at h2 hm
    rw [h1.1, h1.2, mts_comm] at h2
    rw [h1.1, h1.2] at hm
    rw [hm]
    exact h2
  have FITQ : Hid (I = true → G = true → ∀ W, Calls Tryd.prog 16 #[.string q, .string t] W fun e w' => e = .returned (.tuple #[.bool (fts (spl q) (spl t)), .bool true]) ∧ Below W.heap.size W w') := fun h h' W => by
    have h1 := GOOD.out h
    have h2 := implFits q t W (by omega) (by omega)
    unfold tfo at h2
    rw [h1.1, ← HG.out, h'] at h2
    exact h2
  have FITR : Hid (I = true → G = true → ∀ W, Calls Tryd.prog 16 #[.string r, .string t] W fun e w' => e = .returned (.tuple #[.bool (fts (spl r) (spl t)), .bool true]) ∧ Below W.heap.size W w') := fun h h' W => by
    have h1 := GOOD.out h
    have h2 := implFits r t W (by omega) (by omega)
    unfold tfo at h2
    rw [h1.2, ← HG.out, h'] at h2
    exact h2
  have CM : Hid (I = true → c = true → m = true) := fun h h2 => by
    have h1 := GOOD.out h
    unfold pco at hc
    unfold pmo at hm
    rw [h1.1, h1.2] at hc hm
    rw [hc] at h2
    rw [hm]
    show (_ && mts (spl q) (spl r)) = true
    rw [cvs_mts _ _ h2]
    rfl
  have CF : Hid (I = true → c = true → fts (spl r) (spl t) = true → fts (spl q) (spl t) = true) := fun h h2 h3 => by
    have h1 := GOOD.out h
    unfold pco at hc
    rw [h1.1, h1.2] at hc
    rw [hc] at h2
    exact cvs_fts _ _ _ h2 h3
  have FM : Hid (I = true → fts (spl q) (spl t) = true → fts (spl r) (spl t) = true → m = true) := fun h h2 h3 => by
    have h1 := GOOD.out h
    unfold pmo at hm
    rw [h1.1, h1.2] at hm
    rw [hm]
    show (_ && mts (spl q) (spl r)) = true
    rw [fts_mts _ _ _ h2 h3]
    rfl
  have n1 : (c != c) = false := bne_self_eq_false c
  have n2 : (m != m) = false := bne_self_eq_false m
  have n3 : (I != I) = false := bne_self_eq_false I
  generalize fts (spl q) (spl t) = x at FITQ CF FM
  generalize fts (spl r) (spl t) = y at FITR CF FM
  clear hc hm hI hp ht hq hr GOOD HG
  go_wp2_with fail
  refine (KI.out _).mono ?_
  rintro e w2 ⟨rfl, hb2⟩
  have hB2 : Below w.heap.size w w2 := hB8.trans (hb2.mono hB8.size)
  clear hb2 KI hB8
  go_wp2_with fail
  refine (KS.out _).mono ?_
  rintro e w3 ⟨rfl, hb3⟩
  have hB3 : Below w.heap.size w w3 := hB2.trans (hb3.mono hB2.size)
  clear hb3 KS hB2
  go_wp2_with fail
  refine (MI.out _).mono ?_
  rintro e w4 ⟨rfl, hb4⟩
  have hB4 : Below w.heap.size w w4 := hB3.trans (hb4.mono hB3.size)
  clear hb4 MI hB3
  go_wp2_with fail
  refine (MS.out _).mono ?_
  rintro e w5 ⟨rfl, hb5⟩
  have hB5 : Below w.heap.size w w5 := hB4.trans (hb5.mono hB4.size)
  clear hb5 MS hB4
  cases I with
  | false =>
    clear SELF TURN FITQ FITR CM CF FM
    go_wp2
    go_ret
    exact ⟨rfl, hB5⟩
  | true =>
    replace SELF : Hid (∀ W, Calls Tryd.prog 18 #[.string q, .string q] W fun e w' => e = .returned (.tuple #[.bool true, .bool true]) ∧ Below W.heap.size W w') := SELF.out rfl
    replace TURN : Hid (∀ W, Calls Tryd.prog 20 #[.string r, .string q] W fun e w' => e = .returned (.tuple #[.bool m, .bool true]) ∧ Below W.heap.size W w') := TURN.out rfl
    replace CM : Hid (c = true → m = true) := CM.out rfl
    replace CF : Hid (c = true → y = true → x = true) := CF.out rfl
    replace FM : Hid (x = true → y = true → m = true) := FM.out rfl
    replace FITQ : Hid (G = true → ∀ W, Calls Tryd.prog 16 #[.string q, .string t] W fun e w' => e = .returned (.tuple #[.bool x, .bool true]) ∧ Below W.heap.size W w') := FITQ.out rfl
    replace FITR : Hid (G = true → ∀ W, Calls Tryd.prog 16 #[.string r, .string t] W fun e w' => e = .returned (.tuple #[.bool y, .bool true]) ∧ Below W.heap.size W w') := FITR.out rfl
    go_wp2_with fail
    refine (SELF.out _).mono ?_
    rintro e w2 ⟨rfl, hb2⟩
    have hB2 : Below w.heap.size w w2 := hB5.trans (hb2.mono hB5.size)
    clear hb2 SELF hB5
    go_wp2_with fail
    refine (TURN.out _).mono ?_
    rintro e w3 ⟨rfl, hb3⟩
    have hB3 : Below w.heap.size w w3 := hB2.trans (hb3.mono hB2.size)
    clear hb3 TURN hB2
    cases c
    all_goals cases m
    all_goals first
      | exact absurd (CM.out (by trivial)) (by decide)
      | skip
    all_goals
      clear CM
      go_wp2_with fail
      refine (GI.out _).mono ?_
      rintro e w4 ⟨rfl, hb4⟩
      have hB4 : Below w.heap.size w w4 := hB3.trans (hb4.mono hB3.size)
      clear hb4 hB3
      cases G
    all_goals try (go_wp2; go_ret; exact ⟨rfl, hB4⟩)
    all_goals
      replace FITQ := FITQ.out rfl
      replace FITR := FITR.out rfl
      go_wp2_with fail
      refine (FITQ _).mono ?_
      rintro e w5 ⟨rfl, hb5⟩
      have hB5 : Below w.heap.size w w5 := hB4.trans (hb5.mono hB4.size)
      clear hb5 hB4
      go_wp2_with fail
      refine (FITR _).mono ?_
      rintro e w6 ⟨rfl, hb6⟩
      have hB6 : Below w.heap.size w w6 := hB5.trans (hb6.mono hB5.size)
      clear hb6 hB5 FITQ FITR
      cases x
    all_goals cases y
    all_goals first
      | exact absurd (CF.out (by trivial) (by trivial)) (by decide)
      | exact absurd (FM.out (by trivial) (by trivial)) (by decide)
      | (clear CF FM; go_wp2; go_ret; exact ⟨rfl, hB6⟩)

end Go.Proofs.YtndeikgkncfmbaaDoor
