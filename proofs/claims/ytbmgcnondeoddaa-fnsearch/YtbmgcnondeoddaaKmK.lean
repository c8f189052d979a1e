/- The law FnSearch, walked: for what is drawn from the bytes it answers true. -/
import Derived.Test.YtbmgcnondeoddaaKmJ
namespace Go.Proofs.Ytbmgcnondeoddaa
open Go.RowKit Plain Tpc Kmp

theorem fof_tells (s p : ByteArray) (h : (fof s p).2.2 = true) : (∀ x, x + p.size ≤ s.size → (s.extract x (x + p.size) = p ↔ x ∈ (fof s p).1)) ∧ (∀ x ∈ (fof s p).1, x + p.size ≤ s.size) ∧ (fof s p).2.1 ≤ 2 * s.size := by
  unfold fof at h ⊢
  by_cases hc : s.size ≤ 200 ∧ 1 ≤ p.size ∧ p.size ≤ 200
  · rw [if_pos hc]
    dsimp only
    obtain ⟨_, _, h3⟩ := st_tells p s (by omega) s.size
    have h4 := st_looks p s (bors_sh p p.size) (by omega) s.size
    exact ⟨fun x hx => by rw [stands_cut s p x hx, h3 x], fun x hx => ((h3 x).1 hx).1, by omega⟩
  · rw [if_neg hc] at h
    simp at h

theorem fof_small (s p : ByteArray) : (fof s p).2.1 ≤ 400 := by
  unfold fof
  split
  · rename_i hc
    have h4 := st_looks p s (bors_sh p p.size) (by omega) s.size
    dsimp only; omega
  · simp

theorem bof_tells (t : ByteArray) (k : Nat) (hk : k < (bof t).1.length) : k < t.size ∧ (bof t).1.getD k 0 ≤ k ∧ t.extract 0 ((bof t).1.getD k 0) = t.extract (k + 1 - (bof t).1.getD k 0) (k + 1) ∧ ∀ y, (bof t).1.getD k 0 < y → y ≤ k → ¬ t.extract 0 y = t.extract (k + 1 - y) (k + 1) := by
  unfold bof at hk ⊢
  by_cases hc : 1 ≤ t.size ∧ t.size ≤ 200
  · rw [if_pos hc] at hk ⊢
    dsimp only at hk ⊢
    rw [bors_len] at hk
    have hs := bors_sh t t.size k
    obtain ⟨g1, g2⟩ := bors_good t t.size (k + 1) (by omega) (by omega)
    rw [Nat.add_sub_cancel] at g1 g2
    exact ⟨hk, hs, (en_cut t k _ hk hs).2 g1, fun y h1 h2 => fun h => g2 y h1 (by omega) ((en_cut t k y hk h2).1 h)⟩
  · rw [if_neg hc] at hk
    simp at hk

theorem pof_tells (t : ByteArray) (h : (pof t).2 = true) : (pof t).1 ≤ t.size ∧ t.size ≤ 200 ∧ ∀ i, (pof t).1 ≤ i → i < t.size → bt t i = bt t (i - (pof t).1) := by
  unfold pof at h ⊢
  by_cases hc : 1 ≤ t.size ∧ t.size ≤ 200
  · rw [if_pos hc] at h ⊢
    exact ⟨by dsimp only; omega, hc.2, fun i h1 h2 => period t (by omega) i h1 h2⟩
  · rw [if_neg hc] at h
    simp at h

set_option maxRecDepth 100000 in
set_option maxHeartbeats 16000000 in
theorem walkFnSearch (a0 : Option Addr) (len0 cap0 : Nat) (a1 : Option Addr) (len1 cap1 : Nat) (w : World) (h0 : len0 ≤ 1048576 → CodeAt w a0 len0) (h1 : len1 ≤ 1048576 → CodeAt w a1 len1) (y0 : len0 ≤ 140737488351232) (y1 : len1 ≤ 140737488351232) :
    Calls Try.prog 6 #[.slice a0 len0 cap0, .slice a1 len1 cap1] w fun e w' => e = .returned (.bool true) ∧ Below w.heap.size w w' := by
  by_cases hbig : 1048576 < len0 + len1
  · have hbig' : (1048576 : Int) < (len0 : Int) + (len1 : Int) := by omega
    clear h0 h1
    go_enter Try.func6, Try.ntmps6
    go_wp2
    go_ret
    exact ⟨rfl, Below.refl _ _⟩
  have hbig' : ¬ (1048576 : Int) < (len0 : Int) + (len1 : Int) := by omega
  have H0 : Hid (CodeAt w a0 len0) := h0 (by omega)
  have H1 : Hid (CodeAt w a1 len1) := h1 (by omega)
  clear h0 h1 hbig
  go_enter Try.func6, Try.ntmps6
  go_wp2_with fail
  refine (drawFind_any a0 len0 cap0 w H0.out).mono ?_
  rintro e w1 ⟨⟨s, p, rfl, hs, hp⟩, hB1⟩
  clear H0
  have hlen := fof_len s p
  have hlo := fof_small s p
  have HT : Hid ((fof s p).2.2 = true → (∀ x, x + p.size ≤ s.size → (s.extract x (x + p.size) = p ↔ x ∈ (fof s p).1)) ∧ (∀ x ∈ (fof s p).1, x + p.size ≤ s.size) ∧ (fof s p).2.1 ≤ 2 * s.size) := fof_tells s p
  have CI : Hid (∀ W, Calls Try.prog 20 #[.string s, .string p] W fun e w' => OFind W w' e (fof s p)) := fun W => implFind s p W (by unfold maxLen; omega) (by unfold maxLen; omega)
  have CS : Hid (∀ W, Calls Try.prog 19 #[.string s, .string p] W fun e w' => OFind W w' e (fof s p)) := fun W => specFind s p W (by unfold maxLen; omega) (by unfold maxLen; omega)
  generalize fof s p = R at HT CI CS hlen hlo
  obtain ⟨l, n, ok⟩ := R
  unfold OFind at CI CS
  dsimp only at HT CI CS hlen hlo
  have hmx : l.length ≤ maxLen := by unfold maxLen; omega
  go_wp2_with fail
  refine (CI.out _).mono ?_
  rintro e w2 ⟨v2, rfl, ho2, hb2⟩
  have hB2 : Below w.heap.size w w2 := hB1.trans (hb2.mono hB1.size)
  have HZ2 : Hid (IntsAt w2 w2.heap.size v2 l) := IntsAt.own ho2 hmx
  clear hb2 CI ho2 hB1
  go_wp2_with fail
  refine (CS.out _).mono ?_
  rintro e w3 ⟨v3, rfl, ho3, hb3⟩
  have hB3 : Below w.heap.size w w3 := hB2.trans (hb3.mono hB2.size)
  have HZ23 : Hid (IntsAt w3 w3.heap.size v2 l) := HZ2.out.below hb3
  have HZ3 : Hid (IntsAt w3 w3.heap.size v3 l) := IntsAt.own ho3 hmx
  clear hb3 CS ho3 hB2 HZ2
  have n1 : (ok != ok) = false := bne_self_eq_false ok
  have n2 : ((n : Int) != (n : Int)) = false := bne_self_eq_false _
  go_wp2_with fail
  refine (sameIntsK l v2 v3 w3 HZ23.out HZ3.out (by omega)).mono ?_
  rintro e w4 ⟨rfl, hb4⟩
  have hB4 : Below w.heap.size w w4 := hB3.trans (hb4.mono hB3.size)
  have HZ4 : Hid (IntsAt w4 w4.heap.size v2 l) := HZ23.out.below hb4
  clear hb4 HZ23 HZ3 hB3 n1 n2
  go_upto_if 68 with fail
  go_cut [68] (fun s68 wx => s68 = .bool ok ∧ Below w.heap.size w wx)
  case first =>
    cases ok
    · go_wp2_with fail
      go_meet
      exact ⟨rfl, hB4⟩
    · obtain ⟨t1, t2, t3⟩ := HT.out rfl
      have HT1 : Hid (∀ x, x + p.size ≤ s.size → (s.extract x (x + p.size) = p ↔ x ∈ l)) := t1
      have HT2 : Hid (∀ x ∈ l, x + p.size ≤ s.size) := t2
      clear t1 t2 HT
      go_wp2_with fail
      go_loopw [13] (fun vi wr => ∃ i : Nat, i ≤ s.size + 1 ∧ vi = .int .i64 (i : Int) ∧ Below w4.heap.size w4 wr)
        (fun vi _ => s.size + 1 - (intOf vi).toNat)
      case atStart => exact ⟨0, by omega, rfl, Below.refl _ _⟩
      case round =>
        obtain ⟨i, hi, rfl, hbr⟩ := hrel
        by_cases hlt : i + p.size ≤ s.size
        · have hltI : decide ((i : Int) + (p.size : Int) ≤ (s.size : Int)) = true := by simp; omega
          have hle : (i : Int) + (p.size : Int) ≤ (s.size : Int) := by omega
          have CH : Hid (∀ W, Below w4.heap.size w4 W → Calls Try.prog 23 #[v2, .int .i64 (i : Int)] W fun e w' => e = .returned (.bool (decide (i ∈ l))) ∧ w' = W) := fun W hW => has_any l i v2 W (HZ4.out.below hW) (by omega)
          have heq : ((s.extract i (i + p.size)).toList == p.toList) = decide (i ∈ l) := by
            rw [str_eqB]
            exact decide_eq_decide.2 (HT1.out i hlt)
          have hself : (decide (i ∈ l) != decide (i ∈ l)) = false := bne_self_eq_false _
          generalize decide (i ∈ l) = b at CH heq hself
          go_wp2_with fail
          go_quiet ((go_at_call 23; exact Calls.quiet_of_same (CH.out _ (by first | exact below_drewT hbr | exact hbr))))
          go_wp2
          go_roundw
          case rel => exact ⟨i + 1, by omega, by go_num, below_drewT hbr⟩
          case measure => simp [intOf]; omega
        · have hltI : decide ((i : Int) + (p.size : Int) ≤ (s.size : Int)) = false := by simp; omega
          have hle : ¬ (i : Int) + (p.size : Int) ≤ (s.size : Int) := by omega
          obtain ⟨ao, cap, rfl, hcap, hrow⟩ := HZ4.out.below hbr
          have HROW : Hid (∀ k (x : Nat), l[k]? = some x → ∃ g o, ao = some ⟨g, o, none⟩ ∧ g < wr.heap.size ∧ wr.cell? ⟨g, o + k, none⟩ = some (.int .i64 (x : Int))) := hrow
          have hB5 : Below w.heap.size w wr := hB4.trans (hbr.mono hB4.size)
          have hl63 : l.length ≤ 9223372036854775807 := by omega
          clear hrow HZ4 HT1 hbr hB4
          obtain ⟨wo, hwo⟩ : ∃ W, W = wr := ⟨_, rfl⟩
          rw [← hwo] at HROW hB5 ⊢
          clear hwo
          go_wp2
          go_loopw [93] (fun vk wr => ∃ k : Nat, k ≤ l.length ∧ vk = .int .i64 (k : Int) ∧ wr = wo)
            (fun vk _ => l.length - (intOf vk).toNat)
          case atStart => exact ⟨0, by omega, rfl, rfl⟩
          case round =>
            obtain ⟨k, hk, rfl, rfl⟩ := hrel
            by_cases hkl : k < l.length
            · have hkI : (k : Int) < (l.length : Int) := by omega
              obtain ⟨x, hx⟩ : ∃ x, l[k]? = some x := ⟨_, List.getElem?_eq_getElem hkl⟩
              obtain ⟨g, o, rfl, hg, c⟩ := HROW.out k x hx
              have hxm := HT2.out x (List.mem_of_getElem? hx)
              have d1 : decide ((x : Int) < 0) = false := by simp
              have d2 : decide ((s.size : Int) < (x : Int) + (p.size : Int)) = false := by simp; omega
              have d3 : ¬ ((s.size : Int) < (x : Int) + (p.size : Int)) := by omega
              clear hx
              go_wp2
              go_roundw
              case rel => exact ⟨k + 1, by omega, by go_num, trivial⟩
              case measure => simp [intOf]; omega
            · have hkI : ¬ (k : Int) < (l.length : Int) := by omega
              have d4 : decide (2 * (s.size : Int) < (n : Int)) = false := by simp; omega
              have d5 : ¬ (2 * (s.size : Int) < (n : Int)) := by omega
              go_wp2
              go_meet
              exact ⟨rfl, hB5⟩
  case rest =>
    obtain ⟨rfl, hbc⟩ := hcut
    clear HZ4 HT hB4
    go_wp2_with fail
    refine (drawBorders_any a1 len1 cap1 wc (H1.out.below hbc)).mono ?_
    rintro e w5 ⟨⟨t, rfl, ht⟩, hb5⟩
    have hB5 : Below w.heap.size w w5 := hbc.trans (hb5.mono hbc.size)
    clear hb5 hbc H1
    have hlen2 := bof_len t
    have HT2 : Hid (∀ k, k < (bof t).1.length → k < t.size ∧ (bof t).1.getD k 0 ≤ k ∧ t.extract 0 ((bof t).1.getD k 0) = t.extract (k + 1 - (bof t).1.getD k 0) (k + 1) ∧ ∀ y, (bof t).1.getD k 0 < y → y ≤ k → ¬ t.extract 0 y = t.extract (k + 1 - y) (k + 1)) := bof_tells t
    have HP : Hid ((pof t).2 = true → (pof t).1 ≤ t.size ∧ t.size ≤ 200 ∧ ∀ i, (pof t).1 ≤ i → i < t.size → bt t i = bt t (i - (pof t).1)) := pof_tells t
    have CI : Hid (∀ W, Calls Try.prog 13 #[.string t] W fun e w' => ONats W w' e (bof t)) := fun W => implBorders t W (by unfold maxLen; omega)
    have CS : Hid (∀ W, Calls Try.prog 12 #[.string t] W fun e w' => ONats W w' e (bof t)) := fun W => specBorders t W (by unfold maxLen; omega)
    have PI : Hid (∀ W, Calls Try.prog 18 #[.string t] W fun e w' => e = .returned (.tuple #[.int .i64 ((pof t).1 : Int), .bool (pof t).2]) ∧ Below W.heap.size W w') := fun W => implPeriod t W (by unfold maxLen; omega)
    have PS : Hid (∀ W, Calls Try.prog 17 #[.string t] W fun e w' => e = .returned (.tuple #[.int .i64 ((pof t).1 : Int), .bool (pof t).2]) ∧ Below W.heap.size W w') := fun W => specPeriod t W (by unfold maxLen; omega)
    generalize bof t = RB at HT2 CI CS hlen2
    generalize pof t = RP at HP PI PS
    obtain ⟨B, is⟩ := RB
    obtain ⟨q, one⟩ := RP
    unfold ONats at CI CS
    dsimp only at HT2 CI CS hlen2 HP PI PS
    have hmx : B.length ≤ maxLen := by unfold maxLen; omega
    go_wp2_with fail
    refine (CI.out _).mono ?_
    rintro e w6 ⟨v6, rfl, ho6, hb6⟩
    have hB6 : Below w.heap.size w w6 := hB5.trans (hb6.mono hB5.size)
    have HZ6 : Hid (IntsAt w6 w6.heap.size v6 B) := IntsAt.own ho6 hmx
    clear hb6 CI ho6 hB5
    go_wp2_with fail
    refine (CS.out _).mono ?_
    rintro e w7 ⟨v7, rfl, ho7, hb7⟩
    have hB7 : Below w.heap.size w w7 := hB6.trans (hb7.mono hB6.size)
    have HZ67 : Hid (IntsAt w7 w7.heap.size v6 B) := HZ6.out.below hb7
    have HZ7 : Hid (IntsAt w7 w7.heap.size v7 B) := IntsAt.own ho7 hmx
    clear hb7 CS ho7 hB6 HZ6
    go_wp2_with fail
    refine (PI.out _).mono ?_
    rintro e w8 ⟨rfl, hb8⟩
    have hB8 : Below w.heap.size w w8 := hB7.trans (hb8.mono hB7.size)
    have HZ68 : Hid (IntsAt w8 w8.heap.size v6 B) := HZ67.out.below hb8
    have HZ78 : Hid (IntsAt w8 w8.heap.size v7 B) := HZ7.out.below hb8
    clear hb8 PI hB7 HZ67 HZ7
    go_wp2_with fail
    refine (PS.out _).mono ?_
    rintro e w9 ⟨rfl, hb9⟩
    have hB9 : Below w.heap.size w w9 := hB8.trans (hb9.mono hB8.size)
    have HZ69 : Hid (IntsAt w9 w9.heap.size v6 B) := HZ68.out.below hb9
    have HZ79 : Hid (IntsAt w9 w9.heap.size v7 B) := HZ78.out.below hb9
    have n1 : (is != is) = false := bne_self_eq_false _
    have n2 : (one != one) = false := bne_self_eq_false _
    have n3 : ((q : Int) != (q : Int)) = false := bne_self_eq_false _
    clear hb9 PS hB8 HZ68 HZ78
    go_wp2_with fail
    refine (sameIntsK B v6 v7 w9 HZ69.out HZ79.out (by omega)).mono ?_
    rintro e w10 ⟨rfl, hb10⟩
    have hB10 : Below w.heap.size w w10 := hB9.trans (hb10.mono hB9.size)
    obtain ⟨ao, cap, hv6, hcap, hrow⟩ := HZ69.out.below hb10
    have HROW : Hid (∀ k (x : Nat), B[k]? = some x → ∃ g o, ao = some ⟨g, o, none⟩ ∧ g < w10.heap.size ∧ w10.cell? ⟨g, o + k, none⟩ = some (.int .i64 (x : Int))) := hrow
    subst hv6
    clear hb10 HZ69 HZ79 hB9 hrow
    have hBl63 : B.length ≤ 9223372036854775807 := by omega
    go_wp2_with fail
    go_loopw [157] (fun vk wr => ∃ k : Nat, k ≤ B.length ∧ vk = .int .i64 (k : Int) ∧ Below w10.heap.size w10 wr)
      (fun vk _ => B.length - (intOf vk).toNat)
    case atStart => exact ⟨0, by omega, rfl, Below.refl _ _⟩
    case round =>
      obtain ⟨k, hk, rfl, hbr⟩ := hrel
      by_cases hkl : k < B.length
      · have hkI : (k : Int) < (B.length : Int) := by omega
        obtain ⟨x, hx⟩ : ∃ x, B[k]? = some x := ⟨_, List.getElem?_eq_getElem hkl⟩
        obtain ⟨g, o, hao, hg, c⟩ := HROW.out k x hx
        have c' := (hbr.cell (p := ⟨g, o + k, none⟩) hg).trans c
        obtain ⟨hkt, hxk, hxe, hxm⟩ := HT2.out k hkl
        rw [show B.getD k 0 = x by rw [List.getD_eq_getElem?_getD, hx]; rfl] at hxk hxe hxm
        have HXM : Hid (∀ y, x < y → y ≤ k → ¬ t.extract 0 y = t.extract (k + 1 - y) (k + 1)) := hxm
        obtain ⟨m, hm⟩ : ∃ m, m = k + 1 - x := ⟨_, rfl⟩
        rw [← hm] at hxe
        have hmI : (k : Int) + 1 - (x : Int) = (m : Int) := by omega
        have hmk : (m : Int) ≤ (k : Int) + 1 := by omega
        have hkt1 : (k : Int) + 1 ≤ (t.size : Int) := by omega
        have hmkN : m ≤ k + 1 := by omega
        have hktN : k + 1 ≤ t.size := by omega
        have hxt : (x : Int) ≤ (t.size : Int) := by omega
        have d1 : decide ((k : Int) < (x : Int)) = false := by simp; omega
        have d1N : decide (k < x) = false := by simp; omega
        have hw1 : IntKind.i64.wrap ((k : Int) + 1) = (k : Int) + 1 := by rw [IntKind.wrap_i64]; omega
        have hw2 : IntKind.i64.wrap (m : Int) = (m : Int) := by rw [IntKind.wrap_i64]; omega
        have d2 : ((t.extract 0 x).toList == (t.extract m (k + 1)).toList) = true := by rw [hxe]; simp
        subst hao
        clear hx c hxm hxe hm HROW
        go_wp2_with fail
        go_quiet (fail)
        obtain ⟨wo, hwo⟩ : ∃ W, W = wr := ⟨_, rfl⟩
        rw [← hwo] at hbr ⊢
        clear hwo
        go_wp2_with fail
        go_loopw [27] (fun vy wr => ∃ y : Nat, x < y ∧ y ≤ k + 1 ∧ vy = .int .i64 (y : Int) ∧ Below w10.heap.size w10 wr)
          (fun vy _ => k + 1 - (intOf vy).toNat)
        case atStart => exact ⟨x + 1, by omega, by omega, by go_num, below_drewT hbr⟩
        case round =>
          obtain ⟨y, hy1, hy2, rfl, hbr2⟩ := hrel
          by_cases hyk : y ≤ k
          · have hykI : decide ((y : Int) ≤ (k : Int)) = true := by simp; omega
            have hyI : (y : Int) ≤ (k : Int) := by omega
            have hne := HXM.out y hy1 hyk
            obtain ⟨m2, hm2⟩ : ∃ m, m = k + 1 - y := ⟨_, rfl⟩
            rw [← hm2] at hne
            have hmI2 : (k : Int) + 1 - (y : Int) = (m2 : Int) := by omega
            have hmk2 : (m2 : Int) ≤ (k : Int) + 1 := by omega
            have hyt : (y : Int) ≤ (t.size : Int) := by omega
            have hmkN2 : m2 ≤ k + 1 := by omega
            have d3 : ((t.extract 0 y).toList == (t.extract m2 (k + 1)).toList) = false := str_neB hne
            clear hne hm2
            go_wp2_with fail
            go_quiet (fail)
            go_wp2
            go_roundw
            case rel => exact ⟨y + 1, by omega, by omega, by go_num, below_drewT hbr2⟩
            case measure => simp [intOf]; omega
          · have hykI : decide ((y : Int) ≤ (k : Int)) = false := by simp; omega
            have hyI : ¬ (y : Int) ≤ (k : Int) := by omega
            go_wp2
            go_roundw
            case rel => exact ⟨k + 1, by omega, by go_num, hbr2⟩
            case measure => simp [intOf]; omega
      · have hkI : ¬ (k : Int) < (B.length : Int) := by omega
        have hB11 : Below w.heap.size w wr := hB10.trans (hbr.mono hB10.size)
        clear HROW HT2 hbr
        cases one with
        | false =>
          go_wp2
          go_ret
          exact ⟨rfl, hB11⟩
        | true =>
          obtain ⟨hq, ht2, hper⟩ := HP.out rfl
          have HPER : Hid (∀ i, q ≤ i → i < t.size → bt t i = bt t (i - q)) := hper
          clear hper HP
          obtain ⟨wo, hwo⟩ : ∃ W, W = wr := ⟨_, rfl⟩
          rw [← hwo] at hB11 ⊢
          clear hwo
          go_wp2_with fail
          go_loopw [28] (fun vi wr => ∃ i : Nat, q ≤ i ∧ i ≤ t.size ∧ vi = .int .i64 (i : Int) ∧ Below w.heap.size w wr)
            (fun vi _ => t.size - (intOf vi).toNat)
          case atStart => exact ⟨q, by omega, hq, rfl, hB11⟩
          case round =>
            obtain ⟨i, hqi, hit, rfl, hbr⟩ := hrel
            by_cases hlt : i < t.size
            · have hltI : (i : Int) < (t.size : Int) := by omega
              obtain ⟨m, hm⟩ : ∃ m, m = i - q := ⟨_, rfl⟩
              have hpe := HPER.out i hqi hlt
              rw [← hm] at hpe
              have hmI : (i : Int) - (q : Int) = (m : Int) := by omega
              have hb1 := bt_get t i hlt
              have hmt : (m : Int) < (t.size : Int) := by omega
              have hmt' : m < t.size := by omega
              have hb2 := bt_get t m hmt'
              have d : (((bt t i : Nat) : Int) != ((bt t m : Nat) : Int)) = false := by rw [hpe]; simp
              clear hpe hm
              go_wp2_with fail
              go_quiet (fail)
              go_wp2
              go_roundw
              case rel => exact ⟨i + 1, by omega, by omega, by go_num, below_drewT hbr⟩
              case measure => simp [intOf]; omega
            · have hltI : ¬ (i : Int) < (t.size : Int) := by omega
              go_wp2
              go_ret
              exact ⟨rfl, hbr⟩

end Go.Proofs.Ytbmgcnondeoddaa
