/- The model's NosOf. -/
import Derived.Test.YtpopjapcgcnnfaaWsB
import Derived.Test.YtpopjapcgcnnfaaNsB
namespace Go.Proofs.Ytpopjapcgcnnfaa
open Go.RowKit Plain Sch Wan

set_option maxRecDepth 100000 in
set_option maxHeartbeats 2000000 in
theorem l1Has_w (l : List Int) (n : Int) (v : Value) (w : World) (h : ZAt w w.heap.size v l) (hl : l.length ≤ 2097152) :
    Calls Try.prog 83 #[v, .int .i64 n] w fun e w' => e = .returned (.bool (decide (n ∈ l))) ∧ w' = w := by
  obtain ⟨ao, cap, rfl, hlc, hcm, hrow⟩ := h
  have hcm' : cap ≤ 9223372036854775807 := by unfold maxLen at hcm; omega
  have HROW : Hid (∀ i (x : Int), l[i]? = some x → ∃ g o, ao = some ⟨g, o, none⟩ ∧ g < w.heap.size ∧ w.cell? ⟨g, o + i, none⟩ = some (.int .i64 x)) := hrow
  obtain ⟨R, hR⟩ : ∃ R, R = decide (n ∈ l) := ⟨_, rfl⟩
  rw [← hR]
  have HR : Hid (R = decide (n ∈ l)) := hR
  clear hR hrow
  go_enter Try.func83, Try.ntmps83
  go_wp2
  go_loopw [9] (fun vi wr => ∃ k : Nat, k ≤ l.length ∧ vi = .int .i64 (k : Int) ∧ Hid (∀ j x, j < k → l[j]? = some x → x ≠ n) ∧ wr = w)
    (fun vi _ => l.length - (intOf vi).toNat)
  case atStart => exact ⟨0, by omega, rfl, fun j x hj => by omega, rfl⟩
  case round =>
    obtain ⟨k, hk, rfl, hall, rfl⟩ := hrel
    by_cases hlt : k < l.length
    · have hltI : (k : Int) < (l.length : Int) := by omega
      obtain ⟨x, hx⟩ : ∃ x, l[k]? = some x := ⟨_, List.getElem?_eq_getElem hlt⟩
      obtain ⟨g, o, rfl, hg, c⟩ := HROW.out k x hx
      by_cases hxn : x = n
      · have hn : Hid (R = true) := HR.out.trans (by rw [decide_eq_true_eq, ← hxn]; exact List.mem_of_getElem? hx)
        have hxn' : (x == n) = true := by simpa using hxn
        clear hall hxn hx
        go_wp2
        go_ret
        exact ⟨by rw [hn.out]; rfl, rfl⟩
      · have hxn' : (x == n) = false := by simpa using hxn
        have hall2 : Hid (∀ j z, j < k + 1 → l[j]? = some z → z ≠ n) := fun j z hj hz => by
          by_cases hjk : j = k
          · rw [hjk, hx] at hz; cases hz; exact hxn
          · exact hall.out j z (by omega) hz
        clear hall hxn hx
        go_wp2
        go_roundw
        case rel => exact ⟨k + 1, by omega, by go_num, hall2, trivial⟩
        case measure => simp [intOf]; omega
    · have hke : k = l.length := by omega
      have hge : ¬ ((k : Int) < (l.length : Int)) := by omega
      have hn : Hid (R = false) := HR.out.trans (by
        rw [decide_eq_false_iff_not]
        intro hm
        obtain ⟨j, hj, he⟩ := List.getElem_of_mem hm
        exact hall.out j n (by omega) (by rw [List.getElem?_eq_getElem hj, he]) rfl)
      clear hall hke
      go_wp2
      go_ret
      exact ⟨by rw [hn.out]; rfl, rfl⟩

set_option maxRecDepth 100000 in
set_option maxHeartbeats 8000000 in
theorem specNos (T : List Wa) (v : Value) (w : World) (hT : WasAt w w.heap.size v T) :
    Calls Try.prog 42 #[.agg #[v]] w fun e w' => ONos w w' e (nosV T) := by
  obtain ⟨i0, hi, hz0, hz1, hz2⟩ := info_parts infoIntW
  have HT : Hid (WasAt w w.heap.size v T) := hT
  obtain ⟨ao, cap, rfl, hlc, hcm, hrow, hnm⟩ := hT
  have HROW : Hid (∀ i, i < T.length → ∃ g o, ao = some ⟨g, o, none⟩ ∧ g < w.heap.size ∧ WaIn w g (o + i * 6) (wa T i)) := hrow
  clear hrow hnm
  unfold maxLen at hcm
  obtain ⟨R, hR⟩ : ∃ R, R = nosV T := ⟨_, rfl⟩
  rw [← hR]
  have HR : Hid (R = nosV T) := hR
  clear hR
  unfold ONos
  obtain ⟨W1, hW1⟩ : ∃ W, W = w.alloc (.cells #[.slice ao T.length cap] 43) := ⟨_, rfl⟩
  have hB1 : Below w.heap.size w W1 := by rw [hW1]; exact (Below.refl _ w).alloc (Nat.le_refl _) _
  have hs1 : Hid (W1.heap.size = w.heap.size + 1) := by show _ = _; rw [hW1]; simp
  have hl1 : w.heap.size < W1.heap.size := by rw [hs1.out]; omega
  have q1 : W1.cell? ⟨w.heap.size, 0, none⟩ = some (.slice ao T.length cap) := by rw [hW1]; go_simp
  go_enter Try.func42, Try.ntmps42
  go_wp2_with fail
  rw [← hW1]
  clear hW1
  refine (specGoodF T _ _ (HT.out.below hB1)).mono ?_
  rintro e w2 ⟨rfl, hb2⟩
  have hB2 : Below w.heap.size w w2 := hB1.trans (hb2.mono (by omega))
  have q2 := (hb2.cell (p := ⟨w.heap.size, 0, none⟩) hl1).trans q1
  have hl2 : w.heap.size < w2.heap.size := by have := hb2.size; omega
  clear hb2 q1 hs1 HT
  cases hg : gf T with
  | false =>
    have hn : Hid (R = ([], false)) := HR.out.trans (by unfold nosV; rw [hg]; rfl)
    clear hg HR
    go_wp2
    go_ret2
    exact ⟨_, by rw [hn.out]; rfl, by rw [hn.out]; exact World.ownsRow_nil _ _ _ _, hB2⟩
  | true =>
    have hn : Hid (R = (nzN T 30, true)) := HR.out.trans (by unfold nosV; rw [hg]; rfl)
    obtain ⟨h0, h20⟩ := gf_len hg
    clear hg HR
    have Q2 : Hid (∀ W, Below w2.heap.size w2 W → W.cell? ⟨w.heap.size, 0, none⟩ = some (.slice ao T.length cap)) := fun W hW => (hW.cell (p := ⟨w.heap.size, 0, none⟩) hl2).trans q2
    go_wp2
    go_loopw [4, 5] (fun vl vi wr => ∃ k : Nat, k ≤ 30 ∧ vi = .int .i64 ((k : Int) + 1) ∧ Hid (ZRow wr w2.heap.size vl (nz T k)) ∧ Hid (Below w2.heap.size w2 wr))
      (fun _ vi _ => 31 - (intOf vi).toNat)
    case atStart => exact ⟨0, by omega, rfl, by show ZRow _ _ _ _; exact World.ownsRow_nil _ _ _ _, Below.refl _ _⟩
    case round =>
      obtain ⟨k, hk30, rfl, hZ, hBw⟩ := hrel
      have qr := Q2.out _ hBw.out
      by_cases hlt : k < 30
      · have hlt' : (k : Int) + 1 ≤ 30 := by omega
        have hNS : Hid (nz T (k + 1) = nz T k ++ if T.any (fun w => w.no == ((k + 1 : Nat) : Int)) then [((k + 1 : Nat) : Int)] else []) := nz_step T k
        have hNM : Hid (((k : Int) + 1) ∉ nz T k) := by
          show _ ∉ _
          rw [nz_mem]
          intro h
          omega
        have hNL : (nz T k).length ≤ 30 := by have := nz_len T k; omega
        clear q2
        go_wp2
        obtain ⟨wo, rfl⟩ : ∃ W, W = wr := ⟨_, rfl⟩
        go_loopw [4, 18] (fun vl vi wr => ∃ (j : Nat) (b : Bool), j ≤ T.length ∧ vi = .int .i64 (j : Int) ∧ Hid (b = (T.take j).any (fun w => w.no == ((k + 1 : Nat) : Int))) ∧ Hid (ZRow wr w2.heap.size vl (nz T k ++ if b then [((k + 1 : Nat) : Int)] else [])) ∧ Hid (Below w2.heap.size w2 wr))
          (fun _ vi _ => T.length - (intOf vi).toNat)
        case atStart => exact ⟨0, false, by omega, rfl, by show _ = _; simp, by show ZRow _ _ _ _; simpa using hZ.out, hBw⟩
        case round =>
          obtain ⟨j, b, hj, rfl, hb, hZj, hBj⟩ := hrel
          have hB0 : Below w.heap.size w wr := hB2.trans (hBj.out.mono (by omega))
          have hsz : w2.heap.size ≤ wr.heap.size := hBj.out.size
          by_cases hlj : j < T.length
          · have hlj' : (j : Int) < (T.length : Int) := by omega
            obtain ⟨g, o, rfl, hg, hty⟩ := HROW.out j hlj
            have hci := hty.below hB0 hg
            have hAS : Hid ((T.take (j + 1)).any (fun w => w.no == ((k + 1 : Nat) : Int)) = (b || (wa T j).no == ((k + 1 : Nat) : Int))) := by show _ = _; rw [any_step T j _ hlj, hb.out]
            have hDL : (nz T k ++ if b then [((k + 1 : Nat) : Int)] else []).length ≤ 31 := by rw [List.length_append]; split <;> simp <;> omega
            have hMem : Hid ((((k : Int) + 1) ∈ (nz T k ++ if b then [((k + 1 : Nat) : Int)] else [])) ↔ b = true) := by
              show _ ↔ _
              rw [List.mem_append]
              cases b
              · simp; exact hNM.out
              · simp
            generalize wa T j = x at hci hAS
            obtain ⟨kd, no, m, t, a, b4⟩ := x
            obtain ⟨c0, c1, c2, c3, c4, c5⟩ := hci
            dsimp only at c0 c1 c2 c3 c4 c5
            dsimp only at hAS
            clear hty hb
            obtain ⟨W3, hW3⟩ : ∃ W, W = wr.alloc (.cells #[.int .i64 kd, .int .i64 no, .int .i64 m, .string t, .int .i64 a, .int .i64 b4] 97) := ⟨_, rfl⟩
            have hA3 : Below wr.heap.size wr W3 := by rw [hW3]; exact (Below.refl _ wr).alloc (Nat.le_refl _) _
            have hB3 : Hid (Below w2.heap.size w2 W3) := hBj.out.trans (hA3.mono hsz)
            have hs3 : w2.heap.size ≤ W3.heap.size := hB3.out.size
            have hZ3 : Hid (ZRow W3 w2.heap.size u4 (nz T k ++ if b then [((k + 1 : Nat) : Int)] else [])) := hZj.out.below hA3
            by_cases hno : no = (k : Int) + 1
            · have hno' : (no == (k : Int) + 1) = true := by simpa using hno
              have hA1 : Hid ((T.take (j + 1)).any (fun w => w.no == ((k + 1 : Nat) : Int)) = true) := by show _ = _; rw [hAS.out, show (no == ((k + 1 : Nat) : Int)) = true by simp; omega]; simp
              clear hAS hno
              go_wp2_with fail
              rw [← hW3]
              clear hW3 c0 c1 c2 c3 c4 c5
              refine (l1Has_w _ ((k : Int) + 1) _ _ (ZAt.own hZ3.out) (by omega)).mono ?_
              rintro e w4 ⟨rfl, rfl⟩
              cases b with
              | true =>
                rw [show decide (((k : Int) + 1) ∈ (nz T k ++ if true then [((k + 1 : Nat) : Int)] else [])) = true by simp]
                clear hMem
                go_wp2
                go_roundw
                case rel => exact ⟨j + 1, true, by omega, by go_num, hA1.out.symm, hZ3, hB3⟩
                case measure => simp [intOf]; omega
              | false =>
                rw [show decide (((k : Int) + 1) ∈ (nz T k ++ if false then [((k + 1 : Nat) : Int)] else [])) = false by simp only [decide_eq_false_iff_not]; intro h; cases hMem.out.1 h]
                have hown' : w4.ownsRow w2.heap.size 3 1 u4 (nz T k).length (zints (nz T k)) := by have := hZ3.out; rw [if_neg (by decide), List.append_nil] at this; exact this
                clear hMem hZ3
                go_wp2_with (at_builtin; refine wpList_append_own _ rfl _ _ 67 rfl w2.heap.size 3 i0 (.int .i64 0) 1 8 Try.underlying67 hi hz0 hz1 hz2 rfl (by decide) _ _ _ rfl (hown'.alloc _) ⟨w4.heap.size, 0, none⟩ 1 1 [Value.int .i64 ((k : Int) + 1)] rfl rfl ?c1 ?c2 ?c3 ?c4 ?c5 ?_)
                case c1 =>
                  intro j u hj
                  match j, hj with
                  | 0, hj => simp at hj; subst hj; simp [Addr.add]
                  | j + 1, hj => simp at hj
                case c2 => first | rfl | (intro u hu; simp at hu; subst hu; rfl)
                case c3 => unfold maxLen; omega
                case c4 => omega
                case c5 => first | omega | (simp; omega)
                intro v' w6 hown6 hgrow _
                have hlt9 := hown'.lt
                have hB6 : Hid (Below w2.heap.size w2 w6) := (hB3.out.alloc hs3 _).grown hgrow (by simp; omega) (fun k hk => (hlt9 k hk).1)
                have hZ6 : Hid (ZRow w6 w2.heap.size v' (nz T k ++ if true then [((k + 1 : Nat) : Int)] else [])) := by
                  show ZRow _ _ _ _
                  rw [if_pos rfl]
                  unfold ZRow zints
                  rw [List.map_append, List.length_append, List.length_singleton]
                  simpa [zints] using hown6
                clear hgrow hown6 hlt9 hown' hB3
                go_wp2
                go_roundw
                case rel => exact ⟨j + 1, true, by omega, by go_num, hA1.out.symm, hZ6, hB6⟩
                case measure => simp [intOf]; omega
            · have hno' : (no == (k : Int) + 1) = false := by simpa using hno
              have hA1 : Hid (b = (T.take (j + 1)).any (fun w => w.no == ((k + 1 : Nat) : Int))) := by show _ = _; rw [hAS.out, show (no == ((k + 1 : Nat) : Int)) = false by simp; omega]; simp
              clear hAS hno hMem
              go_wp2
              rw [← hW3]
              clear hW3 c0 c1 c2 c3 c4 c5
              go_roundw
              case rel => exact ⟨j + 1, b, by omega, by go_num, hA1, hZ3, hB3⟩
              case measure => simp [intOf]; omega
          · have hke : j = T.length := by omega
            subst hke
            have hge : ¬ ((T.length : Int) < (T.length : Int)) := by omega
            have hZk : Hid (ZRow wr w2.heap.size u4 (nz T (k + 1))) := by
              show ZRow _ _ _ _
              rw [hNS.out]
              have h1 := hZj.out
              have h2 := hb.out
              rw [List.take_length] at h2
              rw [← h2]
              exact h1
            clear hb hZj
            go_wp2
            go_roundw
            case rel => exact ⟨k + 1, by omega, by go_num, hZk, hBj⟩
            case measure => simp [intOf]; omega
      · have hke : k = 30 := by omega
        subst hke
        have hge : ¬ (((30 : Nat) : Int) + 1 ≤ 30) := by omega
        have hZe := hZ.out
        have HZ : Hid (wr.ownsRow w2.heap.size 3 1 u4 (nzN T 30).length (ints (nzN T 30))) := by
          show World.ownsRow _ _ _ _ _ _ _
          have h9 := hZe
          unfold ZRow at h9
          rw [nz_nat, zints_nat, List.length_map] at h9
          exact h9
        have hB9 : Below w.heap.size w wr := hB2.trans (hBw.out.mono (by omega))
        clear hZe hZ
        go_wp2
        go_ret2
        refine ⟨_, by rw [hn.out]; rfl, ?_, hB9⟩
        rw [hn.out]
        have h9 := HZ.out
        refine ⟨h9.1, ?_⟩
        rcases h9.2 with hn9 | ⟨g9, cap9, cur9, hv9, hg9, rest9⟩
        · exact .inl hn9
        · exact .inr ⟨g9, cap9, cur9, hv9, by omega, rest9⟩

end Go.Proofs.Ytpopjapcgcnnfaa
