/- The program's NosOf. -/
import Derived.Test.YtpopjapcgcnnfaaWfF
import Derived.Test.YtpopjapcgcnnfaaNsA
import Derived.Test.YtpopjapcgcnnfaaShf
import Derived.Test.YtpopjapcgcnnfaaDpA
import Derived.Sort.OwnSortedInts
namespace Go.Proofs.Ytpopjapcgcnnfaa
open Go.RowKit Plain Sch Wan

attribute [local go_sem] storeJ storeF

/-- ints and a bool told, in memory of the call's own -/
def ONos (w w' : World) (e : Ending) (R : List Nat × Bool) : Prop := ∃ r, e = .returned (.tuple #[r, .bool R.2]) ∧ w'.ownsRow w.heap.size 3 1 r R.1.length (ints R.1) ∧ Below w.heap.size w w'

theorem own_short {w : World} {B e g n cap k : Nat} {xs : List Value} (h : w.ownsRow B e 1 (.slice (some ⟨g, 0, none⟩) n cap) n xs) (hk : k ≤ n) : w.ownsRow B e 1 (.slice (some ⟨g, 0, none⟩) k cap) k (xs.take k) := by
  obtain ⟨h0, h1 | ⟨g', cap', cur, hv, hB, hb, hn, hc, hs, ht⟩⟩ := h
  · cases h1.1
  · simp only [Value.slice.injEq, Option.some.injEq, Addr.mk.injEq, and_true, true_and] at hv
    obtain ⟨rfl, rfl⟩ := hv
    refine ⟨by rw [List.length_take]; omega, .inr ⟨g, cap, cur, rfl, hB, hb, by omega, hc, hs, ?_⟩⟩
    rw [← ht, List.take_take]
    congr 1
    omega

theorem zints_nat (l : List Nat) : zints (l.map (fun (n : Nat) => (n : Int))) = ints l := by
  unfold zints ints
  rw [List.map_map]
  rfl

set_option maxRecDepth 100000 in
set_option maxHeartbeats 8000000 in
theorem implNos (T : List Wa) (v : Value) (w : World) (hT : WasAt w w.heap.size v T) :
    Calls Try.prog 43 #[.agg #[v]] w fun e w' => ONos w w' e (nosV T) := by
  obtain ⟨i0, hi, hz0, hz1, hz2⟩ := info_parts infoIntW
  have HT : Hid (WasAt w w.heap.size v T) := hT
  obtain ⟨ao, cap, rfl, hlc, hcm, hrow, hnm⟩ := hT
  have HROW : Hid (∀ i, i < T.length → ∃ g o, ao = some ⟨g, o, none⟩ ∧ g < w.heap.size ∧ WaIn w g (o + i * 6) (wa T i)) := hrow
  clear hrow hnm
  unfold maxLen at hcm
  obtain ⟨R, hR⟩ : ∃ R, R = nosV T := ⟨_, rfl⟩
  rw [← hR]
  have HR : Hid (R = nosV T) := hR
  clear hR
  unfold ONos
  obtain ⟨W1, hW1⟩ : ∃ W, W = w.alloc (.cells #[.slice ao T.length cap] 43) := ⟨_, rfl⟩
  have hB1 : Below w.heap.size w W1 := by rw [hW1]; exact (Below.refl _ w).alloc (Nat.le_refl _) _
  have hs1 : Hid (W1.heap.size = w.heap.size + 1) := by show _ = _; rw [hW1]; simp
  have hl1 : w.heap.size < W1.heap.size := by rw [hs1.out]; omega
  have q1 : W1.cell? ⟨w.heap.size, 0, none⟩ = some (.slice ao T.length cap) := by rw [hW1]; go_simp
  go_enter Try.func43, Try.ntmps43
  go_wp2_with fail
  rw [← hW1]
  clear hW1
  refine (implGoodF T _ _ (HT.out.below hB1)).mono ?_
  rintro e w2 ⟨rfl, hb2⟩
  have hB2 : Below w.heap.size w w2 := hB1.trans (hb2.mono (by omega))
  have q2 := (hb2.cell (p := ⟨w.heap.size, 0, none⟩) hl1).trans q1
  have hl2 : w.heap.size < w2.heap.size := by have := hb2.size; omega
  clear hb2 q1 hs1 HT
  cases hg : gf T with
  | false =>
    have hn : Hid (R = ([], false)) := HR.out.trans (by unfold nosV; rw [hg]; rfl)
    clear hg HR
    go_wp2
    go_ret2
    exact ⟨_, by rw [hn.out]; rfl, by rw [hn.out]; exact World.ownsRow_nil _ _ _ _, hB2⟩
  | true =>
    have hn : Hid (R = (nzN T 30, true)) := HR.out.trans (by unfold nosV; rw [hg]; rfl)
    obtain ⟨h0, h20⟩ := gf_len hg
    have HG : Hid (gf T = true) := hg
    clear hg HR
    go_wp2
    go_loopw [4, 15] (fun vl vi wr => ∃ i : Nat, i ≤ T.length ∧ vi = .int .i64 (i : Int) ∧ Hid (ZRow wr w2.heap.size vl (asks (T.take i))) ∧ Hid (Below w2.heap.size w2 wr))
      (fun _ vi _ => T.length - (intOf vi).toNat)
    case atStart => exact ⟨0, by omega, rfl, World.ownsRow_nil _ _ _ _, Below.refl _ _⟩
    case round =>
      obtain ⟨i, hi', rfl, hZ, hBw⟩ := hrel
      have hB0 : Below w.heap.size w wr := hB2.trans (hBw.out.mono (by omega))
      have hsz : w2.heap.size ≤ wr.heap.size := hBw.out.size
      by_cases hlt : i < T.length
      · have hlt' : (i : Int) < (T.length : Int) := by omega
        obtain ⟨g, o, rfl, hg, hty⟩ := HROW.out i hlt
        have hci := hty.below hB0 hg
        have hST : Hid (asks (T.take (i + 1)) = asks (T.take i) ++ if isAsk (wa T i).kind then [(wa T i).no] else []) := asks_step T i hlt
        have hDL : (asks (T.take i)).length ≤ 20 := by have := asks_len T i; omega
        generalize asks (T.take i) = D at hST hDL hZ
        generalize wa T i = x at hci hST
        obtain ⟨k, n, m, t, a, b⟩ := x
        try dsimp only at hci
        obtain ⟨c0, c1, c2, c3, c4, c5⟩ := hci
        dsimp only at c0 c1 c2 c3 c4 c5
        clear hty
        obtain ⟨W3, hW3⟩ : ∃ W, W = wr.alloc (.cells #[.int .i64 k, .int .i64 n, .int .i64 m, .string t, .int .i64 a, .int .i64 b] 97) := ⟨_, rfl⟩
        have hA3 : Below wr.heap.size wr W3 := by rw [hW3]; exact (Below.refl _ wr).alloc (Nat.le_refl _) _
        have hl3 : wr.heap.size < W3.heap.size := by rw [hW3]; simp
        have z1 : W3.cell? ⟨wr.heap.size, 1, none⟩ = some (.int .i64 n) := by rw [hW3]; go_simp
        go_wp2_with fail
        rw [← hW3]
        clear hW3 c0 c1 c2 c3 c4 c5
        refine (fieldAskOf_any k _).mono ?_
        rintro e w4 ⟨fv, rfl, hv4, hb4⟩
        have hA4 : Below wr.heap.size wr w4 := hA3.trans (hb4.mono hA3.size)
        have hl4 : wr.heap.size < w4.heap.size := by have := hb4.size; omega
        have z1 := (hb4.cell (p := ⟨wr.heap.size, 1, none⟩) hl3).trans z1
        have hfv := hv4.isF
        clear hb4 hA3 hl3 hv4
        generalize askN k = b1 at *
        generalize askT k = b2 at *
        obtain ⟨W5, hW5⟩ : ∃ W, W = w4.alloc (.cells #[.bool b1, .bool b2, fnF k, fv] 116) := ⟨_, rfl⟩
        have hA5 : Below wr.heap.size wr W5 := by rw [hW5]; exact hA4.alloc (by omega) _
        have z1 : W5.cell? ⟨wr.heap.size, 1, none⟩ = some (.int .i64 n) := by rw [hW5]; exact (((Below.refl _ w4).alloc (Nat.le_refl _) _).cell (p := ⟨wr.heap.size, 1, none⟩) hl4).trans z1
        have hB5 : Hid (Below w2.heap.size w2 W5) := hBw.out.trans (hA5.mono hsz)
        have hs5 : w2.heap.size ≤ W5.heap.size := hB5.out.size
        have hown' : W5.ownsRow w2.heap.size 3 1 u4 D.length (zints D) := hZ.out.below hA5
        have HOWN : Hid (W5.ownsRow w2.heap.size 3 1 u4 D.length (zints D)) := hown'
        clear hown'
        rcases hfv with ⟨p, q, r, rfl⟩ | rfl
        · go_upto_region 8 with fail
          rw [← hW5]
          clear hW5 hA4 hl4 hBw hB0 hZ
          cases hk : isAsk k with
          | true =>
            have hE : Hid (D ++ [n] = asks (T.take (i + 1))) := by show _ = _; rw [hST.out, if_pos hk]
            clear hST hk
            have hown' := HOWN.out
            go_wp2_with (at_builtin; refine wpList_append_own _ rfl _ _ 67 rfl w2.heap.size 3 i0 (.int .i64 0) 1 8 Try.underlying67 hi hz0 hz1 hz2 rfl (by decide) _ _ _ rfl (hown'.alloc _) ⟨W5.heap.size, 0, none⟩ 1 1 [Value.int .i64 n] rfl rfl ?c1 ?c2 ?c3 ?c4 ?c5 ?_)
            case c1 =>
              intro j u hj
              match j, hj with
              | 0, hj => simp at hj; subst hj; simp [Addr.add]
              | j + 1, hj => simp at hj
            case c2 => first | rfl | (intro u hu; simp at hu; subst hu; rfl)
            case c3 => unfold maxLen; omega
            case c4 => omega
            case c5 => first | omega | (simp; omega)
            intro v' w6 hown6 hgrow _
            have hlt9 := hown'.lt
            have hB6 : Hid (Below w2.heap.size w2 w6) := (hB5.out.alloc hs5 _).grown hgrow (by simp; omega) (fun k hk => (hlt9 k hk).1)
            have hZ6 : Hid (ZRow w6 w2.heap.size v' (asks (T.take (i + 1)))) := by
              show ZRow _ _ _ _
              rw [← hE.out]
              unfold ZRow zints
              rw [List.map_append, List.length_append, List.length_singleton]
              simpa [zints] using hown6
            clear hgrow hown6 hlt9 hown' hB5 HOWN
            go_wp2
            go_roundw
            case rel => first | exact ⟨i + 1, by omega, by go_num, hZ6, hB6⟩ | ((repeat apply Exists.intro); exact ⟨⟨i + 1, by omega, by go_num, hZ6, hB6⟩, rfl⟩)
            case measure => simp [intOf]; omega
          | false =>
            have hE : Hid (ZRow W5 w2.heap.size u4 (asks (T.take (i + 1)))) := by
              show ZRow _ _ _ _
              rw [hST.out, if_neg (by rw [hk]; decide), List.append_nil]
              exact HOWN.out
            clear hST hk
            go_wp2
            go_roundw
            case rel => first | exact ⟨i + 1, by omega, by go_num, hE, hB5⟩ | ((repeat apply Exists.intro); exact ⟨⟨i + 1, by omega, by go_num, hE, hB5⟩, rfl⟩)
            case measure => simp [intOf]; omega
        · go_upto_region 8 with fail
          rw [← hW5]
          clear hW5 hA4 hl4 hBw hB0 hZ
          cases hk : isAsk k with
          | true =>
            have hE : Hid (D ++ [n] = asks (T.take (i + 1))) := by show _ = _; rw [hST.out, if_pos hk]
            clear hST hk
            have hown' := HOWN.out
            go_wp2_with (at_builtin; refine wpList_append_own _ rfl _ _ 67 rfl w2.heap.size 3 i0 (.int .i64 0) 1 8 Try.underlying67 hi hz0 hz1 hz2 rfl (by decide) _ _ _ rfl (hown'.alloc _) ⟨W5.heap.size, 0, none⟩ 1 1 [Value.int .i64 n] rfl rfl ?d1 ?d2 ?d3 ?d4 ?d5 ?_)
            case d1 =>
              intro j u hj
              match j, hj with
              | 0, hj => simp at hj; subst hj; simp [Addr.add]
              | j + 1, hj => simp at hj
            case d2 => first | rfl | (intro u hu; simp at hu; subst hu; rfl)
            case d3 => unfold maxLen; omega
            case d4 => omega
            case d5 => first | omega | (simp; omega)
            intro v' w6 hown6 hgrow _
            have hlt9 := hown'.lt
            have hB6 : Hid (Below w2.heap.size w2 w6) := (hB5.out.alloc hs5 _).grown hgrow (by simp; omega) (fun k hk => (hlt9 k hk).1)
            have hZ6 : Hid (ZRow w6 w2.heap.size v' (asks (T.take (i + 1)))) := by
              show ZRow _ _ _ _
              rw [← hE.out]
              unfold ZRow zints
              rw [List.map_append, List.length_append, List.length_singleton]
              simpa [zints] using hown6
            clear hgrow hown6 hlt9 hown' hB5 HOWN
            go_wp2
            go_roundw
            case rel => first | exact ⟨i + 1, by omega, by go_num, hZ6, hB6⟩ | ((repeat apply Exists.intro); exact ⟨⟨i + 1, by omega, by go_num, hZ6, hB6⟩, rfl⟩)
            case measure => simp [intOf]; omega
          | false =>
            have hE : Hid (ZRow W5 w2.heap.size u4 (asks (T.take (i + 1)))) := by
              show ZRow _ _ _ _
              rw [hST.out, if_neg (by rw [hk]; decide), List.append_nil]
              exact HOWN.out
            clear hST hk
            go_wp2
            go_roundw
            case rel => first | exact ⟨i + 1, by omega, by go_num, hE, hB5⟩ | ((repeat apply Exists.intro); exact ⟨⟨i + 1, by omega, by go_num, hE, hB5⟩, rfl⟩)
            case measure => simp [intOf]; omega
      · have hke : i = T.length := by omega
        subst hke
        have hge : ¬ ((T.length : Int) < (T.length : Int)) := by omega
        have hZe : ZRow wr w2.heap.size u4 (asks T) := by have := hZ.out; rw [List.take_length] at this; exact this
        have hpos := asks_some HG.out
        have hlen : (asks T).length ≤ 20 := by have := asks_len T T.length; rw [List.take_length] at this; omega
        have hEQ : Hid (Lib.compact ((asks T).mergeSort fun x y => decide (x ≤ y)) = nz T 30) := asks_nz HG.out
        rcases hZe.2 with ⟨_, h00⟩ | ⟨g, cap3, cur, rfl, hbase, hb, h1, h2, h3, h4⟩
        · omega
        generalize hzs : asks T = zs at *
        clear hzs
        have hc := Try.slices_Sort_int g 0 cap3 zs wr (holds_of_blockI hb (by simpa [zints] using h4)) (Array.getElem?_eq_some_iff.1 hb).1 (by omega)
        have HC : Hid (Calls Try.prog 84 #[.slice (some ⟨g, 0, none⟩) zs.length cap3] wr fun e w' => e = .returned (.tuple #[]) ∧ ∃ n os, w' = Go.Sort.grow (Go.Sort.putRow (Value.int .i64) (Go.Sort.ahead wr n) g 0 (zs.mergeSort fun x y => decide (x ≤ y)).toArray) os) := hc
        clear hc
        go_wp2_with fail
        refine HC.out.mono ?_
        rintro e w6 ⟨rfl, n6, os6, rfl⟩
        have hl6 : (zs.mergeSort fun x y => decide (x ≤ y)).length = zs.length := by simp
        have hO6 := ownsRow_sortedI (n := n6) (os := os6) (base := w2.heap.size) (e := 3) hl6 hbase hb h1 h2 h3
        have hG6 := grownBy_sortedI (w := wr) (g := g) (n := n6) (os := os6) (zs.mergeSort fun x y => decide (x ≤ y)).toArray
        have hB6 : Below w2.heap.size w2 (Go.Sort.grow (Go.Sort.putRow (Value.int .i64) (Go.Sort.ahead wr n6) g 0 (zs.mergeSort fun x y => decide (x ≤ y)).toArray) os6) := hBw.out.grown hG6 hsz (fun k hk => by cases hk; exact hbase)
        generalize Go.Sort.grow (Go.Sort.putRow (Value.int .i64) (Go.Sort.ahead wr n6) g 0 (zs.mergeSort fun x y => decide (x ≤ y)).toArray) os6 = W6 at hO6 hG6 hB6 ⊢
        clear hG6 HC hb h4
        generalize (zs.mergeSort fun x y => decide (x ≤ y)) = ys at hEQ hl6 hO6
        rcases hO6.2 with ⟨h00, _⟩ | ⟨g', cap', cur', hv', hbase', hb', h1', h2', h3', h4'⟩
        · cases h00
        simp only [Value.slice.injEq, Option.some.injEq, Addr.mk.injEq, and_true, true_and] at hv'
        obtain ⟨rfl, rfl⟩ := hv'
        have hc := Try.slices_Compact_int g 0 cap3 ys W6 (holds_of_blockI hb' (by rw [hl6]; simpa using h4')) (by omega) (by omega)
        rw [hl6] at hc
        have HC : Hid (Calls Try.prog 85 #[.slice (some ⟨g, 0, none⟩) zs.length cap3] W6 fun e w' => e = .returned (.slice (some ⟨g, 0, none⟩) (Lib.compact ys).length cap3) ∧ ∃ q, w' = Go.Sort.putRow (Value.int .i64) (Go.Sort.ahead W6 q) g 0 (Lib.compact ys ++ List.replicate (zs.length - (Lib.compact ys).length) 0).toArray) := hc
        have hCL : (Lib.compact ys).length ≤ zs.length := by
          rw [← hl6]
          unfold Lib.compact Lib.compactUpTo
          rw [List.length_map]
          refine Nat.le_trans (List.length_filter_le _ _) ?_
          simp
        clear hc
        have HB6 : Hid (Below w2.heap.size w2 W6) := hB6
        have HO6 : Hid (W6.heap[g]? = some (.cells cur' 3 (0, 0))) := hb'
        clear hB6 hO6 hb' h4' hBw hB0 hZ hZe hbase'
        go_wp2_with fail
        refine HC.out.mono ?_
        rintro e w7 ⟨rfl, n7, rfl⟩
        have hl7 : (Lib.compact ys ++ List.replicate (zs.length - (Lib.compact ys).length) 0).length = zs.length := by simp; omega
        have hO7 := ownsRow_sortedI (n := n7) (os := #[]) (base := w2.heap.size) (e := 3) (ss := zs) hl7 hbase HO6.out h1 h2 h3'
        have hG7 := grownBy_sortedI (w := W6) (g := g) (n := n7) (os := #[]) (Lib.compact ys ++ List.replicate (zs.length - (Lib.compact ys).length) 0).toArray
        rw [Go.Sort.grow_empty] at hO7 hG7
        have hB7 : Below w2.heap.size w2 (Go.Sort.putRow (Value.int .i64) (Go.Sort.ahead W6 n7) g 0 (Lib.compact ys ++ List.replicate (zs.length - (Lib.compact ys).length) 0).toArray) := HB6.out.grown hG7 HB6.out.size (fun k hk => by cases hk; exact hbase)
        generalize Go.Sort.putRow (Value.int .i64) (Go.Sort.ahead W6 n7) g 0 (Lib.compact ys ++ List.replicate (zs.length - (Lib.compact ys).length) 0).toArray = W7 at hO7 hG7 hB7 ⊢
        have hO8 := own_short hO7 hCL
        have HO8 : Hid (W7.ownsRow w2.heap.size 3 1 (.slice (some ⟨g, 0, none⟩) (Lib.compact ys).length cap3) (Lib.compact ys).length (zints (Lib.compact ys))) := by
          show World.ownsRow _ _ _ _ _ _ _
          have e : ((Lib.compact ys ++ List.replicate (zs.length - (Lib.compact ys).length) 0).map (Value.int .i64)).take (Lib.compact ys).length = zints (Lib.compact ys) := by
            rw [List.map_append, List.take_append_of_le_length (by simp), List.take_of_length_le (by simp)]
            rfl
          rw [e] at hO8
          exact hO8
        have HB7 : Hid (Below w.heap.size w W7) := hB2.trans (hB7.mono (by omega))
        clear hO7 hG7 hB7 hO8 HB6 HO6 HC
        rw [hEQ.out] at HO8 ⊢
        go_wp2
        go_ret2
        refine ⟨_, by rw [hn.out]; rfl, ?_, HB7.out⟩
        rw [hn.out]
        have h9 := HO8.out
        rw [nz_nat, zints_nat, List.length_map] at h9
        refine ⟨h9.1, ?_⟩
        rcases h9.2 with hn9 | ⟨g9, cap9, cur9, hv9, hg9, rest9⟩
        · exact .inl (by rw [nz_nat, List.length_map] at *; exact hn9)
        · exact .inr ⟨g9, cap9, cur9, by rw [nz_nat, List.length_map] at *; exact hv9, by omega, rest9⟩

end Go.Proofs.Ytpopjapcgcnnfaa
