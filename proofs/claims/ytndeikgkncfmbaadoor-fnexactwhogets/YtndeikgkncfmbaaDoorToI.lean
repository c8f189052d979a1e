/- The program's levels: strings.Split, isSign, isPlainLevel, isLevel, levelCovers, canEnd. -/
import Derived.Test.YtndeikgkncfmbaaDoorToU
import Derived.Test.YtndeikgkncfmbaaDoorShf
import Derived.Shelf.Strings.Split
namespace Go.Proofs.YtndeikgkncfmbaaDoor
open Go.RowKit Plain Tpc

set_option maxRecDepth 100000 in
theorem genSplit_any (s : ByteArray) (w : World) (hs : s.size ≤ 1048576) :
    Calls Tryd.prog 76 #[.string s, .string ⟨#[47]⟩, .int .i64 0, .int .i64 (-1)] w fun e w' =>
      e = .returned (.slice (some ⟨w.heap.size, 0, none⟩) (spl s).length (spl s).length) ∧ w' = w.alloc (.cells (strs (spl s)).toArray 9) := by
  have hle := Lib.countB_le ⟨#[47]⟩ (by decide) s.size s (Nat.le_refl _)
  have hlen := spl_len s
  have hsp := splitB_spl s
  have hI : ∀ (x : ByteArray) (W : World), Calls Tryd.prog 84 #[.string x, .string ⟨#[47]⟩] W fun e w' => e = .returned (.int .i64 (Lib.indexB x ⟨#[47]⟩)) ∧ w' = W := fun x W => by
    refine (Tryd.strings_Index_one x 47 W).mono fun e w' ⟨he, hw⟩ => ⟨?_, hw⟩
    rw [he, ← Lib.index_one]
  have hC : Calls Tryd.prog 83 #[.string s, .string ⟨#[47]⟩] w fun e w' => e = .returned (.int .i64 (Lib.countB s ⟨#[47]⟩)) ∧ w' = w := by
    refine (Tryd.strings_Count_one s 47 w).mono fun e w' ⟨he, hw⟩ => ⟨?_, hw⟩
    rw [he]
    show _ = Ending.returned (Value.int .i64 ((Lib.count s.data.toList [47] : Nat) : Int))
    rw [Lib.count_one]
    rfl
  have h := Any.strings_genSplit_core Tryd.lays221 infoStr s ⟨#[47]⟩ 0 (-1) (Lib.countB s ⟨#[47]⟩ + 1) w (by omega) (by decide) (Nat.zero_le _)
    (fun x c _ => hI x _) hC (by decide) (by decide) (by rw [if_pos (by decide)]; omega)
  rw [Nat.add_sub_cancel, hsp] at h
  have e2 : Lib.cellsOf (spl s) (Lib.countB s ⟨#[47]⟩ + 1) = (strs (spl s)).toArray := by rw [← hlen]; exact Lib.cellsOf_full _
  rw [e2, ← hlen] at h
  exact h

theorem StAt.made (w : World) (L : List ByteArray) (t : TypeId) (hl : L.length ≤ maxLen) : StAt (w.alloc (.cells (strs L).toArray t)) (w.alloc (.cells (strs L).toArray t)).heap.size (.slice (some ⟨w.heap.size, 0, none⟩) L.length L.length) L := by
  refine ⟨_, _, rfl, Nat.le_refl _, hl, fun i hi => ⟨w.heap.size, 0, rfl, by simp, ?_⟩⟩
  rw [Nat.zero_add, World.cell?_alloc_at _ _ _ _ rfl, List.getElem?_toArray]
  unfold strs
  rw [List.getElem?_map, lq_at hi]
  rfl

set_option maxRecDepth 100000 in
set_option maxHeartbeats 4000000 in
theorem split_any (s : ByteArray) (w : World) (hs : s.size ≤ 1048576) :
    Calls Tryd.prog 64 #[.string s, .string ⟨#[47]⟩] w fun e w' =>
      (∃ r, e = .returned r ∧ StAt w' w'.heap.size r (spl s)) ∧ Below w.heap.size w w' := by
  have hl : (spl s).length ≤ maxLen := by have := spl_le s; unfold maxLen; omega
  have C : Hid (Calls Tryd.prog 76 #[.string s, .string ⟨#[47]⟩, .int .i64 0, .int .i64 (-1)] w fun e w' =>
      e = .returned (.slice (some ⟨w.heap.size, 0, none⟩) (spl s).length (spl s).length) ∧ w' = w.alloc (.cells (strs (spl s)).toArray 9)) := genSplit_any s w hs
  go_enter Tryd.func64, Tryd.ntmps64
  go_wp2_with fail
  refine C.out.mono ?_
  rintro e w2 ⟨rfl, hw2⟩
  have hA : Hid (StAt w2 w2.heap.size (.slice (some ⟨w.heap.size, 0, none⟩) (spl s).length (spl s).length) (spl s)) := by rw [hw2]; exact StAt.made w _ _ hl
  have hB : Below w.heap.size w w2 := by rw [hw2]; exact (Below.refl _ w).alloc (Nat.le_refl _) _
  clear hw2
  go_wp2
  go_ret
  exact ⟨⟨_, rfl, hA.out⟩, hB⟩

set_option maxRecDepth 100000 in
set_option maxHeartbeats 1000000 in
theorem isSign_any (x : ByteArray) (w : World) :
    Calls Tryd.prog 63 #[.string x] w fun e w' => e = .returned (.bool (isS x)) ∧ w' = w := by
  unfold isS
  rcases hp : isP x with _ | _
  · rcases hh : isH x with _ | _
    · have ep : (x.toList == [43]) = false := hp
      have eh : (x.toList == [35]) = false := hh
      clear hp hh
      go_enter Tryd.func63, Tryd.ntmps63
      go_wp2
      go_ret
      exact ⟨rfl, rfl⟩
    · have ep : (x.toList == [43]) = false := hp
      have eh : (x.toList == [35]) = true := hh
      clear hp hh
      go_enter Tryd.func63, Tryd.ntmps63
      go_wp2
      go_ret
      exact ⟨rfl, rfl⟩
  · have ep : (x.toList == [43]) = true := hp
    clear hp
    go_enter Tryd.func63, Tryd.ntmps63
    go_wp2
    go_ret
    exact ⟨rfl, rfl⟩

set_option maxRecDepth 100000 in
set_option maxHeartbeats 4000000 in
theorem isPlainLevel_any (s : ByteArray) (w : World) (hs : s.size ≤ 1048576) :
    Calls Tryd.prog 77 #[.string s] w fun e w' => e = .returned (.bool (lv s)) ∧ w' = w := by
  obtain ⟨R, hR⟩ : ∃ R, R = lv s := ⟨_, rfl⟩
  rw [← hR]
  have HR : Hid (R = lv s) := hR
  clear hR
  by_cases hsz1 : s.size < 1
  · have hF : Hid (R = false) := HR.out.trans (lv_out (by omega))
    have d : decide ((s.size : Int) < 1) = true := by simp; omega
    have d' : decide (s.size < 1) = true := by rw [decide_eq_true_eq]; omega
    clear hsz1
    go_enter Tryd.func77, Tryd.ntmps77
    go_wp2
    go_ret
    exact ⟨by rw [hF.out]; rfl, rfl⟩
  have d1 : decide ((s.size : Int) < 1) = false := by simp; omega
  by_cases hsz2 : 6 < s.size
  · have hF : Hid (R = false) := HR.out.trans (lv_out (by omega))
    have d : decide ((6 : Int) < (s.size : Int)) = true := by simp; omega
    clear hsz1
    go_enter Tryd.func77, Tryd.ntmps77
    go_wp2
    go_ret
    exact ⟨by rw [hF.out]; rfl, rfl⟩
  have d2 : decide ((6 : Int) < (s.size : Int)) = false := by simp; omega
  have H1 : 1 ≤ s.size := by omega
  have H2 : s.size ≤ 6 := by omega
  clear hsz1 hsz2
  go_enter Tryd.func77, Tryd.ntmps77
  go_wp2
  go_loopw [3] (fun vi wr => ∃ (k : Nat), k ≤ s.size ∧ vi = .int .i64 (k : Int) ∧ Hid (∀ j, j < k → okB (bt s j) = true) ∧ wr = w)
    (fun vi _ => s.size - (intOf vi).toNat)
  case atStart => exact ⟨0, by omega, rfl, fun j hj => by omega, rfl⟩
  case round =>
    obtain ⟨k, hk, rfl, hall, rfl⟩ := hrel
    by_cases hlt : k < s.size
    · have hltI : (k : Int) < (s.size : Int) := by omega
      have hb := bt_get s k hlt
      obtain ⟨c, hc⟩ : ∃ c, bt s k = c := ⟨_, rfl⟩
      rw [hc] at hb
      have HC : Hid (bt s k = c) := hc
      have hc255 : c < 256 := by rw [← hc]; exact bt_lt s k
      clear hc
      by_cases hok : okB c = true
      · have hall2 : Hid (∀ j, j < k + 1 → okB (bt s j) = true) := fun j hj => by
          by_cases hjk : j = k
          · rw [hjk, HC.out]; exact hok
          · exact hall.out j (by omega)
        rcases (okB_cases c).1 hok with ⟨h1, h2⟩ | ⟨h1, h2⟩
        · have d1 : decide ((97 : Int) ≤ (c : Int)) = true := by simp; omega
          have d2 : decide ((c : Int) ≤ 122) = true := by simp; omega
          have d3 : decide ((48 : Int) ≤ (c : Int)) = true := by simp; omega
          have d4 : decide ((c : Int) ≤ 57) = false := by simp; omega
          clear hok hall h1 h2
          go_wp2
          go_roundw
          case rel => exact ⟨k + 1, by omega, by go_num, hall2, trivial⟩
          case measure => simp [intOf]; omega
        · have d1 : decide ((97 : Int) ≤ (c : Int)) = false := by simp; omega
          have d2 : decide ((48 : Int) ≤ (c : Int)) = true := by simp; omega
          have d3 : decide ((c : Int) ≤ 57) = true := by simp; omega
          clear hok hall h1 h2
          go_wp2
          go_roundw
          case rel => exact ⟨k + 1, by omega, by go_num, hall2, trivial⟩
          case measure => simp [intOf]; omega
      · have hF : Hid (R = false) := HR.out.trans (lv_no hlt (by rw [HC.out]; simpa using hok))
        have hno := fun h => hok ((okB_cases c).2 h)
        clear hok hall
        by_cases h1 : 97 ≤ c
        · have h2 : 122 < c := by
            rcases Nat.lt_or_ge 122 c with h | h
            · exact h
            · exact absurd (.inl ⟨h1, h⟩) hno
          have d1 : decide ((97 : Int) ≤ (c : Int)) = true := by simp; omega
          have d2 : decide ((c : Int) ≤ 122) = false := by simp; omega
          have d3 : decide ((48 : Int) ≤ (c : Int)) = true := by simp; omega
          have d4 : decide ((c : Int) ≤ 57) = false := by simp; omega
          clear h1 h2 hno
          go_wp2
          go_ret
          exact ⟨by rw [hF.out]; rfl, rfl⟩
        · have d1 : decide ((97 : Int) ≤ (c : Int)) = false := by simp; omega
          by_cases h3 : 48 ≤ c
          · have h4 : 57 < c := by
              rcases Nat.lt_or_ge 57 c with h | h
              · exact h
              · exact absurd (.inr ⟨h3, h⟩) hno
            have d3 : decide ((48 : Int) ≤ (c : Int)) = true := by simp; omega
            have d4 : decide ((c : Int) ≤ 57) = false := by simp; omega
            clear h1 h3 h4 hno
            go_wp2
            go_ret
            exact ⟨by rw [hF.out]; rfl, rfl⟩
          · have d3 : decide ((48 : Int) ≤ (c : Int)) = false := by simp; omega
            clear h1 h3 hno
            go_wp2
            go_ret
            exact ⟨by rw [hF.out]; rfl, rfl⟩
    · have hke : k = s.size := by omega
      have hge : ¬ ((k : Int) < (s.size : Int)) := by omega
      have HF : Hid (R = true) := HR.out.trans (lv_yes H1 H2 (fun i hi => hall.out i (by omega)))
      clear hke hall
      go_wp2
      go_ret
      exact ⟨by rw [HF.out]; rfl, rfl⟩

set_option maxRecDepth 100000 in
set_option maxHeartbeats 1000000 in
theorem isLevel_any (s : ByteArray) (w : World) (hs : s.size ≤ 1048576) :
    Calls Tryd.prog 65 #[.string s] w fun e w' => e = .returned (.bool (isS s || lv s)) ∧ w' = w := by
  have A : Hid (∀ W, Calls Tryd.prog 63 #[.string s] W fun e w' => e = .returned (.bool (isS s)) ∧ w' = W) := fun W => isSign_any s W
  have B : Hid (∀ W, Calls Tryd.prog 77 #[.string s] W fun e w' => e = .returned (.bool (lv s)) ∧ w' = W) := fun W => isPlainLevel_any s W hs
  generalize isS s = a at A
  generalize lv s = b at B
  go_enter Tryd.func65, Tryd.ntmps65
  go_wp2_with fail
  refine (A.out _).mono ?_
  rintro e w1 ⟨rfl, rfl⟩
  cases a with
  | true =>
    go_wp2
    go_ret
    exact ⟨rfl, rfl⟩
  | false =>
    go_wp2_with fail
    refine (B.out _).mono ?_
    rintro e w1 ⟨rfl, rfl⟩
    go_wp2
    go_ret
    exact ⟨rfl, rfl⟩

set_option maxRecDepth 100000 in
set_option maxHeartbeats 1000000 in
theorem levelCovers_any (x y : ByteArray) (w : World) :
    Calls Tryd.prog 66 #[.string x, .string y] w fun e w' => e = .returned (.bool (eqT x y || (isP x && !isH y))) ∧ w' = w := by
  rcases hq : eqT x y with _ | _
  · have eq : (x.toList == y.toList) = false := hq
    rcases hp : isP x with _ | _
    · have ep : (x.toList == [43]) = false := hp
      clear hp hq
      go_enter Tryd.func66, Tryd.ntmps66
      go_wp2
      go_ret
      exact ⟨rfl, rfl⟩
    · have ep : (x.toList == [43]) = true := hp
      rcases hh : isH y with _ | _
      · have eh : (y.toList == [35]) = false := hh
        clear hp hq hh
        go_enter Tryd.func66, Tryd.ntmps66
        go_wp2
        go_ret
        exact ⟨rfl, rfl⟩
      · have eh : (y.toList == [35]) = true := hh
        clear hp hq hh
        go_enter Tryd.func66, Tryd.ntmps66
        go_wp2
        go_ret
        exact ⟨rfl, rfl⟩
  · have eq : (x.toList == y.toList) = true := hq
    clear hq
    go_enter Tryd.func66, Tryd.ntmps66
    go_wp2
    go_ret
    exact ⟨rfl, rfl⟩

set_option maxRecDepth 100000 in
set_option maxHeartbeats 1000000 in
theorem canEnd_any (L : List ByteArray) (v : Value) (w : World) (h : StAt w w.heap.size v L) :
    Calls Tryd.prog 67 #[v] w fun e w' => e = .returned (.bool (L.isEmpty || isH (lq L 0))) ∧ w' = w := by
  obtain ⟨ao, cap, rfl, hlc, hcm, hro⟩ := h
  unfold maxLen at hcm
  cases L with
  | nil =>
    clear hro
    go_enter Tryd.func67, Tryd.ntmps67
    go_wp2
    go_ret
    exact ⟨rfl, rfl⟩
  | cons x xs =>
    obtain ⟨g, o, rfl, hg, c⟩ := hro 0 (by simp)
    have hx : lq (x :: xs) 0 = x := rfl
    rw [hx, Nat.add_zero] at c
    rw [hx]
    obtain ⟨n, hn⟩ : ∃ n, n = (x :: xs).length := ⟨_, rfl⟩
    have hnp : 0 < n := by rw [hn]; simp
    have hn0 : ((n : Int) == 0) = false := by simp; omega
    rw [← hn] at hlc ⊢
    have hni : (0 : Int) < (n : Int) := by omega
    clear hro hx hn
    rcases hh : isH x with _ | _
    · have eh : (x.toList == [35]) = false := hh
      clear hh
      go_enter Tryd.func67, Tryd.ntmps67
      go_wp2
      go_ret
      exact ⟨rfl, rfl⟩
    · have eh : (x.toList == [35]) = true := hh
      clear hh
      go_enter Tryd.func67, Tryd.ntmps67
      go_wp2
      go_ret
      exact ⟨rfl, rfl⟩

end Go.Proofs.YtndeikgkncfmbaaDoor
