/- What FnSearch looks at: texts cut out of texts, lists of ints; the texts that it draws. -/
import Derived.Test.YtbmgcnondeoddaaKmI
import Derived.Test.YtbmgcnondeoddaaGn
import Derived.Laws.Slices
namespace Go.Proofs.Ytbmgcnondeoddaa
open Go.RowKit Plain Tpc Kmp

theorem bt_ext {a b : ByteArray} (hs : a.size = b.size) (h : ∀ i, i < a.size → bt a i = bt b i) : a = b := by
  apply ByteArray.ext
  apply Array.ext hs
  intro i h1 h2
  have := h i h1
  unfold bt at this
  rw [dif_pos (show i < a.size from h1), dif_pos (show i < b.size from h2)] at this
  exact UInt8.toNat_inj.1 this

theorem size_ext (s : ByteArray) (a b : Nat) (hb : b ≤ s.size) : (s.extract a b).size = b - a := by
  rw [ByteArray.size_extract]; omega

theorem bt_cut (s : ByteArray) (a b i : Nat) (hb : b ≤ s.size) (hi : a + i < b) : bt (s.extract a b) i = bt s (a + i) := by
  unfold bt
  rw [dif_pos (by rw [size_ext s a b hb]; omega), dif_pos (by omega), ByteArray.getElem_extract]

/-- two cuts are the same text -/
theorem cut_iff (s t : ByteArray) (a b c d : Nat) (hb : b ≤ s.size) (hd : d ≤ t.size) (hl : b - a = d - c) : s.extract a b = t.extract c d ↔ ∀ j, j < b - a → bt s (a + j) = bt t (c + j) := by
  constructor
  · intro h j hj
    rw [← bt_cut s a b j hb (by omega), h, bt_cut t c d j hd (by omega)]
  · intro h
    refine bt_ext (by rw [size_ext _ _ _ hb, size_ext _ _ _ hd, hl]) fun i hi => ?_
    rw [size_ext _ _ _ hb] at hi
    rw [bt_cut s a b i hb (by omega), bt_cut t c d i hd (by omega)]
    exact h i hi

theorem whole (p : ByteArray) : p.extract 0 p.size = p := by
  refine bt_ext (size_ext _ _ _ (Nat.le_refl _)) fun i hi => ?_
  rw [size_ext _ _ _ (Nat.le_refl _)] at hi
  rw [bt_cut _ _ _ _ (Nat.le_refl _) (by omega), Nat.zero_add]

theorem stands_cut (s p : ByteArray) (x : Nat) (h : x + p.size ≤ s.size) : s.extract x (x + p.size) = p ↔ Stands p s s.size x := by
  conv => lhs; rhs; rw [← whole p]
  rw [cut_iff s p x (x + p.size) 0 p.size h (Nat.le_refl _) (by omega)]
  constructor
  · intro hj
    exact ⟨h, fun j h1 => by rw [hj j (by omega), Nat.zero_add]⟩
  · rintro ⟨_, hj⟩ j h1
    rw [Nat.zero_add]
    exact (hj j (by omega)).symm

theorem en_cut (t : ByteArray) (k y : Nat) (hk : k < t.size) (hy : y ≤ k) : t.extract 0 y = t.extract (k + 1 - y) (k + 1) ↔ En t (sh t) k y := by
  rw [cut_iff t t 0 y (k + 1 - y) (k + 1) (by omega) (by omega) (by omega)]
  unfold En sh
  constructor
  · intro h
    refine ⟨hy, fun j hj => ?_⟩
    have := h j (by omega)
    rw [Nat.zero_add] at this
    rw [this, show k + 1 - y + j = k - y + j + 1 by omega]
  · rintro ⟨_, h⟩ j hj
    rw [Nat.zero_add, h j (by omega), show k + 1 - y + j = k - y + j + 1 by omega]

theorem str_eqB (a b : ByteArray) : (a.toList == b.toList) = decide (a = b) := by
  by_cases h : a = b
  · simp [h]
  · rw [str_neB h]; simp [h]

set_option maxRecDepth 100000 in
set_option maxHeartbeats 4000000 in
theorem sameIntsK (l : List Nat) (v1 v2 : Value) (w : World) (h1 : IntsAt w w.heap.size v1 l) (h2 : IntsAt w w.heap.size v2 l) (hl : l.length ≤ 2097152) :
    Calls Try.prog 22 #[v1, v2] w fun e w' => e = .returned (.bool true) ∧ Below w.heap.size w w' := by
  obtain ⟨ao, cap, rfl, _, hrow⟩ := h1
  obtain ⟨ao2, cap2, rfl, _, hrow2⟩ := h2
  have hne : ((l.length : Int) != (l.length : Int)) = false := by simp
  have HROW : Hid (∀ i (x : Nat), l[i]? = some x → ∃ g o, ao = some ⟨g, o, none⟩ ∧ g < w.heap.size ∧ w.cell? ⟨g, o + i, none⟩ = some (.int .i64 (x : Int))) := hrow
  have HROW2 : Hid (∀ i (x : Nat), l[i]? = some x → ∃ g o, ao2 = some ⟨g, o, none⟩ ∧ g < w.heap.size ∧ w.cell? ⟨g, o + i, none⟩ = some (.int .i64 (x : Int))) := hrow2
  clear hrow hrow2
  go_enter Try.func22, Try.ntmps22
  go_wp2
  go_loopw [13] (fun vi wr => ∃ k : Nat, k ≤ l.length ∧ vi = .int .i64 (k : Int) ∧ Below w.heap.size w wr)
    (fun vi _ => l.length - (intOf vi).toNat)
  case atStart => exact ⟨0, by omega, rfl, Below.refl _ _⟩
  case round =>
    obtain ⟨k, hk, rfl, hbw⟩ := hrel
    by_cases hlt : k < l.length
    · obtain ⟨x, hx⟩ : ∃ x, l[k]? = some x := ⟨_, List.getElem?_eq_getElem hlt⟩
      obtain ⟨g, o, rfl, hgB, hy1⟩ := HROW.out k x hx
      obtain ⟨g2, o2, rfl, hgB2, hy2⟩ := HROW2.out k x hx
      have e1 := (hbw.cell (p := ⟨g, o + k, none⟩) hgB).trans hy1
      have e2 := (hbw.cell (p := ⟨g2, o2 + k, none⟩) hgB2).trans hy2
      clear hy1 hy2 hx
      have hlt' : (k : Int) < (l.length : Int) := by omega
      have hxx : ((x : Int) != (x : Int)) = false := by simp
      go_wp2
      go_quiet (fail)
      go_wp2
      go_roundw
      case rel => exact ⟨k + 1, by omega, by go_num, below_drewT hbw⟩
      case measure => simp [intOf]; omega
    · have hke : k = l.length := by omega
      subst hke
      have hge : ¬ ((l.length : Int) < (l.length : Int)) := by omega
      go_wp2
      go_ret
      exact ⟨rfl, hbw⟩

set_option maxRecDepth 100000 in
set_option maxHeartbeats 4000000 in
theorem has_any (l : List Nat) (n : Nat) (v : Value) (w : World) (h1 : IntsAt w w.heap.size v l) (hl : l.length ≤ 2097152) :
    Calls Try.prog 23 #[v, .int .i64 (n : Int)] w fun e w' => e = .returned (.bool (decide (n ∈ l))) ∧ w' = w := by
  obtain ⟨ao, cap, rfl, _, hrow⟩ := h1
  have HROW : Hid (∀ i (x : Nat), l[i]? = some x → ∃ g o, ao = some ⟨g, o, none⟩ ∧ g < w.heap.size ∧ w.cell? ⟨g, o + i, none⟩ = some (.int .i64 (x : Int))) := hrow
  clear hrow
  obtain ⟨R, hR⟩ : ∃ R, R = decide (n ∈ l) := ⟨_, rfl⟩
  rw [← hR]
  have HR : Hid (R = decide (n ∈ l)) := hR
  clear hR
  go_enter Try.func23, Try.ntmps23
  go_wp2
  go_loopw [9] (fun vi wr => ∃ k : Nat, k ≤ l.length ∧ vi = .int .i64 (k : Int) ∧ Hid (∀ j x, j < k → l[j]? = some x → x ≠ n) ∧ wr = w)
    (fun vi _ => l.length - (intOf vi).toNat)
  case atStart => exact ⟨0, by omega, rfl, fun j x hj => by omega, rfl⟩
  case round =>
    obtain ⟨k, hk, rfl, hall, rfl⟩ := hrel
    by_cases hlt : k < l.length
    · obtain ⟨x, hx⟩ : ∃ x, l[k]? = some x := ⟨_, List.getElem?_eq_getElem hlt⟩
      obtain ⟨g, o, rfl, hgB, hy1⟩ := HROW.out k x hx
      have hlt' : (k : Int) < (l.length : Int) := by omega
      by_cases hxn : x = n
      · have hT : Hid (R = true) := by
          show _ = _
          rw [HR.out]
          simp only [decide_eq_true_eq]
          rw [← hxn]
          exact List.mem_of_getElem? hx
        have d : ((x : Int) == (n : Int)) = true := by rw [hxn]; simp
        clear hall hx hxn
        go_wp2
        go_ret
        exact ⟨by rw [hT.out]; rfl, rfl⟩
      · have d : ((x : Int) == (n : Int)) = false := by simp; omega
        have hall2 : Hid (∀ j y, j < k + 1 → l[j]? = some y → y ≠ n) := fun j y hj hy => by
          by_cases hjk : j = k
          · rw [hjk, hx] at hy
            simp at hy
            rw [← hy]; exact hxn
          · exact hall.out j y (by omega) hy
        clear hall hx hxn
        go_wp2
        go_roundw
        case rel => exact ⟨k + 1, by omega, by go_num, hall2, trivial⟩
        case measure => simp [intOf]; omega
    · have hke : k = l.length := by omega
      have hge : ¬ ((k : Int) < (l.length : Int)) := by omega
      have hF : Hid (R = false) := by
        show _ = _
        rw [HR.out]
        simp only [decide_eq_false_iff_not]
        intro hm
        obtain ⟨j, hj, hx⟩ := List.mem_iff_getElem.1 hm
        exact hall.out j n (by omega) (by rw [List.getElem?_eq_getElem hj, hx]) rfl
      clear hke hall
      go_wp2
      go_ret
      exact ⟨by rw [hF.out]; rfl, rfl⟩

/-- one of some texts that are written out -/
theorem ofK_any (b m : Nat) (Z : List ByteArray) (t : TypeId) (w : World) (hc : Cur w b m) (hm : m ≤ 900000000) (h0 : 0 < Z.length) (h1 : Z.length ≤ 100) :
    Calls Try.prog 55 #[.pointer (some ⟨b, 0, none⟩), .slice (some ⟨w.heap.size, 0, none⟩) Z.length Z.length] (w.alloc (.cells (strs Z).toArray t)) fun e w' => ∃ x, e = .returned (.string x) ∧ x ∈ Z ∧ Cur w' b (m + 2) ∧ w.grownBy w' (some b) := by
  have hbl := hc.lt
  refine (of_any b m w.heap.size Z.length Z.length (lq Z) _ (hc.alloc _) (by omega) h0 (by omega) (by omega) (fun i hi => ?_)).mono ?_
  · rw [World.cell?_alloc_at _ _ _ _ rfl, List.getElem?_toArray]
    unfold strs
    rw [List.getElem?_map, lq_at hi]
    rfl
  · rintro e w' ⟨i, hi, rfl, hc', hg⟩
    exact ⟨_, rfl, lq_mem hi, hc', Lib.grownBy_trans (World.grownBy_alloc w _ _) hg⟩

theorem small4 (Z : List ByteArray) (h : (Z.all fun x => decide (x.size ≤ 4)) = true) (x : ByteArray) (hx : x ∈ Z) : x.size ≤ 4 := by
  rw [List.all_eq_true] at h
  simpa using h x hx

set_option maxRecDepth 100000 in
set_option maxHeartbeats 4000000 in
theorem longText_any (b m : Nat) (w : World) (hc : Cur w b m) (hm : m ≤ 800000000) :
    Calls Try.prog 52 #[.pointer (some ⟨b, 0, none⟩)] w fun e w' => ∃ s : ByteArray, e = .returned (.string s) ∧ s.size ≤ 400 ∧ Cur w' b (m + 200) ∧ w.grownBy w' (some b) := by
  have hlp : ∀ (n0 : Nat) (w0 : World), n0 ≤ 90 → Cur w0 b (m + 4) → w.grownBy w0 (some b) → True := fun _ _ _ _ _ => trivial
  clear hlp
  go_enter Try.func52, Try.ntmps52
  go_wp2_with fail
  refine (pick_any b m _ _ hc (by omega)).mono ?_
  rintro e w1 ⟨n0, rfl, hn0, hc1, hg1⟩
  have hn16 : n0 ≤ 16 := by omega
  clear hn0 hc
  go_wp2_with fail
  refine (one_any b _ _ _ hc1 (by omega)).mono ?_
  rintro e w2 ⟨t, rfl, hc2, hg2⟩
  have hg2' := Lib.grownBy_trans hg1 hg2
  clear hc1 hg1 hg2
  go_upto_if 8 with fail
  go_cut [4] (fun s4 wx => ∃ n : Nat, n ≤ 90 ∧ s4 = .int .i64 (n : Int) ∧ Cur wx b (m + 10) ∧ w.grownBy wx (some b))
  case first =>
    cases t with
    | false =>
      go_wp2_with fail
      go_meet
      exact ⟨n0, by omega, rfl, hc2.le (by omega), hg2'⟩
    | true =>
      go_wp2_with fail
      go_meet
      exact ⟨90, by omega, rfl, hc2.le (by omega), hg2'⟩
  case rest =>
    obtain ⟨n1, hn1, rfl, hc3, hg3⟩ := hcut
    clear hc2 hg2' hn16
    go_wp2_with fail
    go_loopw [3, 4] (fun vs vn wr => ∃ (s : ByteArray) (n : Nat), n ≤ 90 ∧ vn = .int .i64 (n : Int) ∧ vs = .string s ∧ s.size + 4 * n ≤ 360 ∧ Cur wr b (m + 10 + 2 * (90 - n)) ∧ w.grownBy wr (some b))
      (fun _ vn _ => (intOf vn).toNat)
    case atStart => exact ⟨_, n1, hn1, rfl, rfl, by show (0 : Nat) + 4 * n1 ≤ 360; omega, hc3.le (by omega), hg3⟩
    case round =>
      obtain ⟨s, n, hn, rfl, rfl, hs1, hcr, hgr⟩ := hrel
      clear hc3 hg3 hn1
      by_cases h0 : n = 0
      · subst h0
        by_cases hbig : 200 < s.size
        · have d : decide ((200 : Int) < (s.size : Int)) = true := by simp; omega
          have e2 : (s.extract 0 200).size = 200 := by rw [ByteArray.size_extract]; omega
          have h2 : (200 : Int) ≤ (s.size : Int) := by omega
          go_wp2_with fail
          refine (one_any b _ _ _ hcr (by omega)).mono ?_
          rintro e w3 ⟨t, rfl, hc3, hg3⟩
          have hg3' := Lib.grownBy_trans hgr hg3
          clear hcr hgr hg3
          cases t with
          | false =>
            go_wp2
            go_ret
            exact ⟨_, rfl, by rw [e2]; omega, hc3.le (by omega), hg3'⟩
          | true =>
            go_wp2
            go_ret
            exact ⟨s, rfl, by omega, hc3.le (by omega), hg3'⟩
        · have d : decide ((200 : Int) < (s.size : Int)) = false := by simp; omega
          go_wp2
          go_ret
          exact ⟨s, rfl, by omega, hcr.le (by omega), hgr⟩
      · have hn0 : (0 : Int) < (n : Int) := by omega
        have hn1 : (0 : Int) ≤ (n : Int) - 1 := by omega
        go_wp2_with fail
        refine (ofK_any b _ [⟨#[97]⟩, ⟨#[98]⟩, ⟨#[97, 98]⟩, ⟨#[97, 97]⟩, ⟨#[104, 101, 114, 115]⟩, ⟨#[115, 104, 101]⟩] _ wr hcr (by omega) (by decide) (by decide)).mono ?_
        rintro e w3 ⟨y, rfl, hym, hc3, hg3⟩
        have hy1 := small4 _ (by rfl) y hym
        clear hym
        go_wp2
        go_roundw
        case rel => exact ⟨s ++ y, n - 1, by omega, by go_num, rfl, by rw [ByteArray.size_append]; omega, hc3.le (by omega), Lib.grownBy_trans hgr hg3⟩
        case measure => simp [intOf]; omega

set_option maxRecDepth 100000 in
set_option maxHeartbeats 4000000 in
theorem word_any (b m : Nat) (w : World) (hc : Cur w b m) (hm : m ≤ 800000000) :
    Calls Try.prog 53 #[.pointer (some ⟨b, 0, none⟩)] w fun e w' => ∃ s : ByteArray, e = .returned (.string s) ∧ s.size ≤ 4 ∧ Cur w' b (m + 2) ∧ w.grownBy w' (some b) := by
  go_enter Try.func53, Try.ntmps53
  go_wp2_with fail
  refine (ofK_any b _ [⟨#[97]⟩, ⟨#[97, 98]⟩, ⟨#[97, 98, 97]⟩, ⟨#[104, 101]⟩, ⟨#[115, 104, 101]⟩, ⟨#[104, 101, 114, 115]⟩, ⟨#[104, 105, 115]⟩, ⟨#[97, 97, 97]⟩, ⟨#[98]⟩] _ w hc (by omega) (by decide) (by decide)).mono ?_
  rintro e w3 ⟨y, rfl, hym, hc3, hg3⟩
  have hy1 := small4 _ (by rfl) y hym
  clear hym
  go_wp2
  go_ret
  exact ⟨y, rfl, hy1, hc3, hg3⟩

set_option maxRecDepth 100000 in
set_option maxHeartbeats 4000000 in
theorem drawFind_any (ao : Option Addr) (len cap : Nat) (w : World) (hcode : CodeAt w ao len) :
    Calls Try.prog 21 #[.slice ao len cap] w fun e w' => (∃ s p : ByteArray, e = .returned (.tuple #[.string s, .string p]) ∧ s.size ≤ 400 ∧ p.size ≤ 400) ∧ Below w.heap.size w w' := by
  have hc0 := Cur.made (cap := cap) hcode 79
  go_enter Try.func21, Try.ntmps21
  go_wp2_with fail
  refine (longText_any w.heap.size 0 _ hc0 (by omega)).mono ?_
  rintro e w1 ⟨s, rfl, hs, hc1, hg1⟩
  clear hc0
  go_wp2_with fail
  refine (word_any w.heap.size _ _ hc1 (by omega)).mono ?_
  rintro e w2 ⟨p, rfl, hp, hc2, hg2⟩
  have hg2' := Lib.grownBy_trans hg1 hg2
  clear hc1 hg1 hg2
  go_wp2_with fail
  refine (one_any w.heap.size _ _ _ hc2 (by omega)).mono ?_
  rintro e w3 ⟨o, rfl, hc3, hg3⟩
  have hg := Lib.grownBy_trans hg2' hg3
  clear hc2 hg2' hg3
  cases o with
  | false =>
    go_wp2
    go_ret2
    exact ⟨⟨s, p, rfl, hs, by omega⟩, ((Below.refl _ w).alloc (Nat.le_refl _) _).grown hg (by simp) (fun k hk => by simp at hk; omega)⟩
  | true =>
    go_wp2_with fail
    refine (ofK_any w.heap.size _ [⟨#[]⟩, ⟨#[97, 98, 97, 98]⟩, ⟨#[97, 97, 97, 97]⟩] _ w3 hc3 (by omega) (by decide) (by decide)).mono ?_
    rintro e w4 ⟨y, rfl, hym, hc4, hg4⟩
    have hy1 := small4 _ (by rfl) y hym
    have hg' := Lib.grownBy_trans hg hg4
    clear hym
    go_wp2
    go_ret2
    exact ⟨⟨s, y, rfl, hs, by omega⟩, ((Below.refl _ w).alloc (Nat.le_refl _) _).grown hg' (by simp) (fun k hk => by simp at hk; omega)⟩

set_option maxRecDepth 100000 in
set_option maxHeartbeats 4000000 in
theorem drawBorders_any (ao : Option Addr) (len cap : Nat) (w : World) (hcode : CodeAt w ao len) :
    Calls Try.prog 24 #[.slice ao len cap] w fun e w' => (∃ s : ByteArray, e = .returned (.string s) ∧ s.size ≤ 400) ∧ Below w.heap.size w w' := by
  have hc0 := Cur.made (cap := cap) hcode 79
  go_enter Try.func24, Try.ntmps24
  go_wp2_with fail
  refine (longText_any w.heap.size 0 _ hc0 (by omega)).mono ?_
  rintro e w1 ⟨s, rfl, hs, hc1, hg1⟩
  go_wp2
  go_ret
  exact ⟨⟨s, rfl, hs⟩, ((Below.refl _ w).alloc (Nat.le_refl _) _).grown hg1 (by simp) (fun k hk => by simp at hk; omega)⟩

end Go.Proofs.Ytbmgcnondeoddaa
