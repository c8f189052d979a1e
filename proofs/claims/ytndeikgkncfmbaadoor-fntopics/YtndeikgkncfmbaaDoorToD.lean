/- Topics and patterns that the model draws. -/
import Derived.Test.YtndeikgkncfmbaaDoorToN
import Derived.Test.YtndeikgkncfmbaaDoorGn
import Derived.Laws.Slices
namespace Go.Proofs.YtndeikgkncfmbaaDoor
open Go.RowKit Plain Tpc

/-- one of some texts that are written out -/
theorem ofL_any (b m : Nat) (Z : List ByteArray) (t : TypeId) (w : World) (hc : Cur w b m) (hm : m ≤ 900000000) (h0 : 0 < Z.length) (h1 : Z.length ≤ 100) :
    Calls Tryd.prog 68 #[.pointer (some ⟨b, 0, none⟩), .slice (some ⟨w.heap.size, 0, none⟩) Z.length Z.length] (w.alloc (.cells (strs Z).toArray t)) fun e w' => ∃ x, e = .returned (.string x) ∧ x ∈ Z ∧ Cur w' b (m + 2) ∧ w.grownBy w' (some b) := by
  have hbl := hc.lt
  refine (of_any b m w.heap.size Z.length Z.length (lq Z) _ (hc.alloc _) (by omega) h0 (by omega) (by omega) (fun i hi => ?_)).mono ?_
  · rw [World.cell?_alloc_at _ _ _ _ rfl, List.getElem?_toArray]
    unfold strs
    rw [List.getElem?_map, lq_at hi]
    rfl
  · rintro e w' ⟨i, hi, rfl, hc', hg⟩
    exact ⟨_, rfl, lq_mem hi, hc', Lib.grownBy_trans (World.grownBy_alloc w _ _) hg⟩

theorem Tpc.small_of (Z : List ByteArray) (h : (Z.all fun x => decide (x.size ≤ 13)) = true) (x : ByteArray) (hx : x ∈ Z) : x.size ≤ 13 := by
  rw [List.all_eq_true] at h
  simpa using h x hx

theorem Tpc.some_of (Z : List ByteArray) (h : (Z.all fun x => decide (1 ≤ x.size)) = true) (x : ByteArray) (hx : x ∈ Z) : 1 ≤ x.size := by
  rw [List.all_eq_true] at h
  simpa using h x hx

theorem index_last (s : ByteArray) (h : 1 ≤ s.size) : ∃ x : Nat, x < 256 ∧ ∀ w : World, (Instr.index 9 (.string s) (.int .i64 ((s.size : Int) - 1))).run Tryd.prog w = .ok (.int .u8 (x : Int)) w := by
  have hj : ((s.size : Int) - 1).toNat < s.size := by omega
  refine ⟨(s[((s.size : Int) - 1).toNat]'hj).toNat, UInt8.toNat_lt _, fun w => ?_⟩
  rw [run_index_string w 9 s .i64 ((s.size : Int) - 1) Tryd.underlying9, dif_pos ⟨by omega, by omega⟩]

set_option maxRecDepth 100000 in
set_option maxHeartbeats 4000000 in
theorem topic_any (b m : Nat) (w : World) (hc : Cur w b m) (hm : m ≤ 800000000) :
    Calls Tryd.prog 48 #[.pointer (some ⟨b, 0, none⟩)] w fun e w' => ∃ s : ByteArray, e = .returned (.string s) ∧ s.size ≤ 100 ∧ Cur w' b (m + 20) ∧ w.grownBy w' (some b) := by
  go_enter Tryd.func48, Tryd.ntmps48
  go_wp2_with fail
  refine (ofL_any b m [⟨#[97]⟩, ⟨#[98]⟩, ⟨#[99, 49]⟩] _ w hc (by omega) (by decide) (by decide)).mono ?_
  rintro e w1 ⟨x, rfl, hxm, hc1, hg1⟩
  have hx1 := small_of _ (by rfl) x hxm
  have hx0 := some_of _ (by rfl) x hxm
  clear hxm hc
  go_wp2_with fail
  refine (pick_any b (m + 2) _ _ hc1 (by omega)).mono ?_
  rintro e w2 ⟨n0, rfl, hn0, hc2, hg2⟩
  have hn3 : n0 ≤ 3 := by omega
  have hg2' := Lib.grownBy_trans hg1 hg2
  clear hn0 hc1 hg1 hg2
  go_wp2_with fail
  go_loopw [3, 4] (fun vs vn wr => ∃ (s : ByteArray) (n : Nat), n ≤ 3 ∧ vn = .int .i64 (n : Int) ∧ vs = .string s ∧ 1 ≤ s.size ∧ s.size + 14 * n ≤ 60 ∧ Cur wr b (m + 4 + 2 * (3 - n)) ∧ w.grownBy wr (some b))
    (fun _ vn _ => (intOf vn).toNat)
  case atStart => exact ⟨x, n0, hn3, rfl, rfl, hx0, by omega, hc2.le (by omega), hg2'⟩
  case round =>
    obtain ⟨s, n, hn, rfl, rfl, hs0, hs1, hcr, hgr⟩ := hrel
    clear hc2 hg2' hn3 hx0 hx1
    by_cases h0 : n = 0
    · subst h0
      go_wp2_with fail
      refine (one_any b _ _ _ hcr (by omega)).mono ?_
      rintro e w3 ⟨t, rfl, hc3, hg3⟩
      have hg3' := Lib.grownBy_trans hgr hg3
      clear hcr hgr hg3
      cases t with
      | false =>
        go_wp2
        go_ret
        exact ⟨s, rfl, by omega, hc3.le (by omega), hg3'⟩
      | true =>
        go_wp2_with fail
        refine (ofL_any b _ [⟨#[]⟩, ⟨#[97, 47, 47, 98]⟩, ⟨#[65]⟩, ⟨#[97, 47, 98, 47, 99, 47, 100, 47, 101, 47, 102]⟩, ⟨#[97, 47, 98, 47, 99, 47, 100, 47, 101, 47, 102, 47, 103]⟩, ⟨#[116, 111, 111, 108, 111, 110, 103]⟩] _ w3 hc3 (by omega) (by decide) (by decide)).mono ?_
        rintro e w4 ⟨y, rfl, hym, hc4, hg4⟩
        have hy1 := small_of _ (by rfl) y hym
        go_wp2
        go_ret
        exact ⟨y, rfl, by omega, hc4.le (by omega), Lib.grownBy_trans hg3' hg4⟩
    · have hn0 : (0 : Int) < (n : Int) := by omega
      have hn1 : (0 : Int) ≤ (n : Int) - 1 := by omega
      go_wp2_with fail
      refine (ofL_any b _ [⟨#[97]⟩, ⟨#[98]⟩, ⟨#[99, 49]⟩, ⟨#[120]⟩] _ wr hcr (by omega) (by decide) (by decide)).mono ?_
      rintro e w3 ⟨y, rfl, hym, hc3, hg3⟩
      have hy1 := small_of _ (by rfl) y hym
      clear hym
      have e1 : ((⟨#[47]⟩ : ByteArray) ++ y).size = 1 + y.size := by rw [ByteArray.size_append]; rfl
      go_wp2
      go_roundw
      case rel => exact ⟨s ++ (⟨#[47]⟩ ++ y), n - 1, by omega, by go_num, rfl, by rw [ByteArray.size_append]; omega, by rw [ByteArray.size_append, e1]; omega, hc3.le (by omega), Lib.grownBy_trans hgr hg3⟩
      case measure => simp [intOf]; omega

set_option maxRecDepth 100000 in
set_option maxHeartbeats 4000000 in
theorem pattern_any (b m : Nat) (w : World) (hc : Cur w b m) (hm : m ≤ 800000000) :
    Calls Tryd.prog 47 #[.pointer (some ⟨b, 0, none⟩)] w fun e w' => ∃ s : ByteArray, e = .returned (.string s) ∧ s.size ≤ 100 ∧ Cur w' b (m + 20) ∧ w.grownBy w' (some b) := by
  go_enter Tryd.func47, Tryd.ntmps47
  go_wp2_with fail
  refine (ofL_any b m [⟨#[97]⟩, ⟨#[98]⟩, ⟨#[43]⟩, ⟨#[43]⟩, ⟨#[97]⟩, ⟨#[35]⟩] _ w hc (by omega) (by decide) (by decide)).mono ?_
  rintro e w1 ⟨x, rfl, hxm, hc1, hg1⟩
  have hx1 := small_of _ (by rfl) x hxm
  have hx0 := some_of _ (by rfl) x hxm
  clear hxm hc
  go_wp2_with fail
  refine (pick_any b (m + 2) _ _ hc1 (by omega)).mono ?_
  rintro e w2 ⟨n0, rfl, hn0, hc2, hg2⟩
  have hn3 : n0 ≤ 2 := by omega
  have hg2' := Lib.grownBy_trans hg1 hg2
  clear hn0 hc1 hg1 hg2
  go_wp2_with fail
  go_loopw [3, 4] (fun vs vn wr => ∃ (s : ByteArray) (n : Nat), n ≤ 2 ∧ vn = .int .i64 (n : Int) ∧ vs = .string s ∧ 1 ≤ s.size ∧ s.size + 14 * n ≤ 60 ∧ Cur wr b (m + 4 + 2 * (2 - n)) ∧ w.grownBy wr (some b))
    (fun _ vn _ => (intOf vn).toNat)
  case atStart => exact ⟨x, n0, hn3, rfl, rfl, hx0, by omega, hc2.le (by omega), hg2'⟩
  case round =>
    obtain ⟨s, n, hn, rfl, rfl, hs0, hs1, hcr, hgr⟩ := hrel
    clear hc2 hg2' hn3 hx0 hx1
    by_cases h0 : n = 0
    · subst h0
      go_wp2_with fail
      refine (one_any b _ _ _ hcr (by omega)).mono ?_
      rintro e w3 ⟨t, rfl, hc3, hg3⟩
      have hg3' := Lib.grownBy_trans hgr hg3
      clear hcr hgr hg3
      cases t with
      | false =>
        go_wp2
        go_ret
        exact ⟨s, rfl, by omega, hc3.le (by omega), hg3'⟩
      | true =>
        go_wp2_with fail
        refine (ofL_any b _ [⟨#[]⟩, ⟨#[35, 47, 97]⟩, ⟨#[97, 43]⟩, ⟨#[43, 47, 43, 47, 43, 47, 43, 47, 43, 47, 35]⟩, ⟨#[97, 47, 98, 47, 99, 47, 100, 47, 101, 47, 102, 47, 35]⟩] _ w3 hc3 (by omega) (by decide) (by decide)).mono ?_
        rintro e w4 ⟨y, rfl, hym, hc4, hg4⟩
        have hy1 := small_of _ (by rfl) y hym
        go_wp2
        go_ret
        exact ⟨y, rfl, by omega, hc4.le (by omega), Lib.grownBy_trans hg3' hg4⟩
    · have hn0 : (0 : Int) < (n : Int) := by omega
      have hn1 : (0 : Int) ≤ (n : Int) - 1 := by omega
      have hsz : (0 : Int) ≤ (s.size : Int) - 1 := by omega
      obtain ⟨c, hc9, hix⟩ := index_last s hs0
      by_cases h35 : c = 35
      · have e35 : ((c : Int) != 35) = false := by simp [h35]
        have e35' : ((c : Int) == 35) = true := by simp [h35]
        clear h35
        go_wp2_with fail
        refine (one_any b _ _ _ hcr (by omega)).mono ?_
        rintro e w3 ⟨t, rfl, hc3, hg3⟩
        have hg3' := Lib.grownBy_trans hgr hg3
        clear hcr hgr hg3
        cases t with
        | false =>
          go_wp2
          go_ret
          exact ⟨s, rfl, by omega, hc3.le (by omega), hg3'⟩
        | true =>
          go_wp2_with fail
          refine (ofL_any b _ [⟨#[]⟩, ⟨#[35, 47, 97]⟩, ⟨#[97, 43]⟩, ⟨#[43, 47, 43, 47, 43, 47, 43, 47, 43, 47, 35]⟩, ⟨#[97, 47, 98, 47, 99, 47, 100, 47, 101, 47, 102, 47, 35]⟩] _ w3 hc3 (by omega) (by decide) (by decide)).mono ?_
          rintro e w4 ⟨y, rfl, hym, hc4, hg4⟩
          have hy1 := small_of _ (by rfl) y hym
          go_wp2
          go_ret
          exact ⟨y, rfl, by omega, hc4.le (by omega), Lib.grownBy_trans hg3' hg4⟩
      · have e35 : ((c : Int) != 35) = true := by simp; omega
        have e35' : ((c : Int) == 35) = false := by simp; omega
        clear h35
        go_wp2_with fail
        refine (ofL_any b _ [⟨#[97]⟩, ⟨#[98]⟩, ⟨#[43]⟩, ⟨#[120]⟩, ⟨#[35]⟩] _ wr hcr (by omega) (by decide) (by decide)).mono ?_
        rintro e w3 ⟨y, rfl, hym, hc3, hg3⟩
        have hy1 := small_of _ (by rfl) y hym
        clear hym
        have e1 : ((⟨#[47]⟩ : ByteArray) ++ y).size = 1 + y.size := by rw [ByteArray.size_append]; rfl
        go_wp2
        go_roundw
        case rel => exact ⟨s ++ (⟨#[47]⟩ ++ y), n - 1, by omega, by go_num, rfl, by rw [ByteArray.size_append]; omega, by rw [ByteArray.size_append, e1]; omega, hc3.le (by omega), Lib.grownBy_trans hgr hg3⟩
        case measure => simp [intOf]; omega

set_option maxRecDepth 100000 in
set_option maxHeartbeats 4000000 in
theorem drawFits_any (ao : Option Addr) (len cap : Nat) (w : World) (hcode : CodeAt w ao len) :
    Calls Tryd.prog 21 #[.slice ao len cap] w fun e w' => (∃ p t : ByteArray, e = .returned (.tuple #[.string p, .string t]) ∧ p.size ≤ 100 ∧ t.size ≤ 100) ∧ Below w.heap.size w w' := by
  have hc0 := Cur.made (cap := cap) hcode 58
  go_enter Tryd.func21, Tryd.ntmps21
  go_wp2_with fail
  refine (pattern_any w.heap.size 0 _ hc0 (by omega)).mono ?_
  rintro e w1 ⟨p, rfl, hp, hc1, hg1⟩
  clear hc0
  go_wp2_with fail
  refine (topic_any w.heap.size 20 _ hc1 (by omega)).mono ?_
  rintro e w2 ⟨t, rfl, ht, hc2, hg2⟩
  go_wp2
  go_ret2
  have hg := Lib.grownBy_trans hg1 hg2
  exact ⟨⟨p, t, rfl, hp, ht⟩, ((Below.refl _ w).alloc (Nat.le_refl _) _).grown hg (by simp) (fun k hk => by simp at hk; omega)⟩

set_option maxRecDepth 100000 in
set_option maxHeartbeats 4000000 in
theorem drawCovers_any (ao : Option Addr) (len cap : Nat) (w : World) (hcode : CodeAt w ao len) :
    Calls Tryd.prog 22 #[.slice ao len cap] w fun e w' => (∃ p t : ByteArray, e = .returned (.tuple #[.string p, .string t]) ∧ p.size ≤ 100 ∧ t.size ≤ 100) ∧ Below w.heap.size w w' := by
  have hc0 := Cur.made (cap := cap) hcode 58
  go_enter Tryd.func22, Tryd.ntmps22
  go_wp2_with fail
  refine (pattern_any w.heap.size 0 _ hc0 (by omega)).mono ?_
  rintro e w1 ⟨p, rfl, hp, hc1, hg1⟩
  clear hc0
  go_wp2_with fail
  refine (one_any w.heap.size _ _ _ hc1 (by omega)).mono ?_
  rintro e w2 ⟨o, rfl, hc2, hg2⟩
  have hg := Lib.grownBy_trans hg1 hg2
  clear hc1 hg1 hg2
  cases o with
  | true =>
    go_wp2
    go_ret2
    exact ⟨⟨p, p, rfl, hp, hp⟩, ((Below.refl _ w).alloc (Nat.le_refl _) _).grown hg (by simp) (fun k hk => by simp at hk; omega)⟩
  | false =>
    go_wp2_with fail
    refine (pattern_any w.heap.size _ _ hc2 (by omega)).mono ?_
    rintro e w3 ⟨t, rfl, ht, hc3, hg3⟩
    have hg9 := Lib.grownBy_trans hg hg3
    go_wp2
    go_ret2
    exact ⟨⟨p, t, rfl, hp, ht⟩, ((Below.refl _ w).alloc (Nat.le_refl _) _).grown hg9 (by simp) (fun k hk => by simp at hk; omega)⟩

end Go.Proofs.YtndeikgkncfmbaaDoor
