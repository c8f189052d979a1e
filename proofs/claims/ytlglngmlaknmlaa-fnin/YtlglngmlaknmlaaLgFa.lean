/- What FnIn draws: a log and a place, two numbers, a text. -/
import Derived.Test.YtlglngmlaknmlaaLgEa
namespace Go.Proofs.Ytlglngmlaknmlaa
open Go.RowKit Plain Lgs Tpc

theorem small4L (Z : List ByteArray) (h : (Z.all fun x => decide (x.size ≤ 4)) = true) (x : ByteArray) (hx : x ∈ Z) : x.size ≤ 4 := by
  rw [List.all_eq_true] at h
  simpa using h x hx

set_option maxRecDepth 100000 in
set_option maxHeartbeats 4000000 in
theorem longTextL_any (b m : Nat) (w : World) (hc : Cur w b m) (hm : m ≤ 800000000) :
    Calls Try.prog 85 #[.pointer (some ⟨b, 0, none⟩)] w fun e w' => ∃ s : ByteArray, e = .returned (.string s) ∧ s.size ≤ 400 ∧ Cur w' b (m + 200) ∧ w.grownBy w' (some b) := by
  have hlp : ∀ (n0 : Nat) (w0 : World), n0 ≤ 90 → Cur w0 b (m + 4) → w.grownBy w0 (some b) → True := fun _ _ _ _ _ => trivial
  clear hlp
  go_enter Try.func85, Try.ntmps85
  go_wp2_with fail
  refine (pick_any b m _ _ hc (by omega)).mono ?_
  rintro e w1 ⟨n0, rfl, hn0, hc1, hg1⟩
  have hn16 : n0 ≤ 16 := by omega
  clear hn0 hc
  go_wp2_with fail
  refine (one_any b _ _ _ hc1 (by omega)).mono ?_
  rintro e w2 ⟨t, rfl, hc2, hg2⟩
  have hg2' := Lib.grownBy_trans hg1 hg2
  clear hc1 hg1 hg2
  go_upto_if 8 with fail
  go_cut [4] (fun s4 wx => ∃ n : Nat, n ≤ 90 ∧ s4 = .int .i64 (n : Int) ∧ Cur wx b (m + 10) ∧ w.grownBy wx (some b))
  case first =>
    cases t with
    | false =>
      go_wp2_with fail
      go_meet
      exact ⟨n0, by omega, rfl, hc2.le (by omega), hg2'⟩
    | true =>
      go_wp2_with fail
      go_meet
      exact ⟨90, by omega, rfl, hc2.le (by omega), hg2'⟩
  case rest =>
    obtain ⟨n1, hn1, rfl, hc3, hg3⟩ := hcut
    clear hc2 hg2' hn16
    go_wp2_with fail
    go_loopw [3, 4] (fun vs vn wr => ∃ (s : ByteArray) (n : Nat), n ≤ 90 ∧ vn = .int .i64 (n : Int) ∧ vs = .string s ∧ s.size + 4 * n ≤ 360 ∧ Cur wr b (m + 10 + 2 * (90 - n)) ∧ w.grownBy wr (some b))
      (fun _ vn _ => (intOf vn).toNat)
    case atStart => exact ⟨_, n1, hn1, rfl, rfl, by show (0 : Nat) + 4 * n1 ≤ 360; omega, hc3.le (by omega), hg3⟩
    case round =>
      obtain ⟨s, n, hn, rfl, rfl, hs1, hcr, hgr⟩ := hrel
      clear hc3 hg3 hn1
      by_cases h0 : n = 0
      · subst h0
        by_cases hbig : 200 < s.size
        · have d : decide ((200 : Int) < (s.size : Int)) = true := by simp; omega
          have e2 : (s.extract 0 200).size = 200 := by rw [ByteArray.size_extract]; omega
          have h2 : (200 : Int) ≤ (s.size : Int) := by omega
          go_wp2_with fail
          refine (one_any b _ _ _ hcr (by omega)).mono ?_
          rintro e w3 ⟨t, rfl, hc3, hg3⟩
          have hg3' := Lib.grownBy_trans hgr hg3
          clear hcr hgr hg3
          cases t with
          | false =>
            go_wp2
            go_ret
            exact ⟨_, rfl, by rw [e2]; omega, hc3.le (by omega), hg3'⟩
          | true =>
            go_wp2
            go_ret
            exact ⟨s, rfl, by omega, hc3.le (by omega), hg3'⟩
        · have d : decide ((200 : Int) < (s.size : Int)) = false := by simp; omega
          go_wp2
          go_ret
          exact ⟨s, rfl, by omega, hcr.le (by omega), hgr⟩
      · have hn0 : (0 : Int) < (n : Int) := by omega
        have hn1 : (0 : Int) ≤ (n : Int) - 1 := by omega
        go_wp2_with fail
        refine (ofL_any b _ [⟨#[97]⟩, ⟨#[98]⟩, ⟨#[97, 98]⟩, ⟨#[97, 97]⟩, ⟨#[104, 101, 114, 115]⟩, ⟨#[115, 104, 101]⟩] _ wr hcr (by omega) (by decide) (by decide)).mono ?_
        rintro e w3 ⟨y, rfl, hym, hc3, hg3⟩
        have hy1 := small4L _ (by rfl) y hym
        clear hym
        go_wp2
        go_roundw
        case rel => exact ⟨s ++ y, n - 1, by omega, by go_num, rfl, by rw [ByteArray.size_append]; omega, hc3.le (by omega), Lib.grownBy_trans hgr hg3⟩
        case measure => simp [intOf]; omega

set_option maxRecDepth 100000 in
set_option maxHeartbeats 4000000 in
theorem drawPI_any (ao : Option Addr) (len cap : Nat) (w : World) (h : CodeAt w ao len) :
    Calls Try.prog 43 #[.slice ao len cap] w fun e w' => (∃ (l : List ByteArray) (v : Value) (k : Int), e = .returned (.tuple #[v, .int .i64 k]) ∧ StRow w' w.heap.size v l ∧ l.length ≤ 41 ∧ Sht l) ∧ Below w.heap.size w w' := by
  have hC := Cur.made (cap := cap) h 98
  obtain ⟨W1, hW1⟩ : ∃ W, W = w.alloc (.cells #[.slice ao len cap, .int .i64 0, .int .u64 0] 98) := ⟨_, rfl⟩
  rw [← hW1] at hC
  have hB1 : Below w.heap.size w W1 := by rw [hW1]; exact (Below.refl _ w).alloc (Nat.le_refl _) _
  have hs1 : Hid (W1.heap.size = w.heap.size + 1) := by show _ = _; rw [hW1]; simp
  have HC : Hid (Cur W1 w.heap.size 0) := hC
  clear hC
  go_enter Try.func43, Try.ntmps43
  go_upto_region 2 with fail
  rw [← hW1]
  clear hW1
  go_wp2_with fail
  refine (log_any w.heap.size 0 W1 HC.out (by omega)).mono ?_
  rintro e w2 ⟨l, v, rfl, hR, hl, hS, hc2, hg2⟩
  have hB2 : Below w.heap.size w w2 := hB1.grown hg2 hB1.size (fun k hk => by simp at hk; omega)
  have HR : Hid (StRow w2 W1.heap.size v l) := hR
  obtain ⟨a2, c2, rfl⟩ := hR.slice
  have hlen : (l.length : Int) ≤ 41 := by omega
  clear hR hg2
  go_wp2_with fail
  refine (pick_any w.heap.size _ _ _ hc2 (by omega)).mono ?_
  rintro e w3 ⟨x, rfl, hx, hc3, hg3⟩
  have hB3 : Below w.heap.size w w3 := hB2.grown hg3 hB2.size (fun k hk => by simp at hk; omega)
  have hlt := World.ownsRow.lt HR.out
  have HR3 : Hid (StRow w3 w.heap.size (.slice a2 l.length c2) l) := by
    have h1 : w3.ownsRow W1.heap.size 9 1 (.slice a2 l.length c2) l.length (strs l) := own_grownL HR.out hg3 (fun g' hg' e => by have h1 := (hlt g' hg').1; have h2 := hs1.out; simp at e; omega)
    refine ⟨h1.1, ?_⟩
    rcases h1.2 with hn | ⟨g, cap, cur, hv, hg, rest⟩
    · exact .inl hn
    · exact .inr ⟨g, cap, cur, hv, by have h2 := hs1.out; omega, rest⟩
  clear hg3 hc3 hc2 hx HR
  go_wp2_with fail
  go_ret2
  exact ⟨⟨l, _, _, rfl, HR3.out, hl, hS⟩, hB3⟩

set_option maxRecDepth 100000 in
set_option maxHeartbeats 4000000 in
theorem drawNS_any (ao : Option Addr) (len cap : Nat) (w : World) (h : CodeAt w ao len) :
    Calls Try.prog 45 #[.slice ao len cap] w fun e w' => (∃ x y : Int, e = .returned (.tuple #[.int .i64 x, .int .i64 y])) ∧ Below w.heap.size w w' := by
  have hC := Cur.made (cap := cap) h 98
  obtain ⟨W1, hW1⟩ : ∃ W, W = w.alloc (.cells #[.slice ao len cap, .int .i64 0, .int .u64 0] 98) := ⟨_, rfl⟩
  rw [← hW1] at hC
  have hB1 : Below w.heap.size w W1 := by rw [hW1]; exact (Below.refl _ w).alloc (Nat.le_refl _) _
  have hs1 : W1.heap.size = w.heap.size + 1 := by rw [hW1]; simp
  have CA : Hid (Calls Try.prog 84 #[.pointer (some ⟨w.heap.size, 0, none⟩), .slice (some ⟨w.heap.size + 1, 0, none⟩) 5 5] (W1.alloc (.cells #[.int .i64 (-1), .int .i64 0, .int .i64 5, .int .i64 1000002, .int .i64 1000003] 3)) fun e w' => ∃ i, i < 5 ∧ e = .returned (.int .i64 ([-1, 0, 5, 1000002, 1000003].getD i 0)) ∧ Cur w' w.heap.size (0 + 2) ∧ (W1.alloc (.cells #[.int .i64 (-1), .int .i64 0, .int .i64 5, .int .i64 1000002, .int .i64 1000003] 3)).grownBy w' (some w.heap.size)) := by
    refine among_any w.heap.size 0 (w.heap.size + 1) 5 5 (fun i => [-1, 0, 5, 1000002, 1000003].getD i 0) _ (hC.alloc _) (by omega) (by omega) (by omega) (by omega) (fun i hi => ?_)
    rw [← hs1, World.cell?_alloc_at _ _ _ _ rfl]
    match i, hi with
    | 0, _ => rfl
    | 1, _ => rfl
    | 2, _ => rfl
    | 3, _ => rfl
    | 4, _ => rfl
  have HS1 : Hid (W1.heap.size = w.heap.size + 1) := hs1
  clear hC
  go_enter Try.func45, Try.ntmps45
  go_upto_region 2 with fail
  rw [← hW1]
  clear hW1
  go_wp2_with fail
  go_at_call 84
  refine CA.out.mono ?_
  rintro e w2 ⟨i, _, rfl, hc2, hg2⟩
  have hB2 : Below w.heap.size w w2 := (hB1.alloc hB1.size _).grown hg2 (by have := HS1.out; simp; omega) (fun k hk => by simp at hk; omega)
  generalize ([-1, 0, 5, 1000002, 1000003] : List Int).getD i 0 = z
  clear hg2 CA
  go_wp2_with fail
  refine (pick_any w.heap.size _ _ _ hc2 (by omega)).mono ?_
  rintro e w3 ⟨x, rfl, _, hc3, hg3⟩
  have hB3 : Below w.heap.size w w3 := hB2.grown hg3 hB2.size (fun k hk => by simp at hk; omega)
  clear hg3 hc3 hc2
  go_wp2_with fail
  go_ret2
  exact ⟨⟨_, _, rfl⟩, hB3⟩

set_option maxRecDepth 100000 in
set_option maxHeartbeats 4000000 in
theorem drawLS_any (ao : Option Addr) (len cap : Nat) (w : World) (h : CodeAt w ao len) :
    Calls Try.prog 46 #[.slice ao len cap] w fun e w' => (∃ s : ByteArray, e = .returned (.string s) ∧ s.size ≤ 400) ∧ Below w.heap.size w w' := by
  have hC := Cur.made (cap := cap) h 98
  obtain ⟨W1, hW1⟩ : ∃ W, W = w.alloc (.cells #[.slice ao len cap, .int .i64 0, .int .u64 0] 98) := ⟨_, rfl⟩
  rw [← hW1] at hC
  have hB1 : Below w.heap.size w W1 := by rw [hW1]; exact (Below.refl _ w).alloc (Nat.le_refl _) _
  have HC : Hid (Cur W1 w.heap.size 0) := hC
  clear hC
  go_enter Try.func46, Try.ntmps46
  go_upto_region 2 with fail
  rw [← hW1]
  clear hW1
  go_wp2_with fail
  refine (longTextL_any w.heap.size _ _ HC.out (by omega)).mono ?_
  rintro e w3 ⟨s, rfl, hs, hc3, hg3⟩
  have hB3 : Below w.heap.size w w3 := hB1.grown hg3 hB1.size (fun k hk => by simp at hk; omega)
  clear hg3 hc3
  go_wp2_with fail
  go_ret
  exact ⟨⟨s, rfl, hs⟩, hB3⟩

end Go.Proofs.Ytlglngmlaknmlaa
