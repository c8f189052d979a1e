/- Nos: what is good, what has a number; ComposeNos of the model and of the program. -/
import Derived.Test.YtpajdmhakdbkjaaZnA
import Derived.Test.YtpajdmhakdbkjaaGd
namespace Go.Proofs.Ytpajdmhakdbkjaa
open Go.RowKit

def nz (l : List Int) (i : Nat) : Int := l.getD i 0

theorem nz_at {l : List Int} {i : Nat} {x : Int} (h : l[i]? = some x) : nz l i = x := by
  unfold nz
  rw [List.getD_eq_getElem?_getD, h]
  rfl

/-- a number in 1..30, above the one ahead -/
def nosB (l : List Int) (i : Nat) : Bool := decide (1 ≤ nz l i) && decide (nz l i ≤ 30) && (decide (i = 0) || decide (nz l (i - 1) < nz l i))

def nosOk (l : List Int) : Bool := (List.range l.length).all (nosB l)

theorem nos_no {l : List Int} {i : Nat} (hi : i < l.length) (h : nosB l i = false) : nosOk l = false := by
  unfold nosOk
  rw [List.all_eq_false]
  exact ⟨i, by simpa using hi, by rw [h]; simp⟩

theorem nos_yes {l : List Int} (h : ∀ j, j < l.length → nosB l j = true) : nosOk l = true := by
  unfold nosOk
  rw [List.all_eq_true]
  intro j hj
  exact h j (by simpa using hj)

theorem nosB_iff (l : List Int) (i : Nat) : nosB l i = true ↔ 1 ≤ nz l i ∧ nz l i ≤ 30 ∧ (i = 0 ∨ nz l (i - 1) < nz l i) := by
  unfold nosB
  simp only [Bool.and_eq_true, Bool.or_eq_true, decide_eq_true_eq]
  constructor
  · rintro ⟨⟨a, b⟩, c⟩; exact ⟨a, b, c⟩
  · rintro ⟨a, b, c⟩; exact ⟨⟨a, b⟩, c⟩

set_option maxRecDepth 100000 in
set_option maxHeartbeats 2000000 in
theorem l1Has_any (l : List Int) (n : Int) (v : Value) (w : World) (h : ZAt w w.heap.size v l) (hl : l.length ≤ 2097152) :
    Calls Try.prog 69 #[v, .int .i64 n] w fun e w' => e = .returned (.bool (decide (n ∈ l))) ∧ w' = w := by
  obtain ⟨ao, cap, rfl, hlc, hcm, hrow⟩ := h
  have hcm' : cap ≤ 9223372036854775807 := by unfold maxLen at hcm; omega
  have HROW : Hid (∀ i (x : Int), l[i]? = some x → ∃ g o, ao = some ⟨g, o, none⟩ ∧ g < w.heap.size ∧ w.cell? ⟨g, o + i, none⟩ = some (.int .i64 x)) := hrow
  obtain ⟨R, hR⟩ : ∃ R, R = decide (n ∈ l) := ⟨_, rfl⟩
  rw [← hR]
  have HR : Hid (R = decide (n ∈ l)) := hR
  clear hR hrow
  go_enter Try.func69, Try.ntmps69
  go_wp2
  go_loopw [9] (fun vi wr => ∃ k : Nat, k ≤ l.length ∧ vi = .int .i64 (k : Int) ∧ Hid (∀ j x, j < k → l[j]? = some x → x ≠ n) ∧ wr = w)
    (fun vi _ => l.length - (intOf vi).toNat)
  case atStart => exact ⟨0, by omega, rfl, fun j x hj => by omega, rfl⟩
  case round =>
    obtain ⟨k, hk, rfl, hall, rfl⟩ := hrel
    by_cases hlt : k < l.length
    · have hltI : (k : Int) < (l.length : Int) := by omega
      obtain ⟨x, hx⟩ : ∃ x, l[k]? = some x := ⟨_, List.getElem?_eq_getElem hlt⟩
      obtain ⟨g, o, rfl, hg, c⟩ := HROW.out k x hx
      by_cases hxn : x = n
      · have hn : Hid (R = true) := HR.out.trans (by rw [decide_eq_true_eq, ← hxn]; exact List.mem_of_getElem? hx)
        have hxn' : (x == n) = true := by simpa using hxn
        clear hall hxn hx
        go_wp2
        go_ret
        exact ⟨by rw [hn.out]; rfl, rfl⟩
      · have hxn' : (x == n) = false := by simpa using hxn
        have hall2 : Hid (∀ j z, j < k + 1 → l[j]? = some z → z ≠ n) := fun j z hj hz => by
          by_cases hjk : j = k
          · rw [hjk, hx] at hz; cases hz; exact hxn
          · exact hall.out j z (by omega) hz
        clear hall hxn hx
        go_wp2
        go_roundw
        case rel => exact ⟨k + 1, by omega, by go_num, hall2, trivial⟩
        case measure => simp [intOf]; omega
    · have hke : k = l.length := by omega
      have hge : ¬ ((k : Int) < (l.length : Int)) := by omega
      have hn : Hid (R = false) := HR.out.trans (by
        rw [decide_eq_false_iff_not]
        intro hm
        obtain ⟨j, hj, he⟩ := List.getElem_of_mem hm
        exact hall.out j n (by omega) (by rw [List.getElem?_eq_getElem hj, he]) rfl)
      clear hall hke
      go_wp2
      go_ret
      exact ⟨by rw [hn.out]; rfl, rfl⟩

set_option maxRecDepth 100000 in
set_option maxHeartbeats 2000000 in
theorem index_any (l : List Int) (n : Int) (v : Value) (w : World) (h : ZAt w w.heap.size v l) (hl : l.length ≤ 2097152) :
    Calls Try.prog 104 #[v, .int .i64 n] w fun e w' => (∃ r : Int, e = .returned (.int .i64 r) ∧ (decide (0 ≤ r) = decide (n ∈ l)) ∧ -1 ≤ r ∧ r ≤ 2097152) ∧ w' = w := by
  obtain ⟨ao, cap, rfl, hlc, hcm, hrow⟩ := h
  have hcm' : cap ≤ 9223372036854775807 := by unfold maxLen at hcm; omega
  have HROW : Hid (∀ i (x : Int), l[i]? = some x → ∃ g o, ao = some ⟨g, o, none⟩ ∧ g < w.heap.size ∧ w.cell? ⟨g, o + i, none⟩ = some (.int .i64 x)) := hrow
  obtain ⟨R, hR⟩ : ∃ R, R = decide (n ∈ l) := ⟨_, rfl⟩
  rw [← hR]
  have HR : Hid (R = decide (n ∈ l)) := hR
  clear hR hrow
  go_enter Try.func104, Try.ntmps104
  go_wp2
  go_loopw [8] (fun vi wr => ∃ k : Nat, k ≤ l.length ∧ vi = .int .i64 (k : Int) ∧ Hid (∀ j x, j < k → l[j]? = some x → x ≠ n) ∧ wr = w)
    (fun vi _ => l.length - (intOf vi).toNat)
  case atStart => exact ⟨0, by omega, rfl, fun j x hj => by omega, rfl⟩
  case round =>
    obtain ⟨k, hk, rfl, hall, rfl⟩ := hrel
    by_cases hlt : k < l.length
    · have hltI : (k : Int) < (l.length : Int) := by omega
      have hk0 : (0 : Int) ≤ (k : Int) := by omega
      obtain ⟨x, hx⟩ : ∃ x, l[k]? = some x := ⟨_, List.getElem?_eq_getElem hlt⟩
      obtain ⟨g, o, rfl, hg, c⟩ := HROW.out k x hx
      by_cases hxn : n = x
      · have hn : Hid (R = true) := HR.out.trans (by rw [decide_eq_true_eq, hxn]; exact List.mem_of_getElem? hx)
        have hxn' : (n == x) = true := by simpa using hxn
        clear hall hxn hx
        go_wp2
        go_ret
        exact ⟨⟨(k : Int), rfl, by rw [hn.out]; simp, by omega, by omega⟩, rfl⟩
      · have hxn' : (n == x) = false := by simpa using hxn
        have hall2 : Hid (∀ j z, j < k + 1 → l[j]? = some z → z ≠ n) := fun j z hj hz => by
          by_cases hjk : j = k
          · rw [hjk, hx] at hz; cases hz; exact fun e => hxn e.symm
          · exact hall.out j z (by omega) hz
        clear hall hxn hx
        go_wp2
        go_roundw
        case rel => exact ⟨k + 1, by omega, by go_num, hall2, trivial⟩
        case measure => simp [intOf]; omega
    · have hke : k = l.length := by omega
      have hge : ¬ ((k : Int) < (l.length : Int)) := by omega
      have hn : Hid (R = false) := HR.out.trans (by
        rw [decide_eq_false_iff_not]
        intro hm
        obtain ⟨j, hj, he⟩ := List.getElem_of_mem hm
        exact hall.out j n (by omega) (by rw [List.getElem?_eq_getElem hj, he]) rfl)
      clear hall hke
      go_wp2
      go_ret
      exact ⟨⟨-1, rfl, by rw [hn.out]; rfl, by omega, by omega⟩, rfl⟩

set_option maxRecDepth 100000 in
set_option maxHeartbeats 1000000 in
theorem contains_any (l : List Int) (n : Int) (v : Value) (w : World) (h : ZAt w w.heap.size v l) (hl : l.length ≤ 2097152) :
    Calls Try.prog 71 #[v, .int .i64 n] w fun e w' => e = .returned (.bool (decide (n ∈ l))) ∧ w' = w := by
  have C : Hid (Calls Try.prog 104 #[v, .int .i64 n] w fun e w' => (∃ r : Int, e = .returned (.int .i64 r) ∧ (decide (0 ≤ r) = decide (n ∈ l)) ∧ -1 ≤ r ∧ r ≤ 2097152) ∧ w' = w) := index_any l n v w h hl
  obtain ⟨ao, cap, rfl, _⟩ := h
  obtain ⟨R, hR⟩ : ∃ R, R = decide (n ∈ l) := ⟨_, rfl⟩
  rw [← hR] at C ⊢
  clear hR
  go_enter Try.func71, Try.ntmps71
  go_wp2_with fail
  refine C.out.mono ?_
  rintro e w1 ⟨⟨r, rfl, hr, h1, h2⟩, rfl⟩
  have HRR : Hid (decide (0 ≤ r) = R) := hr
  clear hr
  by_cases h0 : 0 ≤ r
  · have hn : Hid (R = true) := HRR.out.symm.trans (by simpa using h0)
    go_wp2
    go_ret
    exact ⟨by rw [hn.out]; rfl, rfl⟩
  · have h0' : decide (0 ≤ r) = false := by simpa using h0
    have hn : Hid (R = false) := HRR.out.symm.trans h0'
    clear h0
    go_wp2
    go_ret
    exact ⟨by rw [hn.out]; rfl, rfl⟩

set_option maxRecDepth 100000 in
set_option maxHeartbeats 2000000 in
theorem goodNos_any (l : List Int) (v : Value) (w : World) (h : ZAt w w.heap.size v l) (hl : l.length ≤ 2097152) :
    Calls Try.prog 70 #[v] w fun e w' => e = .returned (.bool (nosOk l)) ∧ w' = w := by
  obtain ⟨ao, cap, rfl, hlc, hcm, hrow⟩ := h
  have hcm' : cap ≤ 9223372036854775807 := by unfold maxLen at hcm; omega
  have HROW : Hid (∀ i (x : Int), l[i]? = some x → ∃ g o, ao = some ⟨g, o, none⟩ ∧ g < w.heap.size ∧ w.cell? ⟨g, o + i, none⟩ = some (.int .i64 x)) := hrow
  obtain ⟨R, hR⟩ : ∃ R, R = nosOk l := ⟨_, rfl⟩
  rw [← hR]
  have HR : Hid (R = nosOk l) := hR
  clear hR hrow
  go_enter Try.func70, Try.ntmps70
  go_wp2
  go_loopw [3, 8] (fun vl vi wr => ∃ (k : Nat) (last : Int), k ≤ l.length ∧ vi = .int .i64 (k : Int) ∧ vl = .int .i64 last ∧ Hid ((∀ j, j < k → nosB l j = true) ∧ last = if k = 0 then 0 else nz l (k - 1)) ∧ wr = w)
    (fun _ vi _ => l.length - (intOf vi).toNat)
  case atStart => exact ⟨0, 0, by omega, rfl, rfl, ⟨fun j hj => by omega, rfl⟩, rfl⟩
  case round =>
    obtain ⟨k, last, hk, rfl, rfl, hst, rfl⟩ := hrel
    by_cases hlt : k < l.length
    · have hltI : (k : Int) < (l.length : Int) := by omega
      obtain ⟨x, hx⟩ : ∃ x, l[k]? = some x := ⟨_, List.getElem?_eq_getElem hlt⟩
      obtain ⟨g, o, rfl, hg, c⟩ := HROW.out k x hx
      have hxz : Hid (nz l k = x) := nz_at hx
      have hB : Hid (nosB l k = true ↔ ¬ x ≤ last ∧ ¬ 30 < x) := by
        show _ ↔ _
        rw [nosB_iff, hxz.out, hst.out.2]
        by_cases hk0 : k = 0
        · rw [if_pos hk0]
          constructor
          · rintro ⟨a, b, _⟩; exact ⟨by omega, by omega⟩
          · rintro ⟨a, b⟩; exact ⟨by omega, by omega, .inl hk0⟩
        · rw [if_neg hk0]
          have := ((nosB_iff l (k - 1)).1 (hst.out.1 (k - 1) (by omega))).1
          constructor
          · rintro ⟨a, b, c⟩
            rcases c with c | c
            · exact absurd c hk0
            · exact ⟨by omega, by omega⟩
          · rintro ⟨a, b⟩; exact ⟨by omega, by omega, .inr (by omega)⟩
      by_cases h1 : x ≤ last
      · have hn : Hid (R = false) := HR.out.trans (nos_no hlt (by rw [Bool.eq_false_iff]; intro hh; exact (hB.out.1 hh).1 h1))
        have h1' : decide (x ≤ last) = true := by simpa using h1
        clear h1 hx
        go_wp2
        go_ret
        exact ⟨by rw [hn.out]; rfl, rfl⟩
      · have h1' : decide (x ≤ last) = false := by simpa using h1
        by_cases h2 : 30 < x
        · have hn : Hid (R = false) := HR.out.trans (nos_no hlt (by rw [Bool.eq_false_iff]; intro hh; exact (hB.out.1 hh).2 h2))
          have h2' : decide (30 < x) = true := by simpa using h2
          clear h1 hx
          go_wp2
          go_ret
          exact ⟨by rw [hn.out]; rfl, rfl⟩
        · have h2' : decide (30 < x) = false := by simpa using h2
          have hst2 : Hid ((∀ j, j < k + 1 → nosB l j = true) ∧ x = if k + 1 = 0 then 0 else nz l (k + 1 - 1)) := ⟨fun j hj => by
            by_cases hjk : j = k
            · rw [hjk]; exact hB.out.2 ⟨h1, h2⟩
            · exact hst.out.1 j (by omega), by rw [if_neg (by omega), Nat.add_sub_cancel]; exact hxz.out.symm⟩
          clear h1 h2 hx hst
          go_wp2
          go_roundw
          case rel => exact ⟨k + 1, x, by omega, by go_num, rfl, hst2, trivial⟩
          case measure => simp [intOf]; omega
    · have hke : k = l.length := by omega
      have hge : ¬ ((k : Int) < (l.length : Int)) := by omega
      have hn : Hid (R = true) := HR.out.trans (nos_yes (fun j hj => hst.out.1 j (by omega)))
      clear hst hke
      go_wp2
      go_ret
      exact ⟨by rw [hn.out]; rfl, rfl⟩

set_option maxRecDepth 100000 in
set_option maxHeartbeats 2000000 in
theorem l5Nos_any (l : List Int) (v : Value) (w : World) (h : ZAt w w.heap.size v l) (hl : l.length ≤ 2097152) :
    Calls Try.prog 68 #[v] w fun e w' => e = .returned (.bool (nosOk l)) ∧ w' = w := by
  obtain ⟨ao, cap, rfl, hlc, hcm, hrow⟩ := h
  have hcm' : cap ≤ 9223372036854775807 := by unfold maxLen at hcm; omega
  have HROW : Hid (∀ i (x : Int), l[i]? = some x → ∃ g o, ao = some ⟨g, o, none⟩ ∧ g < w.heap.size ∧ w.cell? ⟨g, o + i, none⟩ = some (.int .i64 x)) := hrow
  obtain ⟨R, hR⟩ : ∃ R, R = nosOk l := ⟨_, rfl⟩
  rw [← hR]
  have HR : Hid (R = nosOk l) := hR
  clear hR hrow
  go_enter Try.func68, Try.ntmps68
  go_wp2
  go_loopw [7] (fun vi wr => ∃ (k : Nat), k ≤ l.length ∧ vi = .int .i64 (k : Int) ∧ Hid (∀ j, j < k → nosB l j = true) ∧ wr = w)
    (fun vi _ => l.length - (intOf vi).toNat)
  case atStart => exact ⟨0, by omega, rfl, fun j hj => by omega, rfl⟩
  case round =>
    obtain ⟨k, hk, rfl, hall, rfl⟩ := hrel
    by_cases hlt : k < l.length
    · have hltI : (k : Int) < (l.length : Int) := by omega
      obtain ⟨x, hx⟩ : ∃ x, l[k]? = some x := ⟨_, List.getElem?_eq_getElem hlt⟩
      obtain ⟨g, o, hao, hg, c⟩ := HROW.out k x hx
      subst hao
      have hxz : Hid (nz l k = x) := nz_at hx
      obtain ⟨b, hb⟩ : ∃ b, b = decide (1 ≤ x ∧ x ≤ 30) := ⟨_, rfl⟩
      have HBD : Hid (b = decide (1 ≤ x ∧ x ≤ 30)) := hb
      clear hb
      go_wp2_with fail
      refine (l1In_any x 1 30 _).mono ?_
      rintro e w1 ⟨rfl, rfl⟩
      rw [← HBD.out]
      cases b
      · have hn : Hid (R = false) := HR.out.trans (nos_no hlt (by
          rw [Bool.eq_false_iff]; intro hh
          have := (nosB_iff l k).1 hh
          rw [hxz.out] at this
          have h2 := HBD.out
          rw [eq_comm, decide_eq_false_iff_not] at h2
          exact h2 ⟨this.1, this.2.1⟩))
        clear hx hall
        go_wp2
        go_ret
        exact ⟨by rw [hn.out]; rfl, rfl⟩
      · have hin : 1 ≤ x ∧ x ≤ 30 := by have h2 := HBD.out; rw [eq_comm, decide_eq_true_eq] at h2; exact h2
        by_cases hk0 : k = 0
        · have hall2 : Hid (∀ j, j < 0 + 1 → nosB l j = true) := fun j hj => by
            obtain rfl : j = 0 := by omega
            rw [nosB_iff]
            rw [hk0] at hxz
            rw [hxz.out]
            exact ⟨hin.1, hin.2, .inl rfl⟩
          subst hk0
          clear hall hx hin
          go_wp2
          go_roundw
          case rel => exact ⟨1, by omega, rfl, hall2, trivial⟩
          case measure => simp [intOf]; omega
        · obtain ⟨p, hp⟩ : ∃ p, k = p + 1 := ⟨k - 1, by omega⟩
          subst hp
          obtain ⟨z, hz⟩ : ∃ z, l[p]? = some z := ⟨_, List.getElem?_eq_getElem (by omega)⟩
          obtain ⟨g', o', hao, _, cz⟩ := HROW.out p z hz
          simp only [Option.some.injEq, Addr.mk.injEq, and_true] at hao
          obtain ⟨rfl, rfl⟩ := hao
          have hzz : Hid (nz l p = z) := nz_at hz
          have hpos : (0 : Int) < ((p + 1 : Nat) : Int) := by omega
          have hp1 : (p : Int) < (l.length : Int) := by omega
          by_cases hle : x ≤ z
          · have hn : Hid (R = false) := HR.out.trans (nos_no hlt (by
              rw [Bool.eq_false_iff]; intro hh
              have := ((nosB_iff l (p + 1)).1 hh).2.2
              rw [Nat.add_sub_cancel, hxz.out, hzz.out] at this
              omega))
            have hle' : decide (x ≤ z) = true := by simpa using hle
            clear hx hz hall hle
            go_wp2
            go_ret
            exact ⟨by rw [hn.out]; rfl, rfl⟩
          · have hle' : decide (x ≤ z) = false := by simpa using hle
            have hall2 : Hid (∀ j, j < p + 1 + 1 → nosB l j = true) := fun j hj => by
              by_cases hjk : j = p + 1
              · rw [hjk, nosB_iff, Nat.add_sub_cancel, hxz.out, hzz.out]
                exact ⟨hin.1, hin.2, .inr (by omega)⟩
              · exact hall.out j (by omega)
            clear hx hz hall hle
            go_wp2
            go_roundw
            case rel => exact ⟨p + 1 + 1, by omega, by go_num, hall2, trivial⟩
            case measure => simp [intOf]; omega
    · have hke : k = l.length := by omega
      have hge : ¬ ((k : Int) < (l.length : Int)) := by omega
      have hn : Hid (R = true) := HR.out.trans (nos_yes (fun j hj => hall.out j (by omega)))
      clear hall hke
      go_wp2
      go_ret
      exact ⟨by rw [hn.out]; rfl, rfl⟩

/-- what ComposeNos tells -/
def cno (a b : List Int) : List Int × Bool := if nosOk a && nosOk b then (a.filter fun n => decide (n ∈ b), true) else ([], false)

def OInts (w w' : World) (e : Ending) (R : List Int × Bool) : Prop := ∃ v, e = .returned (.tuple #[v, .bool R.2]) ∧ ZRow w' w.heap.size v R.1 ∧ Below w.heap.size w w'

theorem filt_step (a b : List Int) (k : Nat) (x : Int) (h : a[k]? = some x) : (a.take (k + 1)).filter (fun n => decide (n ∈ b)) = (a.take k).filter (fun n => decide (n ∈ b)) ++ if x ∈ b then [x] else [] := by
  rw [List.take_add_one, h, List.filter_append]
  congr 1
  by_cases hx : x ∈ b <;> simp [hx]

theorem filt_len (a b : List Int) (k : Nat) : ((a.take k).filter (fun n => decide (n ∈ b))).length ≤ k := by
  have := List.length_filter_le (fun n => decide (n ∈ b)) (a.take k)
  rw [List.length_take] at this
  omega

end Go.Proofs.Ytpajdmhakdbkjaa
