/- The model's looks at one type of a schema. -/
import Derived.Test.YtjaklpibjijkkaaSchC
import Derived.Deep.AppendLies
namespace Go.Proofs.Ytjaklpibjijkkaa
open Go.RowKit Plain Sch

set_option maxRecDepth 100000 in
set_option maxHeartbeats 1000000 in
theorem l2Holds_any (kind : Int) (w : World) :
    Calls Try.prog 83 #[.int .i64 kind] w fun e w' => e = .returned (.bool (holds kind)) ∧ w' = w := by
  by_cases h4 : kind = 4
  · subst h4
    go_enter Try.func83, Try.ntmps83
    go_wp2
    go_ret
    exact ⟨rfl, rfl⟩
  · have d4 : (kind == 4) = false := by simpa using h4
    by_cases h5 : kind = 5
    · subst h5
      go_enter Try.func83, Try.ntmps83
      go_wp2
      go_ret
      exact ⟨rfl, rfl⟩
    · have d5 : (kind == 5) = false := by simpa using h5
      have hh : holds kind = false := by unfold holds; simp [h4, h5]
      rw [hh]
      go_enter Try.func83, Try.ntmps83
      go_wp2
      go_ret
      exact ⟨rfl, rfl⟩

set_option maxRecDepth 100000 in
set_option maxHeartbeats 1000000 in
theorem l1In_any (n lo hi : Int) (w : World) :
    Calls Try.prog 54 #[.int .i64 n, .int .i64 lo, .int .i64 hi] w fun e w' => e = .returned (.bool (decide (lo ≤ n ∧ n ≤ hi))) ∧ w' = w := by
  by_cases h1 : lo ≤ n
  · by_cases h2 : n ≤ hi
    · have hd : decide (lo ≤ n ∧ n ≤ hi) = true := by simp [h1, h2]
      rw [hd]
      clear hd
      go_enter Try.func54, Try.ntmps54
      go_wp2
      go_ret
      exact ⟨rfl, rfl⟩
    · have hd : decide (lo ≤ n ∧ n ≤ hi) = false := by simp [h2]
      rw [hd]
      have h2' : decide (n ≤ hi) = false := by simpa using h2
      clear hd h2
      go_enter Try.func54, Try.ntmps54
      go_wp2
      go_ret
      exact ⟨rfl, rfl⟩
  · have hd : decide (lo ≤ n ∧ n ≤ hi) = false := by simp [h1]
    rw [hd]
    have h1' : decide (lo ≤ n) = false := by simpa using h1
    clear hd h1
    go_enter Try.func54, Try.ntmps54
    go_wp2
    go_ret
    exact ⟨rfl, rfl⟩

set_option maxRecDepth 100000 in
set_option maxHeartbeats 4000000 in
theorem l2Name_any (s : ByteArray) (w : World) (hs : s.size ≤ maxLen) :
    Calls Try.prog 85 #[.string s] w fun e w' => e = .returned (.bool (isName s)) ∧ w' = w := by
  unfold maxLen at hs
  have hs' : (s.size : Int) ≤ 9223372036854775807 := by omega
  obtain ⟨R, hR⟩ : ∃ R, R = isName s := ⟨_, rfl⟩
  have HR : Hid (R = decide (1 ≤ s.size ∧ s.size ≤ 10 ∧ ∀ i, i < s.size → 97 ≤ bt s i ∧ bt s i ≤ 122)) := hR
  rw [← hR]
  clear hR hs
  go_enter Try.func85, Try.ntmps85
  go_wp2
  go_loopw [3] (fun vi wr => ∃ i : Nat, i ≤ s.size ∧ vi = .int .i64 (i : Int) ∧ Hid (∀ j, j < i → 97 ≤ bt s j ∧ bt s j ≤ 122) ∧ wr = w)
    (fun vi _ => s.size - (intOf vi).toNat)
  case atStart => exact ⟨0, by omega, rfl, fun j hj => by omega, rfl⟩
  case round =>
    obtain ⟨i, hi, rfl, hall, rfl⟩ := hrel
    by_cases hlt : i < s.size
    · have hlt' : (i : Int) < (s.size : Int) := by omega
      obtain ⟨x, hx⟩ : ∃ x, bt s i = x := ⟨_, rfl⟩
      have hx256 : x < 256 := by rw [← hx]; exact bt_lt s i
      have hrun : ∀ w : World, (Instr.index 9 (.string s) (.int .i64 (i : Int))).run Try.prog w = .ok (.int .u8 (x : Int)) w := fun w => index_atS s i i x w (by omega) rfl hlt hx
      have HX : Hid (bt s i = x) := hx
      clear hx
      by_cases ha : x < 97
      · have hn : Hid (R = false) := by
          show R = _
          rw [HR.out]
          simp only [decide_eq_false_iff_not]
          rintro ⟨_, _, h⟩
          have := (h i hlt).1
          rw [HX.out] at this
          omega
        have ha' : (x : Int) < 97 := by omega
        clear HR
        go_wp2
        go_ret
        exact ⟨by rw [hn.out]; rfl, rfl⟩
      · by_cases hz : 122 < x
        · have hn : Hid (R = false) := by
            show R = _
            rw [HR.out]
            simp only [decide_eq_false_iff_not]
            rintro ⟨_, _, h⟩
            have := (h i hlt).2
            rw [HX.out] at this
            omega
          have ha' : (97 : Int) ≤ (x : Int) := by omega
          have hz' : (122 : Int) < (x : Int) := by omega
          clear HR ha
          go_wp2
          go_ret
          exact ⟨by rw [hn.out]; rfl, rfl⟩
        · have ha' : (97 : Int) ≤ (x : Int) := by omega
          have hz' : (x : Int) ≤ 122 := by omega
          have hall2 : Hid (∀ j, j < i + 1 → 97 ≤ bt s j ∧ bt s j ≤ 122) := fun j hj => by
            by_cases hji : j = i
            · rw [hji, HX.out]; omega
            · exact hall.out j (by omega)
          clear ha hz
          go_wp2
          go_roundw
          case rel => exact ⟨i + 1, by omega, by go_num, hall2, trivial⟩
          case measure => simp [intOf]; omega
    · have hke : i = s.size := by omega
      subst hke
      have hge : ¬ ((s.size : Int) < (s.size : Int)) := by omega
      have hn : Hid (R = decide ((1 : Int) ≤ (s.size : Int) ∧ (s.size : Int) ≤ 10)) := by
        show R = _
        rw [HR.out, decide_eq_decide]
        constructor
        · rintro ⟨h1, h2, _⟩; omega
        · intro h; exact ⟨by omega, by omega, hall.out⟩
      go_wp2_with fail
      refine (l1In_any _ 1 10 _).mono ?_
      rintro e w1 ⟨rfl, rfl⟩
      rw [← hn.out]
      go_wp2
      go_ret
      exact ⟨rfl, rfl⟩

set_option maxRecDepth 100000 in
set_option maxHeartbeats 4000000 in
theorem l2Around_any (T : List Ty) (v : Value) (k : Nat) (w : World) (hT : TysAt w w.heap.size v T) (hk : k < T.length) (hk1 : 1 ≤ k) (hl : T.length ≤ 30) (hu : UpsTo T k) (hup0 : 0 ≤ (ty T k).up) :
    Calls Try.prog 84 #[v, .int .i64 k] w fun e w' => e = .returned (.bool (decide ((ty T k).up.toNat ∈ chain T (k - 1)))) ∧ w' = w := by
  obtain ⟨g, o, cap, rfl, hlc, hcm, hg, hrow, _⟩ := hT.open (by omega)
  clear hT
  obtain ⟨R, hR⟩ : ∃ R, R = decide ((ty T k).up.toNat ∈ chain T (k - 1)) := ⟨_, rfl⟩
  rw [← hR]
  have HR : Hid (R = decide ((ty T k).up.toNat ∈ chain T (k - 1))) := hR
  clear hR
  have HU : Hid (UpsTo T k) := hu
  clear hu
  have hk' : (k : Int) < (T.length : Int) := by omega
  have hk0' : (0 : Int) ≤ (k : Int) := by omega
  obtain ⟨up, hup⟩ : ∃ x, (ty T k).up = x := ⟨_, rfl⟩
  have HUP : Hid ((ty T k).up = up) := hup
  have hck := (hrow k hk).2.2.2.2.1
  rw [hup] at hck hup0
  clear hup
  go_enter Try.func84, Try.ntmps84
  go_wp2
  go_loopw [5] (fun va wr => ∃ (a : Int), va = .int .i64 a ∧ Hid ((a = -1 ∧ ¬ (up.toNat ∈ chain T (k - 1))) ∨ ∃ j : Nat, a = (j : Int) ∧ j < k ∧ ((up.toNat ∈ chain T (k - 1)) ↔ (up.toNat ∈ chain T j))) ∧ wr = w)
    (fun va _ => (intOf va + 1).toNat)
  case atStart => exact ⟨(k : Int) - 1, by go_num, .inr ⟨k - 1, by omega, by omega, Iff.rfl⟩, rfl⟩
  case round =>
    obtain ⟨a, rfl, hst, rfl⟩ := hrel
    rcases hst.out with ⟨rfl, hno⟩ | ⟨j, rfl, hjk, hiff⟩
    · have hn : Hid (R = false) := by
        show R = _
        rw [HR.out, HUP.out]
        simpa using hno
      clear hst hno
      go_wp2
      go_ret
      exact ⟨by rw [hn.out]; rfl, rfl⟩
    · clear hst
      have hjl : j < T.length := by omega
      have hc4 := (hrow j hjl).2.2.2.2.1
      have hj0 : (0 : Int) ≤ (j : Int) := by omega
      have hj1 : (j : Int) < (T.length : Int) := by omega
      have hupj : Hid (((ty T j).up = -1 ∧ j = 0) ∨ (0 ≤ (ty T j).up ∧ (ty T j).up < j)) := by
        by_cases h0 : j = 0
        · subst h0; exact .inl ⟨HU.out.1, rfl⟩
        · exact .inr (HU.out.2 j (by omega) hjk)
      by_cases he : (j : Int) = up
      · have he' : ((j : Int) == up) = true := by simpa using he
        have hn : Hid (R = true) := by
          show R = _
          rw [HR.out, HUP.out]
          have := hiff.2 (by rw [← he, Int.toNat_natCast]; exact self_chain T j)
          simpa using this
        clear hupj he hiff hrow
        go_wp2
        go_ret
        exact ⟨by rw [hn.out]; rfl, rfl⟩
      · have he' : ((j : Int) == up) = false := by simpa using he
        have hnext : Hid (((ty T j).up = -1 ∧ ¬ (up.toNat ∈ chain T (k - 1))) ∨ ∃ i : Nat, (ty T j).up = (i : Int) ∧ i < k ∧ ((up.toNat ∈ chain T (k - 1)) ↔ (up.toNat ∈ chain T i)) ∧ i < j) := by
          rcases hupj.out with ⟨hu1, rfl⟩ | hu1
          · left
            refine ⟨hu1, fun h => ?_⟩
            have := hiff.1 h
            rw [chain_top T 0 (by omega)] at this
            simp at this
            omega
          · right
            refine ⟨(ty T j).up.toNat, by omega, by omega, ?_, by omega⟩
            rw [hiff, chain_up T j hu1, List.mem_cons]
            constructor
            · rintro (h | h)
              · omega
              · exact h
            · exact .inr
        generalize (ty T j).up = upj at hc4 hnext
        clear hupj hiff he
        go_wp2
        go_roundw
        case rel =>
          rcases hnext.out with ⟨rfl, hD⟩ | ⟨i, rfl, hi1, hi2, hi3⟩
          · exact ⟨-1, rfl, .inl ⟨rfl, hD⟩, trivial⟩
          · exact ⟨i, rfl, .inr ⟨i, rfl, hi1, hi2⟩, trivial⟩
        case measure =>
          rcases hnext.out with ⟨rfl, hD⟩ | ⟨i, rfl, hi1, hi2, hi3⟩ <;> simp [intOf] <;> omega

end Go.Proofs.Ytjaklpibjijkkaa
