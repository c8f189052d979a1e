/- The contract of the model: l1Take finds what the plain function finds. The contract of the program's TakeVarint within its bounds: it finds what the plain function finds. The contracts of the two TakeVarint at every text and place: both find what one plain function finds. -/
import Derived.Test.YtmjpmmkjfimopaaDoorRows
import Derived.Test.YtmjpmmkjfimopaaDoorGa
import Derived.WalkKit
import Derived.ProofKit
namespace Go.Proofs.YtmjpmmkjfimopaaDoor
open Go.RowKit Plain

theorem index_at (s : ByteArray) (i : Int) (j x : Nat) (w : World) (h0 : 0 ≤ i) (hij : i = (j : Int)) (hj : j < s.size) (hx : (s[j]'hj).toNat = x) :
    (Instr.index 9 (.string s) (.int .i64 i)).run Tryd.prog w = .ok (.int .u8 (x : Int)) w := by
  rw [run_index_string w 9 s .i64 i Tryd.underlying9, dif_pos ⟨h0, by omega⟩]
  subst hij
  simp only [Int.toNat_natCast, hx]

set_option maxRecDepth 100000 in
set_option maxHeartbeats 1000000 in
theorem l1Take_any (s : ByteArray) (a : Nat) (w : World) (hs : s.size ≤ 400) (ha : a ≤ s.size) :
    Calls Tryd.prog 103 #[.string s, .int .i64 a] w fun e w' => e = .returned (.tuple #[.int .i64 (tk s a 5 0 0).1, .int .i64 (tk s a 5 0 0).2.1, .bool (tk s a 5 0 0).2.2]) ∧ w' = w := by
  obtain ⟨R, hR⟩ : ∃ R, R = tk s a 5 0 0 := ⟨_, rfl⟩
  rw [← hR]
  have HR : Hid (R = tk s a 5 0 0) := hR
  clear hR
  go_enter Tryd.func103, Tryd.ntmps103
  go_wp2
  go_loop [7, 8] (fun n i => ∃ k m : Nat, k ≤ 5 ∧ i = .int .i64 k ∧ n = .int .i64 m ∧ m < 128 ^ k ∧ Hid (R = tk s a (5 - k) k m)) (fun _ i => 5 - (intOf i).toNat)
  case atStart => exact ⟨0, 0, by omega, rfl, rfl, by decide, HR⟩
  case round =>
    obtain ⟨k, m, hk, rfl, rfl, hm, HK⟩ := hrel
    have h5 : k = 0 ∨ k = 1 ∨ k = 2 ∨ k = 3 ∨ k = 4 ∨ k = 5 := by omega
    rcases h5 with rfl | rfl | rfl | rfl | rfl | rfl
    · clear HR
      have hu : m < 1 := by simpa using hm
      clear hm hk
      by_cases hlt : a < s.size
      · obtain ⟨x, hx⟩ : ∃ x, x = bt s (a) := ⟨_, rfl⟩
        have hx256 : x < 256 := by rw [hx]; exact bt_lt _ _
        have hix : ∀ w' : World, (Instr.index 9 (.string s) (.int .i64 (a : Int))).run Tryd.prog w' = .ok (.int .u8 (x : Int)) w' := fun w' => index_at s (a : Int) (a) x w' (by omega) (by omega) hlt (by rw [hx]; exact bt_get _ _ _)
        obtain ⟨y, hy⟩ : ∃ y, y = x % 128 := ⟨_, rfl⟩
        have hy128 : y < 128 := by omega
        have hand : bits .and .i64 (x : Int) 127 = (y : Int) := by rw [and127, hy]
        obtain ⟨z, hz⟩ : ∃ z, z = m + y * 1 := ⟨_, rfl⟩
        have hz35 : z < 128 := by omega
        have hor : bits .or .i64 (m : Int) (y : Int) = (z : Int) := by rw [hz]; have := or_join 0 m y (by omega) (by simpa using hu) hy128; simpa using this
        have HZ : Hid (z = m + bt s (a) % 128 * 1) := by rw [← hx, ← hy]; exact hz
        have HX : Hid (x = bt s (a)) := hx
        clear hz hx hy
        by_cases c1 : x < 128
        · have c1' : ((x : Nat) : Int) < 128 := by omega
          by_cases c3 : 2000000001 < z
          · exact absurd c3 (by omega)
          · have hRR : Hid (R = ((z : Int), ((a + 0 + 1 : Nat) : Int), true)) := by
              show R = _; rw [HK.out, tk_good s a 4 0 m hlt (by show bt s (a) < 128; rw [← HX.out]; exact c1) (by rintro (h | h); exact (fun ⟨h, _⟩ => by omega) h; exact c3 (by rw [HZ.out]; exact h))]
              rw [HZ.out]; rfl
            have c3' : (z : Int) ≤ 2000000001 := by omega
            clear c1 c3 HK HX HZ
            go_wp2
            go_ret3
            exact ⟨by rw [hRR.out]; first | rfl | go_num, rfl⟩
        · have hRR : Hid (R = tk s a 4 1 z) := by have := tk_more s a 4 0 m hlt (by show 128 ≤ bt s (a); rw [← HX.out]; omega); show R = _; rw [HK.out, HZ.out]; exact this
          have c1' : (128 : Int) ≤ ((x : Nat) : Int) := by omega
          clear c1 HK HX HZ
          go_wp2
          go_round
          case rel => exact ⟨1, z, by omega, by go_num, by go_num, by simpa using hz35, hRR⟩
          case measure => simp [intOf]
      · have hRR : Hid (R = (0, 0, false)) := by show R = _; rw [HK.out]; exact tk_out s a 5 0 m hlt
        clear HK
        go_wp2
        go_ret3
        exact ⟨by rw [hRR.out]; first | rfl | go_num, rfl⟩
    · clear HR
      have hu : m < 128 := by simpa using hm
      clear hm hk
      by_cases hlt : a + 1 < s.size
      · obtain ⟨x, hx⟩ : ∃ x, x = bt s (a + 1) := ⟨_, rfl⟩
        have hx256 : x < 256 := by rw [hx]; exact bt_lt _ _
        have hix : ∀ w' : World, (Instr.index 9 (.string s) (.int .i64 ((a : Int) + 1))).run Tryd.prog w' = .ok (.int .u8 (x : Int)) w' := fun w' => index_at s ((a : Int) + 1) (a + 1) x w' (by omega) (by omega) hlt (by rw [hx]; exact bt_get _ _ _)
        obtain ⟨y, hy⟩ : ∃ y, y = x % 128 := ⟨_, rfl⟩
        have hy128 : y < 128 := by omega
        have hand : bits .and .i64 (x : Int) 127 = (y : Int) := by rw [and127, hy]
        obtain ⟨z, hz⟩ : ∃ z, z = m + y * 128 := ⟨_, rfl⟩
        have hz35 : z < 16384 := by omega
        have hor : bits .or .i64 (m : Int) ((y : Int) * 128) = (z : Int) := by rw [hz]; have := or_join 7 m y (by omega) (by simpa using hu) hy128; simpa using this
        have HZ : Hid (z = m + bt s (a + 1) % 128 * 128) := by rw [← hx, ← hy]; exact hz
        have HX : Hid (x = bt s (a + 1)) := hx
        clear hz hx hy
        by_cases c1 : x < 128
        · have c1' : ((x : Nat) : Int) < 128 := by omega
          by_cases c2 : x = 0
          · have hRR : Hid (R = (0, 0, false)) := by show R = _; rw [HK.out]; exact tk_bad s a 3 1 m hlt (by rw [← HX.out]; exact c1) (by rw [← HX.out]; exact .inl ⟨by omega, c2⟩)
            have c2' : (((x : Nat) : Int) == 0) = true := by simp [c2]
            clear c1 c2 HK HX HZ
            go_wp2
            go_ret3
            exact ⟨by rw [hRR.out]; first | rfl | go_num, rfl⟩
          have c2' : (((x : Nat) : Int) == 0) = false := by simp [c2]
          by_cases c3 : 2000000001 < z
          · exact absurd c3 (by omega)
          · have hRR : Hid (R = ((z : Int), ((a + 1 + 1 : Nat) : Int), true)) := by
              show R = _; rw [HK.out, tk_good s a 3 1 m hlt (by show bt s (a + 1) < 128; rw [← HX.out]; exact c1) (by rintro (h | h); exact (fun ⟨_, h⟩ => c2 (by rw [HX.out]; exact h)) h; exact c3 (by rw [HZ.out]; exact h))]
              rw [HZ.out]
            have c3' : (z : Int) ≤ 2000000001 := by omega
            clear c1 c3 HK HX HZ
            go_wp2
            go_ret3
            exact ⟨by rw [hRR.out]; first | rfl | go_num, rfl⟩
        · have hRR : Hid (R = tk s a 3 2 z) := by have := tk_more s a 3 1 m hlt (by show 128 ≤ bt s (a + 1); rw [← HX.out]; omega); show R = _; rw [HK.out, HZ.out]; exact this
          have c1' : (128 : Int) ≤ ((x : Nat) : Int) := by omega
          clear c1 HK HX HZ
          go_wp2
          go_round
          case rel => exact ⟨2, z, by omega, by go_num, by go_num, by simpa using hz35, hRR⟩
          case measure => simp [intOf]
      · have hRR : Hid (R = (0, 0, false)) := by show R = _; rw [HK.out]; exact tk_out s a 4 1 m hlt
        clear HK
        go_wp2
        go_ret3
        exact ⟨by rw [hRR.out]; first | rfl | go_num, rfl⟩
    · clear HR
      have hu : m < 16384 := by simpa using hm
      clear hm hk
      by_cases hlt : a + 2 < s.size
      · obtain ⟨x, hx⟩ : ∃ x, x = bt s (a + 2) := ⟨_, rfl⟩
        have hx256 : x < 256 := by rw [hx]; exact bt_lt _ _
        have hix : ∀ w' : World, (Instr.index 9 (.string s) (.int .i64 ((a : Int) + 2))).run Tryd.prog w' = .ok (.int .u8 (x : Int)) w' := fun w' => index_at s ((a : Int) + 2) (a + 2) x w' (by omega) (by omega) hlt (by rw [hx]; exact bt_get _ _ _)
        obtain ⟨y, hy⟩ : ∃ y, y = x % 128 := ⟨_, rfl⟩
        have hy128 : y < 128 := by omega
        have hand : bits .and .i64 (x : Int) 127 = (y : Int) := by rw [and127, hy]
        obtain ⟨z, hz⟩ : ∃ z, z = m + y * 16384 := ⟨_, rfl⟩
        have hz35 : z < 2097152 := by omega
        have hor : bits .or .i64 (m : Int) ((y : Int) * 16384) = (z : Int) := by rw [hz]; have := or_join 14 m y (by omega) (by simpa using hu) hy128; simpa using this
        have HZ : Hid (z = m + bt s (a + 2) % 128 * 16384) := by rw [← hx, ← hy]; exact hz
        have HX : Hid (x = bt s (a + 2)) := hx
        clear hz hx hy
        by_cases c1 : x < 128
        · have c1' : ((x : Nat) : Int) < 128 := by omega
          by_cases c2 : x = 0
          · have hRR : Hid (R = (0, 0, false)) := by show R = _; rw [HK.out]; exact tk_bad s a 2 2 m hlt (by rw [← HX.out]; exact c1) (by rw [← HX.out]; exact .inl ⟨by omega, c2⟩)
            have c2' : (((x : Nat) : Int) == 0) = true := by simp [c2]
            clear c1 c2 HK HX HZ
            go_wp2
            go_ret3
            exact ⟨by rw [hRR.out]; first | rfl | go_num, rfl⟩
          have c2' : (((x : Nat) : Int) == 0) = false := by simp [c2]
          by_cases c3 : 2000000001 < z
          · exact absurd c3 (by omega)
          · have hRR : Hid (R = ((z : Int), ((a + 2 + 1 : Nat) : Int), true)) := by
              show R = _; rw [HK.out, tk_good s a 2 2 m hlt (by show bt s (a + 2) < 128; rw [← HX.out]; exact c1) (by rintro (h | h); exact (fun ⟨_, h⟩ => c2 (by rw [HX.out]; exact h)) h; exact c3 (by rw [HZ.out]; exact h))]
              rw [HZ.out]
            have c3' : (z : Int) ≤ 2000000001 := by omega
            clear c1 c3 HK HX HZ
            go_wp2
            go_ret3
            exact ⟨by rw [hRR.out]; first | rfl | go_num, rfl⟩
        · have hRR : Hid (R = tk s a 2 3 z) := by have := tk_more s a 2 2 m hlt (by show 128 ≤ bt s (a + 2); rw [← HX.out]; omega); show R = _; rw [HK.out, HZ.out]; exact this
          have c1' : (128 : Int) ≤ ((x : Nat) : Int) := by omega
          clear c1 HK HX HZ
          go_wp2
          go_round
          case rel => exact ⟨3, z, by omega, by go_num, by go_num, by simpa using hz35, hRR⟩
          case measure => simp [intOf]
      · have hRR : Hid (R = (0, 0, false)) := by show R = _; rw [HK.out]; exact tk_out s a 3 2 m hlt
        clear HK
        go_wp2
        go_ret3
        exact ⟨by rw [hRR.out]; first | rfl | go_num, rfl⟩
    · clear HR
      have hu : m < 2097152 := by simpa using hm
      clear hm hk
      by_cases hlt : a + 3 < s.size
      · obtain ⟨x, hx⟩ : ∃ x, x = bt s (a + 3) := ⟨_, rfl⟩
        have hx256 : x < 256 := by rw [hx]; exact bt_lt _ _
        have hix : ∀ w' : World, (Instr.index 9 (.string s) (.int .i64 ((a : Int) + 3))).run Tryd.prog w' = .ok (.int .u8 (x : Int)) w' := fun w' => index_at s ((a : Int) + 3) (a + 3) x w' (by omega) (by omega) hlt (by rw [hx]; exact bt_get _ _ _)
        obtain ⟨y, hy⟩ : ∃ y, y = x % 128 := ⟨_, rfl⟩
        have hy128 : y < 128 := by omega
        have hand : bits .and .i64 (x : Int) 127 = (y : Int) := by rw [and127, hy]
        obtain ⟨z, hz⟩ : ∃ z, z = m + y * 2097152 := ⟨_, rfl⟩
        have hz35 : z < 268435456 := by omega
        have hor : bits .or .i64 (m : Int) ((y : Int) * 2097152) = (z : Int) := by rw [hz]; have := or_join 21 m y (by omega) (by simpa using hu) hy128; simpa using this
        have HZ : Hid (z = m + bt s (a + 3) % 128 * 2097152) := by rw [← hx, ← hy]; exact hz
        have HX : Hid (x = bt s (a + 3)) := hx
        clear hz hx hy
        by_cases c1 : x < 128
        · have c1' : ((x : Nat) : Int) < 128 := by omega
          by_cases c2 : x = 0
          · have hRR : Hid (R = (0, 0, false)) := by show R = _; rw [HK.out]; exact tk_bad s a 1 3 m hlt (by rw [← HX.out]; exact c1) (by rw [← HX.out]; exact .inl ⟨by omega, c2⟩)
            have c2' : (((x : Nat) : Int) == 0) = true := by simp [c2]
            clear c1 c2 HK HX HZ
            go_wp2
            go_ret3
            exact ⟨by rw [hRR.out]; first | rfl | go_num, rfl⟩
          have c2' : (((x : Nat) : Int) == 0) = false := by simp [c2]
          by_cases c3 : 2000000001 < z
          · exact absurd c3 (by omega)
          · have hRR : Hid (R = ((z : Int), ((a + 3 + 1 : Nat) : Int), true)) := by
              show R = _; rw [HK.out, tk_good s a 1 3 m hlt (by show bt s (a + 3) < 128; rw [← HX.out]; exact c1) (by rintro (h | h); exact (fun ⟨_, h⟩ => c2 (by rw [HX.out]; exact h)) h; exact c3 (by rw [HZ.out]; exact h))]
              rw [HZ.out]
            have c3' : (z : Int) ≤ 2000000001 := by omega
            clear c1 c3 HK HX HZ
            go_wp2
            go_ret3
            exact ⟨by rw [hRR.out]; first | rfl | go_num, rfl⟩
        · have hRR : Hid (R = tk s a 1 4 z) := by have := tk_more s a 1 3 m hlt (by show 128 ≤ bt s (a + 3); rw [← HX.out]; omega); show R = _; rw [HK.out, HZ.out]; exact this
          have c1' : (128 : Int) ≤ ((x : Nat) : Int) := by omega
          clear c1 HK HX HZ
          go_wp2
          go_round
          case rel => exact ⟨4, z, by omega, by go_num, by go_num, by simpa using hz35, hRR⟩
          case measure => simp [intOf]
      · have hRR : Hid (R = (0, 0, false)) := by show R = _; rw [HK.out]; exact tk_out s a 2 3 m hlt
        clear HK
        go_wp2
        go_ret3
        exact ⟨by rw [hRR.out]; first | rfl | go_num, rfl⟩
    · clear HR
      have hu : m < 268435456 := by simpa using hm
      clear hm hk
      by_cases hlt : a + 4 < s.size
      · obtain ⟨x, hx⟩ : ∃ x, x = bt s (a + 4) := ⟨_, rfl⟩
        have hx256 : x < 256 := by rw [hx]; exact bt_lt _ _
        have hix : ∀ w' : World, (Instr.index 9 (.string s) (.int .i64 ((a : Int) + 4))).run Tryd.prog w' = .ok (.int .u8 (x : Int)) w' := fun w' => index_at s ((a : Int) + 4) (a + 4) x w' (by omega) (by omega) hlt (by rw [hx]; exact bt_get _ _ _)
        obtain ⟨y, hy⟩ : ∃ y, y = x % 128 := ⟨_, rfl⟩
        have hy128 : y < 128 := by omega
        have hand : bits .and .i64 (x : Int) 127 = (y : Int) := by rw [and127, hy]
        obtain ⟨z, hz⟩ : ∃ z, z = m + y * 268435456 := ⟨_, rfl⟩
        have hz35 : z < 34359738368 := by omega
        have hor : bits .or .i64 (m : Int) ((y : Int) * 268435456) = (z : Int) := by rw [hz]; have := or_join 28 m y (by omega) (by simpa using hu) hy128; simpa using this
        have HZ : Hid (z = m + bt s (a + 4) % 128 * 268435456) := by rw [← hx, ← hy]; exact hz
        have HX : Hid (x = bt s (a + 4)) := hx
        clear hz hx hy
        by_cases c1 : x < 128
        · have c1' : ((x : Nat) : Int) < 128 := by omega
          by_cases c2 : x = 0
          · have hRR : Hid (R = (0, 0, false)) := by show R = _; rw [HK.out]; exact tk_bad s a 0 4 m hlt (by rw [← HX.out]; exact c1) (by rw [← HX.out]; exact .inl ⟨by omega, c2⟩)
            have c2' : (((x : Nat) : Int) == 0) = true := by simp [c2]
            clear c1 c2 HK HX HZ
            go_wp2
            go_ret3
            exact ⟨by rw [hRR.out]; first | rfl | go_num, rfl⟩
          have c2' : (((x : Nat) : Int) == 0) = false := by simp [c2]
          by_cases c3 : 2000000001 < z
          · have hRR : Hid (R = (0, 0, false)) := by show R = _; rw [HK.out]; exact tk_bad s a 0 4 m hlt (by show bt s (a + 4) < 128; rw [← HX.out]; exact c1) (.inr (by show 2000000001 < m + bt s (a + 4) % 128 * 268435456; rw [← HZ.out]; exact c3))
            have c3' : (2000000001 : Int) < (z : Int) := by omega
            clear c1 c3 HK HX HZ
            go_wp2
            go_ret3
            exact ⟨by rw [hRR.out]; first | rfl | go_num, rfl⟩
          · have hRR : Hid (R = ((z : Int), ((a + 4 + 1 : Nat) : Int), true)) := by
              show R = _; rw [HK.out, tk_good s a 0 4 m hlt (by show bt s (a + 4) < 128; rw [← HX.out]; exact c1) (by rintro (h | h); exact (fun ⟨_, h⟩ => c2 (by rw [HX.out]; exact h)) h; exact c3 (by rw [HZ.out]; exact h))]
              rw [HZ.out]
            have c3' : (z : Int) ≤ 2000000001 := by omega
            clear c1 c3 HK HX HZ
            go_wp2
            go_ret3
            exact ⟨by rw [hRR.out]; first | rfl | go_num, rfl⟩
        · have hRR : Hid (R = tk s a 0 5 z) := by have := tk_more s a 0 4 m hlt (by show 128 ≤ bt s (a + 4); rw [← HX.out]; omega); show R = _; rw [HK.out, HZ.out]; exact this
          have c1' : (128 : Int) ≤ ((x : Nat) : Int) := by omega
          clear c1 HK HX HZ
          go_wp2
          go_round
          case rel => exact ⟨5, z, by omega, by go_num, by go_num, by simpa using hz35, hRR⟩
          case measure => simp [intOf]
      · have hRR : Hid (R = (0, 0, false)) := by show R = _; rw [HK.out]; exact tk_out s a 1 4 m hlt
        clear HK
        go_wp2
        go_ret3
        exact ⟨by rw [hRR.out]; first | rfl | go_num, rfl⟩
    · have hRR : Hid (R = (0, 0, false)) := by show R = _; rw [HK.out]; rfl
      clear HK HR hm
      go_wp2
      go_ret3
      exact ⟨by rw [hRR.out]; rfl, rfl⟩
end Go.Proofs.YtmjpmmkjfimopaaDoor

namespace Go.Proofs.YtmjpmmkjfimopaaDoor
open Go.RowKit Plain

theorem ret_three {a b c d : Int} {x y : Bool} (h1 : a = c) (h2 : b = d) (h3 : x = y) :
    Ending.returned (.tuple #[.int .i64 a, .int .i64 b, .bool x]) = .returned (.tuple #[.int .i64 c, .int .i64 d, .bool y]) := by rw [h1, h2, h3]

set_option maxRecDepth 100000 in
set_option maxHeartbeats 1000000 in
theorem takeIn (s : ByteArray) (a : Nat) (w : World) (hs : s.size ≤ 400) (ha : a < s.size) :
    Calls Tryd.prog 97 #[.string s, .int .i64 a] w fun e w' => e = .returned (.tuple #[.int .i64 (tk s a 5 0 0).1, .int .i64 (tk s a 5 0 0).2.1, .bool (tk s a 5 0 0).2.2]) ∧ w' = w := by
  obtain ⟨R, hR⟩ : ∃ R, R = tk s a 5 0 0 := ⟨_, rfl⟩
  rw [← hR]
  have HR : Hid (R = tk s a 5 0 0) := hR
  clear hR
  have ha' : (a : Int) < (s.size : Int) := by omega
  go_enter Tryd.func97, Tryd.ntmps97
  go_wp2
  go_loop [7, 8, 9] (fun n u i => ∃ k m : Nat, k ≤ 5 ∧ i = .int .i64 ((a : Int) + (k : Int)) ∧ u = .int .i64 ((128 ^ k : Nat) : Int) ∧ n = .int .i64 m ∧ m < 128 ^ k ∧ Hid (R = tk s a (5 - k) k m)) (fun _ _ i => (a : Nat) + 5 - (intOf i).toNat)
  case atStart => exact ⟨0, 0, by omega, by go_num, by go_num, rfl, by decide, HR⟩
  case round =>
    obtain ⟨k, m, hk, rfl, rfl, rfl, hm, HK⟩ := hrel
    have h5 : k = 0 ∨ k = 1 ∨ k = 2 ∨ k = 3 ∨ k = 4 ∨ k = 5 := by omega
    rcases h5 with rfl | rfl | rfl | rfl | rfl | rfl
    · clear HR
      have hu : m < 1 := by simpa using hm
      clear hm hk
      by_cases hlt : a < s.size
      · obtain ⟨x, hx⟩ : ∃ x, x = bt s (a) := ⟨_, rfl⟩
        have hx256 : x < 256 := by rw [hx]; exact bt_lt _ _
        have hix : ∀ w' : World, (Instr.index 9 (.string s) (.int .i64 (a : Int))).run Tryd.prog w' = .ok (.int .u8 (x : Int)) w' := fun w' => index_at s (a : Int) (a) x w' (by omega) (by omega) hlt (by rw [hx]; exact bt_get _ _ _)
        have hlt' : (a : Int) < (s.size : Int) := by omega
        obtain ⟨z, hz⟩ : ∃ z, z = m + x % 128 * 1 := ⟨_, rfl⟩
        have hz35 : z < 128 := by omega
        have hzi : (z : Int) = (m : Int) + (x : Int) % 128 := by omega
        have HI : Hid ((z : Int) = (m : Int) + (x : Int) % 128) := hzi
        have HZ : Hid (z = m + bt s (a) % 128 * 1) := by rw [← hx]; exact hz
        have HX : Hid (x = bt s (a)) := hx
        clear hz hx
        by_cases c1 : x < 128
        · have c1' : ((x : Nat) : Int) < 128 := by omega
          by_cases c2 : x = 0
          · have hRR : Hid (R = ((0 : Int), ((a + 1 : Nat) : Int), true)) := by
              show R = _; rw [HK.out, tk_good s a 4 0 m hlt (by show bt s a < 128; rw [← HX.out]; exact c1) (by rintro (h | h); exact (fun ⟨h, _⟩ => by omega) h; exact absurd h (by show ¬ 2000000001 < m + bt s a % 128 * 1; rw [← HX.out]; omega))]
              show (((m + bt s a % 128 * 1 : Nat) : Int), ((a + 0 + 1 : Nat) : Int), true) = _
              rw [← HX.out, c2]; simp; omega
            have c2' : (((x : Nat) : Int) == 0) = true := by simp [c2]
            have hm0 : m = 0 := by omega
            subst hm0
            subst c2
            clear c1 HK HX HZ hzi
            go_wp2
            go_ret3
            exact ⟨by rw [hRR.out]; first | rfl | go_num, rfl⟩
          have c2' : (((x : Nat) : Int) == 0) = false := by simp [c2]
          by_cases c3 : 2000000001 < z
          · exact absurd c3 (by omega)
          · have hRR : Hid (R = ((z : Int), ((a + 0 + 1 : Nat) : Int), true)) := by
              show R = _; rw [HK.out, tk_good s a 4 0 m hlt (by show bt s (a) < 128; rw [← HX.out]; exact c1) (by rintro (h | h); exact (fun ⟨h, _⟩ => by omega) h; exact c3 (by rw [HZ.out]; exact h))]
              rw [HZ.out]; rfl
            have c3' : (m : Int) + (x : Int) % 128 ≤ 2000000001 := by omega
            clear c1 c3 HK HX HZ hzi
            go_wp2
            go_ret3
            have hzi := HI.out
            exact ⟨by rw [hRR.out]; first | rfl | (exact ret_three (by dsimp only; omega) (by dsimp only; omega) rfl), rfl⟩
        · have hRR : Hid (R = tk s a 4 1 z) := by have := tk_more s a 4 0 m hlt (by show 128 ≤ bt s (a); rw [← HX.out]; omega); show R = _; rw [HK.out, HZ.out]; exact this
          have c1' : (128 : Int) ≤ ((x : Nat) : Int) := by omega
          clear c1 HK HX HZ hzi
          go_wp2
          have hzi := HI.out
          go_round
          case rel => exact ⟨1, z, by omega, by go_num, by go_num, by go_num, by simpa using hz35, hRR⟩
          case measure => simp [intOf]
      · exact absurd ha hlt
    · clear HR
      have hu : m < 128 := by simpa using hm
      clear hm hk
      by_cases hlt : a + 1 < s.size
      · obtain ⟨x, hx⟩ : ∃ x, x = bt s (a + 1) := ⟨_, rfl⟩
        have hx256 : x < 256 := by rw [hx]; exact bt_lt _ _
        have hix : ∀ w' : World, (Instr.index 9 (.string s) (.int .i64 ((a : Int) + 1))).run Tryd.prog w' = .ok (.int .u8 (x : Int)) w' := fun w' => index_at s ((a : Int) + 1) (a + 1) x w' (by omega) (by omega) hlt (by rw [hx]; exact bt_get _ _ _)
        have hlt' : ((a : Int) + 1) < (s.size : Int) := by omega
        obtain ⟨z, hz⟩ : ∃ z, z = m + x % 128 * 128 := ⟨_, rfl⟩
        have hz35 : z < 16384 := by omega
        have hzi : (z : Int) = (m : Int) + (x : Int) % 128 * 128 := by omega
        have HI : Hid ((z : Int) = (m : Int) + (x : Int) % 128 * 128) := hzi
        have HZ : Hid (z = m + bt s (a + 1) % 128 * 128) := by rw [← hx]; exact hz
        have HX : Hid (x = bt s (a + 1)) := hx
        clear hz hx
        by_cases c1 : x < 128
        · have c1' : ((x : Nat) : Int) < 128 := by omega
          by_cases c2 : x = 0
          · have hRR : Hid (R = (0, 0, false)) := by show R = _; rw [HK.out]; exact tk_bad s a 3 1 m hlt (by rw [← HX.out]; exact c1) (by rw [← HX.out]; exact .inl ⟨by omega, c2⟩)
            have c2' : (((x : Nat) : Int) == 0) = true := by simp [c2]
            clear c1 c2 HK HX HZ hzi
            go_wp2
            go_ret3
            exact ⟨by rw [hRR.out]; first | rfl | go_num, rfl⟩
          have c2' : (((x : Nat) : Int) == 0) = false := by simp [c2]
          by_cases c3 : 2000000001 < z
          · exact absurd c3 (by omega)
          · have hRR : Hid (R = ((z : Int), ((a + 1 + 1 : Nat) : Int), true)) := by
              show R = _; rw [HK.out, tk_good s a 3 1 m hlt (by show bt s (a + 1) < 128; rw [← HX.out]; exact c1) (by rintro (h | h); exact (fun ⟨_, h⟩ => c2 (by rw [HX.out]; exact h)) h; exact c3 (by rw [HZ.out]; exact h))]
              rw [HZ.out]
            have c3' : (m : Int) + (x : Int) % 128 * 128 ≤ 2000000001 := by omega
            clear c1 c3 HK HX HZ hzi
            go_wp2
            go_ret3
            have hzi := HI.out
            exact ⟨by rw [hRR.out]; first | rfl | (exact ret_three (by dsimp only; omega) (by dsimp only; omega) rfl), rfl⟩
        · have hRR : Hid (R = tk s a 3 2 z) := by have := tk_more s a 3 1 m hlt (by show 128 ≤ bt s (a + 1); rw [← HX.out]; omega); show R = _; rw [HK.out, HZ.out]; exact this
          have c1' : (128 : Int) ≤ ((x : Nat) : Int) := by omega
          clear c1 HK HX HZ hzi
          go_wp2
          have hzi := HI.out
          go_round
          case rel => exact ⟨2, z, by omega, by go_num, by go_num, by go_num, by simpa using hz35, hRR⟩
          case measure => simp [intOf]; omega
      · have hRR : Hid (R = (0, 0, false)) := by show R = _; rw [HK.out]; exact tk_out s a 4 1 m hlt
        have hlt' : (s.size : Int) ≤ ((a : Int) + 1) := by omega
        clear HK hlt
        go_wp2
        go_ret3
        exact ⟨by rw [hRR.out]; first | rfl | go_num, rfl⟩
    · clear HR
      have hu : m < 16384 := by simpa using hm
      clear hm hk
      by_cases hlt : a + 2 < s.size
      · obtain ⟨x, hx⟩ : ∃ x, x = bt s (a + 2) := ⟨_, rfl⟩
        have hx256 : x < 256 := by rw [hx]; exact bt_lt _ _
        have hix : ∀ w' : World, (Instr.index 9 (.string s) (.int .i64 ((a : Int) + 2))).run Tryd.prog w' = .ok (.int .u8 (x : Int)) w' := fun w' => index_at s ((a : Int) + 2) (a + 2) x w' (by omega) (by omega) hlt (by rw [hx]; exact bt_get _ _ _)
        have hlt' : ((a : Int) + 2) < (s.size : Int) := by omega
        obtain ⟨z, hz⟩ : ∃ z, z = m + x % 128 * 16384 := ⟨_, rfl⟩
        have hz35 : z < 2097152 := by omega
        have hzi : (z : Int) = (m : Int) + (x : Int) % 128 * 16384 := by omega
        have HI : Hid ((z : Int) = (m : Int) + (x : Int) % 128 * 16384) := hzi
        have HZ : Hid (z = m + bt s (a + 2) % 128 * 16384) := by rw [← hx]; exact hz
        have HX : Hid (x = bt s (a + 2)) := hx
        clear hz hx
        by_cases c1 : x < 128
        · have c1' : ((x : Nat) : Int) < 128 := by omega
          by_cases c2 : x = 0
          · have hRR : Hid (R = (0, 0, false)) := by show R = _; rw [HK.out]; exact tk_bad s a 2 2 m hlt (by rw [← HX.out]; exact c1) (by rw [← HX.out]; exact .inl ⟨by omega, c2⟩)
            have c2' : (((x : Nat) : Int) == 0) = true := by simp [c2]
            clear c1 c2 HK HX HZ hzi
            go_wp2
            go_ret3
            exact ⟨by rw [hRR.out]; first | rfl | go_num, rfl⟩
          have c2' : (((x : Nat) : Int) == 0) = false := by simp [c2]
          by_cases c3 : 2000000001 < z
          · exact absurd c3 (by omega)
          · have hRR : Hid (R = ((z : Int), ((a + 2 + 1 : Nat) : Int), true)) := by
              show R = _; rw [HK.out, tk_good s a 2 2 m hlt (by show bt s (a + 2) < 128; rw [← HX.out]; exact c1) (by rintro (h | h); exact (fun ⟨_, h⟩ => c2 (by rw [HX.out]; exact h)) h; exact c3 (by rw [HZ.out]; exact h))]
              rw [HZ.out]
            have c3' : (m : Int) + (x : Int) % 128 * 16384 ≤ 2000000001 := by omega
            clear c1 c3 HK HX HZ hzi
            go_wp2
            go_ret3
            have hzi := HI.out
            exact ⟨by rw [hRR.out]; first | rfl | (exact ret_three (by dsimp only; omega) (by dsimp only; omega) rfl), rfl⟩
        · have hRR : Hid (R = tk s a 2 3 z) := by have := tk_more s a 2 2 m hlt (by show 128 ≤ bt s (a + 2); rw [← HX.out]; omega); show R = _; rw [HK.out, HZ.out]; exact this
          have c1' : (128 : Int) ≤ ((x : Nat) : Int) := by omega
          clear c1 HK HX HZ hzi
          go_wp2
          have hzi := HI.out
          go_round
          case rel => exact ⟨3, z, by omega, by go_num, by go_num, by go_num, by simpa using hz35, hRR⟩
          case measure => simp [intOf]; omega
      · have hRR : Hid (R = (0, 0, false)) := by show R = _; rw [HK.out]; exact tk_out s a 3 2 m hlt
        have hlt' : (s.size : Int) ≤ ((a : Int) + 2) := by omega
        clear HK hlt
        go_wp2
        go_ret3
        exact ⟨by rw [hRR.out]; first | rfl | go_num, rfl⟩
    · clear HR
      have hu : m < 2097152 := by simpa using hm
      clear hm hk
      by_cases hlt : a + 3 < s.size
      · obtain ⟨x, hx⟩ : ∃ x, x = bt s (a + 3) := ⟨_, rfl⟩
        have hx256 : x < 256 := by rw [hx]; exact bt_lt _ _
        have hix : ∀ w' : World, (Instr.index 9 (.string s) (.int .i64 ((a : Int) + 3))).run Tryd.prog w' = .ok (.int .u8 (x : Int)) w' := fun w' => index_at s ((a : Int) + 3) (a + 3) x w' (by omega) (by omega) hlt (by rw [hx]; exact bt_get _ _ _)
        have hlt' : ((a : Int) + 3) < (s.size : Int) := by omega
        obtain ⟨z, hz⟩ : ∃ z, z = m + x % 128 * 2097152 := ⟨_, rfl⟩
        have hz35 : z < 268435456 := by omega
        have hzi : (z : Int) = (m : Int) + (x : Int) % 128 * 2097152 := by omega
        have HI : Hid ((z : Int) = (m : Int) + (x : Int) % 128 * 2097152) := hzi
        have HZ : Hid (z = m + bt s (a + 3) % 128 * 2097152) := by rw [← hx]; exact hz
        have HX : Hid (x = bt s (a + 3)) := hx
        clear hz hx
        by_cases c1 : x < 128
        · have c1' : ((x : Nat) : Int) < 128 := by omega
          by_cases c2 : x = 0
          · have hRR : Hid (R = (0, 0, false)) := by show R = _; rw [HK.out]; exact tk_bad s a 1 3 m hlt (by rw [← HX.out]; exact c1) (by rw [← HX.out]; exact .inl ⟨by omega, c2⟩)
            have c2' : (((x : Nat) : Int) == 0) = true := by simp [c2]
            clear c1 c2 HK HX HZ hzi
            go_wp2
            go_ret3
            exact ⟨by rw [hRR.out]; first | rfl | go_num, rfl⟩
          have c2' : (((x : Nat) : Int) == 0) = false := by simp [c2]
          by_cases c3 : 2000000001 < z
          · exact absurd c3 (by omega)
          · have hRR : Hid (R = ((z : Int), ((a + 3 + 1 : Nat) : Int), true)) := by
              show R = _; rw [HK.out, tk_good s a 1 3 m hlt (by show bt s (a + 3) < 128; rw [← HX.out]; exact c1) (by rintro (h | h); exact (fun ⟨_, h⟩ => c2 (by rw [HX.out]; exact h)) h; exact c3 (by rw [HZ.out]; exact h))]
              rw [HZ.out]
            have c3' : (m : Int) + (x : Int) % 128 * 2097152 ≤ 2000000001 := by omega
            clear c1 c3 HK HX HZ hzi
            go_wp2
            go_ret3
            have hzi := HI.out
            exact ⟨by rw [hRR.out]; first | rfl | (exact ret_three (by dsimp only; omega) (by dsimp only; omega) rfl), rfl⟩
        · have hRR : Hid (R = tk s a 1 4 z) := by have := tk_more s a 1 3 m hlt (by show 128 ≤ bt s (a + 3); rw [← HX.out]; omega); show R = _; rw [HK.out, HZ.out]; exact this
          have c1' : (128 : Int) ≤ ((x : Nat) : Int) := by omega
          clear c1 HK HX HZ hzi
          go_wp2
          have hzi := HI.out
          go_round
          case rel => exact ⟨4, z, by omega, by go_num, by go_num, by go_num, by simpa using hz35, hRR⟩
          case measure => simp [intOf]; omega
      · have hRR : Hid (R = (0, 0, false)) := by show R = _; rw [HK.out]; exact tk_out s a 2 3 m hlt
        have hlt' : (s.size : Int) ≤ ((a : Int) + 3) := by omega
        clear HK hlt
        go_wp2
        go_ret3
        exact ⟨by rw [hRR.out]; first | rfl | go_num, rfl⟩
    · clear HR
      have hu : m < 268435456 := by simpa using hm
      clear hm hk
      by_cases hlt : a + 4 < s.size
      · obtain ⟨x, hx⟩ : ∃ x, x = bt s (a + 4) := ⟨_, rfl⟩
        have hx256 : x < 256 := by rw [hx]; exact bt_lt _ _
        have hix : ∀ w' : World, (Instr.index 9 (.string s) (.int .i64 ((a : Int) + 4))).run Tryd.prog w' = .ok (.int .u8 (x : Int)) w' := fun w' => index_at s ((a : Int) + 4) (a + 4) x w' (by omega) (by omega) hlt (by rw [hx]; exact bt_get _ _ _)
        have hlt' : ((a : Int) + 4) < (s.size : Int) := by omega
        obtain ⟨z, hz⟩ : ∃ z, z = m + x % 128 * 268435456 := ⟨_, rfl⟩
        have hz35 : z < 34359738368 := by omega
        have hzi : (z : Int) = (m : Int) + (x : Int) % 128 * 268435456 := by omega
        have HI : Hid ((z : Int) = (m : Int) + (x : Int) % 128 * 268435456) := hzi
        have HZ : Hid (z = m + bt s (a + 4) % 128 * 268435456) := by rw [← hx]; exact hz
        have HX : Hid (x = bt s (a + 4)) := hx
        clear hz hx
        by_cases c1 : x < 128
        · have c1' : ((x : Nat) : Int) < 128 := by omega
          by_cases c2 : x = 0
          · have hRR : Hid (R = (0, 0, false)) := by show R = _; rw [HK.out]; exact tk_bad s a 0 4 m hlt (by rw [← HX.out]; exact c1) (by rw [← HX.out]; exact .inl ⟨by omega, c2⟩)
            have c2' : (((x : Nat) : Int) == 0) = true := by simp [c2]
            clear c1 c2 HK HX HZ hzi
            go_wp2
            go_ret3
            exact ⟨by rw [hRR.out]; first | rfl | go_num, rfl⟩
          have c2' : (((x : Nat) : Int) == 0) = false := by simp [c2]
          by_cases c3 : 2000000001 < z
          · have hRR : Hid (R = (0, 0, false)) := by show R = _; rw [HK.out]; exact tk_bad s a 0 4 m hlt (by show bt s (a + 4) < 128; rw [← HX.out]; exact c1) (.inr (by show 2000000001 < m + bt s (a + 4) % 128 * 268435456; rw [← HZ.out]; exact c3))
            have c3' : (2000000001 : Int) < (m : Int) + (x : Int) % 128 * 268435456 := by omega
            clear c1 c3 HK HX HZ hzi
            go_wp2
            go_ret3
            exact ⟨by rw [hRR.out]; first | rfl | go_num, rfl⟩
          · have hRR : Hid (R = ((z : Int), ((a + 4 + 1 : Nat) : Int), true)) := by
              show R = _; rw [HK.out, tk_good s a 0 4 m hlt (by show bt s (a + 4) < 128; rw [← HX.out]; exact c1) (by rintro (h | h); exact (fun ⟨_, h⟩ => c2 (by rw [HX.out]; exact h)) h; exact c3 (by rw [HZ.out]; exact h))]
              rw [HZ.out]
            have c3' : (m : Int) + (x : Int) % 128 * 268435456 ≤ 2000000001 := by omega
            clear c1 c3 HK HX HZ hzi
            go_wp2
            go_ret3
            have hzi := HI.out
            exact ⟨by rw [hRR.out]; first | rfl | (exact ret_three (by dsimp only; omega) (by dsimp only; omega) rfl), rfl⟩
        · have hRR : Hid (R = tk s a 0 5 z) := by have := tk_more s a 0 4 m hlt (by show 128 ≤ bt s (a + 4); rw [← HX.out]; omega); show R = _; rw [HK.out, HZ.out]; exact this
          have c1' : (128 : Int) ≤ ((x : Nat) : Int) := by omega
          clear c1 HK HX HZ hzi
          go_wp2
          have hzi := HI.out
          go_round
          case rel => exact ⟨5, z, by omega, by go_num, by go_num, by go_num, by simpa using hz35, hRR⟩
          case measure => simp [intOf]; omega
      · have hRR : Hid (R = (0, 0, false)) := by show R = _; rw [HK.out]; exact tk_out s a 1 4 m hlt
        have hlt' : (s.size : Int) ≤ ((a : Int) + 4) := by omega
        clear HK hlt
        go_wp2
        go_ret3
        exact ⟨by rw [hRR.out]; first | rfl | go_num, rfl⟩
    · have hRR : Hid (R = (0, 0, false)) := by show R = _; rw [HK.out]; rfl
      clear HK HR hm
      by_cases hlt : (a : Int) + 5 < (s.size : Int)
      all_goals
        go_wp2
        go_ret3
        exact ⟨by rw [hRR.out]; rfl, rfl⟩
end Go.Proofs.YtmjpmmkjfimopaaDoor

namespace Go.Proofs.YtmjpmmkjfimopaaDoor
open Go.RowKit Plain

/-- what TakeVarint finds at any text and place -/
def tvk (s : ByteArray) (a : Int) : Int × Int × Bool :=
  if s.size ≤ 400 ∧ 0 ≤ a ∧ a < s.size then tk s a.toNat 5 0 0 else (0, 0, false)

theorem tv_out (s : ByteArray) (a : Int) (h : ¬ (s.size ≤ 400 ∧ 0 ≤ a ∧ a < s.size)) : tvk s a = (0, 0, false) := by
  unfold tvk; rw [if_neg h]

theorem tv_in (s : ByteArray) (a : Nat) (h1 : s.size ≤ 400) (h2 : a < s.size) : tvk s (a : Int) = tk s a 5 0 0 := by
  unfold tvk; rw [if_pos ⟨h1, by omega, by omega⟩, Int.toNat_natCast]

set_option maxRecDepth 100000 in
set_option maxHeartbeats 1000000 in
theorem take10 (s : ByteArray) (a : Int) (w : World) (hs : s.size ≤ maxLen) :
    Calls Tryd.prog 97 #[.string s, .int .i64 a] w fun e w' => e = .returned (.tuple #[.int .i64 (tvk s a).1, .int .i64 (tvk s a).2.1, .bool (tvk s a).2.2]) ∧ w' = w := by
  unfold maxLen at hs
  by_cases h : s.size ≤ 400 ∧ 0 ≤ a ∧ a < s.size
  · obtain ⟨n, rfl⟩ := Int.eq_ofNat_of_zero_le h.2.1
    rw [tv_in s n h.1 (by omega)]
    exact takeIn s n w h.1 (by omega)
  · rw [tv_out s a h]
    by_cases h400 : 400 < s.size
    · have h400' : (400 : Int) < (s.size : Int) := by omega
      clear h h400
      go_enter Tryd.func97, Tryd.ntmps97
      go_wp2
      go_ret3
      exact ⟨rfl, rfl⟩
    · have h400' : (s.size : Int) ≤ 400 := by omega
      by_cases hneg : a < 0
      · clear h h400
        go_enter Tryd.func97, Tryd.ntmps97
        go_wp2
        go_ret3
        exact ⟨rfl, rfl⟩
      · have hout : (s.size : Int) ≤ a := by omega
        have hneg' : 0 ≤ a := by omega
        clear h h400 hneg
        go_enter Tryd.func97, Tryd.ntmps97
        go_wp2
        go_ret3
        exact ⟨rfl, rfl⟩

end Go.Proofs.YtmjpmmkjfimopaaDoor
