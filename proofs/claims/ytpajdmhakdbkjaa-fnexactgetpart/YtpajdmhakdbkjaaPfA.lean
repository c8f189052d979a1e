/- The program's fitsPart: its head laid, numbers looked at, shapes told apart. -/
import Derived.Test.YtpajdmhakdbkjaaPcA
import Derived.Test.YtpajdmhakdbkjaaVaD
import Derived.Test.YtpajdmhakdbkjaaGg
import Derived.Test.YtpajdmhakdbkjaaNdK
namespace Go.Proofs.Ytpajdmhakdbkjaa
open Go.RowKit Plain Sch

theorem taNumNum (v : Value) (w : World) : (Instr.typeAssert (.iface 136 v) 71 136 true).run Try.prog w = .ok (.tuple #[v, .bool true]) w := by kernel_rfl
theorem taEnuNum (v : Value) (w : World) : (Instr.typeAssert (.iface 138 v) 71 136 true).run Try.prog w = .ok (.tuple #[.agg #[], .bool false]) w := by kernel_rfl
theorem taTxtNum (v : Value) (w : World) : (Instr.typeAssert (.iface 140 v) 71 136 true).run Try.prog w = .ok (.tuple #[.agg #[], .bool false]) w := by kernel_rfl
theorem taLstNum (v : Value) (w : World) : (Instr.typeAssert (.iface 125 v) 71 136 true).run Try.prog w = .ok (.tuple #[.agg #[], .bool false]) w := by kernel_rfl
theorem taMsgNum (v : Value) (w : World) : (Instr.typeAssert (.iface 127 v) 71 136 true).run Try.prog w = .ok (.tuple #[.agg #[], .bool false]) w := by kernel_rfl
theorem taTxtTxt (v : Value) (w : World) : (Instr.typeAssert (.iface 140 v) 71 140 true).run Try.prog w = .ok (.tuple #[v, .bool true]) w := by kernel_rfl
theorem taLstTxt (v : Value) (w : World) : (Instr.typeAssert (.iface 125 v) 71 140 true).run Try.prog w = .ok (.tuple #[.agg #[], .bool false]) w := by kernel_rfl
theorem taMsgTxt (v : Value) (w : World) : (Instr.typeAssert (.iface 127 v) 71 140 true).run Try.prog w = .ok (.tuple #[.agg #[], .bool false]) w := by kernel_rfl

set_option maxRecDepth 100000 in
set_option maxHeartbeats 1000000 in
theorem goodNumber_any (n : Int) (w : World) : Calls Try.prog 116 #[.int .i64 n] w fun e w' => e = .returned (.bool (numOk n)) ∧ w' = w := by
  by_cases h1 : -1000000000 ≤ n
  · by_cases h2 : n ≤ 1000000000
    · have hd : numOk n = true := by unfold numOk; simp [h1, h2]
      rw [hd]
      clear hd
      go_enter Try.func116, Try.ntmps116
      go_wp2
      go_ret
      exact ⟨rfl, rfl⟩
    · have hd : numOk n = false := by unfold numOk; simp [h2]
      have h2' : decide (n ≤ 1000000000) = false := by simpa using h2
      rw [hd]
      clear hd h2
      go_enter Try.func116, Try.ntmps116
      go_wp2
      go_ret
      exact ⟨rfl, rfl⟩
  · have hd : numOk n = false := by unfold numOk; simp [h1]
    have h1' : decide (-1000000000 ≤ n) = false := by simpa using h1
    rw [hd]
    clear hd h1
    go_enter Try.func116, Try.ntmps116
    go_wp2
    go_ret
    exact ⟨rfl, rfl⟩

set_option maxRecDepth 100000 in
set_option maxHeartbeats 1000000 in
theorem numberFits_num (n : Int) (v : Value) (w : World) : Calls Try.prog 84 #[.int .i64 n, .iface 136 v] w fun e w' => e = .returned (.bool (numOk n)) ∧ Below w.heap.size w w' := by
  have ta := taNumEnu
  have hB1 : ∀ o, Below w.heap.size w (w.alloc o) := fun o => (Below.refl _ w).alloc (Nat.le_refl _) o
  go_enter Try.func84, Try.ntmps84
  go_wp2_with fail
  refine (goodNumber_any n _).mono ?_
  rintro e w1 ⟨rfl, rfl⟩
  go_wp2
  go_ret
  exact ⟨rfl, hB1 _⟩

set_option maxRecDepth 100000 in
set_option maxHeartbeats 1000000 in
theorem numberFits_enum (n m : Int) (w : World) : Calls Try.prog 84 #[.int .i64 n, .iface 138 (.agg #[.int .i64 m])] w fun e w' => e = .returned (.bool (decide (0 ≤ n ∧ n ≤ m))) ∧ Below w.heap.size w w' := by
  have ta := taEnuEnu
  have hB1 : ∀ o, Below w.heap.size w (w.alloc o) := fun o => (Below.refl _ w).alloc (Nat.le_refl _) o
  by_cases h1 : 0 ≤ n
  · by_cases h2 : n ≤ m
    · have hd : decide (0 ≤ n ∧ n ≤ m) = true := by simp [h1, h2]
      rw [hd]
      clear hd
      go_enter Try.func84, Try.ntmps84
      go_wp2
      go_ret
      exact ⟨rfl, hB1 _⟩
    · have hd : decide (0 ≤ n ∧ n ≤ m) = false := by simp [h2]
      have h2' : decide (n ≤ m) = false := by simpa using h2
      rw [hd]
      clear hd h2
      go_enter Try.func84, Try.ntmps84
      go_wp2
      go_ret
      exact ⟨rfl, hB1 _⟩
  · have hd : decide (0 ≤ n ∧ n ≤ m) = false := by simp [h1]
    have h1' : decide (0 ≤ n) = false := by simpa using h1
    rw [hd]
    clear hd h1
    go_enter Try.func84, Try.ntmps84
    go_wp2
    go_ret
    exact ⟨rfl, hB1 _⟩

abbrev ndz : Obj := .cells #[.int .i64 0, .string ⟨#[]⟩, .int .i64 0, .int .i64 0, .bool false] 85

theorem five_new {W w3 : World} (hb : Below (W.alloc ndz).drew.heap.size (W.alloc ndz).drew w3) : Five w3 W.heap.size (.int .i64 0) (.string ⟨#[]⟩) (.int .i64 0) (.int .i64 0) (.bool false) := by
  have h0 : Five (W.alloc ndz) W.heap.size (.int .i64 0) (.string ⟨#[]⟩) (.int .i64 0) (.int .i64 0) (.bool false) := by
    refine ⟨⟨?_, ?_, ?_, ?_, ?_⟩, ?_, ?_, ?_, ?_, ?_⟩ <;> go_simp
  exact h0.kept (hb.block _ (by show _ < (W.alloc ndz).heap.size; simp))

theorem five_new2 {W w3 : World} (hb : Below ((W.alloc ndz).alloc ndz).drew.heap.size ((W.alloc ndz).alloc ndz).drew w3) : Five w3 (W.heap.size + 1) (.int .i64 0) (.string ⟨#[]⟩) (.int .i64 0) (.int .i64 0) (.bool false) := by
  have h := five_new (W := W.alloc ndz) hb
  simpa using h

theorem five_new1 {W w3 : World} (hb : Below ((W.alloc ndz).alloc ndz).drew.heap.size ((W.alloc ndz).alloc ndz).drew w3) : Five w3 W.heap.size (.int .i64 0) (.string ⟨#[]⟩) (.int .i64 0) (.int .i64 0) (.bool false) := by
  have h0 : Five (W.alloc ndz) W.heap.size (.int .i64 0) (.string ⟨#[]⟩) (.int .i64 0) (.int .i64 0) (.bool false) := by
    refine ⟨⟨?_, ?_, ?_, ?_, ?_⟩, ?_, ?_, ?_, ?_, ?_⟩ <;> go_simp
  refine h0.kept ((hb.block _ (by show _ < ((W.alloc ndz).alloc ndz).heap.size; simp; omega)).trans ?_)
  exact Below.heap_alloc (W.alloc ndz) _ _ (by simp)

theorem five_sz1 {W w3 : World} (hb : Below (W.alloc ndz).drew.heap.size (W.alloc ndz).drew w3) : W.heap.size + 1 ≤ w3.heap.size := by
  have h : (W.alloc ndz).heap.size ≤ w3.heap.size := hb.size
  simpa using h

theorem five_sz2 {W w3 : World} (hb : Below ((W.alloc ndz).alloc ndz).drew.heap.size ((W.alloc ndz).alloc ndz).drew w3) : W.heap.size + 2 ≤ w3.heap.size := by
  have h : ((W.alloc ndz).alloc ndz).heap.size ≤ w3.heap.size := hb.size
  simpa using h

abbrev st5 (w : World) (b : Nat) (v0 v1 v2 v3 v4 : Value) : World := ((((w.setCell ⟨b, 0, none⟩ v0).setCell ⟨b, 1, none⟩ v1).setCell ⟨b, 2, none⟩ v2).setCell ⟨b, 3, none⟩ v3).setCell ⟨b, 4, none⟩ v4

theorem bl5 {W w3 : World} (h : Below W.heap.size W w3) {b : Nat} {v0 v1 v2 v3 v4 : Value} (hb : W.heap.size ≤ b) : Below W.heap.size W (((((w3.setCell ⟨b, 0, none⟩ v0).setCell ⟨b, 1, none⟩ v1).setCell ⟨b, 2, none⟩ v2).setCell ⟨b, 3, none⟩ v3).setCell ⟨b, 4, none⟩ v4) :=
  ((((h.setCell (p := ⟨b, 0, none⟩) hb _).setCell (p := ⟨b, 1, none⟩) hb _).setCell (p := ⟨b, 2, none⟩) hb _).setCell (p := ⟨b, 3, none⟩) hb _).setCell (p := ⟨b, 4, none⟩) hb _
theorem bla {W w3 : World} (h : Below W.heap.size W w3) {o : Obj} : Below W.heap.size W (w3.alloc o) := h.alloc h.size o
theorem blaa {W w3 : World} (h : Below W.heap.size W w3) {o o2 : Obj} : Below W.heap.size W ((w3.alloc o).alloc o2) := bla (bla h)
theorem bl5a {W w3 : World} (h : Below W.heap.size W w3) {b : Nat} {v0 v1 v2 v3 v4 : Value} (hb : W.heap.size ≤ b) {o : Obj} : Below W.heap.size W ((((((w3.setCell ⟨b, 0, none⟩ v0).setCell ⟨b, 1, none⟩ v1).setCell ⟨b, 2, none⟩ v2).setCell ⟨b, 3, none⟩ v3).setCell ⟨b, 4, none⟩ v4).alloc o) := bla (bl5 h hb)

/-- behind the first statement of fitsPart: the head and what it should be lie in blocks of their own -/
def HCut (W2 : World) (h : Ty) (no up : Int) (s7 s8 : Value) (wx : World) : Prop :=
  ∃ b7 b8, s7 = .pointer (some ⟨b7, 0, none⟩) ∧ s8 = .pointer (some ⟨b8, 0, none⟩) ∧ b7 ≠ b8 ∧ W2.heap.size ≤ b7 ∧ W2.heap.size ≤ b8 ∧ b7 < wx.heap.size ∧ b8 < wx.heap.size ∧
    Five wx b7 (.int .i64 h.most) (.string h.name) (.int .i64 h.no) (.int .i64 h.up) (.bool h.must) ∧ Five wx b8 (.int .i64 0) (.string ⟨#[]⟩) (.int .i64 no) (.int .i64 up) (.bool false) ∧ Below W2.heap.size W2 wx

theorem fiveNew (w : World) (v0 v1 v2 v3 v4 : Value) : Five (w.alloc (.cells #[v0, v1, v2, v3, v4] 85)) w.heap.size v0 v1 v2 v3 v4 := by
  refine ⟨⟨?_, ?_, ?_, ?_, ?_⟩, ?_, ?_, ?_, ?_, ?_⟩ <;> go_simp

theorem st5_heap (w : World) (b : Nat) (v0 v1 v2 v3 v4 : Value) (g : Nat) (hg : g ≠ b) : (st5 w b v0 v1 v2 v3 v4).heap[g]? = w.heap[g]? := by
  unfold st5
  repeat (rw [Below.heap_setCell _ _ _ _ (by show g ≠ b; exact hg)])

theorem st5_size (w : World) (b : Nat) (v0 v1 v2 v3 v4 : Value) : (st5 w b v0 v1 v2 v3 v4).heap.size = w.heap.size := by unfold st5; simp

theorem Five.st5 {w : World} {b : Nat} {u0 u1 u2 u3 u4 : Value} (h : Five w b u0 u1 u2 u3 u4) (v0 v1 v2 v3 v4 : Value) : Five (st5 w b v0 v1 v2 v3 v4) b v0 v1 v2 v3 v4 := by
  obtain ⟨⟨c0, c1, c2, c3, c4⟩, z0, z1, z2, z3, z4⟩ := h
  refine ⟨⟨?_, ?_, ?_, ?_, ?_⟩, ?_, ?_, ?_, ?_, ?_⟩ <;> (unfold Proofs.Ytpajdmhakdbkjaa.st5; go_simp)

theorem Five.set0 {w : World} {b : Nat} {v0 v1 v2 v3 v4 : Value} (h : Five w b v0 v1 v2 v3 v4) (u : Value) : Five (w.setCell ⟨b, 0, none⟩ u) b u v1 v2 v3 v4 := by
  obtain ⟨⟨c0, c1, c2, c3, c4⟩, z0, z1, z2, z3, z4⟩ := h
  refine ⟨⟨?_, ?_, ?_, ?_, ?_⟩, ?_, ?_, ?_, ?_, ?_⟩ <;> go_simp
theorem Five.set1 {w : World} {b : Nat} {v0 v1 v2 v3 v4 : Value} (h : Five w b v0 v1 v2 v3 v4) (u : Value) : Five (w.setCell ⟨b, 1, none⟩ u) b v0 u v2 v3 v4 := by
  obtain ⟨⟨c0, c1, c2, c3, c4⟩, z0, z1, z2, z3, z4⟩ := h
  refine ⟨⟨?_, ?_, ?_, ?_, ?_⟩, ?_, ?_, ?_, ?_, ?_⟩ <;> go_simp

theorem hcut_of {W2 wx : World} {h : Ty} {no up : Int} {b7 b8 : Nat} (hne : b7 ≠ b8) (h7 : W2.heap.size ≤ b7) (h8 : W2.heap.size ≤ b8) (l7 : b7 < wx.heap.size) (l8 : b8 < wx.heap.size)
    (F7 : Five wx b7 (.int .i64 h.most) (.string h.name) (.int .i64 h.no) (.int .i64 h.up) (.bool h.must)) (F8 : Five wx b8 (.int .i64 0) (.string ⟨#[]⟩) (.int .i64 no) (.int .i64 up) (.bool false)) (hb : Below W2.heap.size W2 wx) : HCut W2 h no up (.pointer (some ⟨b7, 0, none⟩)) (.pointer (some ⟨b8, 0, none⟩)) wx :=
  ⟨b7, b8, rfl, rfl, hne, h7, h8, l7, l8, F7, F8, hb⟩

theorem two_new (w : World) (a b : Array Value) (t : Nat) (v0 v1 v2 v3 v4 u0 u1 u2 u3 u4 : Value) (ha : a = #[v0, v1, v2, v3, v4]) (hb : b = #[u0, u1, u2, u3, u4]) (ht : t = 85) :
    Five ((w.alloc (.cells a t)).alloc (.cells b t)) w.heap.size v0 v1 v2 v3 v4 ∧ Five ((w.alloc (.cells a t)).alloc (.cells b t)) (w.heap.size + 1) u0 u1 u2 u3 u4 ∧ w.heap.size + 1 < ((w.alloc (.cells a t)).alloc (.cells b t)).heap.size := by
  subst ha hb ht
  refine ⟨(fiveNew w v0 v1 v2 v3 v4).kept (Below.heap_alloc _ _ _ (by simp)), ?_, by simp⟩
  have := fiveNew (w.alloc (.cells #[v0, v1, v2, v3, v4] 85)) u0 u1 u2 u3 u4
  simpa using this

theorem hcutC {W2 w3 : World} {h : Ty} {no up : Int} (h3 : Below W2.heap.size W2 w3) : HCut W2 h no up (.pointer (some ⟨w3.heap.size, 0, none⟩)) (.pointer (some ⟨w3.heap.size + 1, 0, none⟩))
    ((w3.alloc (.cells #[.int .i64 h.most, .string h.name, .int .i64 h.no, .int .i64 h.up, .bool h.must] 85)).alloc (.cells #[.int .i64 0, .string ⟨#[]⟩, .int .i64 no, .int .i64 up, .bool false] 85)) := by
  have h0 := h3.size
  obtain ⟨a, b, c⟩ := two_new w3 _ _ _ (.int .i64 h.most) (.string h.name) (.int .i64 h.no) (.int .i64 h.up) (.bool h.must) (.int .i64 0) (.string ⟨#[]⟩) (.int .i64 no) (.int .i64 up) (.bool false) rfl rfl rfl
  exact hcut_of (by omega) h0 (by omega) (by omega) c a b (blaa h3)

theorem hcutD {W2 w3 : World} {h : Ty} {no up : Int} (h3 : Below W2.heap.size W2 w3) : HCut W2 h no up (.pointer (some ⟨w3.heap.size + 1, 0, none⟩)) (.pointer (some ⟨w3.heap.size, 0, none⟩))
    ((w3.alloc (.cells #[.int .i64 0, .string ⟨#[]⟩, .int .i64 no, .int .i64 up, .bool false] 85)).alloc (.cells #[.int .i64 h.most, .string h.name, .int .i64 h.no, .int .i64 h.up, .bool h.must] 85)) := by
  have h0 := h3.size
  obtain ⟨a, b, c⟩ := two_new w3 _ _ _ (.int .i64 0) (.string ⟨#[]⟩) (.int .i64 no) (.int .i64 up) (.bool false) (.int .i64 h.most) (.string h.name) (.int .i64 h.no) (.int .i64 h.up) (.bool h.must) rfl rfl rfl
  exact hcut_of (by omega) (by omega) h0 c (by omega) b a (blaa h3)

theorem hcutB {W2 w3 : World} {h : Ty} {no up : Int} {u0 u1 u2 u3 u4 : Value} (h3 : Below W2.heap.size W2 w3) (F : Five w3 W2.heap.size u0 u1 u2 u3 u4) (hl : W2.heap.size < w3.heap.size) : HCut W2 h no up (.pointer (some ⟨W2.heap.size, 0, none⟩)) (.pointer (some ⟨w3.heap.size, 0, none⟩))
    ((st5 w3 W2.heap.size (.int .i64 h.most) (.string h.name) (.int .i64 h.no) (.int .i64 h.up) (.bool h.must)).alloc (.cells #[.int .i64 0, .string ⟨#[]⟩, .int .i64 no, .int .i64 up, .bool false] 85)) := by
  have F1 := F.st5 (.int .i64 h.most) (.string h.name) (.int .i64 h.no) (.int .i64 h.up) (.bool h.must)
  have e := st5_size w3 W2.heap.size (.int .i64 h.most) (.string h.name) (.int .i64 h.no) (.int .i64 h.up) (.bool h.must)
  have F2 := fiveNew (st5 w3 W2.heap.size (.int .i64 h.most) (.string h.name) (.int .i64 h.no) (.int .i64 h.up) (.bool h.must)) (.int .i64 0) (.string ⟨#[]⟩) (.int .i64 no) (.int .i64 up) (.bool false)
  have hb5 : Below W2.heap.size W2 (st5 w3 W2.heap.size (.int .i64 h.most) (.string h.name) (.int .i64 h.no) (.int .i64 h.up) (.bool h.must)) := bl5 h3 (Nat.le_refl _)
  generalize st5 w3 W2.heap.size (.int .i64 h.most) (.string h.name) (.int .i64 h.no) (.int .i64 h.up) (.bool h.must) = X at *
  rw [e] at F2
  exact hcut_of (by omega) (Nat.le_refl _) (by omega) (by simp; omega) (by simp; omega) (F1.kept (Below.heap_alloc _ _ _ (by omega))) F2 (bla hb5)

theorem hcutE {W2 w3 : World} {h : Ty} {no up : Int} {u0 u1 u2 u3 u4 : Value} (h3 : Below W2.heap.size W2 w3) (F : Five w3 W2.heap.size u0 u1 u2 u3 u4) (hl : W2.heap.size < w3.heap.size) : HCut W2 h no up (.pointer (some ⟨w3.heap.size, 0, none⟩)) (.pointer (some ⟨W2.heap.size, 0, none⟩))
    ((st5 w3 W2.heap.size (.int .i64 0) (.string ⟨#[]⟩) (.int .i64 no) (.int .i64 up) (.bool false)).alloc (.cells #[.int .i64 h.most, .string h.name, .int .i64 h.no, .int .i64 h.up, .bool h.must] 85)) := by
  have F1 := F.st5 (.int .i64 0) (.string ⟨#[]⟩) (.int .i64 no) (.int .i64 up) (.bool false)
  have e := st5_size w3 W2.heap.size (.int .i64 0) (.string ⟨#[]⟩) (.int .i64 no) (.int .i64 up) (.bool false)
  have F2 := fiveNew (st5 w3 W2.heap.size (.int .i64 0) (.string ⟨#[]⟩) (.int .i64 no) (.int .i64 up) (.bool false)) (.int .i64 h.most) (.string h.name) (.int .i64 h.no) (.int .i64 h.up) (.bool h.must)
  have hb5 : Below W2.heap.size W2 (st5 w3 W2.heap.size (.int .i64 0) (.string ⟨#[]⟩) (.int .i64 no) (.int .i64 up) (.bool false)) := bl5 h3 (Nat.le_refl _)
  generalize st5 w3 W2.heap.size (.int .i64 0) (.string ⟨#[]⟩) (.int .i64 no) (.int .i64 up) (.bool false) = X at *
  rw [e] at F2
  exact hcut_of (by omega) (by omega) (Nat.le_refl _) (by simp; omega) (by simp; omega) F2 (F1.kept (Below.heap_alloc _ _ _ (by omega))) (bla hb5)

theorem hcutA {W2 w3 : World} {h : Ty} {no up : Int} {b c : Nat} {u0 u1 u2 u3 u4 x0 x1 x2 x3 x4 : Value} (h3 : Below W2.heap.size W2 w3) (F : Five w3 b u0 u1 u2 u3 u4) (G : Five w3 c x0 x1 x2 x3 x4) (hne : b ≠ c) (hb : W2.heap.size ≤ b) (hc : W2.heap.size ≤ c) (hlb : b < w3.heap.size) (hlc : c < w3.heap.size) : HCut W2 h no up (.pointer (some ⟨b, 0, none⟩)) (.pointer (some ⟨c, 0, none⟩))
    (st5 (st5 w3 b (.int .i64 h.most) (.string h.name) (.int .i64 h.no) (.int .i64 h.up) (.bool h.must)) c (.int .i64 0) (.string ⟨#[]⟩) (.int .i64 no) (.int .i64 up) (.bool false)) := by
  have F1 := F.st5 (.int .i64 h.most) (.string h.name) (.int .i64 h.no) (.int .i64 h.up) (.bool h.must)
  have e := st5_size w3 b (.int .i64 h.most) (.string h.name) (.int .i64 h.no) (.int .i64 h.up) (.bool h.must)
  have G1 := G.kept (st5_heap w3 b (.int .i64 h.most) (.string h.name) (.int .i64 h.no) (.int .i64 h.up) (.bool h.must) c (Ne.symm hne))
  have hb5 : Below W2.heap.size W2 (st5 w3 b (.int .i64 h.most) (.string h.name) (.int .i64 h.no) (.int .i64 h.up) (.bool h.must)) := bl5 h3 hb
  generalize st5 w3 b (.int .i64 h.most) (.string h.name) (.int .i64 h.no) (.int .i64 h.up) (.bool h.must) = X at *
  have e2 := st5_size X c (.int .i64 0) (.string ⟨#[]⟩) (.int .i64 no) (.int .i64 up) (.bool false)
  exact hcut_of hne hb hc (by rw [e2, e]; exact hlb) (by rw [e2, e]; exact hlc) (F1.kept (st5_heap X c _ _ _ _ _ b hne)) (G1.st5 _ _ _ _ _) (bl5 hb5 hc)

end Go.Proofs.Ytpajdmhakdbkjaa
