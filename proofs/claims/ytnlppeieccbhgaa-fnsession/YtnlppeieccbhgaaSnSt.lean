/- The program's: a step of a session under way. -/
import Derived.Test.YtnlppeieccbhgaaSnSd
import Derived.Test.YtnlppeieccbhgaaSnTp
import Derived.Test.YtnlppeieccbhgaaXs
import Derived.Test.YtnlppeieccbhgaaSnBz
namespace Go.Proofs.Ytnlppeieccbhgaa
open Go.RowKit Plain Tpc Ssn

theorem listed_ofB {md : Region.Mode} {ops : Array Oper} {l : Array Bool} (h0 : Region.ready md ops l = []) (i : Nat) (o : Oper) (hs : i < l.size) (ho : ops[i]? = some o) (hd : ∀ e ∈ o.after, Region.binds md e = true → l.getD e.on false = true) : l.getD i false = true := by
  rcases Bool.eq_false_or_eq_true (l.getD i false) with h | h
  · exact h
  · have hi : i ∈ Region.ready md ops l := mem_ready.2 ⟨by
      simp only [Array.getD, dif_pos hs] at h ⊢
      exact h, o, ho, hd⟩
    rw [h0] at hi
    cases hi

set_option maxRecDepth 100000 in
set_option maxHeartbeats 8000000 in
theorem stepP (s : Ses) (x : Sp) (e B : Nat) (vi vw va : Value) (w : World) (h : Ex w e B s vi vw va) (hg : Gd s) (ht : x.tx.size ≤ 9223372036854775807) :
    Calls Try.prog 74 #[.pointer (some ⟨e, 0, none⟩), .agg #[.int .i64 1, .int .i64 x.kk, .string x.tx]] w fun r w' => r = .returned (.bool (pushK s x.tx)) ∧ ∃ v7 v8 v9, Ex w' e B (if pushK s x.tx = true then pushS s x.tx else s) v7 v8 v9 ∧ Tch w w' (PX e vi vw va) (PX e v7 v8 v9) := by
  obtain ⟨W1, hW1⟩ : ∃ W, W = w.alloc (.cells #[.int .i64 1, .int .i64 x.kk, .string x.tx] 48) := ⟨_, rfl⟩
  have hB1 : Below w.heap.size w W1 := by rw [hW1]; exact (Below.refl _ w).alloc (Nat.le_refl _) _
  have s0 : W1.cell? ⟨w.heap.size, 0, none⟩ = some (.int .i64 1) := by rw [hW1]; go_simp
  have s1 : W1.cell? ⟨w.heap.size, 1, none⟩ = some (.int .i64 x.kk) := by rw [hW1]; go_simp
  have s2 : W1.cell? ⟨w.heap.size, 2, none⟩ = some (.string x.tx) := by rw [hW1]; go_simp
  have hs1 : W1.heap.size = w.heap.size + 1 := by rw [hW1]; simp
  have h1 : Ex W1 e B s vi vw va := h.below hB1
  have HB1 : Hid (type_of% hB1) := hB1
  have HT : Hid (Tch w W1 (PX e vi vw va) (PX e vi vw va)) := .of_below hB1
  have CC : Hid (Calls Try.prog 99 #[.pointer (some ⟨e, 0, none⟩), .string x.tx] W1 fun r w' => r = .returned (.bool (pushK s x.tx)) ∧ Hid (∃ v9, Ex w' e B (if pushK s x.tx = true then pushS s x.tx else s) v9 vw va ∧ Tch W1 w' (PX e vi vw va) (PX e v9 vw va))) := push_any s x.tx e B vi vw va W1 h1 hg ht
  generalize (if pushK s x.tx = true then pushS s x.tx else s) = S9 at CC ⊢
  generalize pushK s x.tx = tk at CC ⊢
  clear h h1 hg hB1 hs1
  go_enter Try.func74, Try.ntmps74
  go_wp2_with fail
  rw [← hW1]
  clear hW1
  (try go_wp2_with fail)
  go_at_call 99
  refine CC.out.mono ?_
  rintro r w2 ⟨rfl, HH⟩
  go_wp2_with fail
  go_ret
  obtain ⟨v9, hh⟩ := HH.out
  exact ⟨rfl, v9, _, _, hh.1, HT.out.trans hh.2⟩

set_option maxRecDepth 100000 in
set_option maxHeartbeats 8000000 in
theorem stepS (s : Ses) (x : Sp) (e B : Nat) (vi vw va : Value) (w : World) (h : Ex w e B s vi vw va) (hg : Gd s) (_ht : x.tx.size ≤ 9223372036854775807) :
    Calls Try.prog 74 #[.pointer (some ⟨e, 0, none⟩), .agg #[.int .i64 2, .int .i64 x.kk, .string x.tx]] w fun r w' => r = .returned (.bool (sendK s x.kk)) ∧ ∃ v7 v8 v9, Ex w' e B (if sendK s x.kk = true then sendS s x.kk else s) v7 v8 v9 ∧ Tch w w' (PX e vi vw va) (PX e v7 v8 v9) := by
  obtain ⟨W1, hW1⟩ : ∃ W, W = w.alloc (.cells #[.int .i64 2, .int .i64 x.kk, .string x.tx] 48) := ⟨_, rfl⟩
  have hB1 : Below w.heap.size w W1 := by rw [hW1]; exact (Below.refl _ w).alloc (Nat.le_refl _) _
  have s0 : W1.cell? ⟨w.heap.size, 0, none⟩ = some (.int .i64 2) := by rw [hW1]; go_simp
  have s1 : W1.cell? ⟨w.heap.size, 1, none⟩ = some (.int .i64 x.kk) := by rw [hW1]; go_simp
  have s2 : W1.cell? ⟨w.heap.size, 2, none⟩ = some (.string x.tx) := by rw [hW1]; go_simp
  have hs1 : W1.heap.size = w.heap.size + 1 := by rw [hW1]; simp
  have h1 : Ex W1 e B s vi vw va := h.below hB1
  have HB1 : Hid (type_of% hB1) := hB1
  have HT : Hid (Tch w W1 (PX e vi vw va) (PX e vi vw va)) := .of_below hB1
  have CC : Hid (Calls Try.prog 79 #[.pointer (some ⟨e, 0, none⟩), .int .i64 x.kk] W1 fun r w' => r = .returned (.bool (sendK s x.kk)) ∧ Hid (∃ v9, Ex w' e B (if sendK s x.kk = true then sendS s x.kk else s) vi v9 va ∧ Tch W1 w' (PX e vi vw va) (PX e vi v9 va))) := send_any s x.kk e B vi vw va W1 h1 hg
  generalize (if sendK s x.kk = true then sendS s x.kk else s) = S9 at CC ⊢
  generalize sendK s x.kk = tk at CC ⊢
  clear h h1 hg hB1 hs1
  go_enter Try.func74, Try.ntmps74
  go_wp2_with fail
  rw [← hW1]
  clear hW1
  (try go_wp2_with fail)
  go_at_call 79
  refine CC.out.mono ?_
  rintro r w2 ⟨rfl, HH⟩
  go_wp2_with fail
  go_ret
  obtain ⟨v9, hh⟩ := HH.out
  exact ⟨rfl, _, v9, _, hh.1, HT.out.trans hh.2⟩

set_option maxRecDepth 100000 in
set_option maxHeartbeats 8000000 in
theorem stepT (s : Ses) (x : Sp) (e B : Nat) (vi vw va : Value) (w : World) (h : Ex w e B s vi vw va) (hg : Gd s) (_ht : x.tx.size ≤ 9223372036854775807) :
    Calls Try.prog 74 #[.pointer (some ⟨e, 0, none⟩), .agg #[.int .i64 3, .int .i64 x.kk, .string x.tx]] w fun r w' => r = .returned (.bool (inW s x.kk)) ∧ ∃ v7 v8 v9, Ex w' e B (if inW s x.kk = true then takeS s x.kk else s) v7 v8 v9 ∧ Tch w w' (PX e vi vw va) (PX e v7 v8 v9) := by
  obtain ⟨W1, hW1⟩ : ∃ W, W = w.alloc (.cells #[.int .i64 3, .int .i64 x.kk, .string x.tx] 48) := ⟨_, rfl⟩
  have hB1 : Below w.heap.size w W1 := by rw [hW1]; exact (Below.refl _ w).alloc (Nat.le_refl _) _
  have s0 : W1.cell? ⟨w.heap.size, 0, none⟩ = some (.int .i64 3) := by rw [hW1]; go_simp
  have s1 : W1.cell? ⟨w.heap.size, 1, none⟩ = some (.int .i64 x.kk) := by rw [hW1]; go_simp
  have s2 : W1.cell? ⟨w.heap.size, 2, none⟩ = some (.string x.tx) := by rw [hW1]; go_simp
  have hs1 : W1.heap.size = w.heap.size + 1 := by rw [hW1]; simp
  have h1 : Ex W1 e B s vi vw va := h.below hB1
  have HB1 : Hid (type_of% hB1) := hB1
  have HT : Hid (Tch w W1 (PX e vi vw va) (PX e vi vw va)) := .of_below hB1
  have CC : Hid (Calls Try.prog 100 #[.pointer (some ⟨e, 0, none⟩), .int .i64 x.kk] W1 fun r w' => r = .returned (.bool (inW s x.kk)) ∧ Hid (∃ v8 v9, Ex w' e B (if inW s x.kk = true then takeS s x.kk else s) vi v8 v9 ∧ Tch W1 w' (PX e vi vw va) (PX e vi v8 v9))) := takePacketE_any s e B vi vw va x.kk W1 h1 hg
  generalize (if inW s x.kk = true then takeS s x.kk else s) = S9 at CC ⊢
  generalize inW s x.kk = tk at CC ⊢
  clear h h1 hg hB1 hs1
  go_enter Try.func74, Try.ntmps74
  go_wp2_with fail
  rw [← hW1]
  clear hW1
  (try go_wp2_with fail)
  go_at_call 100
  refine CC.out.mono ?_
  rintro r w2 ⟨rfl, HH⟩
  go_wp2_with fail
  go_ret
  obtain ⟨v8, v9, hh⟩ := HH.out
  exact ⟨rfl, _, v8, v9, hh.1, HT.out.trans hh.2⟩

set_option maxRecDepth 100000 in
set_option maxHeartbeats 8000000 in
theorem stepA (s : Ses) (x : Sp) (e B : Nat) (vi vw va : Value) (w : World) (h : Ex w e B s vi vw va) (hg : Gd s) (_ht : x.tx.size ≤ 9223372036854775807) :
    Calls Try.prog 74 #[.pointer (some ⟨e, 0, none⟩), .agg #[.int .i64 6, .int .i64 x.kk, .string x.tx]] w fun r w' => r = .returned (.bool (inA s x.kk)) ∧ ∃ v7 v8 v9, Ex w' e B (if inA s x.kk = true then ackS s x.kk else s) v7 v8 v9 ∧ Tch w w' (PX e vi vw va) (PX e v7 v8 v9) := by
  obtain ⟨W1, hW1⟩ : ∃ W, W = w.alloc (.cells #[.int .i64 6, .int .i64 x.kk, .string x.tx] 48) := ⟨_, rfl⟩
  have hB1 : Below w.heap.size w W1 := by rw [hW1]; exact (Below.refl _ w).alloc (Nat.le_refl _) _
  have s0 : W1.cell? ⟨w.heap.size, 0, none⟩ = some (.int .i64 6) := by rw [hW1]; go_simp
  have s1 : W1.cell? ⟨w.heap.size, 1, none⟩ = some (.int .i64 x.kk) := by rw [hW1]; go_simp
  have s2 : W1.cell? ⟨w.heap.size, 2, none⟩ = some (.string x.tx) := by rw [hW1]; go_simp
  have hs1 : W1.heap.size = w.heap.size + 1 := by rw [hW1]; simp
  have h1 : Ex W1 e B s vi vw va := h.below hB1
  have HB1 : Hid (type_of% hB1) := hB1
  have HT : Hid (Tch w W1 (PX e vi vw va) (PX e vi vw va)) := .of_below hB1
  have CC : Hid (Calls Try.prog 104 #[.pointer (some ⟨e, 0, none⟩), .int .i64 x.kk] W1 fun r w' => r = .returned (.bool (inA s x.kk)) ∧ Hid (∃ v9, Ex w' e B (if inA s x.kk = true then ackS s x.kk else s) vi vw v9 ∧ Tch W1 w' (PX e vi vw va) (PX e vi vw v9))) := takeAckE_any s e B vi vw va x.kk W1 h1 hg
  generalize (if inA s x.kk = true then ackS s x.kk else s) = S9 at CC ⊢
  generalize inA s x.kk = tk at CC ⊢
  clear h h1 hg hB1 hs1
  go_enter Try.func74, Try.ntmps74
  go_wp2_with fail
  rw [← hW1]
  clear hW1
  (try go_wp2_with fail)
  go_at_call 104
  refine CC.out.mono ?_
  rintro r w2 ⟨rfl, HH⟩
  go_wp2_with fail
  go_ret
  obtain ⟨v9, hh⟩ := HH.out
  exact ⟨rfl, _, _, v9, hh.1, HT.out.trans hh.2⟩

set_option maxRecDepth 100000 in
set_option maxHeartbeats 8000000 in
theorem stepC (s : Ses) (x : Sp) (e B : Nat) (vi vw va : Value) (w : World) (h : Ex w e B s vi vw va) (hg : Gd s) (_ht : x.tx.size ≤ 9223372036854775807) :
    Calls Try.prog 74 #[.pointer (some ⟨e, 0, none⟩), .agg #[.int .i64 7, .int .i64 x.kk, .string x.tx]] w fun r w' => r = .returned (.bool (cutK s)) ∧ ∃ v7 v8 v9, Ex w' e B (if cutK s = true then cutS s else s) v7 v8 v9 ∧ Tch w w' (PX e vi vw va) (PX e v7 v8 v9) := by
  obtain ⟨W1, hW1⟩ : ∃ W, W = w.alloc (.cells #[.int .i64 7, .int .i64 x.kk, .string x.tx] 48) := ⟨_, rfl⟩
  have hB1 : Below w.heap.size w W1 := by rw [hW1]; exact (Below.refl _ w).alloc (Nat.le_refl _) _
  have s0 : W1.cell? ⟨w.heap.size, 0, none⟩ = some (.int .i64 7) := by rw [hW1]; go_simp
  have s1 : W1.cell? ⟨w.heap.size, 1, none⟩ = some (.int .i64 x.kk) := by rw [hW1]; go_simp
  have s2 : W1.cell? ⟨w.heap.size, 2, none⟩ = some (.string x.tx) := by rw [hW1]; go_simp
  have hs1 : W1.heap.size = w.heap.size + 1 := by rw [hW1]; simp
  have h1 : Ex W1 e B s vi vw va := h.below hB1
  have HB1 : Hid (type_of% hB1) := hB1
  have HT : Hid (Tch w W1 (PX e vi vw va) (PX e vi vw va)) := .of_below hB1
  have CC : Hid (Calls Try.prog 105 #[.pointer (some ⟨e, 0, none⟩)] W1 fun r w' => r = .returned (.bool (cutK s)) ∧ Hid (Ex w' e B (if cutK s = true then cutS s else s) vi vw va ∧ Tch W1 w' (PX e vi vw va) (PX e vi vw va))) := cut_any s e B vi vw va W1 h1 hg
  generalize (if cutK s = true then cutS s else s) = S9 at CC ⊢
  generalize cutK s = tk at CC ⊢
  clear h h1 hg hB1 hs1
  go_enter Try.func74, Try.ntmps74
  go_wp2_with fail
  rw [← hW1]
  clear hW1
  (try go_wp2_with fail)
  go_at_call 105
  refine CC.out.mono ?_
  rintro r w2 ⟨rfl, HH⟩
  go_wp2_with fail
  go_ret
  obtain hh := HH.out
  exact ⟨rfl, _, _, _, hh.1, HT.out.trans hh.2⟩

set_option maxRecDepth 100000 in
set_option maxHeartbeats 8000000 in
theorem stepN (s : Ses) (x : Sp) (e B : Nat) (vi vw va : Value) (w : World) (h : Ex w e B s vi vw va) (_hg : Gd s) (_ht : x.tx.size ≤ 9223372036854775807) (h1' : x.kind ≠ 1) (h2' : x.kind ≠ 2) (h3' : x.kind ≠ 3) (h4' : x.kind ≠ 4) (h5' : x.kind ≠ 5) (h6' : x.kind ≠ 6) (h7' : x.kind ≠ 7) :
    Calls Try.prog 74 #[.pointer (some ⟨e, 0, none⟩), .agg #[.int .i64 x.kind, .int .i64 x.kk, .string x.tx]] w fun r w' => r = .returned (.bool false) ∧ Ex w' e B s vi vw va ∧ Tch w w' (PX e vi vw va) (PX e vi vw va) := by
  obtain ⟨W1, hW1⟩ : ∃ W, W = w.alloc (.cells #[.int .i64 x.kind, .int .i64 x.kk, .string x.tx] 48) := ⟨_, rfl⟩
  have hB1 : Below w.heap.size w W1 := by rw [hW1]; exact (Below.refl _ w).alloc (Nat.le_refl _) _
  have s0 : W1.cell? ⟨w.heap.size, 0, none⟩ = some (.int .i64 x.kind) := by rw [hW1]; go_simp
  have s1 : W1.cell? ⟨w.heap.size, 1, none⟩ = some (.int .i64 x.kk) := by rw [hW1]; go_simp
  have s2 : W1.cell? ⟨w.heap.size, 2, none⟩ = some (.string x.tx) := by rw [hW1]; go_simp
  have hs1 : W1.heap.size = w.heap.size + 1 := by rw [hW1]; simp
  have h1 : Ex W1 e B s vi vw va := h.below hB1
  have HB1 : Hid (type_of% hB1) := hB1
  have e1 : (x.kind == 1) = false := by simpa using h1'
  have e2 : (x.kind == 2) = false := by simpa using h2'
  have e3 : (x.kind == 3) = false := by simpa using h3'
  have e4 : (x.kind == 4) = false := by simpa using h4'
  have e5 : (x.kind == 5) = false := by simpa using h5'
  have e6 : (x.kind == 6) = false := by simpa using h6'
  have e7 : (x.kind == 7) = false := by simpa using h7'
  have HE : Hid (Ex W1 e B s vi vw va ∧ Tch w W1 (PX e vi vw va) (PX e vi vw va)) := ⟨h1, .of_below hB1⟩
  clear h h1 _hg hB1 hs1 h1' h2' h3' h4' h5' h6' h7'
  go_enter Try.func74, Try.ntmps74
  go_wp2_with fail
  rw [← hW1]
  clear hW1
  (try go_wp2_with fail)
  go_ret
  exact ⟨rfl, HE.out⟩

def Lo9 (w W1 : World) (s' : Ses) (x : Sp) (e B : Nat) (vi vw va : Value) (pa pb : Int) (pc : ByteArray) (ok : Bool) (l : Array Bool) (a : Act) (W : World) : Prop :=
  l.size = 12 ∧ ∃ v9 u32 u33 u34 u35 u36 u37 u31 u38 u39 u5 u6 : Value, a = ⟨#[.pointer (some ⟨e, 0, none⟩), .agg #[.int .i64 4, .int .i64 x.kk, .string x.tx], undef, .pointer (some ⟨w.heap.size, 0, none⟩), .bool false, u5, u6, undef, undef, .pointer (some ⟨w.heap.size, 0, none⟩), .int .i64 4, .bool false, .bool false, undef, undef, undef, undef, .bool false, .bool false, undef, undef, undef, undef, .bool false, .bool false, undef, undef, undef, undef, .bool true, .bool true, u31, u32, u33, u34, u35, u36, u37, u38, u39, undef, undef, undef, undef, undef, undef, undef, undef, undef, undef, undef, undef, undef, undef, undef, undef, undef, undef, undef, undef, undef, undef, undef, undef, undef, undef, undef, undef, undef, undef], []⟩ ∧
    (l.getD 5 false = false → Below W1.heap.size W1 W) ∧
    W1.heap.size ≤ W.heap.size ∧
    (l.getD 5 false = true → DnE w W e B s' vi vw va v9) ∧
    (l.getD 0 false = true → u32 = .pointer (some ⟨e, 0, none⟩)) ∧
    (l.getD 1 false = true → u33 = .pointer (some ⟨e, 0, none⟩)) ∧
    (l.getD 2 false = true → u34 = .pointer (some ⟨e, 4, none⟩)) ∧
    (l.getD 3 false = true → u35 = .pointer (some ⟨w.heap.size, 1, none⟩)) ∧
    (l.getD 4 false = true → u36 = .int .i64 x.kk) ∧
    (l.getD 5 false = true → l.getD 4 false = true ∧ u37 = .tuple #[.agg #[.int .i64 pa, .int .i64 pb, .string pc], .bool ok]) ∧
    (l.getD 6 false = true → l.getD 5 false = true ∧ u31 = .tuple #[.agg #[.int .i64 pa, .int .i64 pb, .string pc], .bool ok]) ∧
    (l.getD 7 false = true → l.getD 5 false = true ∧ u38 = .agg #[.int .i64 pa, .int .i64 pb, .string pc]) ∧
    (l.getD 8 false = true → u39 = .bool ok) ∧
    (l.getD 9 false = true → ∃ g, u5 = .pointer (some ⟨g, 0, none⟩) ∧ W1.heap.size ≤ g ∧ (∃ x0 x1 x2, Bz W g x0 x1 x2) ∧ (l.getD 5 false = true → ¬ PX e vi v9 va g)) ∧
    (l.getD 11 false = true → u6 = .bool ok)

set_option maxRecDepth 100000 in
set_option maxHeartbeats 8000000 in
theorem stepL (s : Ses) (x : Sp) (e B : Nat) (vi vw va : Value) (w : World) (h : Ex w e B s vi vw va) (hg : Gd s) (_ht : x.tx.size ≤ 9223372036854775807) :
    Calls Try.prog 74 #[.pointer (some ⟨e, 0, none⟩), .agg #[.int .i64 4, .int .i64 x.kk, .string x.tx]] w fun r w' => r = .returned (.bool (inW s x.kk)) ∧ ∃ v9, DnE w w' e B (if inW s x.kk = true then loseS s x.kk else s) vi vw va v9 := by
  obtain ⟨W1, hW1⟩ : ∃ W, W = w.alloc (.cells #[.int .i64 4, .int .i64 x.kk, .string x.tx] 48) := ⟨_, rfl⟩
  have hB1 : Below w.heap.size w W1 := by rw [hW1]; exact (Below.refl _ w).alloc (Nat.le_refl _) _
  have s0 : W1.cell? ⟨w.heap.size, 0, none⟩ = some (.int .i64 4) := by rw [hW1]; go_simp
  have s1 : W1.cell? ⟨w.heap.size, 1, none⟩ = some (.int .i64 x.kk) := by rw [hW1]; go_simp
  have s2 : W1.cell? ⟨w.heap.size, 2, none⟩ = some (.string x.tx) := by rw [hW1]; go_simp
  have hs1 : W1.heap.size = w.heap.size + 1 := by rw [hW1]; simp
  have h1 : Ex W1 e B s vi vw va := h.below hB1
  have HB1 : Hid (type_of% hB1) := hB1
  have HCT : Hid (∀ W, Below W1.heap.size W1 W → Calls Try.prog 101 #[.pointer (some ⟨e, 4, none⟩), .int .i64 x.kk] W fun r w' => r = .returned (.tuple #[if inW s x.kk = true then (pk s.way x.kk.toNat).val else .agg #[.int .i64 0, .int .i64 0, .string ⟨#[]⟩], .bool (inW s x.kk)]) ∧ ∃ v9, DnE w w' e B (if inW s x.kk = true then loseS s x.kk else s) vi vw va v9 ∧ Tch W w' (PX e vi vw va) (PX e vi v9 va)) := fun W hW => (takePk_any s e B vi vw va x.kk W (h1.below hW) hg).mono fun r w' hh => by
    obtain ⟨hr, v9, hE, hT⟩ := hh
    exact ⟨hr, v9, ⟨hE, (Tch.of_below (hB1.trans (hW.mono hB1.size))).trans hT⟩, hT⟩
  obtain ⟨pa, pb, pc, hp⟩ : ∃ pa pb pc, (if inW s x.kk = true then (pk s.way x.kk.toNat).val else .agg #[.int .i64 0, .int .i64 0, .string ⟨#[]⟩]) = Value.agg #[.int .i64 pa, .int .i64 pb, .string pc] := by
    split
    · exact ⟨_, _, _, rfl⟩
    · exact ⟨_, _, _, rfl⟩
  rw [hp] at HCT
  have hnP : Hid (∀ g, w.heap.size ≤ g → ¬ PX e vi vw va g) := fun g hg q => by
    rcases q with q | q
    · have := h.v.low; omega
    · have := (h.r.lt4 _ q).2; omega
  generalize (if inW s x.kk = true then loseS s x.kk else s) = S' at HCT ⊢
  generalize inW s x.kk = ok at HCT ⊢
  have HS1 : Hid (∀ W, Below W1.heap.size W1 W → W.cell? ⟨w.heap.size, 1, none⟩ = some (.int .i64 x.kk)) := fun W hW => (hW.cell (p := ⟨w.heap.size, 1, none⟩) (by show w.heap.size < _; omega)).trans s1
  have hI0 : Lo9 w W1 S' x e B vi vw va pa pb pc ok (Array.replicate 12 false) ⟨#[.pointer (some ⟨e, 0, none⟩), .agg #[.int .i64 4, .int .i64 x.kk, .string x.tx], undef, .pointer (some ⟨w.heap.size, 0, none⟩), .bool false, undef, undef, undef, undef, .pointer (some ⟨w.heap.size, 0, none⟩), .int .i64 4, .bool false, .bool false, undef, undef, undef, undef, .bool false, .bool false, undef, undef, undef, undef, .bool false, .bool false, undef, undef, undef, undef, .bool true, .bool true, undef, undef, undef, undef, undef, undef, undef, undef, undef, undef, undef, undef, undef, undef, undef, undef, undef, undef, undef, undef, undef, undef, undef, undef, undef, undef, undef, undef, undef, undef, undef, undef, undef, undef, undef, undef, undef, undef, undef], []⟩ W1.drew := by
    refine ⟨by simp, undef, _, _, _, _, _, _, _, _, _, _, _, rfl, fun _ => (Below.refl _ W1).drew, Nat.le_refl _, ?_, ?_, ?_, ?_, ?_, ?_, ?_, ?_, ?_, ?_, ?_, ?_⟩
    all_goals
      intro h
      exact absurd h (by decide)
  have HI0 : Hid (type_of% hI0) := hI0
  clear hI0 h h1 hg hB1 hp
  go_enter Try.func74, Try.ntmps74
  go_upto_region 9 with fail
  rw [← hW1]
  clear hW1
  refine wp_region_held_drew (S := fun _ => True) (by kernel_rfl) trivial (fun _ => ?_)
  refine wpAnyH_inv (Lo9 w W1 S' x e B vi vw va pa pb pc ok) ?step ?fin _ _ _ _ HI0.out (by decide)
  case fin =>
    intro l a W hI h0
    obtain ⟨hls, v9, u32, u33, u34, u35, u36, u37, u31, u38, u39, u5, u6, rfl, wA, wS, wB, c0, c1, c2, c3, c4, c5, c6, c7, c8, c9, c11⟩ := hI
    have b0 : l.getD 0 false = true := listed_ofB h0 0 _ (by omega) rfl (by intro e he hbd; first | (simp at he; done) | skip; simp at he; (repeat (rcases he with rfl | he; · first | assumption | exact absurd hbd (by decide))); all_goals (subst he; first | assumption | exact absurd hbd (by decide)))
    have b1 : l.getD 1 false = true := listed_ofB h0 1 _ (by omega) rfl (by intro e he hbd; first | (simp at he; done) | skip; simp at he; (repeat (rcases he with rfl | he; · first | assumption | exact absurd hbd (by decide))); all_goals (subst he; first | assumption | exact absurd hbd (by decide)))
    have b2 : l.getD 2 false = true := listed_ofB h0 2 _ (by omega) rfl (by intro e he hbd; first | (simp at he; done) | skip; simp at he; (repeat (rcases he with rfl | he; · first | assumption | exact absurd hbd (by decide))); all_goals (subst he; first | assumption | exact absurd hbd (by decide)))
    have b3 : l.getD 3 false = true := listed_ofB h0 3 _ (by omega) rfl (by intro e he hbd; first | (simp at he; done) | skip; simp at he; (repeat (rcases he with rfl | he; · first | assumption | exact absurd hbd (by decide))); all_goals (subst he; first | assumption | exact absurd hbd (by decide)))
    have b4 : l.getD 4 false = true := listed_ofB h0 4 _ (by omega) rfl (by intro e he hbd; first | (simp at he; done) | skip; simp at he; (repeat (rcases he with rfl | he; · first | assumption | exact absurd hbd (by decide))); all_goals (subst he; first | assumption | exact absurd hbd (by decide)))
    have b5 : l.getD 5 false = true := listed_ofB h0 5 _ (by omega) rfl (by intro e he hbd; first | (simp at he; done) | skip; simp at he; (repeat (rcases he with rfl | he; · first | assumption | exact absurd hbd (by decide))); all_goals (subst he; first | assumption | exact absurd hbd (by decide)))
    have b6 : l.getD 6 false = true := listed_ofB h0 6 _ (by omega) rfl (by intro e he hbd; first | (simp at he; done) | skip; simp at he; (repeat (rcases he with rfl | he; · first | assumption | exact absurd hbd (by decide))); all_goals (subst he; first | assumption | exact absurd hbd (by decide)))
    have b7 : l.getD 7 false = true := listed_ofB h0 7 _ (by omega) rfl (by intro e he hbd; first | (simp at he; done) | skip; simp at he; (repeat (rcases he with rfl | he; · first | assumption | exact absurd hbd (by decide))); all_goals (subst he; first | assumption | exact absurd hbd (by decide)))
    have b8 : l.getD 8 false = true := listed_ofB h0 8 _ (by omega) rfl (by intro e he hbd; first | (simp at he; done) | skip; simp at he; (repeat (rcases he with rfl | he; · first | assumption | exact absurd hbd (by decide))); all_goals (subst he; first | assumption | exact absurd hbd (by decide)))
    have b9 : l.getD 9 false = true := listed_ofB h0 9 _ (by omega) rfl (by intro e he hbd; first | (simp at he; done) | skip; simp at he; (repeat (rcases he with rfl | he; · first | assumption | exact absurd hbd (by decide))); all_goals (subst he; first | assumption | exact absurd hbd (by decide)))
    have b10 : l.getD 10 false = true := listed_ofB h0 10 _ (by omega) rfl (by intro e he hbd; first | (simp at he; done) | skip; simp at he; (repeat (rcases he with rfl | he; · first | assumption | exact absurd hbd (by decide))); all_goals (subst he; first | assumption | exact absurd hbd (by decide)))
    have b11 : l.getD 11 false = true := listed_ofB h0 11 _ (by omega) rfl (by intro e he hbd; first | (simp at he; done) | skip; simp at he; (repeat (rcases he with rfl | he; · first | assumption | exact absurd hbd (by decide))); all_goals (subst he; first | assumption | exact absurd hbd (by decide)))
    have hD : Hid (DnE w W e B S' vi vw va v9) := wB b5
    obtain rfl := c11 b11
    clear wA wS wB c0 c1 c2 c3 c4 c5 c6 c7 c8 c9 c11 b0 b1 b2 b3 b4 b5 b6 b7 b8 b9 b10 b11 h0 hls HCT
    (try dsimp only)
    go_wp2_with fail
    go_ret
    exact ⟨rfl, v9, hD.out⟩
  case step =>
    intro l a W i hI hi K hK
    have hlt := ready_lt hi
    obtain ⟨hls, v9, u32, u33, u34, u35, u36, u37, u31, u38, u39, u5, u6, rfl, wA, wS, wB, c0, c1, c2, c3, c4, c5, c6, c7, c8, c9, c11⟩ := hI
    have hlt' : i < 12 := hlt
    rcases (show i = 0 ∨ i = 1 ∨ i = 2 ∨ i = 3 ∨ i = 4 ∨ i = 5 ∨ i = 6 ∨ i = 7 ∨ i = 8 ∨ i = 9 ∨ i = 10 ∨ i = 11 by omega) with rfl | rfl | rfl | rfl | rfl | rfl | rfl | rfl | rfl | rfl | rfl | rfl
    · -- 0
      refine wpOp_step rfl (fun K' hK' => ?_)
      have HK : Hid (∀ a w, K a w → K' a w) := hK'
      have HK2 : Hid (type_of% hK) := hK
      clear hK hK'
      go_simp
      exact HK.out _ _ (HK2.out _ _ ⟨by simp [hls], v9, _, _, _, _, _, _, _, _, _, _, _, rfl, fun h => wA (getD_off h (by decide)), wS, fun h => wB (getD_ne h (by decide)), fun _ => rfl, fun h => (c1 (getD_ne h (by decide))), fun h => (c2 (getD_ne h (by decide))), fun h => (c3 (getD_ne h (by decide))), fun h => (c4 (getD_ne h (by decide))), fun h => ⟨getD_set_true (c5 (getD_ne h (by decide))).1, (c5 (getD_ne h (by decide))).2⟩, fun h => ⟨getD_set_true (c6 (getD_ne h (by decide))).1, (c6 (getD_ne h (by decide))).2⟩, fun h => ⟨getD_set_true (c7 (getD_ne h (by decide))).1, (c7 (getD_ne h (by decide))).2⟩, fun h => (c8 (getD_ne h (by decide))), fun h => by obtain ⟨g, q1, q2, q3, q4⟩ := (c9 (getD_ne h (by decide))); exact ⟨g, q1, q2, q3, fun h5 => q4 (getD_ne h5 (by decide))⟩, fun h => (c11 (getD_ne h (by decide)))⟩)
    · -- 1
      obtain rfl := c0 (by have hd := ready_deps hi (o := _) rfl; exact hd ⟨0, .data⟩ (by simp) (by rfl))
      refine wpOp_step rfl (fun K' hK' => ?_)
      have HK : Hid (∀ a w, K a w → K' a w) := hK'
      have HK2 : Hid (type_of% hK) := hK
      clear hK hK'
      go_simp
      exact HK.out _ _ (HK2.out _ _ ⟨by simp [hls], v9, _, _, _, _, _, _, _, _, _, _, _, rfl, fun h => wA (getD_off h (by decide)), wS, fun h => wB (getD_ne h (by decide)), fun h => (c0 (getD_ne h (by decide))), fun _ => rfl, fun h => (c2 (getD_ne h (by decide))), fun h => (c3 (getD_ne h (by decide))), fun h => (c4 (getD_ne h (by decide))), fun h => ⟨getD_set_true (c5 (getD_ne h (by decide))).1, (c5 (getD_ne h (by decide))).2⟩, fun h => ⟨getD_set_true (c6 (getD_ne h (by decide))).1, (c6 (getD_ne h (by decide))).2⟩, fun h => ⟨getD_set_true (c7 (getD_ne h (by decide))).1, (c7 (getD_ne h (by decide))).2⟩, fun h => (c8 (getD_ne h (by decide))), fun h => by obtain ⟨g, q1, q2, q3, q4⟩ := (c9 (getD_ne h (by decide))); exact ⟨g, q1, q2, q3, fun h5 => q4 (getD_ne h5 (by decide))⟩, fun h => (c11 (getD_ne h (by decide)))⟩)
    · -- 2
      obtain rfl := c1 (by have hd := ready_deps hi (o := _) rfl; exact hd ⟨1, .data⟩ (by simp) (by rfl))
      refine wpOp_step rfl (fun K' hK' => ?_)
      have HK : Hid (∀ a w, K a w → K' a w) := hK'
      have HK2 : Hid (type_of% hK) := hK
      clear hK hK'
      go_simp
      exact HK.out _ _ (HK2.out _ _ ⟨by simp [hls], v9, _, _, _, _, _, _, _, _, _, _, _, rfl, fun h => wA (getD_off h (by decide)), wS, fun h => wB (getD_ne h (by decide)), fun h => (c0 (getD_ne h (by decide))), fun h => (c1 (getD_ne h (by decide))), fun _ => rfl, fun h => (c3 (getD_ne h (by decide))), fun h => (c4 (getD_ne h (by decide))), fun h => ⟨getD_set_true (c5 (getD_ne h (by decide))).1, (c5 (getD_ne h (by decide))).2⟩, fun h => ⟨getD_set_true (c6 (getD_ne h (by decide))).1, (c6 (getD_ne h (by decide))).2⟩, fun h => ⟨getD_set_true (c7 (getD_ne h (by decide))).1, (c7 (getD_ne h (by decide))).2⟩, fun h => (c8 (getD_ne h (by decide))), fun h => by obtain ⟨g, q1, q2, q3, q4⟩ := (c9 (getD_ne h (by decide))); exact ⟨g, q1, q2, q3, fun h5 => q4 (getD_ne h5 (by decide))⟩, fun h => (c11 (getD_ne h (by decide)))⟩)
    · -- 3
      refine wpOp_step rfl (fun K' hK' => ?_)
      have HK : Hid (∀ a w, K a w → K' a w) := hK'
      have HK2 : Hid (type_of% hK) := hK
      clear hK hK'
      go_simp
      exact HK.out _ _ (HK2.out _ _ ⟨by simp [hls], v9, _, _, _, _, _, _, _, _, _, _, _, rfl, fun h => wA (getD_off h (by decide)), wS, fun h => wB (getD_ne h (by decide)), fun h => (c0 (getD_ne h (by decide))), fun h => (c1 (getD_ne h (by decide))), fun h => (c2 (getD_ne h (by decide))), fun _ => rfl, fun h => (c4 (getD_ne h (by decide))), fun h => ⟨getD_set_true (c5 (getD_ne h (by decide))).1, (c5 (getD_ne h (by decide))).2⟩, fun h => ⟨getD_set_true (c6 (getD_ne h (by decide))).1, (c6 (getD_ne h (by decide))).2⟩, fun h => ⟨getD_set_true (c7 (getD_ne h (by decide))).1, (c7 (getD_ne h (by decide))).2⟩, fun h => (c8 (getD_ne h (by decide))), fun h => by obtain ⟨g, q1, q2, q3, q4⟩ := (c9 (getD_ne h (by decide))); exact ⟨g, q1, q2, q3, fun h5 => q4 (getD_ne h5 (by decide))⟩, fun h => (c11 (getD_ne h (by decide)))⟩)
    · -- 4
      obtain rfl := c3 (by have hd := ready_deps hi (o := _) rfl; exact hd ⟨3, .data⟩ (by simp) (by rfl))
      have hoff := ready_off hi (by omega)
      have h5 : l.getD 5 false = false := by
        rcases Bool.eq_false_or_eq_true (l.getD 5 false) with q | q
        · exact absurd (c5 q).1 (by rw [hoff]; decide)
        · exact q
      have y1 := HS1.out W (wA h5)
      refine wpOp_step rfl (fun K' hK' => ?_)
      have HK : Hid (∀ a w, K a w → K' a w) := hK'
      have HK2 : Hid (type_of% hK) := hK
      clear hK hK'
      go_simp
      exact HK.out _ _ (HK2.out _ _ ⟨by simp [hls], v9, _, _, _, _, _, _, _, _, _, _, _, rfl, fun h => wA (getD_off h (by decide)), wS, fun h => wB (getD_ne h (by decide)), fun h => (c0 (getD_ne h (by decide))), fun h => (c1 (getD_ne h (by decide))), fun h => (c2 (getD_ne h (by decide))), fun h => (c3 (getD_ne h (by decide))), fun _ => rfl, fun h => ⟨getD_set_true (c5 (getD_ne h (by decide))).1, (c5 (getD_ne h (by decide))).2⟩, fun h => ⟨getD_set_true (c6 (getD_ne h (by decide))).1, (c6 (getD_ne h (by decide))).2⟩, fun h => ⟨getD_set_true (c7 (getD_ne h (by decide))).1, (c7 (getD_ne h (by decide))).2⟩, fun h => (c8 (getD_ne h (by decide))), fun h => by obtain ⟨g, q1, q2, q3, q4⟩ := (c9 (getD_ne h (by decide))); exact ⟨g, q1, q2, q3, fun h5 => q4 (getD_ne h5 (by decide))⟩, fun h => (c11 (getD_ne h (by decide)))⟩)
    · -- 5
      have D4 : Hid (l.getD 4 false = true) := (by have hd := ready_deps hi (o := _) rfl; exact hd ⟨4, .data⟩ (by simp) (by rfl))
      obtain rfl := c4 D4.out
      obtain rfl := c2 (by have hd := ready_deps hi (o := _) rfl; exact hd ⟨2, .data⟩ (by simp) (by rfl))
      have hoff := ready_off hi (by omega)
      have CC := HCT.out W (wA hoff)
      refine wpOp_step rfl (fun K' hK' => ?_)
      have HK : Hid (∀ a w, K a w → K' a w) := hK'
      have HK2 : Hid (type_of% hK) := hK
      clear hK hK'
      go_simp
      go_at_call 101
      refine CC.mono ?_
      rintro r W9 ⟨rfl, v9', hD, hT⟩
      (try go_simp)
      exact HK.out _ _ (HK2.out _ _ ⟨by simp [hls], v9', _, _, _, _, _, _, _, _, _, _, _, rfl, fun h => absurd h (by rw [getD_on (by omega)]; decide), Nat.le_trans wS hT.size, fun _ => hD, fun h => (c0 (getD_ne h (by decide))), fun h => (c1 (getD_ne h (by decide))), fun h => (c2 (getD_ne h (by decide))), fun h => (c3 (getD_ne h (by decide))), fun h => (c4 (getD_ne h (by decide))), fun _ => ⟨getD_set_true D4.out, rfl⟩, fun h => absurd (c6 (getD_ne h (by decide))).1 (by rw [hoff]; decide), fun h => absurd (c7 (getD_ne h (by decide))).1 (by rw [hoff]; decide), fun h => (c8 (getD_ne h (by decide))), fun h => by obtain ⟨g, q1, q2, ⟨x0, x1, x2, q3⟩, q4⟩ := (c9 (getD_ne h (by decide))); exact ⟨g, q1, q2, ⟨x0, x1, x2, q3.step hT (hnP.out g (by omega))⟩, fun _ => hT.avoid q3.low (hnP.out g (by omega))⟩, fun h => (c11 (getD_ne h (by decide)))⟩)
    · -- 6
      have D5 : Hid (l.getD 5 false = true) := (by have hd := ready_deps hi (o := _) rfl; exact hd ⟨5, .data⟩ (by simp) (by rfl))
      have f5 := c5 D5.out
      obtain rfl := f5.2
      clear f5
      refine wpOp_step rfl (fun K' hK' => ?_)
      have HK : Hid (∀ a w, K a w → K' a w) := hK'
      have HK2 : Hid (type_of% hK) := hK
      clear hK hK'
      go_simp
      exact HK.out _ _ (HK2.out _ _ ⟨by simp [hls], v9, _, _, _, _, _, _, _, _, _, _, _, rfl, fun h => wA (getD_off h (by decide)), wS, fun h => wB (getD_ne h (by decide)), fun h => (c0 (getD_ne h (by decide))), fun h => (c1 (getD_ne h (by decide))), fun h => (c2 (getD_ne h (by decide))), fun h => (c3 (getD_ne h (by decide))), fun h => (c4 (getD_ne h (by decide))), fun h => ⟨getD_set_true (c5 (getD_ne h (by decide))).1, (c5 (getD_ne h (by decide))).2⟩, fun _ => ⟨getD_set_true D5.out, rfl⟩, fun h => ⟨getD_set_true (c7 (getD_ne h (by decide))).1, (c7 (getD_ne h (by decide))).2⟩, fun h => (c8 (getD_ne h (by decide))), fun h => by obtain ⟨g, q1, q2, q3, q4⟩ := (c9 (getD_ne h (by decide))); exact ⟨g, q1, q2, q3, fun h5 => q4 (getD_ne h5 (by decide))⟩, fun h => (c11 (getD_ne h (by decide)))⟩)
    · -- 7
      have D6 : Hid (l.getD 6 false = true) := (by have hd := ready_deps hi (o := _) rfl; exact hd ⟨6, .data⟩ (by simp) (by rfl))
      have f6 := c6 D6.out
      obtain rfl := f6.2
      have D5 : Hid (l.getD 5 false = true) := f6.1
      clear f6
      refine wpOp_step rfl (fun K' hK' => ?_)
      have HK : Hid (∀ a w, K a w → K' a w) := hK'
      have HK2 : Hid (type_of% hK) := hK
      clear hK hK'
      go_simp
      exact HK.out _ _ (HK2.out _ _ ⟨by simp [hls], v9, _, _, _, _, _, _, _, _, _, _, _, rfl, fun h => wA (getD_off h (by decide)), wS, fun h => wB (getD_ne h (by decide)), fun h => (c0 (getD_ne h (by decide))), fun h => (c1 (getD_ne h (by decide))), fun h => (c2 (getD_ne h (by decide))), fun h => (c3 (getD_ne h (by decide))), fun h => (c4 (getD_ne h (by decide))), fun h => ⟨getD_set_true (c5 (getD_ne h (by decide))).1, (c5 (getD_ne h (by decide))).2⟩, fun h => ⟨getD_set_true (c6 (getD_ne h (by decide))).1, (c6 (getD_ne h (by decide))).2⟩, fun _ => ⟨getD_set_true D5.out, rfl⟩, fun h => (c8 (getD_ne h (by decide))), fun h => by obtain ⟨g, q1, q2, q3, q4⟩ := (c9 (getD_ne h (by decide))); exact ⟨g, q1, q2, q3, fun h5 => q4 (getD_ne h5 (by decide))⟩, fun h => (c11 (getD_ne h (by decide)))⟩)
    · -- 8
      have f6 := c6 (by have hd := ready_deps hi (o := _) rfl; exact hd ⟨6, .data⟩ (by simp) (by rfl))
      obtain rfl := f6.2
      clear f6
      refine wpOp_step rfl (fun K' hK' => ?_)
      have HK : Hid (∀ a w, K a w → K' a w) := hK'
      have HK2 : Hid (type_of% hK) := hK
      clear hK hK'
      go_simp
      exact HK.out _ _ (HK2.out _ _ ⟨by simp [hls], v9, _, _, _, _, _, _, _, _, _, _, _, rfl, fun h => wA (getD_off h (by decide)), wS, fun h => wB (getD_ne h (by decide)), fun h => (c0 (getD_ne h (by decide))), fun h => (c1 (getD_ne h (by decide))), fun h => (c2 (getD_ne h (by decide))), fun h => (c3 (getD_ne h (by decide))), fun h => (c4 (getD_ne h (by decide))), fun h => ⟨getD_set_true (c5 (getD_ne h (by decide))).1, (c5 (getD_ne h (by decide))).2⟩, fun h => ⟨getD_set_true (c6 (getD_ne h (by decide))).1, (c6 (getD_ne h (by decide))).2⟩, fun h => ⟨getD_set_true (c7 (getD_ne h (by decide))).1, (c7 (getD_ne h (by decide))).2⟩, fun _ => rfl, fun h => by obtain ⟨g, q1, q2, q3, q4⟩ := (c9 (getD_ne h (by decide))); exact ⟨g, q1, q2, q3, fun h5 => q4 (getD_ne h5 (by decide))⟩, fun h => (c11 (getD_ne h (by decide)))⟩)
    · -- 9
      refine wpOp_step rfl (fun K' hK' => ?_)
      have HK : Hid (∀ a w, K a w → K' a w) := hK'
      have HK2 : Hid (type_of% hK) := hK
      clear hK hK'
      go_simp
      exact HK.out _ _ (HK2.out _ _ ⟨by simp [hls], v9, _, _, _, _, _, _, _, _, _, _, _, rfl, fun h => (wA (getD_off h (by decide))).alloc wS _, Nat.le_trans wS (by simp), fun h => (wB (getD_ne h (by decide))).below ((Below.refl _ W).alloc (Nat.le_refl _) _), fun h => (c0 (getD_ne h (by decide))), fun h => (c1 (getD_ne h (by decide))), fun h => (c2 (getD_ne h (by decide))), fun h => (c3 (getD_ne h (by decide))), fun h => (c4 (getD_ne h (by decide))), fun h => ⟨getD_set_true (c5 (getD_ne h (by decide))).1, (c5 (getD_ne h (by decide))).2⟩, fun h => ⟨getD_set_true (c6 (getD_ne h (by decide))).1, (c6 (getD_ne h (by decide))).2⟩, fun h => ⟨getD_set_true (c7 (getD_ne h (by decide))).1, (c7 (getD_ne h (by decide))).2⟩, fun h => (c8 (getD_ne h (by decide))), fun _ => ⟨W.heap.size, rfl, wS, ⟨_, _, _, Bz.fresh W _ _ _ _⟩, fun h5 => (wB (getD_ne h5 (by decide))).new⟩, fun h => (c11 (getD_ne h (by decide)))⟩)
    · -- 10
      have D9 : Hid (l.getD 9 false = true) := (by have hd := ready_deps hi (o := _) rfl; exact hd ⟨9, .data⟩ (by simp) (by rfl))
      obtain ⟨g, q1, q2, ⟨x0, x1, x2, q3⟩, q4⟩ := c9 D9.out
      subst q1
      have f7 := c7 (by have hd := ready_deps hi (o := _) rfl; exact hd ⟨7, .data⟩ (by simp) (by rfl))
      obtain rfl := f7.2
      have D5 : Hid (l.getD 5 false = true) := f7.1
      have y0 := q3.c0
      have z0 := q3.f0
      have y1 := q3.c1
      have z1 := q3.f1
      have y2 := q3.c2
      have z2 := q3.f2
      clear f7
      refine wpOp_step rfl (fun K' hK' => ?_)
      have HK : Hid (∀ a w, K a w → K' a w) := hK'
      have HK2 : Hid (type_of% hK) := hK
      clear hK hK'
      go_simp
      exact HK.out _ _ (HK2.out _ _ ⟨by simp [hls], v9, _, _, _, _, _, _, _, _, _, _, _, rfl, fun h => absurd D5.out (by rw [getD_off h (by decide)]; decide), (by simpa using wS), fun _ => (wB D5.out).sets (q4 D5.out) (by omega), fun h => (c0 (getD_ne h (by decide))), fun h => (c1 (getD_ne h (by decide))), fun h => (c2 (getD_ne h (by decide))), fun h => (c3 (getD_ne h (by decide))), fun h => (c4 (getD_ne h (by decide))), fun h => ⟨getD_set_true (c5 (getD_ne h (by decide))).1, (c5 (getD_ne h (by decide))).2⟩, fun h => ⟨getD_set_true (c6 (getD_ne h (by decide))).1, (c6 (getD_ne h (by decide))).2⟩, fun h => ⟨getD_set_true (c7 (getD_ne h (by decide))).1, (c7 (getD_ne h (by decide))).2⟩, fun h => (c8 (getD_ne h (by decide))), fun _ => ⟨g, rfl, q2, ⟨_, _, _, q3.sets⟩, fun _ => q4 D5.out⟩, fun h => (c11 (getD_ne h (by decide)))⟩)
    · -- 11
      obtain rfl := c8 (by have hd := ready_deps hi (o := _) rfl; exact hd ⟨8, .data⟩ (by simp) (by rfl))
      refine wpOp_step rfl (fun K' hK' => ?_)
      have HK : Hid (∀ a w, K a w → K' a w) := hK'
      have HK2 : Hid (type_of% hK) := hK
      clear hK hK'
      go_simp
      exact HK.out _ _ (HK2.out _ _ ⟨by simp [hls], v9, _, _, _, _, _, _, _, _, _, _, _, rfl, fun h => wA (getD_off h (by decide)), wS, fun h => wB (getD_ne h (by decide)), fun h => (c0 (getD_ne h (by decide))), fun h => (c1 (getD_ne h (by decide))), fun h => (c2 (getD_ne h (by decide))), fun h => (c3 (getD_ne h (by decide))), fun h => (c4 (getD_ne h (by decide))), fun h => ⟨getD_set_true (c5 (getD_ne h (by decide))).1, (c5 (getD_ne h (by decide))).2⟩, fun h => ⟨getD_set_true (c6 (getD_ne h (by decide))).1, (c6 (getD_ne h (by decide))).2⟩, fun h => ⟨getD_set_true (c7 (getD_ne h (by decide))).1, (c7 (getD_ne h (by decide))).2⟩, fun h => (c8 (getD_ne h (by decide))), fun h => by obtain ⟨g, q1, q2, q3, q4⟩ := (c9 (getD_ne h (by decide))); exact ⟨g, q1, q2, q3, fun h5 => q4 (getD_ne h5 (by decide))⟩, fun _ => rfl⟩)

def Tw13 (w : World) (x : Sp) (e g : Nat) (pa pb : Int) (pc : ByteArray) (W0 : World) (l : Array Bool) (a : Act) (W : World) : Prop :=
  l.size = 9 ∧ W = W0 ∧ ∃ u52 u53 u54 u55 u56 u57 u58 u59 u4 : Value, a = ⟨#[.pointer (some ⟨e, 0, none⟩), .agg #[.int .i64 5, .int .i64 x.kk, .string x.tx], undef, .pointer (some ⟨w.heap.size, 0, none⟩), u4, undef, undef, .pointer (some ⟨g, 0, none⟩), .bool false, .pointer (some ⟨w.heap.size, 0, none⟩), .int .i64 5, .bool false, .bool false, undef, undef, undef, undef, .bool false, .bool false, undef, undef, undef, undef, .bool false, .bool false, undef, undef, undef, undef, .bool false, .bool false, undef, undef, undef, undef, undef, undef, undef, undef, undef, undef, .bool true, .bool true, .tuple #[.agg #[.int .i64 pa, .int .i64 pb, .string pc], .bool false], .pointer (some ⟨e, 0, none⟩), .pointer (some ⟨e, 0, none⟩), .pointer (some ⟨e, 4, none⟩), .pointer (some ⟨w.heap.size, 1, none⟩), .int .i64 x.kk, .tuple #[.agg #[.int .i64 pa, .int .i64 pb, .string pc], .bool false], .agg #[.int .i64 pa, .int .i64 pb, .string pc], .bool false, u52, u53, u54, u55, u56, u57, u58, u59, undef, undef, undef, undef, undef, undef, undef, undef, undef, undef], []⟩ ∧
    (l.getD 0 false = true → u52 = .bool false) ∧
    (l.getD 1 false = true → u53 = .bool false) ∧
    (l.getD 2 false = true → u54 = undef) ∧
    (l.getD 3 false = true → u55 = undef) ∧
    (l.getD 4 false = true → u56 = undef) ∧
    (l.getD 5 false = true → u57 = undef) ∧
    (l.getD 6 false = true → u58 = undef) ∧
    (l.getD 7 false = true → u59 = .bool false) ∧
    (l.getD 8 false = true → u4 = .bool false)

def Tw12 (w W1 : World) (x : Sp) (e : Nat) (pa pb : Int) (pc : ByteArray) (ok : Bool) (l : Array Bool) (a : Act) (W : World) : Prop :=
  l.size = 12 ∧ ∃ u44 u45 u46 u47 u48 u49 u43 u50 u51 u7 u8 : Value, a = ⟨#[.pointer (some ⟨e, 0, none⟩), .agg #[.int .i64 5, .int .i64 x.kk, .string x.tx], undef, .pointer (some ⟨w.heap.size, 0, none⟩), .bool false, undef, undef, u7, u8, .pointer (some ⟨w.heap.size, 0, none⟩), .int .i64 5, .bool false, .bool false, undef, undef, undef, undef, .bool false, .bool false, undef, undef, undef, undef, .bool false, .bool false, undef, undef, undef, undef, .bool false, .bool false, undef, undef, undef, undef, undef, undef, undef, undef, undef, undef, .bool true, .bool true, u43, u44, u45, u46, u47, u48, u49, u50, u51, undef, undef, undef, undef, undef, undef, undef, undef, undef, undef, undef, undef, undef, undef, undef, undef, undef, undef], []⟩ ∧
    Below W1.heap.size W1 W ∧
    (l.getD 0 false = true → u44 = .pointer (some ⟨e, 0, none⟩)) ∧
    (l.getD 1 false = true → u45 = .pointer (some ⟨e, 0, none⟩)) ∧
    (l.getD 2 false = true → u46 = .pointer (some ⟨e, 4, none⟩)) ∧
    (l.getD 3 false = true → u47 = .pointer (some ⟨w.heap.size, 1, none⟩)) ∧
    (l.getD 4 false = true → u48 = .int .i64 x.kk) ∧
    (l.getD 5 false = true → u49 = .tuple #[.agg #[.int .i64 pa, .int .i64 pb, .string pc], .bool ok]) ∧
    (l.getD 6 false = true → u43 = .tuple #[.agg #[.int .i64 pa, .int .i64 pb, .string pc], .bool ok]) ∧
    (l.getD 7 false = true → u50 = .agg #[.int .i64 pa, .int .i64 pb, .string pc]) ∧
    (l.getD 8 false = true → u51 = .bool ok) ∧
    (l.getD 9 false = true → ∃ g, u7 = .pointer (some ⟨g, 0, none⟩) ∧ W1.heap.size ≤ g ∧ (∃ x0 x1 x2, Bz W g x0 x1 x2) ∧ (l.getD 10 false = true → Bz W g (.int .i64 pa) (.int .i64 pb) (.string pc))) ∧
    (l.getD 10 false = true → l.getD 9 false = true) ∧
    (l.getD 11 false = true → u8 = .bool ok)

set_option maxRecDepth 100000 in
set_option maxHeartbeats 8000000 in
theorem stepW (s : Ses) (x : Sp) (e B : Nat) (vi vw va : Value) (w : World) (h : Ex w e B s vi vw va) (hg : Gd s) (_ht : x.tx.size ≤ 9223372036854775807) :
    Calls Try.prog 74 #[.pointer (some ⟨e, 0, none⟩), .agg #[.int .i64 5, .int .i64 x.kk, .string x.tx]] w fun r w' => r = .returned (.bool (twiceK s x.kk)) ∧ ∃ v9, Ex w' e B (if twiceK s x.kk = true then twiceS s x.kk else s) vi v9 va ∧ Tch w w' (PX e vi vw va) (PX e vi v9 va) := by
  obtain ⟨W1, hW1⟩ : ∃ W, W = w.alloc (.cells #[.int .i64 5, .int .i64 x.kk, .string x.tx] 48) := ⟨_, rfl⟩
  have hB1 : Below w.heap.size w W1 := by rw [hW1]; exact (Below.refl _ w).alloc (Nat.le_refl _) _
  have s0 : W1.cell? ⟨w.heap.size, 0, none⟩ = some (.int .i64 5) := by rw [hW1]; go_simp
  have s1 : W1.cell? ⟨w.heap.size, 1, none⟩ = some (.int .i64 x.kk) := by rw [hW1]; go_simp
  have s2 : W1.cell? ⟨w.heap.size, 2, none⟩ = some (.string x.tx) := by rw [hW1]; go_simp
  have hs1 : W1.heap.size = w.heap.size + 1 := by rw [hW1]; simp
  have h1 : Ex W1 e B s vi vw va := h.below hB1
  have HB1 : Hid (type_of% hB1) := hB1
  have HCT : Hid (∀ W, Below W1.heap.size W1 W → Calls Try.prog 102 #[.pointer (some ⟨e, 4, none⟩), .int .i64 x.kk] W fun r w' => r = .returned (.tuple #[if inW s x.kk = true then (pk s.way x.kk.toNat).val else .agg #[.int .i64 0, .int .i64 0, .string ⟨#[]⟩], .bool (inW s x.kk)]) ∧ Below W.heap.size W w') := fun W hW => atPk_any s e B vi vw va x.kk W (h1.below hW)
  have hyl := hg.yl
  obtain ⟨p, hp, hpq⟩ : ∃ p : Pk, (if inW s x.kk = true then (pk s.way x.kk.toNat).val else .agg #[.int .i64 0, .int .i64 0, .string ⟨#[]⟩]) = p.val ∧ (inW s x.kk = true → p = pk s.way x.kk.toNat) := by
    split
    · exact ⟨_, rfl, fun _ => rfl⟩
    · rename_i hq
      exact ⟨⟨0, 0, ⟨#[]⟩⟩, rfl, fun h => absurd h hq⟩
  have HPQ : Hid (inW s x.kk = true → p = pk s.way x.kk.toNat) := hpq
  have HEX : Hid (∀ W, Below W1.heap.size W1 W → Ex W e B s vi vw va ∧ Tch w W (PX e vi vw va) (PX e vi vw va)) := fun W hW => ⟨h1.below hW, .of_below (hB1.trans (hW.mono hB1.size))⟩
  have HCP : Hid (∀ W, Below W1.heap.size W1 W → Calls Try.prog 103 #[.pointer (some ⟨e, 4, none⟩), .agg #[.int .i64 p.ep, .int .i64 p.no, .string p.tx]] W fun r w' => (∃ tt, r = .returned (.bool tt) ∧ Hid (tt = decide (s.way.length < 12))) ∧ Hid (∃ v9, Ex w' e B (if s.way.length < 12 then { s with way := s.way ++ [p] } else s) vi v9 va ∧ Tch W w' (PX e vi vw va) (PX e vi v9 va))) := fun W hW => (putPk_any s p e B vi vw va W (h1.below hW) hyl).mono fun r w' hh => ⟨⟨_, hh.1, rfl⟩, hh.2⟩
  rw [hp] at HCT
  obtain ⟨pa, pb, pc⟩ := p
  rw [show (Pk.mk pa pb pc).val = .agg #[.int .i64 pa, .int .i64 pb, .string pc] from rfl] at HCT
  dsimp only at HCP
  have HS9 : Hid (inW s x.kk = true → (if twiceK s x.kk = true then twiceS s x.kk else s) = (if s.way.length < 12 then { s with way := s.way ++ [⟨pa, pb, pc⟩] } else s) ∧ twiceK s x.kk = decide (s.way.length < 12)) := fun hq => by
    unfold twiceK twiceS
    rw [hq, Bool.true_and]
    refine ⟨?_, rfl⟩
    by_cases h12 : s.way.length < 12
    · rw [if_pos h12, if_pos (decide_eq_true h12), ← HPQ.out hq]
    · rw [if_neg h12, if_neg (by simpa using h12)]
  have HF9 : Hid (inW s x.kk = false → (if twiceK s x.kk = true then twiceS s x.kk else s) = s ∧ twiceK s x.kk = false) := fun q => by unfold twiceK; rw [q]; exact ⟨rfl, rfl⟩
  generalize (if twiceK s x.kk = true then twiceS s x.kk else s) = S9 at HS9 HF9 ⊢
  generalize twiceK s x.kk = TK at HS9 HF9 ⊢
  generalize (if s.way.length < 12 then { s with way := s.way ++ [⟨pa, pb, pc⟩] } else s) = S1 at HS9 HCP
  generalize decide (s.way.length < 12) = tk at HS9 HCP
  have HS1 : Hid (∀ W, Below W1.heap.size W1 W → W.cell? ⟨w.heap.size, 1, none⟩ = some (.int .i64 x.kk)) := fun W hW => (hW.cell (p := ⟨w.heap.size, 1, none⟩) (by show w.heap.size < _; omega)).trans s1
  generalize hok : inW s x.kk = ok at HCT
  have HOK : Hid (inW s x.kk = ok) := hok
  have hI0 : Tw12 w W1 x e pa pb pc ok (Array.replicate 12 false) ⟨#[.pointer (some ⟨e, 0, none⟩), .agg #[.int .i64 5, .int .i64 x.kk, .string x.tx], undef, .pointer (some ⟨w.heap.size, 0, none⟩), .bool false, undef, undef, undef, undef, .pointer (some ⟨w.heap.size, 0, none⟩), .int .i64 5, .bool false, .bool false, undef, undef, undef, undef, .bool false, .bool false, undef, undef, undef, undef, .bool false, .bool false, undef, undef, undef, undef, .bool false, .bool false, undef, undef, undef, undef, undef, undef, undef, undef, undef, undef, .bool true, .bool true, undef, undef, undef, undef, undef, undef, undef, undef, undef, undef, undef, undef, undef, undef, undef, undef, undef, undef, undef, undef, undef, undef, undef, undef, undef, undef, undef], []⟩ W1.drew := by
    refine ⟨by simp, _, _, _, _, _, _, _, _, _, _, _, rfl, (Below.refl _ W1).drew, ?_, ?_, ?_, ?_, ?_, ?_, ?_, ?_, ?_, ?_, ?_, ?_⟩
    all_goals
      intro h
      exact absurd h (by decide)
  have HI0 : Hid (type_of% hI0) := hI0
  clear hI0 h h1 hg hB1 hp hpq hok hyl
  go_enter Try.func74, Try.ntmps74
  go_upto_region 12 with fail
  rw [← hW1]
  clear hW1
  refine wp_region_held_drew (S := fun _ => True) (by kernel_rfl) trivial (fun _ => ?_)
  refine wpAnyH_inv (Tw12 w W1 x e pa pb pc ok) ?step ?fin _ _ _ _ HI0.out (by decide)
  case fin =>
    intro l a W hI h0
    obtain ⟨hls, u44, u45, u46, u47, u48, u49, u43, u50, u51, u7, u8, rfl, wA, c0, c1, c2, c3, c4, c5, c6, c7, c8, c9, c10, c11⟩ := hI
    have b0 : l.getD 0 false = true := listed_ofB h0 0 _ (by omega) rfl (by intro e he hbd; first | (simp at he; done) | skip; simp at he; (repeat (rcases he with rfl | he; · first | assumption | exact absurd hbd (by decide))); all_goals (subst he; first | assumption | exact absurd hbd (by decide)))
    have b1 : l.getD 1 false = true := listed_ofB h0 1 _ (by omega) rfl (by intro e he hbd; first | (simp at he; done) | skip; simp at he; (repeat (rcases he with rfl | he; · first | assumption | exact absurd hbd (by decide))); all_goals (subst he; first | assumption | exact absurd hbd (by decide)))
    have b2 : l.getD 2 false = true := listed_ofB h0 2 _ (by omega) rfl (by intro e he hbd; first | (simp at he; done) | skip; simp at he; (repeat (rcases he with rfl | he; · first | assumption | exact absurd hbd (by decide))); all_goals (subst he; first | assumption | exact absurd hbd (by decide)))
    have b3 : l.getD 3 false = true := listed_ofB h0 3 _ (by omega) rfl (by intro e he hbd; first | (simp at he; done) | skip; simp at he; (repeat (rcases he with rfl | he; · first | assumption | exact absurd hbd (by decide))); all_goals (subst he; first | assumption | exact absurd hbd (by decide)))
    have b4 : l.getD 4 false = true := listed_ofB h0 4 _ (by omega) rfl (by intro e he hbd; first | (simp at he; done) | skip; simp at he; (repeat (rcases he with rfl | he; · first | assumption | exact absurd hbd (by decide))); all_goals (subst he; first | assumption | exact absurd hbd (by decide)))
    have b5 : l.getD 5 false = true := listed_ofB h0 5 _ (by omega) rfl (by intro e he hbd; first | (simp at he; done) | skip; simp at he; (repeat (rcases he with rfl | he; · first | assumption | exact absurd hbd (by decide))); all_goals (subst he; first | assumption | exact absurd hbd (by decide)))
    have b6 : l.getD 6 false = true := listed_ofB h0 6 _ (by omega) rfl (by intro e he hbd; first | (simp at he; done) | skip; simp at he; (repeat (rcases he with rfl | he; · first | assumption | exact absurd hbd (by decide))); all_goals (subst he; first | assumption | exact absurd hbd (by decide)))
    have b7 : l.getD 7 false = true := listed_ofB h0 7 _ (by omega) rfl (by intro e he hbd; first | (simp at he; done) | skip; simp at he; (repeat (rcases he with rfl | he; · first | assumption | exact absurd hbd (by decide))); all_goals (subst he; first | assumption | exact absurd hbd (by decide)))
    have b8 : l.getD 8 false = true := listed_ofB h0 8 _ (by omega) rfl (by intro e he hbd; first | (simp at he; done) | skip; simp at he; (repeat (rcases he with rfl | he; · first | assumption | exact absurd hbd (by decide))); all_goals (subst he; first | assumption | exact absurd hbd (by decide)))
    have b9 : l.getD 9 false = true := listed_ofB h0 9 _ (by omega) rfl (by intro e he hbd; first | (simp at he; done) | skip; simp at he; (repeat (rcases he with rfl | he; · first | assumption | exact absurd hbd (by decide))); all_goals (subst he; first | assumption | exact absurd hbd (by decide)))
    have b10 : l.getD 10 false = true := listed_ofB h0 10 _ (by omega) rfl (by intro e he hbd; first | (simp at he; done) | skip; simp at he; (repeat (rcases he with rfl | he; · first | assumption | exact absurd hbd (by decide))); all_goals (subst he; first | assumption | exact absurd hbd (by decide)))
    have b11 : l.getD 11 false = true := listed_ofB h0 11 _ (by omega) rfl (by intro e he hbd; first | (simp at he; done) | skip; simp at he; (repeat (rcases he with rfl | he; · first | assumption | exact absurd hbd (by decide))); all_goals (subst he; first | assumption | exact absurd hbd (by decide)))
    obtain ⟨g, q1, q2, _, q4⟩ := c9 b9
    subst q1
    have hz := q4 b10
    have HWA : Hid (Below W1.heap.size W1 W.drew) := wA.drew
    have HW2 : Hid (Below W1.heap.size W1 W) := wA
    obtain rfl := c11 b11
    obtain rfl := c0 b0
    obtain rfl := c1 b1
    obtain rfl := c2 b2
    obtain rfl := c3 b3
    obtain rfl := c4 b4
    obtain rfl := c5 b5
    obtain rfl := c6 b6
    obtain rfl := c7 b7
    obtain rfl := c8 b8
    have y0 : W.drew.cell? ⟨g, 0, none⟩ = some (.int .i64 pa) := hz.c0
    have y1 : W.drew.cell? ⟨g, 1, none⟩ = some (.int .i64 pb) := hz.c1
    have y2 : W.drew.cell? ⟨g, 2, none⟩ = some (.string pc) := hz.c2
    clear q4 hz wA c0 c1 c2 c3 c4 c5 c6 c7 c8 c9 c10 c11 b0 b1 b2 b3 b4 b5 b6 b7 b8 b9 b10 b11 h0 hls HCT
    (try dsimp only)
    cases ok
    · obtain ⟨e9, e8⟩ := HF9.out HOK.out
      have E9 : Hid (type_of% e9) := e9
      have E8 : Hid (type_of% e8) := e8
      clear e9 e8 HS9 HF9
      have HEX2 := HEX.out _ HWA.out
      have HEX3 : Hid (type_of% HEX2) := HEX2
      clear HEX2
      have HJ0 : Tw13 w x e g pa pb pc W.drew (Array.replicate 9 false) ⟨#[.pointer (some ⟨e, 0, none⟩), .agg #[.int .i64 5, .int .i64 x.kk, .string x.tx], undef, .pointer (some ⟨w.heap.size, 0, none⟩), .bool false, undef, undef, .pointer (some ⟨g, 0, none⟩), .bool false, .pointer (some ⟨w.heap.size, 0, none⟩), .int .i64 5, .bool false, .bool false, undef, undef, undef, undef, .bool false, .bool false, undef, undef, undef, undef, .bool false, .bool false, undef, undef, undef, undef, .bool false, .bool false, undef, undef, undef, undef, undef, undef, undef, undef, undef, undef, .bool true, .bool true, .tuple #[.agg #[.int .i64 pa, .int .i64 pb, .string pc], .bool false], .pointer (some ⟨e, 0, none⟩), .pointer (some ⟨e, 0, none⟩), .pointer (some ⟨e, 4, none⟩), .pointer (some ⟨w.heap.size, 1, none⟩), .int .i64 x.kk, .tuple #[.agg #[.int .i64 pa, .int .i64 pb, .string pc], .bool false], .agg #[.int .i64 pa, .int .i64 pb, .string pc], .bool false, undef, undef, undef, undef, undef, undef, undef, undef, undef, undef, undef, undef, undef, undef, undef, undef, undef, undef], []⟩ W.drew := by
        refine ⟨by simp, rfl, _, _, _, _, _, _, _, _, _, rfl, ?_, ?_, ?_, ?_, ?_, ?_, ?_, ?_, ?_⟩
        all_goals
          intro h
          exact absurd h (by decide)
      have HJ : Hid (type_of% HJ0) := HJ0
      clear HJ0
      go_upto_region 13 with fail
      (try simp only [Act.put, List.setIfInBounds_toArray, List.set_cons_zero, List.set_cons_succ, List.getElem_toArray, List.getElem_cons_zero, List.getElem_cons_succ])
      refine wp_region_held_drew (S := fun _ => True) (by kernel_rfl) trivial (fun _ => ?_)
      refine wpAnyH_inv (Tw13 w x e g pa pb pc W.drew) ?stepB ?finB _ _ _ _ HJ.out (by decide)
      case finB =>
        intro l a W hI h0
        obtain ⟨hls, rfl, u52, u53, u54, u55, u56, u57, u58, u59, u4, rfl, c0, c1, c2, c3, c4, c5, c6, c7, c8⟩ := hI
        have b0 : l.getD 0 false = true := listed_of h0 0 _ (by omega) rfl (by intro e he; first | (simp at he; done) | skip; simp at he; (repeat (rcases he with rfl | he; · assumption)); all_goals (subst he; assumption))
        have b1 : l.getD 1 false = true := listed_of h0 1 _ (by omega) rfl (by intro e he; first | (simp at he; done) | skip; simp at he; (repeat (rcases he with rfl | he; · assumption)); all_goals (subst he; assumption))
        have b2 : l.getD 2 false = true := listed_of h0 2 _ (by omega) rfl (by intro e he; first | (simp at he; done) | skip; simp at he; (repeat (rcases he with rfl | he; · assumption)); all_goals (subst he; assumption))
        have b3 : l.getD 3 false = true := listed_of h0 3 _ (by omega) rfl (by intro e he; first | (simp at he; done) | skip; simp at he; (repeat (rcases he with rfl | he; · assumption)); all_goals (subst he; assumption))
        have b4 : l.getD 4 false = true := listed_of h0 4 _ (by omega) rfl (by intro e he; first | (simp at he; done) | skip; simp at he; (repeat (rcases he with rfl | he; · assumption)); all_goals (subst he; assumption))
        have b5 : l.getD 5 false = true := listed_of h0 5 _ (by omega) rfl (by intro e he; first | (simp at he; done) | skip; simp at he; (repeat (rcases he with rfl | he; · assumption)); all_goals (subst he; assumption))
        have b6 : l.getD 6 false = true := listed_of h0 6 _ (by omega) rfl (by intro e he; first | (simp at he; done) | skip; simp at he; (repeat (rcases he with rfl | he; · assumption)); all_goals (subst he; assumption))
        have b7 : l.getD 7 false = true := listed_of h0 7 _ (by omega) rfl (by intro e he; first | (simp at he; done) | skip; simp at he; (repeat (rcases he with rfl | he; · assumption)); all_goals (subst he; assumption))
        have b8 : l.getD 8 false = true := listed_of h0 8 _ (by omega) rfl (by intro e he; first | (simp at he; done) | skip; simp at he; (repeat (rcases he with rfl | he; · assumption)); all_goals (subst he; assumption))
        obtain rfl := c0 b0
        obtain rfl := c1 b1
        obtain rfl := c2 b2
        obtain rfl := c3 b3
        obtain rfl := c4 b4
        obtain rfl := c5 b5
        obtain rfl := c6 b6
        obtain rfl := c7 b7
        obtain rfl := c8 b8
        clear b0 b1 b2 b3 b4 b5 b6 b7 b8 h0 hls
        (try dsimp only)
        go_wp2_with fail
        go_ret
        rw [E8.out, E9.out]
        exact ⟨rfl, _, HEX3.out⟩
      case stepB =>
        intro l a W i hI hi K hK
        have hlt := ready_lt hi
        obtain ⟨hls, rfl, u52, u53, u54, u55, u56, u57, u58, u59, u4, rfl, c0, c1, c2, c3, c4, c5, c6, c7, c8⟩ := hI
        have hlt' : i < 9 := hlt
        rcases (show i = 0 ∨ i = 1 ∨ i = 2 ∨ i = 3 ∨ i = 4 ∨ i = 5 ∨ i = 6 ∨ i = 7 ∨ i = 8 by omega) with rfl | rfl | rfl | rfl | rfl | rfl | rfl | rfl | rfl
        · -- 0
          refine wpOp_step rfl (fun K' hK' => ?_)
          have HK : Hid (∀ a w, K a w → K' a w) := hK'
          have HK2 : Hid (type_of% hK) := hK
          clear hK hK' 
          go_simp
          exact HK.out _ _ (HK2.out _ _ ⟨by simp [hls], rfl, _, _, _, _, _, _, _, _, _, rfl, fun _ => rfl, fun h => (c1 (getD_ne h (by decide))), fun h => (c2 (getD_ne h (by decide))), fun h => (c3 (getD_ne h (by decide))), fun h => (c4 (getD_ne h (by decide))), fun h => (c5 (getD_ne h (by decide))), fun h => (c6 (getD_ne h (by decide))), fun h => (c7 (getD_ne h (by decide))), fun h => (c8 (getD_ne h (by decide)))⟩)
        · -- 1
          obtain rfl := c0 (by have hd := ready_deps hi (o := _) rfl; exact hd ⟨0, .data⟩ (by simp) (by rfl))
          refine wpOp_step rfl (fun K' hK' => ?_)
          have HK : Hid (∀ a w, K a w → K' a w) := hK'
          have HK2 : Hid (type_of% hK) := hK
          clear hK hK' 
          go_simp
          exact HK.out _ _ (HK2.out _ _ ⟨by simp [hls], rfl, _, _, _, _, _, _, _, _, _, rfl, fun h => (c0 (getD_ne h (by decide))), fun _ => rfl, fun h => (c2 (getD_ne h (by decide))), fun h => (c3 (getD_ne h (by decide))), fun h => (c4 (getD_ne h (by decide))), fun h => (c5 (getD_ne h (by decide))), fun h => (c6 (getD_ne h (by decide))), fun h => (c7 (getD_ne h (by decide))), fun h => (c8 (getD_ne h (by decide)))⟩)
        · -- 2
          obtain rfl := c1 (by have hd := ready_deps hi (o := _) rfl; exact hd ⟨1, .guard⟩ (by simp) (by rfl))
          refine wpOp_step rfl (fun K' hK' => ?_)
          have HK : Hid (∀ a w, K a w → K' a w) := hK'
          have HK2 : Hid (type_of% hK) := hK
          clear hK hK' 
          rw [if_neg (by rw [show Region.wanted _ _ = false from rfl]; decide)]
          (try go_simp)
          exact HK.out _ _ (HK2.out _ _ ⟨by simp [hls], rfl, _, _, _, _, _, _, _, _, _, rfl, fun h => (c0 (getD_ne h (by decide))), fun h => (c1 (getD_ne h (by decide))), fun _ => rfl, fun h => (c3 (getD_ne h (by decide))), fun h => (c4 (getD_ne h (by decide))), fun h => (c5 (getD_ne h (by decide))), fun h => (c6 (getD_ne h (by decide))), fun h => (c7 (getD_ne h (by decide))), fun h => (c8 (getD_ne h (by decide)))⟩)
        · -- 3
          obtain rfl := c2 (by have hd := ready_deps hi (o := _) rfl; exact hd ⟨2, .data⟩ (by simp) (by rfl))
          obtain rfl := c1 (by have hd := ready_deps hi (o := _) rfl; exact hd ⟨1, .guard⟩ (by simp) (by rfl))
          refine wpOp_step rfl (fun K' hK' => ?_)
          have HK : Hid (∀ a w, K a w → K' a w) := hK'
          have HK2 : Hid (type_of% hK) := hK
          clear hK hK' 
          rw [if_neg (by rw [show Region.wanted _ _ = false from rfl]; decide)]
          (try go_simp)
          exact HK.out _ _ (HK2.out _ _ ⟨by simp [hls], rfl, _, _, _, _, _, _, _, _, _, rfl, fun h => (c0 (getD_ne h (by decide))), fun h => (c1 (getD_ne h (by decide))), fun h => (c2 (getD_ne h (by decide))), fun _ => rfl, fun h => (c4 (getD_ne h (by decide))), fun h => (c5 (getD_ne h (by decide))), fun h => (c6 (getD_ne h (by decide))), fun h => (c7 (getD_ne h (by decide))), fun h => (c8 (getD_ne h (by decide)))⟩)
        · -- 4
          obtain rfl := c3 (by have hd := ready_deps hi (o := _) rfl; exact hd ⟨3, .data⟩ (by simp) (by rfl))
          obtain rfl := c1 (by have hd := ready_deps hi (o := _) rfl; exact hd ⟨1, .guard⟩ (by simp) (by rfl))
          refine wpOp_step rfl (fun K' hK' => ?_)
          have HK : Hid (∀ a w, K a w → K' a w) := hK'
          have HK2 : Hid (type_of% hK) := hK
          clear hK hK' 
          rw [if_neg (by rw [show Region.wanted _ _ = false from rfl]; decide)]
          (try go_simp)
          exact HK.out _ _ (HK2.out _ _ ⟨by simp [hls], rfl, _, _, _, _, _, _, _, _, _, rfl, fun h => (c0 (getD_ne h (by decide))), fun h => (c1 (getD_ne h (by decide))), fun h => (c2 (getD_ne h (by decide))), fun h => (c3 (getD_ne h (by decide))), fun _ => rfl, fun h => (c5 (getD_ne h (by decide))), fun h => (c6 (getD_ne h (by decide))), fun h => (c7 (getD_ne h (by decide))), fun h => (c8 (getD_ne h (by decide)))⟩)
        · -- 5
          obtain rfl := c1 (by have hd := ready_deps hi (o := _) rfl; exact hd ⟨1, .guard⟩ (by simp) (by rfl))
          refine wpOp_step rfl (fun K' hK' => ?_)
          have HK : Hid (∀ a w, K a w → K' a w) := hK'
          have HK2 : Hid (type_of% hK) := hK
          clear hK hK' 
          rw [if_neg (by rw [show Region.wanted _ _ = false from rfl]; decide)]
          (try go_simp)
          exact HK.out _ _ (HK2.out _ _ ⟨by simp [hls], rfl, _, _, _, _, _, _, _, _, _, rfl, fun h => (c0 (getD_ne h (by decide))), fun h => (c1 (getD_ne h (by decide))), fun h => (c2 (getD_ne h (by decide))), fun h => (c3 (getD_ne h (by decide))), fun h => (c4 (getD_ne h (by decide))), fun _ => rfl, fun h => (c6 (getD_ne h (by decide))), fun h => (c7 (getD_ne h (by decide))), fun h => (c8 (getD_ne h (by decide)))⟩)
        · -- 6
          obtain rfl := c4 (by have hd := ready_deps hi (o := _) rfl; exact hd ⟨4, .data⟩ (by simp) (by rfl))
          obtain rfl := c5 (by have hd := ready_deps hi (o := _) rfl; exact hd ⟨5, .data⟩ (by simp) (by rfl))
          obtain rfl := c1 (by have hd := ready_deps hi (o := _) rfl; exact hd ⟨1, .chain⟩ (by simp) (by rfl))
          refine wpOp_step rfl (fun K' hK' => ?_)
          have HK : Hid (∀ a w, K a w → K' a w) := hK'
          have HK2 : Hid (type_of% hK) := hK
          clear hK hK' 
          rw [if_neg (by rw [show Region.wanted _ _ = false from rfl]; decide)]
          (try go_simp)
          exact HK.out _ _ (HK2.out _ _ ⟨by simp [hls], rfl, _, _, _, _, _, _, _, _, _, rfl, fun h => (c0 (getD_ne h (by decide))), fun h => (c1 (getD_ne h (by decide))), fun h => (c2 (getD_ne h (by decide))), fun h => (c3 (getD_ne h (by decide))), fun h => (c4 (getD_ne h (by decide))), fun h => (c5 (getD_ne h (by decide))), fun _ => rfl, fun h => (c7 (getD_ne h (by decide))), fun h => (c8 (getD_ne h (by decide)))⟩)
        · -- 7
          obtain rfl := c1 (by have hd := ready_deps hi (o := _) rfl; exact hd ⟨1, .data⟩ (by simp) (by rfl))
          obtain rfl := c6 (by have hd := ready_deps hi (o := _) rfl; exact hd ⟨6, .data⟩ (by simp) (by rfl))
          refine wpOp_step rfl (fun K' hK' => ?_)
          have HK : Hid (∀ a w, K a w → K' a w) := hK'
          have HK2 : Hid (type_of% hK) := hK
          clear hK hK' 
          go_simp
          exact HK.out _ _ (HK2.out _ _ ⟨by simp [hls], rfl, _, _, _, _, _, _, _, _, _, rfl, fun h => (c0 (getD_ne h (by decide))), fun h => (c1 (getD_ne h (by decide))), fun h => (c2 (getD_ne h (by decide))), fun h => (c3 (getD_ne h (by decide))), fun h => (c4 (getD_ne h (by decide))), fun h => (c5 (getD_ne h (by decide))), fun h => (c6 (getD_ne h (by decide))), fun _ => rfl, fun h => (c8 (getD_ne h (by decide)))⟩)
        · -- 8
          obtain rfl := c7 (by have hd := ready_deps hi (o := _) rfl; exact hd ⟨7, .data⟩ (by simp) (by rfl))
          obtain rfl := c6 (by have hd := ready_deps hi (o := _) rfl; exact hd ⟨6, .chain⟩ (by simp) (by rfl))
          obtain rfl := c0 (by have hd := ready_deps hi (o := _) rfl; exact hd ⟨0, .phase⟩ (by simp) (by rfl))
          obtain rfl := c1 (by have hd := ready_deps hi (o := _) rfl; exact hd ⟨1, .phase⟩ (by simp) (by rfl))
          obtain rfl := c2 (by have hd := ready_deps hi (o := _) rfl; exact hd ⟨2, .phase⟩ (by simp) (by rfl))
          obtain rfl := c3 (by have hd := ready_deps hi (o := _) rfl; exact hd ⟨3, .phase⟩ (by simp) (by rfl))
          obtain rfl := c4 (by have hd := ready_deps hi (o := _) rfl; exact hd ⟨4, .phase⟩ (by simp) (by rfl))
          obtain rfl := c5 (by have hd := ready_deps hi (o := _) rfl; exact hd ⟨5, .phase⟩ (by simp) (by rfl))
          refine wpOp_step rfl (fun K' hK' => ?_)
          have HK : Hid (∀ a w, K a w → K' a w) := hK'
          have HK2 : Hid (type_of% hK) := hK
          clear hK hK' 
          go_simp
          exact HK.out _ _ (HK2.out _ _ ⟨by simp [hls], rfl, _, _, _, _, _, _, _, _, _, rfl, fun h => (c0 (getD_ne h (by decide))), fun h => (c1 (getD_ne h (by decide))), fun h => (c2 (getD_ne h (by decide))), fun h => (c3 (getD_ne h (by decide))), fun h => (c4 (getD_ne h (by decide))), fun h => (c5 (getD_ne h (by decide))), fun h => (c6 (getD_ne h (by decide))), fun h => (c7 (getD_ne h (by decide))), fun _ => rfl⟩)
    · obtain ⟨e9, e8⟩ := HS9.out HOK.out
      have E9 : Hid (type_of% e9) := e9
      have E8 : Hid (type_of% e8) := e8
      clear e9 e8 HS9 HF9
      have CP := HCP.out _ HWA.out
      have HCP2 : Hid (type_of% CP) := CP
      clear CP
      go_upto_region 13 with fail
      (try simp only [Act.put, List.setIfInBounds_toArray, List.set_cons_zero, List.set_cons_succ, List.getElem_toArray, List.getElem_cons_zero, List.getElem_cons_succ])
      go_region_with (go_at_call 103; (with_reducible refine HCP2.out.mono ?_); rintro r w5 ⟨⟨tt, rfl, htt⟩, HE5⟩)
      all_goals
        go_wp2_with fail
        go_ret
        obtain ⟨v9, hE, hT⟩ := HE5.out
        rw [E8.out, E9.out]
        exact ⟨by have e9 := htt.out; subst e9; rfl, v9, hE, (HEX.out W.drew HWA.out).2.trans hT⟩
  case step =>
    intro l a W i hI hi K hK
    have hlt := ready_lt hi
    obtain ⟨hls, u44, u45, u46, u47, u48, u49, u43, u50, u51, u7, u8, rfl, wA, c0, c1, c2, c3, c4, c5, c6, c7, c8, c9, c10, c11⟩ := hI
    have hlt' : i < 12 := hlt
    rcases (show i = 0 ∨ i = 1 ∨ i = 2 ∨ i = 3 ∨ i = 4 ∨ i = 5 ∨ i = 6 ∨ i = 7 ∨ i = 8 ∨ i = 9 ∨ i = 10 ∨ i = 11 by omega) with rfl | rfl | rfl | rfl | rfl | rfl | rfl | rfl | rfl | rfl | rfl | rfl
    · -- 0
      refine wpOp_step rfl (fun K' hK' => ?_)
      have HK : Hid (∀ a w, K a w → K' a w) := hK'
      have HK2 : Hid (type_of% hK) := hK
      clear hK hK'
      go_simp
      exact HK.out _ _ (HK2.out _ _ ⟨by simp [hls], _, _, _, _, _, _, _, _, _, _, _, rfl, wA, fun _ => rfl, fun h => (c1 (getD_ne h (by decide))), fun h => (c2 (getD_ne h (by decide))), fun h => (c3 (getD_ne h (by decide))), fun h => (c4 (getD_ne h (by decide))), fun h => (c5 (getD_ne h (by decide))), fun h => (c6 (getD_ne h (by decide))), fun h => (c7 (getD_ne h (by decide))), fun h => (c8 (getD_ne h (by decide))), fun h => by obtain ⟨g, q1, q2, q3, q4⟩ := (c9 (getD_ne h (by decide))); exact ⟨g, q1, q2, q3, fun h5 => q4 (getD_ne h5 (by decide))⟩, fun h => getD_set_true (c10 (getD_ne h (by decide))), fun h => (c11 (getD_ne h (by decide)))⟩)
    · -- 1
      obtain rfl := c0 (by have hd := ready_deps hi (o := _) rfl; exact hd ⟨0, .data⟩ (by simp) (by rfl))
      refine wpOp_step rfl (fun K' hK' => ?_)
      have HK : Hid (∀ a w, K a w → K' a w) := hK'
      have HK2 : Hid (type_of% hK) := hK
      clear hK hK'
      go_simp
      exact HK.out _ _ (HK2.out _ _ ⟨by simp [hls], _, _, _, _, _, _, _, _, _, _, _, rfl, wA, fun h => (c0 (getD_ne h (by decide))), fun _ => rfl, fun h => (c2 (getD_ne h (by decide))), fun h => (c3 (getD_ne h (by decide))), fun h => (c4 (getD_ne h (by decide))), fun h => (c5 (getD_ne h (by decide))), fun h => (c6 (getD_ne h (by decide))), fun h => (c7 (getD_ne h (by decide))), fun h => (c8 (getD_ne h (by decide))), fun h => by obtain ⟨g, q1, q2, q3, q4⟩ := (c9 (getD_ne h (by decide))); exact ⟨g, q1, q2, q3, fun h5 => q4 (getD_ne h5 (by decide))⟩, fun h => getD_set_true (c10 (getD_ne h (by decide))), fun h => (c11 (getD_ne h (by decide)))⟩)
    · -- 2
      obtain rfl := c1 (by have hd := ready_deps hi (o := _) rfl; exact hd ⟨1, .data⟩ (by simp) (by rfl))
      refine wpOp_step rfl (fun K' hK' => ?_)
      have HK : Hid (∀ a w, K a w → K' a w) := hK'
      have HK2 : Hid (type_of% hK) := hK
      clear hK hK'
      go_simp
      exact HK.out _ _ (HK2.out _ _ ⟨by simp [hls], _, _, _, _, _, _, _, _, _, _, _, rfl, wA, fun h => (c0 (getD_ne h (by decide))), fun h => (c1 (getD_ne h (by decide))), fun _ => rfl, fun h => (c3 (getD_ne h (by decide))), fun h => (c4 (getD_ne h (by decide))), fun h => (c5 (getD_ne h (by decide))), fun h => (c6 (getD_ne h (by decide))), fun h => (c7 (getD_ne h (by decide))), fun h => (c8 (getD_ne h (by decide))), fun h => by obtain ⟨g, q1, q2, q3, q4⟩ := (c9 (getD_ne h (by decide))); exact ⟨g, q1, q2, q3, fun h5 => q4 (getD_ne h5 (by decide))⟩, fun h => getD_set_true (c10 (getD_ne h (by decide))), fun h => (c11 (getD_ne h (by decide)))⟩)
    · -- 3
      refine wpOp_step rfl (fun K' hK' => ?_)
      have HK : Hid (∀ a w, K a w → K' a w) := hK'
      have HK2 : Hid (type_of% hK) := hK
      clear hK hK'
      go_simp
      exact HK.out _ _ (HK2.out _ _ ⟨by simp [hls], _, _, _, _, _, _, _, _, _, _, _, rfl, wA, fun h => (c0 (getD_ne h (by decide))), fun h => (c1 (getD_ne h (by decide))), fun h => (c2 (getD_ne h (by decide))), fun _ => rfl, fun h => (c4 (getD_ne h (by decide))), fun h => (c5 (getD_ne h (by decide))), fun h => (c6 (getD_ne h (by decide))), fun h => (c7 (getD_ne h (by decide))), fun h => (c8 (getD_ne h (by decide))), fun h => by obtain ⟨g, q1, q2, q3, q4⟩ := (c9 (getD_ne h (by decide))); exact ⟨g, q1, q2, q3, fun h5 => q4 (getD_ne h5 (by decide))⟩, fun h => getD_set_true (c10 (getD_ne h (by decide))), fun h => (c11 (getD_ne h (by decide)))⟩)
    · -- 4
      obtain rfl := c3 (by have hd := ready_deps hi (o := _) rfl; exact hd ⟨3, .data⟩ (by simp) (by rfl))
      have y1 := HS1.out W wA
      refine wpOp_step rfl (fun K' hK' => ?_)
      have HK : Hid (∀ a w, K a w → K' a w) := hK'
      have HK2 : Hid (type_of% hK) := hK
      clear hK hK'
      go_simp
      exact HK.out _ _ (HK2.out _ _ ⟨by simp [hls], _, _, _, _, _, _, _, _, _, _, _, rfl, wA, fun h => (c0 (getD_ne h (by decide))), fun h => (c1 (getD_ne h (by decide))), fun h => (c2 (getD_ne h (by decide))), fun h => (c3 (getD_ne h (by decide))), fun _ => rfl, fun h => (c5 (getD_ne h (by decide))), fun h => (c6 (getD_ne h (by decide))), fun h => (c7 (getD_ne h (by decide))), fun h => (c8 (getD_ne h (by decide))), fun h => by obtain ⟨g, q1, q2, q3, q4⟩ := (c9 (getD_ne h (by decide))); exact ⟨g, q1, q2, q3, fun h5 => q4 (getD_ne h5 (by decide))⟩, fun h => getD_set_true (c10 (getD_ne h (by decide))), fun h => (c11 (getD_ne h (by decide)))⟩)
    · -- 5
      obtain rfl := c2 (by have hd := ready_deps hi (o := _) rfl; exact hd ⟨2, .data⟩ (by simp) (by rfl))
      obtain rfl := c4 (by have hd := ready_deps hi (o := _) rfl; exact hd ⟨4, .data⟩ (by simp) (by rfl))
      have CC := HCT.out W wA
      refine wpOp_step rfl (fun K' hK' => ?_)
      have HK : Hid (∀ a w, K a w → K' a w) := hK'
      have HK2 : Hid (type_of% hK) := hK
      clear hK hK'
      go_simp
      go_at_call 102
      refine CC.mono ?_
      rintro r W9 ⟨rfl, hb⟩
      (try go_simp)
      exact HK.out _ _ (HK2.out _ _ ⟨by simp [hls], _, _, _, _, _, _, _, _, _, _, _, rfl, wA.trans (hb.mono wA.size), fun h => (c0 (getD_ne h (by decide))), fun h => (c1 (getD_ne h (by decide))), fun h => (c2 (getD_ne h (by decide))), fun h => (c3 (getD_ne h (by decide))), fun h => (c4 (getD_ne h (by decide))), fun _ => rfl, fun h => (c6 (getD_ne h (by decide))), fun h => (c7 (getD_ne h (by decide))), fun h => (c8 (getD_ne h (by decide))), fun h => by obtain ⟨g, q1, q2, ⟨x0, x1, x2, q3⟩, q4⟩ := (c9 (getD_ne h (by decide))); exact ⟨g, q1, q2, ⟨x0, x1, x2, q3.below hb⟩, fun h5 => (q4 (getD_ne h5 (by decide))).below hb⟩, fun h => getD_set_true (c10 (getD_ne h (by decide))), fun h => (c11 (getD_ne h (by decide)))⟩)
    · -- 6
      obtain rfl := c5 (by have hd := ready_deps hi (o := _) rfl; exact hd ⟨5, .data⟩ (by simp) (by rfl))
      refine wpOp_step rfl (fun K' hK' => ?_)
      have HK : Hid (∀ a w, K a w → K' a w) := hK'
      have HK2 : Hid (type_of% hK) := hK
      clear hK hK'
      go_simp
      exact HK.out _ _ (HK2.out _ _ ⟨by simp [hls], _, _, _, _, _, _, _, _, _, _, _, rfl, wA, fun h => (c0 (getD_ne h (by decide))), fun h => (c1 (getD_ne h (by decide))), fun h => (c2 (getD_ne h (by decide))), fun h => (c3 (getD_ne h (by decide))), fun h => (c4 (getD_ne h (by decide))), fun h => (c5 (getD_ne h (by decide))), fun _ => rfl, fun h => (c7 (getD_ne h (by decide))), fun h => (c8 (getD_ne h (by decide))), fun h => by obtain ⟨g, q1, q2, q3, q4⟩ := (c9 (getD_ne h (by decide))); exact ⟨g, q1, q2, q3, fun h5 => q4 (getD_ne h5 (by decide))⟩, fun h => getD_set_true (c10 (getD_ne h (by decide))), fun h => (c11 (getD_ne h (by decide)))⟩)
    · -- 7
      obtain rfl := c6 (by have hd := ready_deps hi (o := _) rfl; exact hd ⟨6, .data⟩ (by simp) (by rfl))
      refine wpOp_step rfl (fun K' hK' => ?_)
      have HK : Hid (∀ a w, K a w → K' a w) := hK'
      have HK2 : Hid (type_of% hK) := hK
      clear hK hK'
      go_simp
      exact HK.out _ _ (HK2.out _ _ ⟨by simp [hls], _, _, _, _, _, _, _, _, _, _, _, rfl, wA, fun h => (c0 (getD_ne h (by decide))), fun h => (c1 (getD_ne h (by decide))), fun h => (c2 (getD_ne h (by decide))), fun h => (c3 (getD_ne h (by decide))), fun h => (c4 (getD_ne h (by decide))), fun h => (c5 (getD_ne h (by decide))), fun h => (c6 (getD_ne h (by decide))), fun _ => rfl, fun h => (c8 (getD_ne h (by decide))), fun h => by obtain ⟨g, q1, q2, q3, q4⟩ := (c9 (getD_ne h (by decide))); exact ⟨g, q1, q2, q3, fun h5 => q4 (getD_ne h5 (by decide))⟩, fun h => getD_set_true (c10 (getD_ne h (by decide))), fun h => (c11 (getD_ne h (by decide)))⟩)
    · -- 8
      obtain rfl := c6 (by have hd := ready_deps hi (o := _) rfl; exact hd ⟨6, .data⟩ (by simp) (by rfl))
      refine wpOp_step rfl (fun K' hK' => ?_)
      have HK : Hid (∀ a w, K a w → K' a w) := hK'
      have HK2 : Hid (type_of% hK) := hK
      clear hK hK'
      go_simp
      exact HK.out _ _ (HK2.out _ _ ⟨by simp [hls], _, _, _, _, _, _, _, _, _, _, _, rfl, wA, fun h => (c0 (getD_ne h (by decide))), fun h => (c1 (getD_ne h (by decide))), fun h => (c2 (getD_ne h (by decide))), fun h => (c3 (getD_ne h (by decide))), fun h => (c4 (getD_ne h (by decide))), fun h => (c5 (getD_ne h (by decide))), fun h => (c6 (getD_ne h (by decide))), fun h => (c7 (getD_ne h (by decide))), fun _ => rfl, fun h => by obtain ⟨g, q1, q2, q3, q4⟩ := (c9 (getD_ne h (by decide))); exact ⟨g, q1, q2, q3, fun h5 => q4 (getD_ne h5 (by decide))⟩, fun h => getD_set_true (c10 (getD_ne h (by decide))), fun h => (c11 (getD_ne h (by decide)))⟩)
    · -- 9
      have hoff := ready_off hi (by omega)
      refine wpOp_step rfl (fun K' hK' => ?_)
      have HK : Hid (∀ a w, K a w → K' a w) := hK'
      have HK2 : Hid (type_of% hK) := hK
      clear hK hK'
      go_simp
      exact HK.out _ _ (HK2.out _ _ ⟨by simp [hls], _, _, _, _, _, _, _, _, _, _, _, rfl, wA.alloc wA.size _, fun h => (c0 (getD_ne h (by decide))), fun h => (c1 (getD_ne h (by decide))), fun h => (c2 (getD_ne h (by decide))), fun h => (c3 (getD_ne h (by decide))), fun h => (c4 (getD_ne h (by decide))), fun h => (c5 (getD_ne h (by decide))), fun h => (c6 (getD_ne h (by decide))), fun h => (c7 (getD_ne h (by decide))), fun h => (c8 (getD_ne h (by decide))), fun _ => ⟨W.heap.size, rfl, wA.size, ⟨_, _, _, Bz.fresh W _ _ _ _⟩, fun h5 => absurd (c10 (getD_ne h5 (by decide))) (by rw [hoff]; decide)⟩, fun h => getD_set_true (c10 (getD_ne h (by decide))), fun h => (c11 (getD_ne h (by decide)))⟩)
    · -- 10
      have D9 : Hid (l.getD 9 false = true) := (by have hd := ready_deps hi (o := _) rfl; exact hd ⟨9, .data⟩ (by simp) (by rfl))
      obtain ⟨g, q1, q2, ⟨x0, x1, x2, q3⟩, q4⟩ := c9 D9.out
      subst q1
      obtain rfl := c7 (by have hd := ready_deps hi (o := _) rfl; exact hd ⟨7, .data⟩ (by simp) (by rfl))
      have y0 := q3.c0
      have z0 := q3.f0
      have y1 := q3.c1
      have z1 := q3.f1
      have y2 := q3.c2
      have z2 := q3.f2
      refine wpOp_step rfl (fun K' hK' => ?_)
      have HK : Hid (∀ a w, K a w → K' a w) := hK'
      have HK2 : Hid (type_of% hK) := hK
      clear hK hK'
      go_simp
      exact HK.out _ _ (HK2.out _ _ ⟨by simp [hls], _, _, _, _, _, _, _, _, _, _, _, rfl, Below.sets3 wA q2, fun h => (c0 (getD_ne h (by decide))), fun h => (c1 (getD_ne h (by decide))), fun h => (c2 (getD_ne h (by decide))), fun h => (c3 (getD_ne h (by decide))), fun h => (c4 (getD_ne h (by decide))), fun h => (c5 (getD_ne h (by decide))), fun h => (c6 (getD_ne h (by decide))), fun h => (c7 (getD_ne h (by decide))), fun h => (c8 (getD_ne h (by decide))), fun _ => ⟨g, rfl, q2, ⟨_, _, _, q3.sets⟩, fun _ => q3.sets⟩, fun _ => getD_set_true D9.out, fun h => (c11 (getD_ne h (by decide)))⟩)
    · -- 11
      obtain rfl := c8 (by have hd := ready_deps hi (o := _) rfl; exact hd ⟨8, .data⟩ (by simp) (by rfl))
      refine wpOp_step rfl (fun K' hK' => ?_)
      have HK : Hid (∀ a w, K a w → K' a w) := hK'
      have HK2 : Hid (type_of% hK) := hK
      clear hK hK'
      go_simp
      exact HK.out _ _ (HK2.out _ _ ⟨by simp [hls], _, _, _, _, _, _, _, _, _, _, _, rfl, wA, fun h => (c0 (getD_ne h (by decide))), fun h => (c1 (getD_ne h (by decide))), fun h => (c2 (getD_ne h (by decide))), fun h => (c3 (getD_ne h (by decide))), fun h => (c4 (getD_ne h (by decide))), fun h => (c5 (getD_ne h (by decide))), fun h => (c6 (getD_ne h (by decide))), fun h => (c7 (getD_ne h (by decide))), fun h => (c8 (getD_ne h (by decide))), fun h => by obtain ⟨g, q1, q2, q3, q4⟩ := (c9 (getD_ne h (by decide))); exact ⟨g, q1, q2, q3, fun h5 => q4 (getD_ne h5 (by decide))⟩, fun h => getD_set_true (c10 (getD_ne h (by decide))), fun _ => rfl⟩)

theorem step_any (s : Ses) (x : Sp) (e B : Nat) (vi vw va : Value) (w : World) (h : Ex w e B s vi vw va) (hg : Gd s) (ht : x.tx.size ≤ 9223372036854775807) :
    Calls Try.prog 74 #[.pointer (some ⟨e, 0, none⟩), .agg #[.int .i64 x.kind, .int .i64 x.kk, .string x.tx]] w fun r w' => r = .returned (.bool (stK s x)) ∧ ∃ v7 v8 v9, Ex w' e B (stS s x) v7 v8 v9 ∧ Tch w w' (PX e vi vw va) (PX e v7 v8 v9) := by
  have hS : ∀ b S, stK s x = b → (b = true → stS s x = S) → stS s x = if b = true then S else s := fun b S hb hs => by
    by_cases hq : b = true
    · rw [if_pos hq, hs hq]
    · rw [if_neg hq]
      unfold stS
      rw [if_pos (by rw [hb]; simpa using hq)]
  by_cases h1 : x.kind = 1
  · have hK : stK s x = pushK s x.tx := by unfold stK; rw [if_pos h1]
    have hs := hS _ (pushS s x.tx) hK (fun q => by unfold stS; rw [if_neg (by rw [hK, q]; decide)]; rw [if_pos h1])
    rw [hK, hs, h1]
    exact stepP s x e B vi vw va w h hg ht
  by_cases h2 : x.kind = 2
  · have hK : stK s x = sendK s x.kk := by unfold stK; rw [if_neg h1]; rw [if_pos h2]
    have hs := hS _ (sendS s x.kk) hK (fun q => by unfold stS; rw [if_neg (by rw [hK, q]; decide)]; rw [if_neg h1]; rw [if_pos h2])
    rw [hK, hs, h2]
    exact stepS s x e B vi vw va w h hg ht
  by_cases h3 : x.kind = 3
  · have hK : stK s x = inW s x.kk := by unfold stK; rw [if_neg h1]; rw [if_neg h2]; rw [if_pos h3]
    have hs := hS _ (takeS s x.kk) hK (fun q => by unfold stS; rw [if_neg (by rw [hK, q]; decide)]; rw [if_neg h1]; rw [if_neg h2]; rw [if_pos h3])
    rw [hK, hs, h3]
    exact stepT s x e B vi vw va w h hg ht
  by_cases h4 : x.kind = 4
  · have hK : stK s x = inW s x.kk := by unfold stK; rw [if_neg h1]; rw [if_neg h2]; rw [if_neg h3]; rw [if_pos h4]
    have hs := hS _ (loseS s x.kk) hK (fun q => by unfold stS; rw [if_neg (by rw [hK, q]; decide)]; rw [if_neg h1]; rw [if_neg h2]; rw [if_neg h3]; rw [if_pos h4])
    rw [hK, hs, h4]
    refine (stepL s x e B vi vw va w h hg ht).mono fun r w' hh => ?_
    obtain ⟨hr, v9, hD⟩ := hh
    exact ⟨hr, _, v9, _, hD.ex, hD.tc⟩
  by_cases h5 : x.kind = 5
  · have hK : stK s x = twiceK s x.kk := by unfold stK; rw [if_neg h1]; rw [if_neg h2]; rw [if_neg h3]; rw [if_neg h4]; rw [if_pos h5]
    have hs := hS _ (twiceS s x.kk) hK (fun q => by unfold stS; rw [if_neg (by rw [hK, q]; decide)]; rw [if_neg h1]; rw [if_neg h2]; rw [if_neg h3]; rw [if_neg h4]; rw [if_pos h5])
    rw [hK, hs, h5]
    refine (stepW s x e B vi vw va w h hg ht).mono fun r w' hh => ?_
    obtain ⟨hr, v9, hE, hT⟩ := hh
    exact ⟨hr, _, v9, _, hE, hT⟩
  by_cases h6 : x.kind = 6
  · have hK : stK s x = inA s x.kk := by unfold stK; rw [if_neg h1]; rw [if_neg h2]; rw [if_neg h3]; rw [if_neg h4]; rw [if_neg h5]; rw [if_pos h6]
    have hs := hS _ (ackS s x.kk) hK (fun q => by unfold stS; rw [if_neg (by rw [hK, q]; decide)]; rw [if_neg h1]; rw [if_neg h2]; rw [if_neg h3]; rw [if_neg h4]; rw [if_neg h5]; rw [if_pos h6])
    rw [hK, hs, h6]
    exact stepA s x e B vi vw va w h hg ht
  by_cases h7 : x.kind = 7
  · have hK : stK s x = cutK s := by unfold stK; rw [if_neg h1]; rw [if_neg h2]; rw [if_neg h3]; rw [if_neg h4]; rw [if_neg h5]; rw [if_neg h6]; rw [if_pos h7]
    have hs := hS _ (cutS s) hK (fun q => by unfold stS; rw [if_neg (by rw [hK, q]; decide)]; rw [if_neg h1]; rw [if_neg h2]; rw [if_neg h3]; rw [if_neg h4]; rw [if_neg h5]; rw [if_neg h6])
    rw [hK, hs, h7]
    exact stepC s x e B vi vw va w h hg ht
  have hK : stK s x = false := by unfold stK; rw [if_neg h1, if_neg h2, if_neg h3, if_neg h4, if_neg h5, if_neg h6, if_neg h7]
  have hs : stS s x = s := by unfold stS; rw [if_pos hK]
  rw [hK, hs]
  exact (stepN s x e B vi vw va w h hg ht h1 h2 h3 h4 h5 h6 h7).mono fun r w' hh => ⟨hh.1, _, _, _, hh.2.1, hh.2.2⟩

end Go.Proofs.Ytnlppeieccbhgaa
