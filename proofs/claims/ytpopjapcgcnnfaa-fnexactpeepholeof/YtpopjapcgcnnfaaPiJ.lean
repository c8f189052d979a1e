/- The program's dropSeek. -/
import Derived.Test.YtpopjapcgcnnfaaPiI
namespace Go.Proofs.Ytpopjapcgcnnfaa
open Go.RowKit Plain Sch Wan Prg

set_option maxRecDepth 100000 in
set_option maxHeartbeats 8000000 in
theorem dropSeek_any (L : List Ins) (i hb : Nat) (v : Value) (w : World) (hH : HSt w hb v L) (hg : gp L = true) (hi : i < L.length) :
    Calls Try.prog 101 #[.pointer (some ⟨hb, 0, none⟩), .int .i64 i] w (RuleOut w hb v (decide (isC L i)) (cutP L (i + 2) 1)) := by
  obtain ⟨h0, h60⟩ := gp_len hg
  obtain ⟨g, cap, rfl, hhg, hgw, hlc, hcm2⟩ := hH.form (by omega)
  have hcm3 : cap ≤ 9223372036854775807 := by unfold maxLen at hcm2; omega
  have HH : Hid (HSt w hb (.slice (some ⟨g, 0, none⟩) L.length cap) L) := hH
  have hc0 := hH.2.1
  have hb0 := hH.1
  have hil : (i : Int) < (L.length : Int) := by omega
  have hB1 : Below w.heap.size w (w.alloc (.cells #[.int .i64 1, .int .i64 2, .int .i64 1] 3)).drew := ((Below.refl _ w).alloc (Nat.le_refl _) _).drew
  have CH : Hid (Calls Try.prog 127 #[.pointer (some ⟨hb, 0, none⟩), .int .i64 i, .slice (some ⟨w.heap.size, 0, none⟩) 3 3] (w.alloc (.cells #[.int .i64 1, .int .i64 2, .int .i64 1] 3)).drew fun e w' => e = .returned (.bool (hasC L i [1, 2, 1])) ∧ w' = (w.alloc (.cells #[.int .i64 1, .int .i64 2, .int .i64 1] 3)).drew) := hasCodes_any L i [1, 2, 1] hb w.heap.size 3 _ (w.alloc (.cells #[.int .i64 1, .int .i64 2, .int .i64 1] 3)).drew (hH.below hB1) (by omega) h60 (by omega) (by simp) (by simp) (cells3 w 1 2 1) (by simp) (by omega)
  have CL : Hid (∀ (q : Int) (W : World), Below w.heap.size w W → Calls Try.prog 128 #[.pointer (some ⟨hb, 0, none⟩), .int .i64 q] W fun e w' => e = .returned (.bool (led L q)) ∧ Below W.heap.size W w') := fun q W hW => isLedTo_any L _ hb _ W (HH.out.below hW) h60 (gp_textsI hg)
  have HA : Hid (isC L i ↔ (hasC L i [1, 2, 1] = true ∧ (ins L (i + 2)).no = (ins L i).no ∧ led L ((i : Int) + 1) = false ∧ led L ((i : Int) + 2) = false)) := hasC_seeks
  have CD : Hid (∀ W : World, Below w.heap.size w W → isC L i → Calls Try.prog 129 #[.pointer (some ⟨hb, 0, none⟩), .int .i64 ((i : Int) + 2), .int .i64 1] W fun e w' => e = .returned (.tuple #[]) ∧ HOut W hb (.slice (some ⟨g, 0, none⟩) L.length cap) (cutP L (i + 2) 1) w') := fun W hW hC => by
    obtain ⟨a1, a2, a3, a4, a5, _⟩ := hC
    have hi2 := gp_next hg a2 (by omega)
    have := drop_any L (i + 2) 1 hb _ W (HH.out.below hW) (by omega) (by omega) h60 (fun j hj hjc => by obtain ⟨a, b, _⟩ := gp_jump hg hj hjc; omega)
    simpa using this
  have hHC : Hid (hasC L i [1, 2, 1] = true → i + 2 < L.length) := fun h => by
    unfold hasC at h
    simp only [Bool.and_eq_true, decide_eq_true_eq, List.length_cons, List.length_nil] at h
    omega
  have HI : Hid (∀ k, k < L.length → InsIn w g (k * 6) (ins L k)) := fun k hk => hH.ins hk
  have hi60 : (i : Int) + 2 ≤ 62 := by omega
  clear hH hg
  have CL1 : Hid (∀ W : World, Below w.heap.size w W → Calls Try.prog 128 #[.pointer (some ⟨hb, 0, none⟩), .int .i64 ((i : Int) + 1)] W fun e w' => e = .returned (.bool (led L ((i : Int) + 1))) ∧ Below W.heap.size W w') := CL.out _
  have CL2 : Hid (∀ W : World, Below w.heap.size w W → Calls Try.prog 128 #[.pointer (some ⟨hb, 0, none⟩), .int .i64 ((i : Int) + 2)] W fun e w' => e = .returned (.bool (led L ((i : Int) + 2))) ∧ Below W.heap.size W w') := CL.out _
  clear CL
  generalize led L ((i : Int) + 1) = l1 at CL1 HA
  generalize led L ((i : Int) + 2) = l2 at CL2 HA
  have hwB : IntKind.i64.wrap ((i : Int) + 2) = (i : Int) + 2 := by rw [IntKind.wrap_i64]; omega
  have h02 : (0 : Int) ≤ (i : Int) + 2 := by omega
  have hn2 : ((i : Int) + 2).toNat = i + 2 := by omega
  cases hc : hasC L i [1, 2, 1] with
  | false =>
    rw [hc] at CH
    have hF : Hid (decide (isC L i) = false) := by show _ = _; simp only [decide_eq_false_iff_not]; intro h; have := (HA.out.1 h).1; rw [hc] at this; cases this
    clear HA CL1 CL2 CD hHC HI hc
    have s0d : w.drew.cell? ⟨hb, 0, none⟩ = some (.slice (some ⟨g, 0, none⟩) L.length cap) := hc0
    have s1 : (w.alloc (.cells #[.int .i64 1, .int .i64 2, .int .i64 1] 3)).drew.cell? ⟨hb, 0, none⟩ = some (.slice (some ⟨g, 0, none⟩) L.length cap) := (((Below.refl w.heap.size w).alloc (Nat.le_refl _) _).drew.cell (p := ⟨hb, 0, none⟩) hb0).trans hc0
    go_enter Try.func101, Try.ntmps101
    go_wp2_with fail
    refine wp_region_held_drew (S := fun w' => w'.cell? ⟨hb, 0, none⟩ = some (.slice (some ⟨g, 0, none⟩) L.length cap)) (by kernel_rfl) ?_ (fun hHeld => ?_)
    · exact s0d
    refine wpAnyH_take (i := 0) (oi := { dst := some 5, op := Op.move (Operand.tmp 0), type := 144, pos := "l8_program.go:249", after := #[], guard := none }) (v := ?vq1) rfl (by kernel_rfl) (by kernel_rfl) (by kernel_rfl) (fun _ _ _ h => h) (Or.inl ⟨by rfl, ?hy1⟩) (by assumption) ?rest1
    case hy1 =>
      first
        | (intro w hSw; (try dsimp only at hSw); go_simp; done)
        | (intro w hSw; (try dsimp only at hSw); go_simp; with_reducible rfl)
        | (intro w hSw; (try dsimp only at hSw); go_simp; simp only [hwB, if_true, hnn]; done)
        | (intro w hSw; (try dsimp only at hSw); go_simp; simp only [hwB, if_true, hnn]; with_reducible rfl)
    try simp only [Act.put, List.setIfInBounds_toArray, List.set_cons_zero, List.set_cons_succ]
    refine wpAnyH_take (i := 1) (oi := { dst := some 6, op := Op.move (Operand.tmp 1), type := 3, pos := "l8_program.go:249", after := #[], guard := none }) (v := ?vq2) rfl (by kernel_rfl) (by kernel_rfl) (by kernel_rfl) (fun _ _ _ h => h) (Or.inl ⟨by rfl, ?hy2⟩) (by assumption) ?rest2
    case hy2 =>
      first
        | (intro w hSw; (try dsimp only at hSw); go_simp; done)
        | (intro w hSw; (try dsimp only at hSw); go_simp; with_reducible rfl)
        | (intro w hSw; (try dsimp only at hSw); go_simp; simp only [hwB, if_true, hnn]; done)
        | (intro w hSw; (try dsimp only at hSw); go_simp; simp only [hwB, if_true, hnn]; with_reducible rfl)
    try simp only [Act.put, List.setIfInBounds_toArray, List.set_cons_zero, List.set_cons_succ]
    refine wpAnyH_ready (rs := [2]) (by kernel_rfl) (by simp) ?_
    refine AllReadyH.cons (o := { dst := some 7, op := Op.buildSlice 67 3 #[(0, Operand.const (Value.int IntKind.i64 1)), (1, Operand.const (Value.int IntKind.i64 2)), (2, Operand.const (Value.int IntKind.i64 1))], type := 67, pos := "l8_program.go:249", after := #[], guard := none }) rfl (fun K hK => ?_) AllReadyH.nil
    go_simp
    refine hK.out _ _ ?_ (fun hHeld => ?_)
    · exact s1
    clear hK K
    try simp only [Act.put, List.setIfInBounds_toArray, List.set_cons_zero, List.set_cons_succ]
    refine wpAnyH_ready (rs := [3]) (by kernel_rfl) (by simp) ?_
    refine AllReadyH.cons (o := { dst := some 8, op := Op.call { callee := Callee.value (Operand.func 127), args := #[Operand.tmp 5, Operand.tmp 6, Operand.tmp 7], argTypes := #[144, 3, 67] }, type := 4, pos := "l8_program.go:249", after := #[{ on := 0, ground := Ground.data }, { on := 1, ground := Ground.data }, { on := 2, ground := Ground.data }], guard := none }) rfl (fun K hK => ?_) AllReadyH.nil
    go_simp
    refine CH.out.mono ?_
    rintro e w5 ⟨rfl, rfl⟩
    go_wp2_with fail
    refine hK.out _ _ ?_ (fun hHeld => ?_)
    · exact s1
    clear hK K
    try simp only [Act.put, List.setIfInBounds_toArray, List.set_cons_zero, List.set_cons_succ]
    refine wpAnyH_take (i := 4) (oi := { dst := some 9, op := Op.unOp UnOp.not 4 (Operand.tmp 8), type := 4, pos := "l8_program.go:249", after := #[{ on := 3, ground := Ground.data }], guard := none }) (v := ?vq3) rfl (by kernel_rfl) (by kernel_rfl) (by kernel_rfl) (fun _ _ _ h => h) (Or.inl ⟨by rfl, ?hy3⟩) (by assumption) ?rest3
    case hy3 =>
      first
        | (intro w hSw; (try dsimp only at hSw); go_simp; done)
        | (intro w hSw; (try dsimp only at hSw); go_simp; with_reducible rfl)
        | (intro w hSw; (try dsimp only at hSw); go_simp; simp only [hwB, if_true, hnn]; done)
        | (intro w hSw; (try dsimp only at hSw); go_simp; simp only [hwB, if_true, hnn]; with_reducible rfl)
    try simp only [Act.put, List.setIfInBounds_toArray, List.set_cons_zero, List.set_cons_succ]
    refine wpAnyH_take (i := 5) (oi := { dst := some 10, op := Op.move (Operand.tmp 9), type := 4, pos := "l8_program.go:249", after := #[{ on := 4, ground := Ground.data }, { on := 3, ground := Ground.chain }], guard := none }) (v := ?vq4) rfl (by kernel_rfl) (by kernel_rfl) (by kernel_rfl) (fun _ _ _ h => h) (Or.inl ⟨by rfl, ?hy4⟩) (by assumption) ?rest4
    case hy4 =>
      first
        | (intro w hSw; (try dsimp only at hSw); go_simp; done)
        | (intro w hSw; (try dsimp only at hSw); go_simp; with_reducible rfl)
        | (intro w hSw; (try dsimp only at hSw); go_simp; simp only [hwB, if_true, hnn]; done)
        | (intro w hSw; (try dsimp only at hSw); go_simp; simp only [hwB, if_true, hnn]; with_reducible rfl)
    try simp only [Act.put, List.setIfInBounds_toArray, List.set_cons_zero, List.set_cons_succ]
    refine wpAnyH_take (i := 6) (oi := { dst := some 11, op := Op.move (Operand.tmp 0), type := 144, pos := "l8_program.go:249", after := #[{ on := 5, ground := Ground.guard }], guard := some (5, false) }) (v := undef) rfl (by kernel_rfl) (by kernel_rfl) (by kernel_rfl) (fun _ _ _ h => h) (Or.inr ⟨by rfl, rfl⟩) (by assumption) ?_
    try simp only [Act.put, List.setIfInBounds_toArray, List.set_cons_zero, List.set_cons_succ]
    refine wpAnyH_take (i := 7) (oi := { dst := some 12, op := Op.nilCheck (Operand.tmp 11), type := 0, pos := "l8_program.go:249", after := #[{ on := 6, ground := Ground.data }, { on := 5, ground := Ground.guard }], guard := some (5, false) }) (v := undef) rfl (by kernel_rfl) (by kernel_rfl) (by kernel_rfl) (fun _ _ _ h => h) (Or.inr ⟨by rfl, rfl⟩) (by assumption) ?_
    try simp only [Act.put, List.setIfInBounds_toArray, List.set_cons_zero, List.set_cons_succ]
    refine wpAnyH_take (i := 8) (oi := { dst := some 13, op := Op.fieldAddr 93 (Operand.tmp 12) 0, type := 0, pos := "l8_program.go:249", after := #[{ on := 7, ground := Ground.data }, { on := 5, ground := Ground.guard }], guard := some (5, false) }) (v := undef) rfl (by kernel_rfl) (by kernel_rfl) (by kernel_rfl) (fun _ _ _ h => h) (Or.inr ⟨by rfl, rfl⟩) (by assumption) ?_
    try simp only [Act.put, List.setIfInBounds_toArray, List.set_cons_zero, List.set_cons_succ]
    refine wpAnyH_take (i := 9) (oi := { dst := some 14, op := Op.load 27 (Operand.tmp 13), type := 27, pos := "l8_program.go:249", after := #[{ on := 8, ground := Ground.data }, { on := 5, ground := Ground.guard }], guard := some (5, false) }) (v := undef) rfl (by kernel_rfl) (by kernel_rfl) (by kernel_rfl) (fun _ _ _ h => h) (Or.inr ⟨by rfl, rfl⟩) (by assumption) ?_
    try simp only [Act.put, List.setIfInBounds_toArray, List.set_cons_zero, List.set_cons_succ]
    refine wpAnyH_take (i := 10) (oi := { dst := some 15, op := Op.move (Operand.tmp 1), type := 3, pos := "l8_program.go:249", after := #[{ on := 5, ground := Ground.guard }], guard := some (5, false) }) (v := undef) rfl (by kernel_rfl) (by kernel_rfl) (by kernel_rfl) (fun _ _ _ h => h) (Or.inr ⟨by rfl, rfl⟩) (by assumption) ?_
    try simp only [Act.put, List.setIfInBounds_toArray, List.set_cons_zero, List.set_cons_succ]
    refine wpAnyH_take (i := 11) (oi := { dst := some 16, op := Op.indexAddr 27 (Operand.tmp 14) (Operand.tmp 15), type := 0, pos := "l8_program.go:249", after := #[{ on := 9, ground := Ground.data }, { on := 10, ground := Ground.data }, { on := 5, ground := Ground.guard }], guard := some (5, false) }) (v := undef) rfl (by kernel_rfl) (by kernel_rfl) (by kernel_rfl) (fun _ _ _ h => h) (Or.inr ⟨by rfl, rfl⟩) (by assumption) ?_
    try simp only [Act.put, List.setIfInBounds_toArray, List.set_cons_zero, List.set_cons_succ]
    refine wpAnyH_take (i := 12) (oi := { dst := some 17, op := Op.fieldAddr 76 (Operand.tmp 16) 2, type := 0, pos := "l8_program.go:249", after := #[{ on := 11, ground := Ground.data }, { on := 5, ground := Ground.guard }], guard := some (5, false) }) (v := undef) rfl (by kernel_rfl) (by kernel_rfl) (by kernel_rfl) (fun _ _ _ h => h) (Or.inr ⟨by rfl, rfl⟩) (by assumption) ?_
    try simp only [Act.put, List.setIfInBounds_toArray, List.set_cons_zero, List.set_cons_succ]
    refine wpAnyH_take (i := 13) (oi := { dst := some 18, op := Op.load 3 (Operand.tmp 17), type := 3, pos := "l8_program.go:249", after := #[{ on := 12, ground := Ground.data }, { on := 5, ground := Ground.guard }], guard := some (5, false) }) (v := undef) rfl (by kernel_rfl) (by kernel_rfl) (by kernel_rfl) (fun _ _ _ h => h) (Or.inr ⟨by rfl, rfl⟩) (by assumption) ?_
    try simp only [Act.put, List.setIfInBounds_toArray, List.set_cons_zero, List.set_cons_succ]
    refine wpAnyH_take (i := 14) (oi := { dst := some 19, op := Op.move (Operand.tmp 0), type := 144, pos := "l8_program.go:249", after := #[{ on := 5, ground := Ground.guard }], guard := some (5, false) }) (v := undef) rfl (by kernel_rfl) (by kernel_rfl) (by kernel_rfl) (fun _ _ _ h => h) (Or.inr ⟨by rfl, rfl⟩) (by assumption) ?_
    try simp only [Act.put, List.setIfInBounds_toArray, List.set_cons_zero, List.set_cons_succ]
    refine wpAnyH_take (i := 15) (oi := { dst := some 20, op := Op.nilCheck (Operand.tmp 19), type := 0, pos := "l8_program.go:249", after := #[{ on := 14, ground := Ground.data }, { on := 5, ground := Ground.guard }], guard := some (5, false) }) (v := undef) rfl (by kernel_rfl) (by kernel_rfl) (by kernel_rfl) (fun _ _ _ h => h) (Or.inr ⟨by rfl, rfl⟩) (by assumption) ?_
    try simp only [Act.put, List.setIfInBounds_toArray, List.set_cons_zero, List.set_cons_succ]
    refine wpAnyH_take (i := 16) (oi := { dst := some 21, op := Op.fieldAddr 93 (Operand.tmp 20) 0, type := 0, pos := "l8_program.go:249", after := #[{ on := 15, ground := Ground.data }, { on := 5, ground := Ground.guard }], guard := some (5, false) }) (v := undef) rfl (by kernel_rfl) (by kernel_rfl) (by kernel_rfl) (fun _ _ _ h => h) (Or.inr ⟨by rfl, rfl⟩) (by assumption) ?_
    try simp only [Act.put, List.setIfInBounds_toArray, List.set_cons_zero, List.set_cons_succ]
    refine wpAnyH_take (i := 17) (oi := { dst := some 22, op := Op.load 27 (Operand.tmp 21), type := 27, pos := "l8_program.go:249", after := #[{ on := 16, ground := Ground.data }, { on := 5, ground := Ground.guard }], guard := some (5, false) }) (v := undef) rfl (by kernel_rfl) (by kernel_rfl) (by kernel_rfl) (fun _ _ _ h => h) (Or.inr ⟨by rfl, rfl⟩) (by assumption) ?_
    try simp only [Act.put, List.setIfInBounds_toArray, List.set_cons_zero, List.set_cons_succ]
    refine wpAnyH_take (i := 18) (oi := { dst := some 23, op := Op.move (Operand.tmp 1), type := 3, pos := "l8_program.go:249", after := #[{ on := 5, ground := Ground.guard }], guard := some (5, false) }) (v := undef) rfl (by kernel_rfl) (by kernel_rfl) (by kernel_rfl) (fun _ _ _ h => h) (Or.inr ⟨by rfl, rfl⟩) (by assumption) ?_
    try simp only [Act.put, List.setIfInBounds_toArray, List.set_cons_zero, List.set_cons_succ]
    refine wpAnyH_take (i := 19) (oi := { dst := some 24, op := Op.binOp BinOp.add 3 (Operand.tmp 23) (Operand.const (Value.int IntKind.i64 2)) 3, type := 3, pos := "l8_program.go:249", after := #[{ on := 18, ground := Ground.data }, { on := 5, ground := Ground.guard }], guard := some (5, false) }) (v := undef) rfl (by kernel_rfl) (by kernel_rfl) (by kernel_rfl) (fun _ _ _ h => h) (Or.inr ⟨by rfl, rfl⟩) (by assumption) ?_
    try simp only [Act.put, List.setIfInBounds_toArray, List.set_cons_zero, List.set_cons_succ]
    refine wpAnyH_take (i := 20) (oi := { dst := some 25, op := Op.indexAddr 27 (Operand.tmp 22) (Operand.tmp 24), type := 0, pos := "l8_program.go:249", after := #[{ on := 17, ground := Ground.data }, { on := 19, ground := Ground.data }, { on := 5, ground := Ground.guard }], guard := some (5, false) }) (v := undef) rfl (by kernel_rfl) (by kernel_rfl) (by kernel_rfl) (fun _ _ _ h => h) (Or.inr ⟨by rfl, rfl⟩) (by assumption) ?_
    try simp only [Act.put, List.setIfInBounds_toArray, List.set_cons_zero, List.set_cons_succ]
    refine wpAnyH_take (i := 21) (oi := { dst := some 26, op := Op.fieldAddr 76 (Operand.tmp 25) 2, type := 0, pos := "l8_program.go:249", after := #[{ on := 20, ground := Ground.data }, { on := 5, ground := Ground.guard }], guard := some (5, false) }) (v := undef) rfl (by kernel_rfl) (by kernel_rfl) (by kernel_rfl) (fun _ _ _ h => h) (Or.inr ⟨by rfl, rfl⟩) (by assumption) ?_
    try simp only [Act.put, List.setIfInBounds_toArray, List.set_cons_zero, List.set_cons_succ]
    refine wpAnyH_take (i := 22) (oi := { dst := some 27, op := Op.load 3 (Operand.tmp 26), type := 3, pos := "l8_program.go:249", after := #[{ on := 21, ground := Ground.data }, { on := 5, ground := Ground.guard }], guard := some (5, false) }) (v := undef) rfl (by kernel_rfl) (by kernel_rfl) (by kernel_rfl) (fun _ _ _ h => h) (Or.inr ⟨by rfl, rfl⟩) (by assumption) ?_
    try simp only [Act.put, List.setIfInBounds_toArray, List.set_cons_zero, List.set_cons_succ]
    refine wpAnyH_take (i := 23) (oi := { dst := some 28, op := Op.binOp BinOp.neq 3 (Operand.tmp 18) (Operand.tmp 27) 3, type := 4, pos := "l8_program.go:249", after := #[{ on := 13, ground := Ground.data }, { on := 22, ground := Ground.data }, { on := 5, ground := Ground.guard }], guard := some (5, false) }) (v := undef) rfl (by kernel_rfl) (by kernel_rfl) (by kernel_rfl) (fun _ _ _ h => h) (Or.inr ⟨by rfl, rfl⟩) (by assumption) ?_
    try simp only [Act.put, List.setIfInBounds_toArray, List.set_cons_zero, List.set_cons_succ]
    refine wpAnyH_take (i := 24) (oi := { dst := some 29, op := Op.pick (Operand.tmp 10) (Operand.const (Value.bool true)) (Operand.tmp 28), type := 4, pos := "l8_program.go:249", after := #[{ on := 5, ground := Ground.data }, { on := 23, ground := Ground.data }], guard := none }) (v := ?vq5) rfl (by kernel_rfl) (by kernel_rfl) (by kernel_rfl) (fun _ _ _ h => h) (Or.inl ⟨by rfl, ?hy5⟩) (by assumption) ?rest5
    case hy5 =>
      first
        | (intro w hSw; (try dsimp only at hSw); go_simp; done)
        | (intro w hSw; (try dsimp only at hSw); go_simp; with_reducible rfl)
        | (intro w hSw; (try dsimp only at hSw); go_simp; simp only [hwB, if_true, hnn]; done)
        | (intro w hSw; (try dsimp only at hSw); go_simp; simp only [hwB, if_true, hnn]; with_reducible rfl)
    try simp only [Act.put, List.setIfInBounds_toArray, List.set_cons_zero, List.set_cons_succ]
    refine wpAnyH_done (by kernel_rfl) ?_ _
    go_wp2
    go_ret
    exact .inr ⟨hF.out, rfl, hB1⟩
  | true =>
    rw [hc] at CH
    have hi2 := hHC.out hc
    have hil2 : (i : Int) + 2 < (L.length : Int) := by omega
    have m0 := (HI.out i hi).2.2.1
    have m2 := (HI.out (i + 2) hi2).2.2.1
    have HA2 : Hid (isC L i ↔ ((ins L (i + 2)).no = (ins L i).no ∧ l1 = false ∧ l2 = false)) := HA.out.trans ⟨fun h => h.2, fun h => ⟨hc, h⟩⟩
    clear HA hHC HI hc
    generalize (ins L (i + 2)).no = n2 at m2 HA2
    generalize (ins L i).no = n0 at m0 HA2
    have s0d : w.drew.cell? ⟨hb, 0, none⟩ = some (.slice (some ⟨g, 0, none⟩) L.length cap) ∧ w.drew.cell? ⟨g, i * 6 + 2, none⟩ = some (.int .i64 n0) ∧ w.drew.cell? ⟨g, (i + 2) * 6 + 2, none⟩ = some (.int .i64 n2) := ⟨hc0, m0, m2⟩
    have s1 : (w.alloc (.cells #[.int .i64 1, .int .i64 2, .int .i64 1] 3)).drew.cell? ⟨hb, 0, none⟩ = some (.slice (some ⟨g, 0, none⟩) L.length cap) ∧ (w.alloc (.cells #[.int .i64 1, .int .i64 2, .int .i64 1] 3)).drew.cell? ⟨g, i * 6 + 2, none⟩ = some (.int .i64 n0) ∧ (w.alloc (.cells #[.int .i64 1, .int .i64 2, .int .i64 1] 3)).drew.cell? ⟨g, (i + 2) * 6 + 2, none⟩ = some (.int .i64 n2) := ⟨(((Below.refl w.heap.size w).alloc (Nat.le_refl _) _).drew.cell (p := ⟨hb, 0, none⟩) hb0).trans hc0, (((Below.refl w.heap.size w).alloc (Nat.le_refl _) _).drew.cell (p := ⟨g, i * 6 + 2, none⟩) hgw).trans m0, (((Below.refl w.heap.size w).alloc (Nat.le_refl _) _).drew.cell (p := ⟨g, (i + 2) * 6 + 2, none⟩) hgw).trans m2⟩
    by_cases hnn0 : n2 = n0
    · subst hnn0
      have hnn : (n2 != n2) = false := by simp
      go_enter Try.func101, Try.ntmps101
      go_wp2_with fail
      refine wp_region_held_drew (S := fun w' => w'.cell? ⟨hb, 0, none⟩ = some (.slice (some ⟨g, 0, none⟩) L.length cap) ∧ w'.cell? ⟨g, i * 6 + 2, none⟩ = some (.int .i64 n2) ∧ w'.cell? ⟨g, (i + 2) * 6 + 2, none⟩ = some (.int .i64 n2)) (by kernel_rfl) ?_ (fun hHeld => ?_)
      · exact s0d
      refine wpAnyH_take (i := 0) (oi := { dst := some 5, op := Op.move (Operand.tmp 0), type := 144, pos := "l8_program.go:249", after := #[], guard := none }) (v := ?vq6) rfl (by kernel_rfl) (by kernel_rfl) (by kernel_rfl) (fun _ _ _ h => h) (Or.inl ⟨by rfl, ?hy6⟩) (by assumption) ?rest6
      case hy6 =>
        first
          | (intro w hSw; (try dsimp only at hSw); go_simp; done)
          | (intro w hSw; (try dsimp only at hSw); go_simp; with_reducible rfl)
          | (intro w hSw; (try dsimp only at hSw); go_simp; simp only [hwB, if_true, hnn]; done)
          | (intro w hSw; (try dsimp only at hSw); go_simp; simp only [hwB, if_true, hnn]; with_reducible rfl)
      try simp only [Act.put, List.setIfInBounds_toArray, List.set_cons_zero, List.set_cons_succ]
      refine wpAnyH_take (i := 1) (oi := { dst := some 6, op := Op.move (Operand.tmp 1), type := 3, pos := "l8_program.go:249", after := #[], guard := none }) (v := ?vq7) rfl (by kernel_rfl) (by kernel_rfl) (by kernel_rfl) (fun _ _ _ h => h) (Or.inl ⟨by rfl, ?hy7⟩) (by assumption) ?rest7
      case hy7 =>
        first
          | (intro w hSw; (try dsimp only at hSw); go_simp; done)
          | (intro w hSw; (try dsimp only at hSw); go_simp; with_reducible rfl)
          | (intro w hSw; (try dsimp only at hSw); go_simp; simp only [hwB, if_true, hnn]; done)
          | (intro w hSw; (try dsimp only at hSw); go_simp; simp only [hwB, if_true, hnn]; with_reducible rfl)
      try simp only [Act.put, List.setIfInBounds_toArray, List.set_cons_zero, List.set_cons_succ]
      refine wpAnyH_ready (rs := [2]) (by kernel_rfl) (by simp) ?_
      refine AllReadyH.cons (o := { dst := some 7, op := Op.buildSlice 67 3 #[(0, Operand.const (Value.int IntKind.i64 1)), (1, Operand.const (Value.int IntKind.i64 2)), (2, Operand.const (Value.int IntKind.i64 1))], type := 67, pos := "l8_program.go:249", after := #[], guard := none }) rfl (fun K hK => ?_) AllReadyH.nil
      go_simp
      refine hK.out _ _ ?_ (fun hHeld => ?_)
      · exact s1
      clear hK K
      try simp only [Act.put, List.setIfInBounds_toArray, List.set_cons_zero, List.set_cons_succ]
      refine wpAnyH_ready (rs := [3]) (by kernel_rfl) (by simp) ?_
      refine AllReadyH.cons (o := { dst := some 8, op := Op.call { callee := Callee.value (Operand.func 127), args := #[Operand.tmp 5, Operand.tmp 6, Operand.tmp 7], argTypes := #[144, 3, 67] }, type := 4, pos := "l8_program.go:249", after := #[{ on := 0, ground := Ground.data }, { on := 1, ground := Ground.data }, { on := 2, ground := Ground.data }], guard := none }) rfl (fun K hK => ?_) AllReadyH.nil
      go_simp
      refine CH.out.mono ?_
      rintro e w5 ⟨rfl, rfl⟩
      go_wp2_with fail
      refine hK.out _ _ ?_ (fun hHeld => ?_)
      · exact s1
      clear hK K
      try simp only [Act.put, List.setIfInBounds_toArray, List.set_cons_zero, List.set_cons_succ]
      refine wpAnyH_take (i := 4) (oi := { dst := some 9, op := Op.unOp UnOp.not 4 (Operand.tmp 8), type := 4, pos := "l8_program.go:249", after := #[{ on := 3, ground := Ground.data }], guard := none }) (v := ?vq8) rfl (by kernel_rfl) (by kernel_rfl) (by kernel_rfl) (fun _ _ _ h => h) (Or.inl ⟨by rfl, ?hy8⟩) (by assumption) ?rest8
      case hy8 =>
        first
          | (intro w hSw; (try dsimp only at hSw); go_simp; done)
          | (intro w hSw; (try dsimp only at hSw); go_simp; with_reducible rfl)
          | (intro w hSw; (try dsimp only at hSw); go_simp; simp only [hwB, if_true, hnn]; done)
          | (intro w hSw; (try dsimp only at hSw); go_simp; simp only [hwB, if_true, hnn]; with_reducible rfl)
      try simp only [Act.put, List.setIfInBounds_toArray, List.set_cons_zero, List.set_cons_succ]
      refine wpAnyH_take (i := 5) (oi := { dst := some 10, op := Op.move (Operand.tmp 9), type := 4, pos := "l8_program.go:249", after := #[{ on := 4, ground := Ground.data }, { on := 3, ground := Ground.chain }], guard := none }) (v := ?vq9) rfl (by kernel_rfl) (by kernel_rfl) (by kernel_rfl) (fun _ _ _ h => h) (Or.inl ⟨by rfl, ?hy9⟩) (by assumption) ?rest9
      case hy9 =>
        first
          | (intro w hSw; (try dsimp only at hSw); go_simp; done)
          | (intro w hSw; (try dsimp only at hSw); go_simp; with_reducible rfl)
          | (intro w hSw; (try dsimp only at hSw); go_simp; simp only [hwB, if_true, hnn]; done)
          | (intro w hSw; (try dsimp only at hSw); go_simp; simp only [hwB, if_true, hnn]; with_reducible rfl)
      try simp only [Act.put, List.setIfInBounds_toArray, List.set_cons_zero, List.set_cons_succ]
      refine wpAnyH_take (i := 6) (oi := { dst := some 11, op := Op.move (Operand.tmp 0), type := 144, pos := "l8_program.go:249", after := #[{ on := 5, ground := Ground.guard }], guard := some (5, false) }) (v := ?vq10) rfl (by kernel_rfl) (by kernel_rfl) (by kernel_rfl) (fun _ _ _ h => h) (Or.inl ⟨by rfl, ?hy10⟩) (by assumption) ?rest10
      case hy10 =>
        first
          | (intro w hSw; (try dsimp only at hSw); go_simp; done)
          | (intro w hSw; (try dsimp only at hSw); go_simp; with_reducible rfl)
          | (intro w hSw; (try dsimp only at hSw); go_simp; simp only [hwB, if_true, hnn]; done)
          | (intro w hSw; (try dsimp only at hSw); go_simp; simp only [hwB, if_true, hnn]; with_reducible rfl)
      try simp only [Act.put, List.setIfInBounds_toArray, List.set_cons_zero, List.set_cons_succ]
      refine wpAnyH_take (i := 7) (oi := { dst := some 12, op := Op.nilCheck (Operand.tmp 11), type := 0, pos := "l8_program.go:249", after := #[{ on := 6, ground := Ground.data }, { on := 5, ground := Ground.guard }], guard := some (5, false) }) (v := ?vq11) rfl (by kernel_rfl) (by kernel_rfl) (by kernel_rfl) (fun _ _ _ h => h) (Or.inl ⟨by rfl, ?hy11⟩) (by assumption) ?rest11
      case hy11 =>
        first
          | (intro w hSw; (try dsimp only at hSw); go_simp; done)
          | (intro w hSw; (try dsimp only at hSw); go_simp; with_reducible rfl)
          | (intro w hSw; (try dsimp only at hSw); go_simp; simp only [hwB, if_true, hnn]; done)
          | (intro w hSw; (try dsimp only at hSw); go_simp; simp only [hwB, if_true, hnn]; with_reducible rfl)
      try simp only [Act.put, List.setIfInBounds_toArray, List.set_cons_zero, List.set_cons_succ]
      refine wpAnyH_take (i := 8) (oi := { dst := some 13, op := Op.fieldAddr 93 (Operand.tmp 12) 0, type := 0, pos := "l8_program.go:249", after := #[{ on := 7, ground := Ground.data }, { on := 5, ground := Ground.guard }], guard := some (5, false) }) (v := ?vq12) rfl (by kernel_rfl) (by kernel_rfl) (by kernel_rfl) (fun _ _ _ h => h) (Or.inl ⟨by rfl, ?hy12⟩) (by assumption) ?rest12
      case hy12 =>
        first
          | (intro w hSw; (try dsimp only at hSw); go_simp; done)
          | (intro w hSw; (try dsimp only at hSw); go_simp; with_reducible rfl)
          | (intro w hSw; (try dsimp only at hSw); go_simp; simp only [hwB, if_true, hnn]; done)
          | (intro w hSw; (try dsimp only at hSw); go_simp; simp only [hwB, if_true, hnn]; with_reducible rfl)
      try simp only [Act.put, List.setIfInBounds_toArray, List.set_cons_zero, List.set_cons_succ]
      refine wpAnyH_take (i := 9) (oi := { dst := some 14, op := Op.load 27 (Operand.tmp 13), type := 27, pos := "l8_program.go:249", after := #[{ on := 8, ground := Ground.data }, { on := 5, ground := Ground.guard }], guard := some (5, false) }) (v := ?vq13) rfl (by kernel_rfl) (by kernel_rfl) (by kernel_rfl) (fun _ _ _ h => h) (Or.inl ⟨by rfl, ?hy13⟩) (by assumption) ?rest13
      case hy13 =>
        first
          | (intro w hSw; (try dsimp only at hSw); go_simp; done)
          | (intro w hSw; (try dsimp only at hSw); go_simp; with_reducible rfl)
          | (intro w hSw; (try dsimp only at hSw); go_simp; simp only [hwB, if_true, hnn]; done)
          | (intro w hSw; (try dsimp only at hSw); go_simp; simp only [hwB, if_true, hnn]; with_reducible rfl)
      try simp only [Act.put, List.setIfInBounds_toArray, List.set_cons_zero, List.set_cons_succ]
      refine wpAnyH_take (i := 10) (oi := { dst := some 15, op := Op.move (Operand.tmp 1), type := 3, pos := "l8_program.go:249", after := #[{ on := 5, ground := Ground.guard }], guard := some (5, false) }) (v := ?vq14) rfl (by kernel_rfl) (by kernel_rfl) (by kernel_rfl) (fun _ _ _ h => h) (Or.inl ⟨by rfl, ?hy14⟩) (by assumption) ?rest14
      case hy14 =>
        first
          | (intro w hSw; (try dsimp only at hSw); go_simp; done)
          | (intro w hSw; (try dsimp only at hSw); go_simp; with_reducible rfl)
          | (intro w hSw; (try dsimp only at hSw); go_simp; simp only [hwB, if_true, hnn]; done)
          | (intro w hSw; (try dsimp only at hSw); go_simp; simp only [hwB, if_true, hnn]; with_reducible rfl)
      try simp only [Act.put, List.setIfInBounds_toArray, List.set_cons_zero, List.set_cons_succ]
      refine wpAnyH_take (i := 11) (oi := { dst := some 16, op := Op.indexAddr 27 (Operand.tmp 14) (Operand.tmp 15), type := 0, pos := "l8_program.go:249", after := #[{ on := 9, ground := Ground.data }, { on := 10, ground := Ground.data }, { on := 5, ground := Ground.guard }], guard := some (5, false) }) (v := ?vq15) rfl (by kernel_rfl) (by kernel_rfl) (by kernel_rfl) (fun _ _ _ h => h) (Or.inl ⟨by rfl, ?hy15⟩) (by assumption) ?rest15
      case hy15 =>
        first
          | (intro w hSw; (try dsimp only at hSw); go_simp; done)
          | (intro w hSw; (try dsimp only at hSw); go_simp; with_reducible rfl)
          | (intro w hSw; (try dsimp only at hSw); go_simp; simp only [hwB, if_true, hnn]; done)
          | (intro w hSw; (try dsimp only at hSw); go_simp; simp only [hwB, if_true, hnn]; with_reducible rfl)
      try simp only [Act.put, List.setIfInBounds_toArray, List.set_cons_zero, List.set_cons_succ]
      refine wpAnyH_take (i := 12) (oi := { dst := some 17, op := Op.fieldAddr 76 (Operand.tmp 16) 2, type := 0, pos := "l8_program.go:249", after := #[{ on := 11, ground := Ground.data }, { on := 5, ground := Ground.guard }], guard := some (5, false) }) (v := ?vq16) rfl (by kernel_rfl) (by kernel_rfl) (by kernel_rfl) (fun _ _ _ h => h) (Or.inl ⟨by rfl, ?hy16⟩) (by assumption) ?rest16
      case hy16 =>
        first
          | (intro w hSw; (try dsimp only at hSw); go_simp; done)
          | (intro w hSw; (try dsimp only at hSw); go_simp; with_reducible rfl)
          | (intro w hSw; (try dsimp only at hSw); go_simp; simp only [hwB, if_true, hnn]; done)
          | (intro w hSw; (try dsimp only at hSw); go_simp; simp only [hwB, if_true, hnn]; with_reducible rfl)
      try simp only [Act.put, List.setIfInBounds_toArray, List.set_cons_zero, List.set_cons_succ]
      refine wpAnyH_take (i := 13) (oi := { dst := some 18, op := Op.load 3 (Operand.tmp 17), type := 3, pos := "l8_program.go:249", after := #[{ on := 12, ground := Ground.data }, { on := 5, ground := Ground.guard }], guard := some (5, false) }) (v := ?vq17) rfl (by kernel_rfl) (by kernel_rfl) (by kernel_rfl) (fun _ _ _ h => h) (Or.inl ⟨by rfl, ?hy17⟩) (by assumption) ?rest17
      case hy17 =>
        first
          | (intro w hSw; (try dsimp only at hSw); go_simp; done)
          | (intro w hSw; (try dsimp only at hSw); go_simp; with_reducible rfl)
          | (intro w hSw; (try dsimp only at hSw); go_simp; simp only [hwB, if_true, hnn]; done)
          | (intro w hSw; (try dsimp only at hSw); go_simp; simp only [hwB, if_true, hnn]; with_reducible rfl)
      try simp only [Act.put, List.setIfInBounds_toArray, List.set_cons_zero, List.set_cons_succ]
      refine wpAnyH_take (i := 14) (oi := { dst := some 19, op := Op.move (Operand.tmp 0), type := 144, pos := "l8_program.go:249", after := #[{ on := 5, ground := Ground.guard }], guard := some (5, false) }) (v := ?vq18) rfl (by kernel_rfl) (by kernel_rfl) (by kernel_rfl) (fun _ _ _ h => h) (Or.inl ⟨by rfl, ?hy18⟩) (by assumption) ?rest18
      case hy18 =>
        first
          | (intro w hSw; (try dsimp only at hSw); go_simp; done)
          | (intro w hSw; (try dsimp only at hSw); go_simp; with_reducible rfl)
          | (intro w hSw; (try dsimp only at hSw); go_simp; simp only [hwB, if_true, hnn]; done)
          | (intro w hSw; (try dsimp only at hSw); go_simp; simp only [hwB, if_true, hnn]; with_reducible rfl)
      try simp only [Act.put, List.setIfInBounds_toArray, List.set_cons_zero, List.set_cons_succ]
      refine wpAnyH_take (i := 15) (oi := { dst := some 20, op := Op.nilCheck (Operand.tmp 19), type := 0, pos := "l8_program.go:249", after := #[{ on := 14, ground := Ground.data }, { on := 5, ground := Ground.guard }], guard := some (5, false) }) (v := ?vq19) rfl (by kernel_rfl) (by kernel_rfl) (by kernel_rfl) (fun _ _ _ h => h) (Or.inl ⟨by rfl, ?hy19⟩) (by assumption) ?rest19
      case hy19 =>
        first
          | (intro w hSw; (try dsimp only at hSw); go_simp; done)
          | (intro w hSw; (try dsimp only at hSw); go_simp; with_reducible rfl)
          | (intro w hSw; (try dsimp only at hSw); go_simp; simp only [hwB, if_true, hnn]; done)
          | (intro w hSw; (try dsimp only at hSw); go_simp; simp only [hwB, if_true, hnn]; with_reducible rfl)
      try simp only [Act.put, List.setIfInBounds_toArray, List.set_cons_zero, List.set_cons_succ]
      refine wpAnyH_take (i := 16) (oi := { dst := some 21, op := Op.fieldAddr 93 (Operand.tmp 20) 0, type := 0, pos := "l8_program.go:249", after := #[{ on := 15, ground := Ground.data }, { on := 5, ground := Ground.guard }], guard := some (5, false) }) (v := ?vq20) rfl (by kernel_rfl) (by kernel_rfl) (by kernel_rfl) (fun _ _ _ h => h) (Or.inl ⟨by rfl, ?hy20⟩) (by assumption) ?rest20
      case hy20 =>
        first
          | (intro w hSw; (try dsimp only at hSw); go_simp; done)
          | (intro w hSw; (try dsimp only at hSw); go_simp; with_reducible rfl)
          | (intro w hSw; (try dsimp only at hSw); go_simp; simp only [hwB, if_true, hnn]; done)
          | (intro w hSw; (try dsimp only at hSw); go_simp; simp only [hwB, if_true, hnn]; with_reducible rfl)
      try simp only [Act.put, List.setIfInBounds_toArray, List.set_cons_zero, List.set_cons_succ]
      refine wpAnyH_take (i := 17) (oi := { dst := some 22, op := Op.load 27 (Operand.tmp 21), type := 27, pos := "l8_program.go:249", after := #[{ on := 16, ground := Ground.data }, { on := 5, ground := Ground.guard }], guard := some (5, false) }) (v := ?vq21) rfl (by kernel_rfl) (by kernel_rfl) (by kernel_rfl) (fun _ _ _ h => h) (Or.inl ⟨by rfl, ?hy21⟩) (by assumption) ?rest21
      case hy21 =>
        first
          | (intro w hSw; (try dsimp only at hSw); go_simp; done)
          | (intro w hSw; (try dsimp only at hSw); go_simp; with_reducible rfl)
          | (intro w hSw; (try dsimp only at hSw); go_simp; simp only [hwB, if_true, hnn]; done)
          | (intro w hSw; (try dsimp only at hSw); go_simp; simp only [hwB, if_true, hnn]; with_reducible rfl)
      try simp only [Act.put, List.setIfInBounds_toArray, List.set_cons_zero, List.set_cons_succ]
      refine wpAnyH_take (i := 18) (oi := { dst := some 23, op := Op.move (Operand.tmp 1), type := 3, pos := "l8_program.go:249", after := #[{ on := 5, ground := Ground.guard }], guard := some (5, false) }) (v := ?vq22) rfl (by kernel_rfl) (by kernel_rfl) (by kernel_rfl) (fun _ _ _ h => h) (Or.inl ⟨by rfl, ?hy22⟩) (by assumption) ?rest22
      case hy22 =>
        first
          | (intro w hSw; (try dsimp only at hSw); go_simp; done)
          | (intro w hSw; (try dsimp only at hSw); go_simp; with_reducible rfl)
          | (intro w hSw; (try dsimp only at hSw); go_simp; simp only [hwB, if_true, hnn]; done)
          | (intro w hSw; (try dsimp only at hSw); go_simp; simp only [hwB, if_true, hnn]; with_reducible rfl)
      try simp only [Act.put, List.setIfInBounds_toArray, List.set_cons_zero, List.set_cons_succ]
      refine wpAnyH_take (i := 19) (oi := { dst := some 24, op := Op.binOp BinOp.add 3 (Operand.tmp 23) (Operand.const (Value.int IntKind.i64 2)) 3, type := 3, pos := "l8_program.go:249", after := #[{ on := 18, ground := Ground.data }, { on := 5, ground := Ground.guard }], guard := some (5, false) }) (v := ?vq23) rfl (by kernel_rfl) (by kernel_rfl) (by kernel_rfl) (fun _ _ _ h => h) (Or.inl ⟨by rfl, ?hy23⟩) (by assumption) ?rest23
      case hy23 =>
        first
          | (intro w hSw; (try dsimp only at hSw); go_simp; done)
          | (intro w hSw; (try dsimp only at hSw); go_simp; with_reducible rfl)
          | (intro w hSw; (try dsimp only at hSw); go_simp; simp only [hwB, if_true, hnn]; done)
          | (intro w hSw; (try dsimp only at hSw); go_simp; simp only [hwB, if_true, hnn]; with_reducible rfl)
      try simp only [Act.put, List.setIfInBounds_toArray, List.set_cons_zero, List.set_cons_succ]
      refine wpAnyH_take (i := 20) (oi := { dst := some 25, op := Op.indexAddr 27 (Operand.tmp 22) (Operand.tmp 24), type := 0, pos := "l8_program.go:249", after := #[{ on := 17, ground := Ground.data }, { on := 19, ground := Ground.data }, { on := 5, ground := Ground.guard }], guard := some (5, false) }) (v := ?vq24) rfl (by kernel_rfl) (by kernel_rfl) (by kernel_rfl) (fun _ _ _ h => h) (Or.inl ⟨by rfl, ?hy24⟩) (by assumption) ?rest24
      case hy24 =>
        first
          | (intro w hSw; (try dsimp only at hSw); go_simp; done)
          | (intro w hSw; (try dsimp only at hSw); go_simp; with_reducible rfl)
          | (intro w hSw; (try dsimp only at hSw); go_simp; simp only [hwB, if_true, hnn]; done)
          | (intro w hSw; (try dsimp only at hSw); go_simp; simp only [hwB, if_true, hnn]; with_reducible rfl)
      try simp only [Act.put, List.setIfInBounds_toArray, List.set_cons_zero, List.set_cons_succ]
      refine wpAnyH_take (i := 21) (oi := { dst := some 26, op := Op.fieldAddr 76 (Operand.tmp 25) 2, type := 0, pos := "l8_program.go:249", after := #[{ on := 20, ground := Ground.data }, { on := 5, ground := Ground.guard }], guard := some (5, false) }) (v := ?vq25) rfl (by kernel_rfl) (by kernel_rfl) (by kernel_rfl) (fun _ _ _ h => h) (Or.inl ⟨by rfl, ?hy25⟩) (by assumption) ?rest25
      case hy25 =>
        first
          | (intro w hSw; (try dsimp only at hSw); go_simp; done)
          | (intro w hSw; (try dsimp only at hSw); go_simp; with_reducible rfl)
          | (intro w hSw; (try dsimp only at hSw); go_simp; simp only [hwB, if_true, hnn]; done)
          | (intro w hSw; (try dsimp only at hSw); go_simp; simp only [hwB, if_true, hnn]; with_reducible rfl)
      try simp only [Act.put, List.setIfInBounds_toArray, List.set_cons_zero, List.set_cons_succ]
      refine wpAnyH_take (i := 22) (oi := { dst := some 27, op := Op.load 3 (Operand.tmp 26), type := 3, pos := "l8_program.go:249", after := #[{ on := 21, ground := Ground.data }, { on := 5, ground := Ground.guard }], guard := some (5, false) }) (v := ?vq26) rfl (by kernel_rfl) (by kernel_rfl) (by kernel_rfl) (fun _ _ _ h => h) (Or.inl ⟨by rfl, ?hy26⟩) (by assumption) ?rest26
      case hy26 =>
        first
          | (intro w hSw; (try dsimp only at hSw); go_simp; done)
          | (intro w hSw; (try dsimp only at hSw); go_simp; with_reducible rfl)
          | (intro w hSw; (try dsimp only at hSw); go_simp; simp only [hwB, if_true, hnn]; done)
          | (intro w hSw; (try dsimp only at hSw); go_simp; simp only [hwB, if_true, hnn]; with_reducible rfl)
      try simp only [Act.put, List.setIfInBounds_toArray, List.set_cons_zero, List.set_cons_succ]
      refine wpAnyH_take (i := 23) (oi := { dst := some 28, op := Op.binOp BinOp.neq 3 (Operand.tmp 18) (Operand.tmp 27) 3, type := 4, pos := "l8_program.go:249", after := #[{ on := 13, ground := Ground.data }, { on := 22, ground := Ground.data }, { on := 5, ground := Ground.guard }], guard := some (5, false) }) (v := ?vq27) rfl (by kernel_rfl) (by kernel_rfl) (by kernel_rfl) (fun _ _ _ h => h) (Or.inl ⟨by rfl, ?hy27⟩) (by assumption) ?rest27
      case hy27 =>
        first
          | (intro w hSw; (try dsimp only at hSw); go_simp; done)
          | (intro w hSw; (try dsimp only at hSw); go_simp; with_reducible rfl)
          | (intro w hSw; (try dsimp only at hSw); go_simp; simp only [hwB, if_true, hnn]; done)
          | (intro w hSw; (try dsimp only at hSw); go_simp; simp only [hwB, if_true, hnn]; with_reducible rfl)
      try simp only [Act.put, List.setIfInBounds_toArray, List.set_cons_zero, List.set_cons_succ]
      refine wpAnyH_take (i := 24) (oi := { dst := some 29, op := Op.pick (Operand.tmp 10) (Operand.const (Value.bool true)) (Operand.tmp 28), type := 4, pos := "l8_program.go:249", after := #[{ on := 5, ground := Ground.data }, { on := 23, ground := Ground.data }], guard := none }) (v := ?vq28) rfl (by kernel_rfl) (by kernel_rfl) (by kernel_rfl) (fun _ _ _ h => h) (Or.inl ⟨by rfl, ?hy28⟩) (by assumption) ?rest28
      case hy28 =>
        first
          | (intro w hSw; (try dsimp only at hSw); go_simp; done)
          | (intro w hSw; (try dsimp only at hSw); go_simp; with_reducible rfl)
          | (intro w hSw; (try dsimp only at hSw); go_simp; simp only [hwB, if_true, hnn]; done)
          | (intro w hSw; (try dsimp only at hSw); go_simp; simp only [hwB, if_true, hnn]; with_reducible rfl)
      try simp only [Act.put, List.setIfInBounds_toArray, List.set_cons_zero, List.set_cons_succ]
      refine wpAnyH_done (by kernel_rfl) ?_ _
      clear s0d s1 m0 m2 hwB h02 hn2
      obtain ⟨W1, hW1⟩ : ∃ W, W = (w.alloc (.cells #[.int .i64 1, .int .i64 2, .int .i64 1] 3)).drew := ⟨_, rfl⟩
      rw [← hW1] at hB1 ⊢
      clear hW1 CH
      go_wp2_with fail
      refine (CL1.out _ hB1).mono ?_
      rintro e w3 ⟨rfl, hb3⟩
      have hB3 : Below w.heap.size w w3 := hB1.trans (hb3.mono hB1.size)
      clear hb3
      cases l1 with
      | true =>
        have hF : Hid (decide (isC L i) = false) := by show _ = _; simp only [decide_eq_false_iff_not]; intro h; have := HA2.out.1 h; simp at this
        clear HA2 CL1 CL2 CD
        go_wp2
        go_ret
        exact .inr ⟨hF.out, rfl, hB3⟩
      | false =>
        go_wp2_with fail
        refine (CL2.out _ hB3).mono ?_
        rintro e w4 ⟨rfl, hb4⟩
        have hB4 : Below w.heap.size w w4 := hB3.trans (hb4.mono hB3.size)
        clear hb4
        cases l2 with
        | true =>
          have hF : Hid (decide (isC L i) = false) := by show _ = _; simp only [decide_eq_false_iff_not]; intro h; have := HA2.out.1 h; simp at this
          clear HA2 CL1 CL2 CD
          go_wp2
          go_ret
          exact .inr ⟨hF.out, rfl, hB4⟩
        | false =>
          have hC : isC L i := HA2.out.2 (by simp)
          have hF : Hid (decide (isC L i) = true) := by show _ = _; simpa using hC
          have HCD : Hid (Calls Try.prog 129 #[.pointer (some ⟨hb, 0, none⟩), .int .i64 ((i : Int) + 2), .int .i64 1] w4 fun e w' => e = .returned (.tuple #[]) ∧ HOut w4 hb (.slice (some ⟨g, 0, none⟩) L.length cap) (cutP L (i + 2) 1) w') := CD.out w4 hB4 hC
          clear HA2 CL1 CL2 CD hC
          go_wp2_with fail
          refine HCD.out.mono ?_
          rintro e w5 ⟨rfl, ho5⟩
          have HO : Hid (HOut w hb (.slice (some ⟨g, 0, none⟩) L.length cap) (cutP L (i + 2) 1) w5) := ho5.from hB4
          clear ho5 HCD
          go_wp2
          go_ret
          exact .inl ⟨hF.out, rfl, HO.out⟩
    · have hnn : (n0 != n2) = true := by simp; exact fun e => hnn0 e.symm
      have hF : Hid (decide (isC L i) = false) := by show _ = _; simp only [decide_eq_false_iff_not]; intro h; exact hnn0 (HA2.out.1 h).1
      clear HA2 CL1 CL2 CD
      go_enter Try.func101, Try.ntmps101
      go_wp2_with fail
      refine wp_region_held_drew (S := fun w' => w'.cell? ⟨hb, 0, none⟩ = some (.slice (some ⟨g, 0, none⟩) L.length cap) ∧ w'.cell? ⟨g, i * 6 + 2, none⟩ = some (.int .i64 n0) ∧ w'.cell? ⟨g, (i + 2) * 6 + 2, none⟩ = some (.int .i64 n2)) (by kernel_rfl) ?_ (fun hHeld => ?_)
      · exact s0d
      refine wpAnyH_take (i := 0) (oi := { dst := some 5, op := Op.move (Operand.tmp 0), type := 144, pos := "l8_program.go:249", after := #[], guard := none }) (v := ?vq29) rfl (by kernel_rfl) (by kernel_rfl) (by kernel_rfl) (fun _ _ _ h => h) (Or.inl ⟨by rfl, ?hy29⟩) (by assumption) ?rest29
      case hy29 =>
        first
          | (intro w hSw; (try dsimp only at hSw); go_simp; done)
          | (intro w hSw; (try dsimp only at hSw); go_simp; with_reducible rfl)
          | (intro w hSw; (try dsimp only at hSw); go_simp; simp only [hwB, if_true, hnn]; done)
          | (intro w hSw; (try dsimp only at hSw); go_simp; simp only [hwB, if_true, hnn]; with_reducible rfl)
      try simp only [Act.put, List.setIfInBounds_toArray, List.set_cons_zero, List.set_cons_succ]
      refine wpAnyH_take (i := 1) (oi := { dst := some 6, op := Op.move (Operand.tmp 1), type := 3, pos := "l8_program.go:249", after := #[], guard := none }) (v := ?vq30) rfl (by kernel_rfl) (by kernel_rfl) (by kernel_rfl) (fun _ _ _ h => h) (Or.inl ⟨by rfl, ?hy30⟩) (by assumption) ?rest30
      case hy30 =>
        first
          | (intro w hSw; (try dsimp only at hSw); go_simp; done)
          | (intro w hSw; (try dsimp only at hSw); go_simp; with_reducible rfl)
          | (intro w hSw; (try dsimp only at hSw); go_simp; simp only [hwB, if_true, hnn]; done)
          | (intro w hSw; (try dsimp only at hSw); go_simp; simp only [hwB, if_true, hnn]; with_reducible rfl)
      try simp only [Act.put, List.setIfInBounds_toArray, List.set_cons_zero, List.set_cons_succ]
      refine wpAnyH_ready (rs := [2]) (by kernel_rfl) (by simp) ?_
      refine AllReadyH.cons (o := { dst := some 7, op := Op.buildSlice 67 3 #[(0, Operand.const (Value.int IntKind.i64 1)), (1, Operand.const (Value.int IntKind.i64 2)), (2, Operand.const (Value.int IntKind.i64 1))], type := 67, pos := "l8_program.go:249", after := #[], guard := none }) rfl (fun K hK => ?_) AllReadyH.nil
      go_simp
      refine hK.out _ _ ?_ (fun hHeld => ?_)
      · exact s1
      clear hK K
      try simp only [Act.put, List.setIfInBounds_toArray, List.set_cons_zero, List.set_cons_succ]
      refine wpAnyH_ready (rs := [3]) (by kernel_rfl) (by simp) ?_
      refine AllReadyH.cons (o := { dst := some 8, op := Op.call { callee := Callee.value (Operand.func 127), args := #[Operand.tmp 5, Operand.tmp 6, Operand.tmp 7], argTypes := #[144, 3, 67] }, type := 4, pos := "l8_program.go:249", after := #[{ on := 0, ground := Ground.data }, { on := 1, ground := Ground.data }, { on := 2, ground := Ground.data }], guard := none }) rfl (fun K hK => ?_) AllReadyH.nil
      go_simp
      refine CH.out.mono ?_
      rintro e w5 ⟨rfl, rfl⟩
      go_wp2_with fail
      refine hK.out _ _ ?_ (fun hHeld => ?_)
      · exact s1
      clear hK K
      try simp only [Act.put, List.setIfInBounds_toArray, List.set_cons_zero, List.set_cons_succ]
      refine wpAnyH_take (i := 4) (oi := { dst := some 9, op := Op.unOp UnOp.not 4 (Operand.tmp 8), type := 4, pos := "l8_program.go:249", after := #[{ on := 3, ground := Ground.data }], guard := none }) (v := ?vq31) rfl (by kernel_rfl) (by kernel_rfl) (by kernel_rfl) (fun _ _ _ h => h) (Or.inl ⟨by rfl, ?hy31⟩) (by assumption) ?rest31
      case hy31 =>
        first
          | (intro w hSw; (try dsimp only at hSw); go_simp; done)
          | (intro w hSw; (try dsimp only at hSw); go_simp; with_reducible rfl)
          | (intro w hSw; (try dsimp only at hSw); go_simp; simp only [hwB, if_true, hnn]; done)
          | (intro w hSw; (try dsimp only at hSw); go_simp; simp only [hwB, if_true, hnn]; with_reducible rfl)
      try simp only [Act.put, List.setIfInBounds_toArray, List.set_cons_zero, List.set_cons_succ]
      refine wpAnyH_take (i := 5) (oi := { dst := some 10, op := Op.move (Operand.tmp 9), type := 4, pos := "l8_program.go:249", after := #[{ on := 4, ground := Ground.data }, { on := 3, ground := Ground.chain }], guard := none }) (v := ?vq32) rfl (by kernel_rfl) (by kernel_rfl) (by kernel_rfl) (fun _ _ _ h => h) (Or.inl ⟨by rfl, ?hy32⟩) (by assumption) ?rest32
      case hy32 =>
        first
          | (intro w hSw; (try dsimp only at hSw); go_simp; done)
          | (intro w hSw; (try dsimp only at hSw); go_simp; with_reducible rfl)
          | (intro w hSw; (try dsimp only at hSw); go_simp; simp only [hwB, if_true, hnn]; done)
          | (intro w hSw; (try dsimp only at hSw); go_simp; simp only [hwB, if_true, hnn]; with_reducible rfl)
      try simp only [Act.put, List.setIfInBounds_toArray, List.set_cons_zero, List.set_cons_succ]
      refine wpAnyH_take (i := 6) (oi := { dst := some 11, op := Op.move (Operand.tmp 0), type := 144, pos := "l8_program.go:249", after := #[{ on := 5, ground := Ground.guard }], guard := some (5, false) }) (v := ?vq33) rfl (by kernel_rfl) (by kernel_rfl) (by kernel_rfl) (fun _ _ _ h => h) (Or.inl ⟨by rfl, ?hy33⟩) (by assumption) ?rest33
      case hy33 =>
        first
          | (intro w hSw; (try dsimp only at hSw); go_simp; done)
          | (intro w hSw; (try dsimp only at hSw); go_simp; with_reducible rfl)
          | (intro w hSw; (try dsimp only at hSw); go_simp; simp only [hwB, if_true, hnn]; done)
          | (intro w hSw; (try dsimp only at hSw); go_simp; simp only [hwB, if_true, hnn]; with_reducible rfl)
      try simp only [Act.put, List.setIfInBounds_toArray, List.set_cons_zero, List.set_cons_succ]
      refine wpAnyH_take (i := 7) (oi := { dst := some 12, op := Op.nilCheck (Operand.tmp 11), type := 0, pos := "l8_program.go:249", after := #[{ on := 6, ground := Ground.data }, { on := 5, ground := Ground.guard }], guard := some (5, false) }) (v := ?vq34) rfl (by kernel_rfl) (by kernel_rfl) (by kernel_rfl) (fun _ _ _ h => h) (Or.inl ⟨by rfl, ?hy34⟩) (by assumption) ?rest34
      case hy34 =>
        first
          | (intro w hSw; (try dsimp only at hSw); go_simp; done)
          | (intro w hSw; (try dsimp only at hSw); go_simp; with_reducible rfl)
          | (intro w hSw; (try dsimp only at hSw); go_simp; simp only [hwB, if_true, hnn]; done)
          | (intro w hSw; (try dsimp only at hSw); go_simp; simp only [hwB, if_true, hnn]; with_reducible rfl)
      try simp only [Act.put, List.setIfInBounds_toArray, List.set_cons_zero, List.set_cons_succ]
      refine wpAnyH_take (i := 8) (oi := { dst := some 13, op := Op.fieldAddr 93 (Operand.tmp 12) 0, type := 0, pos := "l8_program.go:249", after := #[{ on := 7, ground := Ground.data }, { on := 5, ground := Ground.guard }], guard := some (5, false) }) (v := ?vq35) rfl (by kernel_rfl) (by kernel_rfl) (by kernel_rfl) (fun _ _ _ h => h) (Or.inl ⟨by rfl, ?hy35⟩) (by assumption) ?rest35
      case hy35 =>
        first
          | (intro w hSw; (try dsimp only at hSw); go_simp; done)
          | (intro w hSw; (try dsimp only at hSw); go_simp; with_reducible rfl)
          | (intro w hSw; (try dsimp only at hSw); go_simp; simp only [hwB, if_true, hnn]; done)
          | (intro w hSw; (try dsimp only at hSw); go_simp; simp only [hwB, if_true, hnn]; with_reducible rfl)
      try simp only [Act.put, List.setIfInBounds_toArray, List.set_cons_zero, List.set_cons_succ]
      refine wpAnyH_take (i := 9) (oi := { dst := some 14, op := Op.load 27 (Operand.tmp 13), type := 27, pos := "l8_program.go:249", after := #[{ on := 8, ground := Ground.data }, { on := 5, ground := Ground.guard }], guard := some (5, false) }) (v := ?vq36) rfl (by kernel_rfl) (by kernel_rfl) (by kernel_rfl) (fun _ _ _ h => h) (Or.inl ⟨by rfl, ?hy36⟩) (by assumption) ?rest36
      case hy36 =>
        first
          | (intro w hSw; (try dsimp only at hSw); go_simp; done)
          | (intro w hSw; (try dsimp only at hSw); go_simp; with_reducible rfl)
          | (intro w hSw; (try dsimp only at hSw); go_simp; simp only [hwB, if_true, hnn]; done)
          | (intro w hSw; (try dsimp only at hSw); go_simp; simp only [hwB, if_true, hnn]; with_reducible rfl)
      try simp only [Act.put, List.setIfInBounds_toArray, List.set_cons_zero, List.set_cons_succ]
      refine wpAnyH_take (i := 10) (oi := { dst := some 15, op := Op.move (Operand.tmp 1), type := 3, pos := "l8_program.go:249", after := #[{ on := 5, ground := Ground.guard }], guard := some (5, false) }) (v := ?vq37) rfl (by kernel_rfl) (by kernel_rfl) (by kernel_rfl) (fun _ _ _ h => h) (Or.inl ⟨by rfl, ?hy37⟩) (by assumption) ?rest37
      case hy37 =>
        first
          | (intro w hSw; (try dsimp only at hSw); go_simp; done)
          | (intro w hSw; (try dsimp only at hSw); go_simp; with_reducible rfl)
          | (intro w hSw; (try dsimp only at hSw); go_simp; simp only [hwB, if_true, hnn]; done)
          | (intro w hSw; (try dsimp only at hSw); go_simp; simp only [hwB, if_true, hnn]; with_reducible rfl)
      try simp only [Act.put, List.setIfInBounds_toArray, List.set_cons_zero, List.set_cons_succ]
      refine wpAnyH_take (i := 11) (oi := { dst := some 16, op := Op.indexAddr 27 (Operand.tmp 14) (Operand.tmp 15), type := 0, pos := "l8_program.go:249", after := #[{ on := 9, ground := Ground.data }, { on := 10, ground := Ground.data }, { on := 5, ground := Ground.guard }], guard := some (5, false) }) (v := ?vq38) rfl (by kernel_rfl) (by kernel_rfl) (by kernel_rfl) (fun _ _ _ h => h) (Or.inl ⟨by rfl, ?hy38⟩) (by assumption) ?rest38
      case hy38 =>
        first
          | (intro w hSw; (try dsimp only at hSw); go_simp; done)
          | (intro w hSw; (try dsimp only at hSw); go_simp; with_reducible rfl)
          | (intro w hSw; (try dsimp only at hSw); go_simp; simp only [hwB, if_true, hnn]; done)
          | (intro w hSw; (try dsimp only at hSw); go_simp; simp only [hwB, if_true, hnn]; with_reducible rfl)
      try simp only [Act.put, List.setIfInBounds_toArray, List.set_cons_zero, List.set_cons_succ]
      refine wpAnyH_take (i := 12) (oi := { dst := some 17, op := Op.fieldAddr 76 (Operand.tmp 16) 2, type := 0, pos := "l8_program.go:249", after := #[{ on := 11, ground := Ground.data }, { on := 5, ground := Ground.guard }], guard := some (5, false) }) (v := ?vq39) rfl (by kernel_rfl) (by kernel_rfl) (by kernel_rfl) (fun _ _ _ h => h) (Or.inl ⟨by rfl, ?hy39⟩) (by assumption) ?rest39
      case hy39 =>
        first
          | (intro w hSw; (try dsimp only at hSw); go_simp; done)
          | (intro w hSw; (try dsimp only at hSw); go_simp; with_reducible rfl)
          | (intro w hSw; (try dsimp only at hSw); go_simp; simp only [hwB, if_true, hnn]; done)
          | (intro w hSw; (try dsimp only at hSw); go_simp; simp only [hwB, if_true, hnn]; with_reducible rfl)
      try simp only [Act.put, List.setIfInBounds_toArray, List.set_cons_zero, List.set_cons_succ]
      refine wpAnyH_take (i := 13) (oi := { dst := some 18, op := Op.load 3 (Operand.tmp 17), type := 3, pos := "l8_program.go:249", after := #[{ on := 12, ground := Ground.data }, { on := 5, ground := Ground.guard }], guard := some (5, false) }) (v := ?vq40) rfl (by kernel_rfl) (by kernel_rfl) (by kernel_rfl) (fun _ _ _ h => h) (Or.inl ⟨by rfl, ?hy40⟩) (by assumption) ?rest40
      case hy40 =>
        first
          | (intro w hSw; (try dsimp only at hSw); go_simp; done)
          | (intro w hSw; (try dsimp only at hSw); go_simp; with_reducible rfl)
          | (intro w hSw; (try dsimp only at hSw); go_simp; simp only [hwB, if_true, hnn]; done)
          | (intro w hSw; (try dsimp only at hSw); go_simp; simp only [hwB, if_true, hnn]; with_reducible rfl)
      try simp only [Act.put, List.setIfInBounds_toArray, List.set_cons_zero, List.set_cons_succ]
      refine wpAnyH_take (i := 14) (oi := { dst := some 19, op := Op.move (Operand.tmp 0), type := 144, pos := "l8_program.go:249", after := #[{ on := 5, ground := Ground.guard }], guard := some (5, false) }) (v := ?vq41) rfl (by kernel_rfl) (by kernel_rfl) (by kernel_rfl) (fun _ _ _ h => h) (Or.inl ⟨by rfl, ?hy41⟩) (by assumption) ?rest41
      case hy41 =>
        first
          | (intro w hSw; (try dsimp only at hSw); go_simp; done)
          | (intro w hSw; (try dsimp only at hSw); go_simp; with_reducible rfl)
          | (intro w hSw; (try dsimp only at hSw); go_simp; simp only [hwB, if_true, hnn]; done)
          | (intro w hSw; (try dsimp only at hSw); go_simp; simp only [hwB, if_true, hnn]; with_reducible rfl)
      try simp only [Act.put, List.setIfInBounds_toArray, List.set_cons_zero, List.set_cons_succ]
      refine wpAnyH_take (i := 15) (oi := { dst := some 20, op := Op.nilCheck (Operand.tmp 19), type := 0, pos := "l8_program.go:249", after := #[{ on := 14, ground := Ground.data }, { on := 5, ground := Ground.guard }], guard := some (5, false) }) (v := ?vq42) rfl (by kernel_rfl) (by kernel_rfl) (by kernel_rfl) (fun _ _ _ h => h) (Or.inl ⟨by rfl, ?hy42⟩) (by assumption) ?rest42
      case hy42 =>
        first
          | (intro w hSw; (try dsimp only at hSw); go_simp; done)
          | (intro w hSw; (try dsimp only at hSw); go_simp; with_reducible rfl)
          | (intro w hSw; (try dsimp only at hSw); go_simp; simp only [hwB, if_true, hnn]; done)
          | (intro w hSw; (try dsimp only at hSw); go_simp; simp only [hwB, if_true, hnn]; with_reducible rfl)
      try simp only [Act.put, List.setIfInBounds_toArray, List.set_cons_zero, List.set_cons_succ]
      refine wpAnyH_take (i := 16) (oi := { dst := some 21, op := Op.fieldAddr 93 (Operand.tmp 20) 0, type := 0, pos := "l8_program.go:249", after := #[{ on := 15, ground := Ground.data }, { on := 5, ground := Ground.guard }], guard := some (5, false) }) (v := ?vq43) rfl (by kernel_rfl) (by kernel_rfl) (by kernel_rfl) (fun _ _ _ h => h) (Or.inl ⟨by rfl, ?hy43⟩) (by assumption) ?rest43
      case hy43 =>
        first
          | (intro w hSw; (try dsimp only at hSw); go_simp; done)
          | (intro w hSw; (try dsimp only at hSw); go_simp; with_reducible rfl)
          | (intro w hSw; (try dsimp only at hSw); go_simp; simp only [hwB, if_true, hnn]; done)
          | (intro w hSw; (try dsimp only at hSw); go_simp; simp only [hwB, if_true, hnn]; with_reducible rfl)
      try simp only [Act.put, List.setIfInBounds_toArray, List.set_cons_zero, List.set_cons_succ]
      refine wpAnyH_take (i := 17) (oi := { dst := some 22, op := Op.load 27 (Operand.tmp 21), type := 27, pos := "l8_program.go:249", after := #[{ on := 16, ground := Ground.data }, { on := 5, ground := Ground.guard }], guard := some (5, false) }) (v := ?vq44) rfl (by kernel_rfl) (by kernel_rfl) (by kernel_rfl) (fun _ _ _ h => h) (Or.inl ⟨by rfl, ?hy44⟩) (by assumption) ?rest44
      case hy44 =>
        first
          | (intro w hSw; (try dsimp only at hSw); go_simp; done)
          | (intro w hSw; (try dsimp only at hSw); go_simp; with_reducible rfl)
          | (intro w hSw; (try dsimp only at hSw); go_simp; simp only [hwB, if_true, hnn]; done)
          | (intro w hSw; (try dsimp only at hSw); go_simp; simp only [hwB, if_true, hnn]; with_reducible rfl)
      try simp only [Act.put, List.setIfInBounds_toArray, List.set_cons_zero, List.set_cons_succ]
      refine wpAnyH_take (i := 18) (oi := { dst := some 23, op := Op.move (Operand.tmp 1), type := 3, pos := "l8_program.go:249", after := #[{ on := 5, ground := Ground.guard }], guard := some (5, false) }) (v := ?vq45) rfl (by kernel_rfl) (by kernel_rfl) (by kernel_rfl) (fun _ _ _ h => h) (Or.inl ⟨by rfl, ?hy45⟩) (by assumption) ?rest45
      case hy45 =>
        first
          | (intro w hSw; (try dsimp only at hSw); go_simp; done)
          | (intro w hSw; (try dsimp only at hSw); go_simp; with_reducible rfl)
          | (intro w hSw; (try dsimp only at hSw); go_simp; simp only [hwB, if_true, hnn]; done)
          | (intro w hSw; (try dsimp only at hSw); go_simp; simp only [hwB, if_true, hnn]; with_reducible rfl)
      try simp only [Act.put, List.setIfInBounds_toArray, List.set_cons_zero, List.set_cons_succ]
      refine wpAnyH_take (i := 19) (oi := { dst := some 24, op := Op.binOp BinOp.add 3 (Operand.tmp 23) (Operand.const (Value.int IntKind.i64 2)) 3, type := 3, pos := "l8_program.go:249", after := #[{ on := 18, ground := Ground.data }, { on := 5, ground := Ground.guard }], guard := some (5, false) }) (v := ?vq46) rfl (by kernel_rfl) (by kernel_rfl) (by kernel_rfl) (fun _ _ _ h => h) (Or.inl ⟨by rfl, ?hy46⟩) (by assumption) ?rest46
      case hy46 =>
        first
          | (intro w hSw; (try dsimp only at hSw); go_simp; done)
          | (intro w hSw; (try dsimp only at hSw); go_simp; with_reducible rfl)
          | (intro w hSw; (try dsimp only at hSw); go_simp; simp only [hwB, if_true, hnn]; done)
          | (intro w hSw; (try dsimp only at hSw); go_simp; simp only [hwB, if_true, hnn]; with_reducible rfl)
      try simp only [Act.put, List.setIfInBounds_toArray, List.set_cons_zero, List.set_cons_succ]
      refine wpAnyH_take (i := 20) (oi := { dst := some 25, op := Op.indexAddr 27 (Operand.tmp 22) (Operand.tmp 24), type := 0, pos := "l8_program.go:249", after := #[{ on := 17, ground := Ground.data }, { on := 19, ground := Ground.data }, { on := 5, ground := Ground.guard }], guard := some (5, false) }) (v := ?vq47) rfl (by kernel_rfl) (by kernel_rfl) (by kernel_rfl) (fun _ _ _ h => h) (Or.inl ⟨by rfl, ?hy47⟩) (by assumption) ?rest47
      case hy47 =>
        first
          | (intro w hSw; (try dsimp only at hSw); go_simp; done)
          | (intro w hSw; (try dsimp only at hSw); go_simp; with_reducible rfl)
          | (intro w hSw; (try dsimp only at hSw); go_simp; simp only [hwB, if_true, hnn]; done)
          | (intro w hSw; (try dsimp only at hSw); go_simp; simp only [hwB, if_true, hnn]; with_reducible rfl)
      try simp only [Act.put, List.setIfInBounds_toArray, List.set_cons_zero, List.set_cons_succ]
      refine wpAnyH_take (i := 21) (oi := { dst := some 26, op := Op.fieldAddr 76 (Operand.tmp 25) 2, type := 0, pos := "l8_program.go:249", after := #[{ on := 20, ground := Ground.data }, { on := 5, ground := Ground.guard }], guard := some (5, false) }) (v := ?vq48) rfl (by kernel_rfl) (by kernel_rfl) (by kernel_rfl) (fun _ _ _ h => h) (Or.inl ⟨by rfl, ?hy48⟩) (by assumption) ?rest48
      case hy48 =>
        first
          | (intro w hSw; (try dsimp only at hSw); go_simp; done)
          | (intro w hSw; (try dsimp only at hSw); go_simp; with_reducible rfl)
          | (intro w hSw; (try dsimp only at hSw); go_simp; simp only [hwB, if_true, hnn]; done)
          | (intro w hSw; (try dsimp only at hSw); go_simp; simp only [hwB, if_true, hnn]; with_reducible rfl)
      try simp only [Act.put, List.setIfInBounds_toArray, List.set_cons_zero, List.set_cons_succ]
      refine wpAnyH_take (i := 22) (oi := { dst := some 27, op := Op.load 3 (Operand.tmp 26), type := 3, pos := "l8_program.go:249", after := #[{ on := 21, ground := Ground.data }, { on := 5, ground := Ground.guard }], guard := some (5, false) }) (v := ?vq49) rfl (by kernel_rfl) (by kernel_rfl) (by kernel_rfl) (fun _ _ _ h => h) (Or.inl ⟨by rfl, ?hy49⟩) (by assumption) ?rest49
      case hy49 =>
        first
          | (intro w hSw; (try dsimp only at hSw); go_simp; done)
          | (intro w hSw; (try dsimp only at hSw); go_simp; with_reducible rfl)
          | (intro w hSw; (try dsimp only at hSw); go_simp; simp only [hwB, if_true, hnn]; done)
          | (intro w hSw; (try dsimp only at hSw); go_simp; simp only [hwB, if_true, hnn]; with_reducible rfl)
      try simp only [Act.put, List.setIfInBounds_toArray, List.set_cons_zero, List.set_cons_succ]
      refine wpAnyH_take (i := 23) (oi := { dst := some 28, op := Op.binOp BinOp.neq 3 (Operand.tmp 18) (Operand.tmp 27) 3, type := 4, pos := "l8_program.go:249", after := #[{ on := 13, ground := Ground.data }, { on := 22, ground := Ground.data }, { on := 5, ground := Ground.guard }], guard := some (5, false) }) (v := ?vq50) rfl (by kernel_rfl) (by kernel_rfl) (by kernel_rfl) (fun _ _ _ h => h) (Or.inl ⟨by rfl, ?hy50⟩) (by assumption) ?rest50
      case hy50 =>
        first
          | (intro w hSw; (try dsimp only at hSw); go_simp; done)
          | (intro w hSw; (try dsimp only at hSw); go_simp; with_reducible rfl)
          | (intro w hSw; (try dsimp only at hSw); go_simp; simp only [hwB, if_true, hnn]; done)
          | (intro w hSw; (try dsimp only at hSw); go_simp; simp only [hwB, if_true, hnn]; with_reducible rfl)
      try simp only [Act.put, List.setIfInBounds_toArray, List.set_cons_zero, List.set_cons_succ]
      refine wpAnyH_take (i := 24) (oi := { dst := some 29, op := Op.pick (Operand.tmp 10) (Operand.const (Value.bool true)) (Operand.tmp 28), type := 4, pos := "l8_program.go:249", after := #[{ on := 5, ground := Ground.data }, { on := 23, ground := Ground.data }], guard := none }) (v := ?vq51) rfl (by kernel_rfl) (by kernel_rfl) (by kernel_rfl) (fun _ _ _ h => h) (Or.inl ⟨by rfl, ?hy51⟩) (by assumption) ?rest51
      case hy51 =>
        first
          | (intro w hSw; (try dsimp only at hSw); go_simp; done)
          | (intro w hSw; (try dsimp only at hSw); go_simp; with_reducible rfl)
          | (intro w hSw; (try dsimp only at hSw); go_simp; simp only [hwB, if_true, hnn]; done)
          | (intro w hSw; (try dsimp only at hSw); go_simp; simp only [hwB, if_true, hnn]; with_reducible rfl)
      try simp only [Act.put, List.setIfInBounds_toArray, List.set_cons_zero, List.set_cons_succ]
      refine wpAnyH_done (by kernel_rfl) ?_ _
      go_wp2
      go_ret
      exact .inr ⟨hF.out, rfl, hB1⟩

end Go.Proofs.Ytpopjapcgcnnfaa
