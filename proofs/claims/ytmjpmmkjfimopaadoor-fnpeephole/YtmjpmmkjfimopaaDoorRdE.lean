/- One field that the program reads, and all of them. -/
import Derived.Test.YtmjpmmkjfimopaaDoorRdD
import Derived.Deep.AppendLies
import Derived.Lib.SmallJoins
namespace Go.Proofs.YtmjpmmkjfimopaaDoor
open Go.RowKit Plain

theorem results_cell_tmp2 {fn : Func} {p u v : Tmp} {ty : TypeId} (h : fn.results = #[.cell p ty, .tmp u, .tmp v]) (tmps : Array Value) (P : Program) (w : World) :
    (results fn tmps).run P w =
      ((asAddr (tmps.getD p undef)).run P w).andThen fun a w₁ => ((loadVar ty a).run P w₁).andThen fun x w₂ => .ok (.tuple #[x, tmps.getD u undef, tmps.getD v undef]) w₂ := by
  simp only [results, h]
  simp [Sem.run_bind, Result.andThen]

theorem tv_tk (s : ByteArray) (a : Nat) (h1 : s.size ≤ 400) : tvk s (a : Int) = tk s a 5 0 0 := by
  by_cases h : a < s.size
  · exact tv_in s a h1 h
  · rw [tv_out s a (by omega), tk_out s a 5 0 0 (by omega)]

theorem takeT (s : ByteArray) (a : Nat) (w : World) (hs : s.size ≤ 400) :
    Calls Tryd.prog 97 #[.string s, .int .i64 a] w fun e w' => e = .returned (.tuple #[.int .i64 (tk s a 5 0 0).1, .int .i64 (tk s a 5 0 0).2.1, .bool (tk s a 5 0 0).2.2]) ∧ w' = w := by
  have := take10 s a w (by unfold maxLen; omega)
  rwa [tv_tk s a hs] at this

theorem goodField_at (no kind num : Int) (data : ByteArray) (w : World) (hk : KR w) :
    Calls Tryd.prog 98 #[.agg #[.int .i64 no, .int .i64 kind, .int .i64 num, .string data]] w fun e w' => e = .returned (.bool (Fld.good ⟨no, kind, num, data⟩)) ∧ Below w.heap.size w w' :=
  goodField_any ⟨no, kind, num, data⟩ w hk

theorem good_tag (no kind : Int) : Fld.good ⟨no, kind, 0, ⟨#[]⟩⟩ = decide ((kind = 0 ∨ kind = 2) ∧ 1 ≤ no ∧ no ≤ 30) := by
  unfold Fld.good
  dsimp only
  by_cases k0 : kind = 0
  · simp [k0]
  · by_cases k2 : kind = 2
    · simp [k2]
    · simp [k0, k2]

/-- what takeField answers: the field and the place behind it, or a false -/
def TF (s : ByteArray) (a : Nat) (x : Fld) (b : Int) (ok : Bool) : Prop :=
  (ok = true ∧ ∃ c : Nat, b = (c : Int) ∧ rf1 s a = some (x, c) ∧ a < c ∧ c ≤ s.size) ∨ (ok = false ∧ rf1 s a = none)

def zf : Fld := ⟨0, 0, 0, ⟨#[]⟩⟩

/-- what takeContent answers -/
def CT (s : ByteArray) (nx : Nat) (no kind : Int) (x : Fld) (b : Int) (ok : Bool) : Prop :=
  (ok = false ∧ ((tk s nx 5 0 0).2.2 = false ∨ ∃ n en : Nat, tk s nx 5 0 0 = ((n : Int), (en : Int), true) ∧ ((kind = 0 ∧ 2000000000 < (n : Int)) ∨ (kind = 2 ∧ (s.size : Int) - en < (n : Int))))) ∨
  (ok = true ∧ ∃ n en : Nat, tk s nx 5 0 0 = ((n : Int), (en : Int), true) ∧ nx < en ∧ en ≤ s.size ∧
    ((kind = 0 ∧ (n : Int) ≤ 2000000000 ∧ x = ⟨no, 0, unf n, ⟨#[]⟩⟩ ∧ b = (en : Int)) ∨ (kind = 2 ∧ (n : Int) ≤ (s.size : Int) - en ∧ x = ⟨no, 2, 0, s.extract en (en + n)⟩ ∧ b = (en : Int) + n)))

set_option maxRecDepth 100000 in
set_option maxHeartbeats 4000000 in
theorem takeContent_any (s : ByteArray) (nx : Nat) (no kind : Int) (w : World) (hs : s.size ≤ 400) (hk : KR w) (hkd : kind = 0 ∨ kind = 2) :
    Calls Tryd.prog 99 #[.string s, .int .i64 nx, .agg #[.int .i64 no, .int .i64 kind, .int .i64 0, .string ⟨#[]⟩]] w fun e w' => ∃ (x : Fld) (b : Int) (ok : Bool), e = .returned (.tuple #[x.val, .int .i64 b, .bool ok]) ∧ CT s nx no kind x b ok ∧ Below w.heap.size w w' := by
  have hk0 := hk.1
  obtain ⟨⟨n, en, b2⟩, ht2⟩ : ∃ r, tk s nx 5 0 0 = r := ⟨_, rfl⟩
  have C2 : Hid (∀ w : World, Calls Tryd.prog 97 #[.string s, .int .i64 nx] w fun e w' => e = .returned (.tuple #[.int .i64 n, .int .i64 en, .bool b2]) ∧ w' = w) := fun w => by
    have := takeT s nx w hs; rwa [ht2] at this
  have P1 := tk_place s nx 5 0 0
  rw [ht2] at P1
  dsimp only at P1
  have HT2 : Hid (tk s nx 5 0 0 = (n, en, b2)) := ht2
  clear ht2
  go_enter Tryd.func99, Tryd.ntmps99
  go_wp2_with fail
  refine (C2.out _).mono ?_
  rintro e w1 ⟨rfl, rfl⟩
  have hB1 : Below w.heap.size w ((w.alloc (.cells #[.int .i64 no, .int .i64 kind, .int .i64 0, .string ⟨#[]⟩] 88)).alloc (.cells #[.int .i64 0, .int .i64 0, .int .i64 0, .string ⟨#[]⟩] 88)) := ((Below.refl _ w).alloc (Nat.le_refl _) _).alloc (by simp) _
  have hK1 : KR ((w.alloc (.cells #[.int .i64 no, .int .i64 kind, .int .i64 0, .string ⟨#[]⟩] 88)).alloc (.cells #[.int .i64 0, .int .i64 0, .int .i64 0, .string ⟨#[]⟩] 88)) := hk.below hB1 hk0
  cases b2
  · have hn : Hid (CT s nx no kind zf 0 false) := .inl ⟨rfl, .inl (by rw [HT2.out])⟩
    clear P1
    go_wp2
    (try simp only [Exit.inBlock, Exit.then])
    refine bodyPost_ret (v := .tuple #[(zf : Fld).val, .int .i64 0, .bool false]) ?_ rfl ⟨zf, 0, false, rfl, hn.out, ?_⟩
    · rw [results_cell_tmp2 rfl]
      go_simp
      rfl
    · repeat' (first | with_reducible exact hB1 | refine Below.alloc ?_ (by simp; try omega) _ | refine Below.setCell ?_ (by simp; try omega) _)
  · obtain ⟨q1, q2, q3, q4⟩ := P1 rfl
    clear P1
    obtain ⟨en, rfl⟩ := Int.eq_ofNat_of_zero_le (show 0 ≤ en by omega)
    obtain ⟨n, rfl⟩ := Int.eq_ofNat_of_zero_le q1
    go_wp2_with fail
    refine (rowOf_any kind _ hK1).mono ?_
    rintro e w4 ⟨rfl, hb4⟩
    have hB4 : Below w.heap.size w w4 := hB1.trans (hb4.mono (by simp; omega))
    have hs4 : w.heap.size + 1 < w4.heap.size := by have := hb4.size; simp at this; omega
    have hs4' : w.heap.size < w4.heap.size := by omega
    have d0 : w4.cell? ⟨w.heap.size, 0, none⟩ = some (.int .i64 no) := (hb4.cell (p := ⟨w.heap.size, 0, none⟩) (by simp; omega)).trans (by simp)
    have d1 : w4.cell? ⟨w.heap.size, 1, none⟩ = some (.int .i64 kind) := (hb4.cell (p := ⟨w.heap.size, 1, none⟩) (by simp; omega)).trans (by simp)
    have d2 : w4.cell? ⟨w.heap.size, 2, none⟩ = some (.int .i64 0) := (hb4.cell (p := ⟨w.heap.size, 2, none⟩) (by simp; omega)).trans (by simp)
    have d3 : w4.cell? ⟨w.heap.size, 3, none⟩ = some (.string ⟨#[]⟩) := (hb4.cell (p := ⟨w.heap.size, 3, none⟩) (by simp; omega)).trans (by simp)
    have c0 : w4.cell? ⟨w.heap.size + 1, 0, none⟩ = some (.int .i64 0) := (hb4.cell (p := ⟨w.heap.size + 1, 0, none⟩) (by simp)).trans (by simp)
    have c1 : w4.cell? ⟨w.heap.size + 1, 1, none⟩ = some (.int .i64 0) := (hb4.cell (p := ⟨w.heap.size + 1, 1, none⟩) (by simp)).trans (by simp)
    have c2 : w4.cell? ⟨w.heap.size + 1, 2, none⟩ = some (.int .i64 0) := (hb4.cell (p := ⟨w.heap.size + 1, 2, none⟩) (by simp)).trans (by simp)
    have c3 : w4.cell? ⟨w.heap.size + 1, 3, none⟩ = some (.string ⟨#[]⟩) := (hb4.cell (p := ⟨w.heap.size + 1, 3, none⟩) (by simp)).trans (by simp)
    have fc0 : w4.frozen? ⟨w.heap.size + 1, 0, none⟩ = false := (hb4.frozen (p := ⟨w.heap.size + 1, 0, none⟩) (by simp)).trans (by simp)
    have fc1 : w4.frozen? ⟨w.heap.size + 1, 1, none⟩ = false := (hb4.frozen (p := ⟨w.heap.size + 1, 1, none⟩) (by simp)).trans (by simp)
    have fc2 : w4.frozen? ⟨w.heap.size + 1, 2, none⟩ = false := (hb4.frozen (p := ⟨w.heap.size + 1, 2, none⟩) (by simp)).trans (by simp)
    have fc3 : w4.frozen? ⟨w.heap.size + 1, 3, none⟩ = false := (hb4.frozen (p := ⟨w.heap.size + 1, 3, none⟩) (by simp)).trans (by simp)
    have fd2 : w4.frozen? ⟨w.heap.size, 2, none⟩ = false := (hb4.frozen (p := ⟨w.heap.size, 2, none⟩) (by simp; omega)).trans (by simp)
    have fd3 : w4.frozen? ⟨w.heap.size, 3, none⟩ = false := (hb4.frozen (p := ⟨w.heap.size, 3, none⟩) (by simp; omega)).trans (by simp)
    clear hb4 hK1 hB1
    rcases hkd with hk8 | hk8
    · rw [rowR_0 _ hk8]
      subst hk8
      go_wp2_with fail
      refine (implUnfold n _).mono ?_
      rintro e w5 ⟨rfl, rfl⟩
      by_cases hn : (n : Int) ≤ 2000000000
      · have hr : Hid (CT s nx no 0 ⟨no, 0, unf n, ⟨#[]⟩⟩ en true) := .inr ⟨rfl, n, en, HT2.out, by omega, by omega, .inl ⟨rfl, hn, rfl, rfl⟩⟩
        have hu : un (n : Int) = (unf n, true) := by unfold un unf; rw [if_pos ⟨by omega, hn⟩]
        rw [hu]
        clear hu
        generalize unf (n : Int) = num at *
        go_wp2
        (try simp only [Exit.inBlock, Exit.then])
        refine bodyPost_ret (v := .tuple #[(⟨no, 0, num, ⟨#[]⟩⟩ : Fld).val, .int .i64 en, .bool true]) ?_ rfl ⟨⟨no, 0, num, ⟨#[]⟩⟩, en, true, rfl, hr.out, ?_⟩
        · rw [results_cell_tmp2 rfl]
          go_simp
          rfl
        · repeat' (first | with_reducible exact hB4 | refine Below.alloc ?_ (by simp; try omega) _ | refine Below.setCell ?_ (by simp; try omega) _)
      · have hr : Hid (CT s nx no 0 ⟨no, 0, 0, ⟨#[]⟩⟩ en false) := .inl ⟨rfl, .inr ⟨n, en, HT2.out, .inl ⟨rfl, by omega⟩⟩⟩
        rw [un_out n (by omega)]
        go_wp2
        (try simp only [Exit.inBlock, Exit.then])
        refine bodyPost_ret (v := .tuple #[(⟨no, 0, 0, ⟨#[]⟩⟩ : Fld).val, .int .i64 en, .bool false]) ?_ rfl ⟨⟨no, 0, 0, ⟨#[]⟩⟩, en, false, rfl, hr.out, ?_⟩
        · rw [results_cell_tmp2 rfl]
          go_simp
          rfl
        · repeat' (first | with_reducible exact hB4 | refine Below.alloc ?_ (by simp; try omega) _ | refine Below.setCell ?_ (by simp; try omega) _)
    · rw [rowR_2 _ hk8]
      subst hk8
      by_cases hlen : (n : Int) ≤ (s.size : Int) - en
      · have hr : Hid (CT s nx no 2 ⟨no, 2, 0, s.extract en (en + n)⟩ ((en : Int) + n) true) := .inr ⟨rfl, n, en, HT2.out, by omega, by omega, .inr ⟨rfl, hlen, rfl, rfl⟩⟩
        have hs1 : (en : Int) ≤ (en : Int) + n := by omega
        have hs2 : (en : Int) + n ≤ (s.size : Int) := by omega
        have hrun : ∀ w : World, (Instr.slice 9 (.string s) (some (.int .i64 (en : Int))) (some (.int .i64 ((en : Int) + n))) none).run Tryd.prog w = .ok (.string (s.extract en (en + n))) w := fun w => by
          rw [run_slice_string w 9 s .i64 .i64 (en : Int) ((en : Int) + n) Tryd.underlying9 (by omega) (by omega) (by omega), Int.toNat_natCast, show ((en : Int) + n).toNat = en + n by omega]
        have hds : (s.extract en (en + n)).size ≤ 400 := by rw [ByteArray.size_extract]; omega
        generalize s.extract en (en + n) = data at hr hrun hds
        go_wp2_with fail
        refine (clone_any data _ (by omega)).mono ?_
        rintro e w5 ⟨rfl, hb5⟩
        have hB5 : Below w.heap.size w w5 := (hB4.alloc (by omega) _).trans (hb5.mono (by simp; omega))
        have hs5 : w.heap.size + 1 < w5.heap.size := by have := hb5.size; simp at this; omega
        have c0 := (hb5.cell (p := ⟨w.heap.size + 1, 0, none⟩) (by simp; omega)).trans ((Below.cell ((Below.refl _ w4).alloc (Nat.le_refl _) _) (p := ⟨w.heap.size + 1, 0, none⟩) (by show w.heap.size + 1 < _; omega)).trans c0)
        have c1 := (hb5.cell (p := ⟨w.heap.size + 1, 1, none⟩) (by simp; omega)).trans ((Below.cell ((Below.refl _ w4).alloc (Nat.le_refl _) _) (p := ⟨w.heap.size + 1, 1, none⟩) (by show w.heap.size + 1 < _; omega)).trans c1)
        have c2 := (hb5.cell (p := ⟨w.heap.size + 1, 2, none⟩) (by simp; omega)).trans ((Below.cell ((Below.refl _ w4).alloc (Nat.le_refl _) _) (p := ⟨w.heap.size + 1, 2, none⟩) (by show w.heap.size + 1 < _; omega)).trans c2)
        have c3 := (hb5.cell (p := ⟨w.heap.size + 1, 3, none⟩) (by simp; omega)).trans ((Below.cell ((Below.refl _ w4).alloc (Nat.le_refl _) _) (p := ⟨w.heap.size + 1, 3, none⟩) (by show w.heap.size + 1 < _; omega)).trans c3)
        have d0 := (hb5.cell (p := ⟨w.heap.size, 0, none⟩) (by simp; omega)).trans ((Below.cell ((Below.refl _ w4).alloc (Nat.le_refl _) _) (p := ⟨w.heap.size, 0, none⟩) (by show w.heap.size < _; omega)).trans d0)
        have d1 := (hb5.cell (p := ⟨w.heap.size, 1, none⟩) (by simp; omega)).trans ((Below.cell ((Below.refl _ w4).alloc (Nat.le_refl _) _) (p := ⟨w.heap.size, 1, none⟩) (by show w.heap.size < _; omega)).trans d1)
        have d2 := (hb5.cell (p := ⟨w.heap.size, 2, none⟩) (by simp; omega)).trans ((Below.cell ((Below.refl _ w4).alloc (Nat.le_refl _) _) (p := ⟨w.heap.size, 2, none⟩) (by show w.heap.size < _; omega)).trans d2)
        have d3 := (hb5.cell (p := ⟨w.heap.size, 3, none⟩) (by simp; omega)).trans ((Below.cell ((Below.refl _ w4).alloc (Nat.le_refl _) _) (p := ⟨w.heap.size, 3, none⟩) (by show w.heap.size < _; omega)).trans d3)
        have fc0 := (hb5.frozen (p := ⟨w.heap.size + 1, 0, none⟩) (by simp; omega)).trans ((Below.frozen ((Below.refl _ w4).alloc (Nat.le_refl _) _) (p := ⟨w.heap.size + 1, 0, none⟩) (by show w.heap.size + 1 < _; omega)).trans fc0)
        have fc1 := (hb5.frozen (p := ⟨w.heap.size + 1, 1, none⟩) (by simp; omega)).trans ((Below.frozen ((Below.refl _ w4).alloc (Nat.le_refl _) _) (p := ⟨w.heap.size + 1, 1, none⟩) (by show w.heap.size + 1 < _; omega)).trans fc1)
        have fc2 := (hb5.frozen (p := ⟨w.heap.size + 1, 2, none⟩) (by simp; omega)).trans ((Below.frozen ((Below.refl _ w4).alloc (Nat.le_refl _) _) (p := ⟨w.heap.size + 1, 2, none⟩) (by show w.heap.size + 1 < _; omega)).trans fc2)
        have fc3 := (hb5.frozen (p := ⟨w.heap.size + 1, 3, none⟩) (by simp; omega)).trans ((Below.frozen ((Below.refl _ w4).alloc (Nat.le_refl _) _) (p := ⟨w.heap.size + 1, 3, none⟩) (by show w.heap.size + 1 < _; omega)).trans fc3)
        have fd3 := (hb5.frozen (p := ⟨w.heap.size, 3, none⟩) (by simp; omega)).trans ((Below.frozen ((Below.refl _ w4).alloc (Nat.le_refl _) _) (p := ⟨w.heap.size, 3, none⟩) (by show w.heap.size < _; omega)).trans fd3)
        clear hb5 hB4 fd2 hrun
        go_wp2
        (try simp only [Exit.inBlock, Exit.then])
        refine bodyPost_ret (v := .tuple #[(⟨no, 2, 0, data⟩ : Fld).val, .int .i64 ((en : Int) + n), .bool true]) ?_ rfl ⟨⟨no, 2, 0, data⟩, ((en : Int) + n), true, rfl, hr.out, ?_⟩
        · rw [results_cell_tmp2 rfl]
          go_simp
          rfl
        · repeat' (first | with_reducible exact hB5 | refine Below.alloc ?_ (by simp; try omega) _ | refine Below.setCell ?_ (by simp; try omega) _)
      · have hr : Hid (CT s nx no 2 zf 0 false) := .inl ⟨rfl, .inr ⟨n, en, HT2.out, .inr ⟨rfl, by omega⟩⟩⟩
        have hlen' : (s.size : Int) - en < (n : Int) := by omega
        clear hlen
        go_wp2
        (try simp only [Exit.inBlock, Exit.then])
        refine bodyPost_ret (v := .tuple #[(zf : Fld).val, .int .i64 0, .bool false]) ?_ rfl ⟨zf, 0, false, rfl, hr.out, ?_⟩
        · rw [results_cell_tmp2 rfl]
          go_simp
          rfl
        · repeat' (first | with_reducible exact hB4 | refine Below.alloc ?_ (by simp; try omega) _ | refine Below.setCell ?_ (by simp; try omega) _)

theorem TF_of (s : ByteArray) (a tag nx : Nat) (x : Fld) (b : Int) (ok : Bool) (ht : tk s a 5 0 0 = ((tag : Int), (nx : Int), true)) (hax : a < nx)
    (hg : ((tag : Int) % 8 = 0 ∨ (tag : Int) % 8 = 2) ∧ 1 ≤ (tag : Int) / 8 ∧ (tag : Int) / 8 ≤ 30) (h : CT s nx ((tag : Int) / 8) ((tag : Int) % 8) x b ok) : TF s a x b ok := by
  have e0 : (Int.toNat (nx : Int)) = nx := Int.toNat_natCast nx
  rcases h with ⟨rfl, h | ⟨n, en, h2, ⟨hk, hn⟩ | ⟨hk, hn⟩⟩⟩ | ⟨rfl, n, en, h2, hx, hs, ⟨hk, hn, rfl, rfl⟩ | ⟨hk, hn, rfl, rfl⟩⟩
  · exact .inr ⟨rfl, rf1_no2 s a tag nx ht (by rw [e0]; exact h)⟩
  · exact .inr ⟨rfl, rf1_nonum s a tag nx n en ht (by rw [e0]; exact h2) hk (fun k => by have := k.2.2; omega)⟩
  · exact .inr ⟨rfl, rf1_nodata s a tag nx n en ht (by rw [e0]; exact h2) (by rw [hk]; omega) (fun k => by have := k.2.2.2; omega)⟩
  · have := rf1_num s a tag nx n en ht (by rw [e0]; exact h2) hk ⟨hg.2.1, hg.2.2, hn⟩
    rw [Int.toNat_natCast] at this
    exact .inl ⟨rfl, en, rfl, this, by omega, hs⟩
  · have := rf1_data s a tag nx n en ht (by rw [e0]; exact h2) ⟨hk, hg.2.1, hg.2.2, hn⟩
    rw [Int.toNat_natCast, show ((en : Int) + n).toNat = en + n by omega] at this
    exact .inl ⟨rfl, en + n, by omega, this, by omega, by omega⟩

set_option maxRecDepth 100000 in
set_option maxHeartbeats 4000000 in
theorem takeField_any (s : ByteArray) (a : Nat) (w : World) (hs : s.size ≤ 400) (hk : KR w) :
    Calls Tryd.prog 76 #[.string s, .int .i64 a] w fun e w' => ∃ (x : Fld) (b : Int) (ok : Bool), e = .returned (.tuple #[x.val, .int .i64 b, .bool ok]) ∧ TF s a x b ok ∧ Below w.heap.size w w' := by
  have hk0 := hk.1
  obtain ⟨⟨tag, nx, b1⟩, ht⟩ : ∃ r, tk s a 5 0 0 = r := ⟨_, rfl⟩
  have C1 : Hid (∀ w : World, Calls Tryd.prog 97 #[.string s, .int .i64 a] w fun e w' => e = .returned (.tuple #[.int .i64 tag, .int .i64 nx, .bool b1]) ∧ w' = w) := fun w => by
    have := takeT s a w hs; rwa [ht] at this
  have P1 := tk_place s a 5 0 0
  rw [ht] at P1
  dsimp only at P1
  have HT : Hid (tk s a 5 0 0 = (tag, nx, b1)) := ht
  clear ht
  go_enter Tryd.func76, Tryd.ntmps76
  go_wp2_with fail
  refine (C1.out _).mono ?_
  rintro e w1 ⟨rfl, rfl⟩
  have hB1 : Below w.heap.size w (w.alloc (.cells #[.int .i64 0, .int .i64 0, .int .i64 0, .string ⟨#[]⟩] 88)) := (Below.refl _ w).alloc (Nat.le_refl _) _
  cases b1
  · have hn : Hid (rf1 s a = none) := rf1_no1 s a (by rw [HT.out])
    clear P1
    go_wp2
    (try simp only [Exit.inBlock, Exit.then])
    refine bodyPost_ret (v := .tuple #[zf.val, .int .i64 0, .bool false]) ?_ rfl ⟨zf, 0, false, rfl, .inr ⟨rfl, hn.out⟩, ?_⟩
    · rw [results_cell_tmp2 rfl]
      go_simp
      rfl
    · repeat' (first | exact hB1 | refine Below.alloc ?_ (by simp; omega) _ | refine Below.setCell ?_ (by simp) _)
  · obtain ⟨p1, p2, p3, p4⟩ := P1 rfl
    clear P1
    obtain ⟨nx, rfl⟩ := Int.eq_ofNat_of_zero_le (show 0 ≤ nx by omega)
    obtain ⟨tag, rfl⟩ := Int.eq_ofNat_of_zero_le p1
    have hK1 : KR ((w.alloc (.cells #[.int .i64 0, .int .i64 0, .int .i64 0, .string ⟨#[]⟩] 88)).alloc (.cells #[.int .i64 ((tag : Int) / 8), .int .i64 ((tag : Int) % 8), .int .i64 0, .string ⟨#[]⟩] 88)) := hk.below (hB1.alloc (by simp) _) hk0
    go_wp2_with fail
    refine (goodField_at ((tag : Int) / 8) ((tag : Int) % 8) 0 ⟨#[]⟩ _ hK1).mono ?_
    rintro e w2 ⟨rfl, hb2⟩
    have hB2 : Below w.heap.size w w2 := (hB1.alloc (by simp) _).trans (hb2.mono (by simp; omega))
    have hK2 : KR w2 := hk.below hB2 hk0
    have hs2 : w.heap.size + 1 < w2.heap.size := by have := hb2.size; simp at this; omega
    have c0 : w2.cell? ⟨w.heap.size, 0, none⟩ = some (.int .i64 0) := (hb2.cell (p := ⟨w.heap.size, 0, none⟩) (by simp; omega)).trans (by simp)
    have c1 : w2.cell? ⟨w.heap.size, 1, none⟩ = some (.int .i64 0) := (hb2.cell (p := ⟨w.heap.size, 1, none⟩) (by simp; omega)).trans (by simp)
    have c2 : w2.cell? ⟨w.heap.size, 2, none⟩ = some (.int .i64 0) := (hb2.cell (p := ⟨w.heap.size, 2, none⟩) (by simp; omega)).trans (by simp)
    have c3 : w2.cell? ⟨w.heap.size, 3, none⟩ = some (.string ⟨#[]⟩) := (hb2.cell (p := ⟨w.heap.size, 3, none⟩) (by simp; omega)).trans (by simp)
    have d0 : w2.cell? ⟨w.heap.size + 1, 0, none⟩ = some (.int .i64 ((tag : Int) / 8)) := (hb2.cell (p := ⟨w.heap.size + 1, 0, none⟩) (by simp)).trans (by simp)
    have d1 : w2.cell? ⟨w.heap.size + 1, 1, none⟩ = some (.int .i64 ((tag : Int) % 8)) := (hb2.cell (p := ⟨w.heap.size + 1, 1, none⟩) (by simp)).trans (by simp)
    have d2 : w2.cell? ⟨w.heap.size + 1, 2, none⟩ = some (.int .i64 0) := (hb2.cell (p := ⟨w.heap.size + 1, 2, none⟩) (by simp)).trans (by simp)
    have d3 : w2.cell? ⟨w.heap.size + 1, 3, none⟩ = some (.string ⟨#[]⟩) := (hb2.cell (p := ⟨w.heap.size + 1, 3, none⟩) (by simp)).trans (by simp)
    have fzC : ∀ j, w2.frozen? ⟨w.heap.size, j, none⟩ = false := fun j => (hb2.frozen (p := ⟨w.heap.size, j, none⟩) (by simp; omega)).trans (by simp)
    have fzD : ∀ j, w2.frozen? ⟨w.heap.size + 1, j, none⟩ = false := fun j => (hb2.frozen (p := ⟨w.heap.size + 1, j, none⟩) (by simp)).trans (by simp)
    have fc0 := fzC 0
    have fc1 := fzC 1
    have fc2 := fzC 2
    have fc3 := fzC 3
    have fd2 := fzD 2
    have fd3 := fzD 3
    clear hb2 hK1
    by_cases hg : (((tag : Int) % 8 = 0 ∨ (tag : Int) % 8 = 2) ∧ 1 ≤ (tag : Int) / 8 ∧ (tag : Int) / 8 ≤ 30)
    · have hgd : Fld.good ⟨(tag : Int) / 8, (tag : Int) % 8, 0, ⟨#[]⟩⟩ = true := by rw [good_tag]; simpa using hg
      rw [hgd]
      clear hgd
      have HGT : Hid (((tag : Int) % 8 = 0 ∨ (tag : Int) % 8 = 2) ∧ 1 ≤ (tag : Int) / 8 ∧ (tag : Int) / 8 ≤ 30) := hg
      clear hg
      go_wp2_with fail
      refine (takeContent_any s nx ((tag : Int) / 8) ((tag : Int) % 8) _ hs hK2 HGT.out.1).mono ?_
      rintro e w3 ⟨x, b, ok, rfl, hct, hb3⟩
      have htf : Hid (TF s a x b ok) := TF_of s a tag nx x b ok HT.out (by omega) HGT.out hct
      have hB3 : Below w.heap.size w w3 := hB2.trans (hb3.mono hB2.size)
      have hs3 : w.heap.size + 1 < w3.heap.size := by have := hb3.size; omega
      have c0 := (hb3.cell (p := ⟨w.heap.size, 0, none⟩) (by show w.heap.size < _; omega)).trans c0
      have c1 := (hb3.cell (p := ⟨w.heap.size, 1, none⟩) (by show w.heap.size < _; omega)).trans c1
      have c2 := (hb3.cell (p := ⟨w.heap.size, 2, none⟩) (by show w.heap.size < _; omega)).trans c2
      have c3 := (hb3.cell (p := ⟨w.heap.size, 3, none⟩) (by show w.heap.size < _; omega)).trans c3
      have fc0 := (hb3.frozen (p := ⟨w.heap.size, 0, none⟩) (by show w.heap.size < _; omega)).trans fc0
      have fc1 := (hb3.frozen (p := ⟨w.heap.size, 1, none⟩) (by show w.heap.size < _; omega)).trans fc1
      have fc2 := (hb3.frozen (p := ⟨w.heap.size, 2, none⟩) (by show w.heap.size < _; omega)).trans fc2
      have fc3 := (hb3.frozen (p := ⟨w.heap.size, 3, none⟩) (by show w.heap.size < _; omega)).trans fc3
      clear hct hb3 hB2 hK2 fzC fzD d0 d1 d2 d3 fd2 fd3 hs2 hB1
      obtain ⟨no, kind, num, data⟩ := x
      unfold Fld.val
      dsimp only
      go_wp2
      (try simp only [Exit.inBlock, Exit.then])
      refine bodyPost_ret (v := .tuple #[(⟨no, kind, num, data⟩ : Fld).val, .int .i64 b, .bool ok]) ?_ rfl ⟨⟨no, kind, num, data⟩, b, ok, rfl, htf.out, ?_⟩
      · rw [results_cell_tmp2 rfl]
        go_simp
        rfl
      · repeat' (first | with_reducible exact hB3 | refine Below.alloc ?_ (by simp; try omega) _ | refine Below.setCell ?_ (by simp; try omega) _)
    · have hgd : Fld.good ⟨(tag : Int) / 8, (tag : Int) % 8, 0, ⟨#[]⟩⟩ = false := by rw [good_tag]; simpa using hg
      rw [hgd]
      have hn : Hid (rf1 s a = none) := rf1_tag s a tag nx HT.out hg
      clear hgd hg
      go_wp2
      (try simp only [Exit.inBlock, Exit.then])
      refine bodyPost_ret (v := .tuple #[zf.val, .int .i64 0, .bool false]) ?_ rfl ⟨zf, 0, false, rfl, .inr ⟨rfl, hn.out⟩, ?_⟩
      · rw [results_cell_tmp2 rfl]
        go_simp
        rfl
      · repeat' (first | exact hB2 | refine Below.alloc ?_ (by simp; omega) _ | refine Below.setCell ?_ (by simp) _)

set_option maxRecDepth 100000 in
set_option maxHeartbeats 4000000 in
theorem implRead_any (s : ByteArray) (w : World) (hsm : s.size ≤ maxLen) (hk : KR w) :
    Calls Tryd.prog 49 #[.string s] w fun e w' => ∃ v, e = .returned (.tuple #[v, .bool (rf s).2]) ∧ w'.ownsRow w.heap.size 88 4 v (rf s).1.length ((rf s).1.flatMap Fld.cells) ∧ Below w.heap.size w w' := by
  unfold maxLen at hsm
  by_cases hs : s.size ≤ 400
  · have hs' : (s.size : Int) ≤ 400 := by omega
    obtain ⟨i0, hi, hz0, hz1, hz2⟩ := info_parts Tryd.infoFld
    obtain ⟨R, hR⟩ : ∃ R, R = rf s := ⟨_, rfl⟩
    rw [← hR]
    have HR : Hid (R = rfs s (s.size + 1) 0 []) := by show _ = _; rw [hR]; unfold rf; rw [if_pos hs]
    have hk0 := hk.1
    clear hR
    go_enter Tryd.func49, Tryd.ntmps49
    go_wp2
    go_loopw [4, 5] (fun vl va wr => ∃ (l : List Fld) (a f : Nat), l.length ≤ 40 ∧ a ≤ s.size ∧ s.size < f + a ∧ va = .int .i64 (a : Int) ∧ Hid (R = rfs s f a l) ∧ wr.ownsRow w.heap.size 88 4 vl l.length (l.flatMap Fld.cells) ∧ Below w.heap.size w wr)
      (fun _ va _ => s.size - (intOf va).toNat)
    case atStart => exact ⟨[], 0, s.size + 1, by simp, by omega, by omega, by go_num, HR, World.ownsRow_nil _ _ _ _, Below.refl _ _⟩
    case round =>
      obtain ⟨l, a, f, hl40, ha, hf, rfl, hrf, hown, hbw⟩ := hrel
      obtain ⟨f, rfl⟩ : ∃ f', f = f' + 1 := ⟨f - 1, by omega⟩
      obtain ⟨ao, cap, hv⟩ : ∃ ao cap, _ = Value.slice ao l.length cap := by obtain ⟨ao, cap, hv, _⟩ := FldsAt.own hown (by unfold maxLen; omega); exact ⟨ao, cap, hv⟩
      subst hv
      by_cases hlt : a < s.size
      · have hlt' : (a : Int) < (s.size : Int) := by omega
        go_wp2_with fail
        refine (takeField_any s a _ hs (hk.below hbw hk0)).mono ?_
        rintro e w1 ⟨x, b, ok, rfl, htf, hb1⟩
        have hown1 := own_below hown hb1
        have hbw1 : Below w.heap.size w w1 := hbw.trans (hb1.mono hbw.size)
        clear hb1 hown hbw
        obtain ⟨no, kind, num, data⟩ := x
        unfold Fld.val
        dsimp only
        rcases htf with ⟨rfl, c, rfl, hr1, hac, hcs⟩ | ⟨rfl, hr1⟩
        · by_cases h40 : l.length = 40
          · have hn : Hid (R = ([], false)) := by show R = _; rw [hrf.out]; exact rfs_full s f a _ _ l hlt hr1 h40
            have h40' : ((l.length : Int) == 40) = true := by simp; omega
            clear hr1 hrf
            go_wp2
            go_ret2
            rw [hn.out]
            exact ⟨_, rfl, World.ownsRow_nil _ _ _ _, by repeat' (first | exact hbw1 | refine Below.alloc ?_ (by have := hbw1.size; simp; omega) _)⟩
          · have hn : Hid (R = rfs s f c (l ++ [⟨no, kind, num, data⟩])) := by show R = _; rw [hrf.out]; exact rfs_more s f a _ _ l hlt hr1 h40
            have h40' : ((l.length : Int) == 40) = false := by simp; omega
            clear hr1 hrf
            go_wp2_with (at_builtin; refine wpList_append_own _ rfl _ _ 61 rfl w.heap.size 88 i0 (.agg #[.int .i64 0, .int .i64 0, .int .i64 0, .string ⟨#[]⟩]) 4 40 Tryd.underlying61 hi hz0 hz1 hz2 rfl (by decide) _ _ _ rfl ((hown1.alloc _).alloc _) ⟨w1.heap.size + 1, 0, none⟩ 1 1 (Fld.cells ⟨no, kind, num, data⟩) rfl rfl ?c1 ?c2 ?c3 ?c4 ?c5 ?_)
            case c1 =>
              intro j u hj
              match j, hj with
              | 0, hj => simp [Fld.cells] at hj; subst hj; exact cell_new _ _ _ _ 0 (by simp)
              | 1, hj => simp [Fld.cells] at hj; subst hj; exact cell_new _ _ _ _ 1 (by simp)
              | 2, hj => simp [Fld.cells] at hj; subst hj; exact cell_new _ _ _ _ 2 (by simp)
              | 3, hj => simp [Fld.cells] at hj; subst hj; exact cell_new _ _ _ _ 3 (by simp)
              | j + 4, hj => simp [Fld.cells] at hj
            case c2 => intro u hu; simp [Fld.cells] at hu; rcases hu with rfl | rfl | rfl | rfl <;> rfl
            case c3 => unfold maxLen; omega
            case c4 => omega
            case c5 => have := hbw1.size; simp at this ⊢; omega
            intro v' w9 hown' hgrow _
            have hlt9 := hown1.lt
            have hsz1 := hbw1.size
            have hbw9 : Below w.heap.size w w9 := ((hbw1.alloc hbw1.size _).alloc (by simp; omega) _).grown hgrow (by simp; omega) (fun k hk => (hlt9 k hk).1)
            have hown9 : w9.ownsRow w.heap.size 88 4 v' (l ++ [(⟨no, kind, num, data⟩ : Fld)]).length ((l ++ [(⟨no, kind, num, data⟩ : Fld)]).flatMap Fld.cells) := by
              rw [List.flatMap_append, List.length_append, List.length_singleton]
              simpa using hown'
            clear hgrow hown' hlt9 hown1 hbw1
            go_wp2
            go_roundw
            case rel => exact ⟨l ++ [(⟨no, kind, num, data⟩ : Fld)], c, f, by simp; omega, by omega, by omega, by go_num, hn, hown9, hbw9⟩
            case measure => simp [intOf]; omega
        · have hn : Hid (R = ([], false)) := by show R = _; rw [hrf.out]; exact rfs_none s f a l hlt hr1
          clear hr1 hrf
          go_wp2
          go_ret2
          rw [hn.out]
          exact ⟨_, rfl, World.ownsRow_nil _ _ _ _, by repeat' (first | exact hbw1 | refine Below.alloc ?_ (by have := hbw1.size; simp; omega) _)⟩
      · have hn : Hid (R = (l, true)) := by show R = _; rw [hrf.out]; exact rfs_out s f a l hlt
        have hge : ¬ ((a : Int) < (s.size : Int)) := by omega
        clear hrf
        go_wp2
        go_ret2
        rw [hn.out]
        exact ⟨_, rfl, hown, hbw⟩
  · have hr : rf s = ([], false) := by unfold rf; rw [if_neg hs]
    rw [hr]
    have hs' : 400 < (s.size : Int) := by omega
    clear hs hr
    go_enter Tryd.func49, Tryd.ntmps49
    go_wp2
    go_ret2
    exact ⟨_, rfl, World.ownsRow_nil _ _ _ _, Below.refl _ _⟩

end Go.Proofs.YtmjpmmkjfimopaaDoor
