/- strings.Clone: the same bytes; nothing that was there has turned. After the kit's own proof of its kin. The program's appendPart: a part and all its own are put behind a row of types. -/
import Derived.Test.YtpajdmhakdbkjaaRows
import Derived.Lib.Strings
import Derived.Lib.Walk
import Derived.Lib.BufferWrite
import Derived.Lib.UnsafeStr
import Derived.Lib.Hide
import Derived.Laws.MakeOwn
import Derived.WalkKit
import Derived.ProofKit
import Derived.Test.YtpajdmhakdbkjaaGj
import Derived.Test.YtpajdmhakdbkjaaGa
import Derived.Test.YtpajdmhakdbkjaaSpD
import Derived.Test.YtpajdmhakdbkjaaGg
import Derived.Deep.DeepCutAuto
import Derived.Deep.RegionHeld3
import Derived.Deep.DrawnRows
namespace Go.Proofs.Ytpajdmhakdbkjaa
open Go.RowKit

theorem Try.infoU8c : (Try.prog.info? 5).map (fun i => (i.zero, i.size, i.bytes)) = some (some (.int .u8 0), 1, 1) := by kernel_rfl

set_option maxHeartbeats 4000000 in
set_option maxRecDepth 100000 in
theorem cloneLite_any (s : ByteArray) (w : World) (hlim : s.size ≤ 281474976710656) :
    Calls Try.prog 121 #[.string s] w fun e w' => e = .returned (.string s) ∧ Below w.heap.size w w' := by
  by_cases h0 : s.size = 0
  · have hs : s = ⟨#[]⟩ := by
      apply ByteArray.ext
      exact Array.eq_empty_of_size_eq_zero h0
    subst hs
    go_enter Try.func121, Try.ntmps121
    go_wp2
    go_ret
    exact ⟨rfl, Below.refl _ _⟩
  · obtain ⟨i0, hi, hz0, hz1, hz2⟩ := info_parts Try.infoU8c
    have hinfo : (Try.prog.info? 5).map (·.size) = some 1 := by rw [hi]; simp [hz1]
    have hco : Try.prog.cellsOf 5 = 1 := by simp [Program.cellsOf, hi, hz1]
    obtain ⟨M, hM⟩ : ∃ M, M = madeCells (Value.int .u8 0).cells (((s.size : Nat) : Int).toNat * i0.size) := ⟨_, rfl⟩
    have hMs : M.size = s.size := by rw [hM, size_madeCells, hz1]; simp
    have hmk : ∀ W : World, (Instr.makeSlice 22 (.int .i64 (s.size : Int)) (.int .i64 (s.size : Int))).run Try.prog W = .ok (.slice (some ⟨W.heap.size, 0, none⟩) s.size s.size) (W.alloc (.cells M 5)) := fun W => by
      have h := run_make (P := Try.prog) W 22 5 i0 (.int .u8 0) Try.underlying22 hi hz0 .i64 .i64 (s.size : Int) (s.size : Int) (by omega) (by omega) (by rw [hz2]; omega) (by omega)
      rw [← hM] at h
      simpa using h
    clear hM
    have hcp := Lib.run_copy_row_string (P := Try.prog) (w.alloc (.cells M 5)) 22 9 3 5 w.heap.size 0 s.size s.size s M 5 Try.underlying22 hinfo (heap_alloc_new w _) (Nat.le_refl _) (by omega)
    obtain ⟨Y, hY⟩ : ∃ Y, Y = (M.toList.take 0 ++ Lib.byteCells s.data.toList ++ M.toList.drop (0 + s.size)).toArray := ⟨_, rfl⟩
    rw [← hY] at hcp
    have hYl : Y.toList = Lib.byteCells s.data.toList := by
      rw [hY, List.toList_toArray, List.take_zero, List.nil_append, List.drop_of_length_le (by rw [Array.length_toList]; omega), List.append_nil]
    have hYs : Y.size = s.size := by rw [← Array.length_toList, hYl, Lib.byteCells_length, ← Lib.size_eq]
    have hgY : ((w.alloc (.cells M 5)).setRow w.heap.size Y).heap[w.heap.size]? = some (.cells Y 5 (0, 0)) := setRow_heap _ _ M _ 5 (0, 0) (heap_alloc_new w _)
    have hne : s.data.toList ≠ [] := fun e => h0 (by rw [Lib.size_eq, e]; rfl)
    have hUS := Lib.run_unsafeString_row (P := Try.prog) ((w.alloc (.cells M 5)).setRow w.heap.size Y) 170 3 9 5 Try.underlying170 hco w.heap.size Y.size (by unfold World.shape?; rw [hgY]) s.data.toList hne (by rw [← Lib.size_eq]; omega) (by rw [← Lib.size_eq]; omega)
      (fun j x hx => Lib.cells_of_row hgY Y.size j _ (by rw [List.take_of_length_le (by rw [Array.length_toList]; exact Nat.le_refl _), hYl]; simp [Lib.byteCells, hx]))
    rw [← Lib.size_eq] at hUS
    clear hY
    go_enter Try.func121, Try.ntmps121
    go_wp2
    go_ret
    have hb1 : Below w.heap.size w (w.alloc (.cells M 5)) := (Below.refl _ w).alloc (Nat.le_refl _) _
    have hb2 : Below w.heap.size (w.alloc (.cells M 5)) ((w.alloc (.cells M 5)).setRow w.heap.size Y) := ⟨rfl, rfl, rfl, by simp, fun k hk => setRow_other _ _ _ _ (by omega)⟩
    exact ⟨rfl, Lib.below_freeze (hb1.trans hb2) (p := ⟨w.heap.size, 0, none⟩) (Nat.le_refl _) _⟩

set_option maxHeartbeats 400000 in
set_option maxRecDepth 100000 in
theorem clone_any (s : ByteArray) (w : World) (hlim : s.size ≤ 281474976710656) :
    Calls Try.prog 92 #[.string s] w fun e w' => e = .returned (.string s) ∧ Below w.heap.size w w' := by
  go_enter Try.func92, Try.ntmps92
  go_wp2_with fail
  refine (cloneLite_any s _ hlim).mono ?_
  rintro e w1 ⟨rfl, hb⟩
  go_wp2
  go_ret
  exact ⟨rfl, hb⟩

end Go.Proofs.Ytpajdmhakdbkjaa

namespace Go.Proofs.Ytpajdmhakdbkjaa
open Go.RowKit Plain Sch
attribute [local go_sem ↓] Go.wp_at_zero Go.wp_at_succ

theorem one6P {k : Int} {nm : ByteArray} {no : Int} {m : Bool} {up mo : Int} : ∀ u ∈ [Value.int .i64 k, .string nm, .int .i64 no, .bool m, .int .i64 up, .int .i64 mo], u.oneCell' = true := by
  intro u hu
  simp at hu
  rcases hu with rfl | rfl | rfl | rfl | rfl | rfl <;> rfl

theorem TyRow.below' {w w' : World} {B : Nat} {v : Value} {L : List Ty} (h : TyRow w B v L) (hb : Below w.heap.size w w') : TyRow w' B v L := own_below h hb

theorem s4_below {b n : Nat} {x0 x1 x2 x3 : Value} {W w' : World} (h : W.cell? ⟨b, 0, none⟩ = some x0 ∧ W.cell? ⟨b, 1, none⟩ = some x1 ∧ W.cell? ⟨b, 2, none⟩ = some x2 ∧ W.cell? ⟨b, 3, none⟩ = some x3) (hb : Below n W w') (hn : b < n) :
    w'.cell? ⟨b, 0, none⟩ = some x0 ∧ w'.cell? ⟨b, 1, none⟩ = some x1 ∧ w'.cell? ⟨b, 2, none⟩ = some x2 ∧ w'.cell? ⟨b, 3, none⟩ = some x3 :=
  ⟨(hb.cell (p := ⟨b, 0, none⟩) hn).trans h.1, (hb.cell (p := ⟨b, 1, none⟩) hn).trans h.2.1, (hb.cell (p := ⟨b, 2, none⟩) hn).trans h.2.2.1, (hb.cell (p := ⟨b, 3, none⟩) hn).trans h.2.2.2⟩

theorem s4_grow {b : Nat} {x0 x1 x2 x3 : Value} {W w' : World} {row : Option Nat} (h : W.cell? ⟨b, 0, none⟩ = some x0 ∧ W.cell? ⟨b, 1, none⟩ = some x1 ∧ W.cell? ⟨b, 2, none⟩ = some x2 ∧ W.cell? ⟨b, 3, none⟩ = some x3) (hg : W.grownBy w' row) (hb : b < W.heap.size) (hne : some b ≠ row) :
    w'.cell? ⟨b, 0, none⟩ = some x0 ∧ w'.cell? ⟨b, 1, none⟩ = some x1 ∧ w'.cell? ⟨b, 2, none⟩ = some x2 ∧ w'.cell? ⟨b, 3, none⟩ = some x3 :=
  ⟨(hg.cell_far ⟨b, 0, none⟩ hb hne).trans h.1, (hg.cell_far ⟨b, 1, none⟩ hb hne).trans h.2.1, (hg.cell_far ⟨b, 2, none⟩ hb hne).trans h.2.2.1, (hg.cell_far ⟨b, 3, none⟩ hb hne).trans h.2.2.2⟩

theorem head_grow {w W1 w3 w9 : World} {g9 cap9 n : Nat} {rv : Value} {ob : Obj} (hB1 : Below w.heap.size w W1) (hs1 : W1.heap.size = w.heap.size + 1) (hbw3 : Below (w.heap.size + 1) W1 w3) 
    (hgrow9 : (w3.alloc ob).grownBy w9 rv.ownBlock) (hat9 : rv.ownBlock = some g9 ∨ g9 = w3.heap.size + 1) : Grow w w9 rv (.slice (some ⟨g9, 0, none⟩) n cap9) := by
  have h3 := hbw3.size
  have h9 := hgrow9.size
  simp at h9
  refine ⟨⟨?_, ?_, ?_, by omega, fun j hj hne => ?_⟩, ?_⟩
  · exact hgrow9.os.trans (hbw3.os.trans hB1.os)
  · exact hgrow9.tape.trans (hbw3.tape.trans hB1.tape)
  · exact hgrow9.output.trans (hbw3.output.trans hB1.output)
  · rw [hgrow9.block j (by simp; omega) hne, Below.heap_alloc _ _ _ (by omega), hbw3.block j (by omega), hB1.block j hj]
  · rcases hat9 with h | h
    · exact .inl h.symm
    · exact .inr (fun g hg => by simp [Value.ownBlock] at hg; omega)

theorem kindNum (w : World) : Calls Try.prog 145 #[.agg #[]] w fun e w' => e = .returned (.int .i64 1) ∧ Below w.heap.size w w' := by
  go_enter Try.func145, Try.ntmps145
  go_wp2
  go_ret
  exact ⟨rfl, by go_grown⟩

theorem kindTxt (w : World) : Calls Try.prog 147 #[.agg #[]] w fun e w' => e = .returned (.int .i64 2) ∧ Below w.heap.size w w' := by
  go_enter Try.func147, Try.ntmps147
  go_wp2
  go_ret
  exact ⟨rfl, by go_grown⟩

theorem kindEnu (mo : Int) (w : World) : Calls Try.prog 146 #[.agg #[.int .i64 mo]] w fun e w' => e = .returned (.int .i64 3) ∧ Below w.heap.size w w' := by
  go_enter Try.func146, Try.ntmps146
  go_wp2
  go_ret
  exact ⟨rfl, by go_grown⟩

theorem kindLst (xa : TypeId) (xv : Value) (w : World) : Calls Try.prog 143 #[.agg #[.iface xa xv]] w fun e w' => e = .returned (.int .i64 4) ∧ Below w.heap.size w w' := by
  go_enter Try.func143, Try.ntmps143
  go_wp2
  go_ret
  exact ⟨rfl, by go_grown⟩

theorem kindMsg (ap : Option Addr) (np cp : Nat) (w : World) : Calls Try.prog 144 #[.agg #[.slice ap np cp]] w fun e w' => e = .returned (.int .i64 5) ∧ Below w.heap.size w w' := by
  go_enter Try.func144, Try.ntmps144
  go_wp2
  go_ret
  exact ⟨rfl, by go_grown⟩

set_option maxRecDepth 100000 in
set_option maxHeartbeats 4000000 in
theorem appendPartNum (rv : Value) (nm : ByteArray) (no : Int) (mu : Bool) (up : Int) (L : List Ty) (B : Nat) (w : World) (hown : TyRow w B rv L) (hBw : B ≤ w.heap.size) (hlim : L.length + 1 ≤ 1000000) (hnm : nm.size ≤ 10) :
    Calls Try.prog 94 #[rv, .agg #[.string nm, .int .i64 no, .bool mu, .iface 136 (.agg #[])], .int .i64 up] w fun e w' => ∃ rv', e = .returned rv' ∧ TyRow w' B rv' (L ++ [⟨1, nm, no, mu, up, 0⟩]) ∧ Grow w w' rv rv' := by
  obtain ⟨i0, hi, hz0, hz1, hz2⟩ := info_parts Try.infoTy
  have hlt0 := hown.lt
  obtain ⟨ar, capr, rfl, hnr, hcmr⟩ := ownSlice hown
  have hcmr' : capr ≤ 9223372036854775807 := by unfold maxLen at hcmr; omega
  obtain ⟨W1, hW1⟩ : ∃ W, W = w.alloc (.cells #[.string nm, .int .i64 no, .bool mu, .iface 136 (.agg #[])] 73) := ⟨_, rfl⟩
  have HS1 : Hid (W1.heap.size = w.heap.size + 1) := by show _ = _; rw [hW1]; simp
  have hB1 : Below w.heap.size w W1 := by rw [hW1]; exact (Below.refl _ w).alloc (Nat.le_refl _) _
  have b0 : W1.cell? ⟨w.heap.size, 0, none⟩ = some (.string nm) := by rw [hW1]; go_simp
  have b1 : W1.cell? ⟨w.heap.size, 1, none⟩ = some (.int .i64 no) := by rw [hW1]; go_simp
  have b2 : W1.cell? ⟨w.heap.size, 2, none⟩ = some (.bool mu) := by rw [hW1]; go_simp
  have b3 : W1.cell? ⟨w.heap.size, 3, none⟩ = some (.iface 136 (.agg #[])) := by rw [hW1]; go_simp
  have s1 : W1.cell? ⟨w.heap.size, 0, none⟩ = some (.string nm) ∧ W1.cell? ⟨w.heap.size, 1, none⟩ = some (.int .i64 no) ∧ W1.cell? ⟨w.heap.size, 2, none⟩ = some (.bool mu) ∧ W1.cell? ⟨w.heap.size, 3, none⟩ = some (.iface 136 (.agg #[])) := ⟨b0, b1, b2, b3⟩
  have hown1 : Hid (W1.ownsRow B 38 6 (.slice ar L.length capr) L.length (L.flatMap Ty.cells)) := own_below hown hB1
  have HOW : Hid (TyRow w B (.slice ar L.length capr) L) := hown
  clear b0 b1 b2 b3 hown
  have hne0 : some w.heap.size ≠ (Value.slice ar L.length capr).ownBlock := fun e => by have := (hlt0 _ e.symm).2; omega
  have ta0 := taNumEnu
  have ta1 := taNumLst
  have ta2 := taNumMsg
  go_enter Try.func94, Try.ntmps94
  go_upto_region 2 with fail
  rw [← hW1]
  clear hW1
  have hbw1d : Below (w.heap.size + 1) W1 W1.drew := (Below.refl _ _).drew
  have s1d := s4_below s1 hbw1d (by omega)
  go_region_held3 (fun w' => w'.cell? ⟨w.heap.size, 0, none⟩ = some (.string nm) ∧ w'.cell? ⟨w.heap.size, 1, none⟩ = some (.int .i64 no) ∧ w'.cell? ⟨w.heap.size, 2, none⟩ = some (.bool mu) ∧ w'.cell? ⟨w.heap.size, 3, none⟩ = some (.iface 136 (.agg #[])))
    (first | exact s9 | exact s3a | exact s3 | exact s2 | exact s1d | exact s1)
    (first
      | (go_at_call 145; refine (kindNum _).mono ?_; rintro e w2 ⟨rfl, hb2⟩; have hbw2 : Below (w.heap.size + 1) W1 w2 := hbw1d.trans (hb2.mono (by have := HS1.out; show _ ≤ W1.heap.size; omega)); have s2 := s4_below s1 hbw2 (by omega))
      | (go_at_call 92; refine (clone_any nm _ (by omega)).mono ?_; rintro e w3 ⟨rfl, hb3⟩; have hbw3 : Below (w.heap.size + 1) W1 w3 := hbw2.trans (hb3.mono (by have h1 := hbw2.size; have := HS1.out; omega)); have s3 := s4_below s1 hbw3 (by omega); have hown3 := own_below hown1.out (show Below W1.heap.size W1 w3 from by rw [HS1.out]; exact hbw3); have hz3 : w.heap.size < w3.heap.size := (by have h1 := hbw3.size; have := HS1.out; omega); have s3a := s4_below s3 ((Below.refl _ w3).alloc (Nat.le_refl _) (.cells #[.int .i64 1, .string nm, .int .i64 no, .bool mu, .int .i64 up, .int .i64 0] 38)) hz3)
      | (refine step_append_lies _ (by rfl) _ _ _ (by rfl) B 38 i0 (.agg #[.int .i64 0, .string ⟨#[]⟩, .int .i64 0, .bool false, .int .i64 0, .int .i64 0]) 6 56 Try.underlying23 hi hz0 hz1 hz2 rfl (by decide) _ L.length _ (by rfl) (hown3.alloc _) ⟨w3.heap.size, 0, none⟩ 1 1 [.int .i64 1, .string nm, .int .i64 no, .bool mu, .int .i64 up, .int .i64 0] (by rfl) rfl (World.news_of_block (heap_alloc_new w3 _)) one6P (by omega) (by unfold maxLen; omega) (by omega) (by simp; omega) (w3.heap.size + 1) (by simp) ?_; intro g9 cap9 w9 hown9 hgrow9 hat9 hlt9; have s9 := s4_grow s3a hgrow9 (by simp; omega) hne0))
  have hG9 : Grow w w9 (.slice ar L.length capr) (.slice (some ⟨g9, 0, none⟩) (L.length + 1) cap9) := head_grow hB1 HS1.out hbw3 hgrow9 hat9
  have hown9' : TyRow w9 B (.slice (some ⟨g9, 0, none⟩) (L.length + 1) cap9) (L ++ [⟨1, nm, no, mu, up, 0⟩]) := by
    unfold TyRow
    rw [List.length_append, List.length_singleton, List.flatMap_append]
    simpa [Ty.cells] using hown9
  obtain ⟨_, _, _, b39⟩ := s9
  have hz9 : w.heap.size < w9.heap.size := by have := hgrow9.size; simp at this; omega
  clear hown9 hgrow9 hat9 s3a s3 s2 s1d s1 hbw1d hbw2 hbw3 hb2 hb3 hown3 hz3 hown1
  have HG9 : Hid (Grow w w9 (.slice ar L.length capr) (.slice (some ⟨g9, 0, none⟩) (L.length + 1) cap9)) := hG9
  have HO9 := hown9'
  go_wp2
  go_ret
  exact ⟨_, rfl, HO9, HG9.out⟩

set_option maxRecDepth 100000 in
set_option maxHeartbeats 4000000 in
theorem appendPartTxt (rv : Value) (nm : ByteArray) (no : Int) (mu : Bool) (up : Int) (L : List Ty) (B : Nat) (w : World) (hown : TyRow w B rv L) (hBw : B ≤ w.heap.size) (hlim : L.length + 1 ≤ 1000000) (hnm : nm.size ≤ 10) :
    Calls Try.prog 94 #[rv, .agg #[.string nm, .int .i64 no, .bool mu, .iface 140 (.agg #[])], .int .i64 up] w fun e w' => ∃ rv', e = .returned rv' ∧ TyRow w' B rv' (L ++ [⟨2, nm, no, mu, up, 0⟩]) ∧ Grow w w' rv rv' := by
  obtain ⟨i0, hi, hz0, hz1, hz2⟩ := info_parts Try.infoTy
  have hlt0 := hown.lt
  obtain ⟨ar, capr, rfl, hnr, hcmr⟩ := ownSlice hown
  have hcmr' : capr ≤ 9223372036854775807 := by unfold maxLen at hcmr; omega
  obtain ⟨W1, hW1⟩ : ∃ W, W = w.alloc (.cells #[.string nm, .int .i64 no, .bool mu, .iface 140 (.agg #[])] 73) := ⟨_, rfl⟩
  have HS1 : Hid (W1.heap.size = w.heap.size + 1) := by show _ = _; rw [hW1]; simp
  have hB1 : Below w.heap.size w W1 := by rw [hW1]; exact (Below.refl _ w).alloc (Nat.le_refl _) _
  have b0 : W1.cell? ⟨w.heap.size, 0, none⟩ = some (.string nm) := by rw [hW1]; go_simp
  have b1 : W1.cell? ⟨w.heap.size, 1, none⟩ = some (.int .i64 no) := by rw [hW1]; go_simp
  have b2 : W1.cell? ⟨w.heap.size, 2, none⟩ = some (.bool mu) := by rw [hW1]; go_simp
  have b3 : W1.cell? ⟨w.heap.size, 3, none⟩ = some (.iface 140 (.agg #[])) := by rw [hW1]; go_simp
  have s1 : W1.cell? ⟨w.heap.size, 0, none⟩ = some (.string nm) ∧ W1.cell? ⟨w.heap.size, 1, none⟩ = some (.int .i64 no) ∧ W1.cell? ⟨w.heap.size, 2, none⟩ = some (.bool mu) ∧ W1.cell? ⟨w.heap.size, 3, none⟩ = some (.iface 140 (.agg #[])) := ⟨b0, b1, b2, b3⟩
  have hown1 : Hid (W1.ownsRow B 38 6 (.slice ar L.length capr) L.length (L.flatMap Ty.cells)) := own_below hown hB1
  have HOW : Hid (TyRow w B (.slice ar L.length capr) L) := hown
  clear b0 b1 b2 b3 hown
  have hne0 : some w.heap.size ≠ (Value.slice ar L.length capr).ownBlock := fun e => by have := (hlt0 _ e.symm).2; omega
  have ta0 := taTxtEnu
  have ta1 := taTxtLst
  have ta2 := taTxtMsg
  go_enter Try.func94, Try.ntmps94
  go_upto_region 2 with fail
  rw [← hW1]
  clear hW1
  have hbw1d : Below (w.heap.size + 1) W1 W1.drew := (Below.refl _ _).drew
  have s1d := s4_below s1 hbw1d (by omega)
  go_region_held3 (fun w' => w'.cell? ⟨w.heap.size, 0, none⟩ = some (.string nm) ∧ w'.cell? ⟨w.heap.size, 1, none⟩ = some (.int .i64 no) ∧ w'.cell? ⟨w.heap.size, 2, none⟩ = some (.bool mu) ∧ w'.cell? ⟨w.heap.size, 3, none⟩ = some (.iface 140 (.agg #[])))
    (first | exact s9 | exact s3a | exact s3 | exact s2 | exact s1d | exact s1)
    (first
      | (go_at_call 147; refine (kindTxt _).mono ?_; rintro e w2 ⟨rfl, hb2⟩; have hbw2 : Below (w.heap.size + 1) W1 w2 := hbw1d.trans (hb2.mono (by have := HS1.out; show _ ≤ W1.heap.size; omega)); have s2 := s4_below s1 hbw2 (by omega))
      | (go_at_call 92; refine (clone_any nm _ (by omega)).mono ?_; rintro e w3 ⟨rfl, hb3⟩; have hbw3 : Below (w.heap.size + 1) W1 w3 := hbw2.trans (hb3.mono (by have h1 := hbw2.size; have := HS1.out; omega)); have s3 := s4_below s1 hbw3 (by omega); have hown3 := own_below hown1.out (show Below W1.heap.size W1 w3 from by rw [HS1.out]; exact hbw3); have hz3 : w.heap.size < w3.heap.size := (by have h1 := hbw3.size; have := HS1.out; omega); have s3a := s4_below s3 ((Below.refl _ w3).alloc (Nat.le_refl _) (.cells #[.int .i64 2, .string nm, .int .i64 no, .bool mu, .int .i64 up, .int .i64 0] 38)) hz3)
      | (refine step_append_lies _ (by rfl) _ _ _ (by rfl) B 38 i0 (.agg #[.int .i64 0, .string ⟨#[]⟩, .int .i64 0, .bool false, .int .i64 0, .int .i64 0]) 6 56 Try.underlying23 hi hz0 hz1 hz2 rfl (by decide) _ L.length _ (by rfl) (hown3.alloc _) ⟨w3.heap.size, 0, none⟩ 1 1 [.int .i64 2, .string nm, .int .i64 no, .bool mu, .int .i64 up, .int .i64 0] (by rfl) rfl (World.news_of_block (heap_alloc_new w3 _)) one6P (by omega) (by unfold maxLen; omega) (by omega) (by simp; omega) (w3.heap.size + 1) (by simp) ?_; intro g9 cap9 w9 hown9 hgrow9 hat9 hlt9; have s9 := s4_grow s3a hgrow9 (by simp; omega) hne0))
  have hG9 : Grow w w9 (.slice ar L.length capr) (.slice (some ⟨g9, 0, none⟩) (L.length + 1) cap9) := head_grow hB1 HS1.out hbw3 hgrow9 hat9
  have hown9' : TyRow w9 B (.slice (some ⟨g9, 0, none⟩) (L.length + 1) cap9) (L ++ [⟨2, nm, no, mu, up, 0⟩]) := by
    unfold TyRow
    rw [List.length_append, List.length_singleton, List.flatMap_append]
    simpa [Ty.cells] using hown9
  obtain ⟨_, _, _, b39⟩ := s9
  have hz9 : w.heap.size < w9.heap.size := by have := hgrow9.size; simp at this; omega
  clear hown9 hgrow9 hat9 s3a s3 s2 s1d s1 hbw1d hbw2 hbw3 hb2 hb3 hown3 hz3 hown1
  have HG9 : Hid (Grow w w9 (.slice ar L.length capr) (.slice (some ⟨g9, 0, none⟩) (L.length + 1) cap9)) := hG9
  have HO9 := hown9'
  go_wp2
  go_ret
  exact ⟨_, rfl, HO9, HG9.out⟩

set_option maxRecDepth 100000 in
set_option maxHeartbeats 4000000 in
theorem appendPartEnu (mo : Int) (rv : Value) (nm : ByteArray) (no : Int) (mu : Bool) (up : Int) (L : List Ty) (B : Nat) (w : World) (hown : TyRow w B rv L) (hBw : B ≤ w.heap.size) (hlim : L.length + 1 ≤ 1000000) (hnm : nm.size ≤ 10) :
    Calls Try.prog 94 #[rv, .agg #[.string nm, .int .i64 no, .bool mu, .iface 138 (.agg #[.int .i64 mo])], .int .i64 up] w fun e w' => ∃ rv', e = .returned rv' ∧ TyRow w' B rv' (L ++ [⟨3, nm, no, mu, up, mo⟩]) ∧ Grow w w' rv rv' := by
  obtain ⟨i0, hi, hz0, hz1, hz2⟩ := info_parts Try.infoTy
  have hlt0 := hown.lt
  obtain ⟨ar, capr, rfl, hnr, hcmr⟩ := ownSlice hown
  have hcmr' : capr ≤ 9223372036854775807 := by unfold maxLen at hcmr; omega
  obtain ⟨W1, hW1⟩ : ∃ W, W = w.alloc (.cells #[.string nm, .int .i64 no, .bool mu, .iface 138 (.agg #[.int .i64 mo])] 73) := ⟨_, rfl⟩
  have HS1 : Hid (W1.heap.size = w.heap.size + 1) := by show _ = _; rw [hW1]; simp
  have hB1 : Below w.heap.size w W1 := by rw [hW1]; exact (Below.refl _ w).alloc (Nat.le_refl _) _
  have b0 : W1.cell? ⟨w.heap.size, 0, none⟩ = some (.string nm) := by rw [hW1]; go_simp
  have b1 : W1.cell? ⟨w.heap.size, 1, none⟩ = some (.int .i64 no) := by rw [hW1]; go_simp
  have b2 : W1.cell? ⟨w.heap.size, 2, none⟩ = some (.bool mu) := by rw [hW1]; go_simp
  have b3 : W1.cell? ⟨w.heap.size, 3, none⟩ = some (.iface 138 (.agg #[.int .i64 mo])) := by rw [hW1]; go_simp
  have s1 : W1.cell? ⟨w.heap.size, 0, none⟩ = some (.string nm) ∧ W1.cell? ⟨w.heap.size, 1, none⟩ = some (.int .i64 no) ∧ W1.cell? ⟨w.heap.size, 2, none⟩ = some (.bool mu) ∧ W1.cell? ⟨w.heap.size, 3, none⟩ = some (.iface 138 (.agg #[.int .i64 mo])) := ⟨b0, b1, b2, b3⟩
  have hown1 : Hid (W1.ownsRow B 38 6 (.slice ar L.length capr) L.length (L.flatMap Ty.cells)) := own_below hown hB1
  have HOW : Hid (TyRow w B (.slice ar L.length capr) L) := hown
  clear b0 b1 b2 b3 hown
  have hne0 : some w.heap.size ≠ (Value.slice ar L.length capr).ownBlock := fun e => by have := (hlt0 _ e.symm).2; omega
  have ta0 := taEnuEnu
  go_enter Try.func94, Try.ntmps94
  go_upto_region 2 with fail
  rw [← hW1]
  clear hW1
  have hbw1d : Below (w.heap.size + 1) W1 W1.drew := (Below.refl _ _).drew
  have s1d := s4_below s1 hbw1d (by omega)
  go_region_held3 (fun w' => w'.cell? ⟨w.heap.size, 0, none⟩ = some (.string nm) ∧ w'.cell? ⟨w.heap.size, 1, none⟩ = some (.int .i64 no) ∧ w'.cell? ⟨w.heap.size, 2, none⟩ = some (.bool mu) ∧ w'.cell? ⟨w.heap.size, 3, none⟩ = some (.iface 138 (.agg #[.int .i64 mo])))
    (first | exact s9 | exact s3a | exact s3 | exact s2 | exact s1d | exact s1)
    (first
      | (go_at_call 146; refine (kindEnu mo _).mono ?_; rintro e w2 ⟨rfl, hb2⟩; have hbw2 : Below (w.heap.size + 1) W1 w2 := hbw1d.trans (hb2.mono (by have := HS1.out; show _ ≤ W1.heap.size; omega)); have s2 := s4_below s1 hbw2 (by omega))
      | (go_at_call 92; refine (clone_any nm _ (by omega)).mono ?_; rintro e w3 ⟨rfl, hb3⟩; have hbw3 : Below (w.heap.size + 1) W1 w3 := hbw2.trans (hb3.mono (by have h1 := hbw2.size; have := HS1.out; omega)); have s3 := s4_below s1 hbw3 (by omega); have hown3 := own_below hown1.out (show Below W1.heap.size W1 w3 from by rw [HS1.out]; exact hbw3); have hz3 : w.heap.size < w3.heap.size := (by have h1 := hbw3.size; have := HS1.out; omega); have s3a := s4_below s3 ((Below.refl _ w3).alloc (Nat.le_refl _) (.cells #[.int .i64 3, .string nm, .int .i64 no, .bool mu, .int .i64 up, .int .i64 0] 38)) hz3)
      | (refine step_append_lies _ (by rfl) _ _ _ (by rfl) B 38 i0 (.agg #[.int .i64 0, .string ⟨#[]⟩, .int .i64 0, .bool false, .int .i64 0, .int .i64 0]) 6 56 Try.underlying23 hi hz0 hz1 hz2 rfl (by decide) _ L.length _ (by rfl) (hown3.alloc _) ⟨w3.heap.size, 0, none⟩ 1 1 [.int .i64 3, .string nm, .int .i64 no, .bool mu, .int .i64 up, .int .i64 0] (by rfl) rfl (World.news_of_block (heap_alloc_new w3 _)) one6P (by omega) (by unfold maxLen; omega) (by omega) (by simp; omega) (w3.heap.size + 1) (by simp) ?_; intro g9 cap9 w9 hown9 hgrow9 hat9 hlt9; have s9 := s4_grow s3a hgrow9 (by simp; omega) hne0))
  have hG9 : Grow w w9 (.slice ar L.length capr) (.slice (some ⟨g9, 0, none⟩) (L.length + 1) cap9) := head_grow hB1 HS1.out hbw3 hgrow9 hat9
  have hown9' : TyRow w9 B (.slice (some ⟨g9, 0, none⟩) (L.length + 1) cap9) (L ++ [⟨3, nm, no, mu, up, 0⟩]) := by
    unfold TyRow
    rw [List.length_append, List.length_singleton, List.flatMap_append]
    simpa [Ty.cells] using hown9
  obtain ⟨_, _, _, b39⟩ := s9
  have hz9 : w.heap.size < w9.heap.size := by have := hgrow9.size; simp at this; omega
  clear hown9 hgrow9 hat9 s3a s3 s2 s1d s1 hbw1d hbw2 hbw3 hb2 hb3 hown3 hz3 hown1
  have hr : w9.ownsRow B 38 6 (.slice (some ⟨g9, 0, none⟩) (L.length + 1) cap9) (L.length + 1) ((L ++ [(⟨3, nm, no, mu, up, 0⟩ : Ty)]).flatMap Ty.cells) := by
    have h := hown9'
    unfold TyRow at h
    rwa [List.length_append, List.length_singleton] at h
  have q5 : w9.cell? ⟨g9, L.length * 6 + 5, none⟩ = some (.int .i64 0) := by
    rw [hr.cellAt (L.length * 6 + 5) (by omega)]
    rw [List.flatMap_append, List.getElem?_append_right (by rw [flat6T_len]; omega), flat6T_len]
    rw [show L.length * 6 + 5 - L.length * 6 = 5 by omega]
    rfl
  have z5 := hr.frozenAt (L.length * 6 + 5)
  have HST : Hid (TyRow (w9.setCell ⟨g9, L.length * 6 + 5, none⟩ (.int .i64 mo)) B (.slice (some ⟨g9, 0, none⟩) (L.length + 1) cap9) (L ++ [⟨3, nm, no, mu, up, mo⟩])) := by
    have h := (hr.stored (L.length * 6 + 5) (.int .i64 mo)).1
    show World.ownsRow _ _ _ _ _ _ _
    rw [List.length_append, List.length_singleton]
    have e : ((L ++ [(⟨3, nm, no, mu, up, 0⟩ : Ty)]).flatMap Ty.cells).set (L.length * 6 + 5) (.int .i64 mo) = (L ++ [(⟨3, nm, no, mu, up, mo⟩ : Ty)]).flatMap Ty.cells := by
      rw [List.flatMap_append, List.flatMap_append, List.set_append_right _ _ (by rw [flat6T_len]; omega), flat6T_len, show L.length * 6 + 5 - L.length * 6 = 5 by omega]
      rfl
    rw [← e]
    exact h
  have HGS : Hid (Grow w (w9.setCell ⟨g9, L.length * 6 + 5, none⟩ (.int .i64 mo)) (.slice ar L.length capr) (.slice (some ⟨g9, 0, none⟩) (L.length + 1) cap9)) := hG9.trans ⟨Lib.grownBy_setCell _ g9 (L.length * 6 + 5) (.int .i64 mo), .inl rfl⟩
  have hg9lt : g9 < w9.heap.size := hlt9
  have hLb : (L.length : Int) < (L.length : Int) + 1 := by omega
  have hL0 : (0 : Int) ≤ (L.length : Int) := by omega
  have hc9 : cap9 ≤ 9223372036854775807 := by
    obtain ⟨_, _, e, h1, h2⟩ := ownSlice hr
    simp only [Value.slice.injEq] at e
    rw [e.2.2]
    unfold maxLen at h2
    omega
  clear hG9 hown9' hr
  go_wp2
  go_ret
  refine ⟨_, rfl, ?_, ?_⟩
  · exact TyRow.below' HST.out ((Below.refl _ _).alloc (Nat.le_refl _) _)
  · exact HGS.out.trans (Grow.below ((Below.refl _ _).alloc (Nat.le_refl _) _))

end Go.Proofs.Ytpajdmhakdbkjaa
