/- The law FnLattice: its walk. -/
import Derived.Test.YtbkdpcfghaiimaaBntB
import Derived.Test.YtbkdpcfghaiimaaSameA
import Derived.Test.YtbkdpcfghaiimaaLatA
import Derived.Test.YtbkdpcfghaiimaaMeE
import Derived.Test.YtbkdpcfghaiimaaMeK
import Derived.Test.YtbkdpcfghaiimaaJoE
import Derived.Test.YtbkdpcfghaiimaaCodeB
namespace Go.Proofs.Ytbkdpcfghaiimaa
open Go.RowKit Plain Sch

set_option maxRecDepth 100000 in
set_option maxHeartbeats 4000000 in
theorem drawMeetOf_any (ao : Option Addr) (len cap : Nat) (w : World) (hcode : CodeAt w ao len) :
    Calls Try.prog 11 #[.slice ao len cap] w (DrS w) := by
  obtain ⟨W2, hW2⟩ : ∃ W, W = (w.alloc (.cells #[.slice none 0 0] 25)).alloc (.cells #[.slice none 0 0] 25) := ⟨_, rfl⟩
  have hB2 : Below w.heap.size w W2 := by rw [hW2]; exact ((Below.refl _ w).alloc (Nat.le_refl _) _).alloc (by simp) _
  have HS2 : Hid (W2.heap.size = w.heap.size + 2) := by show _ = _; rw [hW2]; simp
  have q0 : W2.cell? ⟨w.heap.size, 0, none⟩ = some (.slice none 0 0) := by rw [hW2]; go_simp
  have q1 : W2.cell? ⟨w.heap.size + 1, 0, none⟩ = some (.slice none 0 0) := by rw [hW2]; go_simp
  have z0 : W2.frozen? ⟨w.heap.size, 0, none⟩ = false := by rw [hW2]; go_simp
  have z1 : W2.frozen? ⟨w.heap.size + 1, 0, none⟩ = false := by rw [hW2]; go_simp
  have hc2 : CodeAt W2 ao len := hcode.below hB2
  go_enter Try.func11, Try.ntmps11
  go_wp2_with fail
  rw [← hW2]
  clear hW2
  refine (drawIsSubtype_any ao len cap W2 hc2).mono ?_
  rintro e w3 ⟨a, ca, A, b, cb, B, rfl, hA, hB⟩
  have hb3 := hA.2.2.2.2
  have hs2 := HS2.out
  have q0 := (hb3.cell (p := ⟨w.heap.size, 0, none⟩) (by show w.heap.size < _; omega)).trans q0
  have q1 := (hb3.cell (p := ⟨w.heap.size + 1, 0, none⟩) (by show w.heap.size + 1 < _; omega)).trans q1
  have z0 := (hb3.frozen (p := ⟨w.heap.size, 0, none⟩) (by show w.heap.size < _; omega)).trans z0
  have z1 := (hb3.frozen (p := ⟨w.heap.size + 1, 0, none⟩) (by show w.heap.size + 1 < _; omega)).trans z1
  have hz3 : w.heap.size + 1 < w3.heap.size := by have := hb3.size; omega
  have hz30 : w.heap.size < w3.heap.size := by omega
  have HA : Hid (SmallSch W2 w3 (.slice (some ⟨a, 0, none⟩) A.length ca) A) := hA
  have HB : Hid (SmallSch W2 w3 (.slice (some ⟨b, 0, none⟩) B.length cb) B) := hB
  have HB3 : Hid (Below w.heap.size w w3) := hB2.trans (hb3.mono hB2.size)
  have HS2' : Hid (W2.heap.size = w.heap.size + 2) := HS2
  clear hA hB hb3 hs2 hc2 hcode hB2 HS2
  go_wp2
  (try simp only [Exit.inBlock, Exit.then])
  have HBE : Below w.heap.size w ((w3.setCell ⟨w.heap.size, 0, none⟩ (.slice (some ⟨a, 0, none⟩) A.length ca)).setCell ⟨w.heap.size + 1, 0, none⟩ (.slice (some ⟨b, 0, none⟩) B.length cb)) := (HB3.out.setCell (p := ⟨w.heap.size, 0, none⟩) (Nat.le_refl _) _).setCell (p := ⟨w.heap.size + 1, 0, none⟩) (by show w.heap.size ≤ w.heap.size + 1; omega) _
  have hs2 := HS2'.out
  have sm : ∀ (x c : Nat) (L : List Ty), SmallSch W2 w3 (.slice (some ⟨x, 0, none⟩) L.length c) L → SmallSch w ((w3.setCell ⟨w.heap.size, 0, none⟩ (.slice (some ⟨a, 0, none⟩) A.length ca)).setCell ⟨w.heap.size + 1, 0, none⟩ (.slice (some ⟨b, 0, none⟩) B.length cb)) (.slice (some ⟨x, 0, none⟩) L.length c) L := fun x c L h =>
    ⟨((h.1.setCell (a := ⟨w.heap.size, 0, none⟩) (by show w.heap.size < _; omega) _).setCell (a := ⟨w.heap.size + 1, 0, none⟩) (by show w.heap.size + 1 < _; omega) _).lower (by omega), h.2.1, h.2.2.1, h.2.2.2.1, HBE⟩
  refine bodyPost_ret (v := .tuple #[.agg #[.slice (some ⟨a, 0, none⟩) A.length ca], .agg #[.slice (some ⟨b, 0, none⟩) B.length cb]]) ?_ rfl ⟨a, ca, A, b, cb, B, rfl, sm a ca A HA.out, sm b cb B HB.out⟩
  rw [results_cell_cell rfl]
  go_simp

theorem SmallSch.allL {w w2 w3 : World} {a : Option Addr} {c : Nat} {L : List Ty} (h : SmallSch w w2 (.slice a L.length c) L) (hb : Below w2.heap.size w2 w3) : ∀ W, Below w3.heap.size w3 W → TysAt W W.heap.size (.slice a L.length c) L := fun W hW =>
  (((h.1.at h.2.2.2.1).below hb).below hW)

set_option maxRecDepth 100000 in
set_option maxHeartbeats 8000000 in
theorem walkFnLattice (a0 : Option Addr) (len0 cap0 : Nat) (w : World) (w0 : len0 ≤ 1048576 → CodeAt w a0 len0) (_y0 : len0 ≤ 140737488351232) :
    Calls Try.prog 3 #[.slice a0 len0 cap0] w fun e w' => e = .returned (.bool true) ∧ Below w.heap.size w w' := by
  by_cases hbig : 1048576 < (len0 : Int)
  · clear w0
    go_enter Try.func3, Try.ntmps3
    go_wp2
    go_ret
    exact ⟨rfl, Below.refl _ _⟩
  have hbig' : (len0 : Int) ≤ 1048576 := by omega
  have hk0 : Hid (CodeAt w a0 len0) := w0 (by omega)
  clear hbig w0
  go_enter Try.func3, Try.ntmps3
  go_wp2_with fail
  refine (drawMeetOf_any a0 len0 cap0 _ hk0.out).mono ?_
  rintro e w2 ⟨a, ca, A, b, cb, B, rfl, hA, hB⟩
  have hb2 := hA.2.2.2.2
  obtain ⟨W3, hW3⟩ : ∃ W, W = (w2.alloc (.cells #[.slice (some ⟨a, 0, none⟩) A.length ca] 25)).alloc (.cells #[.slice (some ⟨b, 0, none⟩) B.length cb] 25) := ⟨_, rfl⟩
  have hB3 : Below w2.heap.size w2 W3 := by rw [hW3]; exact ((Below.refl _ w2).alloc (Nat.le_refl _) _).alloc (by simp) _
  have HS3 : Hid (W3.heap.size = w2.heap.size + 2) := by show _ = _; rw [hW3]; simp
  have HC3 : Hid (∀ W : World, Below W3.heap.size W3 W → W.cell? ⟨w2.heap.size, 0, none⟩ = some (.slice (some ⟨a, 0, none⟩) A.length ca) ∧ W.cell? ⟨w2.heap.size + 1, 0, none⟩ = some (.slice (some ⟨b, 0, none⟩) B.length cb) ∧ w2.heap.size < W.heap.size ∧ w2.heap.size + 1 < W.heap.size) := fun W hW => by
    have hs := HS3.out
    have h2 := hW.size
    refine ⟨(hW.cell (p := ⟨w2.heap.size, 0, none⟩) (by show w2.heap.size < _; omega)).trans ?_, (hW.cell (p := ⟨w2.heap.size + 1, 0, none⟩) (by show w2.heap.size + 1 < _; omega)).trans ?_, by omega, by omega⟩
    · rw [hW3]; go_simp
    · rw [hW3]; go_simp
  have HTA : Hid (∀ W, Below W3.heap.size W3 W → TysAt W W.heap.size (.slice (some ⟨a, 0, none⟩) A.length ca) A) := hA.allL hB3
  have HTB : Hid (∀ W, Below W3.heap.size W3 W → TysAt W W.heap.size (.slice (some ⟨b, 0, none⟩) B.length cb) B) := hB.allL hB3
  have HB3 : Hid (Below w.heap.size w W3) := hb2.trans (hB3.mono hb2.size)
  clear hA hB hb2 hB3
  obtain ⟨M, okm, hM⟩ : ∃ M okm, mof A B = (M, okm) := ⟨_, _, rfl⟩
  obtain ⟨J, okj, hJ⟩ : ∃ J okj, jof A B = (J, okj) := ⟨_, _, rfl⟩
  have hMok := mof_ok A B
  have hJok := jof_ok A B
  rw [hM] at hMok
  rw [hJ] at hJok
  have HMS : Hid (okm = true → gs A = true ∧ gs B = true ∧ gs M = true ∧ sof M A = (true, true) ∧ sof M B = (true, true)) := fun h => mof_sub A B M (by rw [hM, h])
  have HJS : Hid (okj = true → gs A = true ∧ gs B = true ∧ gs J = true ∧ sof A J = (true, true) ∧ sof B J = (true, true) ∧ (sof A B = (true, true) → sof J B = (true, true))) := fun h => jof_sub A B J (by rw [hJ, h])
  have HMN : Hid (M.length ≤ 2097152 ∧ ∀ x ∈ M, x.name.size ≤ 10) := ⟨by have := hMok.1; dsimp only at this; omega, hMok.2⟩
  have HJN : Hid (J.length ≤ 2097152 ∧ ∀ x ∈ J, x.name.size ≤ 10) := ⟨by have := hJok.1; dsimp only at this; omega, hJok.2⟩
  have two : ∀ (f : Nat) (R : List Ty) (ok : Bool), (∀ v1 v2 W, TysAt W W.heap.size v1 A → TysAt W W.heap.size v2 B → Calls Try.prog f #[.agg #[v1], .agg #[v2]] W fun e w' => OSchema W w' e (R, ok)) → (∀ x ∈ R, x.name.size ≤ 10) → ∀ W, Below W3.heap.size W3 W → Calls Try.prog f #[.agg #[.slice (some ⟨a, 0, none⟩) A.length ca], .agg #[.slice (some ⟨b, 0, none⟩) B.length cb]] W fun e w' => ∃ ar cr, e = .returned (.tuple #[.agg #[.slice ar R.length cr], .bool ok]) ∧ TysAt w' w'.heap.size (.slice ar R.length cr) R ∧ Below W.heap.size W w' := fun f R ok h hn W hW => by
    refine (h _ _ W (HTA.out W hW) (HTB.out W hW)).mono ?_
    rintro e w' ⟨rv, rfl, hr, hb⟩
    have ht := TyRow.at hr hn
    obtain ⟨ar, cr, rfl, _⟩ := ownSlice hr
    exact ⟨ar, cr, rfl, ht, hb⟩
  have CIM : Hid (∀ W, Below W3.heap.size W3 W → Calls Try.prog 12 #[.agg #[.slice (some ⟨a, 0, none⟩) A.length ca], .agg #[.slice (some ⟨b, 0, none⟩) B.length cb]] W fun e w' => ∃ ar cr, e = .returned (.tuple #[.agg #[.slice ar M.length cr], .bool okm]) ∧ TysAt w' w'.heap.size (.slice ar M.length cr) M ∧ Below W.heap.size W w') := two _ M okm (fun v1 v2 W h1 h2 => by rw [← hM]; exact implMeet A B v1 v2 W h1 h2) HMN.out.2
  have CSM : Hid (∀ W, Below W3.heap.size W3 W → Calls Try.prog 13 #[.agg #[.slice (some ⟨a, 0, none⟩) A.length ca], .agg #[.slice (some ⟨b, 0, none⟩) B.length cb]] W fun e w' => ∃ ar cr, e = .returned (.tuple #[.agg #[.slice ar M.length cr], .bool okm]) ∧ TysAt w' w'.heap.size (.slice ar M.length cr) M ∧ Below W.heap.size W w') := two _ M okm (fun v1 v2 W h1 h2 => by rw [← hM]; exact specMeet A B v1 v2 W h1 h2) HMN.out.2
  have CIJ : Hid (∀ W, Below W3.heap.size W3 W → Calls Try.prog 14 #[.agg #[.slice (some ⟨a, 0, none⟩) A.length ca], .agg #[.slice (some ⟨b, 0, none⟩) B.length cb]] W fun e w' => ∃ ar cr, e = .returned (.tuple #[.agg #[.slice ar J.length cr], .bool okj]) ∧ TysAt w' w'.heap.size (.slice ar J.length cr) J ∧ Below W.heap.size W w') := two _ J okj (fun v1 v2 W h1 h2 => by rw [← hJ]; exact implJoin A B v1 v2 W h1 h2) HJN.out.2
  have CSJ : Hid (∀ W, Below W3.heap.size W3 W → Calls Try.prog 15 #[.agg #[.slice (some ⟨a, 0, none⟩) A.length ca], .agg #[.slice (some ⟨b, 0, none⟩) B.length cb]] W fun e w' => ∃ ar cr, e = .returned (.tuple #[.agg #[.slice ar J.length cr], .bool okj]) ∧ TysAt w' w'.heap.size (.slice ar J.length cr) J ∧ Below W.heap.size W w') := two _ J okj (fun v1 v2 W h1 h2 => by rw [← hJ]; exact specJoin A B v1 v2 W h1 h2) HJN.out.2
  have SB : Hid (∀ (X Y : List Ty) (b1 b2 : Bool), sof X Y = (b1, b2) → ∀ v1 v2 W, TysAt W W.heap.size v1 X → TysAt W W.heap.size v2 Y → Calls Try.prog 17 #[.agg #[v1], .agg #[v2]] W fun e w' => e = .returned (.tuple #[.bool b1, .bool b2]) ∧ Below W.heap.size W w') := fun X Y b1 b2 h v1 v2 W h1 h2 => by
    have hs := implSub X Y v1 v2 W h1 h2
    rw [h] at hs
    exact hs
  clear two hM hJ hMok hJok
  have hX4 : Below W3.heap.size W3 W3 := Below.refl _ _
  obtain ⟨k1, k2, k3, k4⟩ := HC3.out _ hX4
  go_wp2_with fail
  rw [← hW3]
  clear hW3
  refine (CIM.out _ hX4).mono ?_
  rintro e w4 ⟨r4, c4, rfl, ht4, hb4⟩
  obtain ⟨Y4, hY4⟩ : ∃ W, W = w4.alloc (.cells #[.slice r4 M.length c4] 25) := ⟨_, rfl⟩
  have hyb4 : Below w4.heap.size w4 Y4 := by rw [hY4]; exact (Below.refl _ w4).alloc (Nat.le_refl _) _
  have HSY4 : Hid (Y4.heap.size = w4.heap.size + 1) := by show _ = _; rw [hY4]; simp
  have HCY4 : Hid (∀ W, Below Y4.heap.size Y4 W → (W.cell? ⟨w4.heap.size, 0, none⟩ = some (.slice r4 M.length c4) ∧ w4.heap.size < W.heap.size) ∧ TysAt W W.heap.size (.slice r4 M.length c4) M) := fun W hW => by
    have hs := HSY4.out
    have h2 := hW.size
    exact ⟨⟨(hW.cell (p := ⟨w4.heap.size, 0, none⟩) (by show w4.heap.size < _; omega)).trans (by rw [hY4]; go_simp), by omega⟩, (ht4.below hyb4).below hW⟩
  have HXY4 : Hid (Below W3.heap.size W3 Y4) := hb4.trans (hyb4.mono hb4.size)
  have HKK4 : Hid (Below W3.heap.size W3 w4) := hX4.trans (hb4.mono hX4.size)
  clear ht4 hb4 hyb4
  have hX5 : Below W3.heap.size W3 Y4 := HXY4.out
  clear k1 k2 k3 k4
  obtain ⟨k1, k2, k3, k4⟩ := HC3.out _ hX5
  have kk4 : Below W3.heap.size W3 w4 := HKK4.out
  obtain ⟨l1, l2, l3, l4⟩ := HC3.out _ kk4
  go_wp2_with fail
  rw [← hY4]
  clear hY4 l1 l2 l3 l4
  refine (CSM.out _ hX5).mono ?_
  rintro e w5 ⟨r5, c5, rfl, ht5, hb5⟩
  obtain ⟨Y5, hY5⟩ : ∃ W, W = w5.alloc (.cells #[.slice r5 M.length c5] 25) := ⟨_, rfl⟩
  have hyb5 : Below w5.heap.size w5 Y5 := by rw [hY5]; exact (Below.refl _ w5).alloc (Nat.le_refl _) _
  have HSY5 : Hid (Y5.heap.size = w5.heap.size + 1) := by show _ = _; rw [hY5]; simp
  have HCY5 : Hid (∀ W, Below Y5.heap.size Y5 W → (W.cell? ⟨w5.heap.size, 0, none⟩ = some (.slice r5 M.length c5) ∧ w5.heap.size < W.heap.size) ∧ TysAt W W.heap.size (.slice r5 M.length c5) M) := fun W hW => by
    have hs := HSY5.out
    have h2 := hW.size
    exact ⟨⟨(hW.cell (p := ⟨w5.heap.size, 0, none⟩) (by show w5.heap.size < _; omega)).trans (by rw [hY5]; go_simp), by omega⟩, (ht5.below hyb5).below hW⟩
  have HXY5 : Hid (Below Y4.heap.size Y4 Y5) := hb5.trans (hyb5.mono hb5.size)
  have HKK5 : Hid (Below W3.heap.size W3 w5) := hX5.trans (hb5.mono hX5.size)
  clear ht5 hb5 hyb5
  have hX6 : Below W3.heap.size W3 Y5 := hX5.trans (HXY5.out.mono hX5.size)
  clear k1 k2 k3 k4
  obtain ⟨k1, k2, k3, k4⟩ := HC3.out _ hX6
  have kk5 : Below W3.heap.size W3 w5 := HKK5.out
  obtain ⟨l1, l2, l3, l4⟩ := HC3.out _ kk5
  go_wp2_with fail
  rw [← hY5]
  clear hY5 l1 l2 l3 l4
  refine (CIJ.out _ hX6).mono ?_
  rintro e w6 ⟨r6, c6, rfl, ht6, hb6⟩
  obtain ⟨Y6, hY6⟩ : ∃ W, W = w6.alloc (.cells #[.slice r6 J.length c6] 25) := ⟨_, rfl⟩
  have hyb6 : Below w6.heap.size w6 Y6 := by rw [hY6]; exact (Below.refl _ w6).alloc (Nat.le_refl _) _
  have HSY6 : Hid (Y6.heap.size = w6.heap.size + 1) := by show _ = _; rw [hY6]; simp
  have HCY6 : Hid (∀ W, Below Y6.heap.size Y6 W → (W.cell? ⟨w6.heap.size, 0, none⟩ = some (.slice r6 J.length c6) ∧ w6.heap.size < W.heap.size) ∧ TysAt W W.heap.size (.slice r6 J.length c6) J) := fun W hW => by
    have hs := HSY6.out
    have h2 := hW.size
    exact ⟨⟨(hW.cell (p := ⟨w6.heap.size, 0, none⟩) (by show w6.heap.size < _; omega)).trans (by rw [hY6]; go_simp), by omega⟩, (ht6.below hyb6).below hW⟩
  have HXY6 : Hid (Below Y5.heap.size Y5 Y6) := hb6.trans (hyb6.mono hb6.size)
  have HKK6 : Hid (Below W3.heap.size W3 w6) := hX6.trans (hb6.mono hX6.size)
  clear ht6 hb6 hyb6
  have hX7 : Below W3.heap.size W3 Y6 := hX6.trans (HXY6.out.mono hX6.size)
  clear k1 k2 k3 k4
  obtain ⟨k1, k2, k3, k4⟩ := HC3.out _ hX7
  have kk6 : Below W3.heap.size W3 w6 := HKK6.out
  obtain ⟨l1, l2, l3, l4⟩ := HC3.out _ kk6
  go_wp2_with fail
  rw [← hY6]
  clear hY6 l1 l2 l3 l4
  refine (CSJ.out _ hX7).mono ?_
  rintro e w7 ⟨r7, c7, rfl, ht7, hb7⟩
  obtain ⟨Y7, hY7⟩ : ∃ W, W = w7.alloc (.cells #[.slice r7 J.length c7] 25) := ⟨_, rfl⟩
  have hyb7 : Below w7.heap.size w7 Y7 := by rw [hY7]; exact (Below.refl _ w7).alloc (Nat.le_refl _) _
  have HSY7 : Hid (Y7.heap.size = w7.heap.size + 1) := by show _ = _; rw [hY7]; simp
  have HCY7 : Hid (∀ W, Below Y7.heap.size Y7 W → (W.cell? ⟨w7.heap.size, 0, none⟩ = some (.slice r7 J.length c7) ∧ w7.heap.size < W.heap.size) ∧ TysAt W W.heap.size (.slice r7 J.length c7) J) := fun W hW => by
    have hs := HSY7.out
    have h2 := hW.size
    exact ⟨⟨(hW.cell (p := ⟨w7.heap.size, 0, none⟩) (by show w7.heap.size < _; omega)).trans (by rw [hY7]; go_simp), by omega⟩, (ht7.below hyb7).below hW⟩
  have HXY7 : Hid (Below Y6.heap.size Y6 Y7) := hb7.trans (hyb7.mono hb7.size)
  have HKK7 : Hid (Below W3.heap.size W3 w7) := hX7.trans (hb7.mono hX7.size)
  clear ht7 hb7 hyb7
  have hX8 : Below W3.heap.size W3 Y7 := hX7.trans (HXY7.out.mono hX7.size)
  clear k1 k2 k3 k4
  obtain ⟨k1, k2, k3, k4⟩ := HC3.out _ hX8
  have kk7 : Below W3.heap.size W3 w7 := HKK7.out
  obtain ⟨l1, l2, l3, l4⟩ := HC3.out _ kk7
  have HU : Hid (∀ W, Below Y7.heap.size Y7 W → (Below W3.heap.size W3 W ∧ Below Y4.heap.size Y4 W ∧ Below Y5.heap.size Y5 W ∧ Below Y6.heap.size Y6 W)) := fun W hW => by
    have h6 := HXY7.out.trans (hW.mono HXY7.out.size)
    have h5 := HXY6.out.trans (h6.mono HXY6.out.size)
    have h4 := HXY5.out.trans (h5.mono HXY5.out.size)
    exact ⟨hX5.trans (h4.mono hX5.size), h4, h5, h6⟩
  have HALL : Hid (∀ W, Below Y7.heap.size Y7 W → ((W.cell? ⟨w2.heap.size, 0, none⟩ = some (.slice (some ⟨a, 0, none⟩) A.length ca) ∧ W.cell? ⟨w2.heap.size + 1, 0, none⟩ = some (.slice (some ⟨b, 0, none⟩) B.length cb) ∧ W.cell? ⟨w4.heap.size, 0, none⟩ = some (.slice r4 M.length c4) ∧ W.cell? ⟨w5.heap.size, 0, none⟩ = some (.slice r5 M.length c5) ∧ W.cell? ⟨w6.heap.size, 0, none⟩ = some (.slice r6 J.length c6) ∧ W.cell? ⟨w7.heap.size, 0, none⟩ = some (.slice r7 J.length c7)) ∧ w2.heap.size < W.heap.size ∧ w2.heap.size + 1 < W.heap.size ∧ w4.heap.size < W.heap.size ∧ w5.heap.size < W.heap.size ∧ w6.heap.size < W.heap.size ∧ w7.heap.size < W.heap.size) ∧ TysAt W W.heap.size (.slice (some ⟨a, 0, none⟩) A.length ca) A ∧ TysAt W W.heap.size (.slice (some ⟨b, 0, none⟩) B.length cb) B ∧ TysAt W W.heap.size (.slice r4 M.length c4) M ∧ TysAt W W.heap.size (.slice r5 M.length c5) M ∧ TysAt W W.heap.size (.slice r6 J.length c6) J ∧ TysAt W W.heap.size (.slice r7 J.length c7) J) := fun W hW => by
    obtain ⟨u3, u4, u5, u6⟩ := HU.out W hW
    have c3 := HC3.out W u3
    have d4 := HCY4.out W u4
    have d5 := HCY5.out W u5
    have d6 := HCY6.out W u6
    have d7 := HCY7.out W hW
    exact ⟨⟨⟨c3.1, c3.2.1, d4.1.1, d5.1.1, d6.1.1, d7.1.1⟩, c3.2.2.1, c3.2.2.2, d4.1.2, d5.1.2, d6.1.2, d7.1.2⟩, HTA.out W u3, HTB.out W u3, d4.2, d5.2, d6.2, d7.2⟩
  have HEND : Hid (∀ W, Below Y7.heap.size Y7 W → Below w.heap.size w W) := fun W hW => HB3.out.trans ((HU.out W hW).1.mono HB3.out.size)
  have hz7 : Below Y7.heap.size Y7 Y7 := Below.refl _ _
  clear k1 k2 k3 k4 l1 l2 l3 l4
  clear HU CIM CSM CIJ CSJ HC3 HCY4 HCY5 HCY6 HCY7 HXY4 HXY5 HXY6 HXY7 hX4 hX5 hX6 hX7 hX8 HKK4 HKK5 HKK6 HKK7 kk4 kk5 kk6 kk7 HSY4 HSY5 HSY6 HSY7 HTA HTB HS3 HB3
  go_upto_region 8 with fail
  rw [← hY7]
  clear hY7
  obtain ⟨⟨⟨g1, g2, g3, g4, g5, g6⟩, s1, s2, s3, s4, s5, s6⟩, _, _, hTM, hTW, _, _⟩ := HALL.out _ hz7
  go_wp2_with fail
  refine (sameSchemas_same M _ _ _ hTM hTW HMN.out.1).mono ?_
  rintro e w8 ⟨rfl, hz8⟩
  clear g1 g2 g3 g4 g5 g6 s1 s2 s3 s4 s5 s6 hTM hTW hz7
  obtain ⟨⟨⟨g1, g2, g3, g4, g5, g6⟩, s1, s2, s3, s4, s5, s6⟩, _, _, _, _, hTJ, hTT⟩ := HALL.out _ hz8
  go_wp2_with fail
  refine (sameSchemas_same J _ _ _ hTJ hTT HJN.out.1).mono ?_
  rintro e w9 ⟨rfl, hb9⟩
  have hz9 : Below Y7.heap.size Y7 w9 := hz8.trans (hb9.mono hz8.size)
  clear g1 g2 g3 g4 g5 g6 s1 s2 s3 s4 s5 s6 hTJ hTT hz8 hb9
  cases okm
  · cases okj
    · go_wp2
      go_ret
      exact ⟨rfl, HEND.out _ hz9⟩
    · have HJT : Hid (gs A = true ∧ gs B = true ∧ gs J = true ∧ sof A J = (true, true) ∧ sof B J = (true, true) ∧ (sof A B = (true, true) → sof J B = (true, true))) := HJS.out rfl

      obtain ⟨⟨⟨g1, g2, g3, g4, g5, g6⟩, s1, s2, s3, s4, s5, s6⟩, hTA, hTB, hTM, _, hTJ, _⟩ := HALL.out _ hz9
      go_wp2_with fail
      refine (SB.out A J true true (HJT.out.2.2.2.1) _ _ _ hTA hTJ).mono ?_
      rintro e w10 ⟨rfl, hb10⟩
      have hz10 : Below Y7.heap.size Y7 w10 := hz9.trans (hb10.mono hz9.size)
      clear g1 g2 g3 g4 g5 g6 s1 s2 s3 s4 s5 s6 hTA hTB hTM hTJ hz9 hb10

      obtain ⟨⟨⟨g1, g2, g3, g4, g5, g6⟩, s1, s2, s3, s4, s5, s6⟩, hTA, hTB, hTM, _, hTJ, _⟩ := HALL.out _ hz10
      go_wp2_with fail
      refine (SB.out B J true true (HJT.out.2.2.2.2.1) _ _ _ hTB hTJ).mono ?_
      rintro e w11 ⟨rfl, hb11⟩
      have hz11 : Below Y7.heap.size Y7 w11 := hz10.trans (hb11.mono hz10.size)
      clear g1 g2 g3 g4 g5 g6 s1 s2 s3 s4 s5 s6 hTA hTB hTM hTJ hz10 hb11
      have HAB : Hid (sof A B = ((sof A B).1, true)) := by
        show _ = _
        have h := sof_ok A B
        rw [HJT.out.1, HJT.out.2.1] at h
        exact Prod.ext rfl h
      cases hbel : (sof A B).1
      · obtain ⟨⟨⟨g1, g2, g3, g4, g5, g6⟩, s1, s2, s3, s4, s5, s6⟩, hTA, hTB, hTM, _, hTJ, _⟩ := HALL.out _ hz11
        go_wp2_with fail
        refine (SB.out A B false true (by rw [HAB.out, hbel]) _ _ _ hTA hTB).mono ?_
        rintro e w12 ⟨rfl, hb12⟩
        have hz12 : Below Y7.heap.size Y7 w12 := hz11.trans (hb12.mono hz11.size)
        clear g1 g2 g3 g4 g5 g6 s1 s2 s3 s4 s5 s6 hTA hTB hTM hTJ hz11 hb12
        go_wp2
        go_ret
        exact ⟨rfl, HEND.out _ hz12⟩
      · obtain ⟨⟨⟨g1, g2, g3, g4, g5, g6⟩, s1, s2, s3, s4, s5, s6⟩, hTA, hTB, hTM, _, hTJ, _⟩ := HALL.out _ hz11
        go_wp2_with fail
        refine (SB.out A B true true (by rw [HAB.out, hbel]) _ _ _ hTA hTB).mono ?_
        rintro e w12 ⟨rfl, hb12⟩
        have hz12 : Below Y7.heap.size Y7 w12 := hz11.trans (hb12.mono hz11.size)
        clear g1 g2 g3 g4 g5 g6 s1 s2 s3 s4 s5 s6 hTA hTB hTM hTJ hz11 hb12

        obtain ⟨⟨⟨g1, g2, g3, g4, g5, g6⟩, s1, s2, s3, s4, s5, s6⟩, hTA, hTB, hTM, _, hTJ, _⟩ := HALL.out _ hz12
        go_wp2_with fail
        refine (SB.out B J true true (HJT.out.2.2.2.2.1) _ _ _ hTB hTJ).mono ?_
        rintro e w13 ⟨rfl, hb13⟩
        have hz13 : Below Y7.heap.size Y7 w13 := hz12.trans (hb13.mono hz12.size)
        clear g1 g2 g3 g4 g5 g6 s1 s2 s3 s4 s5 s6 hTA hTB hTM hTJ hz12 hb13

        obtain ⟨⟨⟨g1, g2, g3, g4, g5, g6⟩, s1, s2, s3, s4, s5, s6⟩, hTA, hTB, hTM, _, hTJ, _⟩ := HALL.out _ hz13
        go_wp2_with fail
        refine (SB.out J B true true (HJT.out.2.2.2.2.2 (by rw [HAB.out, hbel])) _ _ _ hTJ hTB).mono ?_
        rintro e w14 ⟨rfl, hb14⟩
        have hz14 : Below Y7.heap.size Y7 w14 := hz13.trans (hb14.mono hz13.size)
        clear g1 g2 g3 g4 g5 g6 s1 s2 s3 s4 s5 s6 hTA hTB hTM hTJ hz13 hb14
        go_wp2
        go_ret
        exact ⟨rfl, HEND.out _ hz14⟩
  · have HMT : Hid (gs A = true ∧ gs B = true ∧ gs M = true ∧ sof M A = (true, true) ∧ sof M B = (true, true)) := HMS.out rfl

    obtain ⟨⟨⟨g1, g2, g3, g4, g5, g6⟩, s1, s2, s3, s4, s5, s6⟩, hTA, hTB, hTM, _, hTJ, _⟩ := HALL.out _ hz9
    go_wp2_with fail
    refine (SB.out M A true true (HMT.out.2.2.2.1) _ _ _ hTM hTA).mono ?_
    rintro e w10 ⟨rfl, hb10⟩
    have hz10 : Below Y7.heap.size Y7 w10 := hz9.trans (hb10.mono hz9.size)
    clear g1 g2 g3 g4 g5 g6 s1 s2 s3 s4 s5 s6 hTA hTB hTM hTJ hz9 hb10

    obtain ⟨⟨⟨g1, g2, g3, g4, g5, g6⟩, s1, s2, s3, s4, s5, s6⟩, hTA, hTB, hTM, _, hTJ, _⟩ := HALL.out _ hz10
    go_wp2_with fail
    refine (SB.out M B true true (HMT.out.2.2.2.2) _ _ _ hTM hTB).mono ?_
    rintro e w11 ⟨rfl, hb11⟩
    have hz11 : Below Y7.heap.size Y7 w11 := hz10.trans (hb11.mono hz10.size)
    clear g1 g2 g3 g4 g5 g6 s1 s2 s3 s4 s5 s6 hTA hTB hTM hTJ hz10 hb11
    cases okj
    · go_wp2
      go_ret
      exact ⟨rfl, HEND.out _ hz11⟩
    · have HJT : Hid (gs A = true ∧ gs B = true ∧ gs J = true ∧ sof A J = (true, true) ∧ sof B J = (true, true) ∧ (sof A B = (true, true) → sof J B = (true, true))) := HJS.out rfl

      obtain ⟨⟨⟨g1, g2, g3, g4, g5, g6⟩, s1, s2, s3, s4, s5, s6⟩, hTA, hTB, hTM, _, hTJ, _⟩ := HALL.out _ hz11
      go_wp2_with fail
      refine (SB.out A J true true (HJT.out.2.2.2.1) _ _ _ hTA hTJ).mono ?_
      rintro e w12 ⟨rfl, hb12⟩
      have hz12 : Below Y7.heap.size Y7 w12 := hz11.trans (hb12.mono hz11.size)
      clear g1 g2 g3 g4 g5 g6 s1 s2 s3 s4 s5 s6 hTA hTB hTM hTJ hz11 hb12

      obtain ⟨⟨⟨g1, g2, g3, g4, g5, g6⟩, s1, s2, s3, s4, s5, s6⟩, hTA, hTB, hTM, _, hTJ, _⟩ := HALL.out _ hz12
      go_wp2_with fail
      refine (SB.out B J true true (HJT.out.2.2.2.2.1) _ _ _ hTB hTJ).mono ?_
      rintro e w13 ⟨rfl, hb13⟩
      have hz13 : Below Y7.heap.size Y7 w13 := hz12.trans (hb13.mono hz12.size)
      clear g1 g2 g3 g4 g5 g6 s1 s2 s3 s4 s5 s6 hTA hTB hTM hTJ hz12 hb13
      have HAB : Hid (sof A B = ((sof A B).1, true)) := by
        show _ = _
        have h := sof_ok A B
        rw [HJT.out.1, HJT.out.2.1] at h
        exact Prod.ext rfl h
      cases hbel : (sof A B).1
      · obtain ⟨⟨⟨g1, g2, g3, g4, g5, g6⟩, s1, s2, s3, s4, s5, s6⟩, hTA, hTB, hTM, _, hTJ, _⟩ := HALL.out _ hz13
        go_wp2_with fail
        refine (SB.out A B false true (by rw [HAB.out, hbel]) _ _ _ hTA hTB).mono ?_
        rintro e w14 ⟨rfl, hb14⟩
        have hz14 : Below Y7.heap.size Y7 w14 := hz13.trans (hb14.mono hz13.size)
        clear g1 g2 g3 g4 g5 g6 s1 s2 s3 s4 s5 s6 hTA hTB hTM hTJ hz13 hb14
        go_wp2
        go_ret
        exact ⟨rfl, HEND.out _ hz14⟩
      · obtain ⟨⟨⟨g1, g2, g3, g4, g5, g6⟩, s1, s2, s3, s4, s5, s6⟩, hTA, hTB, hTM, _, hTJ, _⟩ := HALL.out _ hz13
        go_wp2_with fail
        refine (SB.out A B true true (by rw [HAB.out, hbel]) _ _ _ hTA hTB).mono ?_
        rintro e w14 ⟨rfl, hb14⟩
        have hz14 : Below Y7.heap.size Y7 w14 := hz13.trans (hb14.mono hz13.size)
        clear g1 g2 g3 g4 g5 g6 s1 s2 s3 s4 s5 s6 hTA hTB hTM hTJ hz13 hb14

        obtain ⟨⟨⟨g1, g2, g3, g4, g5, g6⟩, s1, s2, s3, s4, s5, s6⟩, hTA, hTB, hTM, _, hTJ, _⟩ := HALL.out _ hz14
        go_wp2_with fail
        refine (SB.out B J true true (HJT.out.2.2.2.2.1) _ _ _ hTB hTJ).mono ?_
        rintro e w15 ⟨rfl, hb15⟩
        have hz15 : Below Y7.heap.size Y7 w15 := hz14.trans (hb15.mono hz14.size)
        clear g1 g2 g3 g4 g5 g6 s1 s2 s3 s4 s5 s6 hTA hTB hTM hTJ hz14 hb15

        obtain ⟨⟨⟨g1, g2, g3, g4, g5, g6⟩, s1, s2, s3, s4, s5, s6⟩, hTA, hTB, hTM, _, hTJ, _⟩ := HALL.out _ hz15
        go_wp2_with fail
        refine (SB.out J B true true (HJT.out.2.2.2.2.2 (by rw [HAB.out, hbel])) _ _ _ hTJ hTB).mono ?_
        rintro e w16 ⟨rfl, hb16⟩
        have hz16 : Below Y7.heap.size Y7 w16 := hz15.trans (hb16.mono hz15.size)
        clear g1 g2 g3 g4 g5 g6 s1 s2 s3 s4 s5 s6 hTA hTB hTM hTJ hz15 hb16
        go_wp2
        go_ret
        exact ⟨rfl, HEND.out _ hz16⟩

end Go.Proofs.Ytbkdpcfghaiimaa
