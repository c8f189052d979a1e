/- What is drawn: machines, texts of letters, two machines. What is drawn, by the names that the laws call. -/
import Derived.Test.YtecgjhnihagleaaXl
import Derived.Test.YtecgjhnihagleaaHc
import Derived.Test.YtecgjhnihagleaaXa
namespace Go.Proofs.Ytecgjhnihagleaa
open Go.RowKit Plain Mch Tpc

theorem ofM_any (b m : Nat) (Z : List ByteArray) (t : TypeId) (w : World) (hc : Cur w b m) (hm : m ≤ 900000000) (h0 : 0 < Z.length) (h1 : Z.length ≤ 100) :
    Calls Try.prog 79 #[.pointer (some ⟨b, 0, none⟩), .slice (some ⟨w.heap.size, 0, none⟩) Z.length Z.length] (w.alloc (.cells (strs Z).toArray t)) fun e w' => ∃ x, e = .returned (.string x) ∧ x ∈ Z ∧ Cur w' b (m + 2) ∧ w.grownBy w' (some b) := by
  have hbl := hc.lt
  refine (of_any b m w.heap.size Z.length Z.length (lq Z) _ (hc.alloc _) (by omega) h0 (by omega) (by omega) (fun i hi => ?_)).mono ?_
  · rw [World.cell?_alloc_at _ _ _ _ rfl, List.getElem?_toArray]
    unfold strs
    rw [List.getElem?_map, lq_at hi]
    rfl
  · rintro e w' ⟨i, hi, rfl, hc', hg⟩
    exact ⟨_, rfl, lq_mem hi, hc', Lib.grownBy_trans (World.grownBy_alloc w _ _) hg⟩

theorem small1 (Z : List ByteArray) (h : (Z.all fun x => decide (x.size ≤ 1)) = true) (x : ByteArray) (hx : x ∈ Z) : x.size ≤ 1 := by
  rw [List.all_eq_true] at h
  simpa using h x hx

set_option maxRecDepth 100000 in
set_option maxHeartbeats 4000000 in
theorem letters_any (b m : Nat) (w : World) (hc : Cur w b m) (hm : m ≤ 800000000) :
    Calls Try.prog 55 #[.pointer (some ⟨b, 0, none⟩)] w fun e w' => ∃ s : ByteArray, e = .returned (.string s) ∧ s.size ≤ 10 ∧ Cur w' b (m + 30) ∧ w.grownBy w' (some b) := by
  go_enter Try.func55, Try.ntmps55
  go_wp2_with fail
  refine (pick_any b m 9 _ hc (by omega)).mono ?_
  rintro e w1 ⟨n0, rfl, hn0, hc1, hg1⟩
  have hn9 : n0 ≤ 9 := by omega
  clear hn0 hc
  go_wp2_with fail
  go_loopw [3, 4] (fun vs vn wr => ∃ (s : ByteArray) (n : Nat), n ≤ 9 ∧ vn = .int .i64 (n : Int) ∧ vs = .string s ∧ s.size + n ≤ 9 ∧ Cur wr b (m + 2 + 2 * (9 - n)) ∧ w.grownBy wr (some b))
    (fun _ vn _ => (intOf vn).toNat)
  case atStart => exact ⟨_, n0, hn9, rfl, rfl, by show (0 : Nat) + n0 ≤ 9; omega, hc1.le (by omega), hg1⟩
  case round =>
    obtain ⟨s, n, hn, rfl, rfl, hs1, hcr, hgr⟩ := hrel
    clear hc1 hg1 hn9
    by_cases h0 : n = 0
    · subst h0
      go_wp2_with fail
      refine (one_any b _ 30 _ hcr (by omega)).mono ?_
      rintro e w3 ⟨t, rfl, hc3, hg3⟩
      have hg3' := Lib.grownBy_trans hgr hg3
      clear hcr hgr hg3
      cases t with
      | false =>
        go_wp2
        go_ret
        exact ⟨s, rfl, by omega, hc3.le (by omega), hg3'⟩
      | true =>
        go_wp2
        go_ret
        exact ⟨_, rfl, by rw [ByteArray.size_append]; show _ + 1 ≤ 10; omega, hc3.le (by omega), hg3'⟩
    · have hn0 : (0 : Int) < (n : Int) := by omega
      have hn1 : (0 : Int) ≤ (n : Int) - 1 := by omega
      go_wp2_with fail
      refine (ofM_any b _ [⟨#[97]⟩, ⟨#[98]⟩, ⟨#[99]⟩] _ wr hcr (by omega) (by decide) (by decide)).mono ?_
      rintro e w3 ⟨y, rfl, hym, hc3, hg3⟩
      have hy1 := small1 _ (by rfl) y hym
      clear hym
      go_wp2
      go_roundw
      case rel => exact ⟨s ++ y, n - 1, by omega, by go_num, rfl, by rw [ByteArray.size_append]; omega, hc3.le (by omega), Lib.grownBy_trans hgr hg3⟩
      case measure => simp [intOf]; omega

/-- a machine that is not too great -/
def Mch.Sml (M : List (List Int)) (E : List Bool) : Prop := M.length ≤ 13 ∧ E.length ≤ 13 ∧ ∀ i, i < M.length → (rx M i).length ≤ 3

set_option maxRecDepth 100000 in
set_option maxHeartbeats 4000000 in
theorem drawGood_any (ao : Option Addr) (len cap : Nat) (w : World) (hcode : CodeAt w ao len) :
    Calls Try.prog 62 #[.slice ao len cap] w fun e w' => (∃ r q, e = .returned (.agg #[r, q]) ∧ ∃ M E us, MaOwn w' w.heap.size r q M E us ∧ Sml M E) ∧ Below w.heap.size w w' := by
  have rc := fun (tmps : Array Value) (P : Program) (w : World) => results_cellM (fn := Try.f62) (p := 2) (ty := 30) rfl tmps P w
  obtain ⟨W1, hW1⟩ : ∃ W, W = w.alloc (.cells #[.slice none 0 0, .slice none 0 0] 30) := ⟨_, rfl⟩
  have hb1 : Below w.heap.size w W1 := by rw [hW1]; exact (Below.refl _ w).alloc (Nat.le_refl _) _
  have HS1 : Hid (W1.heap.size = w.heap.size + 1) := by show _ = _; rw [hW1]; simp
  have hc0 := Cur.made (cap := cap) (hcode.below hb1) 70
  rw [HS1.out] at hc0
  have p0 : W1.cell? ⟨w.heap.size, 0, none⟩ = some (.slice none 0 0) := by rw [hW1]; go_simp
  have p1 : W1.cell? ⟨w.heap.size, 1, none⟩ = some (.slice none 0 0) := by rw [hW1]; go_simp
  have y0 : W1.frozen? ⟨w.heap.size, 0, none⟩ = false := by rw [hW1]; go_simp
  have y1 : W1.frozen? ⟨w.heap.size, 1, none⟩ = false := by rw [hW1]; go_simp
  have hl0 : w.heap.size < W1.heap.size := by rw [HS1.out]; omega
  obtain ⟨W2, hW2⟩ : ∃ W, W = W1.alloc (.cells #[.slice ao len cap, .int .i64 0, .int .u64 0] 70) := ⟨_, rfl⟩
  rw [← hW2] at hc0
  have hb2 : Below W1.heap.size W1 W2 := by rw [hW2]; exact (Below.refl _ W1).alloc (Nat.le_refl _) _
  have HS2 : Hid (W2.heap.size = w.heap.size + 2) := by show _ = _; rw [hW2, World.size_alloc, HS1.out]
  replace p0 := (hb2.cell (p := ⟨w.heap.size, 0, none⟩) hl0).trans p0
  replace p1 := (hb2.cell (p := ⟨w.heap.size, 1, none⟩) hl0).trans p1
  replace y0 := (hb2.frozen (p := ⟨w.heap.size, 0, none⟩) hl0).trans y0
  replace y1 := (hb2.frozen (p := ⟨w.heap.size, 1, none⟩) hl0).trans y1
  have hb02 : Below w.heap.size w W2 := hb1.trans (hb2.mono hb1.size)
  go_enter Try.func62, Try.ntmps62
  go_upto_region 1 with fail
  rw [← hW1]
  clear hW1
  have hs1 : W1.heap.size = w.heap.size + 1 := HS1.out
  go_upto_region 2 with fail
  rw [← hW2]
  clear hW2 hs1
  have hl2 : w.heap.size < W2.heap.size := by rw [HS2.out]; omega
  go_wp2_with fail
  refine (drawMac_any (w.heap.size + 1) 0 _ hc0 (by omega)).mono ?_
  rintro e w3 ⟨rv, re, M, E, us, rfl, ho, hsm, hc3, hg3⟩
  have HO : Hid (MaOwn w3 W2.heap.size rv re M E us) := ho
  have HSM : Hid (Sml M E) := hsm
  obtain ⟨an, cn, hvn⟩ := ho.1.slice
  obtain ⟨ev, dv, hev⟩ := ERow.slice ho.2.1
  subst hvn hev
  have far : ∀ k : Nat, (⟨w.heap.size, k, none⟩ : Addr).block < W2.heap.size := fun k => hl2
  replace p0 := hg3.cell p0 (by simp)
  replace p1 := hg3.cell p1 (by simp)
  replace y0 := (hg3.frozen_far ⟨w.heap.size, 0, none⟩ hl2 (by simp)).trans y0
  replace y1 := (hg3.frozen_far ⟨w.heap.size, 1, none⟩ hl2 (by simp)).trans y1
  have hl3 : w.heap.size < w3.heap.size := by have := hg3.size; omega
  have hB3 : Below w.heap.size w w3 := hb02.grown hg3 (by omega) (fun k hk => by simp at hk; omega)
  clear ho hsm far hc0 hg3
  go_wp2
  (try simp only [Exit.inBlock, Exit.then])
  refine bodyPost_ret (v := .agg #[.slice an M.length cn, .slice ev E.length dv]) ?_ rfl ⟨⟨_, _, rfl, M, E, us, ?_, HSM.out⟩, ?_⟩
  · rw [rc]
    go_simp
  · have h2 := HS2.out
    exact ((HO.out.setCell (a := ⟨w.heap.size, 0, none⟩) (by show w.heap.size < _; omega) _).setCell (a := ⟨w.heap.size, 1, none⟩) (by show w.heap.size < _; omega) _).lower (by omega)
  · exact (hB3.setCell (p := ⟨w.heap.size, 0, none⟩) (Nat.le_refl _) _).setCell (p := ⟨w.heap.size, 1, none⟩) (Nat.le_refl _) _

end Go.Proofs.Ytecgjhnihagleaa

namespace Go.Proofs.Ytecgjhnihagleaa
open Go.RowKit Plain Mch Tpc

set_option maxRecDepth 100000 in
set_option maxHeartbeats 4000000 in
theorem drawReach_any (ao : Option Addr) (len cap : Nat) (w : World) (hcode : CodeAt w ao len) :
    Calls Try.prog 29 #[.slice ao len cap] w fun e w' => (∃ r q, e = .returned (.agg #[r, q]) ∧ ∃ M E us, MaOwn w' w.heap.size r q M E us ∧ Sml M E) ∧ Below w.heap.size w w' := by
  have rc := fun (tmps : Array Value) (P : Program) (w : World) => results_cellM (fn := Try.f29) (p := 2) (ty := 30) rfl tmps P w
  obtain ⟨W1, hW1⟩ : ∃ W, W = w.alloc (.cells #[.slice none 0 0, .slice none 0 0] 30) := ⟨_, rfl⟩
  have hb1 : Below w.heap.size w W1 := by rw [hW1]; exact (Below.refl _ w).alloc (Nat.le_refl _) _
  have HS1 : Hid (W1.heap.size = w.heap.size + 1) := by show _ = _; rw [hW1]; simp
  have p0 : W1.cell? ⟨w.heap.size, 0, none⟩ = some (.slice none 0 0) := by rw [hW1]; go_simp
  have p1 : W1.cell? ⟨w.heap.size, 1, none⟩ = some (.slice none 0 0) := by rw [hW1]; go_simp
  have y0 : W1.frozen? ⟨w.heap.size, 0, none⟩ = false := by rw [hW1]; go_simp
  have y1 : W1.frozen? ⟨w.heap.size, 1, none⟩ = false := by rw [hW1]; go_simp
  have hl0 : w.heap.size < W1.heap.size := by rw [HS1.out]; omega
  have CD : Hid (type_of% (drawGood_any ao len cap W1 (hcode.below hb1))) := drawGood_any ao len cap W1 (hcode.below hb1)
  go_enter Try.func29, Try.ntmps29
  go_wp2_with fail
  rw [← hW1]
  clear hW1
  refine CD.out.mono ?_
  rintro e w3 ⟨⟨rv, re, rfl, M, E, us, ho, hsm⟩, hb3⟩
  have HO : Hid (MaOwn w3 W1.heap.size rv re M E us) := ho
  have HSM : Hid (Sml M E) := hsm
  obtain ⟨an, cn, hvn⟩ := ho.1.slice
  obtain ⟨ev, dv, hev⟩ := ERow.slice ho.2.1
  subst hvn hev
  replace p0 := (hb3.cell (p := ⟨w.heap.size, 0, none⟩) hl0).trans p0
  replace p1 := (hb3.cell (p := ⟨w.heap.size, 1, none⟩) hl0).trans p1
  replace y0 := (hb3.frozen (p := ⟨w.heap.size, 0, none⟩) hl0).trans y0
  replace y1 := (hb3.frozen (p := ⟨w.heap.size, 1, none⟩) hl0).trans y1
  have hl3 : w.heap.size < w3.heap.size := by have := hb3.size; omega
  have hB3 : Below w.heap.size w w3 := hb1.trans (hb3.mono hb1.size)
  clear ho hsm CD hb3
  go_wp2
  (try simp only [Exit.inBlock, Exit.then])
  refine bodyPost_ret (v := .agg #[.slice an M.length cn, .slice ev E.length dv]) ?_ rfl ⟨⟨_, _, rfl, M, E, us, ?_, HSM.out⟩, ?_⟩
  · rw [rc]
    go_simp
  · exact ((HO.out.setCell (a := ⟨w.heap.size, 0, none⟩) hl0 _).setCell (a := ⟨w.heap.size, 1, none⟩) hl0 _).lower (by omega)
  · exact (hB3.setCell (p := ⟨w.heap.size, 0, none⟩) (Nat.le_refl _) _).setCell (p := ⟨w.heap.size, 1, none⟩) (Nat.le_refl _) _

set_option maxRecDepth 100000 in
set_option maxHeartbeats 4000000 in
theorem drawLeastM_any (ao : Option Addr) (len cap : Nat) (w : World) (hcode : CodeAt w ao len) :
    Calls Try.prog 32 #[.slice ao len cap] w fun e w' => (∃ r q, e = .returned (.agg #[r, q]) ∧ ∃ M E us, MaOwn w' w.heap.size r q M E us ∧ Sml M E) ∧ Below w.heap.size w w' := by
  have rc := fun (tmps : Array Value) (P : Program) (w : World) => results_cellM (fn := Try.f32) (p := 2) (ty := 30) rfl tmps P w
  obtain ⟨W1, hW1⟩ : ∃ W, W = w.alloc (.cells #[.slice none 0 0, .slice none 0 0] 30) := ⟨_, rfl⟩
  have hb1 : Below w.heap.size w W1 := by rw [hW1]; exact (Below.refl _ w).alloc (Nat.le_refl _) _
  have HS1 : Hid (W1.heap.size = w.heap.size + 1) := by show _ = _; rw [hW1]; simp
  have p0 : W1.cell? ⟨w.heap.size, 0, none⟩ = some (.slice none 0 0) := by rw [hW1]; go_simp
  have p1 : W1.cell? ⟨w.heap.size, 1, none⟩ = some (.slice none 0 0) := by rw [hW1]; go_simp
  have y0 : W1.frozen? ⟨w.heap.size, 0, none⟩ = false := by rw [hW1]; go_simp
  have y1 : W1.frozen? ⟨w.heap.size, 1, none⟩ = false := by rw [hW1]; go_simp
  have hl0 : w.heap.size < W1.heap.size := by rw [HS1.out]; omega
  have CD : Hid (type_of% (drawGood_any ao len cap W1 (hcode.below hb1))) := drawGood_any ao len cap W1 (hcode.below hb1)
  go_enter Try.func32, Try.ntmps32
  go_wp2_with fail
  rw [← hW1]
  clear hW1
  refine CD.out.mono ?_
  rintro e w3 ⟨⟨rv, re, rfl, M, E, us, ho, hsm⟩, hb3⟩
  have HO : Hid (MaOwn w3 W1.heap.size rv re M E us) := ho
  have HSM : Hid (Sml M E) := hsm
  obtain ⟨an, cn, hvn⟩ := ho.1.slice
  obtain ⟨ev, dv, hev⟩ := ERow.slice ho.2.1
  subst hvn hev
  replace p0 := (hb3.cell (p := ⟨w.heap.size, 0, none⟩) hl0).trans p0
  replace p1 := (hb3.cell (p := ⟨w.heap.size, 1, none⟩) hl0).trans p1
  replace y0 := (hb3.frozen (p := ⟨w.heap.size, 0, none⟩) hl0).trans y0
  replace y1 := (hb3.frozen (p := ⟨w.heap.size, 1, none⟩) hl0).trans y1
  have hl3 : w.heap.size < w3.heap.size := by have := hb3.size; omega
  have hB3 : Below w.heap.size w w3 := hb1.trans (hb3.mono hb1.size)
  clear ho hsm CD hb3
  go_wp2
  (try simp only [Exit.inBlock, Exit.then])
  refine bodyPost_ret (v := .agg #[.slice an M.length cn, .slice ev E.length dv]) ?_ rfl ⟨⟨_, _, rfl, M, E, us, ?_, HSM.out⟩, ?_⟩
  · rw [rc]
    go_simp
  · exact ((HO.out.setCell (a := ⟨w.heap.size, 0, none⟩) hl0 _).setCell (a := ⟨w.heap.size, 1, none⟩) hl0 _).lower (by omega)
  · exact (hB3.setCell (p := ⟨w.heap.size, 0, none⟩) (Nat.le_refl _) _).setCell (p := ⟨w.heap.size, 1, none⟩) (Nat.le_refl _) _

theorem MaOwn.pickM {w w' : World} {B b : Nat} {v e : Value} {M : List (List Int)} {E : List Bool} {us : List Value} (h : MaOwn w B v e M E us) (hg : w.grownBy w' (some b)) (hb : b < B) : MaOwn w' B v e M E us := by
  have h1 := World.ownsRow.lt h.1.1
  exact ⟨h.1.beside hg (fun g e e2 => by have := (h1 g e).1; simp at e2; omega) (fun u hu g e e2 => by have := (h.1.rows u hu g e).1; simp at e2; omega), own_besideM h.2.1 hg (fun g e e2 => by have := (World.ownsRow.lt h.2.1 g e).1; simp at e2; omega), h.2.2⟩

set_option maxRecDepth 100000 in
set_option maxHeartbeats 4000000 in
theorem drawRunM_any (ao : Option Addr) (len cap : Nat) (w : World) (hcode : CodeAt w ao len) :
    Calls Try.prog 19 #[.slice ao len cap] w fun e w' => (∃ r q s, e = .returned (.tuple #[.agg #[r, q], .string s]) ∧ s.size ≤ 10 ∧ ∃ M E us, MaOwn w' w.heap.size r q M E us ∧ Sml M E) ∧ Below w.heap.size w w' := by
  have rc := fun (tmps : Array Value) (P : Program) (w : World) => results_cell_tmpM2 (fn := Try.f19) (p := 2) (u := 3) (ty := 30) rfl tmps P w
  obtain ⟨W1, hW1⟩ : ∃ W, W = w.alloc (.cells #[.slice none 0 0, .slice none 0 0] 30) := ⟨_, rfl⟩
  have hb1 : Below w.heap.size w W1 := by rw [hW1]; exact (Below.refl _ w).alloc (Nat.le_refl _) _
  have HS1 : Hid (W1.heap.size = w.heap.size + 1) := by show _ = _; rw [hW1]; simp
  have hc0 := Cur.made (cap := cap) (hcode.below hb1) 70
  rw [HS1.out] at hc0
  have p0 : W1.cell? ⟨w.heap.size, 0, none⟩ = some (.slice none 0 0) := by rw [hW1]; go_simp
  have p1 : W1.cell? ⟨w.heap.size, 1, none⟩ = some (.slice none 0 0) := by rw [hW1]; go_simp
  have y0 : W1.frozen? ⟨w.heap.size, 0, none⟩ = false := by rw [hW1]; go_simp
  have y1 : W1.frozen? ⟨w.heap.size, 1, none⟩ = false := by rw [hW1]; go_simp
  have hl0 : w.heap.size < W1.heap.size := by rw [HS1.out]; omega
  obtain ⟨W2, hW2⟩ : ∃ W, W = W1.alloc (.cells #[.slice ao len cap, .int .i64 0, .int .u64 0] 70) := ⟨_, rfl⟩
  rw [← hW2] at hc0
  have hb2 : Below W1.heap.size W1 W2 := by rw [hW2]; exact (Below.refl _ W1).alloc (Nat.le_refl _) _
  have HS2 : Hid (W2.heap.size = w.heap.size + 2) := by show _ = _; rw [hW2, World.size_alloc, HS1.out]
  replace p0 := (hb2.cell (p := ⟨w.heap.size, 0, none⟩) hl0).trans p0
  replace p1 := (hb2.cell (p := ⟨w.heap.size, 1, none⟩) hl0).trans p1
  replace y0 := (hb2.frozen (p := ⟨w.heap.size, 0, none⟩) hl0).trans y0
  replace y1 := (hb2.frozen (p := ⟨w.heap.size, 1, none⟩) hl0).trans y1
  have hb02 : Below w.heap.size w W2 := hb1.trans (hb2.mono hb1.size)
  go_enter Try.func19, Try.ntmps19
  go_upto_region 1 with fail
  rw [← hW1]
  clear hW1
  have hs1 : W1.heap.size = w.heap.size + 1 := HS1.out
  go_upto_region 2 with fail
  rw [← hW2]
  clear hW2 hs1
  have hl2 : w.heap.size < W2.heap.size := by rw [HS2.out]; omega
  go_wp2_with fail
  refine (drawMac_any (w.heap.size + 1) 0 _ hc0 (by omega)).mono ?_
  rintro e w3 ⟨rv, re, M, E, us, rfl, ho, hsm, hc3, hg3⟩
  have HO : Hid (MaOwn w3 W2.heap.size rv re M E us) := ho
  have HSM : Hid (Sml M E) := hsm
  obtain ⟨an, cn, hvn⟩ := ho.1.slice
  obtain ⟨ev, dv, hev⟩ := ERow.slice ho.2.1
  subst hvn hev
  have far : ∀ k : Nat, (⟨w.heap.size, k, none⟩ : Addr).block < W2.heap.size := fun k => hl2
  replace p0 := hg3.cell p0 (by simp)
  replace p1 := hg3.cell p1 (by simp)
  replace y0 := (hg3.frozen_far ⟨w.heap.size, 0, none⟩ hl2 (by simp)).trans y0
  replace y1 := (hg3.frozen_far ⟨w.heap.size, 1, none⟩ hl2 (by simp)).trans y1
  have hl3 : w.heap.size < w3.heap.size := by have := hg3.size; omega
  have hB3 : Below w.heap.size w w3 := hb02.grown hg3 (by omega) (fun k hk => by simp at hk; omega)
  clear ho hsm far hc0 hg3
  have hbl : w.heap.size + 1 < W2.heap.size := by rw [HS2.out]; omega
  go_wp2_with fail
  refine (letters_any (w.heap.size + 1) 200 _ (hc3.le (by omega)) (by omega)).mono ?_
  rintro e w4 ⟨s, rfl, hs10, hc4, hg4⟩
  have HO4 : Hid (MaOwn w4 W2.heap.size (.slice an M.length cn) (.slice ev E.length dv) M E us) := HO.out.pickM hg4 hbl
  replace p0 := hg4.cell p0 (by simp)
  replace p1 := hg4.cell p1 (by simp)
  replace y0 := (hg4.frozen_far ⟨w.heap.size, 0, none⟩ hl3 (by simp)).trans y0
  replace y1 := (hg4.frozen_far ⟨w.heap.size, 1, none⟩ hl3 (by simp)).trans y1
  have hl4 : w.heap.size < w4.heap.size := by have := hg4.size; omega
  have hB4 : Below w.heap.size w w4 := hB3.grown hg4 (by omega) (fun k hk => by simp at hk; omega)
  clear hc3 hc4 hg4 HO
  go_wp2
  (try simp only [Exit.inBlock, Exit.then])
  refine bodyPost_ret (v := .tuple #[.agg #[.slice an M.length cn, .slice ev E.length dv], .string s]) ?_ rfl ⟨⟨_, _, _, rfl, hs10, M, E, us, ?_, HSM.out⟩, ?_⟩
  · rw [rc]
    go_simp
  · have h2 := HS2.out
    exact ((HO4.out.setCell (a := ⟨w.heap.size, 0, none⟩) (by show w.heap.size < _; omega) _).setCell (a := ⟨w.heap.size, 1, none⟩) (by show w.heap.size < _; omega) _).lower (by omega)
  · exact (hB4.setCell (p := ⟨w.heap.size, 0, none⟩) (Nat.le_refl _) _).setCell (p := ⟨w.heap.size, 1, none⟩) (Nat.le_refl _) _

end Go.Proofs.Ytecgjhnihagleaa
