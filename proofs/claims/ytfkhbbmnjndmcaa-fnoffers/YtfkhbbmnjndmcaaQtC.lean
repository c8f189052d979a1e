/- What FnQueue draws: how great a queue, its rule, offers and hands. -/
import Derived.Test.YtfkhbbmnjndmcaaQsF
import Derived.Test.YtfkhbbmnjndmcaaQuB
import Derived.Test.YtfkhbbmnjndmcaaGn
import Derived.Test.YtfkhbbmnjndmcaaMcN
import Derived.Lib.BufferOwn
import Derived.Deep.DeepCutAuto
import Derived.Deep.AppendLies
import Derived.OwnWalk
namespace Go.Proofs.Ytfkhbbmnjndmcaa
open Go.RowKit Plain Qus

theorem ERow.snocQ {w9 : World} {B g cap : Nat} {F : List Bool} {x : Bool} (hown : w9.ownsRow B 4 1 (.slice (some ⟨g, 0, none⟩) (F.length + 1) cap) (F.length + 1) (bols F ++ [.bool x])) : ERow w9 B (.slice (some ⟨g, 0, none⟩) (F.length + 1) cap) (F ++ [x]) := by
  unfold ERow
  rw [List.length_append, List.length_singleton, show bols (F ++ [x]) = bols F ++ [.bool x] by simp [bols]]
  exact hown

set_option maxRecDepth 100000 in
set_option maxHeartbeats 4000000 in
theorem offers_any (b m : Nat) (w : World) (hc : Cur w b m) (hm : m ≤ 700000000) :
    Calls Try.prog 62 #[.pointer (some ⟨b, 0, none⟩)] w fun e w' => ∃ (l : List Bool) (v : Value), e = .returned v ∧ ERow w' w.heap.size v l ∧ l.length ≤ 201 ∧ Cur w' b (m + 500) ∧ w.grownBy w' (some b) := by
  obtain ⟨i0, hi0, hz0, hz1', hz2⟩ := info_parts infoBoolQ
  have hbl := hc.lt
  go_enter Try.func62, Try.ntmps62
  go_wp2_with fail
  refine (pick_any b m _ _ hc (by omega)).mono ?_
  rintro e w1 ⟨n0, rfl, hn0, hc1, hg1⟩
  have hn16 : n0 ≤ 30 := by omega
  clear hn0 hc
  go_wp2_with fail
  refine (one_any b _ _ _ hc1 (by omega)).mono ?_
  rintro e w2 ⟨t, rfl, hc2, hg2⟩
  have hg2' := Lib.grownBy_trans hg1 hg2
  clear hc1 hg1 hg2
  go_upto_if 8 with fail
  go_cut [4] (fun s4 wx => ∃ n : Nat, n ≤ 201 ∧ s4 = .int .i64 (n : Int) ∧ Cur wx b (m + 8) ∧ w.grownBy wx (some b))
  case first =>
    cases t with
    | false =>
      go_wp2_with fail
      go_meet
      exact ⟨n0, by omega, rfl, hc2.le (by omega), hg2'⟩
    | true =>
      go_wp2_with fail
      refine (pick_any b _ _ _ hc2 (by omega)).mono ?_
      rintro e w3 ⟨n1, rfl, hn1, hc3, hg3⟩
      have hn1' : n1 ≤ 11 := by omega
      clear hn1 hc2
      go_wp2_with fail
      go_meet
      exact ⟨190 + n1, by omega, by go_num, hc3.le (by omega), Lib.grownBy_trans hg2' hg3⟩
  case rest =>
    obtain ⟨n1, hn1, rfl, hc3, hg3⟩ := hcut
    clear hc2 hg2' hn16
    go_wp2_with fail
    go_loopw [3, 4] (fun vs vn wr => ∃ (L : List Bool) (n : Nat), n ≤ 201 ∧ vn = .int .i64 (n : Int) ∧ Hid (ERow wr w.heap.size vs L) ∧ L.length + n ≤ 201 ∧ Cur wr b (m + 8 + 2 * (201 - n)) ∧ w.grownBy wr (some b))
      (fun _ vn _ => (intOf vn).toNat)
    case atStart => exact ⟨[], n1, hn1, rfl, ⟨rfl, .inl ⟨rfl, rfl⟩⟩, by simp; omega, hc3.le (by omega), hg3⟩
    case round =>
      obtain ⟨L, n, hn, rfl, hR, hLn, hcr, hgr⟩ := hrel
      clear hc3 hg3 hn1
      obtain ⟨av, cv, hvs⟩ := hR.out.slice
      by_cases h0 : n = 0
      · subst h0
        subst hvs
        go_wp2
        go_ret
        exact ⟨L, _, rfl, hR.out, by omega, hcr.le (by omega), hgr⟩
      · have hn0 : (0 : Int) < (n : Int) := by omega
        have hn1 : (0 : Int) ≤ (n : Int) - 1 := by omega
        subst hvs
        go_wp2_with fail
        refine (one_any b _ _ wr hcr (by omega)).mono ?_
        rintro e w3 ⟨y, rfl, hc3, hg3⟩
        have hlt := World.ownsRow.lt hR.out
        have hs3 := hg3.size
        have hZ3 : w3.ownsRow w.heap.size 4 1 (.slice av L.length cv) L.length (bols L) := own_asideQ hR.out hg3 (fun g' hg' e => by have := (hlt g' hg').1; simp at e; omega)
        have hsw := hgr.size
        have hg3' := Lib.grownBy_trans hgr hg3
        clear hR hcr hgr hg3
        go_wp2_with (at_builtin; refine wpList_append_lies _ rfl _ _ 37 rfl w.heap.size 4 i0 (.bool false) 1 1 Try.underlying37 hi0 hz0 hz1' hz2 rfl (by decide) _ L.length _ rfl (World.ownsRow.alloc hZ3 _) ⟨w3.heap.size, 0, none⟩ 1 1 [Value.bool (!y)] rfl rfl (World.news_of_block (heap_alloc_new w3 _)) ?c2 (by omega) (by unfold maxLen; omega) (by omega) (by simp; omega) (w3.heap.size + 1) (by simp) ?_)
        case c2 => intro u hu; simp at hu; subst hu; rfl
        intro g9 cap9 w9 hown9 hgrow9 hat9 hlt9
        have hlt3 := World.ownsRow.lt hZ3
        have hZ9 : Hid (ERow w9 w.heap.size (.slice (some ⟨g9, 0, none⟩) (L.length + 1) cap9) (L ++ [!y])) := ERow.snocQ hown9
        have hga : w.grownBy (w3.alloc (.cells #[Value.bool (!y)] 4)) (some b) := Lib.grownBy_allocR hg3' _
        have hc9 : Cur w9 b (m + 8 + 2 * (201 - n) + 2) := (hc3.alloc _).grown hgrow9 (fun k hk => by have := (hlt3 k hk).1; omega)
        have hsa := hga.size
        have hg9 : w.grownBy w9 (some b) := ⟨hgrow9.os.trans hga.os, hgrow9.tape.trans hga.tape, hgrow9.output.trans hga.output, Nat.le_trans hga.size hgrow9.size, fun i hi hne => (hgrow9.block i (by omega) (fun e => by have := (hlt3 i e.symm).1; omega)).trans (hga.block i hi hne)⟩
        clear hown9 hgrow9 hat9 hZ3 hga hlt3 hc3 hg3'
        go_wp2
        go_roundw
        case rel => exact ⟨L ++ [!y], n - 1, by omega, by go_num, hZ9, by rw [List.length_append, List.length_singleton]; omega, hc9.le (by omega), hg9⟩
        case measure => simp [intOf]; omega

set_option maxRecDepth 100000 in
set_option maxHeartbeats 4000000 in
theorem drawPlay_any (ao : Option Addr) (len cap : Nat) (w : World) (h : CodeAt w ao len) :
    Calls Try.prog 37 #[.slice ao len cap] w fun e w' => (∃ (c r : Int) (l : List Bool) (v : Value), e = .returned (.tuple #[.int .i64 c, .int .i64 r, v]) ∧ ERow w' w.heap.size v l ∧ l.length ≤ 201) ∧ Below w.heap.size w w' := by
  have hC := Cur.made (cap := cap) h 79
  obtain ⟨W1, hW1⟩ : ∃ W, W = w.alloc (.cells #[.slice ao len cap, .int .i64 0, .int .u64 0] 79) := ⟨_, rfl⟩
  rw [← hW1] at hC
  have hB1 : Below w.heap.size w W1 := by rw [hW1]; exact (Below.refl _ w).alloc (Nat.le_refl _) _
  have hs1 : W1.heap.size = w.heap.size + 1 := by rw [hW1]; simp
  have CA : Hid (Calls Try.prog 60 #[.pointer (some ⟨w.heap.size, 0, none⟩), .slice (some ⟨w.heap.size + 1, 0, none⟩) 6 6] (W1.alloc (.cells #[.int .i64 0, .int .i64 1, .int .i64 2, .int .i64 4, .int .i64 10, .int .i64 11] 3)) fun e w' => ∃ i, i < 6 ∧ e = .returned (.int .i64 ([0, 1, 2, 4, 10, 11].getD i 0)) ∧ Cur w' w.heap.size (0 + 2) ∧ (W1.alloc (.cells #[.int .i64 0, .int .i64 1, .int .i64 2, .int .i64 4, .int .i64 10, .int .i64 11] 3)).grownBy w' (some w.heap.size)) := by
    refine among_any w.heap.size 0 (w.heap.size + 1) 6 6 (fun i => [0, 1, 2, 4, 10, 11].getD i 0) _ (hC.alloc _) (by omega) (by omega) (by omega) (by omega) (fun i hi => ?_)
    rw [← hs1, World.cell?_alloc_at _ _ _ _ rfl]
    match i, hi with
    | 0, _ => rfl
    | 1, _ => rfl
    | 2, _ => rfl
    | 3, _ => rfl
    | 4, _ => rfl
    | 5, _ => rfl
  have HS1 : Hid (W1.heap.size = w.heap.size + 1) := hs1
  clear hC
  go_enter Try.func37, Try.ntmps37
  go_upto_region 2 with fail
  rw [← hW1]
  clear hW1
  go_wp2_with fail
  go_at_call 60
  refine CA.out.mono ?_
  rintro e w2 ⟨i, _, rfl, hc2, hg2⟩
  have hB2 : Below w.heap.size w w2 := (hB1.alloc hB1.size _).grown hg2 (by have := HS1.out; simp; omega) (fun k hk => by simp at hk; omega)
  generalize ([0, 1, 2, 4, 10, 11] : List Int).getD i 0 = z
  clear hg2 CA
  go_wp2_with fail
  refine (pick_any w.heap.size _ _ _ hc2 (by omega)).mono ?_
  rintro e w3 ⟨x, rfl, hx, hc3, hg3⟩
  have hB3 : Below w.heap.size w w3 := hB2.grown hg3 hB2.size (fun k hk => by simp at hk; omega)
  have hx3 : (x : Int) ≤ 1000 := by omega
  clear hg3 hc2 hx
  go_wp2_with fail
  refine (offers_any w.heap.size _ w3 hc3 (by omega)).mono ?_
  rintro e w4 ⟨l, v, rfl, hR, hl, _, hg4⟩
  have hB4 : Below w.heap.size w w4 := hB3.grown hg4 hB3.size (fun k hk => by simp at hk; omega)
  have HR : Hid (ERow w4 w.heap.size v l) := ⟨hR.1, by
    rcases hR.2 with hn | ⟨g, cap, cur, hv, hg, rest⟩
    · exact .inl hn
    · exact .inr ⟨g, cap, cur, hv, by have := hB3.size; omega, rest⟩⟩
  obtain ⟨a4, c4, rfl⟩ := hR.slice
  clear hR hg4 hc3 hB1 hB2 hB3
  go_wp2_with fail
  go_ret3
  exact ⟨⟨_, _, l, _, rfl, HR.out, hl⟩, hB4⟩

end Go.Proofs.Ytfkhbbmnjndmcaa
