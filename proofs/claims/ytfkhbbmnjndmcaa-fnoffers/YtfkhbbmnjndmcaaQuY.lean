/- The program's offer, with what it turns. -/
import Derived.Test.YtfkhbbmnjndmcaaQuN
namespace Go.Proofs.Ytfkhbbmnjndmcaa
open Go.RowKit Plain Qus

set_option maxRecDepth 100000 in
set_option maxHeartbeats 8000000 in
theorem offerT_end (B b : Nat) (c r : Int) (M : List Int) (vm : Value) (w : World) (h : Lu w B b c r M vm) (he : M.length = 100) :
    Calls Try.prog 53 #[.pointer (some ⟨b, 0, none⟩)] w fun e w' => e = .returned (.tuple #[.int .i64 (ofM c r M).2.1, .bool (ofM c r M).2.2]) ∧ (∃ v9, Lu w' B b c r (ofM c r M).1 v9 ∧ Lt w w' b vm v9) ∧ Below B w w' := by
  have CN := nextU B b c r M vm w h
  have H : Hid (Lu w B b c r M vm) := h
  have hO : ofM c r M = (M, 0, false) := by unfold ofM; rw [if_pos he]
  rw [hO]
  rw [he] at CN
  clear h hO
  go_enter Try.func53, Try.ntmps53
  go_wp2_with fail
  go_at_call 57
  refine CN.mono ?_
  rintro e w1 ⟨rfl, hw⟩
  have hw := hw.symm
  subst hw
  go_wp2_with fail
  go_ret2
  exact ⟨rfl, ⟨_, H.out, Lt.of_below (Below.refl _ _)⟩, Below.refl _ _⟩

set_option maxRecDepth 100000 in
set_option maxHeartbeats 8000000 in
theorem offerT_room (B b : Nat) (c r : Int) (M : List Int) (vm : Value) (w : World) (h : Lu w B b c r M vm) (hg : GdM c M) (hBw : B ≤ w.heap.size) (he : M.length ≠ 100) (hroom : ((al M 1).length : Int) < c) :
    Calls Try.prog 53 #[.pointer (some ⟨b, 0, none⟩)] w fun e w' => e = .returned (.tuple #[.int .i64 (ofM c r M).2.1, .bool (ofM c r M).2.2]) ∧ (∃ v9, Lu w' B b c r (ofM c r M).1 v9 ∧ Lt w w' b vm v9) ∧ Below B w w' := by
  obtain ⟨i0, hi0, hz0, hz1', hz2⟩ := info_parts infoIntR
  have hl := hg.len
  have CN := nextU B b c r M vm w h
  have CA : Hid (∀ W, Below w.heap.size w W → Calls Try.prog 59 #[.pointer (some ⟨b, 0, none⟩), .int .i64 1] W fun e w' => ∃ v, e = .returned v ∧ ZRow w' W.heap.size v (al M 1) ∧ Below W.heap.size W w') := fun W hW => allU B b c r 1 M vm W (h.below hW) (by omega)
  have H : Hid (Lu w B b c r M vm) := h
  obtain ⟨ao, cap, hvm⟩ := ZRow.slice h.row
  have hcapL : cap ≤ maxLen := by
    obtain ⟨_, _, e, _, h2, _⟩ := ZAt.own h.row
    rw [hvm] at e
    cases e
    exact h2
  unfold maxLen at hcapL
  have hO : ofM c r M = (M ++ [1], -1, true) := by unfold ofM; rw [if_neg he, if_pos hroom]
  rw [hO]
  have he' : ((M.length : Int) == 100) = false := by simp; omega
  have hen : (M.length == 100) = false := by simpa using he
  have hroomd : decide (((al M 1).length : Int) < c) = true := by simpa using hroom
  have c0 := h.c0
  subst hvm
  clear h hg hO he hroom
  go_enter Try.func53, Try.ntmps53
  go_wp2_with fail
  go_at_call 57
  refine CN.mono ?_
  rintro e w1 ⟨rfl, hw⟩
  have hw := hw.symm
  subst hw
  clear CN
  go_upto_region 3 with fail
  have hBd : Hid (Below w.heap.size w w.drew) := (Below.refl _ w).drew
  go_region_with (go_at_call 59; (with_reducible refine (CA.out _ hBd.out).mono ?_); rintro e W2 ⟨v9, rfl, hr9, hb9⟩; obtain ⟨a9, k9, rfl⟩ := ZRow.slice hr9; have HB2 : Hid (Below w.heap.size w W2) := hBd.out.trans hb9; have c0b := (HB2.out.cell (p := ⟨b, 0, none⟩) H.out.hi).trans H.out.c0; clear hr9 hb9)
  all_goals
    have V2 := H.out.below HB2.out
    have hbl : b < W2.heap.size := V2.hi
    have c3 := V2.c3
    have S1a : ∀ o, (W2.alloc o).cell? ⟨b, 3, none⟩ = some (.slice ao M.length cap) := fun o => (((Below.refl W2.heap.size W2).alloc (Nat.le_refl _) o).cell (p := ⟨b, 3, none⟩) hbl).trans c3
    have f1a : ∀ o, (W2.alloc o).frozen? ⟨b, 3, none⟩ = false := fun o => (((Below.refl W2.heap.size W2).alloc (Nat.le_refl _) o).frozen (p := ⟨b, 3, none⟩) hbl).trans V2.f3
    have hne0 : some b ≠ (Value.slice ao M.length cap).ownBlock := fun e => V2.ap e.symm
    have HO : Hid (W2.ownsRow B 3 1 (.slice ao M.length cap) M.length (zints M)) := V2.row
    have hBW2 : B ≤ W2.heap.size := Nat.le_trans hBw HB2.out.size
    clear V2
    clear c0 c0b
    go_wp2_with (at_builtin; refine wpList_append_lies _ rfl _ _ 22 rfl B 3 i0 (.int .i64 0) 1 8 Try.underlying22 hi0 hz0 hz1' hz2 rfl (by decide) _ M.length _ rfl (World.ownsRow.alloc HO.out _) ⟨W2.heap.size, 0, none⟩ 1 1 [.int .i64 1] rfl rfl (World.news_of_block (heap_alloc_new W2 _)) (one1Q 1) (by omega) (by unfold maxLen; omega) (by omega) (by simp; omega) (W2.heap.size + 1) (by simp) ?_; intro g9 cap9 w9 hown9 hgrow9 hat9 hlt9; have c9 : w9.cell? ⟨b, 3, none⟩ = some (.slice ao M.length cap) := (hgrow9.cell_far ⟨b, 3, none⟩ (by simp; omega) hne0).trans (S1a _); have z9 : w9.frozen? ⟨b, 3, none⟩ = false := (World.frozen?_of_block (hgrow9.block b (by simp; omega) hne0)).trans (f1a _); have hend := Lu.app H.out HB2.out hown9 hgrow9 hat9 hBw; have hetn := Lu.appT (u := .slice (some ⟨g9, 0, none⟩) (M.length + 1) cap9) (n := M.length + 1) (cap9 := cap9) H.out HB2.out hgrow9 hat9; have HETN : Hid (type_of% hetn) := hetn; have HEND : Hid (type_of% hend) := hend; clear hend hetn hown9 hgrow9 hat9)
    go_ret2
    exact ⟨rfl, ⟨_, HEND.out.1, HETN.out⟩, HEND.out.2⟩

set_option maxRecDepth 100000 in
set_option maxHeartbeats 8000000 in
theorem offerT_full1 (B b : Nat) (c r : Int) (M : List Int) (vm : Value) (w : World) (h : Lu w B b c r M vm) (hg : GdM c M) (hBw : B ≤ w.heap.size) (he : M.length ≠ 100) (hroom : ¬ ((al M 1).length : Int) < c) (hc : 1 ≤ c) (hr : r = 1) :
    Calls Try.prog 53 #[.pointer (some ⟨b, 0, none⟩)] w fun e w' => e = .returned (.tuple #[.int .i64 (ofM c r M).2.1, .bool (ofM c r M).2.2]) ∧ (∃ v9, Lu w' B b c r (ofM c r M).1 v9 ∧ Lt w w' b vm v9) ∧ Below B w w' := by
  obtain ⟨i0, hi0, hz0, hz1', hz2⟩ := info_parts infoIntR
  have hl := hg.len
  have CN := nextU B b c r M vm w h
  have CA : Hid (∀ W, Below w.heap.size w W → Calls Try.prog 59 #[.pointer (some ⟨b, 0, none⟩), .int .i64 1] W fun e w' => ∃ v, e = .returned v ∧ ZRow w' W.heap.size v (al M 1) ∧ Below W.heap.size W w') := fun W hW => allU B b c r 1 M vm W (h.below hW) (by omega)
  have H : Hid (Lu w B b c r M vm) := h
  obtain ⟨ao, cap, hvm⟩ := ZRow.slice h.row
  have hcapL : cap ≤ maxLen := by
    obtain ⟨_, _, e, _, h2, _⟩ := ZAt.own h.row
    rw [hvm] at e
    cases e
    exact h2
  unfold maxLen at hcapL
  subst hr
  obtain ⟨k, hk, hkl, hk1⟩ := dropN_is (c := c) (r := 1) hc hroom
  have hO : ofM c 1 M = ((M ++ [1]).set k 3, (k : Int), true) := by unfold ofM; rw [if_neg he, if_neg hroom, hk, Int.toNat_natCast]
  rw [hO]
  have he' : ((M.length : Int) == 100) = false := by simp; omega
  have hen : (M.length == 100) = false := by simpa using he
  have hroomd : decide (((al M 1).length : Int) < c) = false := by simpa using hroom
  have CD : Hid (∀ W, Below w.heap.size w W → Calls Try.prog 65 #[.pointer (some ⟨b, 0, none⟩)] W fun e w' => e = .returned (.int .i64 (k : Int)) ∧ w' = W) := fun W hW => by
    have := oldestU B b c 1 M vm W (h.below hW) (by omega)
    rw [show fstM M 1 = (k : Int) from hk] at this
    exact this
  have c0 := h.c0
  have hml : (M ++ [(1 : Int)]).length = M.length + 1 := by simp
  have hkn : k < M.length + 1 := by omega
  subst hvm
  clear h hg hO he hroom hk hk1
  go_enter Try.func53, Try.ntmps53
  go_wp2_with fail
  go_at_call 57
  refine CN.mono ?_
  rintro e w1 ⟨rfl, hw⟩
  have hw := hw.symm
  subst hw
  clear CN
  go_upto_region 3 with fail
  have hBd : Hid (Below w.heap.size w w.drew) := (Below.refl _ w).drew
  go_region_with (go_at_call 59; (with_reducible refine (CA.out _ hBd.out).mono ?_); rintro e W2 ⟨v9, rfl, hr9, hb9⟩; obtain ⟨a9, k9, rfl⟩ := ZRow.slice hr9; have HB2 : Hid (Below w.heap.size w W2) := hBd.out.trans hb9; have c0b := (HB2.out.cell (p := ⟨b, 0, none⟩) H.out.hi).trans H.out.c0; clear hr9 hb9)
  all_goals
    have c2 := (H.out.below HB2.out).c2
    rw [show fnD 1 b = .func (.func 65) #[.pointer (some ⟨b, 0, none⟩)] #[] from rfl] at c2
    clear c0 c0b
    go_wp2_with fail
    go_at_call 65
    refine (CD.out _ HB2.out).mono ?_
    rintro e w3 ⟨rfl, hw⟩
    have hw := hw.symm
    subst hw
    clear c2
    have V2 := H.out.below HB2.out
    have hbl : b < W2.heap.size := V2.hi
    have c3 := V2.c3
    have S1a : ∀ o, (W2.alloc o).cell? ⟨b, 3, none⟩ = some (.slice ao M.length cap) := fun o => (((Below.refl W2.heap.size W2).alloc (Nat.le_refl _) o).cell (p := ⟨b, 3, none⟩) hbl).trans c3
    have f1a : ∀ o, (W2.alloc o).frozen? ⟨b, 3, none⟩ = false := fun o => (((Below.refl W2.heap.size W2).alloc (Nat.le_refl _) o).frozen (p := ⟨b, 3, none⟩) hbl).trans V2.f3
    have hne0 : some b ≠ (Value.slice ao M.length cap).ownBlock := fun e => V2.ap e.symm
    have HO : Hid (W2.ownsRow B 3 1 (.slice ao M.length cap) M.length (zints M)) := V2.row
    have hBW2 : B ≤ W2.heap.size := Nat.le_trans hBw HB2.out.size
    clear V2
    go_wp2_with (at_builtin; refine wpList_append_lies _ rfl _ _ 22 rfl B 3 i0 (.int .i64 0) 1 8 Try.underlying22 hi0 hz0 hz1' hz2 rfl (by decide) _ M.length _ rfl (World.ownsRow.alloc HO.out _) ⟨W2.heap.size, 0, none⟩ 1 1 [.int .i64 1] rfl rfl (World.news_of_block (heap_alloc_new W2 _)) (one1Q 1) (by omega) (by unfold maxLen; omega) (by omega) (by simp; omega) (W2.heap.size + 1) (by simp) ?_; intro g9 cap9 w9 hown9 hgrow9 hat9 hlt9; have c9 : w9.cell? ⟨b, 3, none⟩ = some (.slice ao M.length cap) := (hgrow9.cell_far ⟨b, 3, none⟩ (by simp; omega) hne0).trans (S1a _); have z9 : w9.frozen? ⟨b, 3, none⟩ = false := (World.frozen?_of_block (hgrow9.block b (by simp; omega) hne0)).trans (f1a _); have hend := Lu.app H.out HB2.out hown9 hgrow9 hat9 hBw; have hetn := Lu.appT (u := .slice (some ⟨g9, 0, none⟩) (M.length + 1) cap9) (n := M.length + 1) (cap9 := cap9) H.out HB2.out hgrow9 hat9; have HETN : Hid (type_of% hetn) := hetn; rw [show M.length + 1 = (M ++ [(1 : Int)]).length by simp] at hetn; have htt := hetn.trans (Lu.putT _ b g9 cap9 (M ++ [(1 : Int)]) k 3); have HTT : Hid (type_of% htt) := htt; obtain ⟨g8, cap8, hv8, hc8, hf8, hlc8, hcm8, hp8, hpb8⟩ := hend.1.putAny hkl 3; simp only [Value.slice.injEq, Option.some.injEq, Addr.mk.injEq, and_true, List.length_append, List.length_singleton, true_and] at hv8; obtain ⟨rfl, rfl⟩ := hv8; generalize (M ++ [(1 : Int)]).getD k 0 = y8 at hc8; unfold maxLen at hcm8; have hkI : (k : Int) < ((M.length : Int) + 1) := (by omega); have HP8 : Hid (type_of% hp8) := hp8; have HPB8 : Hid (type_of% (hend.2.trans hpb8)) := hend.2.trans hpb8; clear hp8 hpb8 htt; clear hend hetn hown9 hgrow9 hat9)
    go_ret2
    exact ⟨rfl, ⟨_, HP8.out, by have h := HTT.out; rw [show (M ++ [(1 : Int)]).length = M.length + 1 by simp] at h; exact h⟩, HPB8.out⟩

set_option maxRecDepth 100000 in
set_option maxHeartbeats 8000000 in
theorem offerT_full2 (B b : Nat) (c r : Int) (M : List Int) (vm : Value) (w : World) (h : Lu w B b c r M vm) (hg : GdM c M) (hBw : B ≤ w.heap.size) (he : M.length ≠ 100) (hroom : ¬ ((al M 1).length : Int) < c) (hc : 1 ≤ c) (hr : r = 2) :
    Calls Try.prog 53 #[.pointer (some ⟨b, 0, none⟩)] w fun e w' => e = .returned (.tuple #[.int .i64 (ofM c r M).2.1, .bool (ofM c r M).2.2]) ∧ (∃ v9, Lu w' B b c r (ofM c r M).1 v9 ∧ Lt w w' b vm v9) ∧ Below B w w' := by
  obtain ⟨i0, hi0, hz0, hz1', hz2⟩ := info_parts infoIntR
  have hl := hg.len
  have CN := nextU B b c r M vm w h
  have CA : Hid (∀ W, Below w.heap.size w W → Calls Try.prog 59 #[.pointer (some ⟨b, 0, none⟩), .int .i64 1] W fun e w' => ∃ v, e = .returned v ∧ ZRow w' W.heap.size v (al M 1) ∧ Below W.heap.size W w') := fun W hW => allU B b c r 1 M vm W (h.below hW) (by omega)
  have H : Hid (Lu w B b c r M vm) := h
  obtain ⟨ao, cap, hvm⟩ := ZRow.slice h.row
  have hcapL : cap ≤ maxLen := by
    obtain ⟨_, _, e, _, h2, _⟩ := ZAt.own h.row
    rw [hvm] at e
    cases e
    exact h2
  unfold maxLen at hcapL
  subst hr
  obtain ⟨k, hk, hkl, hk1⟩ := dropN_is (c := c) (r := 2) hc hroom
  have hO : ofM c 2 M = ((M ++ [1]).set k 3, (k : Int), true) := by unfold ofM; rw [if_neg he, if_neg hroom, hk, Int.toNat_natCast]
  rw [hO]
  have he' : ((M.length : Int) == 100) = false := by simp; omega
  have hen : (M.length == 100) = false := by simpa using he
  have hroomd : decide (((al M 1).length : Int) < c) = false := by simpa using hroom
  have CD : Hid (∀ W, Below w.heap.size w W → Calls Try.prog 66 #[.pointer (some ⟨b, 0, none⟩)] W fun e w' => e = .returned (.int .i64 (k : Int)) ∧ w' = W) := fun W hW => by
    have := newestU B b c 2 M vm W (h.below hW) (by omega)
    rw [show lstM M 1 = (k : Int) from hk] at this
    exact this
  have c0 := h.c0
  have hml : (M ++ [(1 : Int)]).length = M.length + 1 := by simp
  have hkn : k < M.length + 1 := by omega
  subst hvm
  clear h hg hO he hroom hk hk1
  go_enter Try.func53, Try.ntmps53
  go_wp2_with fail
  go_at_call 57
  refine CN.mono ?_
  rintro e w1 ⟨rfl, hw⟩
  have hw := hw.symm
  subst hw
  clear CN
  go_upto_region 3 with fail
  have hBd : Hid (Below w.heap.size w w.drew) := (Below.refl _ w).drew
  go_region_with (go_at_call 59; (with_reducible refine (CA.out _ hBd.out).mono ?_); rintro e W2 ⟨v9, rfl, hr9, hb9⟩; obtain ⟨a9, k9, rfl⟩ := ZRow.slice hr9; have HB2 : Hid (Below w.heap.size w W2) := hBd.out.trans hb9; have c0b := (HB2.out.cell (p := ⟨b, 0, none⟩) H.out.hi).trans H.out.c0; clear hr9 hb9)
  all_goals
    have c2 := (H.out.below HB2.out).c2
    rw [show fnD 2 b = .func (.func 66) #[.pointer (some ⟨b, 0, none⟩)] #[] from rfl] at c2
    clear c0 c0b
    go_wp2_with fail
    go_at_call 66
    refine (CD.out _ HB2.out).mono ?_
    rintro e w3 ⟨rfl, hw⟩
    have hw := hw.symm
    subst hw
    clear c2
    have V2 := H.out.below HB2.out
    have hbl : b < W2.heap.size := V2.hi
    have c3 := V2.c3
    have S1a : ∀ o, (W2.alloc o).cell? ⟨b, 3, none⟩ = some (.slice ao M.length cap) := fun o => (((Below.refl W2.heap.size W2).alloc (Nat.le_refl _) o).cell (p := ⟨b, 3, none⟩) hbl).trans c3
    have f1a : ∀ o, (W2.alloc o).frozen? ⟨b, 3, none⟩ = false := fun o => (((Below.refl W2.heap.size W2).alloc (Nat.le_refl _) o).frozen (p := ⟨b, 3, none⟩) hbl).trans V2.f3
    have hne0 : some b ≠ (Value.slice ao M.length cap).ownBlock := fun e => V2.ap e.symm
    have HO : Hid (W2.ownsRow B 3 1 (.slice ao M.length cap) M.length (zints M)) := V2.row
    have hBW2 : B ≤ W2.heap.size := Nat.le_trans hBw HB2.out.size
    clear V2
    go_wp2_with (at_builtin; refine wpList_append_lies _ rfl _ _ 22 rfl B 3 i0 (.int .i64 0) 1 8 Try.underlying22 hi0 hz0 hz1' hz2 rfl (by decide) _ M.length _ rfl (World.ownsRow.alloc HO.out _) ⟨W2.heap.size, 0, none⟩ 1 1 [.int .i64 1] rfl rfl (World.news_of_block (heap_alloc_new W2 _)) (one1Q 1) (by omega) (by unfold maxLen; omega) (by omega) (by simp; omega) (W2.heap.size + 1) (by simp) ?_; intro g9 cap9 w9 hown9 hgrow9 hat9 hlt9; have c9 : w9.cell? ⟨b, 3, none⟩ = some (.slice ao M.length cap) := (hgrow9.cell_far ⟨b, 3, none⟩ (by simp; omega) hne0).trans (S1a _); have z9 : w9.frozen? ⟨b, 3, none⟩ = false := (World.frozen?_of_block (hgrow9.block b (by simp; omega) hne0)).trans (f1a _); have hend := Lu.app H.out HB2.out hown9 hgrow9 hat9 hBw; have hetn := Lu.appT (u := .slice (some ⟨g9, 0, none⟩) (M.length + 1) cap9) (n := M.length + 1) (cap9 := cap9) H.out HB2.out hgrow9 hat9; have HETN : Hid (type_of% hetn) := hetn; rw [show M.length + 1 = (M ++ [(1 : Int)]).length by simp] at hetn; have htt := hetn.trans (Lu.putT _ b g9 cap9 (M ++ [(1 : Int)]) k 3); have HTT : Hid (type_of% htt) := htt; obtain ⟨g8, cap8, hv8, hc8, hf8, hlc8, hcm8, hp8, hpb8⟩ := hend.1.putAny hkl 3; simp only [Value.slice.injEq, Option.some.injEq, Addr.mk.injEq, and_true, List.length_append, List.length_singleton, true_and] at hv8; obtain ⟨rfl, rfl⟩ := hv8; generalize (M ++ [(1 : Int)]).getD k 0 = y8 at hc8; unfold maxLen at hcm8; have hkI : (k : Int) < ((M.length : Int) + 1) := (by omega); have HP8 : Hid (type_of% hp8) := hp8; have HPB8 : Hid (type_of% (hend.2.trans hpb8)) := hend.2.trans hpb8; clear hp8 hpb8 htt; clear hend hetn hown9 hgrow9 hat9)
    go_ret2
    exact ⟨rfl, ⟨_, HP8.out, by have h := HTT.out; rw [show (M ++ [(1 : Int)]).length = M.length + 1 by simp] at h; exact h⟩, HPB8.out⟩

set_option maxRecDepth 100000 in
set_option maxHeartbeats 8000000 in
theorem offerT_full3 (B b : Nat) (c r : Int) (M : List Int) (vm : Value) (w : World) (h : Lu w B b c r M vm) (hg : GdM c M) (hBw : B ≤ w.heap.size) (he : M.length ≠ 100) (hroom : ¬ ((al M 1).length : Int) < c) (hc : 1 ≤ c) (hr : r = 3) :
    Calls Try.prog 53 #[.pointer (some ⟨b, 0, none⟩)] w fun e w' => e = .returned (.tuple #[.int .i64 (ofM c r M).2.1, .bool (ofM c r M).2.2]) ∧ (∃ v9, Lu w' B b c r (ofM c r M).1 v9 ∧ Lt w w' b vm v9) ∧ Below B w w' := by
  obtain ⟨i0, hi0, hz0, hz1', hz2⟩ := info_parts infoIntR
  have hl := hg.len
  have CN := nextU B b c r M vm w h
  have CA : Hid (∀ W, Below w.heap.size w W → Calls Try.prog 59 #[.pointer (some ⟨b, 0, none⟩), .int .i64 1] W fun e w' => ∃ v, e = .returned v ∧ ZRow w' W.heap.size v (al M 1) ∧ Below W.heap.size W w') := fun W hW => allU B b c r 1 M vm W (h.below hW) (by omega)
  have H : Hid (Lu w B b c r M vm) := h
  obtain ⟨ao, cap, hvm⟩ := ZRow.slice h.row
  have hcapL : cap ≤ maxLen := by
    obtain ⟨_, _, e, _, h2, _⟩ := ZAt.own h.row
    rw [hvm] at e
    cases e
    exact h2
  unfold maxLen at hcapL
  subst hr
  obtain ⟨k, hk, hkl, hk1⟩ := dropN_is (c := c) (r := 3) hc hroom
  have hO : ofM c 3 M = ((M ++ [1]).set k 3, (k : Int), true) := by unfold ofM; rw [if_neg he, if_neg hroom, hk, Int.toNat_natCast]
  rw [hO]
  have he' : ((M.length : Int) == 100) = false := by simp; omega
  have hen : (M.length == 100) = false := by simpa using he
  have hroomd : decide (((al M 1).length : Int) < c) = false := by simpa using hroom
  have CD : Hid (∀ W, Below w.heap.size w W → Calls Try.prog 57 #[.pointer (some ⟨b, 0, none⟩)] W fun e w' => e = .returned (.int .i64 (k : Int)) ∧ w' = W) := fun W hW => by
    have := nextU B b c 3 M vm W (h.below hW)
    rw [show (M.length : Int) = (k : Int) from hk] at this
    exact this
  have c0 := h.c0
  have hml : (M ++ [(1 : Int)]).length = M.length + 1 := by simp
  have hkn : k < M.length + 1 := by omega
  subst hvm
  clear h hg hO he hroom hk hk1
  go_enter Try.func53, Try.ntmps53
  go_wp2_with fail
  go_at_call 57
  refine CN.mono ?_
  rintro e w1 ⟨rfl, hw⟩
  have hw := hw.symm
  subst hw
  clear CN
  go_upto_region 3 with fail
  have hBd : Hid (Below w.heap.size w w.drew) := (Below.refl _ w).drew
  go_region_with (go_at_call 59; (with_reducible refine (CA.out _ hBd.out).mono ?_); rintro e W2 ⟨v9, rfl, hr9, hb9⟩; obtain ⟨a9, k9, rfl⟩ := ZRow.slice hr9; have HB2 : Hid (Below w.heap.size w W2) := hBd.out.trans hb9; have c0b := (HB2.out.cell (p := ⟨b, 0, none⟩) H.out.hi).trans H.out.c0; clear hr9 hb9)
  all_goals
    have c2 := (H.out.below HB2.out).c2
    rw [show fnD 3 b = .func (.func 57) #[.pointer (some ⟨b, 0, none⟩)] #[] from rfl] at c2
    clear c0 c0b
    go_wp2_with fail
    go_at_call 57
    refine (CD.out _ HB2.out).mono ?_
    rintro e w3 ⟨rfl, hw⟩
    have hw := hw.symm
    subst hw
    clear c2
    have V2 := H.out.below HB2.out
    have hbl : b < W2.heap.size := V2.hi
    have c3 := V2.c3
    have S1a : ∀ o, (W2.alloc o).cell? ⟨b, 3, none⟩ = some (.slice ao M.length cap) := fun o => (((Below.refl W2.heap.size W2).alloc (Nat.le_refl _) o).cell (p := ⟨b, 3, none⟩) hbl).trans c3
    have f1a : ∀ o, (W2.alloc o).frozen? ⟨b, 3, none⟩ = false := fun o => (((Below.refl W2.heap.size W2).alloc (Nat.le_refl _) o).frozen (p := ⟨b, 3, none⟩) hbl).trans V2.f3
    have hne0 : some b ≠ (Value.slice ao M.length cap).ownBlock := fun e => V2.ap e.symm
    have HO : Hid (W2.ownsRow B 3 1 (.slice ao M.length cap) M.length (zints M)) := V2.row
    have hBW2 : B ≤ W2.heap.size := Nat.le_trans hBw HB2.out.size
    clear V2
    go_wp2_with (at_builtin; refine wpList_append_lies _ rfl _ _ 22 rfl B 3 i0 (.int .i64 0) 1 8 Try.underlying22 hi0 hz0 hz1' hz2 rfl (by decide) _ M.length _ rfl (World.ownsRow.alloc HO.out _) ⟨W2.heap.size, 0, none⟩ 1 1 [.int .i64 1] rfl rfl (World.news_of_block (heap_alloc_new W2 _)) (one1Q 1) (by omega) (by unfold maxLen; omega) (by omega) (by simp; omega) (W2.heap.size + 1) (by simp) ?_; intro g9 cap9 w9 hown9 hgrow9 hat9 hlt9; have c9 : w9.cell? ⟨b, 3, none⟩ = some (.slice ao M.length cap) := (hgrow9.cell_far ⟨b, 3, none⟩ (by simp; omega) hne0).trans (S1a _); have z9 : w9.frozen? ⟨b, 3, none⟩ = false := (World.frozen?_of_block (hgrow9.block b (by simp; omega) hne0)).trans (f1a _); have hend := Lu.app H.out HB2.out hown9 hgrow9 hat9 hBw; have hetn := Lu.appT (u := .slice (some ⟨g9, 0, none⟩) (M.length + 1) cap9) (n := M.length + 1) (cap9 := cap9) H.out HB2.out hgrow9 hat9; have HETN : Hid (type_of% hetn) := hetn; rw [show M.length + 1 = (M ++ [(1 : Int)]).length by simp] at hetn; have htt := hetn.trans (Lu.putT _ b g9 cap9 (M ++ [(1 : Int)]) k 3); have HTT : Hid (type_of% htt) := htt; obtain ⟨g8, cap8, hv8, hc8, hf8, hlc8, hcm8, hp8, hpb8⟩ := hend.1.putAny hkl 3; simp only [Value.slice.injEq, Option.some.injEq, Addr.mk.injEq, and_true, List.length_append, List.length_singleton, true_and] at hv8; obtain ⟨rfl, rfl⟩ := hv8; generalize (M ++ [(1 : Int)]).getD k 0 = y8 at hc8; unfold maxLen at hcm8; have hkI : (k : Int) < ((M.length : Int) + 1) := (by omega); have HP8 : Hid (type_of% hp8) := hp8; have HPB8 : Hid (type_of% (hend.2.trans hpb8)) := hend.2.trans hpb8; clear hp8 hpb8 htt; clear hend hetn hown9 hgrow9 hat9)
    go_ret2
    exact ⟨rfl, ⟨_, HP8.out, by have h := HTT.out; rw [show (M ++ [(1 : Int)]).length = M.length + 1 by simp] at h; exact h⟩, HPB8.out⟩

theorem offerT (B b : Nat) (c r : Int) (M : List Int) (vm : Value) (w : World) (h : Lu w B b c r M vm) (hg : GdM c M) (hc : 1 ≤ c) (hr : 1 ≤ r ∧ r ≤ 3) (hBw : B ≤ w.heap.size) :
    Calls Try.prog 53 #[.pointer (some ⟨b, 0, none⟩)] w fun e w' => e = .returned (.tuple #[.int .i64 (ofM c r M).2.1, .bool (ofM c r M).2.2]) ∧ (∃ v9, Lu w' B b c r (ofM c r M).1 v9 ∧ Lt w w' b vm v9) ∧ Below B w w' := by
  by_cases he : M.length = 100
  · exact offerT_end B b c r M vm w h he
  · by_cases hroom : ((al M 1).length : Int) < c
    · exact offerT_room B b c r M vm w h hg hBw he hroom
    · rcases (show r = 1 ∨ r = 2 ∨ r = 3 by omega) with r1 | r1 | r1
      · exact offerT_full1 B b c r M vm w h hg hBw he hroom hc r1
      · exact offerT_full2 B b c r M vm w h hg hBw he hroom hc r1
      · exact offerT_full3 B b c r M vm w h hg hBw he hroom hc r1

end Go.Proofs.Ytfkhbbmnjndmcaa
