/- slices.Clone of texts, packets and acks; what is on its way is looked at; a cut, a push, an item sent. -/
import Derived.Test.YtnlppeieccbhgaaSnW
import Derived.Test.YtnlppeieccbhgaaSnC
import Derived.Test.YtnlppeieccbhgaaSnG
import Derived.Deep.DeepCutAuto
namespace Go.Proofs.Ytnlppeieccbhgaa
open Go.RowKit Plain Tpc Ssn

set_option maxRecDepth 100000 in
set_option maxHeartbeats 4000000 in
theorem cloneT_any (L : List ByteArray) (v : Value) (w : World) (h : StAt w w.heap.size v L) (hl : L.length ≤ 100000) :
    Calls Try.prog 95 #[v] w fun e w' => ∃ r, e = .returned r ∧ StRow w' w.heap.size r L ∧ Below w.heap.size w w' := by
  obtain ⟨i0, hi, hz0, hz1, hz2⟩ := info_parts infoStr
  have HA : Hid (type_of% h) := h
  obtain ⟨ao, cap, rfl, hlc, hcm, hr⟩ := h
  have hcm' : cap ≤ 9223372036854775807 := by unfold maxLen at hcm; omega
  have hq := fun W => Lib.run_eql_slice_nil (P := Try.prog) W 22 9 ao L.length cap 0 0 Try.underlying22
  cases ao with
  | none =>
    have h0 : L = [] := by
      cases L with
      | nil => rfl
      | cons a t =>
        obtain ⟨g, o, ha, _⟩ := hr 0 (by simp)
        cases ha
    subst h0
    clear hr HA hq
    have hq := fun W => Lib.run_eql_slice_nil (P := Try.prog) W 22 9 none 0 cap 0 0 Try.underlying22
    show Calls Try.prog 95 #[.slice none 0 cap] w _
    go_enter Try.func95, Try.ntmps95
    go_wp2_with fail
    go_ret
    exact ⟨_, rfl, ⟨rfl, .inl ⟨rfl, rfl⟩⟩, Below.refl _ _⟩
  | some a =>
    clear hr
    have hb1 : Below w.heap.size w (w.alloc (.cells #[] 9)) := (Below.refl _ w).alloc (Nat.le_refl _) _
    have hown := World.ownsRow_made (base := w.heap.size) (e := 9) (size := 1) w #[] 0 (Nat.le_refl _) (by unfold maxLen; omega) rfl
    have HOWN : Hid (type_of% hown) := hown
    have HB1 : Hid (type_of% hb1) := hb1
    clear hown hb1
    go_enter Try.func95, Try.ntmps95
    go_wp2_with (at_builtin; refine wpList_append_mayF _ rfl _ _ 22 rfl w.heap.size 9 i0 (.string ByteArray.empty) 1 16 Try.underlying22 hi hz0 hz1 hz2 rfl (by decide) _ 0 [] rfl HOWN.out _ L.length _ (strs L) rfl (by unfold strs; rw [List.length_map, Nat.mul_one]) (StAt.newsS (HA.out.below HB1.out)) (one_strsS _) (by unfold maxLen; omega) (by omega) (by simp) ?_; intro ar c9 w9 hown9 hgrow9 hnew9; rw [Nat.zero_add, List.nil_append] at hown9; have hR9 : Hid (StRow w9 w.heap.size (.slice ar L.length c9) L) := hown9; have hB9 : Hid (Below w.heap.size w w9) := HB1.out.grown hgrow9 (by simp) (fun k hk => (World.ownsRow.lt HOWN.out k hk).1); clear hown9 hgrow9 hnew9)
    go_ret
    exact ⟨_, rfl, by simpa using hR9.out, hB9.out⟩

set_option maxRecDepth 100000 in
set_option maxHeartbeats 4000000 in
theorem cloneP_any (L : List Pk) (v : Value) (w : World) (h : PksAt w w.heap.size v L) (hl : L.length ≤ 100000) :
    Calls Try.prog 96 #[v] w fun e w' => ∃ r, e = .returned r ∧ PkRow w' w.heap.size r L ∧ Below w.heap.size w w' := by
  obtain ⟨i0, hi, hz0, hz1, hz2⟩ := info_parts Try.infoPk
  have HA : Hid (type_of% h) := h
  obtain ⟨ao, cap, rfl, hlc, hcm, hr⟩ := h
  have hcm' : cap ≤ 9223372036854775807 := by unfold maxLen at hcm; omega
  have hq := fun W => Lib.run_eql_slice_nil (P := Try.prog) W 23 84 ao L.length cap 0 0 Try.underlying23
  cases ao with
  | none =>
    have h0 : L = [] := by
      cases L with
      | nil => rfl
      | cons a t =>
        obtain ⟨g, o, ha, _⟩ := hr 0 (by simp)
        cases ha
    subst h0
    clear hr HA hq
    have hq := fun W => Lib.run_eql_slice_nil (P := Try.prog) W 23 84 none 0 cap 0 0 Try.underlying23
    show Calls Try.prog 96 #[.slice none 0 cap] w _
    go_enter Try.func96, Try.ntmps96
    go_wp2_with fail
    go_ret
    exact ⟨_, rfl, ⟨rfl, .inl ⟨rfl, rfl⟩⟩, Below.refl _ _⟩
  | some a =>
    clear hr
    have hb1 : Below w.heap.size w (w.alloc (.cells #[] 84)) := (Below.refl _ w).alloc (Nat.le_refl _) _
    have hown := World.ownsRow_made (base := w.heap.size) (e := 84) (size := 3) w #[] 0 (Nat.le_refl _) (by unfold maxLen; omega) rfl
    have HOWN : Hid (type_of% hown) := hown
    have HB1 : Hid (type_of% hb1) := hb1
    clear hown hb1
    go_enter Try.func96, Try.ntmps96
    go_wp2_with (at_builtin; refine wpList_append_mayF _ rfl _ _ 23 rfl w.heap.size 84 i0 (.agg #[.int .i64 0, .int .i64 0, .string ⟨#[]⟩]) 3 32 Try.underlying23 hi hz0 hz1 hz2 rfl (by decide) _ 0 [] rfl HOWN.out _ L.length _ (L.flatMap Pk.cells) rfl (flatPk_len _) (PksAt.news (HA.out.below HB1.out)) (onesPk _) (by unfold maxLen; omega) (by omega) (by simp) ?_; intro ar c9 w9 hown9 hgrow9 hnew9; rw [Nat.zero_add, List.nil_append] at hown9; have hR9 : Hid (PkRow w9 w.heap.size (.slice ar L.length c9) L) := hown9; have hB9 : Hid (Below w.heap.size w w9) := HB1.out.grown hgrow9 (by simp) (fun k hk => (World.ownsRow.lt HOWN.out k hk).1); clear hown9 hgrow9 hnew9)
    go_ret
    exact ⟨_, rfl, by simpa using hR9.out, hB9.out⟩

set_option maxRecDepth 100000 in
set_option maxHeartbeats 4000000 in
theorem cloneA_any (L : List Ak) (v : Value) (w : World) (h : AksAt w w.heap.size v L) (hl : L.length ≤ 100000) :
    Calls Try.prog 97 #[v] w fun e w' => ∃ r, e = .returned r ∧ AkRow w' w.heap.size r L ∧ Below w.heap.size w w' := by
  obtain ⟨i0, hi, hz0, hz1, hz2⟩ := info_parts Try.infoAk
  have HA : Hid (type_of% h) := h
  obtain ⟨ao, cap, rfl, hlc, hcm, hr⟩ := h
  have hcm' : cap ≤ 9223372036854775807 := by unfold maxLen at hcm; omega
  have hq := fun W => Lib.run_eql_slice_nil (P := Try.prog) W 24 86 ao L.length cap 0 0 Try.underlying24
  cases ao with
  | none =>
    have h0 : L = [] := by
      cases L with
      | nil => rfl
      | cons a t =>
        obtain ⟨g, o, ha, _⟩ := hr 0 (by simp)
        cases ha
    subst h0
    clear hr HA hq
    have hq := fun W => Lib.run_eql_slice_nil (P := Try.prog) W 24 86 none 0 cap 0 0 Try.underlying24
    show Calls Try.prog 97 #[.slice none 0 cap] w _
    go_enter Try.func97, Try.ntmps97
    go_wp2_with fail
    go_ret
    exact ⟨_, rfl, ⟨rfl, .inl ⟨rfl, rfl⟩⟩, Below.refl _ _⟩
  | some a =>
    clear hr
    have hb1 : Below w.heap.size w (w.alloc (.cells #[] 86)) := (Below.refl _ w).alloc (Nat.le_refl _) _
    have hown := World.ownsRow_made (base := w.heap.size) (e := 86) (size := 2) w #[] 0 (Nat.le_refl _) (by unfold maxLen; omega) rfl
    have HOWN : Hid (type_of% hown) := hown
    have HB1 : Hid (type_of% hb1) := hb1
    clear hown hb1
    go_enter Try.func97, Try.ntmps97
    go_wp2_with (at_builtin; refine wpList_append_mayF _ rfl _ _ 24 rfl w.heap.size 86 i0 (.agg #[.int .i64 0, .int .i64 0]) 2 16 Try.underlying24 hi hz0 hz1 hz2 rfl (by decide) _ 0 [] rfl HOWN.out _ L.length _ (L.flatMap Ak.cells) rfl (flatAk_len _) (AksAt.news (HA.out.below HB1.out)) (onesAk _) (by unfold maxLen; omega) (by omega) (by simp) ?_; intro ar c9 w9 hown9 hgrow9 hnew9; rw [Nat.zero_add, List.nil_append] at hown9; have hR9 : Hid (AkRow w9 w.heap.size (.slice ar L.length c9) L) := hown9; have hB9 : Hid (Below w.heap.size w w9) := HB1.out.grown hgrow9 (by simp) (fun k hk => (World.ownsRow.lt HOWN.out k hk).1); clear hown9 hgrow9 hnew9)
    go_ret
    exact ⟨_, rfl, by simpa using hR9.out, hB9.out⟩

end Go.Proofs.Ytnlppeieccbhgaa
