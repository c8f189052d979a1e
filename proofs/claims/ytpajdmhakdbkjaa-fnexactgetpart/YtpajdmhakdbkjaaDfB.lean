/- The program's appendDefault at every shape. -/
import Derived.Test.YtpajdmhakdbkjaaNdA
import Derived.Test.YtpajdmhakdbkjaaDfA
import Derived.Test.YtpajdmhakdbkjaaGf
import Derived.Test.YtpajdmhakdbkjaaGg
import Derived.Deep.DeepCutAuto
import Derived.Lib.BufferWrite
namespace Go.Proofs.Ytpajdmhakdbkjaa
open Go.RowKit Plain Sch

set_option maxRecDepth 100000 in
set_option maxHeartbeats 4000000 in
theorem appendDefaultNum (rv : Value) (nm : ByteArray) (no : Int) (mu : Bool) (up : Int) (L : List Ty) (B : Nat) (w : World) (hown : NdRow w B rv L) (hBw : B ≤ w.heap.size) (hlim : L.length + 1 ≤ 1000000) :
    Calls Try.prog 40 #[rv, .agg #[.string nm, .int .i64 no, .bool mu, .iface 136 (.agg #[])], .int .i64 up] w fun e w' => ∃ rv', e = .returned rv' ∧ NdRow w' B rv' (L ++ [⟨0, ⟨#[]⟩, no, false, up, 0⟩]) ∧ Grow w w' rv rv' := by
  obtain ⟨i0, hi, hz0, hz1, hz2⟩ := info_parts Try.infoNd
  have hlt0 := hown.lt
  obtain ⟨ar, capr, rfl, hnr, hcmr⟩ := ownSlice hown
  have hcmr' : capr ≤ 9223372036854775807 := by unfold maxLen at hcmr; omega
  obtain ⟨W1, hW1⟩ : ∃ W, W = w.alloc (.cells #[.string nm, .int .i64 no, .bool mu, .iface 136 (.agg #[])] 73) := ⟨_, rfl⟩
  have HS1 : Hid (W1.heap.size = w.heap.size + 1) := by show _ = _; rw [hW1]; simp
  have hB1 : Below w.heap.size w W1 := by rw [hW1]; exact (Below.refl _ w).alloc (Nat.le_refl _) _
  have b1 : W1.cell? ⟨w.heap.size, 1, none⟩ = some (.int .i64 no) := by rw [hW1]; go_simp
  have b3 : W1.cell? ⟨w.heap.size, 3, none⟩ = some (.iface 136 (.agg #[])) := by rw [hW1]; go_simp
  have hown1 : W1.ownsRow B 85 5 (.slice ar L.length capr) L.length (L.flatMap Ty.ncells) := own_below hown hB1
  have ta0 := taNumLst
  have ta1 := taNumMsg
  go_enter Try.func40, Try.ntmps40
  go_upto_region 2 with fail
  rw [← hW1]
  clear hW1
  go_wp2_with (at_builtin; refine wpList_append_lies _ rfl _ _ 27 rfl B 85 i0 (.agg #[.int .i64 0, .string ⟨#[]⟩, .int .i64 0, .int .i64 0, .bool false]) 5 48 Try.underlying27 hi hz0 hz1 hz2 rfl (by decide) _ L.length _ rfl (hown1.alloc _) ⟨W1.heap.size, 0, none⟩ 1 1 [.int .i64 0, .string ⟨#[]⟩, .int .i64 no, .int .i64 up, .bool false] rfl rfl ?c1 one5N ?c2 ?c3 ?c4 ?c5 (W1.heap.size + 1) ?c6 ?_)
  case c1 => exact World.news_of_block (heap_alloc_new W1 _)
  case c2 => omega
  case c3 => unfold maxLen; omega
  case c4 => omega
  case c5 => have := HS1.out; simp; omega
  case c6 => simp
  intro g9 cap9 w9 hown9 hgrow9 hat9 hlt9
  have hs1 := HS1.out
  clear HS1
  have hne9 : some w.heap.size ≠ (Value.slice ar L.length capr).ownBlock := fun e => by have := (hlt0 _ e.symm).2; omega
  have hs9 : w.heap.size + 2 ≤ w9.heap.size := by have := hgrow9.size; simp at this; omega
  have hG9 : Grow w w9 (.slice ar L.length capr) (.slice (some ⟨g9, 0, none⟩) (L.length + 1) cap9) := by
    refine ⟨⟨?_, ?_, ?_, by omega, fun j hj hne => ?_⟩, ?_⟩
    · exact hgrow9.os.trans hB1.os
    · exact hgrow9.tape.trans hB1.tape
    · exact hgrow9.output.trans hB1.output
    · rw [hgrow9.block j (by simp; omega) hne, Below.heap_alloc _ _ _ (by omega), hB1.block j hj]
    · rcases hat9 with h | h
      · exact .inl h.symm
      · exact .inr (fun g hg => by simp [Value.ownBlock] at hg; omega)
  have hown9' : NdRow w9 B (.slice (some ⟨g9, 0, none⟩) (L.length + 1) cap9) (L ++ [⟨0, ⟨#[]⟩, no, false, up, 0⟩]) := by
    unfold NdRow
    rw [List.length_append, List.length_singleton, List.flatMap_append]
    simpa [Ty.ncells] using hown9
  have b3' : w9.cell? ⟨w.heap.size, 3, none⟩ = some (.iface 136 (.agg #[])) := by
    rw [hgrow9.cell_far ⟨w.heap.size, 3, none⟩ (by simp; omega) hne9]
    rw [World.cell?_of_block (w := W1) (Below.heap_alloc _ _ _ (by show w.heap.size < _; omega))]
    exact b3
  have HG9 : Hid (Grow w w9 (.slice ar L.length capr) (.slice (some ⟨g9, 0, none⟩) (L.length + 1) cap9)) := hG9
  have HO9 : Hid (NdRow w9 B (.slice (some ⟨g9, 0, none⟩) (L.length + 1) cap9) (L ++ [⟨0, ⟨#[]⟩, no, false, up, 0⟩])) := hown9'
  clear hown9 hgrow9 hat9 hG9 hown9' hown hown1 b1 b3 hne9 hlt0 hs1
  go_wp2
  go_ret
  exact ⟨_, rfl, HO9.out, HG9.out⟩

set_option maxRecDepth 100000 in
set_option maxHeartbeats 4000000 in
theorem appendDefaultTxt (rv : Value) (nm : ByteArray) (no : Int) (mu : Bool) (up : Int) (L : List Ty) (B : Nat) (w : World) (hown : NdRow w B rv L) (hBw : B ≤ w.heap.size) (hlim : L.length + 1 ≤ 1000000) :
    Calls Try.prog 40 #[rv, .agg #[.string nm, .int .i64 no, .bool mu, .iface 140 (.agg #[])], .int .i64 up] w fun e w' => ∃ rv', e = .returned rv' ∧ NdRow w' B rv' (L ++ [⟨0, ⟨#[]⟩, no, false, up, 0⟩]) ∧ Grow w w' rv rv' := by
  obtain ⟨i0, hi, hz0, hz1, hz2⟩ := info_parts Try.infoNd
  have hlt0 := hown.lt
  obtain ⟨ar, capr, rfl, hnr, hcmr⟩ := ownSlice hown
  have hcmr' : capr ≤ 9223372036854775807 := by unfold maxLen at hcmr; omega
  obtain ⟨W1, hW1⟩ : ∃ W, W = w.alloc (.cells #[.string nm, .int .i64 no, .bool mu, .iface 140 (.agg #[])] 73) := ⟨_, rfl⟩
  have HS1 : Hid (W1.heap.size = w.heap.size + 1) := by show _ = _; rw [hW1]; simp
  have hB1 : Below w.heap.size w W1 := by rw [hW1]; exact (Below.refl _ w).alloc (Nat.le_refl _) _
  have b1 : W1.cell? ⟨w.heap.size, 1, none⟩ = some (.int .i64 no) := by rw [hW1]; go_simp
  have b3 : W1.cell? ⟨w.heap.size, 3, none⟩ = some (.iface 140 (.agg #[])) := by rw [hW1]; go_simp
  have hown1 : W1.ownsRow B 85 5 (.slice ar L.length capr) L.length (L.flatMap Ty.ncells) := own_below hown hB1
  have ta0 := taTxtLst
  have ta1 := taTxtMsg
  go_enter Try.func40, Try.ntmps40
  go_upto_region 2 with fail
  rw [← hW1]
  clear hW1
  go_wp2_with (at_builtin; refine wpList_append_lies _ rfl _ _ 27 rfl B 85 i0 (.agg #[.int .i64 0, .string ⟨#[]⟩, .int .i64 0, .int .i64 0, .bool false]) 5 48 Try.underlying27 hi hz0 hz1 hz2 rfl (by decide) _ L.length _ rfl (hown1.alloc _) ⟨W1.heap.size, 0, none⟩ 1 1 [.int .i64 0, .string ⟨#[]⟩, .int .i64 no, .int .i64 up, .bool false] rfl rfl ?c1 one5N ?c2 ?c3 ?c4 ?c5 (W1.heap.size + 1) ?c6 ?_)
  case c1 => exact World.news_of_block (heap_alloc_new W1 _)
  case c2 => omega
  case c3 => unfold maxLen; omega
  case c4 => omega
  case c5 => have := HS1.out; simp; omega
  case c6 => simp
  intro g9 cap9 w9 hown9 hgrow9 hat9 hlt9
  have hs1 := HS1.out
  clear HS1
  have hne9 : some w.heap.size ≠ (Value.slice ar L.length capr).ownBlock := fun e => by have := (hlt0 _ e.symm).2; omega
  have hs9 : w.heap.size + 2 ≤ w9.heap.size := by have := hgrow9.size; simp at this; omega
  have hG9 : Grow w w9 (.slice ar L.length capr) (.slice (some ⟨g9, 0, none⟩) (L.length + 1) cap9) := by
    refine ⟨⟨?_, ?_, ?_, by omega, fun j hj hne => ?_⟩, ?_⟩
    · exact hgrow9.os.trans hB1.os
    · exact hgrow9.tape.trans hB1.tape
    · exact hgrow9.output.trans hB1.output
    · rw [hgrow9.block j (by simp; omega) hne, Below.heap_alloc _ _ _ (by omega), hB1.block j hj]
    · rcases hat9 with h | h
      · exact .inl h.symm
      · exact .inr (fun g hg => by simp [Value.ownBlock] at hg; omega)
  have hown9' : NdRow w9 B (.slice (some ⟨g9, 0, none⟩) (L.length + 1) cap9) (L ++ [⟨0, ⟨#[]⟩, no, false, up, 0⟩]) := by
    unfold NdRow
    rw [List.length_append, List.length_singleton, List.flatMap_append]
    simpa [Ty.ncells] using hown9
  have b3' : w9.cell? ⟨w.heap.size, 3, none⟩ = some (.iface 140 (.agg #[])) := by
    rw [hgrow9.cell_far ⟨w.heap.size, 3, none⟩ (by simp; omega) hne9]
    rw [World.cell?_of_block (w := W1) (Below.heap_alloc _ _ _ (by show w.heap.size < _; omega))]
    exact b3
  have HG9 : Hid (Grow w w9 (.slice ar L.length capr) (.slice (some ⟨g9, 0, none⟩) (L.length + 1) cap9)) := hG9
  have HO9 : Hid (NdRow w9 B (.slice (some ⟨g9, 0, none⟩) (L.length + 1) cap9) (L ++ [⟨0, ⟨#[]⟩, no, false, up, 0⟩])) := hown9'
  clear hown9 hgrow9 hat9 hG9 hown9' hown hown1 b1 b3 hne9 hlt0 hs1
  go_wp2
  go_ret
  exact ⟨_, rfl, HO9.out, HG9.out⟩

set_option maxRecDepth 100000 in
set_option maxHeartbeats 4000000 in
theorem appendDefaultEnu (mo : Int) (rv : Value) (nm : ByteArray) (no : Int) (mu : Bool) (up : Int) (L : List Ty) (B : Nat) (w : World) (hown : NdRow w B rv L) (hBw : B ≤ w.heap.size) (hlim : L.length + 1 ≤ 1000000) :
    Calls Try.prog 40 #[rv, .agg #[.string nm, .int .i64 no, .bool mu, .iface 138 (.agg #[.int .i64 mo])], .int .i64 up] w fun e w' => ∃ rv', e = .returned rv' ∧ NdRow w' B rv' (L ++ [⟨0, ⟨#[]⟩, no, false, up, 0⟩]) ∧ Grow w w' rv rv' := by
  obtain ⟨i0, hi, hz0, hz1, hz2⟩ := info_parts Try.infoNd
  have hlt0 := hown.lt
  obtain ⟨ar, capr, rfl, hnr, hcmr⟩ := ownSlice hown
  have hcmr' : capr ≤ 9223372036854775807 := by unfold maxLen at hcmr; omega
  obtain ⟨W1, hW1⟩ : ∃ W, W = w.alloc (.cells #[.string nm, .int .i64 no, .bool mu, .iface 138 (.agg #[.int .i64 mo])] 73) := ⟨_, rfl⟩
  have HS1 : Hid (W1.heap.size = w.heap.size + 1) := by show _ = _; rw [hW1]; simp
  have hB1 : Below w.heap.size w W1 := by rw [hW1]; exact (Below.refl _ w).alloc (Nat.le_refl _) _
  have b1 : W1.cell? ⟨w.heap.size, 1, none⟩ = some (.int .i64 no) := by rw [hW1]; go_simp
  have b3 : W1.cell? ⟨w.heap.size, 3, none⟩ = some (.iface 138 (.agg #[.int .i64 mo])) := by rw [hW1]; go_simp
  have hown1 : W1.ownsRow B 85 5 (.slice ar L.length capr) L.length (L.flatMap Ty.ncells) := own_below hown hB1
  have ta0 := taEnuLst
  have ta1 := taEnuMsg
  go_enter Try.func40, Try.ntmps40
  go_upto_region 2 with fail
  rw [← hW1]
  clear hW1
  go_wp2_with (at_builtin; refine wpList_append_lies _ rfl _ _ 27 rfl B 85 i0 (.agg #[.int .i64 0, .string ⟨#[]⟩, .int .i64 0, .int .i64 0, .bool false]) 5 48 Try.underlying27 hi hz0 hz1 hz2 rfl (by decide) _ L.length _ rfl (hown1.alloc _) ⟨W1.heap.size, 0, none⟩ 1 1 [.int .i64 0, .string ⟨#[]⟩, .int .i64 no, .int .i64 up, .bool false] rfl rfl ?c1 one5N ?c2 ?c3 ?c4 ?c5 (W1.heap.size + 1) ?c6 ?_)
  case c1 => exact World.news_of_block (heap_alloc_new W1 _)
  case c2 => omega
  case c3 => unfold maxLen; omega
  case c4 => omega
  case c5 => have := HS1.out; simp; omega
  case c6 => simp
  intro g9 cap9 w9 hown9 hgrow9 hat9 hlt9
  have hs1 := HS1.out
  clear HS1
  have hne9 : some w.heap.size ≠ (Value.slice ar L.length capr).ownBlock := fun e => by have := (hlt0 _ e.symm).2; omega
  have hs9 : w.heap.size + 2 ≤ w9.heap.size := by have := hgrow9.size; simp at this; omega
  have hG9 : Grow w w9 (.slice ar L.length capr) (.slice (some ⟨g9, 0, none⟩) (L.length + 1) cap9) := by
    refine ⟨⟨?_, ?_, ?_, by omega, fun j hj hne => ?_⟩, ?_⟩
    · exact hgrow9.os.trans hB1.os
    · exact hgrow9.tape.trans hB1.tape
    · exact hgrow9.output.trans hB1.output
    · rw [hgrow9.block j (by simp; omega) hne, Below.heap_alloc _ _ _ (by omega), hB1.block j hj]
    · rcases hat9 with h | h
      · exact .inl h.symm
      · exact .inr (fun g hg => by simp [Value.ownBlock] at hg; omega)
  have hown9' : NdRow w9 B (.slice (some ⟨g9, 0, none⟩) (L.length + 1) cap9) (L ++ [⟨0, ⟨#[]⟩, no, false, up, 0⟩]) := by
    unfold NdRow
    rw [List.length_append, List.length_singleton, List.flatMap_append]
    simpa [Ty.ncells] using hown9
  have b3' : w9.cell? ⟨w.heap.size, 3, none⟩ = some (.iface 138 (.agg #[.int .i64 mo])) := by
    rw [hgrow9.cell_far ⟨w.heap.size, 3, none⟩ (by simp; omega) hne9]
    rw [World.cell?_of_block (w := W1) (Below.heap_alloc _ _ _ (by show w.heap.size < _; omega))]
    exact b3
  have HG9 : Hid (Grow w w9 (.slice ar L.length capr) (.slice (some ⟨g9, 0, none⟩) (L.length + 1) cap9)) := hG9
  have HO9 : Hid (NdRow w9 B (.slice (some ⟨g9, 0, none⟩) (L.length + 1) cap9) (L ++ [⟨0, ⟨#[]⟩, no, false, up, 0⟩])) := hown9'
  clear hown9 hgrow9 hat9 hG9 hown9' hown hown1 b1 b3 hne9 hlt0 hs1
  go_wp2
  go_ret
  exact ⟨_, rfl, HO9.out, HG9.out⟩

set_option maxRecDepth 100000 in
set_option maxHeartbeats 4000000 in
theorem appendDefaultLst (xa : TypeId) (xv : Value) (rv : Value) (nm : ByteArray) (no : Int) (mu : Bool) (up : Int) (L : List Ty) (B : Nat) (w : World) (hown : NdRow w B rv L) (hBw : B ≤ w.heap.size) (hlim : L.length + 1 ≤ 1000000) :
    Calls Try.prog 40 #[rv, .agg #[.string nm, .int .i64 no, .bool mu, .iface 125 (.agg #[.iface xa xv])], .int .i64 up] w fun e w' => ∃ rv', e = .returned rv' ∧ NdRow w' B rv' (L ++ [⟨0, ⟨#[]⟩, no, true, up, 0⟩]) ∧ Grow w w' rv rv' := by
  obtain ⟨i0, hi, hz0, hz1, hz2⟩ := info_parts Try.infoNd
  have hlt0 := hown.lt
  obtain ⟨ar, capr, rfl, hnr, hcmr⟩ := ownSlice hown
  have hcmr' : capr ≤ 9223372036854775807 := by unfold maxLen at hcmr; omega
  obtain ⟨W1, hW1⟩ : ∃ W, W = w.alloc (.cells #[.string nm, .int .i64 no, .bool mu, .iface 125 (.agg #[.iface xa xv])] 73) := ⟨_, rfl⟩
  have HS1 : Hid (W1.heap.size = w.heap.size + 1) := by show _ = _; rw [hW1]; simp
  have hB1 : Below w.heap.size w W1 := by rw [hW1]; exact (Below.refl _ w).alloc (Nat.le_refl _) _
  have b1 : W1.cell? ⟨w.heap.size, 1, none⟩ = some (.int .i64 no) := by rw [hW1]; go_simp
  have b3 : W1.cell? ⟨w.heap.size, 3, none⟩ = some (.iface 125 (.agg #[.iface xa xv])) := by rw [hW1]; go_simp
  have hown1 : W1.ownsRow B 85 5 (.slice ar L.length capr) L.length (L.flatMap Ty.ncells) := own_below hown hB1
  have ta0 := taLstLst
  go_enter Try.func40, Try.ntmps40
  go_upto_region 2 with fail
  rw [← hW1]
  clear hW1
  go_wp2_with (at_builtin; refine wpList_append_lies _ rfl _ _ 27 rfl B 85 i0 (.agg #[.int .i64 0, .string ⟨#[]⟩, .int .i64 0, .int .i64 0, .bool false]) 5 48 Try.underlying27 hi hz0 hz1 hz2 rfl (by decide) _ L.length _ rfl (hown1.alloc _) ⟨W1.heap.size, 0, none⟩ 1 1 [.int .i64 0, .string ⟨#[]⟩, .int .i64 no, .int .i64 up, .bool false] rfl rfl ?c1 one5N ?c2 ?c3 ?c4 ?c5 (W1.heap.size + 1) ?c6 ?_)
  case c1 => exact World.news_of_block (heap_alloc_new W1 _)
  case c2 => omega
  case c3 => unfold maxLen; omega
  case c4 => omega
  case c5 => have := HS1.out; simp; omega
  case c6 => simp
  intro g9 cap9 w9 hown9 hgrow9 hat9 hlt9
  have hs1 := HS1.out
  clear HS1
  have hne9 : some w.heap.size ≠ (Value.slice ar L.length capr).ownBlock := fun e => by have := (hlt0 _ e.symm).2; omega
  have hs9 : w.heap.size + 2 ≤ w9.heap.size := by have := hgrow9.size; simp at this; omega
  have hG9 : Grow w w9 (.slice ar L.length capr) (.slice (some ⟨g9, 0, none⟩) (L.length + 1) cap9) := by
    refine ⟨⟨?_, ?_, ?_, by omega, fun j hj hne => ?_⟩, ?_⟩
    · exact hgrow9.os.trans hB1.os
    · exact hgrow9.tape.trans hB1.tape
    · exact hgrow9.output.trans hB1.output
    · rw [hgrow9.block j (by simp; omega) hne, Below.heap_alloc _ _ _ (by omega), hB1.block j hj]
    · rcases hat9 with h | h
      · exact .inl h.symm
      · exact .inr (fun g hg => by simp [Value.ownBlock] at hg; omega)
  have hown9' : NdRow w9 B (.slice (some ⟨g9, 0, none⟩) (L.length + 1) cap9) (L ++ [⟨0, ⟨#[]⟩, no, false, up, 0⟩]) := by
    unfold NdRow
    rw [List.length_append, List.length_singleton, List.flatMap_append]
    simpa [Ty.ncells] using hown9
  have b3' : w9.cell? ⟨w.heap.size, 3, none⟩ = some (.iface 125 (.agg #[.iface xa xv])) := by
    rw [hgrow9.cell_far ⟨w.heap.size, 3, none⟩ (by simp; omega) hne9]
    rw [World.cell?_of_block (w := W1) (Below.heap_alloc _ _ _ (by show w.heap.size < _; omega))]
    exact b3
  have HG9 : Hid (Grow w w9 (.slice ar L.length capr) (.slice (some ⟨g9, 0, none⟩) (L.length + 1) cap9)) := hG9
  have HO9 : Hid (NdRow w9 B (.slice (some ⟨g9, 0, none⟩) (L.length + 1) cap9) (L ++ [⟨0, ⟨#[]⟩, no, false, up, 0⟩])) := hown9'
  clear hown9 hgrow9 hat9 hG9 hown9' hown hown1 b1 b3 hne9 hlt0 hs1
  have hr : w9.ownsRow B 85 5 (.slice (some ⟨g9, 0, none⟩) (L.length + 1) cap9) (L.length + 1) ((L ++ [(⟨0, ⟨#[]⟩, no, false, up, 0⟩ : Ty)]).flatMap Ty.ncells) := by
    have h := HO9.out
    unfold NdRow at h
    rwa [List.length_append, List.length_singleton] at h
  have q5 : w9.cell? ⟨g9, L.length * 5 + 4, none⟩ = some (.bool false) := by
    rw [hr.cellAt (L.length * 5 + 4) (by omega)]
    rw [List.flatMap_append, List.getElem?_append_right (by rw [flat5_len]; omega), flat5_len]
    rw [show L.length * 5 + 4 - L.length * 5 = 4 by omega]
    rfl
  have z5 := hr.frozenAt (L.length * 5 + 4)
  have HST : Hid (NdRow (w9.setCell ⟨g9, L.length * 5 + 4, none⟩ (.bool true)) B (.slice (some ⟨g9, 0, none⟩) (L.length + 1) cap9) (L ++ [⟨0, ⟨#[]⟩, no, true, up, 0⟩])) := by
    have h := (hr.stored (L.length * 5 + 4) (.bool true)).1
    show World.ownsRow _ _ _ _ _ _ _
    rw [List.length_append, List.length_singleton]
    have e : ((L ++ [(⟨0, ⟨#[]⟩, no, false, up, 0⟩ : Ty)]).flatMap Ty.ncells).set (L.length * 5 + 4) (.bool true) = (L ++ [(⟨0, ⟨#[]⟩, no, true, up, 0⟩ : Ty)]).flatMap Ty.ncells := by
      rw [List.flatMap_append, List.flatMap_append, List.set_append_right _ _ (by rw [flat5_len]; omega), flat5_len, show L.length * 5 + 4 - L.length * 5 = 4 by omega]
      rfl
    rw [← e]
    exact h
  have HGS : Hid (Grow w (w9.setCell ⟨g9, L.length * 5 + 4, none⟩ (.bool true)) (.slice ar L.length capr) (.slice (some ⟨g9, 0, none⟩) (L.length + 1) cap9)) := HG9.out.trans ⟨Lib.grownBy_setCell _ g9 (L.length * 5 + 4) (.bool true), .inl rfl⟩
  have hg9lt : g9 < w9.heap.size := hlt9
  have hLb : (L.length : Int) < (L.length : Int) + 1 := by omega
  have hL0 : (0 : Int) ≤ (L.length : Int) := by omega
  have hc9 : cap9 ≤ 9223372036854775807 := by
    obtain ⟨_, _, e, h1, h2⟩ := ownSlice hr
    simp only [Value.slice.injEq] at e
    rw [e.2.2]
    unfold maxLen at h2
    omega
  clear hr HG9 HO9
  go_wp2
  go_ret
  refine ⟨_, rfl, ?_, ?_⟩
  · exact own_below HST.out ((Below.refl _ _).alloc (Nat.le_refl _) _)
  · exact HGS.out.trans (Grow.below ((Below.refl _ _).alloc (Nat.le_refl _) _))

def DfOK (d : Nat) (t : Tr) : Prop := ∀ (ua : TypeId) (uv : Value) (up : Int) (rv : Value) (L : List Ty) (S : Nat → Prop) (B : Nat) (w : World),
  ShIn d w S (.iface ua uv) t → (∀ g, S g → g < w.heap.size) → (∀ g, rv.ownBlock = some g → ¬ S g) → NdRow w B rv L → B ≤ w.heap.size → L.length + t.size ≤ 1000000 →
  Calls Try.prog 40 #[rv, .agg #[.string t.name, .int .i64 t.no, .bool t.must, .iface ua uv], .int .i64 up] w fun e w' => ∃ rv', e = .returned rv' ∧ NdRow w' B rv' (L ++ flat (dflt t) up L.length) ∧ Grow w w' rv rv'

set_option maxRecDepth 100000 in
set_option maxHeartbeats 4000000 in
theorem appendDefaultMsg (d : Nat) (ks : List Tr) (ap : Option Addr) (np cp : Nat) (S : Nat → Prop) (rv : Value) (nm : ByteArray) (no : Int) (mu : Bool) (up : Int) (L : List Ty) (B : Nat) (w : World) (hk : PartsIn d w S (.slice ap np cp) ks) (hS : ∀ g, S g → g < w.heap.size) (hap : ∀ g, rv.ownBlock = some g → ¬ S g)
    (hown : NdRow w B rv L) (hBw : B ≤ w.heap.size) (hlimk : L.length + 1 + sizeL ks ≤ 1000000) (ih0 : ∀ x ∈ ks, DfOK d x) :
    Calls Try.prog 40 #[rv, .agg #[.string nm, .int .i64 no, .bool mu, .iface 127 (.agg #[.slice ap np cp])], .int .i64 up] w fun e w' => ∃ rv', e = .returned rv' ∧ NdRow w' B rv' (dlaid L no up ks ks.length) ∧ Grow w w' rv rv' := by
  have ih : Hid (∀ x ∈ ks, DfOK d x) := ih0
  clear ih0
  obtain ⟨ap', cp', hcc, hlc, hcm, hrow⟩ := hk
  simp only [Value.slice.injEq] at hcc
  obtain ⟨rfl, hnp, rfl⟩ := hcc
  have hcm' : cp ≤ 9223372036854775807 := by unfold maxLen at hcm; omega
  have HROW : Hid (∀ i x, ks[i]? = some x → ∃ (g o : Nat) (u : TypeId × Value), ap = some ⟨g, o, none⟩ ∧ S g ∧ PtIn w g (o + i * 4) x (.iface u.1 u.2) ∧ ShIn d w S (.iface u.1 u.2) x) := hrow
  have HS : Hid (∀ g, S g → g < w.heap.size) := hS
  have HAP : Hid (∀ g, rv.ownBlock = some g → ¬ S g) := hap
  have HM : Hid (∀ i x, ks[i]? = some x → (x.must = true → dlaid L no up ks (i + 1) = dlaid L no up ks i ++ flat (dflt x) L.length (dlaid L no up ks i).length) ∧ (x.must = false → dlaid L no up ks (i + 1) = dlaid L no up ks i) ∧ (dlaid L no up ks i).length + x.size ≤ 1000000) := fun i x hx => ⟨dlaid_must L no up ks i x hx, dlaid_skip L no up ks i x hx, by have := dlaid_small L no up ks i x hx; omega⟩
  have HL0 : Hid (dlaid L no up ks 0 = L ++ [⟨0, ⟨#[]⟩, no, true, up, 0⟩]) := dlaid_start L no up ks
  have hlim : L.length + 1 ≤ 1000000 := by omega
  have HNP : Hid (np = ks.length) := hnp
  have hlc' : np ≤ cp := by omega
  clear hrow hS hap hlimk hnp hlc
  obtain ⟨i0, hi, hz0, hz1, hz2⟩ := info_parts Try.infoNd
  have hlt0 := hown.lt
  obtain ⟨ar, capr, rfl, hnr, hcmr⟩ := ownSlice hown
  have hcmr' : capr ≤ 9223372036854775807 := by unfold maxLen at hcmr; omega
  obtain ⟨W1, hW1⟩ : ∃ W, W = w.alloc (.cells #[.string nm, .int .i64 no, .bool mu, .iface 127 (.agg #[.slice ap np cp])] 73) := ⟨_, rfl⟩
  have HS1 : Hid (W1.heap.size = w.heap.size + 1) := by show _ = _; rw [hW1]; simp
  have hB1 : Below w.heap.size w W1 := by rw [hW1]; exact (Below.refl _ w).alloc (Nat.le_refl _) _
  have b1 : W1.cell? ⟨w.heap.size, 1, none⟩ = some (.int .i64 no) := by rw [hW1]; go_simp
  have b3 : W1.cell? ⟨w.heap.size, 3, none⟩ = some (.iface 127 (.agg #[.slice ap np cp])) := by rw [hW1]; go_simp
  have hown1 : W1.ownsRow B 85 5 (.slice ar L.length capr) L.length (L.flatMap Ty.ncells) := own_below hown hB1
  have ta0 := taMsgLst
  have ta1 := taMsgMsg
  go_enter Try.func40, Try.ntmps40
  go_upto_region 2 with fail
  rw [← hW1]
  clear hW1
  go_wp2_with (at_builtin; refine wpList_append_lies _ rfl _ _ 27 rfl B 85 i0 (.agg #[.int .i64 0, .string ⟨#[]⟩, .int .i64 0, .int .i64 0, .bool false]) 5 48 Try.underlying27 hi hz0 hz1 hz2 rfl (by decide) _ L.length _ rfl (hown1.alloc _) ⟨W1.heap.size, 0, none⟩ 1 1 [.int .i64 0, .string ⟨#[]⟩, .int .i64 no, .int .i64 up, .bool false] rfl rfl ?c1 one5N ?c2 ?c3 ?c4 ?c5 (W1.heap.size + 1) ?c6 ?_)
  case c1 => exact World.news_of_block (heap_alloc_new W1 _)
  case c2 => omega
  case c3 => unfold maxLen; omega
  case c4 => omega
  case c5 => have := HS1.out; simp; omega
  case c6 => simp
  intro g9 cap9 w9 hown9 hgrow9 hat9 hlt9
  have hs1 := HS1.out
  clear HS1
  have hne9 : some w.heap.size ≠ (Value.slice ar L.length capr).ownBlock := fun e => by have := (hlt0 _ e.symm).2; omega
  have hs9 : w.heap.size + 2 ≤ w9.heap.size := by have := hgrow9.size; simp at this; omega
  have hG9 : Grow w w9 (.slice ar L.length capr) (.slice (some ⟨g9, 0, none⟩) (L.length + 1) cap9) := by
    refine ⟨⟨?_, ?_, ?_, by omega, fun j hj hne => ?_⟩, ?_⟩
    · exact hgrow9.os.trans hB1.os
    · exact hgrow9.tape.trans hB1.tape
    · exact hgrow9.output.trans hB1.output
    · rw [hgrow9.block j (by simp; omega) hne, Below.heap_alloc _ _ _ (by omega), hB1.block j hj]
    · rcases hat9 with h | h
      · exact .inl h.symm
      · exact .inr (fun g hg => by simp [Value.ownBlock] at hg; omega)
  have hown9' : NdRow w9 B (.slice (some ⟨g9, 0, none⟩) (L.length + 1) cap9) (L ++ [⟨0, ⟨#[]⟩, no, false, up, 0⟩]) := by
    unfold NdRow
    rw [List.length_append, List.length_singleton, List.flatMap_append]
    simpa [Ty.ncells] using hown9
  have b3' : w9.cell? ⟨w.heap.size, 3, none⟩ = some (.iface 127 (.agg #[.slice ap np cp])) := by
    rw [hgrow9.cell_far ⟨w.heap.size, 3, none⟩ (by simp; omega) hne9]
    rw [World.cell?_of_block (w := W1) (Below.heap_alloc _ _ _ (by show w.heap.size < _; omega))]
    exact b3
  have HG9 : Hid (Grow w w9 (.slice ar L.length capr) (.slice (some ⟨g9, 0, none⟩) (L.length + 1) cap9)) := hG9
  have HO9 : Hid (NdRow w9 B (.slice (some ⟨g9, 0, none⟩) (L.length + 1) cap9) (L ++ [⟨0, ⟨#[]⟩, no, false, up, 0⟩])) := hown9'
  clear hown9 hgrow9 hat9 hG9 hown9' hown hown1 b1 b3 hne9 hlt0 hs1
  have hr : w9.ownsRow B 85 5 (.slice (some ⟨g9, 0, none⟩) (L.length + 1) cap9) (L.length + 1) ((L ++ [(⟨0, ⟨#[]⟩, no, false, up, 0⟩ : Ty)]).flatMap Ty.ncells) := by
    have h := HO9.out
    unfold NdRow at h
    rwa [List.length_append, List.length_singleton] at h
  have q5 : w9.cell? ⟨g9, L.length * 5 + 4, none⟩ = some (.bool false) := by
    rw [hr.cellAt (L.length * 5 + 4) (by omega)]
    rw [List.flatMap_append, List.getElem?_append_right (by rw [flat5_len]; omega), flat5_len]
    rw [show L.length * 5 + 4 - L.length * 5 = 4 by omega]
    rfl
  have z5 := hr.frozenAt (L.length * 5 + 4)
  have HST : Hid (NdRow (w9.setCell ⟨g9, L.length * 5 + 4, none⟩ (.bool true)) B (.slice (some ⟨g9, 0, none⟩) (L.length + 1) cap9) (L ++ [⟨0, ⟨#[]⟩, no, true, up, 0⟩])) := by
    have h := (hr.stored (L.length * 5 + 4) (.bool true)).1
    show World.ownsRow _ _ _ _ _ _ _
    rw [List.length_append, List.length_singleton]
    have e : ((L ++ [(⟨0, ⟨#[]⟩, no, false, up, 0⟩ : Ty)]).flatMap Ty.ncells).set (L.length * 5 + 4) (.bool true) = (L ++ [(⟨0, ⟨#[]⟩, no, true, up, 0⟩ : Ty)]).flatMap Ty.ncells := by
      rw [List.flatMap_append, List.flatMap_append, List.set_append_right _ _ (by rw [flat5_len]; omega), flat5_len, show L.length * 5 + 4 - L.length * 5 = 4 by omega]
      rfl
    rw [← e]
    exact h
  have HGS : Hid (Grow w (w9.setCell ⟨g9, L.length * 5 + 4, none⟩ (.bool true)) (.slice ar L.length capr) (.slice (some ⟨g9, 0, none⟩) (L.length + 1) cap9)) := HG9.out.trans ⟨Lib.grownBy_setCell _ g9 (L.length * 5 + 4) (.bool true), .inl rfl⟩
  have hg9lt : g9 < w9.heap.size := hlt9
  have hLb : (L.length : Int) < (L.length : Int) + 1 := by omega
  have hL0 : (0 : Int) ≤ (L.length : Int) := by omega
  have hc9 : cap9 ≤ 9223372036854775807 := by
    obtain ⟨_, _, e, h1, h2⟩ := ownSlice hr
    simp only [Value.slice.injEq] at e
    rw [e.2.2]
    unfold maxLen at h2
    omega
  clear hr HG9 HO9
  have HO10 : Hid (NdRow ((w9.setCell ⟨g9, L.length * 5 + 4, none⟩ (.bool true)).alloc (.cells #[.slice ap np cp] 127)) B (.slice (some ⟨g9, 0, none⟩) (L.length + 1) cap9) (dlaid L no up ks 0)) := by rw [HL0.out]; exact own_below HST.out ((Below.refl _ _).alloc (Nat.le_refl _) _)
  have HG10 : Hid (Grow w ((w9.setCell ⟨g9, L.length * 5 + 4, none⟩ (.bool true)).alloc (.cells #[.slice ap np cp] 127)) (.slice ar L.length capr) (.slice (some ⟨g9, 0, none⟩) (L.length + 1) cap9)) := HGS.out.trans (Grow.below ((Below.refl _ _).alloc (Nat.le_refl _) _))
  clear HST HGS
  go_wp2
  go_loopw [0, 40] (fun vl vi wr => ∃ i : Nat, i ≤ ks.length ∧ vi = .int .i64 (i : Int) ∧ Hid (NdRow wr B vl (dlaid L no up ks i)) ∧ Hid (Grow w wr (.slice ar L.length capr) vl))
    (fun _ vi _ => ks.length - (intOf vi).toNat)
  case atStart => exact ⟨0, by omega, rfl, HO10, HG10⟩
  case round =>
    obtain ⟨i, hil, rfl, hrowi, hgi⟩ := hrel
    have hsr := hgi.out.size
    by_cases hlt : i < ks.length
    · have hlt' : (i : Int) < (np : Int) := by have := HNP.out; omega
      obtain ⟨x, hx⟩ : ∃ x, ks[i]? = some x := ⟨_, List.getElem?_eq_getElem hlt⟩
      obtain ⟨g, o, u, hao, hSg, hnd, hkk⟩ := HROW.out i x hx
      subst hao
      have hg := HS.out g hSg
      have hnd' := hnd.kept (hgi.out.block hg (fun e => HAP.out g e hSg))
      obtain ⟨xa, xv⟩ := u
      obtain ⟨e0, e1, e2, e3⟩ := hnd'
      dsimp only at e3 hkk
      have hst := HM.out i x hx
      have hgz : g < wr.heap.size := by omega
      have hihx := ih.out x (List.mem_of_getElem? hx)
      have hBx : Below wr.heap.size wr (wr.alloc (.cells #[.string x.name, .int .i64 x.no, .bool x.must, .iface xa xv] 73)) := (Below.refl _ wr).alloc (Nat.le_refl _) _
      have HBX : Hid (Below wr.heap.size wr (wr.alloc (.cells #[.string x.name, .int .i64 x.no, .bool x.must, .iface xa xv] 73))) := hBx
      rcases hm : x.must with _ | _
      · have HE : Hid (dlaid L no up ks (i + 1) = dlaid L no up ks i) := hst.2.1 hm
        rw [hm] at e2 HBX
        clear hst hnd hkk hx hBx hihx
        go_wp2
        go_roundw
        case rel => exact ⟨i + 1, by omega, by go_num, by rw [HE.out]; exact own_below hrowi.out HBX.out, hgi.out.trans (Grow.below HBX.out)⟩
        case measure => simp [intOf]; omega
      · have IC := hihx xa xv (L.length : Int) _ (dlaid L no up ks i) S B (wr.alloc (.cells #[.string x.name, .int .i64 x.no, .bool x.must, .iface xa xv] 73))
          (hkk.kept (fun g hg => by rw [hBx.block g (by have := HS.out g hg; omega)]; exact hgi.out.block (HS.out g hg) (fun e => HAP.out g e hg)) (fun _ h => h)) (fun g hg => by have h1 := HS.out g hg; have h2 := hBx.size; omega) (hgi.out.apart HS.out HAP.out) (own_below hrowi.out hBx) (by simp; omega) hst.2.2
        have HE : Hid (dlaid L no up ks (i + 1) = dlaid L no up ks i ++ flat (dflt x) L.length (dlaid L no up ks i).length) := hst.1 hm
        rw [← HE.out, hm] at IC
        rw [hm] at e2 HBX
        have IC' : Hid (Calls Try.prog 40 #[_, .agg #[.string x.name, .int .i64 x.no, .bool true, .iface xa xv], .int .i64 (L.length : Int)] (wr.alloc (.cells #[.string x.name, .int .i64 x.no, .bool true, .iface xa xv] 73)) fun e w' => ∃ rv', e = .returned rv' ∧ NdRow w' B rv' (dlaid L no up ks (i + 1)) ∧ Grow (wr.alloc (.cells #[.string x.name, .int .i64 x.no, .bool true, .iface xa xv] 73)) w' _ rv') := IC
        clear IC hst hnd hkk hx hBx HE hihx
        go_wp2_with fail
        refine IC'.out.mono ?_
        rintro e w5 ⟨rv5, rfl, hrow5, hg5⟩
        have hG5 := (hgi.out.trans (Grow.below HBX.out)).trans hg5
        clear hg5 IC' hgi hrowi HBX
        go_wp2
        go_roundw
        case rel => exact ⟨i + 1, by omega, by go_num, hrow5, hG5⟩
        case measure => simp [intOf]; omega
    · have hke : i = ks.length := by omega
      have hge : ¬ ((i : Int) < (np : Int)) := by have := HNP.out; omega
      rw [hke] at hrowi
      clear hke
      go_wp2
      go_ret
      exact ⟨_, rfl, hrowi.out, hgi.out⟩

theorem df_leaf {t : Tr} {ua : TypeId} {uv : Value} (hl : Leaf (.iface ua uv) t) (up : Int) (rv : Value) (L : List Ty) (B : Nat) (w : World) (hown : NdRow w B rv L) (hBw : B ≤ w.heap.size) (hlim : L.length + t.size ≤ 1000000) :
    Calls Try.prog 40 #[rv, .agg #[.string t.name, .int .i64 t.no, .bool t.must, .iface ua uv], .int .i64 up] w fun e w' => ∃ rv', e = .returned rv' ∧ NdRow w' B rv' (L ++ flat (dflt t) up L.length) ∧ Grow w w' rv rv' := by
  obtain ⟨hks, hl⟩ := hl
  have hz := t.size_pos
  rcases hl with ⟨hk, he⟩ | ⟨hk, he⟩ | ⟨hk, he⟩
  · cases he
    rw [flat_leafD t up L.length (by omega), hk]
    exact appendDefaultNum rv t.name t.no t.must up L B w hown hBw (by omega)
  · cases he
    rw [flat_leafD t up L.length (by omega), hk]
    exact appendDefaultTxt rv t.name t.no t.must up L B w hown hBw (by omega)
  · cases he
    rw [flat_leafD t up L.length (by omega), hk]
    exact appendDefaultEnu t.most rv t.name t.no t.must up L B w hown hBw (by omega)

theorem appendDefault_any : ∀ (d : Nat) (t : Tr), DfOK d t := by
  intro d
  induction d with
  | zero =>
    intro t ua uv up rv L S B w hsh hS hap hown hBw hlim
    exact df_leaf hsh up rv L B w hown hBw hlim
  | succ d ih =>
    intro t ua uv up rv L S B w hsh hS hap hown hBw hlim
    have hz := t.size_eq
    rcases hsh with hl | ⟨hk, x, l, u, hkids, he, hx⟩ | ⟨hk, ao, cap, he, hp⟩
    · exact df_leaf hl up rv L B w hown hBw hlim
    · obtain ⟨xa, xv⟩ := u
      cases he
      rw [flat_leafD t up L.length (by omega), hk]
      exact appendDefaultLst xa xv rv t.name t.no t.must up L B w hown hBw (by omega)
    · cases he
      rw [← dlaid_end L t up hk]
      exact appendDefaultMsg d t.kids ao t.kids.length cap S rv t.name t.no t.must up L B w ⟨ao, cap, rfl, hp⟩ hS hap hown hBw (by omega) (fun x _ => ih x)

end Go.Proofs.Ytpajdmhakdbkjaa
