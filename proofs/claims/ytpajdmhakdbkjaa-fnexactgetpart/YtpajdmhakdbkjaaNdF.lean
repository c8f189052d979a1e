/- The model's l4Flat: a value is put behind a row of nodes. -/
import Derived.Test.YtpajdmhakdbkjaaNdA
import Derived.Deep.DeepCutAuto
namespace Go.Proofs.Ytpajdmhakdbkjaa
open Go.RowKit Plain Sch

def VFlatOK (d : Nat) (t : Tr) : Prop := ∀ (ac : Option Addr) (lc cc : Nat) (up : Int) (rv : Value) (L : List Ty) (S : Nat → Prop) (B : Nat) (w : World),
  VKids d w S (.slice ac lc cc) t.kids → (∀ g, S g → g < w.heap.size) → (∀ g, rv.ownBlock = some g → ¬ S g) → NdRow w B rv L → B ≤ w.heap.size → L.length + t.size ≤ 1000000 →
  Calls Try.prog 82 #[vv t ac lc cc, .int .i64 up, rv] w fun e w' => ∃ rv', e = .returned rv' ∧ NdRow w' B rv' (L ++ flat t up L.length) ∧ Grow w w' rv rv'

set_option maxRecDepth 100000 in
set_option maxHeartbeats 4000000 in
theorem l4Flat_step (d : Nat) (t : Tr) (ih0 : ∀ x ∈ t.kids, VFlatOK d x) : VFlatOK (d + 1) t := by
  intro ac lc cc up rv L S B w hk hS hap hown hBw hlim
  have ih : Hid (∀ x ∈ t.kids, VFlatOK d x) := ih0
  clear ih0
  obtain ⟨i0, hi, hz0, hz1, hz2⟩ := info_parts Try.infoNd
  obtain ⟨ac', cc', hcc, hlc, hcm, hrow⟩ := hk
  simp only [Value.slice.injEq] at hcc
  obtain ⟨rfl, rfl, rfl⟩ := hcc
  have hcm' : cc ≤ 9223372036854775807 := by unfold maxLen at hcm; omega
  have HROW : Hid (∀ i x, t.kids[i]? = some x → ∃ g o c', ac = some ⟨g, o, none⟩ ∧ S g ∧ VdIn w g (o + i * 5) x c' ∧ VKids d w S c' x.kids) := hrow
  have HS : Hid (∀ g, S g → g < w.heap.size) := hS
  have HAP : Hid (∀ g, rv.ownBlock = some g → ¬ S g) := hap
  clear hrow hS hap
  have hlt0 := hown.lt
  obtain ⟨ar, capr, rfl, hnr, hcmr⟩ := ownSlice hown
  have hcmr' : capr ≤ 9223372036854775807 := by unfold maxLen at hcmr; omega
  have hsz := t.size_eq
  have hLl : L.length ≤ 1000000 := by omega
  have HEND : Hid (laid L t up t.kids.length = L ++ flat t up L.length) := laid_end L t up
  have HST : Hid (∀ i x, t.kids[i]? = some x → laid L t up (i + 1) = laid L t up i ++ flat x L.length (laid L t up i).length ∧ (laid L t up i).length + x.size ≤ 1000000) := fun i x hx => ⟨laid_step L t up i x hx, by have h1 := sizeL_step t.kids i x hx; rw [laid_len]; omega⟩
  have HL0 : Hid (laid L t up 0 = L ++ [⟨t.kind, t.name, t.no, t.must, up, t.most⟩]) := laid_start L t up
  unfold vv
  obtain ⟨W1, hW1⟩ : ∃ W, W = w.alloc (.cells #[.int .i64 t.most, .string t.name, .int .i64 t.no, .bool t.must, .slice ac t.kids.length cc] 78) := ⟨_, rfl⟩
  have HS1 : Hid (W1.heap.size = w.heap.size + 1) := by show _ = _; rw [hW1]; simp
  have hB1 : Below w.heap.size w W1 := by rw [hW1]; exact (Below.refl _ w).alloc (Nat.le_refl _) _
  have b0 : W1.cell? ⟨w.heap.size, 0, none⟩ = some (.int .i64 t.most) := by rw [hW1]; go_simp
  have b1 : W1.cell? ⟨w.heap.size, 1, none⟩ = some (.string t.name) := by rw [hW1]; go_simp
  have b2 : W1.cell? ⟨w.heap.size, 2, none⟩ = some (.int .i64 t.no) := by rw [hW1]; go_simp
  have b3 : W1.cell? ⟨w.heap.size, 3, none⟩ = some (.bool t.must) := by rw [hW1]; go_simp
  have b5 : W1.cell? ⟨w.heap.size, 4, none⟩ = some (.slice ac t.kids.length cc) := by rw [hW1]; go_simp
  have hown1 : W1.ownsRow B 85 5 (.slice ar L.length capr) L.length (L.flatMap Ty.ncells) := own_below hown hB1
  go_enter Try.func82, Try.ntmps82
  go_upto_region 2 with fail
  rw [← hW1]
  clear hW1
  go_wp2_with (at_builtin; refine wpList_append_lies _ rfl _ _ 27 rfl B 85 i0 (.agg #[.int .i64 0, .string ⟨#[]⟩, .int .i64 0, .int .i64 0, .bool false]) 5 48 Try.underlying27 hi hz0 hz1 hz2 rfl (by decide) _ L.length _ rfl (hown1.alloc _) ⟨W1.heap.size, 0, none⟩ 1 1 [.int .i64 t.most, .string t.name, .int .i64 t.no, .int .i64 up, .bool t.must] rfl rfl ?c1 one5N ?c2 ?c3 ?c4 ?c5 (W1.heap.size + 1) ?c6 ?_)
  case c1 => exact World.news_of_block (heap_alloc_new W1 _)
  case c2 => omega
  case c3 => unfold maxLen; omega
  case c4 => omega
  case c5 => have := HS1.out; simp; omega
  case c6 => simp
  intro g9 cap9 w9 hown9 hgrow9 hat9 hlt9
  have hs1 := HS1.out
  clear HS1
  have hne9 : some w.heap.size ≠ (Value.slice ar L.length capr).ownBlock := fun e => by have := (hlt0 _ e.symm).2; omega
  have hs9 : w.heap.size + 2 ≤ w9.heap.size := by have := hgrow9.size; simp at this; omega
  have hG9 : Grow w w9 (.slice ar L.length capr) (.slice (some ⟨g9, 0, none⟩) (L.length + 1) cap9) := by
    refine ⟨⟨?_, ?_, ?_, by omega, fun j hj hne => ?_⟩, ?_⟩
    · exact hgrow9.os.trans hB1.os
    · exact hgrow9.tape.trans hB1.tape
    · exact hgrow9.output.trans hB1.output
    · rw [hgrow9.block j (by simp; omega) hne, Below.heap_alloc _ _ _ (by omega), hB1.block j hj]
    · rcases hat9 with h | h
      · exact .inl h.symm
      · exact .inr (fun g hg => by simp [Value.ownBlock] at hg; omega)
  have hown9' : NdRow w9 B (.slice (some ⟨g9, 0, none⟩) (L.length + 1) cap9) (laid L t up 0) := by
    unfold NdRow
    rw [HL0.out, List.length_append, List.length_singleton, List.flatMap_append]
    simpa [Ty.ncells] using hown9
  have b5' : w9.cell? ⟨w.heap.size, 4, none⟩ = some (.slice ac t.kids.length cc) := by
    rw [hgrow9.cell_far ⟨w.heap.size, 4, none⟩ (by simp; omega) hne9]
    rw [World.cell?_of_block (w := W1) (Below.heap_alloc _ _ _ (by show w.heap.size < _; omega))]
    exact b5
  have HG9 : Hid (Grow w w9 (.slice ar L.length capr) (.slice (some ⟨g9, 0, none⟩) (L.length + 1) cap9)) := hG9
  have HO9 : Hid (NdRow w9 B (.slice (some ⟨g9, 0, none⟩) (L.length + 1) cap9) (laid L t up 0)) := hown9'
  clear hown9 hgrow9 hat9 hG9 hown9' hown hown1 b0 b1 b2 b3 b5 hlt9 hne9 hlt0 hs1
  go_wp2
  go_loopw [2, 28] (fun vl vi wr => ∃ i : Nat, i ≤ t.kids.length ∧ vi = .int .i64 (i : Int) ∧ Hid (NdRow wr B vl (laid L t up i)) ∧ Hid (Grow w wr (.slice ar L.length capr) vl))
    (fun _ vi _ => t.kids.length - (intOf vi).toNat)
  case atStart => exact ⟨0, by omega, rfl, HO9, HG9⟩
  case round =>
    obtain ⟨i, hil, rfl, hrowi, hgi⟩ := hrel
    have hsr := hgi.out.size
    by_cases hlt : i < t.kids.length
    · have hlt' : (i : Int) < (t.kids.length : Int) := by omega
      obtain ⟨x, hx⟩ : ∃ x, t.kids[i]? = some x := ⟨_, List.getElem?_eq_getElem hlt⟩
      obtain ⟨g, o, c', hao, hSg, hnd, hkk⟩ := HROW.out i x hx
      subst hao
      have hg := HS.out g hSg
      have hnd' := hnd.kept (hgi.out.block hg (fun e => HAP.out g e hSg))
      obtain ⟨ax, cx, rfl, _⟩ := hkk.form
      obtain ⟨e0, e1, e2, e3, e4⟩ := hnd'
      have hst := HST.out i x hx
      have hgz : g < wr.heap.size := by omega
      have hBx : Below wr.heap.size wr (wr.alloc (.cells #[.int .i64 x.most, .string x.name, .int .i64 x.no, .bool x.must, .slice ax x.kids.length cx] 78)) := (Below.refl _ wr).alloc (Nat.le_refl _) _
      have IC := ih.out x (List.mem_of_getElem? hx) ax x.kids.length cx (L.length : Int) _ (laid L t up i) S B (wr.alloc (.cells #[.int .i64 x.most, .string x.name, .int .i64 x.no, .bool x.must, .slice ax x.kids.length cx] 78))
        (hkk.kept (fun g hg => by rw [hBx.block g (by have := HS.out g hg; omega)]; exact hgi.out.block (HS.out g hg) (fun e => HAP.out g e hg)) (fun _ h => h)) (fun g hg => by have h1 := HS.out g hg; have h2 := hBx.size; omega) (hgi.out.apart HS.out HAP.out) (own_below hrowi.out hBx) (by simp; omega) hst.2
      unfold vv at IC
      have IC' : Hid (Calls Try.prog 82 #[.agg #[.int .i64 x.most, .string x.name, .int .i64 x.no, .bool x.must, .slice ax x.kids.length cx], .int .i64 (L.length : Int), _] (wr.alloc (.cells #[.int .i64 x.most, .string x.name, .int .i64 x.no, .bool x.must, .slice ax x.kids.length cx] 78)) fun e w' => ∃ rv', e = .returned rv' ∧ NdRow w' B rv' (laid L t up i ++ flat x L.length (laid L t up i).length) ∧ Grow (wr.alloc (.cells #[.int .i64 x.most, .string x.name, .int .i64 x.no, .bool x.must, .slice ax x.kids.length cx] 78)) w' _ rv') := IC
      have HE : Hid (laid L t up (i + 1) = laid L t up i ++ flat x L.length (laid L t up i).length) := hst.1
      rw [← HE.out] at IC'
      have HBX : Hid (Below wr.heap.size wr (wr.alloc (.cells #[.int .i64 x.most, .string x.name, .int .i64 x.no, .bool x.must, .slice ax x.kids.length cx] 78))) := hBx
      clear IC hst hnd hkk hx hBx HE
      go_wp2_with fail
      refine IC'.out.mono ?_
      rintro e w5 ⟨rv5, rfl, hrow5, hg5⟩
      have hG5 := (hgi.out.trans (Grow.below HBX.out)).trans hg5
      clear hg5 IC' hgi hrowi HBX
      go_wp2
      go_roundw
      case rel => exact ⟨i + 1, by omega, by go_num, hrow5, hG5⟩
      case measure => simp [intOf]; omega
    · have hke : i = t.kids.length := by omega
      subst hke
      have hge : ¬ ((t.kids.length : Int) < (t.kids.length : Int)) := by omega
      rw [HEND.out] at hrowi
      go_wp2
      go_ret
      exact ⟨_, rfl, hrowi.out, hgi.out⟩

theorem l4Flat_any : ∀ (d : Nat) (t : Tr), VFlatOK d t := by
  intro d
  induction d with
  | zero =>
    intro t ac lc cc up rv L S B w hk hS hap hown hBw hlim
    obtain ⟨ao, cap, h1, h2, h3⟩ := hk
    simp only [Value.slice.injEq] at h1
    obtain ⟨rfl, rfl, rfl⟩ := h1
    refine l4Flat_step 0 t (fun x hx => ?_) ac 0 cc up rv L S B w ?_ hS hap hown hBw hlim
    · rw [h3] at hx; simp at hx
    · rw [h3]
      exact ⟨ac, cc, rfl, by simp, h2, fun i x hx => by simp at hx⟩
  | succ d ih => intro t; exact l4Flat_step d t (fun x _ => ih x)

end Go.Proofs.Ytpajdmhakdbkjaa
