/- Copies of texts; what is pending; a session that begins. -/
import Derived.Test.YtnlppeieccbhgaaSnI
import Derived.Test.YtnlppeieccbhgaaSnT
import Derived.Test.YtnlppeieccbhgaaApF
import Derived.Test.YtnlppeieccbhgaaClnA
namespace Go.Proofs.Ytnlppeieccbhgaa
open Go.RowKit Plain Tpc Ssn

theorem StRow.snocS {w : World} {B : Nat} {v : Value} {n : Nat} {L : List ByteArray} {x : ByteArray} (h : w.ownsRow B 9 1 v n (strs L ++ [Value.string x])) (hn : L.length + 1 = n) : StRow w B v (L ++ [x]) := by
  unfold StRow strs
  rw [List.length_append, List.length_singleton, hn, List.map_append]
  exact h

theorem StAt.newsS {W : World} {B : Nat} {ao : Option Addr} {n cap : Nat} {L : List ByteArray} (h : StAt W B (.slice ao n cap) L) : ∀ j u, (strs L)[j]? = some u → ∃ ad, ao = some ad ∧ W.cell? (ad.add j) = some u := by
  intro j u hu
  obtain ⟨a, c, hv, _, _, hr⟩ := h
  simp only [Value.slice.injEq] at hv
  obtain ⟨rfl, _, _⟩ := hv
  have hj : j < L.length := by
    have := (List.getElem?_eq_some_iff.1 hu).1
    simpa [strs] using this
  obtain ⟨g, o, ha, _, c⟩ := hr j hj
  refine ⟨_, ha, ?_⟩
  have hadd : (⟨g, o, none⟩ : Addr).add j = ⟨g, o + j, none⟩ := by unfold Addr.add; split <;> simp_all
  rw [hadd, c, ← hu]
  simp [strs, lq_at hj]

theorem one_strsS (L : List ByteArray) : ∀ u ∈ strs L, u.oneCell' = true := by
  intro u hu
  obtain ⟨s, _, rfl⟩ := List.mem_map.1 hu
  rfl

set_option maxRecDepth 100000 in
set_option maxHeartbeats 4000000 in
theorem copyTexts_any (L : List ByteArray) (v : Value) (w : World) (hT : StAt w w.heap.size v L) (hN : ∀ i, i < L.length → (lq L i).size ≤ 1048576) (hL : L.length ≤ 1048576) :
    Calls Try.prog 69 #[v] w fun e w' => ∃ v', e = .returned v' ∧ StRow w' w.heap.size v' L ∧ Below w.heap.size w w' := by
  obtain ⟨i0, hi, hz0, hz1, hz2⟩ := info_parts infoStr
  obtain ⟨ao, cap, rfl, hlc, hcm, hrow⟩ := hT
  unfold maxLen at hcm
  have HROW : Hid (∀ i, i < L.length → ∃ g o, ao = some ⟨g, o, none⟩ ∧ g < w.heap.size ∧ w.cell? ⟨g, o + i, none⟩ = some (.string (lq L i))) := hrow
  have HNM : Hid (∀ i, i < L.length → (lq L i).size ≤ 1048576) := hN
  clear hrow hN
  go_enter Try.func69, Try.ntmps69
  go_wp2
  go_loopw [3, 8] (fun vo vi wr => ∃ (i : Nat), i ≤ L.length ∧ vi = .int .i64 (i : Int) ∧ Hid (StRow wr w.heap.size vo (L.take i)) ∧ Below w.heap.size w wr)
    (fun _ vi _ => L.length - (intOf vi).toNat)
  case atStart => exact ⟨0, by omega, rfl, ⟨rfl, .inl ⟨rfl, rfl⟩⟩, Below.refl _ _⟩
  case round =>
    obtain ⟨i, hil, rfl, hown, hbw⟩ := hrel
    have hs9 := hbw.size
    by_cases hlt : i < L.length
    · have hltI : (i : Int) < (L.length : Int) := by omega
      obtain ⟨g, o, rfl, hg, c⟩ := HROW.out i hlt
      have c' := (hbw.cell (p := ⟨g, o + i, none⟩) hg).trans c
      have hn := HNM.out i hlt
      have CC := clone_any (lq L i) wr (by omega)
      have htk : Hid (L.take (i + 1) = L.take i ++ [lq L i]) := by
        show _ = _
        rw [List.take_add_one]
        unfold lq
        rw [List.getD_eq_getElem?_getD, List.getElem?_eq_getElem hlt]
        rfl
      have hown2 : Hid (∃ a c, u3 = Value.slice a i c ∧ wr.ownsRow w.heap.size 9 1 (.slice a i c) i (strs (L.take i))) := by
        obtain ⟨a, c, hv⟩ := hown.out.slice
        have h := hown.out
        unfold StRow at h
        have hl : (L.take i).length = i := by rw [List.length_take]; omega
        rw [hl] at hv h
        rw [hv] at h
        exact ⟨a, c, hv, h⟩
      obtain ⟨a3, c3, rfl, how⟩ := hown2.out
      have HOW : Hid (wr.ownsRow w.heap.size 9 1 (.slice a3 i c3) i (strs (L.take i))) := how
      generalize lq L i = x at c' hn CC htk
      clear hown hown2 how c
      go_wp2_with fail
      go_at_call 49
      refine CC.mono ?_
      rintro e w2 ⟨rfl, hb2⟩
      have HB2 : Hid (Below w.heap.size w w2) := hbw.trans (hb2.mono hs9)
      have HOW2 : Hid (w2.ownsRow w.heap.size 9 1 (.slice a3 i c3) i (strs (L.take i))) := own_belowY HOW.out hb2
      have hs2 : w.heap.size ≤ w2.heap.size := HB2.out.size
      clear hb2 CC HOW
      go_wp2_with (at_builtin; refine wpList_append_lies _ rfl _ _ 22 rfl w.heap.size 9 i0 (.string ByteArray.empty) 1 16 Try.underlying22 hi hz0 hz1 hz2 rfl (by decide) _ i _ rfl (World.ownsRow.alloc HOW2.out _) ⟨w2.heap.size, 0, none⟩ 1 1 [Value.string x] rfl rfl (World.news_of_block (heap_alloc_new w2 _)) (by intro u hu; simp at hu; subst hu; rfl) (by omega) (by unfold maxLen; omega) (by omega) (by simp; omega) (w2.heap.size + 1) (by simp) ?_; intro g9 cap9 w9 hown9 hgrow9 hat9 hlt9; have hR9 : Hid (StRow w9 w.heap.size (.slice (some ⟨g9, 0, none⟩) (i + 1) cap9) (L.take (i + 1))) := (by rw [htk.out]; exact StRow.snocS hown9 (by rw [List.length_take]; omega)); have hB9 : Hid (Below w.heap.size w w9) := (HB2.out.alloc hs2 _).grown hgrow9 (by simp; omega) (fun k hk => (World.ownsRow.lt HOW2.out k hk).1); clear hown9 hgrow9 hat9 hlt9)
      go_roundw
      case rel => exact ⟨i + 1, by omega, by go_num, hR9, hB9.out⟩
      case measure => simp [intOf]; omega
    · have hke : i = L.length := by omega
      have hge : ¬ ((i : Int) < (L.length : Int)) := by omega
      have HF : Hid (StRow wr w.heap.size u3 L) := by
        have h := hown.out
        rw [hke, List.take_of_length_le (Nat.le_refl _)] at h
        exact h
      clear hke hown
      go_wp2
      go_ret
      exact ⟨_, rfl, HF.out, hbw⟩


end Go.Proofs.Ytnlppeieccbhgaa
