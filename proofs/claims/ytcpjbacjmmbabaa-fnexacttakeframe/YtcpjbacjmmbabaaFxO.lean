/- Copies of texts; a reader that begins: the model's and the program's. -/
import Derived.Test.YtcpjbacjmmbabaaFxN
import Derived.Test.YtcpjbacjmmbabaaApF
namespace Go.Proofs.Ytcpjbacjmmbabaa
open Go.RowKit Plain Tpc Frm

set_option maxRecDepth 100000 in
set_option maxHeartbeats 4000000 in
theorem copyTexts_any (L : List ByteArray) (v : Value) (w : World) (hT : StAt w w.heap.size v L) (hN : ∀ i, i < L.length → (lq L i).size ≤ 1048576) (hL : L.length ≤ 1048576) :
    Calls Try.prog 54 #[v] w fun e w' => ∃ v', e = .returned v' ∧ StRow w' w.heap.size v' L ∧ Below w.heap.size w w' := by
  obtain ⟨i0, hi, hz0, hz1, hz2⟩ := info_parts infoStr
  obtain ⟨ao, cap, rfl, hlc, hcm, hrow⟩ := hT
  unfold maxLen at hcm
  have HROW : Hid (∀ i, i < L.length → ∃ g o, ao = some ⟨g, o, none⟩ ∧ g < w.heap.size ∧ w.cell? ⟨g, o + i, none⟩ = some (.string (lq L i))) := hrow
  have HNM : Hid (∀ i, i < L.length → (lq L i).size ≤ 1048576) := hN
  clear hrow hN
  go_enter Try.func54, Try.ntmps54
  go_wp2
  go_loopw [3, 8] (fun vo vi wr => ∃ (i : Nat), i ≤ L.length ∧ vi = .int .i64 (i : Int) ∧ Hid (StRow wr w.heap.size vo (L.take i)) ∧ Below w.heap.size w wr)
    (fun _ vi _ => L.length - (intOf vi).toNat)
  case atStart => exact ⟨0, by omega, rfl, ⟨rfl, .inl ⟨rfl, rfl⟩⟩, Below.refl _ _⟩
  case round =>
    obtain ⟨i, hil, rfl, hown, hbw⟩ := hrel
    have hs9 := hbw.size
    by_cases hlt : i < L.length
    · have hltI : (i : Int) < (L.length : Int) := by omega
      obtain ⟨g, o, rfl, hg, c⟩ := HROW.out i hlt
      have c' := (hbw.cell (p := ⟨g, o + i, none⟩) hg).trans c
      have hn := HNM.out i hlt
      have CC := clone_any (lq L i) wr (by omega)
      have htk : Hid (L.take (i + 1) = L.take i ++ [lq L i]) := by
        show _ = _
        rw [List.take_add_one]
        unfold lq
        rw [List.getD_eq_getElem?_getD, List.getElem?_eq_getElem hlt]
        rfl
      have hown2 : Hid (∃ a c, u3 = Value.slice a i c ∧ wr.ownsRow w.heap.size 9 1 (.slice a i c) i (strs (L.take i))) := by
        obtain ⟨a, c, hv⟩ := hown.out.slice
        have h := hown.out
        unfold StRow at h
        have hl : (L.take i).length = i := by rw [List.length_take]; omega
        rw [hl] at hv h
        rw [hv] at h
        exact ⟨a, c, hv, h⟩
      obtain ⟨a3, c3, rfl, how⟩ := hown2.out
      have HOW : Hid (wr.ownsRow w.heap.size 9 1 (.slice a3 i c3) i (strs (L.take i))) := how
      generalize lq L i = x at c' hn CC htk
      clear hown hown2 how c
      go_wp2_with fail
      go_at_call 55
      refine CC.mono ?_
      rintro e w2 ⟨rfl, hb2⟩
      have HB2 : Hid (Below w.heap.size w w2) := hbw.trans (hb2.mono hs9)
      have HOW2 : Hid (w2.ownsRow w.heap.size 9 1 (.slice a3 i c3) i (strs (L.take i))) := own_belowY HOW.out hb2
      have hs2 : w.heap.size ≤ w2.heap.size := HB2.out.size
      clear hb2 CC HOW
      go_wp2_with (at_builtin; refine wpList_append_lies _ rfl _ _ 27 rfl w.heap.size 9 i0 (.string ByteArray.empty) 1 16 Try.underlying27 hi hz0 hz1 hz2 rfl (by decide) _ i _ rfl (World.ownsRow.alloc HOW2.out _) ⟨w2.heap.size, 0, none⟩ 1 1 [Value.string x] rfl rfl (World.news_of_block (heap_alloc_new w2 _)) (by intro u hu; simp at hu; subst hu; rfl) (by omega) (by unfold maxLen; omega) (by omega) (by simp; omega) (w2.heap.size + 1) (by simp) ?_; intro g9 cap9 w9 hown9 hgrow9 hat9 hlt9; have hR9 : Hid (StRow w9 w.heap.size (.slice (some ⟨g9, 0, none⟩) (i + 1) cap9) (L.take (i + 1))) := (by rw [htk.out]; exact StRow.snocF hown9 (by rw [List.length_take]; omega) rfl); have hB9 : Hid (Below w.heap.size w w9) := (HB2.out.alloc hs2 _).grown hgrow9 (by simp; omega) (fun k hk => (World.ownsRow.lt HOW2.out k hk).1); clear hown9 hgrow9 hat9 hlt9)
      go_roundw
      case rel => exact ⟨i + 1, by omega, by go_num, hR9, hB9.out⟩
      case measure => simp [intOf]; omega
    · have hke : i = L.length := by omega
      have hge : ¬ ((i : Int) < (L.length : Int)) := by omega
      have HF : Hid (StRow wr w.heap.size u3 L) := by
        have h := hown.out
        rw [hke, List.take_of_length_le (Nat.le_refl _)] at h
        exact h
      clear hke hown
      go_wp2
      go_ret
      exact ⟨_, rfl, HF.out, hbw⟩

/-- what a reader in an answer is -/
def RdO (w w' : World) (v : Value) (r : Rdr) : Prop := StRow w' w.heap.size v r.got ∧ Below w.heap.size w w'
def rnew : Rdr := ⟨⟨#[]⟩, [⟨#[]⟩], false⟩

theorem one_row (w : World) (B : Nat) (s : ByteArray) (hB : B ≤ w.heap.size) : StRow (w.alloc (.cells #[.string s] 9)) B (.slice (some ⟨w.heap.size, 0, none⟩) 1 1) [s] :=
  ⟨by simp [strs], .inr ⟨w.heap.size, 1, _, rfl, hB, heap_alloc_new w _, by simp, by unfold maxLen; omega, rfl, by simp [strs]⟩⟩

set_option maxRecDepth 100000 in
set_option maxHeartbeats 4000000 in
theorem specNew (w : World) : Calls Try.prog 22 #[] w fun e w' => ∃ v, e = .returned (rnew.val v) ∧ RdO w w' v rnew := by
  have rc := fun (tmps : Array Value) (P : Program) (w : World) => results_cellF (fn := Try.f22) (p := 0) (ty := 33) rfl tmps P w
  have HO : Hid (∀ o, StRow ((w.alloc o).alloc (.cells #[.string ⟨#[]⟩] 9)) w.heap.size (.slice (some ⟨w.heap.size + 1, 0, none⟩) 1 1) [⟨#[]⟩]) := fun o => by
    have h := one_row (w.alloc o) w.heap.size ⟨#[]⟩ (by simp)
    simpa using h
  go_enter Try.func22, Try.ntmps22
  go_wp2
  refine bodyPost_ret (v := rnew.val (.slice (some ⟨w.heap.size + 1, 0, none⟩) 1 1)) ?_ rfl ⟨_, rfl, HO.out _, ((Below.refl _ w).alloc (Nat.le_refl _) _).alloc (by simp) _⟩
  rw [rc]
  go_simp
  rfl

set_option maxRecDepth 100000 in
set_option maxHeartbeats 4000000 in
theorem implNew (w : World) : Calls Try.prog 23 #[] w fun e w' => ∃ v, e = .returned (rnew.val v) ∧ RdO w w' v rnew := by
  have rc := fun (tmps : Array Value) (P : Program) (w : World) => results_cellF (fn := Try.f23) (p := 0) (ty := 33) rfl tmps P w
  have HO : Hid (∀ o, StRow ((w.alloc o).alloc (.cells #[.string ⟨#[]⟩] 9)) w.heap.size (.slice (some ⟨w.heap.size + 1, 0, none⟩) 1 1) [⟨#[]⟩]) := fun o => by
    have h := one_row (w.alloc o) w.heap.size ⟨#[]⟩ (by simp)
    simpa using h
  go_enter Try.func23, Try.ntmps23
  go_wp2
  refine bodyPost_ret (v := rnew.val (.slice (some ⟨w.heap.size + 1, 0, none⟩) 1 1)) ?_ rfl ⟨_, rfl, HO.out _, ((Below.refl _ w).alloc (Nat.le_refl _) _).alloc (by simp) _⟩
  rw [rc]
  go_simp
  rfl

end Go.Proofs.Ytcpjbacjmmbabaa
