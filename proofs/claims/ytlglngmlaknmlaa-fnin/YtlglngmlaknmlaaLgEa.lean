/- The logs that are drawn. -/
import Derived.Test.YtlglngmlaknmlaaLgS
import Derived.Test.YtlglngmlaknmlaaGn
import Derived.Lib.BufferOwn
import Derived.Deep.DeepCutAuto
import Derived.Deep.AppendLies
namespace Go.Proofs.Ytlglngmlaknmlaa
open Go.RowKit Plain Lgs Tpc

/-- one of some texts that are written out -/
theorem ofL_any (b m : Nat) (Z : List ByteArray) (t : TypeId) (w : World) (hc : Cur w b m) (hm : m ≤ 900000000) (h0 : 0 < Z.length) (h1 : Z.length ≤ 100) :
    Calls Try.prog 90 #[.pointer (some ⟨b, 0, none⟩), .slice (some ⟨w.heap.size, 0, none⟩) Z.length Z.length] (w.alloc (.cells (strs Z).toArray t)) fun e w' => ∃ x, e = .returned (.string x) ∧ x ∈ Z ∧ Cur w' b (m + 2) ∧ w.grownBy w' (some b) := by
  have hbl := hc.lt
  refine (of_any b m w.heap.size Z.length Z.length (lq Z) _ (hc.alloc _) (by omega) h0 (by omega) (by omega) (fun i hi => ?_)).mono ?_
  · rw [World.cell?_alloc_at _ _ _ _ rfl, List.getElem?_toArray]
    unfold strs
    rw [List.getElem?_map, lq_at hi]
    rfl
  · rintro e w' ⟨i, hi, rfl, hc', hg⟩
    exact ⟨_, rfl, lq_mem hi, hc', Lib.grownBy_trans (World.grownBy_alloc w _ _) hg⟩

theorem small30 (Z : List ByteArray) (h : (Z.all fun x => decide (x.size ≤ 30)) = true) (x : ByteArray) (hx : x ∈ Z) : x.size ≤ 30 := by
  rw [List.all_eq_true] at h
  simpa using h x hx

theorem own_grownL {w w' : World} {B e size n : Nat} {v : Value} {xs : List Value} {row : Option Nat} (h : w.ownsRow B e size v n xs) (hg : w.grownBy w' row) (hne : ∀ g, v.ownBlock = some g → some g ≠ row) : w'.ownsRow B e size v n xs := by
  have hlt := h.lt
  refine ⟨h.1, ?_⟩
  rcases h.2 with hn | ⟨g, cap, cur, hv, hgB, hgg, rest⟩
  · exact .inl hn
  · refine .inr ⟨g, cap, cur, hv, hgB, (hg.block g (hlt g (by rw [hv]; rfl)).2 (hne g (by rw [hv]; rfl))).trans hgg, rest⟩

/-- a log that was drawn: short texts -/
def Sht (l : List ByteArray) : Prop := ∀ x ∈ l, x.size ≤ 30

theorem StRow.snoc {w9 : World} {B g cap : Nat} {L : List ByteArray} {x : ByteArray} (hown : w9.ownsRow B 9 1 (.slice (some ⟨g, 0, none⟩) (L.length + 1) cap) (L.length + 1) (strs L ++ [.string x])) : StRow w9 B (.slice (some ⟨g, 0, none⟩) (L.length + 1) cap) (L ++ [x]) := by
  unfold StRow strs
  rw [List.map_append, List.length_append, List.length_singleton]
  simpa [strs] using hown

set_option maxRecDepth 100000 in
set_option maxHeartbeats 4000000 in
theorem log_any (b m : Nat) (w : World) (hc : Cur w b m) (hm : m ≤ 700000000) :
    Calls Try.prog 80 #[.pointer (some ⟨b, 0, none⟩)] w fun e w' => ∃ (l : List ByteArray) (v : Value), e = .returned v ∧ StRow w' w.heap.size v l ∧ l.length ≤ 41 ∧ Sht l ∧ Cur w' b (m + 100) ∧ w.grownBy w' (some b) := by
  obtain ⟨i0, hi0, hz0, hz1', hz2⟩ := info_parts infoStr
  have hbl := hc.lt
  go_enter Try.func80, Try.ntmps80
  go_wp2_with fail
  refine (pick_any b m _ _ hc (by omega)).mono ?_
  rintro e w1 ⟨n0, rfl, hn0, hc1, hg1⟩
  have hn16 : n0 ≤ 10 := by omega
  clear hn0 hc
  go_wp2_with fail
  refine (one_any b _ _ _ hc1 (by omega)).mono ?_
  rintro e w2 ⟨t, rfl, hc2, hg2⟩
  have hg2' := Lib.grownBy_trans hg1 hg2
  clear hc1 hg1 hg2
  go_upto_if 8 with fail
  go_cut [4] (fun s4 wx => ∃ n : Nat, n ≤ 41 ∧ s4 = .int .i64 (n : Int) ∧ Cur wx b (m + 8) ∧ w.grownBy wx (some b))
  case first =>
    cases t with
    | false =>
      go_wp2_with fail
      go_meet
      exact ⟨n0, by omega, rfl, hc2.le (by omega), hg2'⟩
    | true =>
      go_wp2_with fail
      refine (pick_any b _ _ _ hc2 (by omega)).mono ?_
      rintro e w3 ⟨n1, rfl, hn1, hc3, hg3⟩
      have hn1' : n1 ≤ 1 := by omega
      clear hn1 hc2
      go_wp2_with fail
      go_meet
      exact ⟨40 + n1, by omega, by go_num, hc3.le (by omega), Lib.grownBy_trans hg2' hg3⟩
  case rest =>
    obtain ⟨n1, hn1, rfl, hc3, hg3⟩ := hcut
    clear hc2 hg2' hn16
    go_wp2_with fail
    go_loopw [3, 4] (fun vs vn wr => ∃ (L : List ByteArray) (n : Nat), n ≤ 41 ∧ vn = .int .i64 (n : Int) ∧ Hid (StRow wr w.heap.size vs L) ∧ L.length + n ≤ 41 ∧ Hid (Sht L) ∧ Cur wr b (m + 8 + 2 * (41 - n)) ∧ w.grownBy wr (some b))
      (fun _ vn _ => (intOf vn).toNat)
    case atStart => exact ⟨[], n1, hn1, rfl, ⟨rfl, .inl ⟨rfl, rfl⟩⟩, by simp; omega, fun x hx => by simp at hx, hc3.le (by omega), hg3⟩
    case round =>
      obtain ⟨L, n, hn, rfl, hR, hLn, hS, hcr, hgr⟩ := hrel
      clear hc3 hg3 hn1
      obtain ⟨av, cv, hvs⟩ := hR.out.slice
      by_cases h0 : n = 0
      · subst h0
        subst hvs
        by_cases hl : L.length = 0
        · have hLe : L = [] := List.length_eq_zero_iff.1 hl
          subst hLe
          go_wp2
          go_ret
          exact ⟨[], _, rfl, hR.out, by simp, hS.out, hcr.le (by omega), hgr⟩
        · have hl' : (0 : Int) < (L.length : Int) := by omega
          have hl'' : 0 < L.length := by omega
          obtain ⟨g, cap, hgv⟩ := Joins.ownsRow_form hR.out (by omega)
          simp only [Value.slice.injEq] at hgv
          obtain ⟨rfl, _, rfl⟩ := hgv
          go_wp2_with fail
          refine (one_any b _ _ _ hcr (by omega)).mono ?_
          rintro e w3 ⟨t, rfl, hc3, hg3⟩
          have hlt := World.ownsRow.lt hR.out
          have hR3 : w3.ownsRow w.heap.size 9 1 (.slice (some ⟨g, 0, none⟩) L.length cv) L.length (strs L) := own_grownL hR.out hg3 (fun g' hg' e => by have := (hlt g' hg').1; simp at e; omega)
          have hg3' := Lib.grownBy_trans hgr hg3
          have HR3 : Hid (w3.ownsRow w.heap.size 9 1 (.slice (some ⟨g, 0, none⟩) L.length cv) L.length (strs L)) := hR3
          cases t with
          | false =>
            clear hcr hgr hg3 hR3
            go_wp2
            go_ret
            exact ⟨L, _, rfl, HR3.out, by omega, hS.out, hc3.le (by omega), hg3'⟩
          | true =>
            have hgw : w.heap.size ≤ g := (hlt g rfl).1
            have q0 := hR3.cellAt 0 (by omega)
            have z0 := hR3.frozenAt 0
            have how := (hR3.stored 0 (.string (⟨#[97, 32, 116, 101, 120, 116, 32, 111, 102, 32, 109, 111, 114, 101, 32, 116, 104, 97, 110, 32, 116, 119, 101, 110, 116, 121]⟩ : ByteArray))).1
            have hcs : (strs L)[0]? = some (.string (lq L 0)) := by unfold strs; rw [List.getElem?_map, lq_at hl'']; rfl
            rw [hcs] at q0
            have e1 : (strs L).set 0 (.string (⟨#[97, 32, 116, 101, 120, 116, 32, 111, 102, 32, 109, 111, 114, 101, 32, 116, 104, 97, 110, 32, 116, 119, 101, 110, 116, 121]⟩ : ByteArray)) = strs (L.set 0 ⟨#[97, 32, 116, 101, 120, 116, 32, 111, 102, 32, 109, 111, 114, 101, 32, 116, 104, 97, 110, 32, 116, 119, 101, 110, 116, 121]⟩) := by unfold strs; rw [List.map_set]
            rw [e1] at how
            have HE : Hid (StRow (w3.setCell ⟨g, 0, none⟩ (.string (⟨#[97, 32, 116, 101, 120, 116, 32, 111, 102, 32, 109, 111, 114, 101, 32, 116, 104, 97, 110, 32, 116, 119, 101, 110, 116, 121]⟩ : ByteArray))) w.heap.size (.slice (some ⟨g, 0, none⟩) L.length cv) (L.set 0 ⟨#[97, 32, 116, 101, 120, 116, 32, 111, 102, 32, 109, 111, 114, 101, 32, 116, 104, 97, 110, 32, 116, 119, 101, 110, 116, 121]⟩)) := by
              unfold StRow
              rw [List.length_set]
              exact how
            have HSh : Hid (Sht (L.set 0 ⟨#[97, 32, 116, 101, 120, 116, 32, 111, 102, 32, 109, 111, 114, 101, 32, 116, 104, 97, 110, 32, 116, 119, 101, 110, 116, 121]⟩)) := fun x hx => by
              rcases List.mem_or_eq_of_mem_set hx with h | h
              · exact hS.out x h
              · rw [h]; decide
            have hGE : w.grownBy (w3.setCell ⟨g, 0, none⟩ (.string (⟨#[97, 32, 116, 101, 120, 116, 32, 111, 102, 32, 109, 111, 114, 101, 32, 116, 104, 97, 110, 32, 116, 119, 101, 110, 116, 121]⟩ : ByteArray))) (some b) := by
              refine ⟨hg3'.os, hg3'.tape, hg3'.output, by simp; exact hg3'.size, fun j hj hne => ?_⟩
              rw [Below.heap_setCell _ _ _ _ (by show j ≠ g; omega)]
              exact hg3'.block j hj hne
            have hCE : Cur (w3.setCell ⟨g, 0, none⟩ (.string (⟨#[97, 32, 116, 101, 120, 116, 32, 111, 102, 32, 109, 111, 114, 101, 32, 116, 104, 97, 110, 32, 116, 119, 101, 110, 116, 121]⟩ : ByteArray))) b (m + 100) := (hc3.grown (Lib.grownBy_setCell _ g 0 _) (fun k hk => by simp at hk; omega)).le (by omega)
            clear hcr hgr hg3 hR3 how e1 hcs
            go_wp2
            go_ret
            exact ⟨_, _, rfl, HE.out, by rw [List.length_set]; omega, HSh.out, hCE, hGE⟩
      · have hn0 : (0 : Int) < (n : Int) := by omega
        have hn1 : (0 : Int) ≤ (n : Int) - 1 := by omega
        subst hvs
        go_wp2_with fail
        refine (ofL_any b _ [⟨#[97]⟩, ⟨#[98]⟩, ⟨#[101, 110, 116, 114, 121]⟩, ⟨#[]⟩, ⟨#[120, 49]⟩] _ wr hcr (by omega) (by decide) (by decide)).mono ?_
        rintro e w3 ⟨y, rfl, hym, hc3, hg3⟩
        have hy1 := small30 _ (by rfl) y hym
        have hlt := World.ownsRow.lt hR.out
        have hs3 := hg3.size
        have hZ3 : w3.ownsRow w.heap.size 9 1 (.slice av L.length cv) L.length (strs L) := own_grownL hR.out hg3 (fun g' hg' e => by have := (hlt g' hg').1; simp at e; omega)
        have hsw := hgr.size
        have hg3' := Lib.grownBy_trans hgr hg3
        have HS2 : Hid (Sht (L ++ [y])) := fun x hx => by
          rcases List.mem_append.1 hx with h | h
          · exact hS.out x h
          · simp at h; rw [h]; exact hy1
        clear hym hR hcr hgr hg3 hS
        go_wp2_with (at_builtin; refine wpList_append_lies _ rfl _ _ 29 rfl w.heap.size 9 i0 (.string ByteArray.empty) 1 16 Try.underlying29 hi0 hz0 hz1' hz2 rfl (by decide) _ L.length _ rfl (World.ownsRow.alloc hZ3 _) ⟨w3.heap.size, 0, none⟩ 1 1 [Value.string y] rfl rfl (World.news_of_block (heap_alloc_new w3 _)) ?c2 (by omega) (by unfold maxLen; omega) (by omega) (by simp; omega) (w3.heap.size + 1) (by simp) ?_)
        case c2 => intro u hu; simp at hu; subst hu; rfl
        intro g9 cap9 w9 hown9 hgrow9 hat9 hlt9
        have hlt3 := World.ownsRow.lt hZ3
        have hZ9 : Hid (StRow w9 w.heap.size (.slice (some ⟨g9, 0, none⟩) (L.length + 1) cap9) (L ++ [y])) := StRow.snoc hown9
        have hga : w.grownBy (w3.alloc (.cells #[Value.string y] 9)) (some b) := Lib.grownBy_allocR hg3' _
        have hc9 : Cur w9 b (m + 8 + 2 * (41 - n) + 2) := (hc3.alloc _).grown hgrow9 (fun k hk => by have := (hlt3 k hk).1; omega)
        have hsa := hga.size
        have hg9 : w.grownBy w9 (some b) := ⟨hgrow9.os.trans hga.os, hgrow9.tape.trans hga.tape, hgrow9.output.trans hga.output, Nat.le_trans hga.size hgrow9.size, fun i hi hne => (hgrow9.block i (by omega) (fun e => by have := (hlt3 i e.symm).1; omega)).trans (hga.block i hi hne)⟩
        clear hown9 hgrow9 hat9 hZ3 hga hlt3 hc3 hg3'
        go_wp2
        go_roundw
        case rel => exact ⟨L ++ [y], n - 1, by omega, by go_num, hZ9, by rw [List.length_append, List.length_singleton]; omega, HS2, hc9.le (by omega), hg9⟩
        case measure => simp [intOf]; omega

end Go.Proofs.Ytlglngmlaknmlaa
