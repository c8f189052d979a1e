/- ComposeNos: the model's and the program's. -/
import Derived.Test.YtpajdmhakdbkjaaCnA
namespace Go.Proofs.Ytpajdmhakdbkjaa
open Go.RowKit

set_option maxRecDepth 100000 in
set_option maxHeartbeats 4000000 in
theorem specCompose (a b : List Int) (va vb : Value) (w : World) (hA : ZAt w w.heap.size va a) (hB : ZAt w w.heap.size vb b) (hla : a.length ≤ 2097152) (hlb : b.length ≤ 2097152) :
    Calls Try.prog 30 #[va, vb] w fun e w' => OInts w w' e (cno a b) := by
  obtain ⟨i0, hi, hz0, hz1, hz2⟩ := info_parts Try.infoInt
  have GA : Hid (∀ W, Below w.heap.size w W → Calls Try.prog 68 #[va] W fun e w' => e = .returned (.bool (nosOk a)) ∧ w' = W) := fun W hW => l5Nos_any a va W (hA.below hW) hla
  have GB : Hid (∀ W, Below w.heap.size w W → Calls Try.prog 68 #[vb] W fun e w' => e = .returned (.bool (nosOk b)) ∧ w' = W) := fun W hW => l5Nos_any b vb W (hB.below hW) hlb
  have HH : Hid (∀ (n : Int) (W : World), Below w.heap.size w W → Calls Try.prog 69 #[vb, .int .i64 n] W fun e w' => e = .returned (.bool (decide (n ∈ b))) ∧ w' = W) := fun n W hW => l1Has_any b n vb W (hB.below hW) hlb
  obtain ⟨aa, capa, rfl, hlca, hcma, hrow⟩ := hA
  obtain ⟨ab, capb, rfl, _⟩ := hB
  have hcma' : capa ≤ 9223372036854775807 := by unfold maxLen at hcma; omega
  have HROW : Hid (∀ i (x : Int), a[i]? = some x → ∃ g o, aa = some ⟨g, o, none⟩ ∧ g < w.heap.size ∧ w.cell? ⟨g, o + i, none⟩ = some (.int .i64 x)) := hrow
  clear hrow
  obtain ⟨R, hR⟩ : ∃ R, R = cno a b := ⟨_, rfl⟩
  rw [← hR]
  have HR : Hid (R = cno a b) := hR
  clear hR
  unfold OInts
  go_enter Try.func30, Try.ntmps30
  go_wp2_with fail
  refine (GA.out w (Below.refl _ _)).mono ?_
  rintro e w1 ⟨rfl, rfl⟩
  rcases hga : nosOk a with _ | _
  · have hn : Hid (R = ([], false)) := HR.out.trans (by unfold cno; rw [hga]; rfl)
    clear hga HR
    go_wp2
    go_ret2
    exact ⟨_, by rw [hn.out]; rfl, by rw [hn.out]; exact World.ownsRow_nil _ _ _ _, Below.refl _ _⟩
  go_wp2_with fail
  refine (GB.out w1 (Below.refl _ _)).mono ?_
  rintro e w2 ⟨rfl, rfl⟩
  rcases hgb : nosOk b with _ | _
  · have hn : Hid (R = ([], false)) := HR.out.trans (by unfold cno; rw [hga, hgb]; rfl)
    clear hga hgb HR
    go_wp2
    go_ret2
    exact ⟨_, by rw [hn.out]; rfl, by rw [hn.out]; exact World.ownsRow_nil _ _ _ _, Below.refl _ _⟩
  have hn : Hid (R = (a.filter (fun n => decide (n ∈ b)), true)) := HR.out.trans (by unfold cno; rw [hga, hgb]; rfl)
  clear hga hgb HR GA GB
  go_wp2
  go_loopw [6, 19] (fun vl vi wr => ∃ (k : Nat) (L : List Int), k ≤ a.length ∧ vi = .int .i64 (k : Int) ∧ Hid (L = (a.take k).filter (fun n => decide (n ∈ b))) ∧ Hid (L.length ≤ k) ∧ ZRow wr w2.heap.size vl L ∧ Below w2.heap.size w2 wr)
    (fun _ vi _ => a.length - (intOf vi).toNat)
  case atStart => exact ⟨0, [], by omega, rfl, rfl, by show (0 : Nat) ≤ 0; omega, World.ownsRow_nil _ _ _ _, Below.refl _ _⟩
  case round =>
    obtain ⟨k, L, hk, rfl, hL, hLl, hown, hbw⟩ := hrel
    by_cases hlt : k < a.length
    · have hltI : (k : Int) < (a.length : Int) := by omega
      obtain ⟨x, hx⟩ : ∃ x, a[k]? = some x := ⟨_, List.getElem?_eq_getElem hlt⟩
      obtain ⟨g, o, rfl, hg, c⟩ := HROW.out k x hx
      have e1 := (hbw.cell (p := ⟨g, o + k, none⟩) hg).trans c
      have hgr : g < wr.heap.size := by have := hbw.size; omega
      have HST : Hid ((a.take (k + 1)).filter (fun n => decide (n ∈ b)) = L ++ if x ∈ b then [x] else []) := by show _ = _; rw [hL.out]; exact filt_step a b k x hx
      have HLEN : Hid (((a.take (k + 1)).filter (fun n => decide (n ∈ b))).length ≤ k + 1) := filt_len a b (k + 1)
      clear c hx
      go_wp2_with fail
      refine (HH.out x wr hbw).mono ?_
      rintro e w3 ⟨rfl, rfl⟩
      by_cases hm : x ∈ b
      · have hd : decide (x ∈ b) = true := by simpa using hm
        have HE : Hid (L ++ [x] = (a.take (k + 1)).filter (fun n => decide (n ∈ b))) := by show _ = _; rw [HST.out, if_pos hm]
        have hLk : L.length + 1 ≤ 2097152 := by have := hLl.out; omega
        have hown' : w3.ownsRow w2.heap.size 3 1 u6 L.length (zints L) := hown
        rw [hd]
        clear hm hd HST hown
        go_wp2_with (at_builtin; refine wpList_append_own _ rfl _ _ 59 rfl w2.heap.size 3 i0 (.int .i64 0) 1 8 Try.underlying59 hi hz0 hz1 hz2 rfl (by decide) _ _ _ rfl (hown'.alloc _) ⟨w3.heap.size, 0, none⟩ 1 1 [Value.int .i64 x] rfl rfl ?c1 ?c2 ?c3 ?c4 ?c5 ?_)
        case c1 =>
          intro j u hj
          match j, hj with
          | 0, hj => simp at hj; subst hj; simp [Addr.add]
          | j + 1, hj => simp at hj
        case c2 => intro u hu; simp at hu; subst hu; rfl
        case c3 => unfold maxLen; omega
        case c4 => omega
        case c5 => have := hbw.size; simp; omega
        intro v' w4 hown4 hgrow _
        have hlt9 := hown'.lt
        have hbw4 : Below w2.heap.size w2 w4 := (hbw.alloc hbw.size _).grown hgrow (by have := hbw.size; simp; omega) (fun k hk => (hlt9 k hk).1)
        have hown5 : ZRow w4 w2.heap.size v' (L ++ [x]) := by
          unfold ZRow zints
          rw [List.map_append, List.length_append, List.length_singleton]
          simpa [zints] using hown4
        clear hgrow hown4 hlt9 hown' hbw
        go_wp2
        go_roundw
        case rel => exact ⟨k + 1, L ++ [x], by omega, by go_num, HE.out, by show _ ≤ _; rw [HE.out]; exact HLEN.out, hown5, hbw4⟩
        case measure => simp [intOf]; omega
      · have hd : decide (x ∈ b) = false := by simpa using hm
        have HE : Hid (L = (a.take (k + 1)).filter (fun n => decide (n ∈ b))) := by show _ = _; rw [HST.out, if_neg hm, List.append_nil]
        rw [hd]
        clear hm hd HST
        go_wp2
        go_roundw
        case rel => exact ⟨k + 1, L, by omega, by go_num, HE.out, by show _ ≤ _; have := hLl.out; omega, hown, hbw⟩
        case measure => simp [intOf]; omega
    · have hke : k = a.length := by omega
      have hge : ¬ ((k : Int) < (a.length : Int)) := by omega
      have HE : Hid (R = (L, true)) := by show _ = _; rw [hn.out, hL.out, hke, List.take_length]
      clear hke hL
      go_wp2
      go_ret2
      exact ⟨_, by rw [HE.out]; rfl, by rw [HE.out]; exact hown, hbw⟩

set_option maxRecDepth 100000 in
set_option maxHeartbeats 4000000 in
theorem implCompose (a b : List Int) (va vb : Value) (w : World) (hA : ZAt w w.heap.size va a) (hB : ZAt w w.heap.size vb b) (hla : a.length ≤ 2097152) (hlb : b.length ≤ 2097152) :
    Calls Try.prog 32 #[va, vb] w fun e w' => OInts w w' e (cno a b) := by
  obtain ⟨i0, hi, hz0, hz1, hz2⟩ := info_parts Try.infoInt
  have GA : Hid (∀ W, Below w.heap.size w W → Calls Try.prog 70 #[va] W fun e w' => e = .returned (.bool (nosOk a)) ∧ w' = W) := fun W hW => goodNos_any a va W (hA.below hW) hla
  have GB : Hid (∀ W, Below w.heap.size w W → Calls Try.prog 70 #[vb] W fun e w' => e = .returned (.bool (nosOk b)) ∧ w' = W) := fun W hW => goodNos_any b vb W (hB.below hW) hlb
  have HH : Hid (∀ (n : Int) (W : World), Below w.heap.size w W → Calls Try.prog 71 #[vb, .int .i64 n] W fun e w' => e = .returned (.bool (decide (n ∈ b))) ∧ w' = W) := fun n W hW => contains_any b n vb W (hB.below hW) hlb
  obtain ⟨aa, capa, rfl, hlca, hcma, hrow⟩ := hA
  obtain ⟨ab, capb, rfl, _⟩ := hB
  have hcma' : capa ≤ 9223372036854775807 := by unfold maxLen at hcma; omega
  have HROW : Hid (∀ i (x : Int), a[i]? = some x → ∃ g o, aa = some ⟨g, o, none⟩ ∧ g < w.heap.size ∧ w.cell? ⟨g, o + i, none⟩ = some (.int .i64 x)) := hrow
  clear hrow
  obtain ⟨R, hR⟩ : ∃ R, R = cno a b := ⟨_, rfl⟩
  rw [← hR]
  have HR : Hid (R = cno a b) := hR
  clear hR
  unfold OInts
  go_enter Try.func32, Try.ntmps32
  go_wp2_with fail
  refine (GA.out w (Below.refl _ _)).mono ?_
  rintro e w1 ⟨rfl, rfl⟩
  rcases hga : nosOk a with _ | _
  · have hn : Hid (R = ([], false)) := HR.out.trans (by unfold cno; rw [hga]; rfl)
    clear hga HR
    go_wp2
    go_ret2
    exact ⟨_, by rw [hn.out]; rfl, by rw [hn.out]; exact World.ownsRow_nil _ _ _ _, Below.refl _ _⟩
  go_wp2_with fail
  refine (GB.out w1 (Below.refl _ _)).mono ?_
  rintro e w2 ⟨rfl, rfl⟩
  rcases hgb : nosOk b with _ | _
  · have hn : Hid (R = ([], false)) := HR.out.trans (by unfold cno; rw [hga, hgb]; rfl)
    clear hga hgb HR
    go_wp2
    go_ret2
    exact ⟨_, by rw [hn.out]; rfl, by rw [hn.out]; exact World.ownsRow_nil _ _ _ _, Below.refl _ _⟩
  have hn : Hid (R = (a.filter (fun n => decide (n ∈ b)), true)) := HR.out.trans (by unfold cno; rw [hga, hgb]; rfl)
  clear hga hgb HR GA GB
  go_wp2
  go_loopw [6, 19] (fun vl vi wr => ∃ (k : Nat) (L : List Int), k ≤ a.length ∧ vi = .int .i64 (k : Int) ∧ Hid (L = (a.take k).filter (fun n => decide (n ∈ b))) ∧ Hid (L.length ≤ k) ∧ ZRow wr w2.heap.size vl L ∧ Below w2.heap.size w2 wr)
    (fun _ vi _ => a.length - (intOf vi).toNat)
  case atStart => exact ⟨0, [], by omega, rfl, rfl, by show (0 : Nat) ≤ 0; omega, World.ownsRow_nil _ _ _ _, Below.refl _ _⟩
  case round =>
    obtain ⟨k, L, hk, rfl, hL, hLl, hown, hbw⟩ := hrel
    by_cases hlt : k < a.length
    · have hltI : (k : Int) < (a.length : Int) := by omega
      obtain ⟨x, hx⟩ : ∃ x, a[k]? = some x := ⟨_, List.getElem?_eq_getElem hlt⟩
      obtain ⟨g, o, rfl, hg, c⟩ := HROW.out k x hx
      have e1 := (hbw.cell (p := ⟨g, o + k, none⟩) hg).trans c
      have hgr : g < wr.heap.size := by have := hbw.size; omega
      have HST : Hid ((a.take (k + 1)).filter (fun n => decide (n ∈ b)) = L ++ if x ∈ b then [x] else []) := by show _ = _; rw [hL.out]; exact filt_step a b k x hx
      have HLEN : Hid (((a.take (k + 1)).filter (fun n => decide (n ∈ b))).length ≤ k + 1) := filt_len a b (k + 1)
      clear c hx
      go_wp2_with fail
      refine (HH.out x wr hbw).mono ?_
      rintro e w3 ⟨rfl, rfl⟩
      by_cases hm : x ∈ b
      · have hd : decide (x ∈ b) = true := by simpa using hm
        have HE : Hid (L ++ [x] = (a.take (k + 1)).filter (fun n => decide (n ∈ b))) := by show _ = _; rw [HST.out, if_pos hm]
        have hLk : L.length + 1 ≤ 2097152 := by have := hLl.out; omega
        have hown' : w3.ownsRow w2.heap.size 3 1 u6 L.length (zints L) := hown
        rw [hd]
        clear hm hd HST hown
        go_wp2_with (at_builtin; refine wpList_append_own _ rfl _ _ 59 rfl w2.heap.size 3 i0 (.int .i64 0) 1 8 Try.underlying59 hi hz0 hz1 hz2 rfl (by decide) _ _ _ rfl (hown'.alloc _) ⟨w3.heap.size, 0, none⟩ 1 1 [Value.int .i64 x] rfl rfl ?c1 ?c2 ?c3 ?c4 ?c5 ?_)
        case c1 =>
          intro j u hj
          match j, hj with
          | 0, hj => simp at hj; subst hj; simp [Addr.add]
          | j + 1, hj => simp at hj
        case c2 => intro u hu; simp at hu; subst hu; rfl
        case c3 => unfold maxLen; omega
        case c4 => omega
        case c5 => have := hbw.size; simp; omega
        intro v' w4 hown4 hgrow _
        have hlt9 := hown'.lt
        have hbw4 : Below w2.heap.size w2 w4 := (hbw.alloc hbw.size _).grown hgrow (by have := hbw.size; simp; omega) (fun k hk => (hlt9 k hk).1)
        have hown5 : ZRow w4 w2.heap.size v' (L ++ [x]) := by
          unfold ZRow zints
          rw [List.map_append, List.length_append, List.length_singleton]
          simpa [zints] using hown4
        clear hgrow hown4 hlt9 hown' hbw
        go_wp2
        go_roundw
        case rel => exact ⟨k + 1, L ++ [x], by omega, by go_num, HE.out, by show _ ≤ _; rw [HE.out]; exact HLEN.out, hown5, hbw4⟩
        case measure => simp [intOf]; omega
      · have hd : decide (x ∈ b) = false := by simpa using hm
        have HE : Hid (L = (a.take (k + 1)).filter (fun n => decide (n ∈ b))) := by show _ = _; rw [HST.out, if_neg hm, List.append_nil]
        rw [hd]
        clear hm hd HST
        go_wp2
        go_roundw
        case rel => exact ⟨k + 1, L, by omega, by go_num, HE.out, by show _ ≤ _; have := hLl.out; omega, hown, hbw⟩
        case measure => simp [intOf]; omega
    · have hke : k = a.length := by omega
      have hge : ¬ ((k : Int) < (a.length : Int)) := by omega
      have HE : Hid (R = (L, true)) := by show _ = _; rw [hn.out, hL.out, hke, List.take_length]
      clear hke hL
      go_wp2
      go_ret2
      exact ⟨_, by rw [HE.out]; rfl, by rw [HE.out]; exact hown, hbw⟩

end Go.Proofs.Ytpajdmhakdbkjaa
