/- The model's l10Put over ints of any sign. -/
import Derived.Test.YtfkhbbmnjndmcaaQuS
import Derived.Test.YtfkhbbmnjndmcaaMcFa
namespace Go.Proofs.Ytfkhbbmnjndmcaa
open Go.RowKit Plain Qus

theorem addr_add (g o k : Nat) : (⟨g, o, none⟩ : Addr).add k = ⟨g, o + k, none⟩ := by
  unfold Addr.add
  split
  · next h => subst h; rfl
  · rfl

set_option maxRecDepth 100000 in
set_option maxHeartbeats 8000000 in
theorem l10PutZ (v : Int) (L : List Int) (vo : Value) (w : World) (hL : ZAt w w.heap.size vo L) (hl6 : L.length ≤ 100000) (hne : v ∉ L) :
    Calls Try.prog 69 #[vo, .int .i64 v] w fun e w' => (∃ r, e = .returned r ∧ ZRow w' w.heap.size r (putZ v L)) ∧ Below w.heap.size w w' := by
  have HNE : Hid (∀ (j : Nat) y, L[j]? = some y → y ≠ v) := fun j y hj e => hne (by rw [← e]; exact List.mem_of_getElem? hj)
  clear hne
  obtain ⟨i0, hi, hz0, hz1, hz2⟩ := info_parts infoIntR
  obtain ⟨ao, cap, rfl, hlc, hcm, hrow⟩ := hL
  have hcm' : cap ≤ 9223372036854775807 := by unfold maxLen at hcm; omega
  have HROW : Hid (∀ i (x : Int), L[i]? = some x → ∃ g o, ao = some ⟨g, o, none⟩ ∧ g < w.heap.size ∧ w.cell? ⟨g, o + i, none⟩ = some (.int .i64 x)) := hrow
  clear hrow
  go_enter Try.func69, Try.ntmps69
  go_wp2
  go_loopw [5] (fun vk wr => ∃ k : Nat, k ≤ L.length ∧ vk = .int .i64 (k : Int) ∧ Hid (∀ j y, j < k → L[j]? = some y → y < v) ∧ wr = w)
    (fun vk _ => L.length - (intOf vk).toNat)
  case atStart => exact ⟨0, by omega, rfl, fun j y hj => by omega, rfl⟩
  case round =>
    obtain ⟨k, hk, rfl, hall, rfl⟩ := hrel
    obtain ⟨w, rfl⟩ : ∃ W, W = wr := ⟨_, rfl⟩
    have hbw : Below w.heap.size w w := Below.refl _ _
    obtain ⟨a2, ha2⟩ : ∃ a2, a2 = if cap = k then ao else ao.map (·.add (k * 1)) := ⟨_, rfl⟩
    have HA2 : Hid (∀ g o, ao = some ⟨g, o, none⟩ → k < L.length → a2 = some ⟨g, o + k, none⟩) := fun g o h1 h2 => by
      rw [ha2, if_neg (by omega), h1]
      show some ((⟨g, o, none⟩ : Addr).add (k * 1)) = _
      rw [addr_add, Nat.mul_one]
    have hsl1 : ∀ W : World, (Instr.slice 22 (.slice ao L.length cap) none (some (.int .i64 (k : Int))) none).run Try.prog W = .ok (.slice ao k cap) W := fun W => by
      rw [run_slice_h (P := Try.prog) (w := W) 22 ao L.length cap Try.underlying22 .i64 (k : Int) (by omega) (by omega)]
      have e : (sizeOf (Try.prog.elem 22)).run Try.prog W = .ok 1 W := by kernel_rfl
      rw [e]
      show Result.ok (sliced ao 0 (k : Int).toNat cap 1) W = _
      unfold sliced
      rw [Int.toNat_natCast, Nat.zero_mul, Nat.sub_zero, Nat.sub_zero]
      congr 2
      cases ao with
      | none => split <;> rfl
      | some a => obtain ⟨ab, ao', ae⟩ := a; split <;> simp [Addr.add] <;> cases ae <;> rfl
    have hsl2 : ∀ W : World, (Instr.slice 22 (.slice ao L.length cap) (some (.int .i64 (k : Int))) none none).run Try.prog W = .ok (.slice a2 (L.length - k) (cap - k)) W := fun W => by
      rw [run_slice_l (P := Try.prog) (w := W) 22 ao L.length cap Try.underlying22 .i64 (k : Int) (by omega) (by omega)]
      have e : (sizeOf (Try.prog.elem 22)).run Try.prog W = .ok 1 W := by kernel_rfl
      rw [e]
      show Result.ok (sliced ao (k : Int).toNat L.length cap 1) W = _
      unfold sliced
      rw [Int.toNat_natCast, ha2]
    clear ha2
    by_cases hlt : k < L.length
    · have hlt' : (k : Int) < (L.length : Int) := by omega
      obtain ⟨y, hy⟩ : ∃ y, L[k]? = some y := ⟨_, List.getElem?_eq_getElem hlt⟩
      obtain ⟨g, o, hao, hg, c⟩ := HROW.out k y hy
      have hyn := HNE.out k y hy
      by_cases hyv : y < v
      · have hyd : decide (y < v) = true := by simpa using hyv
        have hall2 : Hid (∀ j z, j < k + 1 → L[j]? = some z → z < v) := fun j z hj hz => by
          by_cases hjk : j = k
          · rw [hjk, hy] at hz; cases hz; exact hyv
          · exact hall.out j z (by omega) hz
        subst hao
        clear hall hyv hyn hy hsl1 hsl2
        go_wp2
        go_roundw
        case rel => exact ⟨k + 1, by omega, by go_num, hall2, trivial⟩
        case measure => simp [intOf]; omega
      · have hydn : decide (y < v) = false := by simpa using hyv
        have hyen : (y == v) = false := by simpa using hyn
        have HINS : Hid (putZ v L = L.take k ++ v :: L.drop k) := putZ_at v L k hall.out (.inr ⟨y, hy, by omega⟩) hk
        clear hyv hyn hall hy
        subst hao
        obtain ⟨A, hA⟩ : ∃ A, Hid (A = L.take k) := ⟨_, rfl⟩
        obtain ⟨D, hD⟩ : ∃ D, Hid (D = L.drop k) := ⟨_, rfl⟩
        have hAL : Hid (A.length = k) := by show _ = _; rw [hA.out, List.length_take]; omega
        have hDL : Hid (D.length = L.length - k) := by show _ = _; rw [hD.out, List.length_drop]
        have hN1 : Hid (∀ W : World, Below w.heap.size w W → ∀ j u, (zints A)[j]? = some u → ∃ ad, (some ⟨g, o, none⟩ : Option Addr) = some ad ∧ W.cell? (ad.add j) = some u) := fun W hW j u hu => by
          have hj : j < k := by
            have h9 := (List.getElem?_eq_some_iff.1 hu).1
            unfold zints at h9
            rw [List.length_map, hAL.out] at h9
            exact h9
          rw [hA.out] at hu
          unfold zints at hu
          rw [List.getElem?_map, Option.map_eq_some_iff] at hu
          obtain ⟨y, hy, rfl⟩ := hu
          rw [List.getElem?_take, if_pos hj] at hy
          obtain ⟨g', o', hao', hg', c⟩ := HROW.out j y hy
          exact ⟨_, hao', by rw [addr_add]; exact (hW.cell (p := ⟨g', o' + j, none⟩) hg').trans c⟩
        have hN2 : Hid (∀ W : World, Below w.heap.size w W → ∀ j u, (zints D)[j]? = some u → ∃ ad, a2 = some ad ∧ W.cell? (ad.add j) = some u) := fun W hW j u hu => by
          have hj : k + j < L.length := by
            have h9 := (List.getElem?_eq_some_iff.1 hu).1
            unfold zints at h9
            rw [List.length_map, hDL.out] at h9
            omega
          rw [hD.out] at hu
          unfold zints at hu
          rw [List.getElem?_map, Option.map_eq_some_iff] at hu
          obtain ⟨y, hy, rfl⟩ := hu
          rw [List.getElem?_drop] at hy
          obtain ⟨g, o, hao, hg, c⟩ := HROW.out (k + j) y hy
          refine ⟨_, HA2.out g o hao (by omega), ?_⟩
          rw [addr_add, Nat.add_assoc]
          exact (hW.cell (p := ⟨g, o + (k + j), none⟩) hg).trans c
        have hone : ∀ l : List Int, ∀ u ∈ zints l, u.oneCell' = true := fun l u hu => by unfold zints at hu; obtain ⟨y, _, rfl⟩ := List.mem_map.1 hu; rfl
        have HONE : Hid (∀ l : List Int, ∀ u ∈ zints l, u.oneCell' = true) := hone
        clear hone
        have hsW : Hid (w.heap.size ≤ w.heap.size) := hbw.size
        go_wp2_with (at_builtin; refine wpList_append_mayT _ rfl _ _ 22 rfl w.heap.size 3 i0 (.int .i64 0) 1 8 Try.underlying22 hi hz0 hz1 hz2 rfl (by decide) (.slice none 0 0) 0 [] rfl (World.ownsRow_nil _ _ _ _) (some ⟨g, o, none⟩ : Option Addr) k cap (zints A) rfl ?_ (hN1.out _ hbw) (HONE.out _) (by unfold maxLen; omega) (by omega) hsW.out ?_)
        · unfold zints; rw [List.length_map, hAL.out, Nat.mul_one]
        intro ar1 cap1 w2 hown2 hgrow2 _
        have hbw2 : Below w.heap.size w w2 := hbw.grown hgrow2 hsW.out (fun k hk => by simp [Value.ownBlock] at hk)
        have hown2 : w2.ownsRow w.heap.size 3 1 (.slice ar1 k cap1) k (zints A) := hown2
        have hs2 : Hid (w.heap.size ≤ w2.heap.size) := hbw2.size
        clear hgrow2
        go_wp2_with (at_builtin; refine wpList_append_own _ rfl _ _ 22 rfl w.heap.size 3 i0 (.int .i64 0) 1 8 Try.underlying22 hi hz0 hz1 hz2 rfl (by decide) _ _ _ rfl (hown2.alloc _) ⟨w2.heap.size, 0, none⟩ 1 1 [Value.int .i64 v] rfl rfl ?c1 ?c2 ?c3 ?c4 ?c5 ?_)
        case c1 =>
          intro j u hj
          match j, hj with
          | 0, hj => simp at hj; subst hj; simp [Addr.add]
          | j + 1, hj => simp at hj
        case c2 => intro u hu; simp at hu; subst hu; rfl
        case c3 => unfold maxLen; omega
        case c4 => omega
        case c5 => simp; have := hs2.out; omega
        intro v3 w3 hown3 hgrow3 _
        have hlt9 := hown2.lt
        have hbw3 : Below w.heap.size w w3 := (hbw2.alloc hs2.out (.cells #[.int .i64 v] 3)).grown hgrow3 (by simp; have := hs2.out; omega) (fun k hk => (hlt9 k hk).1)
        have hs3 : Hid (w.heap.size ≤ w3.heap.size) := hbw3.size
        clear hgrow3 hlt9 hown2
        go_wp2_with (at_builtin; refine wpList_append_mayT _ rfl _ _ 22 rfl w.heap.size 3 i0 (.int .i64 0) 1 8 Try.underlying22 hi hz0 hz1 hz2 rfl (by decide) _ _ _ rfl hown3 a2 (L.length - k) (cap - k) (zints D) rfl ?_ (hN2.out _ hbw3) (HONE.out _) (by unfold maxLen; omega) (by omega) hs3.out ?_)
        · unfold zints; rw [List.length_map, hDL.out, Nat.mul_one]
        intro ar4 cap4 w4 hown4 hgrow4 _
        have hlt9 := hown3.lt
        have hbw4 : Below w.heap.size w w4 := hbw3.grown hgrow4 hs3.out (fun k hk => (hlt9 k hk).1)
        have hfin : Hid (ZRow w4 w.heap.size (.slice ar4 (k + 1 + (L.length - k)) cap4) (putZ v L)) := by
          have hl : k + 1 + (L.length - k) = (putZ v L).length := by rw [HINS.out]; simp; omega
          have hv : zints A ++ [Value.int .i64 v] ++ zints D = zints (putZ v L) := by rw [HINS.out, hA.out, hD.out]; simp [zints]
          have hown5 : w4.ownsRow w.heap.size 3 1 (.slice ar4 (k + 1 + (L.length - k)) cap4) (k + 1 + (L.length - k)) (zints A ++ [Value.int .i64 v] ++ zints D) := by
            first | exact hown4 | simpa using hown4
          rw [hl, hv] at hown5
          show World.ownsRow _ _ _ _ _ _ _
          rw [hl]
          exact hown5
        clear hgrow4 hown3 hown4 hlt9
        go_wp2
        go_ret
        exact ⟨⟨_, rfl, hfin.out⟩, hbw4⟩
    · have hke : k = L.length := by omega
      have hge : decide ((k : Int) < (L.length : Int)) = false := by simp; omega
      have hgen : decide (k < L.length) = false := by simpa using hlt
      have HINS : Hid (putZ v L = L.take k ++ v :: L.drop k) := putZ_at v L k hall.out (.inl hke) hk
      clear hall hlt hke
      obtain ⟨A, hA⟩ : ∃ A, Hid (A = L.take k) := ⟨_, rfl⟩
      obtain ⟨D, hD⟩ : ∃ D, Hid (D = L.drop k) := ⟨_, rfl⟩
      have hAL : Hid (A.length = k) := by show _ = _; rw [hA.out, List.length_take]; omega
      have hDL : Hid (D.length = L.length - k) := by show _ = _; rw [hD.out, List.length_drop]
      have hN1 : Hid (∀ W : World, Below w.heap.size w W → ∀ j u, (zints A)[j]? = some u → ∃ ad, ao = some ad ∧ W.cell? (ad.add j) = some u) := fun W hW j u hu => by
        have hj : j < k := by
          have h9 := (List.getElem?_eq_some_iff.1 hu).1
          unfold zints at h9
          rw [List.length_map, hAL.out] at h9
          exact h9
        rw [hA.out] at hu
        unfold zints at hu
        rw [List.getElem?_map, Option.map_eq_some_iff] at hu
        obtain ⟨y, hy, rfl⟩ := hu
        rw [List.getElem?_take, if_pos hj] at hy
        obtain ⟨g', o', hao', hg', c⟩ := HROW.out j y hy
        exact ⟨_, hao', by rw [addr_add]; exact (hW.cell (p := ⟨g', o' + j, none⟩) hg').trans c⟩
      have hN2 : Hid (∀ W : World, Below w.heap.size w W → ∀ j u, (zints D)[j]? = some u → ∃ ad, a2 = some ad ∧ W.cell? (ad.add j) = some u) := fun W hW j u hu => by
        have hj : k + j < L.length := by
          have h9 := (List.getElem?_eq_some_iff.1 hu).1
          unfold zints at h9
          rw [List.length_map, hDL.out] at h9
          omega
        rw [hD.out] at hu
        unfold zints at hu
        rw [List.getElem?_map, Option.map_eq_some_iff] at hu
        obtain ⟨y, hy, rfl⟩ := hu
        rw [List.getElem?_drop] at hy
        obtain ⟨g, o, hao, hg, c⟩ := HROW.out (k + j) y hy
        refine ⟨_, HA2.out g o hao (by omega), ?_⟩
        rw [addr_add, Nat.add_assoc]
        exact (hW.cell (p := ⟨g, o + (k + j), none⟩) hg).trans c
      have hone : ∀ l : List Int, ∀ u ∈ zints l, u.oneCell' = true := fun l u hu => by unfold zints at hu; obtain ⟨y, _, rfl⟩ := List.mem_map.1 hu; rfl
      have HONE : Hid (∀ l : List Int, ∀ u ∈ zints l, u.oneCell' = true) := hone
      clear hone
      have hsW : Hid (w.heap.size ≤ w.heap.size) := hbw.size
      go_wp2_with (at_builtin; refine wpList_append_mayT _ rfl _ _ 22 rfl w.heap.size 3 i0 (.int .i64 0) 1 8 Try.underlying22 hi hz0 hz1 hz2 rfl (by decide) (.slice none 0 0) 0 [] rfl (World.ownsRow_nil _ _ _ _) ao k cap (zints A) rfl ?_ (hN1.out _ hbw) (HONE.out _) (by unfold maxLen; omega) (by omega) hsW.out ?_)
      · unfold zints; rw [List.length_map, hAL.out, Nat.mul_one]
      intro ar1 cap1 w2 hown2 hgrow2 _
      have hbw2 : Below w.heap.size w w2 := hbw.grown hgrow2 hsW.out (fun k hk => by simp [Value.ownBlock] at hk)
      have hown2 : w2.ownsRow w.heap.size 3 1 (.slice ar1 k cap1) k (zints A) := hown2
      have hs2 : Hid (w.heap.size ≤ w2.heap.size) := hbw2.size
      clear hgrow2
      go_wp2_with (at_builtin; refine wpList_append_own _ rfl _ _ 22 rfl w.heap.size 3 i0 (.int .i64 0) 1 8 Try.underlying22 hi hz0 hz1 hz2 rfl (by decide) _ _ _ rfl (hown2.alloc _) ⟨w2.heap.size, 0, none⟩ 1 1 [Value.int .i64 v] rfl rfl ?d1 ?d2 ?d3 ?d4 ?d5 ?_)
      case d1 =>
        intro j u hj
        match j, hj with
        | 0, hj => simp at hj; subst hj; simp [Addr.add]
        | j + 1, hj => simp at hj
      case d2 => intro u hu; simp at hu; subst hu; rfl
      case d3 => unfold maxLen; omega
      case d4 => omega
      case d5 => simp; have := hs2.out; omega
      intro v3 w3 hown3 hgrow3 _
      have hlt9 := hown2.lt
      have hbw3 : Below w.heap.size w w3 := (hbw2.alloc hs2.out (.cells #[.int .i64 v] 3)).grown hgrow3 (by simp; have := hs2.out; omega) (fun k hk => (hlt9 k hk).1)
      have hs3 : Hid (w.heap.size ≤ w3.heap.size) := hbw3.size
      clear hgrow3 hlt9 hown2
      go_wp2_with (at_builtin; refine wpList_append_mayT _ rfl _ _ 22 rfl w.heap.size 3 i0 (.int .i64 0) 1 8 Try.underlying22 hi hz0 hz1 hz2 rfl (by decide) _ _ _ rfl hown3 a2 (L.length - k) (cap - k) (zints D) rfl ?_ (hN2.out _ hbw3) (HONE.out _) (by unfold maxLen; omega) (by omega) hs3.out ?_)
      · unfold zints; rw [List.length_map, hDL.out, Nat.mul_one]
      intro ar4 cap4 w4 hown4 hgrow4 _
      have hlt9 := hown3.lt
      have hbw4 : Below w.heap.size w w4 := hbw3.grown hgrow4 hs3.out (fun k hk => (hlt9 k hk).1)
      have hfin : Hid (ZRow w4 w.heap.size (.slice ar4 (k + 1 + (L.length - k)) cap4) (putZ v L)) := by
        have hl : k + 1 + (L.length - k) = (putZ v L).length := by rw [HINS.out]; simp; omega
        have hv : zints A ++ [Value.int .i64 v] ++ zints D = zints (putZ v L) := by rw [HINS.out, hA.out, hD.out]; simp [zints]
        have hown5 : w4.ownsRow w.heap.size 3 1 (.slice ar4 (k + 1 + (L.length - k)) cap4) (k + 1 + (L.length - k)) (zints A ++ [Value.int .i64 v] ++ zints D) := by
          first | exact hown4 | simpa using hown4
        rw [hl, hv] at hown5
        show World.ownsRow _ _ _ _ _ _ _
        rw [hl]
        exact hown5
      clear hgrow4 hown3 hown4 hlt9
      go_wp2
      go_ret
      exact ⟨⟨_, rfl, hfin.out⟩, hbw4⟩

end Go.Proofs.Ytfkhbbmnjndmcaa
