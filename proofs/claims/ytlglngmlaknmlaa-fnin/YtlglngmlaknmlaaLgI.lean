/- The model's proof that a text is in, its right arm given. -/
import Derived.Test.YtlglngmlaknmlaaLgH
import Derived.Deep.AppendLies
import Derived.Deep.RegionHeld3
import Derived.OwnWalk
namespace Go.Proofs.Ytlglngmlaknmlaa
open Go.RowKit Plain Lgs Tpc

set_option maxHeartbeats 4000000 in
theorem l13In_of (RIGHT : ∀ (n h k cap g o r : Nat) (q : List Int) (w : World) (_h2 : 2 ≤ n) (_hn : n ≤ 40) (_hc : n ≤ cap) (_hcm : cap ≤ 2 ^ 63 - 1) (_hk : ¬ (k : Int) < (h : Int)) (_hs : (h : Int) < (n : Int)) (_hq : q.length ≤ 40) (_hkn' : k < n)
          (_CS : Hid (Calls Try.prog 48 #[.int .i64 (n : Int)] w fun e w' => e = .returned (.int .i64 (h : Int)) ∧ w' = w))
          (_CI : Hid (Calls Try.prog 58 #[.slice (some ⟨g, o + h, none⟩) (n - h) (cap - h), .int .i64 ((k : Int) - (h : Int))] w.drew fun e w' => ∃ v, e = .returned v ∧ ZRow w' w.heap.size v q ∧ Below w.heap.size w w'))
          (_CR : Hid (∀ W, Below w.heap.size w W → Calls Try.prog 55 #[.slice (some ⟨g, o, none⟩) h cap] W fun e w' => e = .returned (.int .i64 (r : Int)) ∧ Below w.heap.size w w' ∧ ∀ v (p : List Int), ZRow W w.heap.size v p → ZRow w' w.heap.size v p)), Calls Try.prog 58 #[.slice (some ⟨g, o, none⟩) n cap, .int .i64 (k : Int)] w fun e w' => ∃ v, e = .returned v ∧ ZRow w' w.heap.size v (q ++ [(r : Int)]) ∧ Below w.heap.size w w') : ∀ (f : Nat) (l : List ByteArray) (k : Nat) (v : Value) (w : World), l.length ≤ f → f ≤ 41 → 1 ≤ l.length → l.length ≤ 40 → k < l.length → (∀ i, i < l.length → (lq l i).size ≤ 20) → StAt w w.heap.size v l →
    Calls Try.prog 58 #[v, .int .i64 (k : Int)] w fun e w' => ∃ u, e = .returned u ∧ ZRow w' w.heap.size u (zl (inF f l k)) ∧ Below w.heap.size w w' := by
  intro f
  induction f with
  | zero => intro l k v w hf; omega
  | succ f ih =>
    intro l k v w hf hf41 h1 h40 hk h20 hv
    have hv0 := hv
    obtain ⟨ao, cap, rfl, hlc, hcm, hrow⟩ := hv
    unfold maxLen at hcm
    by_cases hone : l.length = 1
    · have HF : Hid (inF (f + 1) l k = []) := by show _ = _; rw [inF, if_pos (by omega)]
      rw [HF.out]
      have hE : ZRow w w.heap.size (.slice none 0 0) (zl []) := ⟨by simp [zl, zints], Or.inl ⟨rfl, rfl⟩⟩
      clear ih hv0 hrow RIGHT
      rw [hone]
      go_enter Try.func58, Try.ntmps58
      go_wp2_with fail
      go_ret
      exact ⟨_, rfl, hE, Below.refl _ _⟩
    · obtain ⟨g, o, rfl, hg, c⟩ := hrow 0 (by omega)
      obtain ⟨s1, s2, s3⟩ := spl_pos (n := l.length) (by omega) h40
      have hT := StAt.take hv0 (k := spl l.length) (by omega)
      have hD := StAt.drop hv0 (k := spl l.length) (by omega) (some ⟨g, o + spl l.length, none⟩) (fun _ g' o' e => by
        simp only [Option.some.injEq, Addr.mk.injEq] at e
        obtain ⟨rfl, rfl, _⟩ := e
        rfl)
      have h20T : ∀ i, i < (l.take (spl l.length)).length → (lq (l.take (spl l.length)) i).size ≤ 20 := fun i hi => by
        rw [List.length_take] at hi
        have e : lq (l.take (spl l.length)) i = lq l i := by
          unfold lq
          rw [List.getD_eq_getElem?_getD, List.getD_eq_getElem?_getD, List.getElem?_take, if_pos (by omega)]
        rw [e]
        exact h20 i (by omega)
      have h20D : ∀ i, i < (l.drop (spl l.length)).length → (lq (l.drop (spl l.length)) i).size ≤ 20 := fun i hi => by
        rw [List.length_drop] at hi
        have e : lq (l.drop (spl l.length)) i = lq l (spl l.length + i) := by
          unfold lq
          rw [List.getD_eq_getElem?_getD, List.getD_eq_getElem?_getD, List.getElem?_drop]
        rw [e]
        exact h20 _ (by omega)
      have lT : (l.take (spl l.length)).length = spl l.length := by rw [List.length_take]; omega
      have lD : (l.drop (spl l.length)).length = l.length - spl l.length := by rw [List.length_drop]
      have toZ : ∀ {x y : World} {m : Nat}, y = x.drewN m → ∀ v (p : List Int), ZRow x w.heap.size v p → ZRow y w.heap.size v p := fun h v p hz => by
        rw [h]
        exact hz
      by_cases hkk : k < spl l.length
      · have HF : inF (f + 1) l k = inF f (l.take (spl l.length)) k ++ [root (l.drop (spl l.length))] := by rw [inF, if_neg (by omega), if_pos hkk]
        have hz : zl (inF (f + 1) l k) = zl (inF f (l.take (spl l.length)) k) ++ [((root (l.drop (spl l.length)) : Nat) : Int)] := by rw [HF]; unfold zl; rw [List.map_append]; rfl
        rw [hz]
        refine l13In_left l.length (spl l.length) k cap g o _ _ w (by omega) h40 hlc hcm (by omega) (by omega) (by rw [zl_len]; exact inF_le f _ _ (by omega)) (l13Split_any _ w (by omega)) ?_ (fun W hW => ?_)
        · exact (ih _ k _ w.drew (by omega) (by omega) (by omega) (by omega) (by omega) h20T hT).mono fun e w' h => by
            obtain ⟨u, he, hz, hb⟩ := h
            exact ⟨u, he, hz, ⟨hb.os, hb.tape, hb.output, hb.size, hb.block⟩⟩
        · refine (l13Root_any 41 _ _ W (by omega) (by omega) h20D (hD.below hW)).mono ?_
          rintro e w' ⟨rfl, m, hw⟩
          exact ⟨rfl, by rw [hw]; exact lgBelow hW, toZ hw⟩
      · have HF : inF (f + 1) l k = inF f (l.drop (spl l.length)) (k - spl l.length) ++ [root (l.take (spl l.length))] := by rw [inF, if_neg (by omega), if_neg hkk]
        have hz : zl (inF (f + 1) l k) = zl (inF f (l.drop (spl l.length)) (k - spl l.length)) ++ [((root (l.take (spl l.length)) : Nat) : Int)] := by rw [HF]; unfold zl; rw [List.map_append]; rfl
        rw [hz]
        have hks : (k : Int) - ((spl l.length : Nat) : Int) = ((k - spl l.length : Nat) : Int) := by omega
        refine RIGHT l.length (spl l.length) k cap g o _ _ w (by omega) h40 hlc hcm (by omega) (by omega) (by rw [zl_len]; exact inF_le f _ _ (by omega)) hk (l13Split_any _ w (by omega)) ?_ (fun W hW => ?_)
        · rw [hks]
          exact (ih _ (k - spl l.length) _ w.drew (by omega) (by omega) (by omega) (by omega) (by omega) h20D hD).mono fun e w' h => by
            obtain ⟨u, he, hz, hb⟩ := h
            exact ⟨u, he, hz, ⟨hb.os, hb.tape, hb.output, hb.size, hb.block⟩⟩
        · refine (l13Root_any 41 _ _ W (by omega) (by omega) h20T (hT.below hW)).mono ?_
          rintro e w' ⟨rfl, m, hw⟩
          exact ⟨rfl, by rw [hw]; exact lgBelow hW, toZ hw⟩

end Go.Proofs.Ytlglngmlaknmlaa
