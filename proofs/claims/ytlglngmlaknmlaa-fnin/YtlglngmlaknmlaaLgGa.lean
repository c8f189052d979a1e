/- The model's proof that a log only grew. -/
import Derived.Test.YtlglngmlaknmlaaLgN
import Derived.Test.YtlglngmlaknmlaaLgT
import Derived.Deep.AppendLies
import Derived.Deep.RegionHeld3
import Derived.OwnWalk
namespace Go.Proofs.Ytlglngmlaknmlaa
open Go.RowKit Plain Lgs Tpc

theorem wrap_idG {x : Int} (h0 : 0 ≤ x) (h1 : x ≤ 1000000000) : IntKind.i64.wrap x = x := by
  unfold IntKind.wrap IntKind.bits IntKind.signed
  simp only [Bool.true_and]
  rw [show ((2 : Int) ^ 64) = 18446744073709551616 from rfl, show ((2 : Int) ^ (64 - 1)) = 9223372036854775808 from rfl]
  rw [if_neg (by rw [decide_eq_true_eq]; omega)]
  omega

set_option maxRecDepth 100000 in
set_option maxHeartbeats 4000000 in
theorem l13Grew_left (n h k cap g o r : Nat) (wh : Bool) (q : List Int) (w : World) (_h2 : 2 ≤ n) (_hn : n ≤ 40) (hc : n ≤ cap) (_hcm : cap ≤ 2 ^ 63 - 1) (hk : (k : Int) ≤ (h : Int)) (_hkne : ¬ (k : Int) = (n : Int)) (hs : (h : Int) < (n : Int)) (hq : q.length ≤ 40)
    (CS : Hid (Calls Try.prog 48 #[.int .i64 (n : Int)] w fun e w' => e = .returned (.int .i64 (h : Int)) ∧ w' = w))
    (CI : Hid (Calls Try.prog 73 #[.slice (some ⟨g, o, none⟩) h cap, .int .i64 (k : Int), .bool wh] w.drew fun e w' => ∃ v, e = .returned v ∧ ZRow w' w.heap.size v q ∧ Below w.heap.size w w'))
    (CR : Hid (∀ W, Below w.heap.size w W → Calls Try.prog 55 #[.slice (some ⟨g, o + h, none⟩) (n - h) (cap - h)] W fun e w' => e = .returned (.int .i64 (r : Int)) ∧ Below w.heap.size w w' ∧ ∀ v (p : List Int), ZRow W w.heap.size v p → ZRow w' w.heap.size v p)) :
    Calls Try.prog 73 #[.slice (some ⟨g, o, none⟩) n cap, .int .i64 (k : Int), .bool wh] w fun e w' => ∃ v, e = .returned v ∧ ZRow w' w.heap.size v (q ++ [(r : Int)]) ∧ Below w.heap.size w w' := by
  have hkn2 : ¬ k = n := by omega
  have hkn3 : k ≤ h := by omega
  have hcne : ¬ cap = h := by omega
  have hk0 : (0 : Int) ≤ (h : Int) := by omega
  have hkn : (h : Int) ≤ (n : Int) := by omega
  have hkc : (h : Int) ≤ (cap : Int) := by omega
  obtain ⟨i0, hi, hz0, hz1, hz2⟩ := info_parts LgInfo
  go_enter Try.func73, Try.ntmps73
  go_wp2_with fail
  go_at_call 48
  refine CS.out.mono ?_
  rintro e w0 ⟨rfl, h0⟩
  have h0 := h0.symm
  subst h0
  go_wp2_with fail
  go_region_held3 (fun _ => True) (exact trivial)
    (first
      | (go_at_call 73; refine CI.out.mono ?_; rintro e w2 ⟨v2, rfl, hr2, hb2⟩; obtain ⟨a2, c2, rfl⟩ := hr2.slice)
      | (go_at_call 55; refine (CR.out _ hb2).mono ?_; rintro e w3 ⟨rfl, hb3, hk3⟩; have hr3 := hk3 _ _ hr2; have hsz3 : w.heap.size ≤ w3.heap.size := hb3.size)
      | (refine step_append_lies _ (by rfl) _ _ _ (by rfl) w.heap.size 3 i0 (.int .i64 0) 1 8 Try.underlying35 hi hz0 hz1 hz2 rfl (by decide) _ q.length _ (by rfl) (World.ownsRow.alloc (show w3.ownsRow w.heap.size 3 1 (.slice a2 q.length c2) q.length (zints q) from hr3) _) ⟨w3.heap.size, 0, none⟩ 1 1 [Value.int .i64 (r : Int)] (by rfl) rfl (World.news_of_block (heap_alloc_new w3 _)) (by intro u hu; simp at hu; subst hu; rfl) (by omega) (by unfold maxLen; omega) (by omega) (by simp; omega) (w3.heap.size + 1) (by simp) ?_; intro g9 cap9 w4 hown4 hgrow hat hlt4))
  have hE : ZRow w4 w.heap.size (.slice (some ⟨g9, 0, none⟩) (q.length + 1) cap9) (q ++ [(r : Int)]) := by
    have h := hown4
    unfold ZRow
    unfold zints at h ⊢
    rw [List.length_append, List.map_append]
    exact h
  have hBE : Below w.heap.size w w4 := (hb3.alloc hsz3 _).grown hgrow (by simp; omega) (fun k hk => (World.ownsRow.lt hr3 k hk).1)
  clear hown4 hgrow hat hlt4 hr3 hb3 hk3
  go_wp2_with fail
  go_ret
  exact ⟨_, rfl, hE, hBE⟩

set_option maxRecDepth 100000 in
set_option maxHeartbeats 4000000 in
theorem l13Grew_right (n h k cap g o r : Nat) (wh : Bool) (q : List Int) (w : World) (_h2 : 2 ≤ n) (_hn : n ≤ 40) (hc : n ≤ cap) (_hcm : cap ≤ 2 ^ 63 - 1) (hk : ¬ (k : Int) ≤ (h : Int)) (hkne : ¬ (k : Int) = (n : Int)) (hd : IntKind.i64.wrap ((k : Int) - (h : Int)) = (k : Int) - (h : Int)) (hs : (h : Int) < (n : Int)) (hq : q.length ≤ 40)
    (CS : Hid (Calls Try.prog 48 #[.int .i64 (n : Int)] w fun e w' => e = .returned (.int .i64 (h : Int)) ∧ w' = w))
    (CI : Hid (Calls Try.prog 73 #[.slice (some ⟨g, o + h, none⟩) (n - h) (cap - h), .int .i64 ((k : Int) - (h : Int)), .bool false] w.drew fun e w' => ∃ v, e = .returned v ∧ ZRow w' w.heap.size v q ∧ Below w.heap.size w w'))
    (CR : Hid (∀ W, Below w.heap.size w W → Calls Try.prog 55 #[.slice (some ⟨g, o, none⟩) h cap] W fun e w' => e = .returned (.int .i64 (r : Int)) ∧ Below w.heap.size w w' ∧ ∀ v (p : List Int), ZRow W w.heap.size v p → ZRow w' w.heap.size v p)) :
    Calls Try.prog 73 #[.slice (some ⟨g, o, none⟩) n cap, .int .i64 (k : Int), .bool wh] w fun e w' => ∃ v, e = .returned v ∧ ZRow w' w.heap.size v (q ++ [(r : Int)]) ∧ Below w.heap.size w w' := by
  have hkn2 : ¬ k = n := by omega
  have hkn3 : ¬ k ≤ h := by omega
  have hcne : ¬ cap = h := by omega
  have hk0 : (0 : Int) ≤ (h : Int) := by omega
  have hkn : (h : Int) ≤ (n : Int) := by omega
  have hkc : (h : Int) ≤ (cap : Int) := by omega
  obtain ⟨i0, hi, hz0, hz1, hz2⟩ := info_parts LgInfo
  go_enter Try.func73, Try.ntmps73
  go_wp2_with fail
  go_at_call 48
  refine CS.out.mono ?_
  rintro e w0 ⟨rfl, h0⟩
  have h0 := h0.symm
  subst h0
  go_wp2_with fail
  go_region_held3 (fun _ => True) (exact trivial)
    (first
      | (go_at_call 73; refine CI.out.mono ?_; rintro e w2 ⟨v2, rfl, hr2, hb2⟩; obtain ⟨a2, c2, rfl⟩ := hr2.slice)
      | (go_at_call 55; refine (CR.out _ hb2).mono ?_; rintro e w3 ⟨rfl, hb3, hk3⟩; have hr3 := hk3 _ _ hr2; have hsz3 : w.heap.size ≤ w3.heap.size := hb3.size)
      | (refine step_append_lies _ (by rfl) _ _ _ (by rfl) w.heap.size 3 i0 (.int .i64 0) 1 8 Try.underlying35 hi hz0 hz1 hz2 rfl (by decide) _ q.length _ (by rfl) (World.ownsRow.alloc (show w3.ownsRow w.heap.size 3 1 (.slice a2 q.length c2) q.length (zints q) from hr3) _) ⟨w3.heap.size, 0, none⟩ 1 1 [Value.int .i64 (r : Int)] (by rfl) rfl (World.news_of_block (heap_alloc_new w3 _)) (by intro u hu; simp at hu; subst hu; rfl) (by omega) (by unfold maxLen; omega) (by omega) (by simp; omega) (w3.heap.size + 1) (by simp) ?_; intro g9 cap9 w4 hown4 hgrow hat hlt4))
  have hE : ZRow w4 w.heap.size (.slice (some ⟨g9, 0, none⟩) (q.length + 1) cap9) (q ++ [(r : Int)]) := by
    have h := hown4
    unfold ZRow
    unfold zints at h ⊢
    rw [List.length_append, List.map_append]
    exact h
  have hBE : Below w.heap.size w w4 := (hb3.alloc hsz3 _).grown hgrow (by simp; omega) (fun k hk => (World.ownsRow.lt hr3 k hk).1)
  clear hown4 hgrow hat hlt4 hr3 hb3 hk3
  go_wp2_with fail
  go_ret
  exact ⟨_, rfl, hE, hBE⟩



theorem groF_le : ∀ (f : Nat) (l : List ByteArray) (m : Nat) (wh : Bool), (groF f l m wh).length ≤ f := by
  intro f
  induction f with
  | zero => intro l m wh; exact Nat.le_refl 0
  | succ f ih =>
    intro l m wh
    rw [groF]
    split
    · cases wh with
      | true => exact Nat.zero_le _
      | false => show 1 ≤ f + 1; omega
    · split
      · rw [List.length_append, List.length_singleton]; exact Nat.succ_le_succ (ih _ _ _)
      · rw [List.length_append, List.length_singleton]; exact Nat.succ_le_succ (ih _ _ _)

set_option maxRecDepth 100000 in
set_option maxHeartbeats 4000000 in
theorem l13Grew_any : ∀ (f : Nat) (l : List ByteArray) (k : Nat) (wh : Bool) (v : Value) (w : World), l.length ≤ f → f ≤ 41 → 1 ≤ k → k ≤ l.length → l.length ≤ 40 → (∀ i, i < l.length → (lq l i).size ≤ 20) → StAt w w.heap.size v l →
    Calls Try.prog 73 #[v, .int .i64 (k : Int), .bool wh] w fun e w' => ∃ u, e = .returned u ∧ ZRow w' w.heap.size u (zl (groF f l k wh)) ∧ Below w.heap.size w w' := by
  intro f
  induction f with
  | zero => intro l k wh v w hf _ h1 h2; omega
  | succ f ih =>
    intro l k wh v w hf hf41 h1 hk h40 h20 hv
    have hv0 := hv
    obtain ⟨ao, cap, rfl, hlc, hcm, hrow⟩ := hv
    unfold maxLen at hcm
    by_cases hone : k = l.length
    · cases wh with
      | true =>
        have HF : Hid (groF (f + 1) l k true = []) := by show _ = _; rw [groF, if_pos hone]; rfl
        rw [HF.out]
        have hE := zrow_nil w w.heap.size
        clear ih hv0 hrow
        subst hone
        go_enter Try.func73, Try.ntmps73
        go_wp2_with fail
        go_ret
        exact ⟨_, rfl, hE, Below.refl _ _⟩
      | false =>
        have HF : Hid (groF (f + 1) l k false = [root l]) := by show _ = _; rw [groF, if_pos hone]; rfl
        rw [HF.out]
        have CR : Hid (Calls Try.prog 55 #[.slice ao l.length cap] w fun e w' => e = .returned (.int .i64 ((root l : Nat) : Int)) ∧ ∃ m, w' = w.drewN m) := l13Root_any 41 l _ w (by omega) h40 h20 hv0
        generalize root l = N at CR
        have HE : Hid (∀ m, ZRow ((w.drewN m).alloc (.cells #[.int .i64 (N : Int)] 3)) w.heap.size (.slice (some ⟨w.heap.size, 0, none⟩) 1 1) (zl [N]) ∧ Below w.heap.size w ((w.drewN m).alloc (.cells #[.int .i64 (N : Int)] 3))) := fun m => by
          refine ⟨⟨by simp [zl, zints], .inr ⟨w.heap.size, 1, #[.int .i64 (N : Int)], rfl, Nat.le_refl _, heap_alloc_new (w.drewN m) _, Nat.le_refl _, by unfold maxLen; omega, rfl, rfl⟩⟩, ?_⟩
          exact (below_drewT (n := m) (Below.refl w.heap.size w)).alloc (Nat.le_refl _) _
        clear ih hv0 hrow
        subst hone
        go_enter Try.func73, Try.ntmps73
        go_wp2_with fail
        go_at_call 55
        refine CR.out.mono ?_
        rintro e w' ⟨rfl, m, rfl⟩
        go_wp2_with fail
        go_ret
        exact ⟨_, rfl, HE.out m⟩
    · obtain ⟨g, o, rfl, hg, c⟩ := hrow 0 (by omega)
      obtain ⟨s1, s2, s3⟩ := spl_pos (n := l.length) (by omega) h40
      have hT := StAt.take hv0 (k := spl l.length) (by omega)
      have hD := StAt.drop hv0 (k := spl l.length) (by omega) (some ⟨g, o + spl l.length, none⟩) (fun _ g' o' e => by
        simp only [Option.some.injEq, Addr.mk.injEq] at e
        obtain ⟨rfl, rfl, _⟩ := e
        rfl)
      have h20T : ∀ i, i < (l.take (spl l.length)).length → (lq (l.take (spl l.length)) i).size ≤ 20 := fun i hi => by
        rw [List.length_take] at hi
        have e : lq (l.take (spl l.length)) i = lq l i := by
          unfold lq
          rw [List.getD_eq_getElem?_getD, List.getD_eq_getElem?_getD, List.getElem?_take, if_pos (by omega)]
        rw [e]
        exact h20 i (by omega)
      have h20D : ∀ i, i < (l.drop (spl l.length)).length → (lq (l.drop (spl l.length)) i).size ≤ 20 := fun i hi => by
        rw [List.length_drop] at hi
        have e : lq (l.drop (spl l.length)) i = lq l (spl l.length + i) := by
          unfold lq
          rw [List.getD_eq_getElem?_getD, List.getD_eq_getElem?_getD, List.getElem?_drop]
        rw [e]
        exact h20 _ (by omega)
      have lT : (l.take (spl l.length)).length = spl l.length := by rw [List.length_take]; omega
      have lD : (l.drop (spl l.length)).length = l.length - spl l.length := by rw [List.length_drop]
      have toZ : ∀ {x y : World} {m : Nat}, y = x.drewN m → ∀ v (p : List Int), ZRow x w.heap.size v p → ZRow y w.heap.size v p := fun h v p hz => by
        rw [h]
        exact hz
      by_cases hkk : k ≤ spl l.length
      · have HF : groF (f + 1) l k wh = groF f (l.take (spl l.length)) k wh ++ [root (l.drop (spl l.length))] := by rw [groF, if_neg hone, if_pos hkk]
        have hz : zl (groF (f + 1) l k wh) = zl (groF f (l.take (spl l.length)) k wh) ++ [((root (l.drop (spl l.length)) : Nat) : Int)] := by rw [HF]; unfold zl; rw [List.map_append]; rfl
        rw [hz]
        refine l13Grew_left l.length (spl l.length) k cap g o _ wh _ w (by omega) h40 hlc hcm (by omega) (by omega) (by omega) (by rw [zl_len]; exact Nat.le_trans (groF_le f _ _ _) (by omega)) (l13Split_any _ w (by omega)) ?_ (fun W hW => ?_)
        · exact (ih _ k wh _ w.drew (by omega) (by omega) h1 (by omega) (by omega) h20T hT).mono fun e w' h => by
            obtain ⟨u, he, hz, hb⟩ := h
            exact ⟨u, he, hz, ⟨hb.os, hb.tape, hb.output, hb.size, hb.block⟩⟩
        · refine (l13Root_any 41 _ _ W (by omega) (by omega) h20D (hD.below hW)).mono ?_
          rintro e w' ⟨rfl, m, hw⟩
          exact ⟨rfl, by rw [hw]; exact lgBelow hW, toZ hw⟩
      · have HF : groF (f + 1) l k wh = groF f (l.drop (spl l.length)) (k - spl l.length) false ++ [root (l.take (spl l.length))] := by rw [groF, if_neg hone, if_neg hkk]
        have hz : zl (groF (f + 1) l k wh) = zl (groF f (l.drop (spl l.length)) (k - spl l.length) false) ++ [((root (l.take (spl l.length)) : Nat) : Int)] := by rw [HF]; unfold zl; rw [List.map_append]; rfl
        rw [hz]
        have hks : (k : Int) - ((spl l.length : Nat) : Int) = ((k - spl l.length : Nat) : Int) := by omega
        refine l13Grew_right l.length (spl l.length) k cap g o _ wh _ w (by omega) h40 hlc hcm (by omega) (by omega) (wrap_idG (by omega) (by omega)) (by omega) (by rw [zl_len]; exact Nat.le_trans (groF_le f _ _ _) (by omega)) (l13Split_any _ w (by omega)) ?_ (fun W hW => ?_)
        · rw [hks]
          exact (ih _ (k - spl l.length) false _ w.drew (by omega) (by omega) (by omega) (by omega) (by omega) h20D hD).mono fun e w' h => by
            obtain ⟨u, he, hz, hb⟩ := h
            exact ⟨u, he, hz, ⟨hb.os, hb.tape, hb.output, hb.size, hb.block⟩⟩
        · refine (l13Root_any 41 _ _ W (by omega) (by omega) h20T (hT.below hW)).mono ?_
          rintro e w' ⟨rfl, m, hw⟩
          exact ⟨rfl, by rw [hw]; exact lgBelow hW, toZ hw⟩

end Go.Proofs.Ytlglngmlaknmlaa
