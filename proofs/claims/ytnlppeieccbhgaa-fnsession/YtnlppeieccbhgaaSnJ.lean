/- The program's exchangeOf: a session under way. -/
import Derived.Test.YtnlppeieccbhgaaSnF
import Derived.Test.YtnlppeieccbhgaaSnR
import Derived.Deep.DeepCutAuto
namespace Go.Proofs.Ytnlppeieccbhgaa
open Go.RowKit Plain Tpc Ssn

def ExI (w : World) (s : Ses) (ai ah aw aa : Option Addr) (ci ch cw ca : Nat) (b N0 : Nat) (l : Array Bool) (a : Act) (W : World) : Prop :=
  l.size = 14 ∧ Below w.heap.size w W ∧ Sv W b (.int .i64 s.ep) (.slice ai s.items.length ci) (.int .i64 s.base) (.slice ah s.handed.length ch) (.slice aw s.way.length cw) (.slice aa s.acks.length ca) ∧ (N0 ≤ W.heap.size ∧ b < N0) ∧ ∃ u3 u4 u5 u6 u7 u8 u9 u10 u11 u12 u13 u14 u15 u16 : Value, a = ⟨#[.agg #[.int .i64 s.ep, .slice ai s.items.length ci, .int .i64 s.base, .slice ah s.handed.length ch, .slice aw s.way.length cw, .slice aa s.acks.length ca], .pointer (some ⟨b, 0, none⟩), .pointer none, u3, u4, u5, u6, u7, u8, u9, u10, u11, u12, u13, u14, u15, u16, undef, undef, undef, undef, undef, undef, undef, undef, undef, undef, undef, undef, undef, undef, undef, undef, undef, undef, undef, undef], []⟩ ∧
    (l.getD 0 false = true → u4 = .pointer (some ⟨b, 1, none⟩)) ∧
    (l.getD 1 false = true → u5 = .slice ai s.items.length ci) ∧
    (l.getD 2 false = true → ∃ a c, u6 = .slice a s.items.length c ∧ StRow W N0 u6 s.items) ∧
    (l.getD 3 false = true → u7 = .pointer (some ⟨b, 4, none⟩)) ∧
    (l.getD 4 false = true → u8 = .slice aw s.way.length cw) ∧
    (l.getD 5 false = true → ∃ a c, u9 = .slice a s.way.length c ∧ PkRow W N0 u9 s.way) ∧
    (l.getD 6 false = true → l.getD 5 false = true ∧ u10 = .agg #[u9]) ∧
    (l.getD 7 false = true → u11 = .pointer (some ⟨b, 5, none⟩)) ∧
    (l.getD 8 false = true → u12 = .slice aa s.acks.length ca) ∧
    (l.getD 9 false = true → ∃ a c, u13 = .slice a s.acks.length c ∧ AkRow W N0 u13 s.acks) ∧
    (l.getD 10 false = true → l.getD 9 false = true ∧ u14 = .agg #[u13]) ∧
    (l.getD 11 false = true → (l.getD 2 false = true ∧ l.getD 5 false = true ∧ l.getD 9 false = true) ∧ u15 = .agg #[.int .i64 0, .int .i64 0, .int .i64 0, u6, u9, u13]) ∧
    (l.getD 12 false = true → l.getD 11 false = true ∧ ∃ g, u16 = .pointer (some ⟨g, 0, none⟩) ∧ N0 ≤ g ∧ ¬ P4 u6 (.slice none 0 0) u9 u13 g ∧ Sv W g (.int .i64 0) (.int .i64 0) (.int .i64 0) u6 u9 u13) ∧
    (l.getD 13 false = true → l.getD 12 false = true ∧ u3 = u16)

theorem own_keptS2 {w w' : World} {B e size n : Nat} {v : Value} {xs : List Value} (h : w.ownsRow B e size v n xs) (hk : ∀ g, v.ownBlock = some g → w'.heap[g]? = w.heap[g]?) : w'.ownsRow B e size v n xs := by
  refine ⟨h.1, ?_⟩
  rcases h.2 with hn | ⟨g, cap, cur, hv, hB, hgg, rest⟩
  · exact .inl hn
  · exact .inr ⟨g, cap, cur, hv, hB, (hk g (by rw [hv]; rfl)).trans hgg, rest⟩

theorem SesRow.tch {w w' : World} {B : Nat} {s : Ses} {vi vh vw va : Value} {P P' : Nat → Prop} (h : SesRow w B s vi vh vw va) (t : Tch w w' P P') (hP : ∀ g, P4 vi vh vw va g → ¬ P g) : SesRow w' B s vi vh vw va :=
  ⟨own_keptS2 h.i fun g hg => t.block g (h.lt4 g (.inl hg)).2 (hP g (.inl hg)), own_keptS2 h.h fun g hg => t.block g (h.lt4 g (.inr (.inl hg))).2 (hP g (.inr (.inl hg))), own_keptS2 h.y fun g hg => t.block g (h.lt4 g (.inr (.inr (.inl hg)))).2 (hP g (.inr (.inr (.inl hg)))), own_keptS2 h.a fun g hg => t.block g (h.lt4 g (.inr (.inr (.inr hg)))).2 (hP g (.inr (.inr (.inr hg)))), h.ih, h.iw, h.ia, h.hw, h.ha, h.wa⟩

theorem raise0_any {g : Nat} {x1 x2 x3 x4 x5 : Value} {w : World} (V : Sv w g (.int .i64 0) x1 x2 x3 x4 x5) (n : Int) (hn : 0 ≤ n) : Calls Try.prog 98 #[.pointer (some ⟨g, 0, none⟩), .int .i64 n] w fun e w' => e = .returned (.tuple #[]) ∧ Sv w' g (.int .i64 n) x1 x2 x3 x4 x5 ∧ Tch w w' (fun j => j = g) (fun j => j = g) := by
  refine (raiseTo_any g 0 0 n w V.c0 V.f0).mono fun e w' h => ?_
  obtain ⟨he, hw⟩ := h
  by_cases h0 : 0 < n
  · rw [if_pos h0] at hw
    subst hw
    exact ⟨he, V.set0 _, ⟨rfl, rfl, rfl, by simp, fun j hj hp => Below.heap_setCell _ _ _ _ hp, fun _ h => .inl h⟩⟩
  · rw [if_neg h0] at hw
    subst hw
    have hn0 : n = 0 := by omega
    subst hn0
    exact ⟨he, V, Tch.refl _ _⟩

theorem raise1_any {g : Nat} {x0 x2 x3 x4 x5 : Value} {w : World} (V : Sv w g x0 (.int .i64 0) x2 x3 x4 x5) (n : Int) (hn : 0 ≤ n) : Calls Try.prog 98 #[.pointer (some ⟨g, 1, none⟩), .int .i64 n] w fun e w' => e = .returned (.tuple #[]) ∧ Sv w' g x0 (.int .i64 n) x2 x3 x4 x5 ∧ Tch w w' (fun j => j = g) (fun j => j = g) := by
  refine (raiseTo_any g 1 0 n w V.c1 V.f1).mono fun e w' h => ?_
  obtain ⟨he, hw⟩ := h
  by_cases h0 : 0 < n
  · rw [if_pos h0] at hw
    subst hw
    exact ⟨he, V.set1 _, ⟨rfl, rfl, rfl, by simp, fun j hj hp => Below.heap_setCell _ _ _ _ hp, fun _ h => .inl h⟩⟩
  · rw [if_neg h0] at hw
    subst hw
    have hn0 : n = 0 := by omega
    subst hn0
    exact ⟨he, V, Tch.refl _ _⟩

theorem raise2_any {g : Nat} {x0 x1 x3 x4 x5 : Value} {w : World} (V : Sv w g x0 x1 (.int .i64 0) x3 x4 x5) (n : Int) (hn : 0 ≤ n) : Calls Try.prog 98 #[.pointer (some ⟨g, 2, none⟩), .int .i64 n] w fun e w' => e = .returned (.tuple #[]) ∧ Sv w' g x0 x1 (.int .i64 n) x3 x4 x5 ∧ Tch w w' (fun j => j = g) (fun j => j = g) := by
  refine (raiseTo_any g 2 0 n w V.c2 V.f2).mono fun e w' h => ?_
  obtain ⟨he, hw⟩ := h
  by_cases h0 : 0 < n
  · rw [if_pos h0] at hw
    subst hw
    exact ⟨he, V.set2 _, ⟨rfl, rfl, rfl, by simp, fun j hj hp => Below.heap_setCell _ _ _ _ hp, fun _ h => .inl h⟩⟩
  · rw [if_neg h0] at hw
    subst hw
    have hn0 : n = 0 := by omega
    subst hn0
    exact ⟨he, V, Tch.refl _ _⟩

set_option maxRecDepth 100000 in
set_option maxHeartbeats 16000000 in
theorem exchangeOf_any (s : Ses) (vi vh vw va : Value) (w : World) (h : SesAt w w.heap.size s vi vh vw va) (hl : Sml s 1000) (hg : Gd s) :
    Calls Try.prog 73 #[s.val vi vh vw va] w fun r w' => ∃ e ui uw ua, r = .returned (.pointer (some ⟨e, 0, none⟩)) ∧ Ex w' e w.heap.size s ui uw ua ∧ Below w.heap.size w w' := by
  have HS : Hid (SesAt w w.heap.size s vi vh vw va) := h
  obtain ⟨ai, ci, ah, ch, aw, cw, aa, ca, rfl, rfl, rfl, rfl⟩ := h.form
  obtain ⟨l1, l2, l3, l4⟩ := hl
  have he0 := hg.e0
  have hb0 := hg.b0
  unfold Ses.val
  obtain ⟨W0, hW0⟩ : ∃ X, X = w.alloc (.cells #[.int .i64 s.ep, .slice ai s.items.length ci, .int .i64 s.base, .slice ah s.handed.length ch, .slice aw s.way.length cw, .slice aa s.acks.length ca] 26) := ⟨_, rfl⟩
  have hB0 : Below w.heap.size w W0 := by rw [hW0]; exact (Below.refl _ w).alloc (Nat.le_refl _) _
  have V1 : Sv W0 w.heap.size (.int .i64 s.ep) (.slice ai s.items.length ci) (.int .i64 s.base) (.slice ah s.handed.length ch) (.slice aw s.way.length cw) (.slice aa s.acks.length ca) := by rw [hW0]; exact Sv.fresh w _ _ _ _ _ _ _
  have hs0 : W0.heap.size = w.heap.size + 1 := by rw [hW0]; simp
  have hI0 : ExI w s ai ah aw aa ci ch cw ca w.heap.size (w.heap.size + 1) (Array.replicate 14 false) ⟨#[.agg #[.int .i64 s.ep, .slice ai s.items.length ci, .int .i64 s.base, .slice ah s.handed.length ch, .slice aw s.way.length cw, .slice aa s.acks.length ca], .pointer (some ⟨w.heap.size, 0, none⟩), .pointer none, undef, undef, undef, undef, undef, undef, undef, undef, undef, undef, undef, undef, undef, undef, undef, undef, undef, undef, undef, undef, undef, undef, undef, undef, undef, undef, undef, undef, undef, undef, undef, undef, undef, undef], []⟩ W0.drew := by
    refine ⟨by simp, hB0.drew, V1.kept rfl (Nat.le_refl _), ⟨by show _ ≤ W0.heap.size; omega, by omega⟩, _, _, _, _, _, _, _, _, _, _, _, _, _, _, rfl, ?_, ?_, ?_, ?_, ?_, ?_, ?_, ?_, ?_, ?_, ?_, ?_, ?_, ?_⟩
    all_goals
      intro h
      exact absurd h (by decide)
  have HI0 : Hid (type_of% hI0) := hI0
  clear hI0 hs0 V1 hB0 hg
  go_enter Try.func73, Try.ntmps73
  go_upto_region 1 with fail
  rw [← hW0]
  clear hW0
  refine wp_region_held_drew (S := fun _ => True) (by kernel_rfl) trivial (fun _ => ?_)
  refine wpAnyH_inv (ExI w s ai ah aw aa ci ch cw ca w.heap.size (w.heap.size + 1)) ?step ?fin _ _ _ _ HI0.out (by decide)
  case fin =>
    intro l a W hI h0
    obtain ⟨hls, hB, hV, hN, u3, u4, u5, u6, u7, u8, u9, u10, u11, u12, u13, u14, u15, u16, rfl, c0, c1, c2, c3, c4, c5, c6, c7, c8, c9, c10, c11, c12, c13⟩ := hI
    have b0 : l.getD 0 false = true := listed_of h0 0 _ (by omega) rfl (by intro e he; first | (simp at he; done) | skip; simp at he; first | (rcases he with rfl | rfl | rfl | rfl | rfl | rfl | rfl | rfl | rfl | rfl | rfl | rfl | rfl | rfl | rfl | rfl | rfl | rfl | rfl | rfl <;> assumption) | (rcases he with rfl | rfl | rfl | rfl | rfl | rfl | rfl | rfl | rfl | rfl | rfl | rfl | rfl | rfl | rfl | rfl | rfl | rfl | rfl <;> assumption) | (rcases he with rfl | rfl | rfl | rfl | rfl | rfl | rfl | rfl | rfl | rfl | rfl | rfl | rfl | rfl | rfl | rfl | rfl | rfl <;> assumption) | (rcases he with rfl | rfl | rfl | rfl | rfl | rfl | rfl | rfl | rfl | rfl | rfl | rfl | rfl | rfl | rfl | rfl | rfl <;> assumption) | (rcases he with rfl | rfl | rfl | rfl | rfl | rfl | rfl | rfl | rfl | rfl | rfl | rfl | rfl | rfl | rfl | rfl <;> assumption) | (rcases he with rfl | rfl | rfl | rfl | rfl | rfl | rfl | rfl | rfl | rfl | rfl | rfl | rfl | rfl | rfl <;> assumption) | (rcases he with rfl | rfl | rfl | rfl | rfl | rfl | rfl | rfl | rfl | rfl | rfl | rfl | rfl | rfl <;> assumption) | (rcases he with rfl | rfl | rfl | rfl | rfl | rfl | rfl | rfl | rfl | rfl | rfl | rfl | rfl <;> assumption) | (rcases he with rfl | rfl | rfl | rfl | rfl | rfl | rfl | rfl | rfl | rfl | rfl | rfl <;> assumption) | (rcases he with rfl | rfl | rfl | rfl | rfl | rfl | rfl | rfl | rfl | rfl | rfl <;> assumption) | (rcases he with rfl | rfl | rfl | rfl | rfl | rfl | rfl | rfl | rfl | rfl <;> assumption) | (rcases he with rfl | rfl | rfl | rfl | rfl | rfl | rfl | rfl | rfl <;> assumption) | (rcases he with rfl | rfl | rfl | rfl | rfl | rfl | rfl | rfl <;> assumption) | (rcases he with rfl | rfl | rfl | rfl | rfl | rfl | rfl <;> assumption) | (rcases he with rfl | rfl | rfl | rfl | rfl | rfl <;> assumption) | (rcases he with rfl | rfl | rfl | rfl | rfl <;> assumption) | (rcases he with rfl | rfl | rfl | rfl <;> assumption) | (rcases he with rfl | rfl | rfl <;> assumption) | (rcases he with rfl | rfl <;> assumption) | (subst he; assumption))
    have b1 : l.getD 1 false = true := listed_of h0 1 _ (by omega) rfl (by intro e he; first | (simp at he; done) | skip; simp at he; first | (rcases he with rfl | rfl | rfl | rfl | rfl | rfl | rfl | rfl | rfl | rfl | rfl | rfl | rfl | rfl | rfl | rfl | rfl | rfl | rfl | rfl <;> assumption) | (rcases he with rfl | rfl | rfl | rfl | rfl | rfl | rfl | rfl | rfl | rfl | rfl | rfl | rfl | rfl | rfl | rfl | rfl | rfl | rfl <;> assumption) | (rcases he with rfl | rfl | rfl | rfl | rfl | rfl | rfl | rfl | rfl | rfl | rfl | rfl | rfl | rfl | rfl | rfl | rfl | rfl <;> assumption) | (rcases he with rfl | rfl | rfl | rfl | rfl | rfl | rfl | rfl | rfl | rfl | rfl | rfl | rfl | rfl | rfl | rfl | rfl <;> assumption) | (rcases he with rfl | rfl | rfl | rfl | rfl | rfl | rfl | rfl | rfl | rfl | rfl | rfl | rfl | rfl | rfl | rfl <;> assumption) | (rcases he with rfl | rfl | rfl | rfl | rfl | rfl | rfl | rfl | rfl | rfl | rfl | rfl | rfl | rfl | rfl <;> assumption) | (rcases he with rfl | rfl | rfl | rfl | rfl | rfl | rfl | rfl | rfl | rfl | rfl | rfl | rfl | rfl <;> assumption) | (rcases he with rfl | rfl | rfl | rfl | rfl | rfl | rfl | rfl | rfl | rfl | rfl | rfl | rfl <;> assumption) | (rcases he with rfl | rfl | rfl | rfl | rfl | rfl | rfl | rfl | rfl | rfl | rfl | rfl <;> assumption) | (rcases he with rfl | rfl | rfl | rfl | rfl | rfl | rfl | rfl | rfl | rfl | rfl <;> assumption) | (rcases he with rfl | rfl | rfl | rfl | rfl | rfl | rfl | rfl | rfl | rfl <;> assumption) | (rcases he with rfl | rfl | rfl | rfl | rfl | rfl | rfl | rfl | rfl <;> assumption) | (rcases he with rfl | rfl | rfl | rfl | rfl | rfl | rfl | rfl <;> assumption) | (rcases he with rfl | rfl | rfl | rfl | rfl | rfl | rfl <;> assumption) | (rcases he with rfl | rfl | rfl | rfl | rfl | rfl <;> assumption) | (rcases he with rfl | rfl | rfl | rfl | rfl <;> assumption) | (rcases he with rfl | rfl | rfl | rfl <;> assumption) | (rcases he with rfl | rfl | rfl <;> assumption) | (rcases he with rfl | rfl <;> assumption) | (subst he; assumption))
    have b2 : l.getD 2 false = true := listed_of h0 2 _ (by omega) rfl (by intro e he; first | (simp at he; done) | skip; simp at he; first | (rcases he with rfl | rfl | rfl | rfl | rfl | rfl | rfl | rfl | rfl | rfl | rfl | rfl | rfl | rfl | rfl | rfl | rfl | rfl | rfl | rfl <;> assumption) | (rcases he with rfl | rfl | rfl | rfl | rfl | rfl | rfl | rfl | rfl | rfl | rfl | rfl | rfl | rfl | rfl | rfl | rfl | rfl | rfl <;> assumption) | (rcases he with rfl | rfl | rfl | rfl | rfl | rfl | rfl | rfl | rfl | rfl | rfl | rfl | rfl | rfl | rfl | rfl | rfl | rfl <;> assumption) | (rcases he with rfl | rfl | rfl | rfl | rfl | rfl | rfl | rfl | rfl | rfl | rfl | rfl | rfl | rfl | rfl | rfl | rfl <;> assumption) | (rcases he with rfl | rfl | rfl | rfl | rfl | rfl | rfl | rfl | rfl | rfl | rfl | rfl | rfl | rfl | rfl | rfl <;> assumption) | (rcases he with rfl | rfl | rfl | rfl | rfl | rfl | rfl | rfl | rfl | rfl | rfl | rfl | rfl | rfl | rfl <;> assumption) | (rcases he with rfl | rfl | rfl | rfl | rfl | rfl | rfl | rfl | rfl | rfl | rfl | rfl | rfl | rfl <;> assumption) | (rcases he with rfl | rfl | rfl | rfl | rfl | rfl | rfl | rfl | rfl | rfl | rfl | rfl | rfl <;> assumption) | (rcases he with rfl | rfl | rfl | rfl | rfl | rfl | rfl | rfl | rfl | rfl | rfl | rfl <;> assumption) | (rcases he with rfl | rfl | rfl | rfl | rfl | rfl | rfl | rfl | rfl | rfl | rfl <;> assumption) | (rcases he with rfl | rfl | rfl | rfl | rfl | rfl | rfl | rfl | rfl | rfl <;> assumption) | (rcases he with rfl | rfl | rfl | rfl | rfl | rfl | rfl | rfl | rfl <;> assumption) | (rcases he with rfl | rfl | rfl | rfl | rfl | rfl | rfl | rfl <;> assumption) | (rcases he with rfl | rfl | rfl | rfl | rfl | rfl | rfl <;> assumption) | (rcases he with rfl | rfl | rfl | rfl | rfl | rfl <;> assumption) | (rcases he with rfl | rfl | rfl | rfl | rfl <;> assumption) | (rcases he with rfl | rfl | rfl | rfl <;> assumption) | (rcases he with rfl | rfl | rfl <;> assumption) | (rcases he with rfl | rfl <;> assumption) | (subst he; assumption))
    have b3 : l.getD 3 false = true := listed_of h0 3 _ (by omega) rfl (by intro e he; first | (simp at he; done) | skip; simp at he; first | (rcases he with rfl | rfl | rfl | rfl | rfl | rfl | rfl | rfl | rfl | rfl | rfl | rfl | rfl | rfl | rfl | rfl | rfl | rfl | rfl | rfl <;> assumption) | (rcases he with rfl | rfl | rfl | rfl | rfl | rfl | rfl | rfl | rfl | rfl | rfl | rfl | rfl | rfl | rfl | rfl | rfl | rfl | rfl <;> assumption) | (rcases he with rfl | rfl | rfl | rfl | rfl | rfl | rfl | rfl | rfl | rfl | rfl | rfl | rfl | rfl | rfl | rfl | rfl | rfl <;> assumption) | (rcases he with rfl | rfl | rfl | rfl | rfl | rfl | rfl | rfl | rfl | rfl | rfl | rfl | rfl | rfl | rfl | rfl | rfl <;> assumption) | (rcases he with rfl | rfl | rfl | rfl | rfl | rfl | rfl | rfl | rfl | rfl | rfl | rfl | rfl | rfl | rfl | rfl <;> assumption) | (rcases he with rfl | rfl | rfl | rfl | rfl | rfl | rfl | rfl | rfl | rfl | rfl | rfl | rfl | rfl | rfl <;> assumption) | (rcases he with rfl | rfl | rfl | rfl | rfl | rfl | rfl | rfl | rfl | rfl | rfl | rfl | rfl | rfl <;> assumption) | (rcases he with rfl | rfl | rfl | rfl | rfl | rfl | rfl | rfl | rfl | rfl | rfl | rfl | rfl <;> assumption) | (rcases he with rfl | rfl | rfl | rfl | rfl | rfl | rfl | rfl | rfl | rfl | rfl | rfl <;> assumption) | (rcases he with rfl | rfl | rfl | rfl | rfl | rfl | rfl | rfl | rfl | rfl | rfl <;> assumption) | (rcases he with rfl | rfl | rfl | rfl | rfl | rfl | rfl | rfl | rfl | rfl <;> assumption) | (rcases he with rfl | rfl | rfl | rfl | rfl | rfl | rfl | rfl | rfl <;> assumption) | (rcases he with rfl | rfl | rfl | rfl | rfl | rfl | rfl | rfl <;> assumption) | (rcases he with rfl | rfl | rfl | rfl | rfl | rfl | rfl <;> assumption) | (rcases he with rfl | rfl | rfl | rfl | rfl | rfl <;> assumption) | (rcases he with rfl | rfl | rfl | rfl | rfl <;> assumption) | (rcases he with rfl | rfl | rfl | rfl <;> assumption) | (rcases he with rfl | rfl | rfl <;> assumption) | (rcases he with rfl | rfl <;> assumption) | (subst he; assumption))
    have b4 : l.getD 4 false = true := listed_of h0 4 _ (by omega) rfl (by intro e he; first | (simp at he; done) | skip; simp at he; first | (rcases he with rfl | rfl | rfl | rfl | rfl | rfl | rfl | rfl | rfl | rfl | rfl | rfl | rfl | rfl | rfl | rfl | rfl | rfl | rfl | rfl <;> assumption) | (rcases he with rfl | rfl | rfl | rfl | rfl | rfl | rfl | rfl | rfl | rfl | rfl | rfl | rfl | rfl | rfl | rfl | rfl | rfl | rfl <;> assumption) | (rcases he with rfl | rfl | rfl | rfl | rfl | rfl | rfl | rfl | rfl | rfl | rfl | rfl | rfl | rfl | rfl | rfl | rfl | rfl <;> assumption) | (rcases he with rfl | rfl | rfl | rfl | rfl | rfl | rfl | rfl | rfl | rfl | rfl | rfl | rfl | rfl | rfl | rfl | rfl <;> assumption) | (rcases he with rfl | rfl | rfl | rfl | rfl | rfl | rfl | rfl | rfl | rfl | rfl | rfl | rfl | rfl | rfl | rfl <;> assumption) | (rcases he with rfl | rfl | rfl | rfl | rfl | rfl | rfl | rfl | rfl | rfl | rfl | rfl | rfl | rfl | rfl <;> assumption) | (rcases he with rfl | rfl | rfl | rfl | rfl | rfl | rfl | rfl | rfl | rfl | rfl | rfl | rfl | rfl <;> assumption) | (rcases he with rfl | rfl | rfl | rfl | rfl | rfl | rfl | rfl | rfl | rfl | rfl | rfl | rfl <;> assumption) | (rcases he with rfl | rfl | rfl | rfl | rfl | rfl | rfl | rfl | rfl | rfl | rfl | rfl <;> assumption) | (rcases he with rfl | rfl | rfl | rfl | rfl | rfl | rfl | rfl | rfl | rfl | rfl <;> assumption) | (rcases he with rfl | rfl | rfl | rfl | rfl | rfl | rfl | rfl | rfl | rfl <;> assumption) | (rcases he with rfl | rfl | rfl | rfl | rfl | rfl | rfl | rfl | rfl <;> assumption) | (rcases he with rfl | rfl | rfl | rfl | rfl | rfl | rfl | rfl <;> assumption) | (rcases he with rfl | rfl | rfl | rfl | rfl | rfl | rfl <;> assumption) | (rcases he with rfl | rfl | rfl | rfl | rfl | rfl <;> assumption) | (rcases he with rfl | rfl | rfl | rfl | rfl <;> assumption) | (rcases he with rfl | rfl | rfl | rfl <;> assumption) | (rcases he with rfl | rfl | rfl <;> assumption) | (rcases he with rfl | rfl <;> assumption) | (subst he; assumption))
    have b5 : l.getD 5 false = true := listed_of h0 5 _ (by omega) rfl (by intro e he; first | (simp at he; done) | skip; simp at he; first | (rcases he with rfl | rfl | rfl | rfl | rfl | rfl | rfl | rfl | rfl | rfl | rfl | rfl | rfl | rfl | rfl | rfl | rfl | rfl | rfl | rfl <;> assumption) | (rcases he with rfl | rfl | rfl | rfl | rfl | rfl | rfl | rfl | rfl | rfl | rfl | rfl | rfl | rfl | rfl | rfl | rfl | rfl | rfl <;> assumption) | (rcases he with rfl | rfl | rfl | rfl | rfl | rfl | rfl | rfl | rfl | rfl | rfl | rfl | rfl | rfl | rfl | rfl | rfl | rfl <;> assumption) | (rcases he with rfl | rfl | rfl | rfl | rfl | rfl | rfl | rfl | rfl | rfl | rfl | rfl | rfl | rfl | rfl | rfl | rfl <;> assumption) | (rcases he with rfl | rfl | rfl | rfl | rfl | rfl | rfl | rfl | rfl | rfl | rfl | rfl | rfl | rfl | rfl | rfl <;> assumption) | (rcases he with rfl | rfl | rfl | rfl | rfl | rfl | rfl | rfl | rfl | rfl | rfl | rfl | rfl | rfl | rfl <;> assumption) | (rcases he with rfl | rfl | rfl | rfl | rfl | rfl | rfl | rfl | rfl | rfl | rfl | rfl | rfl | rfl <;> assumption) | (rcases he with rfl | rfl | rfl | rfl | rfl | rfl | rfl | rfl | rfl | rfl | rfl | rfl | rfl <;> assumption) | (rcases he with rfl | rfl | rfl | rfl | rfl | rfl | rfl | rfl | rfl | rfl | rfl | rfl <;> assumption) | (rcases he with rfl | rfl | rfl | rfl | rfl | rfl | rfl | rfl | rfl | rfl | rfl <;> assumption) | (rcases he with rfl | rfl | rfl | rfl | rfl | rfl | rfl | rfl | rfl | rfl <;> assumption) | (rcases he with rfl | rfl | rfl | rfl | rfl | rfl | rfl | rfl | rfl <;> assumption) | (rcases he with rfl | rfl | rfl | rfl | rfl | rfl | rfl | rfl <;> assumption) | (rcases he with rfl | rfl | rfl | rfl | rfl | rfl | rfl <;> assumption) | (rcases he with rfl | rfl | rfl | rfl | rfl | rfl <;> assumption) | (rcases he with rfl | rfl | rfl | rfl | rfl <;> assumption) | (rcases he with rfl | rfl | rfl | rfl <;> assumption) | (rcases he with rfl | rfl | rfl <;> assumption) | (rcases he with rfl | rfl <;> assumption) | (subst he; assumption))
    have b6 : l.getD 6 false = true := listed_of h0 6 _ (by omega) rfl (by intro e he; first | (simp at he; done) | skip; simp at he; first | (rcases he with rfl | rfl | rfl | rfl | rfl | rfl | rfl | rfl | rfl | rfl | rfl | rfl | rfl | rfl | rfl | rfl | rfl | rfl | rfl | rfl <;> assumption) | (rcases he with rfl | rfl | rfl | rfl | rfl | rfl | rfl | rfl | rfl | rfl | rfl | rfl | rfl | rfl | rfl | rfl | rfl | rfl | rfl <;> assumption) | (rcases he with rfl | rfl | rfl | rfl | rfl | rfl | rfl | rfl | rfl | rfl | rfl | rfl | rfl | rfl | rfl | rfl | rfl | rfl <;> assumption) | (rcases he with rfl | rfl | rfl | rfl | rfl | rfl | rfl | rfl | rfl | rfl | rfl | rfl | rfl | rfl | rfl | rfl | rfl <;> assumption) | (rcases he with rfl | rfl | rfl | rfl | rfl | rfl | rfl | rfl | rfl | rfl | rfl | rfl | rfl | rfl | rfl | rfl <;> assumption) | (rcases he with rfl | rfl | rfl | rfl | rfl | rfl | rfl | rfl | rfl | rfl | rfl | rfl | rfl | rfl | rfl <;> assumption) | (rcases he with rfl | rfl | rfl | rfl | rfl | rfl | rfl | rfl | rfl | rfl | rfl | rfl | rfl | rfl <;> assumption) | (rcases he with rfl | rfl | rfl | rfl | rfl | rfl | rfl | rfl | rfl | rfl | rfl | rfl | rfl <;> assumption) | (rcases he with rfl | rfl | rfl | rfl | rfl | rfl | rfl | rfl | rfl | rfl | rfl | rfl <;> assumption) | (rcases he with rfl | rfl | rfl | rfl | rfl | rfl | rfl | rfl | rfl | rfl | rfl <;> assumption) | (rcases he with rfl | rfl | rfl | rfl | rfl | rfl | rfl | rfl | rfl | rfl <;> assumption) | (rcases he with rfl | rfl | rfl | rfl | rfl | rfl | rfl | rfl | rfl <;> assumption) | (rcases he with rfl | rfl | rfl | rfl | rfl | rfl | rfl | rfl <;> assumption) | (rcases he with rfl | rfl | rfl | rfl | rfl | rfl | rfl <;> assumption) | (rcases he with rfl | rfl | rfl | rfl | rfl | rfl <;> assumption) | (rcases he with rfl | rfl | rfl | rfl | rfl <;> assumption) | (rcases he with rfl | rfl | rfl | rfl <;> assumption) | (rcases he with rfl | rfl | rfl <;> assumption) | (rcases he with rfl | rfl <;> assumption) | (subst he; assumption))
    have b7 : l.getD 7 false = true := listed_of h0 7 _ (by omega) rfl (by intro e he; first | (simp at he; done) | skip; simp at he; first | (rcases he with rfl | rfl | rfl | rfl | rfl | rfl | rfl | rfl | rfl | rfl | rfl | rfl | rfl | rfl | rfl | rfl | rfl | rfl | rfl | rfl <;> assumption) | (rcases he with rfl | rfl | rfl | rfl | rfl | rfl | rfl | rfl | rfl | rfl | rfl | rfl | rfl | rfl | rfl | rfl | rfl | rfl | rfl <;> assumption) | (rcases he with rfl | rfl | rfl | rfl | rfl | rfl | rfl | rfl | rfl | rfl | rfl | rfl | rfl | rfl | rfl | rfl | rfl | rfl <;> assumption) | (rcases he with rfl | rfl | rfl | rfl | rfl | rfl | rfl | rfl | rfl | rfl | rfl | rfl | rfl | rfl | rfl | rfl | rfl <;> assumption) | (rcases he with rfl | rfl | rfl | rfl | rfl | rfl | rfl | rfl | rfl | rfl | rfl | rfl | rfl | rfl | rfl | rfl <;> assumption) | (rcases he with rfl | rfl | rfl | rfl | rfl | rfl | rfl | rfl | rfl | rfl | rfl | rfl | rfl | rfl | rfl <;> assumption) | (rcases he with rfl | rfl | rfl | rfl | rfl | rfl | rfl | rfl | rfl | rfl | rfl | rfl | rfl | rfl <;> assumption) | (rcases he with rfl | rfl | rfl | rfl | rfl | rfl | rfl | rfl | rfl | rfl | rfl | rfl | rfl <;> assumption) | (rcases he with rfl | rfl | rfl | rfl | rfl | rfl | rfl | rfl | rfl | rfl | rfl | rfl <;> assumption) | (rcases he with rfl | rfl | rfl | rfl | rfl | rfl | rfl | rfl | rfl | rfl | rfl <;> assumption) | (rcases he with rfl | rfl | rfl | rfl | rfl | rfl | rfl | rfl | rfl | rfl <;> assumption) | (rcases he with rfl | rfl | rfl | rfl | rfl | rfl | rfl | rfl | rfl <;> assumption) | (rcases he with rfl | rfl | rfl | rfl | rfl | rfl | rfl | rfl <;> assumption) | (rcases he with rfl | rfl | rfl | rfl | rfl | rfl | rfl <;> assumption) | (rcases he with rfl | rfl | rfl | rfl | rfl | rfl <;> assumption) | (rcases he with rfl | rfl | rfl | rfl | rfl <;> assumption) | (rcases he with rfl | rfl | rfl | rfl <;> assumption) | (rcases he with rfl | rfl | rfl <;> assumption) | (rcases he with rfl | rfl <;> assumption) | (subst he; assumption))
    have b8 : l.getD 8 false = true := listed_of h0 8 _ (by omega) rfl (by intro e he; first | (simp at he; done) | skip; simp at he; first | (rcases he with rfl | rfl | rfl | rfl | rfl | rfl | rfl | rfl | rfl | rfl | rfl | rfl | rfl | rfl | rfl | rfl | rfl | rfl | rfl | rfl <;> assumption) | (rcases he with rfl | rfl | rfl | rfl | rfl | rfl | rfl | rfl | rfl | rfl | rfl | rfl | rfl | rfl | rfl | rfl | rfl | rfl | rfl <;> assumption) | (rcases he with rfl | rfl | rfl | rfl | rfl | rfl | rfl | rfl | rfl | rfl | rfl | rfl | rfl | rfl | rfl | rfl | rfl | rfl <;> assumption) | (rcases he with rfl | rfl | rfl | rfl | rfl | rfl | rfl | rfl | rfl | rfl | rfl | rfl | rfl | rfl | rfl | rfl | rfl <;> assumption) | (rcases he with rfl | rfl | rfl | rfl | rfl | rfl | rfl | rfl | rfl | rfl | rfl | rfl | rfl | rfl | rfl | rfl <;> assumption) | (rcases he with rfl | rfl | rfl | rfl | rfl | rfl | rfl | rfl | rfl | rfl | rfl | rfl | rfl | rfl | rfl <;> assumption) | (rcases he with rfl | rfl | rfl | rfl | rfl | rfl | rfl | rfl | rfl | rfl | rfl | rfl | rfl | rfl <;> assumption) | (rcases he with rfl | rfl | rfl | rfl | rfl | rfl | rfl | rfl | rfl | rfl | rfl | rfl | rfl <;> assumption) | (rcases he with rfl | rfl | rfl | rfl | rfl | rfl | rfl | rfl | rfl | rfl | rfl | rfl <;> assumption) | (rcases he with rfl | rfl | rfl | rfl | rfl | rfl | rfl | rfl | rfl | rfl | rfl <;> assumption) | (rcases he with rfl | rfl | rfl | rfl | rfl | rfl | rfl | rfl | rfl | rfl <;> assumption) | (rcases he with rfl | rfl | rfl | rfl | rfl | rfl | rfl | rfl | rfl <;> assumption) | (rcases he with rfl | rfl | rfl | rfl | rfl | rfl | rfl | rfl <;> assumption) | (rcases he with rfl | rfl | rfl | rfl | rfl | rfl | rfl <;> assumption) | (rcases he with rfl | rfl | rfl | rfl | rfl | rfl <;> assumption) | (rcases he with rfl | rfl | rfl | rfl | rfl <;> assumption) | (rcases he with rfl | rfl | rfl | rfl <;> assumption) | (rcases he with rfl | rfl | rfl <;> assumption) | (rcases he with rfl | rfl <;> assumption) | (subst he; assumption))
    have b9 : l.getD 9 false = true := listed_of h0 9 _ (by omega) rfl (by intro e he; first | (simp at he; done) | skip; simp at he; first | (rcases he with rfl | rfl | rfl | rfl | rfl | rfl | rfl | rfl | rfl | rfl | rfl | rfl | rfl | rfl | rfl | rfl | rfl | rfl | rfl | rfl <;> assumption) | (rcases he with rfl | rfl | rfl | rfl | rfl | rfl | rfl | rfl | rfl | rfl | rfl | rfl | rfl | rfl | rfl | rfl | rfl | rfl | rfl <;> assumption) | (rcases he with rfl | rfl | rfl | rfl | rfl | rfl | rfl | rfl | rfl | rfl | rfl | rfl | rfl | rfl | rfl | rfl | rfl | rfl <;> assumption) | (rcases he with rfl | rfl | rfl | rfl | rfl | rfl | rfl | rfl | rfl | rfl | rfl | rfl | rfl | rfl | rfl | rfl | rfl <;> assumption) | (rcases he with rfl | rfl | rfl | rfl | rfl | rfl | rfl | rfl | rfl | rfl | rfl | rfl | rfl | rfl | rfl | rfl <;> assumption) | (rcases he with rfl | rfl | rfl | rfl | rfl | rfl | rfl | rfl | rfl | rfl | rfl | rfl | rfl | rfl | rfl <;> assumption) | (rcases he with rfl | rfl | rfl | rfl | rfl | rfl | rfl | rfl | rfl | rfl | rfl | rfl | rfl | rfl <;> assumption) | (rcases he with rfl | rfl | rfl | rfl | rfl | rfl | rfl | rfl | rfl | rfl | rfl | rfl | rfl <;> assumption) | (rcases he with rfl | rfl | rfl | rfl | rfl | rfl | rfl | rfl | rfl | rfl | rfl | rfl <;> assumption) | (rcases he with rfl | rfl | rfl | rfl | rfl | rfl | rfl | rfl | rfl | rfl | rfl <;> assumption) | (rcases he with rfl | rfl | rfl | rfl | rfl | rfl | rfl | rfl | rfl | rfl <;> assumption) | (rcases he with rfl | rfl | rfl | rfl | rfl | rfl | rfl | rfl | rfl <;> assumption) | (rcases he with rfl | rfl | rfl | rfl | rfl | rfl | rfl | rfl <;> assumption) | (rcases he with rfl | rfl | rfl | rfl | rfl | rfl | rfl <;> assumption) | (rcases he with rfl | rfl | rfl | rfl | rfl | rfl <;> assumption) | (rcases he with rfl | rfl | rfl | rfl | rfl <;> assumption) | (rcases he with rfl | rfl | rfl | rfl <;> assumption) | (rcases he with rfl | rfl | rfl <;> assumption) | (rcases he with rfl | rfl <;> assumption) | (subst he; assumption))
    have b10 : l.getD 10 false = true := listed_of h0 10 _ (by omega) rfl (by intro e he; first | (simp at he; done) | skip; simp at he; first | (rcases he with rfl | rfl | rfl | rfl | rfl | rfl | rfl | rfl | rfl | rfl | rfl | rfl | rfl | rfl | rfl | rfl | rfl | rfl | rfl | rfl <;> assumption) | (rcases he with rfl | rfl | rfl | rfl | rfl | rfl | rfl | rfl | rfl | rfl | rfl | rfl | rfl | rfl | rfl | rfl | rfl | rfl | rfl <;> assumption) | (rcases he with rfl | rfl | rfl | rfl | rfl | rfl | rfl | rfl | rfl | rfl | rfl | rfl | rfl | rfl | rfl | rfl | rfl | rfl <;> assumption) | (rcases he with rfl | rfl | rfl | rfl | rfl | rfl | rfl | rfl | rfl | rfl | rfl | rfl | rfl | rfl | rfl | rfl | rfl <;> assumption) | (rcases he with rfl | rfl | rfl | rfl | rfl | rfl | rfl | rfl | rfl | rfl | rfl | rfl | rfl | rfl | rfl | rfl <;> assumption) | (rcases he with rfl | rfl | rfl | rfl | rfl | rfl | rfl | rfl | rfl | rfl | rfl | rfl | rfl | rfl | rfl <;> assumption) | (rcases he with rfl | rfl | rfl | rfl | rfl | rfl | rfl | rfl | rfl | rfl | rfl | rfl | rfl | rfl <;> assumption) | (rcases he with rfl | rfl | rfl | rfl | rfl | rfl | rfl | rfl | rfl | rfl | rfl | rfl | rfl <;> assumption) | (rcases he with rfl | rfl | rfl | rfl | rfl | rfl | rfl | rfl | rfl | rfl | rfl | rfl <;> assumption) | (rcases he with rfl | rfl | rfl | rfl | rfl | rfl | rfl | rfl | rfl | rfl | rfl <;> assumption) | (rcases he with rfl | rfl | rfl | rfl | rfl | rfl | rfl | rfl | rfl | rfl <;> assumption) | (rcases he with rfl | rfl | rfl | rfl | rfl | rfl | rfl | rfl | rfl <;> assumption) | (rcases he with rfl | rfl | rfl | rfl | rfl | rfl | rfl | rfl <;> assumption) | (rcases he with rfl | rfl | rfl | rfl | rfl | rfl | rfl <;> assumption) | (rcases he with rfl | rfl | rfl | rfl | rfl | rfl <;> assumption) | (rcases he with rfl | rfl | rfl | rfl | rfl <;> assumption) | (rcases he with rfl | rfl | rfl | rfl <;> assumption) | (rcases he with rfl | rfl | rfl <;> assumption) | (rcases he with rfl | rfl <;> assumption) | (subst he; assumption))
    have b11 : l.getD 11 false = true := listed_of h0 11 _ (by omega) rfl (by intro e he; first | (simp at he; done) | skip; simp at he; first | (rcases he with rfl | rfl | rfl | rfl | rfl | rfl | rfl | rfl | rfl | rfl | rfl | rfl | rfl | rfl | rfl | rfl | rfl | rfl | rfl | rfl <;> assumption) | (rcases he with rfl | rfl | rfl | rfl | rfl | rfl | rfl | rfl | rfl | rfl | rfl | rfl | rfl | rfl | rfl | rfl | rfl | rfl | rfl <;> assumption) | (rcases he with rfl | rfl | rfl | rfl | rfl | rfl | rfl | rfl | rfl | rfl | rfl | rfl | rfl | rfl | rfl | rfl | rfl | rfl <;> assumption) | (rcases he with rfl | rfl | rfl | rfl | rfl | rfl | rfl | rfl | rfl | rfl | rfl | rfl | rfl | rfl | rfl | rfl | rfl <;> assumption) | (rcases he with rfl | rfl | rfl | rfl | rfl | rfl | rfl | rfl | rfl | rfl | rfl | rfl | rfl | rfl | rfl | rfl <;> assumption) | (rcases he with rfl | rfl | rfl | rfl | rfl | rfl | rfl | rfl | rfl | rfl | rfl | rfl | rfl | rfl | rfl <;> assumption) | (rcases he with rfl | rfl | rfl | rfl | rfl | rfl | rfl | rfl | rfl | rfl | rfl | rfl | rfl | rfl <;> assumption) | (rcases he with rfl | rfl | rfl | rfl | rfl | rfl | rfl | rfl | rfl | rfl | rfl | rfl | rfl <;> assumption) | (rcases he with rfl | rfl | rfl | rfl | rfl | rfl | rfl | rfl | rfl | rfl | rfl | rfl <;> assumption) | (rcases he with rfl | rfl | rfl | rfl | rfl | rfl | rfl | rfl | rfl | rfl | rfl <;> assumption) | (rcases he with rfl | rfl | rfl | rfl | rfl | rfl | rfl | rfl | rfl | rfl <;> assumption) | (rcases he with rfl | rfl | rfl | rfl | rfl | rfl | rfl | rfl | rfl <;> assumption) | (rcases he with rfl | rfl | rfl | rfl | rfl | rfl | rfl | rfl <;> assumption) | (rcases he with rfl | rfl | rfl | rfl | rfl | rfl | rfl <;> assumption) | (rcases he with rfl | rfl | rfl | rfl | rfl | rfl <;> assumption) | (rcases he with rfl | rfl | rfl | rfl | rfl <;> assumption) | (rcases he with rfl | rfl | rfl | rfl <;> assumption) | (rcases he with rfl | rfl | rfl <;> assumption) | (rcases he with rfl | rfl <;> assumption) | (subst he; assumption))
    have b12 : l.getD 12 false = true := listed_of h0 12 _ (by omega) rfl (by intro e he; first | (simp at he; done) | skip; simp at he; first | (rcases he with rfl | rfl | rfl | rfl | rfl | rfl | rfl | rfl | rfl | rfl | rfl | rfl | rfl | rfl | rfl | rfl | rfl | rfl | rfl | rfl <;> assumption) | (rcases he with rfl | rfl | rfl | rfl | rfl | rfl | rfl | rfl | rfl | rfl | rfl | rfl | rfl | rfl | rfl | rfl | rfl | rfl | rfl <;> assumption) | (rcases he with rfl | rfl | rfl | rfl | rfl | rfl | rfl | rfl | rfl | rfl | rfl | rfl | rfl | rfl | rfl | rfl | rfl | rfl <;> assumption) | (rcases he with rfl | rfl | rfl | rfl | rfl | rfl | rfl | rfl | rfl | rfl | rfl | rfl | rfl | rfl | rfl | rfl | rfl <;> assumption) | (rcases he with rfl | rfl | rfl | rfl | rfl | rfl | rfl | rfl | rfl | rfl | rfl | rfl | rfl | rfl | rfl | rfl <;> assumption) | (rcases he with rfl | rfl | rfl | rfl | rfl | rfl | rfl | rfl | rfl | rfl | rfl | rfl | rfl | rfl | rfl <;> assumption) | (rcases he with rfl | rfl | rfl | rfl | rfl | rfl | rfl | rfl | rfl | rfl | rfl | rfl | rfl | rfl <;> assumption) | (rcases he with rfl | rfl | rfl | rfl | rfl | rfl | rfl | rfl | rfl | rfl | rfl | rfl | rfl <;> assumption) | (rcases he with rfl | rfl | rfl | rfl | rfl | rfl | rfl | rfl | rfl | rfl | rfl | rfl <;> assumption) | (rcases he with rfl | rfl | rfl | rfl | rfl | rfl | rfl | rfl | rfl | rfl | rfl <;> assumption) | (rcases he with rfl | rfl | rfl | rfl | rfl | rfl | rfl | rfl | rfl | rfl <;> assumption) | (rcases he with rfl | rfl | rfl | rfl | rfl | rfl | rfl | rfl | rfl <;> assumption) | (rcases he with rfl | rfl | rfl | rfl | rfl | rfl | rfl | rfl <;> assumption) | (rcases he with rfl | rfl | rfl | rfl | rfl | rfl | rfl <;> assumption) | (rcases he with rfl | rfl | rfl | rfl | rfl | rfl <;> assumption) | (rcases he with rfl | rfl | rfl | rfl | rfl <;> assumption) | (rcases he with rfl | rfl | rfl | rfl <;> assumption) | (rcases he with rfl | rfl | rfl <;> assumption) | (rcases he with rfl | rfl <;> assumption) | (subst he; assumption))
    have b13 : l.getD 13 false = true := listed_of h0 13 _ (by omega) rfl (by intro e he; first | (simp at he; done) | skip; simp at he; first | (rcases he with rfl | rfl | rfl | rfl | rfl | rfl | rfl | rfl | rfl | rfl | rfl | rfl | rfl | rfl | rfl | rfl | rfl | rfl | rfl | rfl <;> assumption) | (rcases he with rfl | rfl | rfl | rfl | rfl | rfl | rfl | rfl | rfl | rfl | rfl | rfl | rfl | rfl | rfl | rfl | rfl | rfl | rfl <;> assumption) | (rcases he with rfl | rfl | rfl | rfl | rfl | rfl | rfl | rfl | rfl | rfl | rfl | rfl | rfl | rfl | rfl | rfl | rfl | rfl <;> assumption) | (rcases he with rfl | rfl | rfl | rfl | rfl | rfl | rfl | rfl | rfl | rfl | rfl | rfl | rfl | rfl | rfl | rfl | rfl <;> assumption) | (rcases he with rfl | rfl | rfl | rfl | rfl | rfl | rfl | rfl | rfl | rfl | rfl | rfl | rfl | rfl | rfl | rfl <;> assumption) | (rcases he with rfl | rfl | rfl | rfl | rfl | rfl | rfl | rfl | rfl | rfl | rfl | rfl | rfl | rfl | rfl <;> assumption) | (rcases he with rfl | rfl | rfl | rfl | rfl | rfl | rfl | rfl | rfl | rfl | rfl | rfl | rfl | rfl <;> assumption) | (rcases he with rfl | rfl | rfl | rfl | rfl | rfl | rfl | rfl | rfl | rfl | rfl | rfl | rfl <;> assumption) | (rcases he with rfl | rfl | rfl | rfl | rfl | rfl | rfl | rfl | rfl | rfl | rfl | rfl <;> assumption) | (rcases he with rfl | rfl | rfl | rfl | rfl | rfl | rfl | rfl | rfl | rfl | rfl <;> assumption) | (rcases he with rfl | rfl | rfl | rfl | rfl | rfl | rfl | rfl | rfl | rfl <;> assumption) | (rcases he with rfl | rfl | rfl | rfl | rfl | rfl | rfl | rfl | rfl <;> assumption) | (rcases he with rfl | rfl | rfl | rfl | rfl | rfl | rfl | rfl <;> assumption) | (rcases he with rfl | rfl | rfl | rfl | rfl | rfl | rfl <;> assumption) | (rcases he with rfl | rfl | rfl | rfl | rfl | rfl <;> assumption) | (rcases he with rfl | rfl | rfl | rfl | rfl <;> assumption) | (rcases he with rfl | rfl | rfl | rfl <;> assumption) | (rcases he with rfl | rfl | rfl <;> assumption) | (rcases he with rfl | rfl <;> assumption) | (subst he; assumption))
    obtain ⟨a6, k6, e6, r6⟩ := c2 b2
    obtain ⟨a9, k9, e9, r9⟩ := c5 b5
    obtain ⟨a13, k13, e13, r13⟩ := c9 b9
    obtain ⟨g, e16, hg, hn, hv⟩ := (c12 b12).2
    have e3 := (c13 b13).2
    subst e16
    subst e3
    subst e6 e9 e13
    have HV : Hid (type_of% hV) := hV
    have HE0 : Hid (type_of% hv) := hv
    have HR : Hid (SesRow W w.heap.size { s with handed := [] } (.slice a6 s.items.length k6) (.slice none 0 0) (.slice a9 s.way.length k9) (.slice a13 s.acks.length k13)) := ⟨own_lower r6 (by omega), ⟨rfl, .inl ⟨rfl, rfl⟩⟩, own_lower r9 (by omega), own_lower r13 (by omega), fun g hg => by simp [Value.ownBlock], diff_ty r6 r9 (by decide), diff_ty r6 r13 (by decide), fun g hg => by simp [Value.ownBlock] at hg, fun g hg => by simp [Value.ownBlock] at hg, diff_ty r9 r13 (by decide)⟩
    have HN : Hid (type_of% hn) := hn
    have HB : Hid (type_of% hB) := hB
    have hge : w.heap.size + 1 ≤ g := hg
    have hgl := hv.low
    clear c0 c1 c2 c3 c4 c5 c6 c7 c8 c9 c10 c11 c12 c13 b0 b1 b2 b3 b4 b5 b6 b7 b8 b9 b10 b11 b12 b13 r6 r9 r13 hv hV hn hB hg h0 hls
    dsimp only
    go_upto_region 2 with fail
    have y0 := HV.out.c0
    have y2 := HV.out.c2
    have y3 := HV.out.c3
    have CR : Hid (type_of% (raise0_any (HE0.out.kept (w' := W.drew) rfl (Nat.le_refl _)) s.ep (by omega))) := raise0_any (HE0.out.kept (w' := W.drew) rfl (Nat.le_refl _)) s.ep (by omega)
    go_region_with (go_at_call 98; (with_reducible refine CR.out.mono ?_); rintro e Z0 ⟨rfl, hv0, ht0⟩)
    have tt0 : Tch W Z0 (fun j => j = g) (fun j => j = g) := (Tch.of_below (Below.refl _ W).drew).trans ht0
    have HE0 : Hid (type_of% hv0) := hv0
    have HV : Hid (type_of% (HV.out.step tt0 (by omega))) := HV.out.step tt0 (by omega)
    have HR : Hid (type_of% (HR.out.tch tt0 (fun q hq e => HN.out (by rw [← e]; exact hq)))) := HR.out.tch tt0 (fun q hq e => HN.out (by rw [← e]; exact hq))
    have HB : Hid (Below w.heap.size w Z0) := HB.out.trans (tt0.below HB.out.size (fun q hq => by omega))
    clear y0 y2 y3 CR hv0 ht0 tt0
    have y0 := HV.out.c0
    have y2 := HV.out.c2
    have y3 := HV.out.c3
    have CR : Hid (type_of% (raise1_any (HE0.out.kept (w' := Z0.drew) rfl (Nat.le_refl _)) s.base hb0)) := raise1_any (HE0.out.kept (w' := Z0.drew) rfl (Nat.le_refl _)) s.base hb0
    go_upto_region 3 with fail
    go_region_with (go_at_call 98; (with_reducible refine CR.out.mono ?_); rintro e Z1 ⟨rfl, hv1, ht1⟩)
    have tt1 : Tch Z0 Z1 (fun j => j = g) (fun j => j = g) := (Tch.of_below (Below.refl _ Z0).drew).trans ht1
    have HE0 : Hid (type_of% hv1) := hv1
    have HV : Hid (type_of% (HV.out.step tt1 (by omega))) := HV.out.step tt1 (by omega)
    have HR : Hid (type_of% (HR.out.tch tt1 (fun q hq e => HN.out (by rw [← e]; exact hq)))) := HR.out.tch tt1 (fun q hq e => HN.out (by rw [← e]; exact hq))
    have HB : Hid (Below w.heap.size w Z1) := HB.out.trans (tt1.below HB.out.size (fun q hq => by omega))
    clear y0 y2 y3 CR hv1 ht1 tt1
    have y0 := HV.out.c0
    have y2 := HV.out.c2
    have y3 := HV.out.c3
    have CR : Hid (type_of% (raise2_any (HE0.out.kept (w' := Z1.drew) rfl (Nat.le_refl _)) (s.handed.length : Int) (by omega))) := raise2_any (HE0.out.kept (w' := Z1.drew) rfl (Nat.le_refl _)) (s.handed.length : Int) (by omega)
    go_upto_region 4 with fail
    go_region_with (go_at_call 98; (with_reducible refine CR.out.mono ?_); rintro e Z2 ⟨rfl, hv2, ht2⟩)
    have tt2 : Tch Z1 Z2 (fun j => j = g) (fun j => j = g) := (Tch.of_below (Below.refl _ Z1).drew).trans ht2
    have HE0 : Hid (type_of% hv2) := hv2
    have HV : Hid (type_of% (HV.out.step tt2 (by omega))) := HV.out.step tt2 (by omega)
    have HR : Hid (type_of% (HR.out.tch tt2 (fun q hq e => HN.out (by rw [← e]; exact hq)))) := HR.out.tch tt2 (fun q hq e => HN.out (by rw [← e]; exact hq))
    have HB : Hid (Below w.heap.size w Z2) := HB.out.trans (tt2.below HB.out.size (fun q hq => by omega))
    clear y0 y2 y3 CR hv2 ht2 tt2
    go_wp2_with fail
    go_ret
    exact ⟨g, _, _, _, rfl, ⟨HE0.out, HR.out, HN.out, by omega⟩, HB.out⟩
  case step =>
    intro l a W i hI hi K hK
    have hlt := ready_lt hi
    obtain ⟨hls, hB, hV, hN, u3, u4, u5, u6, u7, u8, u9, u10, u11, u12, u13, u14, u15, u16, rfl, c0, c1, c2, c3, c4, c5, c6, c7, c8, c9, c10, c11, c12, c13⟩ := hI
    have hlt' : i < 14 := hlt
    rcases (show i = 0 ∨ i = 1 ∨ i = 2 ∨ i = 3 ∨ i = 4 ∨ i = 5 ∨ i = 6 ∨ i = 7 ∨ i = 8 ∨ i = 9 ∨ i = 10 ∨ i = 11 ∨ i = 12 ∨ i = 13 by omega) with rfl | rfl | rfl | rfl | rfl | rfl | rfl | rfl | rfl | rfl | rfl | rfl | rfl | rfl
    · -- 0
      refine wpOp_step rfl (fun K' hK' => ?_)
      have HK : Hid (∀ a w, K a w → K' a w) := hK'
      have HK2 : Hid (type_of% hK) := hK
      clear hK hK'
      have y0 := hV.c0
      have y1 := hV.c1
      have y2 := hV.c2
      have y3 := hV.c3
      have y4 := hV.c4
      have y5 := hV.c5
      go_simp
      exact HK.out _ _ (HK2.out _ _ ⟨by simp [hls], hB, hV, hN, _, _, _, _, _, _, _, _, _, _, _, _, _, _, rfl, fun _ => rfl, fun h => (c1 (getD_ne h (by decide))), fun h => (c2 (getD_ne h (by decide))), fun h => (c3 (getD_ne h (by decide))), fun h => (c4 (getD_ne h (by decide))), fun h => (c5 (getD_ne h (by decide))), fun h => ⟨getD_set_true (c6 (getD_ne h (by decide))).1, (c6 (getD_ne h (by decide))).2⟩, fun h => (c7 (getD_ne h (by decide))), fun h => (c8 (getD_ne h (by decide))), fun h => (c9 (getD_ne h (by decide))), fun h => ⟨getD_set_true (c10 (getD_ne h (by decide))).1, (c10 (getD_ne h (by decide))).2⟩, fun h => ⟨⟨getD_set_true (c11 (getD_ne h (by decide))).1.1, getD_set_true (c11 (getD_ne h (by decide))).1.2.1, getD_set_true (c11 (getD_ne h (by decide))).1.2.2⟩, (c11 (getD_ne h (by decide))).2⟩, fun h => ⟨getD_set_true (c12 (getD_ne h (by decide))).1, (c12 (getD_ne h (by decide))).2⟩, fun h => ⟨getD_set_true (c13 (getD_ne h (by decide))).1, (c13 (getD_ne h (by decide))).2⟩⟩)
    · -- 1
      obtain rfl := c0 (show l.getD 0 false = true from by have hd := ready_deps hi (o := _) rfl; exact hd ⟨0, .data⟩ (by simp) (by rfl))
      refine wpOp_step rfl (fun K' hK' => ?_)
      have HK : Hid (∀ a w, K a w → K' a w) := hK'
      have HK2 : Hid (type_of% hK) := hK
      clear hK hK'
      have y0 := hV.c0
      have y1 := hV.c1
      have y2 := hV.c2
      have y3 := hV.c3
      have y4 := hV.c4
      have y5 := hV.c5
      go_simp
      exact HK.out _ _ (HK2.out _ _ ⟨by simp [hls], hB, hV, hN, _, _, _, _, _, _, _, _, _, _, _, _, _, _, rfl, fun h => (c0 (getD_ne h (by decide))), fun _ => rfl, fun h => (c2 (getD_ne h (by decide))), fun h => (c3 (getD_ne h (by decide))), fun h => (c4 (getD_ne h (by decide))), fun h => (c5 (getD_ne h (by decide))), fun h => ⟨getD_set_true (c6 (getD_ne h (by decide))).1, (c6 (getD_ne h (by decide))).2⟩, fun h => (c7 (getD_ne h (by decide))), fun h => (c8 (getD_ne h (by decide))), fun h => (c9 (getD_ne h (by decide))), fun h => ⟨getD_set_true (c10 (getD_ne h (by decide))).1, (c10 (getD_ne h (by decide))).2⟩, fun h => ⟨⟨getD_set_true (c11 (getD_ne h (by decide))).1.1, getD_set_true (c11 (getD_ne h (by decide))).1.2.1, getD_set_true (c11 (getD_ne h (by decide))).1.2.2⟩, (c11 (getD_ne h (by decide))).2⟩, fun h => ⟨getD_set_true (c12 (getD_ne h (by decide))).1, (c12 (getD_ne h (by decide))).2⟩, fun h => ⟨getD_set_true (c13 (getD_ne h (by decide))).1, (c13 (getD_ne h (by decide))).2⟩⟩)
    · -- 2
      obtain rfl := c1 (show l.getD 1 false = true from by have hd := ready_deps hi (o := _) rfl; exact hd ⟨1, .data⟩ (by simp) (by rfl))
      have hoff := ready_off hi (by omega)
      have CC := cloneT_any _ _ W (HS.out.i.below hB) (by omega)
      refine wpOp_step rfl (fun K' hK' => ?_)
      have HK : Hid (∀ a w, K a w → K' a w) := hK'
      have HK2 : Hid (type_of% hK) := hK
      clear hK hK'
      go_simp
      go_at_call 95
      refine CC.mono ?_
      rintro e W9 ⟨r, rfl, hr, hb⟩
      obtain ⟨ra, rk, rfl⟩ := StRow.slice hr
      (try go_simp)
      exact HK.out _ _ (HK2.out _ _ ⟨by simp [hls], hB.trans (hb.mono hB.size), hV.below hb, ⟨Nat.le_trans hN.1 hb.size, hN.2⟩, _, _, _, _, _, _, _, _, _, _, _, _, _, _, rfl, fun h => (c0 (getD_ne h (by decide))), fun h => (c1 (getD_ne h (by decide))), fun _ => ⟨_, _, rfl, own_lower hr hN.1⟩, fun h => (c3 (getD_ne h (by decide))), fun h => (c4 (getD_ne h (by decide))), fun h => by obtain ⟨a, c, e, r⟩ := (c5 (getD_ne h (by decide))); exact ⟨a, c, e, own_belowY r hb⟩, fun h => ⟨getD_set_true (c6 (getD_ne h (by decide))).1, (c6 (getD_ne h (by decide))).2⟩, fun h => (c7 (getD_ne h (by decide))), fun h => (c8 (getD_ne h (by decide))), fun h => by obtain ⟨a, c, e, r⟩ := (c9 (getD_ne h (by decide))); exact ⟨a, c, e, own_belowY r hb⟩, fun h => ⟨getD_set_true (c10 (getD_ne h (by decide))).1, (c10 (getD_ne h (by decide))).2⟩, fun h => absurd (c11 (getD_ne h (by decide))).1.1 (by rw [hoff]; decide), fun h => absurd (c11 (c12 (getD_ne h (by decide))).1).1.1 (by rw [hoff]; decide), fun h => absurd (c11 (c12 (c13 (getD_ne h (by decide))).1).1).1.1 (by rw [hoff]; decide)⟩)
    · -- 3
      refine wpOp_step rfl (fun K' hK' => ?_)
      have HK : Hid (∀ a w, K a w → K' a w) := hK'
      have HK2 : Hid (type_of% hK) := hK
      clear hK hK'
      have y0 := hV.c0
      have y1 := hV.c1
      have y2 := hV.c2
      have y3 := hV.c3
      have y4 := hV.c4
      have y5 := hV.c5
      go_simp
      exact HK.out _ _ (HK2.out _ _ ⟨by simp [hls], hB, hV, hN, _, _, _, _, _, _, _, _, _, _, _, _, _, _, rfl, fun h => (c0 (getD_ne h (by decide))), fun h => (c1 (getD_ne h (by decide))), fun h => (c2 (getD_ne h (by decide))), fun _ => rfl, fun h => (c4 (getD_ne h (by decide))), fun h => (c5 (getD_ne h (by decide))), fun h => ⟨getD_set_true (c6 (getD_ne h (by decide))).1, (c6 (getD_ne h (by decide))).2⟩, fun h => (c7 (getD_ne h (by decide))), fun h => (c8 (getD_ne h (by decide))), fun h => (c9 (getD_ne h (by decide))), fun h => ⟨getD_set_true (c10 (getD_ne h (by decide))).1, (c10 (getD_ne h (by decide))).2⟩, fun h => ⟨⟨getD_set_true (c11 (getD_ne h (by decide))).1.1, getD_set_true (c11 (getD_ne h (by decide))).1.2.1, getD_set_true (c11 (getD_ne h (by decide))).1.2.2⟩, (c11 (getD_ne h (by decide))).2⟩, fun h => ⟨getD_set_true (c12 (getD_ne h (by decide))).1, (c12 (getD_ne h (by decide))).2⟩, fun h => ⟨getD_set_true (c13 (getD_ne h (by decide))).1, (c13 (getD_ne h (by decide))).2⟩⟩)
    · -- 4
      obtain rfl := c3 (show l.getD 3 false = true from by have hd := ready_deps hi (o := _) rfl; exact hd ⟨3, .data⟩ (by simp) (by rfl))
      refine wpOp_step rfl (fun K' hK' => ?_)
      have HK : Hid (∀ a w, K a w → K' a w) := hK'
      have HK2 : Hid (type_of% hK) := hK
      clear hK hK'
      have y0 := hV.c0
      have y1 := hV.c1
      have y2 := hV.c2
      have y3 := hV.c3
      have y4 := hV.c4
      have y5 := hV.c5
      go_simp
      exact HK.out _ _ (HK2.out _ _ ⟨by simp [hls], hB, hV, hN, _, _, _, _, _, _, _, _, _, _, _, _, _, _, rfl, fun h => (c0 (getD_ne h (by decide))), fun h => (c1 (getD_ne h (by decide))), fun h => (c2 (getD_ne h (by decide))), fun h => (c3 (getD_ne h (by decide))), fun _ => rfl, fun h => (c5 (getD_ne h (by decide))), fun h => ⟨getD_set_true (c6 (getD_ne h (by decide))).1, (c6 (getD_ne h (by decide))).2⟩, fun h => (c7 (getD_ne h (by decide))), fun h => (c8 (getD_ne h (by decide))), fun h => (c9 (getD_ne h (by decide))), fun h => ⟨getD_set_true (c10 (getD_ne h (by decide))).1, (c10 (getD_ne h (by decide))).2⟩, fun h => ⟨⟨getD_set_true (c11 (getD_ne h (by decide))).1.1, getD_set_true (c11 (getD_ne h (by decide))).1.2.1, getD_set_true (c11 (getD_ne h (by decide))).1.2.2⟩, (c11 (getD_ne h (by decide))).2⟩, fun h => ⟨getD_set_true (c12 (getD_ne h (by decide))).1, (c12 (getD_ne h (by decide))).2⟩, fun h => ⟨getD_set_true (c13 (getD_ne h (by decide))).1, (c13 (getD_ne h (by decide))).2⟩⟩)
    · -- 5
      obtain rfl := c4 (show l.getD 4 false = true from by have hd := ready_deps hi (o := _) rfl; exact hd ⟨4, .data⟩ (by simp) (by rfl))
      have hoff := ready_off hi (by omega)
      have CC := cloneP_any _ _ W (HS.out.y.below hB) (by omega)
      refine wpOp_step rfl (fun K' hK' => ?_)
      have HK : Hid (∀ a w, K a w → K' a w) := hK'
      have HK2 : Hid (type_of% hK) := hK
      clear hK hK'
      go_simp
      go_at_call 96
      refine CC.mono ?_
      rintro e W9 ⟨r, rfl, hr, hb⟩
      obtain ⟨ra, rk, rfl, _, _⟩ := PkRow.slice hr
      (try go_simp)
      exact HK.out _ _ (HK2.out _ _ ⟨by simp [hls], hB.trans (hb.mono hB.size), hV.below hb, ⟨Nat.le_trans hN.1 hb.size, hN.2⟩, _, _, _, _, _, _, _, _, _, _, _, _, _, _, rfl, fun h => (c0 (getD_ne h (by decide))), fun h => (c1 (getD_ne h (by decide))), fun h => by obtain ⟨a, c, e, r⟩ := (c2 (getD_ne h (by decide))); exact ⟨a, c, e, own_belowY r hb⟩, fun h => (c3 (getD_ne h (by decide))), fun h => (c4 (getD_ne h (by decide))), fun _ => ⟨_, _, rfl, own_lower hr hN.1⟩, fun h => absurd (c6 (getD_ne h (by decide))).1 (by rw [hoff]; decide), fun h => (c7 (getD_ne h (by decide))), fun h => (c8 (getD_ne h (by decide))), fun h => by obtain ⟨a, c, e, r⟩ := (c9 (getD_ne h (by decide))); exact ⟨a, c, e, own_belowY r hb⟩, fun h => ⟨getD_set_true (c10 (getD_ne h (by decide))).1, (c10 (getD_ne h (by decide))).2⟩, fun h => absurd (c11 (getD_ne h (by decide))).1.2.1 (by rw [hoff]; decide), fun h => absurd (c11 (c12 (getD_ne h (by decide))).1).1.2.1 (by rw [hoff]; decide), fun h => absurd (c11 (c12 (c13 (getD_ne h (by decide))).1).1).1.2.1 (by rw [hoff]; decide)⟩)
    · -- 6
      have d5 := (show l.getD 5 false = true from by have hd := ready_deps hi (o := _) rfl; exact hd ⟨5, .data⟩ (by simp) (by rfl))
      have f5 := c5 d5
      obtain ⟨a9, k9, e9, r9⟩ := f5
      subst e9
      refine wpOp_step rfl (fun K' hK' => ?_)
      have HK : Hid (∀ a w, K a w → K' a w) := hK'
      have HK2 : Hid (type_of% hK) := hK
      clear hK hK'
      go_simp
      exact HK.out _ _ (HK2.out _ _ ⟨by simp [hls], hB, hV, hN, _, _, _, _, _, _, _, _, _, _, _, _, _, _, rfl, fun h => (c0 (getD_ne h (by decide))), fun h => (c1 (getD_ne h (by decide))), fun h => (c2 (getD_ne h (by decide))), fun h => (c3 (getD_ne h (by decide))), fun h => (c4 (getD_ne h (by decide))), fun h => (c5 (getD_ne h (by decide))), fun _ => ⟨getD_set_true d5, rfl⟩, fun h => (c7 (getD_ne h (by decide))), fun h => (c8 (getD_ne h (by decide))), fun h => (c9 (getD_ne h (by decide))), fun h => ⟨getD_set_true (c10 (getD_ne h (by decide))).1, (c10 (getD_ne h (by decide))).2⟩, fun h => ⟨⟨getD_set_true (c11 (getD_ne h (by decide))).1.1, getD_set_true (c11 (getD_ne h (by decide))).1.2.1, getD_set_true (c11 (getD_ne h (by decide))).1.2.2⟩, (c11 (getD_ne h (by decide))).2⟩, fun h => ⟨getD_set_true (c12 (getD_ne h (by decide))).1, (c12 (getD_ne h (by decide))).2⟩, fun h => ⟨getD_set_true (c13 (getD_ne h (by decide))).1, (c13 (getD_ne h (by decide))).2⟩⟩)
    · -- 7
      refine wpOp_step rfl (fun K' hK' => ?_)
      have HK : Hid (∀ a w, K a w → K' a w) := hK'
      have HK2 : Hid (type_of% hK) := hK
      clear hK hK'
      have y0 := hV.c0
      have y1 := hV.c1
      have y2 := hV.c2
      have y3 := hV.c3
      have y4 := hV.c4
      have y5 := hV.c5
      go_simp
      exact HK.out _ _ (HK2.out _ _ ⟨by simp [hls], hB, hV, hN, _, _, _, _, _, _, _, _, _, _, _, _, _, _, rfl, fun h => (c0 (getD_ne h (by decide))), fun h => (c1 (getD_ne h (by decide))), fun h => (c2 (getD_ne h (by decide))), fun h => (c3 (getD_ne h (by decide))), fun h => (c4 (getD_ne h (by decide))), fun h => (c5 (getD_ne h (by decide))), fun h => ⟨getD_set_true (c6 (getD_ne h (by decide))).1, (c6 (getD_ne h (by decide))).2⟩, fun _ => rfl, fun h => (c8 (getD_ne h (by decide))), fun h => (c9 (getD_ne h (by decide))), fun h => ⟨getD_set_true (c10 (getD_ne h (by decide))).1, (c10 (getD_ne h (by decide))).2⟩, fun h => ⟨⟨getD_set_true (c11 (getD_ne h (by decide))).1.1, getD_set_true (c11 (getD_ne h (by decide))).1.2.1, getD_set_true (c11 (getD_ne h (by decide))).1.2.2⟩, (c11 (getD_ne h (by decide))).2⟩, fun h => ⟨getD_set_true (c12 (getD_ne h (by decide))).1, (c12 (getD_ne h (by decide))).2⟩, fun h => ⟨getD_set_true (c13 (getD_ne h (by decide))).1, (c13 (getD_ne h (by decide))).2⟩⟩)
    · -- 8
      obtain rfl := c7 (show l.getD 7 false = true from by have hd := ready_deps hi (o := _) rfl; exact hd ⟨7, .data⟩ (by simp) (by rfl))
      refine wpOp_step rfl (fun K' hK' => ?_)
      have HK : Hid (∀ a w, K a w → K' a w) := hK'
      have HK2 : Hid (type_of% hK) := hK
      clear hK hK'
      have y0 := hV.c0
      have y1 := hV.c1
      have y2 := hV.c2
      have y3 := hV.c3
      have y4 := hV.c4
      have y5 := hV.c5
      go_simp
      exact HK.out _ _ (HK2.out _ _ ⟨by simp [hls], hB, hV, hN, _, _, _, _, _, _, _, _, _, _, _, _, _, _, rfl, fun h => (c0 (getD_ne h (by decide))), fun h => (c1 (getD_ne h (by decide))), fun h => (c2 (getD_ne h (by decide))), fun h => (c3 (getD_ne h (by decide))), fun h => (c4 (getD_ne h (by decide))), fun h => (c5 (getD_ne h (by decide))), fun h => ⟨getD_set_true (c6 (getD_ne h (by decide))).1, (c6 (getD_ne h (by decide))).2⟩, fun h => (c7 (getD_ne h (by decide))), fun _ => rfl, fun h => (c9 (getD_ne h (by decide))), fun h => ⟨getD_set_true (c10 (getD_ne h (by decide))).1, (c10 (getD_ne h (by decide))).2⟩, fun h => ⟨⟨getD_set_true (c11 (getD_ne h (by decide))).1.1, getD_set_true (c11 (getD_ne h (by decide))).1.2.1, getD_set_true (c11 (getD_ne h (by decide))).1.2.2⟩, (c11 (getD_ne h (by decide))).2⟩, fun h => ⟨getD_set_true (c12 (getD_ne h (by decide))).1, (c12 (getD_ne h (by decide))).2⟩, fun h => ⟨getD_set_true (c13 (getD_ne h (by decide))).1, (c13 (getD_ne h (by decide))).2⟩⟩)
    · -- 9
      obtain rfl := c8 (show l.getD 8 false = true from by have hd := ready_deps hi (o := _) rfl; exact hd ⟨8, .data⟩ (by simp) (by rfl))
      have hoff := ready_off hi (by omega)
      have CC := cloneA_any _ _ W (HS.out.a.below hB) (by omega)
      refine wpOp_step rfl (fun K' hK' => ?_)
      have HK : Hid (∀ a w, K a w → K' a w) := hK'
      have HK2 : Hid (type_of% hK) := hK
      clear hK hK'
      go_simp
      go_at_call 97
      refine CC.mono ?_
      rintro e W9 ⟨r, rfl, hr, hb⟩
      obtain ⟨ra, rk, rfl, _, _⟩ := AkRow.slice hr
      (try go_simp)
      exact HK.out _ _ (HK2.out _ _ ⟨by simp [hls], hB.trans (hb.mono hB.size), hV.below hb, ⟨Nat.le_trans hN.1 hb.size, hN.2⟩, _, _, _, _, _, _, _, _, _, _, _, _, _, _, rfl, fun h => (c0 (getD_ne h (by decide))), fun h => (c1 (getD_ne h (by decide))), fun h => by obtain ⟨a, c, e, r⟩ := (c2 (getD_ne h (by decide))); exact ⟨a, c, e, own_belowY r hb⟩, fun h => (c3 (getD_ne h (by decide))), fun h => (c4 (getD_ne h (by decide))), fun h => by obtain ⟨a, c, e, r⟩ := (c5 (getD_ne h (by decide))); exact ⟨a, c, e, own_belowY r hb⟩, fun h => ⟨getD_set_true (c6 (getD_ne h (by decide))).1, (c6 (getD_ne h (by decide))).2⟩, fun h => (c7 (getD_ne h (by decide))), fun h => (c8 (getD_ne h (by decide))), fun _ => ⟨_, _, rfl, own_lower hr hN.1⟩, fun h => absurd (c10 (getD_ne h (by decide))).1 (by rw [hoff]; decide), fun h => absurd (c11 (getD_ne h (by decide))).1.2.2 (by rw [hoff]; decide), fun h => absurd (c11 (c12 (getD_ne h (by decide))).1).1.2.2 (by rw [hoff]; decide), fun h => absurd (c11 (c12 (c13 (getD_ne h (by decide))).1).1).1.2.2 (by rw [hoff]; decide)⟩)
    · -- 10
      have d9 := (show l.getD 9 false = true from by have hd := ready_deps hi (o := _) rfl; exact hd ⟨9, .data⟩ (by simp) (by rfl))
      have f9 := c9 d9
      obtain ⟨a13, k13, e13, r13⟩ := f9
      subst e13
      refine wpOp_step rfl (fun K' hK' => ?_)
      have HK : Hid (∀ a w, K a w → K' a w) := hK'
      have HK2 : Hid (type_of% hK) := hK
      clear hK hK'
      go_simp
      exact HK.out _ _ (HK2.out _ _ ⟨by simp [hls], hB, hV, hN, _, _, _, _, _, _, _, _, _, _, _, _, _, _, rfl, fun h => (c0 (getD_ne h (by decide))), fun h => (c1 (getD_ne h (by decide))), fun h => (c2 (getD_ne h (by decide))), fun h => (c3 (getD_ne h (by decide))), fun h => (c4 (getD_ne h (by decide))), fun h => (c5 (getD_ne h (by decide))), fun h => ⟨getD_set_true (c6 (getD_ne h (by decide))).1, (c6 (getD_ne h (by decide))).2⟩, fun h => (c7 (getD_ne h (by decide))), fun h => (c8 (getD_ne h (by decide))), fun h => (c9 (getD_ne h (by decide))), fun _ => ⟨getD_set_true d9, rfl⟩, fun h => ⟨⟨getD_set_true (c11 (getD_ne h (by decide))).1.1, getD_set_true (c11 (getD_ne h (by decide))).1.2.1, getD_set_true (c11 (getD_ne h (by decide))).1.2.2⟩, (c11 (getD_ne h (by decide))).2⟩, fun h => ⟨getD_set_true (c12 (getD_ne h (by decide))).1, (c12 (getD_ne h (by decide))).2⟩, fun h => ⟨getD_set_true (c13 (getD_ne h (by decide))).1, (c13 (getD_ne h (by decide))).2⟩⟩)
    · -- 11
      have d2 := (show l.getD 2 false = true from by have hd := ready_deps hi (o := _) rfl; exact hd ⟨2, .data⟩ (by simp) (by rfl))
      have f2 := c2 d2
      have d6 := (show l.getD 6 false = true from by have hd := ready_deps hi (o := _) rfl; exact hd ⟨6, .data⟩ (by simp) (by rfl))
      have f6 := c6 d6
      have d10 := (show l.getD 10 false = true from by have hd := ready_deps hi (o := _) rfl; exact hd ⟨10, .data⟩ (by simp) (by rfl))
      have f10 := c10 d10
      obtain ⟨a6, k6, e6, r6⟩ := f2
      obtain ⟨a9, k9, e9, r9⟩ := c5 f6.1
      obtain ⟨a13, k13, e13, r13⟩ := c9 f10.1
      have g5 := f6.1
      have g9 := f10.1
      obtain rfl := f6.2
      obtain rfl := f10.2
      subst e6 e9 e13
      refine wpOp_step rfl (fun K' hK' => ?_)
      have HK : Hid (∀ a w, K a w → K' a w) := hK'
      have HK2 : Hid (type_of% hK) := hK
      clear hK hK'
      go_simp
      exact HK.out _ _ (HK2.out _ _ ⟨by simp [hls], hB, hV, hN, _, _, _, _, _, _, _, _, _, _, _, _, _, _, rfl, fun h => (c0 (getD_ne h (by decide))), fun h => (c1 (getD_ne h (by decide))), fun h => (c2 (getD_ne h (by decide))), fun h => (c3 (getD_ne h (by decide))), fun h => (c4 (getD_ne h (by decide))), fun h => (c5 (getD_ne h (by decide))), fun h => ⟨getD_set_true (c6 (getD_ne h (by decide))).1, (c6 (getD_ne h (by decide))).2⟩, fun h => (c7 (getD_ne h (by decide))), fun h => (c8 (getD_ne h (by decide))), fun h => (c9 (getD_ne h (by decide))), fun h => ⟨getD_set_true (c10 (getD_ne h (by decide))).1, (c10 (getD_ne h (by decide))).2⟩, fun _ => ⟨⟨getD_set_true d2, getD_set_true g5, getD_set_true g9⟩, rfl⟩, fun h => ⟨getD_set_true (c12 (getD_ne h (by decide))).1, (c12 (getD_ne h (by decide))).2⟩, fun h => ⟨getD_set_true (c13 (getD_ne h (by decide))).1, (c13 (getD_ne h (by decide))).2⟩⟩)
    · -- 12
      have d11 := (show l.getD 11 false = true from by have hd := ready_deps hi (o := _) rfl; exact hd ⟨11, .data⟩ (by simp) (by rfl))
      have f11 := c11 d11
      obtain ⟨a6, k6, e6, r6⟩ := c2 f11.1.1
      obtain ⟨a9, k9, e9, r9⟩ := c5 f11.1.2.1
      obtain ⟨a13, k13, e13, r13⟩ := c9 f11.1.2.2
      obtain rfl := f11.2
      subst e6 e9 e13
      have hoff := ready_off hi (by omega)
      refine wpOp_step rfl (fun K' hK' => ?_)
      have HK : Hid (∀ a w, K a w → K' a w) := hK'
      have HK2 : Hid (type_of% hK) := hK
      clear hK hK'
      have hb9 : Below W.heap.size W (W.alloc (.cells #[.int .i64 0, .int .i64 0, .int .i64 0, .slice a6 s.items.length k6, .slice a9 s.way.length k9, .slice a13 s.acks.length k13] 111)) := (Below.refl _ _).alloc (Nat.le_refl _) _
      go_simp
      exact HK.out _ _ (HK2.out _ _ ⟨by simp [hls], hB.alloc (by omega) _, hV.below hb9, ⟨by simp; omega, hN.2⟩, _, _, _, _, _, _, _, _, _, _, _, _, _, _, rfl, fun h => (c0 (getD_ne h (by decide))), fun h => (c1 (getD_ne h (by decide))), fun h => by obtain ⟨a, c, e, r⟩ := (c2 (getD_ne h (by decide))); exact ⟨a, c, e, own_belowY r hb9⟩, fun h => (c3 (getD_ne h (by decide))), fun h => (c4 (getD_ne h (by decide))), fun h => by obtain ⟨a, c, e, r⟩ := (c5 (getD_ne h (by decide))); exact ⟨a, c, e, own_belowY r hb9⟩, fun h => ⟨getD_set_true (c6 (getD_ne h (by decide))).1, (c6 (getD_ne h (by decide))).2⟩, fun h => (c7 (getD_ne h (by decide))), fun h => (c8 (getD_ne h (by decide))), fun h => by obtain ⟨a, c, e, r⟩ := (c9 (getD_ne h (by decide))); exact ⟨a, c, e, own_belowY r hb9⟩, fun h => ⟨getD_set_true (c10 (getD_ne h (by decide))).1, (c10 (getD_ne h (by decide))).2⟩, fun h => ⟨⟨getD_set_true (c11 (getD_ne h (by decide))).1.1, getD_set_true (c11 (getD_ne h (by decide))).1.2.1, getD_set_true (c11 (getD_ne h (by decide))).1.2.2⟩, (c11 (getD_ne h (by decide))).2⟩, fun _ => ⟨getD_set_true d11, W.heap.size, rfl, hN.1, (fun q => by rcases q with q | q | q | q <;> first | (have := (World.ownsRow.lt r6 _ q).2; omega) | (have := (World.ownsRow.lt r9 _ q).2; omega) | (have := (World.ownsRow.lt r13 _ q).2; omega) | (simp [Value.ownBlock] at q; done)), Sv.fresh W _ _ _ _ _ _ _⟩, fun h => absurd (c13 (getD_ne h (by decide))).1 (by rw [hoff]; decide)⟩)
    · -- 13
      have d12 := (show l.getD 12 false = true from by have hd := ready_deps hi (o := _) rfl; exact hd ⟨12, .data⟩ (by simp) (by rfl))
      have f12 := c12 d12
      obtain ⟨g, e16, hg, hn, hv⟩ := f12.2
      subst e16
      have D12 : Hid (type_of% d12) := d12
      clear d12 f12
      refine wpOp_step rfl (fun K' hK' => ?_)
      have HK : Hid (∀ a w, K a w → K' a w) := hK'
      have HK2 : Hid (type_of% hK) := hK
      clear hK hK'
      go_simp
      exact HK.out _ _ (HK2.out _ _ ⟨by simp [hls], hB, hV, hN, _, _, _, _, _, _, _, _, _, _, _, _, _, _, rfl, fun h => (c0 (getD_ne h (by decide))), fun h => (c1 (getD_ne h (by decide))), fun h => (c2 (getD_ne h (by decide))), fun h => (c3 (getD_ne h (by decide))), fun h => (c4 (getD_ne h (by decide))), fun h => (c5 (getD_ne h (by decide))), fun h => ⟨getD_set_true (c6 (getD_ne h (by decide))).1, (c6 (getD_ne h (by decide))).2⟩, fun h => (c7 (getD_ne h (by decide))), fun h => (c8 (getD_ne h (by decide))), fun h => (c9 (getD_ne h (by decide))), fun h => ⟨getD_set_true (c10 (getD_ne h (by decide))).1, (c10 (getD_ne h (by decide))).2⟩, fun h => ⟨⟨getD_set_true (c11 (getD_ne h (by decide))).1.1, getD_set_true (c11 (getD_ne h (by decide))).1.2.1, getD_set_true (c11 (getD_ne h (by decide))).1.2.2⟩, (c11 (getD_ne h (by decide))).2⟩, fun h => ⟨getD_set_true (c12 (getD_ne h (by decide))).1, (c12 (getD_ne h (by decide))).2⟩, fun _ => ⟨getD_set_true D12.out, rfl⟩⟩)

end Go.Proofs.Ytnlppeieccbhgaa
