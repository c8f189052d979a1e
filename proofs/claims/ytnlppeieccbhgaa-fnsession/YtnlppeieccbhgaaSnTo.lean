/- The program's: a session under way as a session. -/
import Derived.Test.YtnlppeieccbhgaaSnBz
import Derived.Test.YtnlppeieccbhgaaSnJ
import Derived.Test.YtnlppeieccbhgaaSnP
import Derived.Test.YtnlppeieccbhgaaSnC
namespace Go.Proofs.Ytnlppeieccbhgaa
open Go.RowKit Plain Tpc Ssn

def ToD (w W1 : World) (s : Ses) (e N0 : Nat) (ai aa : Option Addr) (ci ca : Nat) (l : Array Bool) (a : Act) (W : World) : Prop :=
  l.size = 32 ∧ Below W1.heap.size W1 W ∧ ∃ u6 u7 u8 u9 u10 u11 u12 u13 u14 u15 u16 u17 u18 u19 u20 u21 u22 u23 u24 u25 u26 u27 u28 u29 u30 u31 u32 u33 u34 u35 u3 : Value, a = ⟨#[.pointer (some ⟨e, 0, none⟩), undef, .pointer (some ⟨w.heap.size, 0, none⟩), u3, undef, undef, u6, u7, u8, u9, u10, u11, u12, u13, u14, u15, u16, u17, u18, u19, u20, u21, u22, u23, u24, u25, u26, u27, u28, u29, u30, u31, u32, u33, u34, u35, undef, undef, undef, undef, undef, undef, undef, undef, undef, undef, undef, undef, undef, undef, undef, undef, undef, undef, undef, undef, undef, undef], []⟩ ∧
    (l.getD 0 false = true → u6 = .pointer (some ⟨e, 0, none⟩)) ∧
    (l.getD 1 false = true → u7 = .pointer (some ⟨e, 0, none⟩)) ∧
    (l.getD 2 false = true → u8 = .pointer (some ⟨e, 0, none⟩)) ∧
    (l.getD 3 false = true → u9 = .int .i64 s.ep) ∧
    (l.getD 4 false = true → u10 = .pointer (some ⟨e, 0, none⟩)) ∧
    (l.getD 5 false = true → u11 = .pointer (some ⟨e, 0, none⟩)) ∧
    (l.getD 6 false = true → u12 = .pointer (some ⟨e, 3, none⟩)) ∧
    (l.getD 7 false = true → u13 = .slice ai s.items.length ci) ∧
    (l.getD 8 false = true → ∃ a c, u14 = .slice a s.items.length c ∧ StRow W N0 u14 s.items) ∧
    (l.getD 9 false = true → u15 = .pointer (some ⟨e, 0, none⟩)) ∧
    (l.getD 10 false = true → u16 = .pointer (some ⟨e, 0, none⟩)) ∧
    (l.getD 11 false = true → u17 = .pointer (some ⟨e, 1, none⟩)) ∧
    (l.getD 12 false = true → u18 = .int .i64 s.base) ∧
    (l.getD 13 false = true → u19 = .pointer (some ⟨e, 0, none⟩)) ∧
    (l.getD 14 false = true → u20 = .pointer (some ⟨e, 0, none⟩)) ∧
    (l.getD 15 false = true → u21 = .pointer (some ⟨e, 3, none⟩)) ∧
    (l.getD 16 false = true → u22 = .slice ai s.items.length ci) ∧
    (l.getD 17 false = true → u23 = .pointer (some ⟨e, 0, none⟩)) ∧
    (l.getD 18 false = true → u24 = .pointer (some ⟨e, 0, none⟩)) ∧
    (l.getD 19 false = true → u25 = .pointer (some ⟨e, 2, none⟩)) ∧
    (l.getD 20 false = true → u26 = .int .i64 (s.handed.length : Int)) ∧
    (l.getD 21 false = true → u27 = .slice ai s.handed.length ci) ∧
    (l.getD 22 false = true → ∃ a c, u28 = .slice a s.handed.length c ∧ StRow W N0 u28 s.handed) ∧
    (l.getD 23 false = true → u29 = .pointer (some ⟨e, 0, none⟩)) ∧
    (l.getD 24 false = true → u30 = .pointer (some ⟨e, 0, none⟩)) ∧
    (l.getD 25 false = true → u31 = .pointer (some ⟨e, 5, none⟩)) ∧
    (l.getD 26 false = true → u32 = .pointer (some ⟨e, 5, none⟩)) ∧
    (l.getD 27 false = true → u33 = .slice aa s.acks.length ca) ∧
    (l.getD 28 false = true → ∃ a c, u34 = .slice a s.acks.length c ∧ AkRow W N0 u34 s.acks) ∧
    (l.getD 29 false = true → (l.getD 8 false = true ∧ l.getD 22 false = true ∧ l.getD 28 false = true) ∧ u35 = .agg #[.int .i64 s.ep, u14, .int .i64 s.base, u28, .slice none 0 0, u34]) ∧
    (l.getD 30 false = true → ∃ g, u3 = .pointer (some ⟨g, 0, none⟩) ∧ (N0 ≤ g ∧ g < W.heap.size) ∧ (∃ y0 y1 y2 y3 y4 y5, Sv W g y0 y1 y2 y3 y4 y5) ∧ (l.getD 8 false = true → ∀ k, u14.ownBlock = some k → k ≠ g) ∧ (l.getD 22 false = true → ∀ k, u28.ownBlock = some k → k ≠ g) ∧ (l.getD 28 false = true → ∀ k, u34.ownBlock = some k → k ≠ g) ∧ (l.getD 31 false = true → Sv W g (.int .i64 s.ep) u14 (.int .i64 s.base) u28 (.slice none 0 0) u34)) ∧
    (l.getD 31 false = true → l.getD 29 false = true ∧ l.getD 30 false = true) ∧
    (l.getD 8 false = true → l.getD 22 false = true → ∀ g, u14.ownBlock = some g → u28.ownBlock ≠ some g)

theorem StAt.takeS {w : World} {B n c k : Nat} {ao : Option Addr} {L : List ByteArray} (h : StAt w B (.slice ao n c) L) (hk : k ≤ L.length) : StAt w B (.slice ao k c) (L.take k) := by
  obtain ⟨a, c', hv, hm, hc, hr⟩ := h
  simp only [Value.slice.injEq] at hv
  obtain ⟨rfl, _, rfl⟩ := hv
  have hl : (L.take k).length = k := by rw [List.length_take]; omega
  refine ⟨ao, c, by rw [hl], by rw [hl]; omega, hc, fun i hi => ?_⟩
  rw [hl] at hi
  obtain ⟨g, o, ha, hg, c⟩ := hr i (by omega)
  refine ⟨g, o, ha, hg, c.trans ?_⟩
  congr 2
  unfold lq
  rw [List.getD_eq_getElem?_getD, List.getD_eq_getElem?_getD, List.getElem?_take, if_pos hi]

theorem apart_newS {w w' : World} {B e n B' e' n' : Nat} {u v : Value} {xs ys : List Value} (hu : w.ownsRow B e 1 u n xs) (hv : w'.ownsRow B' e' 1 v n' ys) (hB : w.heap.size ≤ B') : (∀ g, u.ownBlock = some g → v.ownBlock ≠ some g) ∧ (∀ g, v.ownBlock = some g → u.ownBlock ≠ some g) :=
  ⟨fun g hg e => by have := (World.ownsRow.lt hu g hg).2; have := (World.ownsRow.lt hv g e).1; omega, fun g hg e => by have := (World.ownsRow.lt hu g e).2; have := (World.ownsRow.lt hv g hg).1; omega⟩

set_option maxRecDepth 100000 in
set_option maxHeartbeats 16000000 in
theorem told_any (s : Ses) (e B : Nat) (vi vw va : Value) (w : World) (h : Ex w e B s vi vw va) (hg : Gd s) :
    Calls Try.prog 75 #[.pointer (some ⟨e, 0, none⟩)] w fun r w' => ∃ ui uh uw ua, r = .returned (s.val ui uh uw ua) ∧ SesRow w' w.heap.size s ui uh uw ua ∧ Below w.heap.size w w' := by
  have rc := fun (tmps : Array Value) (P : Program) (w : World) => results_cellS (fn := Try.f75) (p := 2) (ty := 26) rfl tmps P w
  obtain ⟨j0, hj, hjz0, hjz1, hjz2⟩ := info_parts infoStr
  obtain ⟨p0, hp, hpz0, hpz1, hpz2⟩ := info_parts Try.infoPk
  obtain ⟨q0, hq, hqz0, hqz1, hqz2⟩ := info_parts Try.infoAk
  obtain ⟨ai, ci, rfl, hic, him, _⟩ := h.r.at.i
  obtain ⟨aw, cw, rfl, hwc, hwm⟩ := PkRow.slice h.r.y
  obtain ⟨aa, ca, rfl, hac, ham⟩ := AkRow.slice h.r.a
  dsimp only at hic him hwc hwm hac ham h
  have hil := hg.il
  have hyl := hg.yl
  have hal := hg.al
  have hhl := hg.hl
  have HHE : Hid (s.handed = s.items.take s.handed.length) := hg.he
  have HSZ : Hid (∀ j, j < s.items.length → (lq s.items j).size ≤ 1048576) := fun j hj => Nat.le_trans (hg.it j hj) (by decide)
  have HSH : Hid (∀ j, j < s.handed.length → (lq s.handed j).size ≤ 1048576) := fun j hj => by rw [hg.handed_at hj]; exact Nat.le_trans (hg.it j (by omega)) (by decide)
  have HSY : Hid (∀ j, j < s.way.length → (pk s.way j).tx.size ≤ 1048576) := fun j hj => by
    obtain ⟨_, h1, h2, _, h5⟩ := hg.yo (pk s.way j) (by unfold pk; simp [List.getD, List.getElem?_eq_getElem hj])
    rw [h5]
    exact Nat.le_trans (hg.it _ (by omega)) (by decide)
  obtain ⟨W1, hW1⟩ : ∃ W, W = w.alloc (.cells #[.int .i64 0, .slice none 0 0, .int .i64 0, .slice none 0 0, .slice none 0 0, .slice none 0 0] 26) := ⟨_, rfl⟩
  have hB1 : Below w.heap.size w W1 := by rw [hW1]; exact (Below.refl _ w).alloc (Nat.le_refl _) _
  have hs1 : W1.heap.size = w.heap.size + 1 := by rw [hW1]; simp
  have HE : Hid (Ex W1 e B s (.slice ai s.items.length ci) (.slice aw s.way.length cw) (.slice aa s.acks.length ca)) := h.below hB1
  have HR : Hid (Sv W1 w.heap.size (.int .i64 0) (.slice none 0 0) (.int .i64 0) (.slice none 0 0) (.slice none 0 0) (.slice none 0 0)) := by rw [hW1]; exact Sv.fresh w _ _ _ _ _ _ _
  have HB1 : Hid (type_of% hB1) := hB1
  have hI0 : ToD w W1 s e W1.heap.size ai aa ci ca (Array.replicate 32 false) ⟨#[.pointer (some ⟨e, 0, none⟩), undef, .pointer (some ⟨w.heap.size, 0, none⟩), undef, undef, undef, undef, undef, undef, undef, undef, undef, undef, undef, undef, undef, undef, undef, undef, undef, undef, undef, undef, undef, undef, undef, undef, undef, undef, undef, undef, undef, undef, undef, undef, undef, undef, undef, undef, undef, undef, undef, undef, undef, undef, undef, undef, undef, undef, undef, undef, undef, undef, undef, undef, undef, undef, undef], []⟩ W1.drew := by
    refine ⟨by simp, (Below.refl _ W1).drew, _, _, _, _, _, _, _, _, _, _, _, _, _, _, _, _, _, _, _, _, _, _, _, _, _, _, _, _, _, _, _, rfl, ?_, ?_, ?_, ?_, ?_, ?_, ?_, ?_, ?_, ?_, ?_, ?_, ?_, ?_, ?_, ?_, ?_, ?_, ?_, ?_, ?_, ?_, ?_, ?_, ?_, ?_, ?_, ?_, ?_, ?_, ?_, ?_, ?_⟩
    all_goals
      intro h
      exact absurd h (by decide)
  have HI0 : Hid (type_of% hI0) := hI0
  clear hI0 h hg hB1
  go_enter Try.func75, Try.ntmps75
  go_upto_region 1 with fail
  rw [← hW1]
  clear hW1
  refine wp_region_held_drew (S := fun _ => True) (by kernel_rfl) trivial (fun _ => ?_)
  refine wpAnyH_inv (ToD w W1 s e W1.heap.size ai aa ci ca) ?step ?fin _ _ _ _ HI0.out (by decide)
  case fin =>
    intro l a W hI h0
    obtain ⟨hls, hB, u6, u7, u8, u9, u10, u11, u12, u13, u14, u15, u16, u17, u18, u19, u20, u21, u22, u23, u24, u25, u26, u27, u28, u29, u30, u31, u32, u33, u34, u35, u3, rfl, c0, c1, c2, c3, c4, c5, c6, c7, c8, c9, c10, c11, c12, c13, c14, c15, c16, c17, c18, c19, c20, c21, c22, c23, c24, c25, c26, c27, c28, c29, c30, c31, p0⟩ := hI
    have b0 : l.getD 0 false = true := listed_of h0 0 _ (by omega) rfl (by intro e he; first | (simp at he; done) | skip; simp at he; (repeat (rcases he with rfl | he; · assumption)); all_goals (subst he; assumption))
    have b1 : l.getD 1 false = true := listed_of h0 1 _ (by omega) rfl (by intro e he; first | (simp at he; done) | skip; simp at he; (repeat (rcases he with rfl | he; · assumption)); all_goals (subst he; assumption))
    have b2 : l.getD 2 false = true := listed_of h0 2 _ (by omega) rfl (by intro e he; first | (simp at he; done) | skip; simp at he; (repeat (rcases he with rfl | he; · assumption)); all_goals (subst he; assumption))
    have b3 : l.getD 3 false = true := listed_of h0 3 _ (by omega) rfl (by intro e he; first | (simp at he; done) | skip; simp at he; (repeat (rcases he with rfl | he; · assumption)); all_goals (subst he; assumption))
    have b4 : l.getD 4 false = true := listed_of h0 4 _ (by omega) rfl (by intro e he; first | (simp at he; done) | skip; simp at he; (repeat (rcases he with rfl | he; · assumption)); all_goals (subst he; assumption))
    have b5 : l.getD 5 false = true := listed_of h0 5 _ (by omega) rfl (by intro e he; first | (simp at he; done) | skip; simp at he; (repeat (rcases he with rfl | he; · assumption)); all_goals (subst he; assumption))
    have b6 : l.getD 6 false = true := listed_of h0 6 _ (by omega) rfl (by intro e he; first | (simp at he; done) | skip; simp at he; (repeat (rcases he with rfl | he; · assumption)); all_goals (subst he; assumption))
    have b7 : l.getD 7 false = true := listed_of h0 7 _ (by omega) rfl (by intro e he; first | (simp at he; done) | skip; simp at he; (repeat (rcases he with rfl | he; · assumption)); all_goals (subst he; assumption))
    have b8 : l.getD 8 false = true := listed_of h0 8 _ (by omega) rfl (by intro e he; first | (simp at he; done) | skip; simp at he; (repeat (rcases he with rfl | he; · assumption)); all_goals (subst he; assumption))
    have b9 : l.getD 9 false = true := listed_of h0 9 _ (by omega) rfl (by intro e he; first | (simp at he; done) | skip; simp at he; (repeat (rcases he with rfl | he; · assumption)); all_goals (subst he; assumption))
    have b10 : l.getD 10 false = true := listed_of h0 10 _ (by omega) rfl (by intro e he; first | (simp at he; done) | skip; simp at he; (repeat (rcases he with rfl | he; · assumption)); all_goals (subst he; assumption))
    have b11 : l.getD 11 false = true := listed_of h0 11 _ (by omega) rfl (by intro e he; first | (simp at he; done) | skip; simp at he; (repeat (rcases he with rfl | he; · assumption)); all_goals (subst he; assumption))
    have b12 : l.getD 12 false = true := listed_of h0 12 _ (by omega) rfl (by intro e he; first | (simp at he; done) | skip; simp at he; (repeat (rcases he with rfl | he; · assumption)); all_goals (subst he; assumption))
    have b13 : l.getD 13 false = true := listed_of h0 13 _ (by omega) rfl (by intro e he; first | (simp at he; done) | skip; simp at he; (repeat (rcases he with rfl | he; · assumption)); all_goals (subst he; assumption))
    have b14 : l.getD 14 false = true := listed_of h0 14 _ (by omega) rfl (by intro e he; first | (simp at he; done) | skip; simp at he; (repeat (rcases he with rfl | he; · assumption)); all_goals (subst he; assumption))
    have b15 : l.getD 15 false = true := listed_of h0 15 _ (by omega) rfl (by intro e he; first | (simp at he; done) | skip; simp at he; (repeat (rcases he with rfl | he; · assumption)); all_goals (subst he; assumption))
    have b16 : l.getD 16 false = true := listed_of h0 16 _ (by omega) rfl (by intro e he; first | (simp at he; done) | skip; simp at he; (repeat (rcases he with rfl | he; · assumption)); all_goals (subst he; assumption))
    have b17 : l.getD 17 false = true := listed_of h0 17 _ (by omega) rfl (by intro e he; first | (simp at he; done) | skip; simp at he; (repeat (rcases he with rfl | he; · assumption)); all_goals (subst he; assumption))
    have b18 : l.getD 18 false = true := listed_of h0 18 _ (by omega) rfl (by intro e he; first | (simp at he; done) | skip; simp at he; (repeat (rcases he with rfl | he; · assumption)); all_goals (subst he; assumption))
    have b19 : l.getD 19 false = true := listed_of h0 19 _ (by omega) rfl (by intro e he; first | (simp at he; done) | skip; simp at he; (repeat (rcases he with rfl | he; · assumption)); all_goals (subst he; assumption))
    have b20 : l.getD 20 false = true := listed_of h0 20 _ (by omega) rfl (by intro e he; first | (simp at he; done) | skip; simp at he; (repeat (rcases he with rfl | he; · assumption)); all_goals (subst he; assumption))
    have b21 : l.getD 21 false = true := listed_of h0 21 _ (by omega) rfl (by intro e he; first | (simp at he; done) | skip; simp at he; (repeat (rcases he with rfl | he; · assumption)); all_goals (subst he; assumption))
    have b22 : l.getD 22 false = true := listed_of h0 22 _ (by omega) rfl (by intro e he; first | (simp at he; done) | skip; simp at he; (repeat (rcases he with rfl | he; · assumption)); all_goals (subst he; assumption))
    have b23 : l.getD 23 false = true := listed_of h0 23 _ (by omega) rfl (by intro e he; first | (simp at he; done) | skip; simp at he; (repeat (rcases he with rfl | he; · assumption)); all_goals (subst he; assumption))
    have b24 : l.getD 24 false = true := listed_of h0 24 _ (by omega) rfl (by intro e he; first | (simp at he; done) | skip; simp at he; (repeat (rcases he with rfl | he; · assumption)); all_goals (subst he; assumption))
    have b25 : l.getD 25 false = true := listed_of h0 25 _ (by omega) rfl (by intro e he; first | (simp at he; done) | skip; simp at he; (repeat (rcases he with rfl | he; · assumption)); all_goals (subst he; assumption))
    have b26 : l.getD 26 false = true := listed_of h0 26 _ (by omega) rfl (by intro e he; first | (simp at he; done) | skip; simp at he; (repeat (rcases he with rfl | he; · assumption)); all_goals (subst he; assumption))
    have b27 : l.getD 27 false = true := listed_of h0 27 _ (by omega) rfl (by intro e he; first | (simp at he; done) | skip; simp at he; (repeat (rcases he with rfl | he; · assumption)); all_goals (subst he; assumption))
    have b28 : l.getD 28 false = true := listed_of h0 28 _ (by omega) rfl (by intro e he; first | (simp at he; done) | skip; simp at he; (repeat (rcases he with rfl | he; · assumption)); all_goals (subst he; assumption))
    have b29 : l.getD 29 false = true := listed_of h0 29 _ (by omega) rfl (by intro e he; first | (simp at he; done) | skip; simp at he; (repeat (rcases he with rfl | he; · assumption)); all_goals (subst he; assumption))
    have b30 : l.getD 30 false = true := listed_of h0 30 _ (by omega) rfl (by intro e he; first | (simp at he; done) | skip; simp at he; (repeat (rcases he with rfl | he; · assumption)); all_goals (subst he; assumption))
    have b31 : l.getD 31 false = true := listed_of h0 31 _ (by omega) rfl (by intro e he; first | (simp at he; done) | skip; simp at he; (repeat (rcases he with rfl | he; · assumption)); all_goals (subst he; assumption))
    obtain ⟨g, q1, q2, _, q4, q5, q6, q7⟩ := c30 b30
    subst q1
    obtain ⟨a14, k14, e14, r14⟩ := c8 b8
    obtain ⟨a28, k28, e28, r28⟩ := c22 b22
    obtain ⟨a34, k34, e34, r34⟩ := c28 b28
    have hV := q7 b31
    have q8 := p0 b8 b22
    subst e14 e28 e34
    have HSR : Hid (SesRow W W1.heap.size { s with way := [] } (.slice a14 s.items.length k14) (.slice a28 s.handed.length k28) (.slice none 0 0) (.slice a34 s.acks.length k34)) := ⟨r14, r28, ⟨rfl, .inl ⟨rfl, rfl⟩⟩, r34, q8, fun _ _ q => by simp [Value.ownBlock] at q, diff_ty r14 r34 (by decide), fun _ _ q => by simp [Value.ownBlock] at q, diff_ty r28 r34 (by decide), fun _ q => by simp [Value.ownBlock] at q⟩
    have HNG : Hid (¬ P4 (.slice a14 s.items.length k14) (.slice a28 s.handed.length k28) (.slice none 0 0) (.slice a34 s.acks.length k34) g) := fun q => by
      rcases q with q | q | q | q
      · exact q4 b8 _ q rfl
      · exact q5 b22 _ q rfl
      · simp [Value.ownBlock] at q
      · exact q6 b28 _ q rfl
    have HV : Hid (type_of% hV) := hV
    have HB : Hid (Below W1.heap.size W1 W) := hB
    have hgl := q2.1
    have hEw := HE.out.below hB
    have x4 := hEw.v.c4
    clear hEw
    clear q2 q4 q5 q6 q7 q8 r14 r28 r34 hV hB c0 c1 c2 c3 c4 c5 c6 c7 c8 c9 c10 c11 c12 c13 c14 c15 c16 c17 c18 c19 c20 c21 c22 c23 c24 c25 c26 c27 c28 c29 c30 c31 p0 b0 b1 b2 b3 b4 b5 b6 b7 b8 b9 b10 b11 b12 b13 b14 b15 b16 b17 b18 b19 b20 b21 b22 b23 b24 b25 b26 b27 b28 b29 b30 b31 h0 hls
    (try dsimp only)
    go_wp2_with fail
    go_loopw [42] (fun vi wr => ∃ (i : Nat) (vy : Value), i ≤ s.way.length ∧ vi = .int .i64 (i : Int) ∧ Hid (Sv wr g (.int .i64 s.ep) (.slice a14 s.items.length k14) (.int .i64 s.base) (.slice a28 s.handed.length k28) vy (.slice a34 s.acks.length k34)) ∧ Hid (SesRow wr W1.heap.size { s with way := s.way.take i } (.slice a14 s.items.length k14) (.slice a28 s.handed.length k28) vy (.slice a34 s.acks.length k34)) ∧ Hid (¬ P4 (.slice a14 s.items.length k14) (.slice a28 s.handed.length k28) vy (.slice a34 s.acks.length k34) g) ∧ Below W1.heap.size W1 wr)
      (fun vi _ => s.way.length - (intOf vi).toNat)
    case atStart => exact ⟨0, .slice none 0 0, by omega, rfl, HV.out, HSR.out, HNG.out, HB.out⟩
    case round =>
      obtain ⟨i, vy, hil2, rfl, HVr, HSr, HNr, hbw⟩ := hrel
      have hs9 := hbw.size
      by_cases hlt : i < s.way.length
      · have hltI : (i : Int) < (s.way.length : Int) := by omega
        have hEr := HE.out.below hbw
        obtain ⟨aw', cw', hv', _, _, hrw⟩ := hEr.r.at.y
        dsimp only at hv' hrw
        simp only [Value.slice.injEq] at hv'
        obtain ⟨rfl, -, rfl⟩ := hv'
        obtain ⟨gp, op, rfl, hgp, hpk⟩ := hrw i hlt
        have htk : Hid (s.way.take (i + 1) = s.way.take i ++ [pk s.way i]) := by
          show _ = _
          rw [List.take_add_one]
          unfold pk
          rw [List.getD_eq_getElem?_getD, List.getElem?_eq_getElem hlt]
          rfl
        have hLl : Hid ((s.way.take i).length = i) := by show _ = _; rw [List.length_take]; omega
        have hty := HSY.out i hlt
        generalize s.way.take i = L at HSr HVr HNr htk hLl
        generalize pk s.way i = p at hpk htk hty
        obtain ⟨pe, pn, pt⟩ := p
        obtain ⟨d0, d1, d2⟩ := hpk
        dsimp only at d0 d1 d2 hty
        obtain ⟨ay, cy, hvy, _, _⟩ := PkRow.slice HSr.out.y
        dsimp only at hvy
        rw [hLl.out] at hvy
        subst hvy
        clear hEr hrw
        obtain ⟨W2, hW2⟩ : ∃ X, X = wr.alloc (.cells #[.int .i64 pe, .int .i64 pn, .string pt] 84) := ⟨_, rfl⟩
        have hb2 : Below wr.heap.size wr W2 := by rw [hW2]; exact (Below.refl _ wr).alloc (Nat.le_refl _) _
        have HZ2 : Hid (Bz W2 wr.heap.size (.int .i64 pe) (.int .i64 pn) (.string pt)) := by rw [hW2]; exact Bz.fresh wr _ _ _ _
        have CC := clone_any pt W2 (by omega)
        have HB2 : Hid (type_of% hb2) := hb2
        have hglt : g < wr.heap.size := HVr.out.low
        have y2 := HZ2.out.c2
        clear hb2
        go_upto_region 5 with fail
        rw [← hW2]
        clear hW2 d0 d1 d2
        go_wp2_with fail
        go_at_call 49
        refine CC.mono ?_
        rintro r w3 ⟨rfl, hb3⟩
        have HZ3 : Hid (Bz w3 wr.heap.size (.int .i64 pe) (.int .i64 pn) (.string pt)) := HZ2.out.below hb3
        have hb4 : Below wr.heap.size wr (w3.setCell ⟨wr.heap.size, 2, none⟩ (.string pt)) := (HB2.out.trans (hb3.mono HB2.out.size)).setCell (p := ⟨wr.heap.size, 2, none⟩) (Nat.le_refl _) _
        have HZ4 : Hid (Bz (w3.setCell ⟨wr.heap.size, 2, none⟩ (.string pt)) wr.heap.size (.int .i64 pe) (.int .i64 pn) (.string pt)) := HZ3.out.put2
        have z2 := HZ3.out.f2
        have z2c := HZ3.out.c2
        obtain ⟨W4, hW4⟩ : ∃ X, X = w3.setCell ⟨wr.heap.size, 2, none⟩ (.string pt) := ⟨_, rfl⟩
        rw [← hW4] at hb4 HZ4
        have HV4 : Hid (Sv W4 g (.int .i64 s.ep) (.slice a14 s.items.length k14) (.int .i64 s.base) (.slice a28 s.handed.length k28) (.slice ay i cy) (.slice a34 s.acks.length k34)) := HVr.out.below hb4
        have HS4 : Hid (SesRow W4 W1.heap.size { s with way := L } (.slice a14 s.items.length k14) (.slice a28 s.handed.length k28) (.slice ay i cy) (.slice a34 s.acks.length k34)) := HSr.out.below hb4
        have HOW : Hid (W4.ownsRow W1.heap.size 84 3 (.slice ay i cy) i (L.flatMap Pk.cells)) := by
          have h9 := HS4.out.y
          unfold PkRow at h9
          dsimp only at h9
          rw [hLl.out] at h9
          exact h9
        have HB4 : Hid (Below W1.heap.size W1 W4) := hbw.trans (hb4.mono hs9)
        have hs4 : W1.heap.size ≤ W4.heap.size := HB4.out.size
        have hi12 : i < 12 := by omega
        clear hb3 hb4 y2 CC hbw
        go_upto_region 6 with fail
        rw [← hW4]
        clear hW4 z2 z2c
        have y0 := HZ4.out.c0
        have y1 := HZ4.out.c1
        have y2 := HZ4.out.c2
        have t4 := HV4.out.c4
        go_wp2_with (at_builtin; refine wpList_append_lies _ rfl _ _ 23 rfl W1.heap.size 84 p0 (.agg #[.int .i64 0, .int .i64 0, .string ⟨#[]⟩]) 3 32 Try.underlying23 hp hpz0 hpz1 hpz2 rfl (by decide) _ i _ rfl (World.ownsRow.alloc HOW.out _) ⟨W4.heap.size, 0, none⟩ 1 1 (Pk.cells ⟨pe, pn, pt⟩) rfl rfl (World.news_of_block (heap_alloc_new W4 _)) (Pk.cells_one _) (by omega) (by unfold maxLen; omega) (by omega) (by simp; omega) (W4.heap.size + 1) (by simp) ?_; intro g9 cap9 w9 hown9 hgrow9 hat9 hlt9; have hQ := SesRow.appY HS4.out hown9 (by dsimp only; rw [hLl.out]) hgrow9 hat9; have HQ : Hid (type_of% hQ) := hQ; have HV9 : Hid (Sv w9 g (.int .i64 s.ep) (.slice a14 s.items.length k14) (.int .i64 s.base) (.slice a28 s.handed.length k28) (.slice ay i cy) (.slice a34 s.acks.length k34)) := HV4.out.step hQ.2 HNr.out; have t9 := HV9.out.c4; have f9 := HV9.out.f4; clear hown9 hgrow9 hat9 hlt9 hQ)
        go_roundw
        case rel =>
          have hN9 := HQ.out.2.avoid HV4.out.low HNr.out
          refine ⟨i + 1, .slice (some ⟨g9, 0, none⟩) (i + 1) cap9, by omega, by go_num, HV9.out.set4 _, ?_, hN9, ?_⟩
          · show SesRow _ _ _ _ _ _ _
            rw [htk.out]
            exact HQ.out.1.setC hN9
          · exact (HB4.out.trans (HQ.out.2.below hs4 (fun k hk => (HS4.out.lt4 k hk).1))).setCell (p := ⟨g, 4, none⟩) hgl _
        case measure => simp [intOf]; omega
      · have hke : i = s.way.length := by omega
        have hge : ¬ ((i : Int) < (s.way.length : Int)) := by omega
        have HSF : Hid (SesRow wr W1.heap.size s (.slice a14 s.items.length k14) (.slice a28 s.handed.length k28) vy (.slice a34 s.acks.length k34)) := by
          have h9 := HSr.out
          rw [hke, List.take_of_length_le (Nat.le_refl _)] at h9
          exact h9
        obtain ⟨ay, cy, rfl, _, _⟩ := PkRow.slice HSF.out.y
        have t0 := HVr.out.c0
        have t1 := HVr.out.c1
        have t2 := HVr.out.c2
        have t3 := HVr.out.c3
        have t4 := HVr.out.c4
        have t5 := HVr.out.c5
        have hRr := HR.out.below hbw
        have HRr : Hid (type_of% hRr) := hRr
        have v0 := hRr.c0
        have v1 := hRr.c1
        have v2 := hRr.c2
        have v3 := hRr.c3
        have v4 := hRr.c4
        have v5 := hRr.c5
        have f0 := hRr.f0
        have f1 := hRr.f1
        have f2 := hRr.f2
        have f3 := hRr.f3
        have f4 := hRr.f4
        have f5 := hRr.f5
        have HBF : Hid (Below w.heap.size w wr) := HB1.out.trans (hbw.mono HB1.out.size)
        clear hke hRr hbw HSr
        go_wp2_with fail
        (try simp only [Exit.inBlock, Exit.then])
        refine bodyPost_ret (v := .agg #[.int .i64 s.ep, .slice a14 s.items.length k14, .int .i64 s.base, .slice a28 s.handed.length k28, .slice ay s.way.length cy, .slice a34 s.acks.length k34]) ?_ rfl ?_
        · rw [rc]
          go_simp
        · refine ⟨_, _, _, _, rfl, SesRow.set6 (SesRow.lower HSF.out (by omega)) (fun q => by have := (HSF.out.lt4 _ q).1; omega), ?_⟩
          exact (((((HBF.out.setCell (p := ⟨w.heap.size, 0, none⟩) (Nat.le_refl _) _).setCell (p := ⟨w.heap.size, 1, none⟩) (Nat.le_refl _) _).setCell (p := ⟨w.heap.size, 2, none⟩) (Nat.le_refl _) _).setCell (p := ⟨w.heap.size, 3, none⟩) (Nat.le_refl _) _).setCell (p := ⟨w.heap.size, 4, none⟩) (Nat.le_refl _) _).setCell (p := ⟨w.heap.size, 5, none⟩) (Nat.le_refl _) _
  case step =>
    intro l a W i hI hi K hK
    have hlt := ready_lt hi
    obtain ⟨hls, hB, u6, u7, u8, u9, u10, u11, u12, u13, u14, u15, u16, u17, u18, u19, u20, u21, u22, u23, u24, u25, u26, u27, u28, u29, u30, u31, u32, u33, u34, u35, u3, rfl, c0, c1, c2, c3, c4, c5, c6, c7, c8, c9, c10, c11, c12, c13, c14, c15, c16, c17, c18, c19, c20, c21, c22, c23, c24, c25, c26, c27, c28, c29, c30, c31, p0⟩ := hI
    have hlt' : i < 32 := hlt
    have hEw := HE.out.below hB
    have hsz := hB.size
    rcases (show i = 0 ∨ i = 1 ∨ i = 2 ∨ i = 3 ∨ i = 4 ∨ i = 5 ∨ i = 6 ∨ i = 7 ∨ i = 8 ∨ i = 9 ∨ i = 10 ∨ i = 11 ∨ i = 12 ∨ i = 13 ∨ i = 14 ∨ i = 15 ∨ i = 16 ∨ i = 17 ∨ i = 18 ∨ i = 19 ∨ i = 20 ∨ i = 21 ∨ i = 22 ∨ i = 23 ∨ i = 24 ∨ i = 25 ∨ i = 26 ∨ i = 27 ∨ i = 28 ∨ i = 29 ∨ i = 30 ∨ i = 31 by omega) with rfl | rfl | rfl | rfl | rfl | rfl | rfl | rfl | rfl | rfl | rfl | rfl | rfl | rfl | rfl | rfl | rfl | rfl | rfl | rfl | rfl | rfl | rfl | rfl | rfl | rfl | rfl | rfl | rfl | rfl | rfl | rfl
    · -- 0
      clear hEw
      refine wpOp_step rfl (fun K' hK' => ?_)
      have HK : Hid (∀ a w, K a w → K' a w) := hK'
      have HK2 : Hid (type_of% hK) := hK
      clear hK hK'
      go_simp
      exact HK.out _ _ (HK2.out _ _ ⟨by simp [hls], hB, _, _, _, _, _, _, _, _, _, _, _, _, _, _, _, _, _, _, _, _, _, _, _, _, _, _, _, _, _, _, _, rfl, fun _ => rfl, fun h => (c1 (getD_ne h (by decide))), fun h => (c2 (getD_ne h (by decide))), fun h => (c3 (getD_ne h (by decide))), fun h => (c4 (getD_ne h (by decide))), fun h => (c5 (getD_ne h (by decide))), fun h => (c6 (getD_ne h (by decide))), fun h => (c7 (getD_ne h (by decide))), fun h => (c8 (getD_ne h (by decide))), fun h => (c9 (getD_ne h (by decide))), fun h => (c10 (getD_ne h (by decide))), fun h => (c11 (getD_ne h (by decide))), fun h => (c12 (getD_ne h (by decide))), fun h => (c13 (getD_ne h (by decide))), fun h => (c14 (getD_ne h (by decide))), fun h => (c15 (getD_ne h (by decide))), fun h => (c16 (getD_ne h (by decide))), fun h => (c17 (getD_ne h (by decide))), fun h => (c18 (getD_ne h (by decide))), fun h => (c19 (getD_ne h (by decide))), fun h => (c20 (getD_ne h (by decide))), fun h => (c21 (getD_ne h (by decide))), fun h => (c22 (getD_ne h (by decide))), fun h => (c23 (getD_ne h (by decide))), fun h => (c24 (getD_ne h (by decide))), fun h => (c25 (getD_ne h (by decide))), fun h => (c26 (getD_ne h (by decide))), fun h => (c27 (getD_ne h (by decide))), fun h => (c28 (getD_ne h (by decide))), fun h => ⟨⟨getD_set_true (c29 (getD_ne h (by decide))).1.1, getD_set_true (c29 (getD_ne h (by decide))).1.2.1, getD_set_true (c29 (getD_ne h (by decide))).1.2.2⟩, (c29 (getD_ne h (by decide))).2⟩, fun h => by obtain ⟨g, q1, q2, q3, q4, q5, q6, q7⟩ := (c30 (getD_ne h (by decide))); exact ⟨g, q1, q2, q3, fun h5 => q4 (getD_ne h5 (by decide)), fun h5 => q5 (getD_ne h5 (by decide)), fun h5 => q6 (getD_ne h5 (by decide)), fun h5 => q7 (getD_ne h5 (by decide))⟩, fun h => ⟨getD_set_true (c31 (getD_ne h (by decide))).1, getD_set_true (c31 (getD_ne h (by decide))).2⟩, fun h h2 => p0 (getD_ne h (by decide)) (getD_ne h2 (by decide))⟩)
    · -- 1
      obtain rfl := c0 (by have hd := ready_deps hi (o := _) rfl; exact hd ⟨0, .data⟩ (by simp) (by rfl))
      clear hEw
      refine wpOp_step rfl (fun K' hK' => ?_)
      have HK : Hid (∀ a w, K a w → K' a w) := hK'
      have HK2 : Hid (type_of% hK) := hK
      clear hK hK'
      go_simp
      exact HK.out _ _ (HK2.out _ _ ⟨by simp [hls], hB, _, _, _, _, _, _, _, _, _, _, _, _, _, _, _, _, _, _, _, _, _, _, _, _, _, _, _, _, _, _, _, rfl, fun h => (c0 (getD_ne h (by decide))), fun _ => rfl, fun h => (c2 (getD_ne h (by decide))), fun h => (c3 (getD_ne h (by decide))), fun h => (c4 (getD_ne h (by decide))), fun h => (c5 (getD_ne h (by decide))), fun h => (c6 (getD_ne h (by decide))), fun h => (c7 (getD_ne h (by decide))), fun h => (c8 (getD_ne h (by decide))), fun h => (c9 (getD_ne h (by decide))), fun h => (c10 (getD_ne h (by decide))), fun h => (c11 (getD_ne h (by decide))), fun h => (c12 (getD_ne h (by decide))), fun h => (c13 (getD_ne h (by decide))), fun h => (c14 (getD_ne h (by decide))), fun h => (c15 (getD_ne h (by decide))), fun h => (c16 (getD_ne h (by decide))), fun h => (c17 (getD_ne h (by decide))), fun h => (c18 (getD_ne h (by decide))), fun h => (c19 (getD_ne h (by decide))), fun h => (c20 (getD_ne h (by decide))), fun h => (c21 (getD_ne h (by decide))), fun h => (c22 (getD_ne h (by decide))), fun h => (c23 (getD_ne h (by decide))), fun h => (c24 (getD_ne h (by decide))), fun h => (c25 (getD_ne h (by decide))), fun h => (c26 (getD_ne h (by decide))), fun h => (c27 (getD_ne h (by decide))), fun h => (c28 (getD_ne h (by decide))), fun h => ⟨⟨getD_set_true (c29 (getD_ne h (by decide))).1.1, getD_set_true (c29 (getD_ne h (by decide))).1.2.1, getD_set_true (c29 (getD_ne h (by decide))).1.2.2⟩, (c29 (getD_ne h (by decide))).2⟩, fun h => by obtain ⟨g, q1, q2, q3, q4, q5, q6, q7⟩ := (c30 (getD_ne h (by decide))); exact ⟨g, q1, q2, q3, fun h5 => q4 (getD_ne h5 (by decide)), fun h5 => q5 (getD_ne h5 (by decide)), fun h5 => q6 (getD_ne h5 (by decide)), fun h5 => q7 (getD_ne h5 (by decide))⟩, fun h => ⟨getD_set_true (c31 (getD_ne h (by decide))).1, getD_set_true (c31 (getD_ne h (by decide))).2⟩, fun h h2 => p0 (getD_ne h (by decide)) (getD_ne h2 (by decide))⟩)
    · -- 2
      obtain rfl := c1 (by have hd := ready_deps hi (o := _) rfl; exact hd ⟨1, .data⟩ (by simp) (by rfl))
      clear hEw
      refine wpOp_step rfl (fun K' hK' => ?_)
      have HK : Hid (∀ a w, K a w → K' a w) := hK'
      have HK2 : Hid (type_of% hK) := hK
      clear hK hK'
      go_simp
      exact HK.out _ _ (HK2.out _ _ ⟨by simp [hls], hB, _, _, _, _, _, _, _, _, _, _, _, _, _, _, _, _, _, _, _, _, _, _, _, _, _, _, _, _, _, _, _, rfl, fun h => (c0 (getD_ne h (by decide))), fun h => (c1 (getD_ne h (by decide))), fun _ => rfl, fun h => (c3 (getD_ne h (by decide))), fun h => (c4 (getD_ne h (by decide))), fun h => (c5 (getD_ne h (by decide))), fun h => (c6 (getD_ne h (by decide))), fun h => (c7 (getD_ne h (by decide))), fun h => (c8 (getD_ne h (by decide))), fun h => (c9 (getD_ne h (by decide))), fun h => (c10 (getD_ne h (by decide))), fun h => (c11 (getD_ne h (by decide))), fun h => (c12 (getD_ne h (by decide))), fun h => (c13 (getD_ne h (by decide))), fun h => (c14 (getD_ne h (by decide))), fun h => (c15 (getD_ne h (by decide))), fun h => (c16 (getD_ne h (by decide))), fun h => (c17 (getD_ne h (by decide))), fun h => (c18 (getD_ne h (by decide))), fun h => (c19 (getD_ne h (by decide))), fun h => (c20 (getD_ne h (by decide))), fun h => (c21 (getD_ne h (by decide))), fun h => (c22 (getD_ne h (by decide))), fun h => (c23 (getD_ne h (by decide))), fun h => (c24 (getD_ne h (by decide))), fun h => (c25 (getD_ne h (by decide))), fun h => (c26 (getD_ne h (by decide))), fun h => (c27 (getD_ne h (by decide))), fun h => (c28 (getD_ne h (by decide))), fun h => ⟨⟨getD_set_true (c29 (getD_ne h (by decide))).1.1, getD_set_true (c29 (getD_ne h (by decide))).1.2.1, getD_set_true (c29 (getD_ne h (by decide))).1.2.2⟩, (c29 (getD_ne h (by decide))).2⟩, fun h => by obtain ⟨g, q1, q2, q3, q4, q5, q6, q7⟩ := (c30 (getD_ne h (by decide))); exact ⟨g, q1, q2, q3, fun h5 => q4 (getD_ne h5 (by decide)), fun h5 => q5 (getD_ne h5 (by decide)), fun h5 => q6 (getD_ne h5 (by decide)), fun h5 => q7 (getD_ne h5 (by decide))⟩, fun h => ⟨getD_set_true (c31 (getD_ne h (by decide))).1, getD_set_true (c31 (getD_ne h (by decide))).2⟩, fun h h2 => p0 (getD_ne h (by decide)) (getD_ne h2 (by decide))⟩)
    · -- 3
      obtain rfl := c2 (by have hd := ready_deps hi (o := _) rfl; exact hd ⟨2, .data⟩ (by simp) (by rfl))
      have CC := now_any e 0 s.ep W hEw.v.c0
      clear hEw
      refine wpOp_step rfl (fun K' hK' => ?_)
      have HK : Hid (∀ a w, K a w → K' a w) := hK'
      have HK2 : Hid (type_of% hK) := hK
      clear hK hK'
      go_simp
      go_at_call 80
      refine CC.mono ?_
      rintro r W9 ⟨rfl, hw9⟩
      have hw9 := hw9.symm
      subst hw9
      (try go_simp)
      exact HK.out _ _ (HK2.out _ _ ⟨by simp [hls], hB, _, _, _, _, _, _, _, _, _, _, _, _, _, _, _, _, _, _, _, _, _, _, _, _, _, _, _, _, _, _, _, rfl, fun h => (c0 (getD_ne h (by decide))), fun h => (c1 (getD_ne h (by decide))), fun h => (c2 (getD_ne h (by decide))), fun _ => rfl, fun h => (c4 (getD_ne h (by decide))), fun h => (c5 (getD_ne h (by decide))), fun h => (c6 (getD_ne h (by decide))), fun h => (c7 (getD_ne h (by decide))), fun h => (c8 (getD_ne h (by decide))), fun h => (c9 (getD_ne h (by decide))), fun h => (c10 (getD_ne h (by decide))), fun h => (c11 (getD_ne h (by decide))), fun h => (c12 (getD_ne h (by decide))), fun h => (c13 (getD_ne h (by decide))), fun h => (c14 (getD_ne h (by decide))), fun h => (c15 (getD_ne h (by decide))), fun h => (c16 (getD_ne h (by decide))), fun h => (c17 (getD_ne h (by decide))), fun h => (c18 (getD_ne h (by decide))), fun h => (c19 (getD_ne h (by decide))), fun h => (c20 (getD_ne h (by decide))), fun h => (c21 (getD_ne h (by decide))), fun h => (c22 (getD_ne h (by decide))), fun h => (c23 (getD_ne h (by decide))), fun h => (c24 (getD_ne h (by decide))), fun h => (c25 (getD_ne h (by decide))), fun h => (c26 (getD_ne h (by decide))), fun h => (c27 (getD_ne h (by decide))), fun h => (c28 (getD_ne h (by decide))), fun h => ⟨⟨getD_set_true (c29 (getD_ne h (by decide))).1.1, getD_set_true (c29 (getD_ne h (by decide))).1.2.1, getD_set_true (c29 (getD_ne h (by decide))).1.2.2⟩, (c29 (getD_ne h (by decide))).2⟩, fun h => by obtain ⟨g, q1, q2, q3, q4, q5, q6, q7⟩ := (c30 (getD_ne h (by decide))); exact ⟨g, q1, q2, q3, fun h5 => q4 (getD_ne h5 (by decide)), fun h5 => q5 (getD_ne h5 (by decide)), fun h5 => q6 (getD_ne h5 (by decide)), fun h5 => q7 (getD_ne h5 (by decide))⟩, fun h => ⟨getD_set_true (c31 (getD_ne h (by decide))).1, getD_set_true (c31 (getD_ne h (by decide))).2⟩, fun h h2 => p0 (getD_ne h (by decide)) (getD_ne h2 (by decide))⟩)
    · -- 4
      clear hEw
      refine wpOp_step rfl (fun K' hK' => ?_)
      have HK : Hid (∀ a w, K a w → K' a w) := hK'
      have HK2 : Hid (type_of% hK) := hK
      clear hK hK'
      go_simp
      exact HK.out _ _ (HK2.out _ _ ⟨by simp [hls], hB, _, _, _, _, _, _, _, _, _, _, _, _, _, _, _, _, _, _, _, _, _, _, _, _, _, _, _, _, _, _, _, rfl, fun h => (c0 (getD_ne h (by decide))), fun h => (c1 (getD_ne h (by decide))), fun h => (c2 (getD_ne h (by decide))), fun h => (c3 (getD_ne h (by decide))), fun _ => rfl, fun h => (c5 (getD_ne h (by decide))), fun h => (c6 (getD_ne h (by decide))), fun h => (c7 (getD_ne h (by decide))), fun h => (c8 (getD_ne h (by decide))), fun h => (c9 (getD_ne h (by decide))), fun h => (c10 (getD_ne h (by decide))), fun h => (c11 (getD_ne h (by decide))), fun h => (c12 (getD_ne h (by decide))), fun h => (c13 (getD_ne h (by decide))), fun h => (c14 (getD_ne h (by decide))), fun h => (c15 (getD_ne h (by decide))), fun h => (c16 (getD_ne h (by decide))), fun h => (c17 (getD_ne h (by decide))), fun h => (c18 (getD_ne h (by decide))), fun h => (c19 (getD_ne h (by decide))), fun h => (c20 (getD_ne h (by decide))), fun h => (c21 (getD_ne h (by decide))), fun h => (c22 (getD_ne h (by decide))), fun h => (c23 (getD_ne h (by decide))), fun h => (c24 (getD_ne h (by decide))), fun h => (c25 (getD_ne h (by decide))), fun h => (c26 (getD_ne h (by decide))), fun h => (c27 (getD_ne h (by decide))), fun h => (c28 (getD_ne h (by decide))), fun h => ⟨⟨getD_set_true (c29 (getD_ne h (by decide))).1.1, getD_set_true (c29 (getD_ne h (by decide))).1.2.1, getD_set_true (c29 (getD_ne h (by decide))).1.2.2⟩, (c29 (getD_ne h (by decide))).2⟩, fun h => by obtain ⟨g, q1, q2, q3, q4, q5, q6, q7⟩ := (c30 (getD_ne h (by decide))); exact ⟨g, q1, q2, q3, fun h5 => q4 (getD_ne h5 (by decide)), fun h5 => q5 (getD_ne h5 (by decide)), fun h5 => q6 (getD_ne h5 (by decide)), fun h5 => q7 (getD_ne h5 (by decide))⟩, fun h => ⟨getD_set_true (c31 (getD_ne h (by decide))).1, getD_set_true (c31 (getD_ne h (by decide))).2⟩, fun h h2 => p0 (getD_ne h (by decide)) (getD_ne h2 (by decide))⟩)
    · -- 5
      obtain rfl := c4 (by have hd := ready_deps hi (o := _) rfl; exact hd ⟨4, .data⟩ (by simp) (by rfl))
      clear hEw
      refine wpOp_step rfl (fun K' hK' => ?_)
      have HK : Hid (∀ a w, K a w → K' a w) := hK'
      have HK2 : Hid (type_of% hK) := hK
      clear hK hK'
      go_simp
      exact HK.out _ _ (HK2.out _ _ ⟨by simp [hls], hB, _, _, _, _, _, _, _, _, _, _, _, _, _, _, _, _, _, _, _, _, _, _, _, _, _, _, _, _, _, _, _, rfl, fun h => (c0 (getD_ne h (by decide))), fun h => (c1 (getD_ne h (by decide))), fun h => (c2 (getD_ne h (by decide))), fun h => (c3 (getD_ne h (by decide))), fun h => (c4 (getD_ne h (by decide))), fun _ => rfl, fun h => (c6 (getD_ne h (by decide))), fun h => (c7 (getD_ne h (by decide))), fun h => (c8 (getD_ne h (by decide))), fun h => (c9 (getD_ne h (by decide))), fun h => (c10 (getD_ne h (by decide))), fun h => (c11 (getD_ne h (by decide))), fun h => (c12 (getD_ne h (by decide))), fun h => (c13 (getD_ne h (by decide))), fun h => (c14 (getD_ne h (by decide))), fun h => (c15 (getD_ne h (by decide))), fun h => (c16 (getD_ne h (by decide))), fun h => (c17 (getD_ne h (by decide))), fun h => (c18 (getD_ne h (by decide))), fun h => (c19 (getD_ne h (by decide))), fun h => (c20 (getD_ne h (by decide))), fun h => (c21 (getD_ne h (by decide))), fun h => (c22 (getD_ne h (by decide))), fun h => (c23 (getD_ne h (by decide))), fun h => (c24 (getD_ne h (by decide))), fun h => (c25 (getD_ne h (by decide))), fun h => (c26 (getD_ne h (by decide))), fun h => (c27 (getD_ne h (by decide))), fun h => (c28 (getD_ne h (by decide))), fun h => ⟨⟨getD_set_true (c29 (getD_ne h (by decide))).1.1, getD_set_true (c29 (getD_ne h (by decide))).1.2.1, getD_set_true (c29 (getD_ne h (by decide))).1.2.2⟩, (c29 (getD_ne h (by decide))).2⟩, fun h => by obtain ⟨g, q1, q2, q3, q4, q5, q6, q7⟩ := (c30 (getD_ne h (by decide))); exact ⟨g, q1, q2, q3, fun h5 => q4 (getD_ne h5 (by decide)), fun h5 => q5 (getD_ne h5 (by decide)), fun h5 => q6 (getD_ne h5 (by decide)), fun h5 => q7 (getD_ne h5 (by decide))⟩, fun h => ⟨getD_set_true (c31 (getD_ne h (by decide))).1, getD_set_true (c31 (getD_ne h (by decide))).2⟩, fun h h2 => p0 (getD_ne h (by decide)) (getD_ne h2 (by decide))⟩)
    · -- 6
      obtain rfl := c5 (by have hd := ready_deps hi (o := _) rfl; exact hd ⟨5, .data⟩ (by simp) (by rfl))
      clear hEw
      refine wpOp_step rfl (fun K' hK' => ?_)
      have HK : Hid (∀ a w, K a w → K' a w) := hK'
      have HK2 : Hid (type_of% hK) := hK
      clear hK hK'
      go_simp
      exact HK.out _ _ (HK2.out _ _ ⟨by simp [hls], hB, _, _, _, _, _, _, _, _, _, _, _, _, _, _, _, _, _, _, _, _, _, _, _, _, _, _, _, _, _, _, _, rfl, fun h => (c0 (getD_ne h (by decide))), fun h => (c1 (getD_ne h (by decide))), fun h => (c2 (getD_ne h (by decide))), fun h => (c3 (getD_ne h (by decide))), fun h => (c4 (getD_ne h (by decide))), fun h => (c5 (getD_ne h (by decide))), fun _ => rfl, fun h => (c7 (getD_ne h (by decide))), fun h => (c8 (getD_ne h (by decide))), fun h => (c9 (getD_ne h (by decide))), fun h => (c10 (getD_ne h (by decide))), fun h => (c11 (getD_ne h (by decide))), fun h => (c12 (getD_ne h (by decide))), fun h => (c13 (getD_ne h (by decide))), fun h => (c14 (getD_ne h (by decide))), fun h => (c15 (getD_ne h (by decide))), fun h => (c16 (getD_ne h (by decide))), fun h => (c17 (getD_ne h (by decide))), fun h => (c18 (getD_ne h (by decide))), fun h => (c19 (getD_ne h (by decide))), fun h => (c20 (getD_ne h (by decide))), fun h => (c21 (getD_ne h (by decide))), fun h => (c22 (getD_ne h (by decide))), fun h => (c23 (getD_ne h (by decide))), fun h => (c24 (getD_ne h (by decide))), fun h => (c25 (getD_ne h (by decide))), fun h => (c26 (getD_ne h (by decide))), fun h => (c27 (getD_ne h (by decide))), fun h => (c28 (getD_ne h (by decide))), fun h => ⟨⟨getD_set_true (c29 (getD_ne h (by decide))).1.1, getD_set_true (c29 (getD_ne h (by decide))).1.2.1, getD_set_true (c29 (getD_ne h (by decide))).1.2.2⟩, (c29 (getD_ne h (by decide))).2⟩, fun h => by obtain ⟨g, q1, q2, q3, q4, q5, q6, q7⟩ := (c30 (getD_ne h (by decide))); exact ⟨g, q1, q2, q3, fun h5 => q4 (getD_ne h5 (by decide)), fun h5 => q5 (getD_ne h5 (by decide)), fun h5 => q6 (getD_ne h5 (by decide)), fun h5 => q7 (getD_ne h5 (by decide))⟩, fun h => ⟨getD_set_true (c31 (getD_ne h (by decide))).1, getD_set_true (c31 (getD_ne h (by decide))).2⟩, fun h h2 => p0 (getD_ne h (by decide)) (getD_ne h2 (by decide))⟩)
    · -- 7
      obtain rfl := c6 (by have hd := ready_deps hi (o := _) rfl; exact hd ⟨6, .data⟩ (by simp) (by rfl))
      have y3 := hEw.v.c3
      clear hEw
      refine wpOp_step rfl (fun K' hK' => ?_)
      have HK : Hid (∀ a w, K a w → K' a w) := hK'
      have HK2 : Hid (type_of% hK) := hK
      clear hK hK'
      go_simp
      exact HK.out _ _ (HK2.out _ _ ⟨by simp [hls], hB, _, _, _, _, _, _, _, _, _, _, _, _, _, _, _, _, _, _, _, _, _, _, _, _, _, _, _, _, _, _, _, rfl, fun h => (c0 (getD_ne h (by decide))), fun h => (c1 (getD_ne h (by decide))), fun h => (c2 (getD_ne h (by decide))), fun h => (c3 (getD_ne h (by decide))), fun h => (c4 (getD_ne h (by decide))), fun h => (c5 (getD_ne h (by decide))), fun h => (c6 (getD_ne h (by decide))), fun _ => rfl, fun h => (c8 (getD_ne h (by decide))), fun h => (c9 (getD_ne h (by decide))), fun h => (c10 (getD_ne h (by decide))), fun h => (c11 (getD_ne h (by decide))), fun h => (c12 (getD_ne h (by decide))), fun h => (c13 (getD_ne h (by decide))), fun h => (c14 (getD_ne h (by decide))), fun h => (c15 (getD_ne h (by decide))), fun h => (c16 (getD_ne h (by decide))), fun h => (c17 (getD_ne h (by decide))), fun h => (c18 (getD_ne h (by decide))), fun h => (c19 (getD_ne h (by decide))), fun h => (c20 (getD_ne h (by decide))), fun h => (c21 (getD_ne h (by decide))), fun h => (c22 (getD_ne h (by decide))), fun h => (c23 (getD_ne h (by decide))), fun h => (c24 (getD_ne h (by decide))), fun h => (c25 (getD_ne h (by decide))), fun h => (c26 (getD_ne h (by decide))), fun h => (c27 (getD_ne h (by decide))), fun h => (c28 (getD_ne h (by decide))), fun h => ⟨⟨getD_set_true (c29 (getD_ne h (by decide))).1.1, getD_set_true (c29 (getD_ne h (by decide))).1.2.1, getD_set_true (c29 (getD_ne h (by decide))).1.2.2⟩, (c29 (getD_ne h (by decide))).2⟩, fun h => by obtain ⟨g, q1, q2, q3, q4, q5, q6, q7⟩ := (c30 (getD_ne h (by decide))); exact ⟨g, q1, q2, q3, fun h5 => q4 (getD_ne h5 (by decide)), fun h5 => q5 (getD_ne h5 (by decide)), fun h5 => q6 (getD_ne h5 (by decide)), fun h5 => q7 (getD_ne h5 (by decide))⟩, fun h => ⟨getD_set_true (c31 (getD_ne h (by decide))).1, getD_set_true (c31 (getD_ne h (by decide))).2⟩, fun h h2 => p0 (getD_ne h (by decide)) (getD_ne h2 (by decide))⟩)
    · -- 8
      obtain rfl := c7 (by have hd := ready_deps hi (o := _) rfl; exact hd ⟨7, .data⟩ (by simp) (by rfl))
      have hoff := ready_off hi (by omega)
      have CC := copyTexts_any s.items _ W hEw.r.at.i HSZ.out (by omega)
      clear hEw
      refine wpOp_step rfl (fun K' hK' => ?_)
      have HK : Hid (∀ a w, K a w → K' a w) := hK'
      have HK2 : Hid (type_of% hK) := hK
      clear hK hK'
      go_simp
      go_at_call 69
      refine CC.mono ?_
      rintro r W9 ⟨v9, rfl, hr, hb⟩
      obtain ⟨ra, rk, rfl⟩ := StRow.slice hr
      (try go_simp)
      exact HK.out _ _ (HK2.out _ _ ⟨by simp [hls], hB.trans (hb.mono hB.size), _, _, _, _, _, _, _, _, _, _, _, _, _, _, _, _, _, _, _, _, _, _, _, _, _, _, _, _, _, _, _, rfl, fun h => (c0 (getD_ne h (by decide))), fun h => (c1 (getD_ne h (by decide))), fun h => (c2 (getD_ne h (by decide))), fun h => (c3 (getD_ne h (by decide))), fun h => (c4 (getD_ne h (by decide))), fun h => (c5 (getD_ne h (by decide))), fun h => (c6 (getD_ne h (by decide))), fun h => (c7 (getD_ne h (by decide))), fun _ => ⟨_, _, rfl, own_lower hr hsz⟩, fun h => (c9 (getD_ne h (by decide))), fun h => (c10 (getD_ne h (by decide))), fun h => (c11 (getD_ne h (by decide))), fun h => (c12 (getD_ne h (by decide))), fun h => (c13 (getD_ne h (by decide))), fun h => (c14 (getD_ne h (by decide))), fun h => (c15 (getD_ne h (by decide))), fun h => (c16 (getD_ne h (by decide))), fun h => (c17 (getD_ne h (by decide))), fun h => (c18 (getD_ne h (by decide))), fun h => (c19 (getD_ne h (by decide))), fun h => (c20 (getD_ne h (by decide))), fun h => (c21 (getD_ne h (by decide))), fun h => by obtain ⟨a, k, e, r⟩ := (c22 (getD_ne h (by decide))); exact ⟨a, k, e, own_belowY r hb⟩, fun h => (c23 (getD_ne h (by decide))), fun h => (c24 (getD_ne h (by decide))), fun h => (c25 (getD_ne h (by decide))), fun h => (c26 (getD_ne h (by decide))), fun h => (c27 (getD_ne h (by decide))), fun h => by obtain ⟨a, k, e, r⟩ := (c28 (getD_ne h (by decide))); exact ⟨a, k, e, own_belowY r hb⟩, fun h => absurd (c29 (getD_ne h (by decide))).1.1 (by rw [hoff]; decide), fun h => by obtain ⟨g, q1, q2, ⟨y0, y1, y2, y3, y4, y5, q3⟩, q4, q5, q6, q7⟩ := (c30 (getD_ne h (by decide))); exact ⟨g, q1, ⟨q2.1, Nat.lt_of_lt_of_le q2.2 hb.size⟩, ⟨y0, y1, y2, y3, y4, y5, q3.below hb⟩, fun _ k hk => by have := (World.ownsRow.lt hr k hk).1; omega, fun h5 => q5 (getD_ne h5 (by decide)), fun h5 => q6 (getD_ne h5 (by decide)), fun h5 => absurd (c29 (c31 (getD_ne h5 (by decide))).1).1.1 (by rw [hoff]; decide)⟩, fun h => ⟨getD_set_true (c31 (getD_ne h (by decide))).1, getD_set_true (c31 (getD_ne h (by decide))).2⟩, fun _ h2 => by obtain ⟨a, k, e, r⟩ := c22 (getD_ne h2 (by decide)); exact (apart_newS r hr (Nat.le_refl _)).2⟩)
    · -- 9
      clear hEw
      refine wpOp_step rfl (fun K' hK' => ?_)
      have HK : Hid (∀ a w, K a w → K' a w) := hK'
      have HK2 : Hid (type_of% hK) := hK
      clear hK hK'
      go_simp
      exact HK.out _ _ (HK2.out _ _ ⟨by simp [hls], hB, _, _, _, _, _, _, _, _, _, _, _, _, _, _, _, _, _, _, _, _, _, _, _, _, _, _, _, _, _, _, _, rfl, fun h => (c0 (getD_ne h (by decide))), fun h => (c1 (getD_ne h (by decide))), fun h => (c2 (getD_ne h (by decide))), fun h => (c3 (getD_ne h (by decide))), fun h => (c4 (getD_ne h (by decide))), fun h => (c5 (getD_ne h (by decide))), fun h => (c6 (getD_ne h (by decide))), fun h => (c7 (getD_ne h (by decide))), fun h => (c8 (getD_ne h (by decide))), fun _ => rfl, fun h => (c10 (getD_ne h (by decide))), fun h => (c11 (getD_ne h (by decide))), fun h => (c12 (getD_ne h (by decide))), fun h => (c13 (getD_ne h (by decide))), fun h => (c14 (getD_ne h (by decide))), fun h => (c15 (getD_ne h (by decide))), fun h => (c16 (getD_ne h (by decide))), fun h => (c17 (getD_ne h (by decide))), fun h => (c18 (getD_ne h (by decide))), fun h => (c19 (getD_ne h (by decide))), fun h => (c20 (getD_ne h (by decide))), fun h => (c21 (getD_ne h (by decide))), fun h => (c22 (getD_ne h (by decide))), fun h => (c23 (getD_ne h (by decide))), fun h => (c24 (getD_ne h (by decide))), fun h => (c25 (getD_ne h (by decide))), fun h => (c26 (getD_ne h (by decide))), fun h => (c27 (getD_ne h (by decide))), fun h => (c28 (getD_ne h (by decide))), fun h => ⟨⟨getD_set_true (c29 (getD_ne h (by decide))).1.1, getD_set_true (c29 (getD_ne h (by decide))).1.2.1, getD_set_true (c29 (getD_ne h (by decide))).1.2.2⟩, (c29 (getD_ne h (by decide))).2⟩, fun h => by obtain ⟨g, q1, q2, q3, q4, q5, q6, q7⟩ := (c30 (getD_ne h (by decide))); exact ⟨g, q1, q2, q3, fun h5 => q4 (getD_ne h5 (by decide)), fun h5 => q5 (getD_ne h5 (by decide)), fun h5 => q6 (getD_ne h5 (by decide)), fun h5 => q7 (getD_ne h5 (by decide))⟩, fun h => ⟨getD_set_true (c31 (getD_ne h (by decide))).1, getD_set_true (c31 (getD_ne h (by decide))).2⟩, fun h h2 => p0 (getD_ne h (by decide)) (getD_ne h2 (by decide))⟩)
    · -- 10
      obtain rfl := c9 (by have hd := ready_deps hi (o := _) rfl; exact hd ⟨9, .data⟩ (by simp) (by rfl))
      clear hEw
      refine wpOp_step rfl (fun K' hK' => ?_)
      have HK : Hid (∀ a w, K a w → K' a w) := hK'
      have HK2 : Hid (type_of% hK) := hK
      clear hK hK'
      go_simp
      exact HK.out _ _ (HK2.out _ _ ⟨by simp [hls], hB, _, _, _, _, _, _, _, _, _, _, _, _, _, _, _, _, _, _, _, _, _, _, _, _, _, _, _, _, _, _, _, rfl, fun h => (c0 (getD_ne h (by decide))), fun h => (c1 (getD_ne h (by decide))), fun h => (c2 (getD_ne h (by decide))), fun h => (c3 (getD_ne h (by decide))), fun h => (c4 (getD_ne h (by decide))), fun h => (c5 (getD_ne h (by decide))), fun h => (c6 (getD_ne h (by decide))), fun h => (c7 (getD_ne h (by decide))), fun h => (c8 (getD_ne h (by decide))), fun h => (c9 (getD_ne h (by decide))), fun _ => rfl, fun h => (c11 (getD_ne h (by decide))), fun h => (c12 (getD_ne h (by decide))), fun h => (c13 (getD_ne h (by decide))), fun h => (c14 (getD_ne h (by decide))), fun h => (c15 (getD_ne h (by decide))), fun h => (c16 (getD_ne h (by decide))), fun h => (c17 (getD_ne h (by decide))), fun h => (c18 (getD_ne h (by decide))), fun h => (c19 (getD_ne h (by decide))), fun h => (c20 (getD_ne h (by decide))), fun h => (c21 (getD_ne h (by decide))), fun h => (c22 (getD_ne h (by decide))), fun h => (c23 (getD_ne h (by decide))), fun h => (c24 (getD_ne h (by decide))), fun h => (c25 (getD_ne h (by decide))), fun h => (c26 (getD_ne h (by decide))), fun h => (c27 (getD_ne h (by decide))), fun h => (c28 (getD_ne h (by decide))), fun h => ⟨⟨getD_set_true (c29 (getD_ne h (by decide))).1.1, getD_set_true (c29 (getD_ne h (by decide))).1.2.1, getD_set_true (c29 (getD_ne h (by decide))).1.2.2⟩, (c29 (getD_ne h (by decide))).2⟩, fun h => by obtain ⟨g, q1, q2, q3, q4, q5, q6, q7⟩ := (c30 (getD_ne h (by decide))); exact ⟨g, q1, q2, q3, fun h5 => q4 (getD_ne h5 (by decide)), fun h5 => q5 (getD_ne h5 (by decide)), fun h5 => q6 (getD_ne h5 (by decide)), fun h5 => q7 (getD_ne h5 (by decide))⟩, fun h => ⟨getD_set_true (c31 (getD_ne h (by decide))).1, getD_set_true (c31 (getD_ne h (by decide))).2⟩, fun h h2 => p0 (getD_ne h (by decide)) (getD_ne h2 (by decide))⟩)
    · -- 11
      obtain rfl := c10 (by have hd := ready_deps hi (o := _) rfl; exact hd ⟨10, .data⟩ (by simp) (by rfl))
      clear hEw
      refine wpOp_step rfl (fun K' hK' => ?_)
      have HK : Hid (∀ a w, K a w → K' a w) := hK'
      have HK2 : Hid (type_of% hK) := hK
      clear hK hK'
      go_simp
      exact HK.out _ _ (HK2.out _ _ ⟨by simp [hls], hB, _, _, _, _, _, _, _, _, _, _, _, _, _, _, _, _, _, _, _, _, _, _, _, _, _, _, _, _, _, _, _, rfl, fun h => (c0 (getD_ne h (by decide))), fun h => (c1 (getD_ne h (by decide))), fun h => (c2 (getD_ne h (by decide))), fun h => (c3 (getD_ne h (by decide))), fun h => (c4 (getD_ne h (by decide))), fun h => (c5 (getD_ne h (by decide))), fun h => (c6 (getD_ne h (by decide))), fun h => (c7 (getD_ne h (by decide))), fun h => (c8 (getD_ne h (by decide))), fun h => (c9 (getD_ne h (by decide))), fun h => (c10 (getD_ne h (by decide))), fun _ => rfl, fun h => (c12 (getD_ne h (by decide))), fun h => (c13 (getD_ne h (by decide))), fun h => (c14 (getD_ne h (by decide))), fun h => (c15 (getD_ne h (by decide))), fun h => (c16 (getD_ne h (by decide))), fun h => (c17 (getD_ne h (by decide))), fun h => (c18 (getD_ne h (by decide))), fun h => (c19 (getD_ne h (by decide))), fun h => (c20 (getD_ne h (by decide))), fun h => (c21 (getD_ne h (by decide))), fun h => (c22 (getD_ne h (by decide))), fun h => (c23 (getD_ne h (by decide))), fun h => (c24 (getD_ne h (by decide))), fun h => (c25 (getD_ne h (by decide))), fun h => (c26 (getD_ne h (by decide))), fun h => (c27 (getD_ne h (by decide))), fun h => (c28 (getD_ne h (by decide))), fun h => ⟨⟨getD_set_true (c29 (getD_ne h (by decide))).1.1, getD_set_true (c29 (getD_ne h (by decide))).1.2.1, getD_set_true (c29 (getD_ne h (by decide))).1.2.2⟩, (c29 (getD_ne h (by decide))).2⟩, fun h => by obtain ⟨g, q1, q2, q3, q4, q5, q6, q7⟩ := (c30 (getD_ne h (by decide))); exact ⟨g, q1, q2, q3, fun h5 => q4 (getD_ne h5 (by decide)), fun h5 => q5 (getD_ne h5 (by decide)), fun h5 => q6 (getD_ne h5 (by decide)), fun h5 => q7 (getD_ne h5 (by decide))⟩, fun h => ⟨getD_set_true (c31 (getD_ne h (by decide))).1, getD_set_true (c31 (getD_ne h (by decide))).2⟩, fun h h2 => p0 (getD_ne h (by decide)) (getD_ne h2 (by decide))⟩)
    · -- 12
      obtain rfl := c11 (by have hd := ready_deps hi (o := _) rfl; exact hd ⟨11, .data⟩ (by simp) (by rfl))
      have CC := now_any e 1 s.base W hEw.v.c1
      clear hEw
      refine wpOp_step rfl (fun K' hK' => ?_)
      have HK : Hid (∀ a w, K a w → K' a w) := hK'
      have HK2 : Hid (type_of% hK) := hK
      clear hK hK'
      go_simp
      go_at_call 80
      refine CC.mono ?_
      rintro r W9 ⟨rfl, hw9⟩
      have hw9 := hw9.symm
      subst hw9
      (try go_simp)
      exact HK.out _ _ (HK2.out _ _ ⟨by simp [hls], hB, _, _, _, _, _, _, _, _, _, _, _, _, _, _, _, _, _, _, _, _, _, _, _, _, _, _, _, _, _, _, _, rfl, fun h => (c0 (getD_ne h (by decide))), fun h => (c1 (getD_ne h (by decide))), fun h => (c2 (getD_ne h (by decide))), fun h => (c3 (getD_ne h (by decide))), fun h => (c4 (getD_ne h (by decide))), fun h => (c5 (getD_ne h (by decide))), fun h => (c6 (getD_ne h (by decide))), fun h => (c7 (getD_ne h (by decide))), fun h => (c8 (getD_ne h (by decide))), fun h => (c9 (getD_ne h (by decide))), fun h => (c10 (getD_ne h (by decide))), fun h => (c11 (getD_ne h (by decide))), fun _ => rfl, fun h => (c13 (getD_ne h (by decide))), fun h => (c14 (getD_ne h (by decide))), fun h => (c15 (getD_ne h (by decide))), fun h => (c16 (getD_ne h (by decide))), fun h => (c17 (getD_ne h (by decide))), fun h => (c18 (getD_ne h (by decide))), fun h => (c19 (getD_ne h (by decide))), fun h => (c20 (getD_ne h (by decide))), fun h => (c21 (getD_ne h (by decide))), fun h => (c22 (getD_ne h (by decide))), fun h => (c23 (getD_ne h (by decide))), fun h => (c24 (getD_ne h (by decide))), fun h => (c25 (getD_ne h (by decide))), fun h => (c26 (getD_ne h (by decide))), fun h => (c27 (getD_ne h (by decide))), fun h => (c28 (getD_ne h (by decide))), fun h => ⟨⟨getD_set_true (c29 (getD_ne h (by decide))).1.1, getD_set_true (c29 (getD_ne h (by decide))).1.2.1, getD_set_true (c29 (getD_ne h (by decide))).1.2.2⟩, (c29 (getD_ne h (by decide))).2⟩, fun h => by obtain ⟨g, q1, q2, q3, q4, q5, q6, q7⟩ := (c30 (getD_ne h (by decide))); exact ⟨g, q1, q2, q3, fun h5 => q4 (getD_ne h5 (by decide)), fun h5 => q5 (getD_ne h5 (by decide)), fun h5 => q6 (getD_ne h5 (by decide)), fun h5 => q7 (getD_ne h5 (by decide))⟩, fun h => ⟨getD_set_true (c31 (getD_ne h (by decide))).1, getD_set_true (c31 (getD_ne h (by decide))).2⟩, fun h h2 => p0 (getD_ne h (by decide)) (getD_ne h2 (by decide))⟩)
    · -- 13
      clear hEw
      refine wpOp_step rfl (fun K' hK' => ?_)
      have HK : Hid (∀ a w, K a w → K' a w) := hK'
      have HK2 : Hid (type_of% hK) := hK
      clear hK hK'
      go_simp
      exact HK.out _ _ (HK2.out _ _ ⟨by simp [hls], hB, _, _, _, _, _, _, _, _, _, _, _, _, _, _, _, _, _, _, _, _, _, _, _, _, _, _, _, _, _, _, _, rfl, fun h => (c0 (getD_ne h (by decide))), fun h => (c1 (getD_ne h (by decide))), fun h => (c2 (getD_ne h (by decide))), fun h => (c3 (getD_ne h (by decide))), fun h => (c4 (getD_ne h (by decide))), fun h => (c5 (getD_ne h (by decide))), fun h => (c6 (getD_ne h (by decide))), fun h => (c7 (getD_ne h (by decide))), fun h => (c8 (getD_ne h (by decide))), fun h => (c9 (getD_ne h (by decide))), fun h => (c10 (getD_ne h (by decide))), fun h => (c11 (getD_ne h (by decide))), fun h => (c12 (getD_ne h (by decide))), fun _ => rfl, fun h => (c14 (getD_ne h (by decide))), fun h => (c15 (getD_ne h (by decide))), fun h => (c16 (getD_ne h (by decide))), fun h => (c17 (getD_ne h (by decide))), fun h => (c18 (getD_ne h (by decide))), fun h => (c19 (getD_ne h (by decide))), fun h => (c20 (getD_ne h (by decide))), fun h => (c21 (getD_ne h (by decide))), fun h => (c22 (getD_ne h (by decide))), fun h => (c23 (getD_ne h (by decide))), fun h => (c24 (getD_ne h (by decide))), fun h => (c25 (getD_ne h (by decide))), fun h => (c26 (getD_ne h (by decide))), fun h => (c27 (getD_ne h (by decide))), fun h => (c28 (getD_ne h (by decide))), fun h => ⟨⟨getD_set_true (c29 (getD_ne h (by decide))).1.1, getD_set_true (c29 (getD_ne h (by decide))).1.2.1, getD_set_true (c29 (getD_ne h (by decide))).1.2.2⟩, (c29 (getD_ne h (by decide))).2⟩, fun h => by obtain ⟨g, q1, q2, q3, q4, q5, q6, q7⟩ := (c30 (getD_ne h (by decide))); exact ⟨g, q1, q2, q3, fun h5 => q4 (getD_ne h5 (by decide)), fun h5 => q5 (getD_ne h5 (by decide)), fun h5 => q6 (getD_ne h5 (by decide)), fun h5 => q7 (getD_ne h5 (by decide))⟩, fun h => ⟨getD_set_true (c31 (getD_ne h (by decide))).1, getD_set_true (c31 (getD_ne h (by decide))).2⟩, fun h h2 => p0 (getD_ne h (by decide)) (getD_ne h2 (by decide))⟩)
    · -- 14
      obtain rfl := c13 (by have hd := ready_deps hi (o := _) rfl; exact hd ⟨13, .data⟩ (by simp) (by rfl))
      clear hEw
      refine wpOp_step rfl (fun K' hK' => ?_)
      have HK : Hid (∀ a w, K a w → K' a w) := hK'
      have HK2 : Hid (type_of% hK) := hK
      clear hK hK'
      go_simp
      exact HK.out _ _ (HK2.out _ _ ⟨by simp [hls], hB, _, _, _, _, _, _, _, _, _, _, _, _, _, _, _, _, _, _, _, _, _, _, _, _, _, _, _, _, _, _, _, rfl, fun h => (c0 (getD_ne h (by decide))), fun h => (c1 (getD_ne h (by decide))), fun h => (c2 (getD_ne h (by decide))), fun h => (c3 (getD_ne h (by decide))), fun h => (c4 (getD_ne h (by decide))), fun h => (c5 (getD_ne h (by decide))), fun h => (c6 (getD_ne h (by decide))), fun h => (c7 (getD_ne h (by decide))), fun h => (c8 (getD_ne h (by decide))), fun h => (c9 (getD_ne h (by decide))), fun h => (c10 (getD_ne h (by decide))), fun h => (c11 (getD_ne h (by decide))), fun h => (c12 (getD_ne h (by decide))), fun h => (c13 (getD_ne h (by decide))), fun _ => rfl, fun h => (c15 (getD_ne h (by decide))), fun h => (c16 (getD_ne h (by decide))), fun h => (c17 (getD_ne h (by decide))), fun h => (c18 (getD_ne h (by decide))), fun h => (c19 (getD_ne h (by decide))), fun h => (c20 (getD_ne h (by decide))), fun h => (c21 (getD_ne h (by decide))), fun h => (c22 (getD_ne h (by decide))), fun h => (c23 (getD_ne h (by decide))), fun h => (c24 (getD_ne h (by decide))), fun h => (c25 (getD_ne h (by decide))), fun h => (c26 (getD_ne h (by decide))), fun h => (c27 (getD_ne h (by decide))), fun h => (c28 (getD_ne h (by decide))), fun h => ⟨⟨getD_set_true (c29 (getD_ne h (by decide))).1.1, getD_set_true (c29 (getD_ne h (by decide))).1.2.1, getD_set_true (c29 (getD_ne h (by decide))).1.2.2⟩, (c29 (getD_ne h (by decide))).2⟩, fun h => by obtain ⟨g, q1, q2, q3, q4, q5, q6, q7⟩ := (c30 (getD_ne h (by decide))); exact ⟨g, q1, q2, q3, fun h5 => q4 (getD_ne h5 (by decide)), fun h5 => q5 (getD_ne h5 (by decide)), fun h5 => q6 (getD_ne h5 (by decide)), fun h5 => q7 (getD_ne h5 (by decide))⟩, fun h => ⟨getD_set_true (c31 (getD_ne h (by decide))).1, getD_set_true (c31 (getD_ne h (by decide))).2⟩, fun h h2 => p0 (getD_ne h (by decide)) (getD_ne h2 (by decide))⟩)
    · -- 15
      obtain rfl := c14 (by have hd := ready_deps hi (o := _) rfl; exact hd ⟨14, .data⟩ (by simp) (by rfl))
      clear hEw
      refine wpOp_step rfl (fun K' hK' => ?_)
      have HK : Hid (∀ a w, K a w → K' a w) := hK'
      have HK2 : Hid (type_of% hK) := hK
      clear hK hK'
      go_simp
      exact HK.out _ _ (HK2.out _ _ ⟨by simp [hls], hB, _, _, _, _, _, _, _, _, _, _, _, _, _, _, _, _, _, _, _, _, _, _, _, _, _, _, _, _, _, _, _, rfl, fun h => (c0 (getD_ne h (by decide))), fun h => (c1 (getD_ne h (by decide))), fun h => (c2 (getD_ne h (by decide))), fun h => (c3 (getD_ne h (by decide))), fun h => (c4 (getD_ne h (by decide))), fun h => (c5 (getD_ne h (by decide))), fun h => (c6 (getD_ne h (by decide))), fun h => (c7 (getD_ne h (by decide))), fun h => (c8 (getD_ne h (by decide))), fun h => (c9 (getD_ne h (by decide))), fun h => (c10 (getD_ne h (by decide))), fun h => (c11 (getD_ne h (by decide))), fun h => (c12 (getD_ne h (by decide))), fun h => (c13 (getD_ne h (by decide))), fun h => (c14 (getD_ne h (by decide))), fun _ => rfl, fun h => (c16 (getD_ne h (by decide))), fun h => (c17 (getD_ne h (by decide))), fun h => (c18 (getD_ne h (by decide))), fun h => (c19 (getD_ne h (by decide))), fun h => (c20 (getD_ne h (by decide))), fun h => (c21 (getD_ne h (by decide))), fun h => (c22 (getD_ne h (by decide))), fun h => (c23 (getD_ne h (by decide))), fun h => (c24 (getD_ne h (by decide))), fun h => (c25 (getD_ne h (by decide))), fun h => (c26 (getD_ne h (by decide))), fun h => (c27 (getD_ne h (by decide))), fun h => (c28 (getD_ne h (by decide))), fun h => ⟨⟨getD_set_true (c29 (getD_ne h (by decide))).1.1, getD_set_true (c29 (getD_ne h (by decide))).1.2.1, getD_set_true (c29 (getD_ne h (by decide))).1.2.2⟩, (c29 (getD_ne h (by decide))).2⟩, fun h => by obtain ⟨g, q1, q2, q3, q4, q5, q6, q7⟩ := (c30 (getD_ne h (by decide))); exact ⟨g, q1, q2, q3, fun h5 => q4 (getD_ne h5 (by decide)), fun h5 => q5 (getD_ne h5 (by decide)), fun h5 => q6 (getD_ne h5 (by decide)), fun h5 => q7 (getD_ne h5 (by decide))⟩, fun h => ⟨getD_set_true (c31 (getD_ne h (by decide))).1, getD_set_true (c31 (getD_ne h (by decide))).2⟩, fun h h2 => p0 (getD_ne h (by decide)) (getD_ne h2 (by decide))⟩)
    · -- 16
      obtain rfl := c15 (by have hd := ready_deps hi (o := _) rfl; exact hd ⟨15, .data⟩ (by simp) (by rfl))
      have y3 := hEw.v.c3
      clear hEw
      refine wpOp_step rfl (fun K' hK' => ?_)
      have HK : Hid (∀ a w, K a w → K' a w) := hK'
      have HK2 : Hid (type_of% hK) := hK
      clear hK hK'
      go_simp
      exact HK.out _ _ (HK2.out _ _ ⟨by simp [hls], hB, _, _, _, _, _, _, _, _, _, _, _, _, _, _, _, _, _, _, _, _, _, _, _, _, _, _, _, _, _, _, _, rfl, fun h => (c0 (getD_ne h (by decide))), fun h => (c1 (getD_ne h (by decide))), fun h => (c2 (getD_ne h (by decide))), fun h => (c3 (getD_ne h (by decide))), fun h => (c4 (getD_ne h (by decide))), fun h => (c5 (getD_ne h (by decide))), fun h => (c6 (getD_ne h (by decide))), fun h => (c7 (getD_ne h (by decide))), fun h => (c8 (getD_ne h (by decide))), fun h => (c9 (getD_ne h (by decide))), fun h => (c10 (getD_ne h (by decide))), fun h => (c11 (getD_ne h (by decide))), fun h => (c12 (getD_ne h (by decide))), fun h => (c13 (getD_ne h (by decide))), fun h => (c14 (getD_ne h (by decide))), fun h => (c15 (getD_ne h (by decide))), fun _ => rfl, fun h => (c17 (getD_ne h (by decide))), fun h => (c18 (getD_ne h (by decide))), fun h => (c19 (getD_ne h (by decide))), fun h => (c20 (getD_ne h (by decide))), fun h => (c21 (getD_ne h (by decide))), fun h => (c22 (getD_ne h (by decide))), fun h => (c23 (getD_ne h (by decide))), fun h => (c24 (getD_ne h (by decide))), fun h => (c25 (getD_ne h (by decide))), fun h => (c26 (getD_ne h (by decide))), fun h => (c27 (getD_ne h (by decide))), fun h => (c28 (getD_ne h (by decide))), fun h => ⟨⟨getD_set_true (c29 (getD_ne h (by decide))).1.1, getD_set_true (c29 (getD_ne h (by decide))).1.2.1, getD_set_true (c29 (getD_ne h (by decide))).1.2.2⟩, (c29 (getD_ne h (by decide))).2⟩, fun h => by obtain ⟨g, q1, q2, q3, q4, q5, q6, q7⟩ := (c30 (getD_ne h (by decide))); exact ⟨g, q1, q2, q3, fun h5 => q4 (getD_ne h5 (by decide)), fun h5 => q5 (getD_ne h5 (by decide)), fun h5 => q6 (getD_ne h5 (by decide)), fun h5 => q7 (getD_ne h5 (by decide))⟩, fun h => ⟨getD_set_true (c31 (getD_ne h (by decide))).1, getD_set_true (c31 (getD_ne h (by decide))).2⟩, fun h h2 => p0 (getD_ne h (by decide)) (getD_ne h2 (by decide))⟩)
    · -- 17
      clear hEw
      refine wpOp_step rfl (fun K' hK' => ?_)
      have HK : Hid (∀ a w, K a w → K' a w) := hK'
      have HK2 : Hid (type_of% hK) := hK
      clear hK hK'
      go_simp
      exact HK.out _ _ (HK2.out _ _ ⟨by simp [hls], hB, _, _, _, _, _, _, _, _, _, _, _, _, _, _, _, _, _, _, _, _, _, _, _, _, _, _, _, _, _, _, _, rfl, fun h => (c0 (getD_ne h (by decide))), fun h => (c1 (getD_ne h (by decide))), fun h => (c2 (getD_ne h (by decide))), fun h => (c3 (getD_ne h (by decide))), fun h => (c4 (getD_ne h (by decide))), fun h => (c5 (getD_ne h (by decide))), fun h => (c6 (getD_ne h (by decide))), fun h => (c7 (getD_ne h (by decide))), fun h => (c8 (getD_ne h (by decide))), fun h => (c9 (getD_ne h (by decide))), fun h => (c10 (getD_ne h (by decide))), fun h => (c11 (getD_ne h (by decide))), fun h => (c12 (getD_ne h (by decide))), fun h => (c13 (getD_ne h (by decide))), fun h => (c14 (getD_ne h (by decide))), fun h => (c15 (getD_ne h (by decide))), fun h => (c16 (getD_ne h (by decide))), fun _ => rfl, fun h => (c18 (getD_ne h (by decide))), fun h => (c19 (getD_ne h (by decide))), fun h => (c20 (getD_ne h (by decide))), fun h => (c21 (getD_ne h (by decide))), fun h => (c22 (getD_ne h (by decide))), fun h => (c23 (getD_ne h (by decide))), fun h => (c24 (getD_ne h (by decide))), fun h => (c25 (getD_ne h (by decide))), fun h => (c26 (getD_ne h (by decide))), fun h => (c27 (getD_ne h (by decide))), fun h => (c28 (getD_ne h (by decide))), fun h => ⟨⟨getD_set_true (c29 (getD_ne h (by decide))).1.1, getD_set_true (c29 (getD_ne h (by decide))).1.2.1, getD_set_true (c29 (getD_ne h (by decide))).1.2.2⟩, (c29 (getD_ne h (by decide))).2⟩, fun h => by obtain ⟨g, q1, q2, q3, q4, q5, q6, q7⟩ := (c30 (getD_ne h (by decide))); exact ⟨g, q1, q2, q3, fun h5 => q4 (getD_ne h5 (by decide)), fun h5 => q5 (getD_ne h5 (by decide)), fun h5 => q6 (getD_ne h5 (by decide)), fun h5 => q7 (getD_ne h5 (by decide))⟩, fun h => ⟨getD_set_true (c31 (getD_ne h (by decide))).1, getD_set_true (c31 (getD_ne h (by decide))).2⟩, fun h h2 => p0 (getD_ne h (by decide)) (getD_ne h2 (by decide))⟩)
    · -- 18
      obtain rfl := c17 (by have hd := ready_deps hi (o := _) rfl; exact hd ⟨17, .data⟩ (by simp) (by rfl))
      clear hEw
      refine wpOp_step rfl (fun K' hK' => ?_)
      have HK : Hid (∀ a w, K a w → K' a w) := hK'
      have HK2 : Hid (type_of% hK) := hK
      clear hK hK'
      go_simp
      exact HK.out _ _ (HK2.out _ _ ⟨by simp [hls], hB, _, _, _, _, _, _, _, _, _, _, _, _, _, _, _, _, _, _, _, _, _, _, _, _, _, _, _, _, _, _, _, rfl, fun h => (c0 (getD_ne h (by decide))), fun h => (c1 (getD_ne h (by decide))), fun h => (c2 (getD_ne h (by decide))), fun h => (c3 (getD_ne h (by decide))), fun h => (c4 (getD_ne h (by decide))), fun h => (c5 (getD_ne h (by decide))), fun h => (c6 (getD_ne h (by decide))), fun h => (c7 (getD_ne h (by decide))), fun h => (c8 (getD_ne h (by decide))), fun h => (c9 (getD_ne h (by decide))), fun h => (c10 (getD_ne h (by decide))), fun h => (c11 (getD_ne h (by decide))), fun h => (c12 (getD_ne h (by decide))), fun h => (c13 (getD_ne h (by decide))), fun h => (c14 (getD_ne h (by decide))), fun h => (c15 (getD_ne h (by decide))), fun h => (c16 (getD_ne h (by decide))), fun h => (c17 (getD_ne h (by decide))), fun _ => rfl, fun h => (c19 (getD_ne h (by decide))), fun h => (c20 (getD_ne h (by decide))), fun h => (c21 (getD_ne h (by decide))), fun h => (c22 (getD_ne h (by decide))), fun h => (c23 (getD_ne h (by decide))), fun h => (c24 (getD_ne h (by decide))), fun h => (c25 (getD_ne h (by decide))), fun h => (c26 (getD_ne h (by decide))), fun h => (c27 (getD_ne h (by decide))), fun h => (c28 (getD_ne h (by decide))), fun h => ⟨⟨getD_set_true (c29 (getD_ne h (by decide))).1.1, getD_set_true (c29 (getD_ne h (by decide))).1.2.1, getD_set_true (c29 (getD_ne h (by decide))).1.2.2⟩, (c29 (getD_ne h (by decide))).2⟩, fun h => by obtain ⟨g, q1, q2, q3, q4, q5, q6, q7⟩ := (c30 (getD_ne h (by decide))); exact ⟨g, q1, q2, q3, fun h5 => q4 (getD_ne h5 (by decide)), fun h5 => q5 (getD_ne h5 (by decide)), fun h5 => q6 (getD_ne h5 (by decide)), fun h5 => q7 (getD_ne h5 (by decide))⟩, fun h => ⟨getD_set_true (c31 (getD_ne h (by decide))).1, getD_set_true (c31 (getD_ne h (by decide))).2⟩, fun h h2 => p0 (getD_ne h (by decide)) (getD_ne h2 (by decide))⟩)
    · -- 19
      obtain rfl := c18 (by have hd := ready_deps hi (o := _) rfl; exact hd ⟨18, .data⟩ (by simp) (by rfl))
      clear hEw
      refine wpOp_step rfl (fun K' hK' => ?_)
      have HK : Hid (∀ a w, K a w → K' a w) := hK'
      have HK2 : Hid (type_of% hK) := hK
      clear hK hK'
      go_simp
      exact HK.out _ _ (HK2.out _ _ ⟨by simp [hls], hB, _, _, _, _, _, _, _, _, _, _, _, _, _, _, _, _, _, _, _, _, _, _, _, _, _, _, _, _, _, _, _, rfl, fun h => (c0 (getD_ne h (by decide))), fun h => (c1 (getD_ne h (by decide))), fun h => (c2 (getD_ne h (by decide))), fun h => (c3 (getD_ne h (by decide))), fun h => (c4 (getD_ne h (by decide))), fun h => (c5 (getD_ne h (by decide))), fun h => (c6 (getD_ne h (by decide))), fun h => (c7 (getD_ne h (by decide))), fun h => (c8 (getD_ne h (by decide))), fun h => (c9 (getD_ne h (by decide))), fun h => (c10 (getD_ne h (by decide))), fun h => (c11 (getD_ne h (by decide))), fun h => (c12 (getD_ne h (by decide))), fun h => (c13 (getD_ne h (by decide))), fun h => (c14 (getD_ne h (by decide))), fun h => (c15 (getD_ne h (by decide))), fun h => (c16 (getD_ne h (by decide))), fun h => (c17 (getD_ne h (by decide))), fun h => (c18 (getD_ne h (by decide))), fun _ => rfl, fun h => (c20 (getD_ne h (by decide))), fun h => (c21 (getD_ne h (by decide))), fun h => (c22 (getD_ne h (by decide))), fun h => (c23 (getD_ne h (by decide))), fun h => (c24 (getD_ne h (by decide))), fun h => (c25 (getD_ne h (by decide))), fun h => (c26 (getD_ne h (by decide))), fun h => (c27 (getD_ne h (by decide))), fun h => (c28 (getD_ne h (by decide))), fun h => ⟨⟨getD_set_true (c29 (getD_ne h (by decide))).1.1, getD_set_true (c29 (getD_ne h (by decide))).1.2.1, getD_set_true (c29 (getD_ne h (by decide))).1.2.2⟩, (c29 (getD_ne h (by decide))).2⟩, fun h => by obtain ⟨g, q1, q2, q3, q4, q5, q6, q7⟩ := (c30 (getD_ne h (by decide))); exact ⟨g, q1, q2, q3, fun h5 => q4 (getD_ne h5 (by decide)), fun h5 => q5 (getD_ne h5 (by decide)), fun h5 => q6 (getD_ne h5 (by decide)), fun h5 => q7 (getD_ne h5 (by decide))⟩, fun h => ⟨getD_set_true (c31 (getD_ne h (by decide))).1, getD_set_true (c31 (getD_ne h (by decide))).2⟩, fun h h2 => p0 (getD_ne h (by decide)) (getD_ne h2 (by decide))⟩)
    · -- 20
      obtain rfl := c19 (by have hd := ready_deps hi (o := _) rfl; exact hd ⟨19, .data⟩ (by simp) (by rfl))
      have CC := now_any e 2 (s.handed.length : Int) W hEw.v.c2
      clear hEw
      refine wpOp_step rfl (fun K' hK' => ?_)
      have HK : Hid (∀ a w, K a w → K' a w) := hK'
      have HK2 : Hid (type_of% hK) := hK
      clear hK hK'
      go_simp
      go_at_call 80
      refine CC.mono ?_
      rintro r W9 ⟨rfl, hw9⟩
      have hw9 := hw9.symm
      subst hw9
      (try go_simp)
      exact HK.out _ _ (HK2.out _ _ ⟨by simp [hls], hB, _, _, _, _, _, _, _, _, _, _, _, _, _, _, _, _, _, _, _, _, _, _, _, _, _, _, _, _, _, _, _, rfl, fun h => (c0 (getD_ne h (by decide))), fun h => (c1 (getD_ne h (by decide))), fun h => (c2 (getD_ne h (by decide))), fun h => (c3 (getD_ne h (by decide))), fun h => (c4 (getD_ne h (by decide))), fun h => (c5 (getD_ne h (by decide))), fun h => (c6 (getD_ne h (by decide))), fun h => (c7 (getD_ne h (by decide))), fun h => (c8 (getD_ne h (by decide))), fun h => (c9 (getD_ne h (by decide))), fun h => (c10 (getD_ne h (by decide))), fun h => (c11 (getD_ne h (by decide))), fun h => (c12 (getD_ne h (by decide))), fun h => (c13 (getD_ne h (by decide))), fun h => (c14 (getD_ne h (by decide))), fun h => (c15 (getD_ne h (by decide))), fun h => (c16 (getD_ne h (by decide))), fun h => (c17 (getD_ne h (by decide))), fun h => (c18 (getD_ne h (by decide))), fun h => (c19 (getD_ne h (by decide))), fun _ => rfl, fun h => (c21 (getD_ne h (by decide))), fun h => (c22 (getD_ne h (by decide))), fun h => (c23 (getD_ne h (by decide))), fun h => (c24 (getD_ne h (by decide))), fun h => (c25 (getD_ne h (by decide))), fun h => (c26 (getD_ne h (by decide))), fun h => (c27 (getD_ne h (by decide))), fun h => (c28 (getD_ne h (by decide))), fun h => ⟨⟨getD_set_true (c29 (getD_ne h (by decide))).1.1, getD_set_true (c29 (getD_ne h (by decide))).1.2.1, getD_set_true (c29 (getD_ne h (by decide))).1.2.2⟩, (c29 (getD_ne h (by decide))).2⟩, fun h => by obtain ⟨g, q1, q2, q3, q4, q5, q6, q7⟩ := (c30 (getD_ne h (by decide))); exact ⟨g, q1, q2, q3, fun h5 => q4 (getD_ne h5 (by decide)), fun h5 => q5 (getD_ne h5 (by decide)), fun h5 => q6 (getD_ne h5 (by decide)), fun h5 => q7 (getD_ne h5 (by decide))⟩, fun h => ⟨getD_set_true (c31 (getD_ne h (by decide))).1, getD_set_true (c31 (getD_ne h (by decide))).2⟩, fun h h2 => p0 (getD_ne h (by decide)) (getD_ne h2 (by decide))⟩)
    · -- 21
      obtain rfl := c16 (by have hd := ready_deps hi (o := _) rfl; exact hd ⟨16, .data⟩ (by simp) (by rfl))
      obtain rfl := c20 (by have hd := ready_deps hi (o := _) rfl; exact hd ⟨20, .data⟩ (by simp) (by rfl))
      have hl0 : ¬ ((s.handed.length : Int) < 0) := by omega
      have hl1 : s.handed.length ≤ ci := by omega
      have hl2 : (s.handed.length : Int) ≤ (ci : Int) := by omega
      clear hEw
      refine wpOp_step rfl (fun K' hK' => ?_)
      have HK : Hid (∀ a w, K a w → K' a w) := hK'
      have HK2 : Hid (type_of% hK) := hK
      clear hK hK'
      go_simp
      exact HK.out _ _ (HK2.out _ _ ⟨by simp [hls], hB, _, _, _, _, _, _, _, _, _, _, _, _, _, _, _, _, _, _, _, _, _, _, _, _, _, _, _, _, _, _, _, rfl, fun h => (c0 (getD_ne h (by decide))), fun h => (c1 (getD_ne h (by decide))), fun h => (c2 (getD_ne h (by decide))), fun h => (c3 (getD_ne h (by decide))), fun h => (c4 (getD_ne h (by decide))), fun h => (c5 (getD_ne h (by decide))), fun h => (c6 (getD_ne h (by decide))), fun h => (c7 (getD_ne h (by decide))), fun h => (c8 (getD_ne h (by decide))), fun h => (c9 (getD_ne h (by decide))), fun h => (c10 (getD_ne h (by decide))), fun h => (c11 (getD_ne h (by decide))), fun h => (c12 (getD_ne h (by decide))), fun h => (c13 (getD_ne h (by decide))), fun h => (c14 (getD_ne h (by decide))), fun h => (c15 (getD_ne h (by decide))), fun h => (c16 (getD_ne h (by decide))), fun h => (c17 (getD_ne h (by decide))), fun h => (c18 (getD_ne h (by decide))), fun h => (c19 (getD_ne h (by decide))), fun h => (c20 (getD_ne h (by decide))), fun _ => rfl, fun h => (c22 (getD_ne h (by decide))), fun h => (c23 (getD_ne h (by decide))), fun h => (c24 (getD_ne h (by decide))), fun h => (c25 (getD_ne h (by decide))), fun h => (c26 (getD_ne h (by decide))), fun h => (c27 (getD_ne h (by decide))), fun h => (c28 (getD_ne h (by decide))), fun h => ⟨⟨getD_set_true (c29 (getD_ne h (by decide))).1.1, getD_set_true (c29 (getD_ne h (by decide))).1.2.1, getD_set_true (c29 (getD_ne h (by decide))).1.2.2⟩, (c29 (getD_ne h (by decide))).2⟩, fun h => by obtain ⟨g, q1, q2, q3, q4, q5, q6, q7⟩ := (c30 (getD_ne h (by decide))); exact ⟨g, q1, q2, q3, fun h5 => q4 (getD_ne h5 (by decide)), fun h5 => q5 (getD_ne h5 (by decide)), fun h5 => q6 (getD_ne h5 (by decide)), fun h5 => q7 (getD_ne h5 (by decide))⟩, fun h => ⟨getD_set_true (c31 (getD_ne h (by decide))).1, getD_set_true (c31 (getD_ne h (by decide))).2⟩, fun h h2 => p0 (getD_ne h (by decide)) (getD_ne h2 (by decide))⟩)
    · -- 22
      obtain rfl := c21 (by have hd := ready_deps hi (o := _) rfl; exact hd ⟨21, .data⟩ (by simp) (by rfl))
      have hoff := ready_off hi (by omega)
      have hst : StAt W W.heap.size (.slice ai s.handed.length ci) s.handed := by
        have h9 := StAt.takeS (k := s.handed.length) hEw.r.at.i hhl
        dsimp only at h9
        rwa [← HHE.out] at h9
      have CC := copyTexts_any s.handed _ W hst HSH.out (by omega)
      clear hEw
      refine wpOp_step rfl (fun K' hK' => ?_)
      have HK : Hid (∀ a w, K a w → K' a w) := hK'
      have HK2 : Hid (type_of% hK) := hK
      clear hK hK'
      go_simp
      go_at_call 69
      refine CC.mono ?_
      rintro r W9 ⟨v9, rfl, hr, hb⟩
      obtain ⟨ra, rk, rfl⟩ := StRow.slice hr
      (try go_simp)
      exact HK.out _ _ (HK2.out _ _ ⟨by simp [hls], hB.trans (hb.mono hB.size), _, _, _, _, _, _, _, _, _, _, _, _, _, _, _, _, _, _, _, _, _, _, _, _, _, _, _, _, _, _, _, rfl, fun h => (c0 (getD_ne h (by decide))), fun h => (c1 (getD_ne h (by decide))), fun h => (c2 (getD_ne h (by decide))), fun h => (c3 (getD_ne h (by decide))), fun h => (c4 (getD_ne h (by decide))), fun h => (c5 (getD_ne h (by decide))), fun h => (c6 (getD_ne h (by decide))), fun h => (c7 (getD_ne h (by decide))), fun h => by obtain ⟨a, k, e, r⟩ := (c8 (getD_ne h (by decide))); exact ⟨a, k, e, own_belowY r hb⟩, fun h => (c9 (getD_ne h (by decide))), fun h => (c10 (getD_ne h (by decide))), fun h => (c11 (getD_ne h (by decide))), fun h => (c12 (getD_ne h (by decide))), fun h => (c13 (getD_ne h (by decide))), fun h => (c14 (getD_ne h (by decide))), fun h => (c15 (getD_ne h (by decide))), fun h => (c16 (getD_ne h (by decide))), fun h => (c17 (getD_ne h (by decide))), fun h => (c18 (getD_ne h (by decide))), fun h => (c19 (getD_ne h (by decide))), fun h => (c20 (getD_ne h (by decide))), fun h => (c21 (getD_ne h (by decide))), fun _ => ⟨_, _, rfl, own_lower hr hsz⟩, fun h => (c23 (getD_ne h (by decide))), fun h => (c24 (getD_ne h (by decide))), fun h => (c25 (getD_ne h (by decide))), fun h => (c26 (getD_ne h (by decide))), fun h => (c27 (getD_ne h (by decide))), fun h => by obtain ⟨a, k, e, r⟩ := (c28 (getD_ne h (by decide))); exact ⟨a, k, e, own_belowY r hb⟩, fun h => absurd (c29 (getD_ne h (by decide))).1.2.1 (by rw [hoff]; decide), fun h => by obtain ⟨g, q1, q2, ⟨y0, y1, y2, y3, y4, y5, q3⟩, q4, q5, q6, q7⟩ := (c30 (getD_ne h (by decide))); exact ⟨g, q1, ⟨q2.1, Nat.lt_of_lt_of_le q2.2 hb.size⟩, ⟨y0, y1, y2, y3, y4, y5, q3.below hb⟩, fun h5 => q4 (getD_ne h5 (by decide)), fun _ k hk => by have := (World.ownsRow.lt hr k hk).1; omega, fun h5 => q6 (getD_ne h5 (by decide)), fun h5 => absurd (c29 (c31 (getD_ne h5 (by decide))).1).1.2.1 (by rw [hoff]; decide)⟩, fun h => ⟨getD_set_true (c31 (getD_ne h (by decide))).1, getD_set_true (c31 (getD_ne h (by decide))).2⟩, fun h _ => by obtain ⟨a, k, e, r⟩ := c8 (getD_ne h (by decide)); exact (apart_newS r hr (Nat.le_refl _)).1⟩)
    · -- 23
      clear hEw
      refine wpOp_step rfl (fun K' hK' => ?_)
      have HK : Hid (∀ a w, K a w → K' a w) := hK'
      have HK2 : Hid (type_of% hK) := hK
      clear hK hK'
      go_simp
      exact HK.out _ _ (HK2.out _ _ ⟨by simp [hls], hB, _, _, _, _, _, _, _, _, _, _, _, _, _, _, _, _, _, _, _, _, _, _, _, _, _, _, _, _, _, _, _, rfl, fun h => (c0 (getD_ne h (by decide))), fun h => (c1 (getD_ne h (by decide))), fun h => (c2 (getD_ne h (by decide))), fun h => (c3 (getD_ne h (by decide))), fun h => (c4 (getD_ne h (by decide))), fun h => (c5 (getD_ne h (by decide))), fun h => (c6 (getD_ne h (by decide))), fun h => (c7 (getD_ne h (by decide))), fun h => (c8 (getD_ne h (by decide))), fun h => (c9 (getD_ne h (by decide))), fun h => (c10 (getD_ne h (by decide))), fun h => (c11 (getD_ne h (by decide))), fun h => (c12 (getD_ne h (by decide))), fun h => (c13 (getD_ne h (by decide))), fun h => (c14 (getD_ne h (by decide))), fun h => (c15 (getD_ne h (by decide))), fun h => (c16 (getD_ne h (by decide))), fun h => (c17 (getD_ne h (by decide))), fun h => (c18 (getD_ne h (by decide))), fun h => (c19 (getD_ne h (by decide))), fun h => (c20 (getD_ne h (by decide))), fun h => (c21 (getD_ne h (by decide))), fun h => (c22 (getD_ne h (by decide))), fun _ => rfl, fun h => (c24 (getD_ne h (by decide))), fun h => (c25 (getD_ne h (by decide))), fun h => (c26 (getD_ne h (by decide))), fun h => (c27 (getD_ne h (by decide))), fun h => (c28 (getD_ne h (by decide))), fun h => ⟨⟨getD_set_true (c29 (getD_ne h (by decide))).1.1, getD_set_true (c29 (getD_ne h (by decide))).1.2.1, getD_set_true (c29 (getD_ne h (by decide))).1.2.2⟩, (c29 (getD_ne h (by decide))).2⟩, fun h => by obtain ⟨g, q1, q2, q3, q4, q5, q6, q7⟩ := (c30 (getD_ne h (by decide))); exact ⟨g, q1, q2, q3, fun h5 => q4 (getD_ne h5 (by decide)), fun h5 => q5 (getD_ne h5 (by decide)), fun h5 => q6 (getD_ne h5 (by decide)), fun h5 => q7 (getD_ne h5 (by decide))⟩, fun h => ⟨getD_set_true (c31 (getD_ne h (by decide))).1, getD_set_true (c31 (getD_ne h (by decide))).2⟩, fun h h2 => p0 (getD_ne h (by decide)) (getD_ne h2 (by decide))⟩)
    · -- 24
      obtain rfl := c23 (by have hd := ready_deps hi (o := _) rfl; exact hd ⟨23, .data⟩ (by simp) (by rfl))
      clear hEw
      refine wpOp_step rfl (fun K' hK' => ?_)
      have HK : Hid (∀ a w, K a w → K' a w) := hK'
      have HK2 : Hid (type_of% hK) := hK
      clear hK hK'
      go_simp
      exact HK.out _ _ (HK2.out _ _ ⟨by simp [hls], hB, _, _, _, _, _, _, _, _, _, _, _, _, _, _, _, _, _, _, _, _, _, _, _, _, _, _, _, _, _, _, _, rfl, fun h => (c0 (getD_ne h (by decide))), fun h => (c1 (getD_ne h (by decide))), fun h => (c2 (getD_ne h (by decide))), fun h => (c3 (getD_ne h (by decide))), fun h => (c4 (getD_ne h (by decide))), fun h => (c5 (getD_ne h (by decide))), fun h => (c6 (getD_ne h (by decide))), fun h => (c7 (getD_ne h (by decide))), fun h => (c8 (getD_ne h (by decide))), fun h => (c9 (getD_ne h (by decide))), fun h => (c10 (getD_ne h (by decide))), fun h => (c11 (getD_ne h (by decide))), fun h => (c12 (getD_ne h (by decide))), fun h => (c13 (getD_ne h (by decide))), fun h => (c14 (getD_ne h (by decide))), fun h => (c15 (getD_ne h (by decide))), fun h => (c16 (getD_ne h (by decide))), fun h => (c17 (getD_ne h (by decide))), fun h => (c18 (getD_ne h (by decide))), fun h => (c19 (getD_ne h (by decide))), fun h => (c20 (getD_ne h (by decide))), fun h => (c21 (getD_ne h (by decide))), fun h => (c22 (getD_ne h (by decide))), fun h => (c23 (getD_ne h (by decide))), fun _ => rfl, fun h => (c25 (getD_ne h (by decide))), fun h => (c26 (getD_ne h (by decide))), fun h => (c27 (getD_ne h (by decide))), fun h => (c28 (getD_ne h (by decide))), fun h => ⟨⟨getD_set_true (c29 (getD_ne h (by decide))).1.1, getD_set_true (c29 (getD_ne h (by decide))).1.2.1, getD_set_true (c29 (getD_ne h (by decide))).1.2.2⟩, (c29 (getD_ne h (by decide))).2⟩, fun h => by obtain ⟨g, q1, q2, q3, q4, q5, q6, q7⟩ := (c30 (getD_ne h (by decide))); exact ⟨g, q1, q2, q3, fun h5 => q4 (getD_ne h5 (by decide)), fun h5 => q5 (getD_ne h5 (by decide)), fun h5 => q6 (getD_ne h5 (by decide)), fun h5 => q7 (getD_ne h5 (by decide))⟩, fun h => ⟨getD_set_true (c31 (getD_ne h (by decide))).1, getD_set_true (c31 (getD_ne h (by decide))).2⟩, fun h h2 => p0 (getD_ne h (by decide)) (getD_ne h2 (by decide))⟩)
    · -- 25
      obtain rfl := c24 (by have hd := ready_deps hi (o := _) rfl; exact hd ⟨24, .data⟩ (by simp) (by rfl))
      clear hEw
      refine wpOp_step rfl (fun K' hK' => ?_)
      have HK : Hid (∀ a w, K a w → K' a w) := hK'
      have HK2 : Hid (type_of% hK) := hK
      clear hK hK'
      go_simp
      exact HK.out _ _ (HK2.out _ _ ⟨by simp [hls], hB, _, _, _, _, _, _, _, _, _, _, _, _, _, _, _, _, _, _, _, _, _, _, _, _, _, _, _, _, _, _, _, rfl, fun h => (c0 (getD_ne h (by decide))), fun h => (c1 (getD_ne h (by decide))), fun h => (c2 (getD_ne h (by decide))), fun h => (c3 (getD_ne h (by decide))), fun h => (c4 (getD_ne h (by decide))), fun h => (c5 (getD_ne h (by decide))), fun h => (c6 (getD_ne h (by decide))), fun h => (c7 (getD_ne h (by decide))), fun h => (c8 (getD_ne h (by decide))), fun h => (c9 (getD_ne h (by decide))), fun h => (c10 (getD_ne h (by decide))), fun h => (c11 (getD_ne h (by decide))), fun h => (c12 (getD_ne h (by decide))), fun h => (c13 (getD_ne h (by decide))), fun h => (c14 (getD_ne h (by decide))), fun h => (c15 (getD_ne h (by decide))), fun h => (c16 (getD_ne h (by decide))), fun h => (c17 (getD_ne h (by decide))), fun h => (c18 (getD_ne h (by decide))), fun h => (c19 (getD_ne h (by decide))), fun h => (c20 (getD_ne h (by decide))), fun h => (c21 (getD_ne h (by decide))), fun h => (c22 (getD_ne h (by decide))), fun h => (c23 (getD_ne h (by decide))), fun h => (c24 (getD_ne h (by decide))), fun _ => rfl, fun h => (c26 (getD_ne h (by decide))), fun h => (c27 (getD_ne h (by decide))), fun h => (c28 (getD_ne h (by decide))), fun h => ⟨⟨getD_set_true (c29 (getD_ne h (by decide))).1.1, getD_set_true (c29 (getD_ne h (by decide))).1.2.1, getD_set_true (c29 (getD_ne h (by decide))).1.2.2⟩, (c29 (getD_ne h (by decide))).2⟩, fun h => by obtain ⟨g, q1, q2, q3, q4, q5, q6, q7⟩ := (c30 (getD_ne h (by decide))); exact ⟨g, q1, q2, q3, fun h5 => q4 (getD_ne h5 (by decide)), fun h5 => q5 (getD_ne h5 (by decide)), fun h5 => q6 (getD_ne h5 (by decide)), fun h5 => q7 (getD_ne h5 (by decide))⟩, fun h => ⟨getD_set_true (c31 (getD_ne h (by decide))).1, getD_set_true (c31 (getD_ne h (by decide))).2⟩, fun h h2 => p0 (getD_ne h (by decide)) (getD_ne h2 (by decide))⟩)
    · -- 26
      obtain rfl := c25 (by have hd := ready_deps hi (o := _) rfl; exact hd ⟨25, .data⟩ (by simp) (by rfl))
      clear hEw
      refine wpOp_step rfl (fun K' hK' => ?_)
      have HK : Hid (∀ a w, K a w → K' a w) := hK'
      have HK2 : Hid (type_of% hK) := hK
      clear hK hK'
      go_simp
      exact HK.out _ _ (HK2.out _ _ ⟨by simp [hls], hB, _, _, _, _, _, _, _, _, _, _, _, _, _, _, _, _, _, _, _, _, _, _, _, _, _, _, _, _, _, _, _, rfl, fun h => (c0 (getD_ne h (by decide))), fun h => (c1 (getD_ne h (by decide))), fun h => (c2 (getD_ne h (by decide))), fun h => (c3 (getD_ne h (by decide))), fun h => (c4 (getD_ne h (by decide))), fun h => (c5 (getD_ne h (by decide))), fun h => (c6 (getD_ne h (by decide))), fun h => (c7 (getD_ne h (by decide))), fun h => (c8 (getD_ne h (by decide))), fun h => (c9 (getD_ne h (by decide))), fun h => (c10 (getD_ne h (by decide))), fun h => (c11 (getD_ne h (by decide))), fun h => (c12 (getD_ne h (by decide))), fun h => (c13 (getD_ne h (by decide))), fun h => (c14 (getD_ne h (by decide))), fun h => (c15 (getD_ne h (by decide))), fun h => (c16 (getD_ne h (by decide))), fun h => (c17 (getD_ne h (by decide))), fun h => (c18 (getD_ne h (by decide))), fun h => (c19 (getD_ne h (by decide))), fun h => (c20 (getD_ne h (by decide))), fun h => (c21 (getD_ne h (by decide))), fun h => (c22 (getD_ne h (by decide))), fun h => (c23 (getD_ne h (by decide))), fun h => (c24 (getD_ne h (by decide))), fun h => (c25 (getD_ne h (by decide))), fun _ => rfl, fun h => (c27 (getD_ne h (by decide))), fun h => (c28 (getD_ne h (by decide))), fun h => ⟨⟨getD_set_true (c29 (getD_ne h (by decide))).1.1, getD_set_true (c29 (getD_ne h (by decide))).1.2.1, getD_set_true (c29 (getD_ne h (by decide))).1.2.2⟩, (c29 (getD_ne h (by decide))).2⟩, fun h => by obtain ⟨g, q1, q2, q3, q4, q5, q6, q7⟩ := (c30 (getD_ne h (by decide))); exact ⟨g, q1, q2, q3, fun h5 => q4 (getD_ne h5 (by decide)), fun h5 => q5 (getD_ne h5 (by decide)), fun h5 => q6 (getD_ne h5 (by decide)), fun h5 => q7 (getD_ne h5 (by decide))⟩, fun h => ⟨getD_set_true (c31 (getD_ne h (by decide))).1, getD_set_true (c31 (getD_ne h (by decide))).2⟩, fun h h2 => p0 (getD_ne h (by decide)) (getD_ne h2 (by decide))⟩)
    · -- 27
      obtain rfl := c26 (by have hd := ready_deps hi (o := _) rfl; exact hd ⟨26, .data⟩ (by simp) (by rfl))
      have y5 := hEw.v.c5
      clear hEw
      refine wpOp_step rfl (fun K' hK' => ?_)
      have HK : Hid (∀ a w, K a w → K' a w) := hK'
      have HK2 : Hid (type_of% hK) := hK
      clear hK hK'
      go_simp
      exact HK.out _ _ (HK2.out _ _ ⟨by simp [hls], hB, _, _, _, _, _, _, _, _, _, _, _, _, _, _, _, _, _, _, _, _, _, _, _, _, _, _, _, _, _, _, _, rfl, fun h => (c0 (getD_ne h (by decide))), fun h => (c1 (getD_ne h (by decide))), fun h => (c2 (getD_ne h (by decide))), fun h => (c3 (getD_ne h (by decide))), fun h => (c4 (getD_ne h (by decide))), fun h => (c5 (getD_ne h (by decide))), fun h => (c6 (getD_ne h (by decide))), fun h => (c7 (getD_ne h (by decide))), fun h => (c8 (getD_ne h (by decide))), fun h => (c9 (getD_ne h (by decide))), fun h => (c10 (getD_ne h (by decide))), fun h => (c11 (getD_ne h (by decide))), fun h => (c12 (getD_ne h (by decide))), fun h => (c13 (getD_ne h (by decide))), fun h => (c14 (getD_ne h (by decide))), fun h => (c15 (getD_ne h (by decide))), fun h => (c16 (getD_ne h (by decide))), fun h => (c17 (getD_ne h (by decide))), fun h => (c18 (getD_ne h (by decide))), fun h => (c19 (getD_ne h (by decide))), fun h => (c20 (getD_ne h (by decide))), fun h => (c21 (getD_ne h (by decide))), fun h => (c22 (getD_ne h (by decide))), fun h => (c23 (getD_ne h (by decide))), fun h => (c24 (getD_ne h (by decide))), fun h => (c25 (getD_ne h (by decide))), fun h => (c26 (getD_ne h (by decide))), fun _ => rfl, fun h => (c28 (getD_ne h (by decide))), fun h => ⟨⟨getD_set_true (c29 (getD_ne h (by decide))).1.1, getD_set_true (c29 (getD_ne h (by decide))).1.2.1, getD_set_true (c29 (getD_ne h (by decide))).1.2.2⟩, (c29 (getD_ne h (by decide))).2⟩, fun h => by obtain ⟨g, q1, q2, q3, q4, q5, q6, q7⟩ := (c30 (getD_ne h (by decide))); exact ⟨g, q1, q2, q3, fun h5 => q4 (getD_ne h5 (by decide)), fun h5 => q5 (getD_ne h5 (by decide)), fun h5 => q6 (getD_ne h5 (by decide)), fun h5 => q7 (getD_ne h5 (by decide))⟩, fun h => ⟨getD_set_true (c31 (getD_ne h (by decide))).1, getD_set_true (c31 (getD_ne h (by decide))).2⟩, fun h h2 => p0 (getD_ne h (by decide)) (getD_ne h2 (by decide))⟩)
    · -- 28
      obtain rfl := c27 (by have hd := ready_deps hi (o := _) rfl; exact hd ⟨27, .data⟩ (by simp) (by rfl))
      have hoff := ready_off hi (by omega)
      have hka := hEw.r.at.a
      dsimp only at hka
      have hbs : W.ownsRow W.heap.size 86 2 (.slice none 0 0) 0 [] := ⟨rfl, .inl ⟨rfl, rfl⟩⟩
      clear hEw
      refine wpOp_step rfl (fun K' hK' => ?_)
      have HK : Hid (∀ a w, K a w → K' a w) := hK'
      have HK2 : Hid (type_of% hK) := hK
      clear hK hK'
      refine step_append_mayF W (by rfl) _ _ _ (by rfl) W.heap.size 86 q0 (.agg #[.int .i64 0, .int .i64 0]) 2 16 Try.underlying24 hq hqz0 hqz1 hqz2 rfl (by decide) _ 0 [] (by rfl) hbs _ s.acks.length _ (s.acks.flatMap Ak.cells) (by rfl) (flatAk_len _) (AksAt.news hka) (onesAk _) (by unfold maxLen; omega) (by omega) (by omega) ?_
      intro ar cp W9 ho hgr hnb
      have hr : AkRow W9 W.heap.size (.slice ar s.acks.length cp) s.acks := by
        unfold AkRow
        simpa using ho
      have hb : Below W.heap.size W W9 := (Below.refl W.heap.size W).grown hgr (by omega) (fun k hk => by simp [Value.ownBlock] at hk)
      rw [show 0 + s.acks.length = s.acks.length by omega]
      (try go_simp)
      exact HK.out _ _ (HK2.out _ _ ⟨by simp [hls], hB.trans (hb.mono hB.size), _, _, _, _, _, _, _, _, _, _, _, _, _, _, _, _, _, _, _, _, _, _, _, _, _, _, _, _, _, _, _, rfl, fun h => (c0 (getD_ne h (by decide))), fun h => (c1 (getD_ne h (by decide))), fun h => (c2 (getD_ne h (by decide))), fun h => (c3 (getD_ne h (by decide))), fun h => (c4 (getD_ne h (by decide))), fun h => (c5 (getD_ne h (by decide))), fun h => (c6 (getD_ne h (by decide))), fun h => (c7 (getD_ne h (by decide))), fun h => by obtain ⟨a, k, e, r⟩ := (c8 (getD_ne h (by decide))); exact ⟨a, k, e, own_belowY r hb⟩, fun h => (c9 (getD_ne h (by decide))), fun h => (c10 (getD_ne h (by decide))), fun h => (c11 (getD_ne h (by decide))), fun h => (c12 (getD_ne h (by decide))), fun h => (c13 (getD_ne h (by decide))), fun h => (c14 (getD_ne h (by decide))), fun h => (c15 (getD_ne h (by decide))), fun h => (c16 (getD_ne h (by decide))), fun h => (c17 (getD_ne h (by decide))), fun h => (c18 (getD_ne h (by decide))), fun h => (c19 (getD_ne h (by decide))), fun h => (c20 (getD_ne h (by decide))), fun h => (c21 (getD_ne h (by decide))), fun h => by obtain ⟨a, k, e, r⟩ := (c22 (getD_ne h (by decide))); exact ⟨a, k, e, own_belowY r hb⟩, fun h => (c23 (getD_ne h (by decide))), fun h => (c24 (getD_ne h (by decide))), fun h => (c25 (getD_ne h (by decide))), fun h => (c26 (getD_ne h (by decide))), fun h => (c27 (getD_ne h (by decide))), fun _ => ⟨_, _, rfl, own_lower hr hsz⟩, fun h => absurd (c29 (getD_ne h (by decide))).1.2.2 (by rw [hoff]; decide), fun h => by obtain ⟨g, q1, q2, ⟨y0, y1, y2, y3, y4, y5, q3⟩, q4, q5, q6, q7⟩ := (c30 (getD_ne h (by decide))); exact ⟨g, q1, ⟨q2.1, Nat.lt_of_lt_of_le q2.2 hb.size⟩, ⟨y0, y1, y2, y3, y4, y5, q3.below hb⟩, fun h5 => q4 (getD_ne h5 (by decide)), fun h5 => q5 (getD_ne h5 (by decide)), fun _ k hk => by have := (World.ownsRow.lt hr k hk).1; omega, fun h5 => absurd (c29 (c31 (getD_ne h5 (by decide))).1).1.2.2 (by rw [hoff]; decide)⟩, fun h => ⟨getD_set_true (c31 (getD_ne h (by decide))).1, getD_set_true (c31 (getD_ne h (by decide))).2⟩, fun h h2 => p0 (getD_ne h (by decide)) (getD_ne h2 (by decide))⟩)
    · -- 29
      obtain rfl := c3 (by have hd := ready_deps hi (o := _) rfl; exact hd ⟨3, .data⟩ (by simp) (by rfl))
      have D8 : Hid (l.getD 8 false = true) := (by have hd := ready_deps hi (o := _) rfl; exact hd ⟨8, .data⟩ (by simp) (by rfl))
      obtain ⟨a8, k8, e8, r8⟩ := c8 D8.out
      subst e8
      obtain rfl := c12 (by have hd := ready_deps hi (o := _) rfl; exact hd ⟨12, .data⟩ (by simp) (by rfl))
      have D22 : Hid (l.getD 22 false = true) := (by have hd := ready_deps hi (o := _) rfl; exact hd ⟨22, .data⟩ (by simp) (by rfl))
      obtain ⟨a22, k22, e22, r22⟩ := c22 D22.out
      subst e22
      have D28 : Hid (l.getD 28 false = true) := (by have hd := ready_deps hi (o := _) rfl; exact hd ⟨28, .data⟩ (by simp) (by rfl))
      obtain ⟨a28, k28, e28, r28⟩ := c28 D28.out
      subst e28
      clear hEw
      refine wpOp_step rfl (fun K' hK' => ?_)
      have HK : Hid (∀ a w, K a w → K' a w) := hK'
      have HK2 : Hid (type_of% hK) := hK
      clear hK hK'
      go_simp
      exact HK.out _ _ (HK2.out _ _ ⟨by simp [hls], hB, _, _, _, _, _, _, _, _, _, _, _, _, _, _, _, _, _, _, _, _, _, _, _, _, _, _, _, _, _, _, _, rfl, fun h => (c0 (getD_ne h (by decide))), fun h => (c1 (getD_ne h (by decide))), fun h => (c2 (getD_ne h (by decide))), fun h => (c3 (getD_ne h (by decide))), fun h => (c4 (getD_ne h (by decide))), fun h => (c5 (getD_ne h (by decide))), fun h => (c6 (getD_ne h (by decide))), fun h => (c7 (getD_ne h (by decide))), fun h => (c8 (getD_ne h (by decide))), fun h => (c9 (getD_ne h (by decide))), fun h => (c10 (getD_ne h (by decide))), fun h => (c11 (getD_ne h (by decide))), fun h => (c12 (getD_ne h (by decide))), fun h => (c13 (getD_ne h (by decide))), fun h => (c14 (getD_ne h (by decide))), fun h => (c15 (getD_ne h (by decide))), fun h => (c16 (getD_ne h (by decide))), fun h => (c17 (getD_ne h (by decide))), fun h => (c18 (getD_ne h (by decide))), fun h => (c19 (getD_ne h (by decide))), fun h => (c20 (getD_ne h (by decide))), fun h => (c21 (getD_ne h (by decide))), fun h => (c22 (getD_ne h (by decide))), fun h => (c23 (getD_ne h (by decide))), fun h => (c24 (getD_ne h (by decide))), fun h => (c25 (getD_ne h (by decide))), fun h => (c26 (getD_ne h (by decide))), fun h => (c27 (getD_ne h (by decide))), fun h => (c28 (getD_ne h (by decide))), fun _ => ⟨⟨getD_set_true D8.out, getD_set_true D22.out, getD_set_true D28.out⟩, rfl⟩, fun h => by obtain ⟨g, q1, q2, q3, q4, q5, q6, q7⟩ := (c30 (getD_ne h (by decide))); exact ⟨g, q1, q2, q3, fun h5 => q4 (getD_ne h5 (by decide)), fun h5 => q5 (getD_ne h5 (by decide)), fun h5 => q6 (getD_ne h5 (by decide)), fun h5 => q7 (getD_ne h5 (by decide))⟩, fun h => ⟨getD_set_true (c31 (getD_ne h (by decide))).1, getD_set_true (c31 (getD_ne h (by decide))).2⟩, fun h h2 => p0 (getD_ne h (by decide)) (getD_ne h2 (by decide))⟩)
    · -- 30
      have hoff := ready_off hi (by omega)
      clear hEw
      refine wpOp_step rfl (fun K' hK' => ?_)
      have HK : Hid (∀ a w, K a w → K' a w) := hK'
      have HK2 : Hid (type_of% hK) := hK
      clear hK hK'
      have hb : Below W.heap.size W (W.alloc (.cells #[.int .i64 0, .slice none 0 0, .int .i64 0, .slice none 0 0, .slice none 0 0, .slice none 0 0] 26)) := (Below.refl _ W).alloc (Nat.le_refl _) _
      go_simp
      exact HK.out _ _ (HK2.out _ _ ⟨by simp [hls], hB.alloc hsz _, _, _, _, _, _, _, _, _, _, _, _, _, _, _, _, _, _, _, _, _, _, _, _, _, _, _, _, _, _, _, _, rfl, fun h => (c0 (getD_ne h (by decide))), fun h => (c1 (getD_ne h (by decide))), fun h => (c2 (getD_ne h (by decide))), fun h => (c3 (getD_ne h (by decide))), fun h => (c4 (getD_ne h (by decide))), fun h => (c5 (getD_ne h (by decide))), fun h => (c6 (getD_ne h (by decide))), fun h => (c7 (getD_ne h (by decide))), fun h => by obtain ⟨a, k, e, r⟩ := (c8 (getD_ne h (by decide))); exact ⟨a, k, e, own_belowY r hb⟩, fun h => (c9 (getD_ne h (by decide))), fun h => (c10 (getD_ne h (by decide))), fun h => (c11 (getD_ne h (by decide))), fun h => (c12 (getD_ne h (by decide))), fun h => (c13 (getD_ne h (by decide))), fun h => (c14 (getD_ne h (by decide))), fun h => (c15 (getD_ne h (by decide))), fun h => (c16 (getD_ne h (by decide))), fun h => (c17 (getD_ne h (by decide))), fun h => (c18 (getD_ne h (by decide))), fun h => (c19 (getD_ne h (by decide))), fun h => (c20 (getD_ne h (by decide))), fun h => (c21 (getD_ne h (by decide))), fun h => by obtain ⟨a, k, e, r⟩ := (c22 (getD_ne h (by decide))); exact ⟨a, k, e, own_belowY r hb⟩, fun h => (c23 (getD_ne h (by decide))), fun h => (c24 (getD_ne h (by decide))), fun h => (c25 (getD_ne h (by decide))), fun h => (c26 (getD_ne h (by decide))), fun h => (c27 (getD_ne h (by decide))), fun h => by obtain ⟨a, k, e, r⟩ := (c28 (getD_ne h (by decide))); exact ⟨a, k, e, own_belowY r hb⟩, fun h => ⟨⟨getD_set_true (c29 (getD_ne h (by decide))).1.1, getD_set_true (c29 (getD_ne h (by decide))).1.2.1, getD_set_true (c29 (getD_ne h (by decide))).1.2.2⟩, (c29 (getD_ne h (by decide))).2⟩, fun _ => ⟨W.heap.size, rfl, ⟨hsz, by simp⟩, ⟨_, _, _, _, _, _, Sv.fresh W _ _ _ _ _ _ _⟩, fun h5 k hk => by obtain ⟨a, k', e, r⟩ := c8 (getD_ne h5 (by decide)); have := (World.ownsRow.lt r k hk).2; omega, fun h5 k hk => by obtain ⟨a, k', e, r⟩ := c22 (getD_ne h5 (by decide)); have := (World.ownsRow.lt r k hk).2; omega, fun h5 k hk => by obtain ⟨a, k', e, r⟩ := c28 (getD_ne h5 (by decide)); have := (World.ownsRow.lt r k hk).2; omega, fun h5 => absurd (c31 (getD_ne h5 (by decide))).2 (by rw [hoff]; decide)⟩, fun h => absurd (c31 (getD_ne h (by decide))).2 (by rw [hoff]; decide), fun h h2 => p0 (getD_ne h (by decide)) (getD_ne h2 (by decide))⟩)
    · -- 31
      have D30 : Hid (l.getD 30 false = true) := (by have hd := ready_deps hi (o := _) rfl; exact hd ⟨30, .data⟩ (by simp) (by rfl))
      have D29 : Hid (l.getD 29 false = true) := (by have hd := ready_deps hi (o := _) rfl; exact hd ⟨29, .data⟩ (by simp) (by rfl))
      obtain ⟨g, q1, q2, ⟨y0, y1, y2, y3, y4, y5, q3⟩, q4, q5, q6, q7⟩ := c30 D30.out
      subst q1
      have f29 := c29 D29.out
      obtain rfl := f29.2
      obtain ⟨a8, k8, e8, r8⟩ := c8 f29.1.1
      subst e8
      obtain ⟨a22, k22, e22, r22⟩ := c22 f29.1.2.1
      subst e22
      obtain ⟨a28, k28, e28, r28⟩ := c28 f29.1.2.2
      subst e28
      have t0 := q3.c0
      have z0 := q3.f0
      have t1 := q3.c1
      have z1 := q3.f1
      have t2 := q3.c2
      have z2 := q3.f2
      have t3 := q3.c3
      have z3 := q3.f3
      have t4 := q3.c4
      have z4 := q3.f4
      have t5 := q3.c5
      have z5 := q3.f5
      have hBs := ((((((hB.setCell (p := ⟨g, 0, none⟩) q2.1 (.int .i64 s.ep)).setCell (p := ⟨g, 1, none⟩) q2.1 (.slice a8 s.items.length k8)).setCell (p := ⟨g, 2, none⟩) q2.1 (.int .i64 s.base)).setCell (p := ⟨g, 3, none⟩) q2.1 (.slice a22 s.handed.length k22)).setCell (p := ⟨g, 4, none⟩) q2.1 (.slice none 0 0)).setCell (p := ⟨g, 5, none⟩) q2.1 (.slice a28 s.acks.length k28))
      clear hEw f29
      refine wpOp_step rfl (fun K' hK' => ?_)
      have HK : Hid (∀ a w, K a w → K' a w) := hK'
      have HK2 : Hid (type_of% hK) := hK
      clear hK hK'
      go_simp
      exact HK.out _ _ (HK2.out _ _ ⟨by simp [hls], hBs, _, _, _, _, _, _, _, _, _, _, _, _, _, _, _, _, _, _, _, _, _, _, _, _, _, _, _, _, _, _, _, rfl, fun h => (c0 (getD_ne h (by decide))), fun h => (c1 (getD_ne h (by decide))), fun h => (c2 (getD_ne h (by decide))), fun h => (c3 (getD_ne h (by decide))), fun h => (c4 (getD_ne h (by decide))), fun h => (c5 (getD_ne h (by decide))), fun h => (c6 (getD_ne h (by decide))), fun h => (c7 (getD_ne h (by decide))), fun h => by obtain ⟨a, k, e, r⟩ := (c8 (getD_ne h (by decide))); exact ⟨a, k, e, own_set6 r (q4 (getD_ne h (by decide)))⟩, fun h => (c9 (getD_ne h (by decide))), fun h => (c10 (getD_ne h (by decide))), fun h => (c11 (getD_ne h (by decide))), fun h => (c12 (getD_ne h (by decide))), fun h => (c13 (getD_ne h (by decide))), fun h => (c14 (getD_ne h (by decide))), fun h => (c15 (getD_ne h (by decide))), fun h => (c16 (getD_ne h (by decide))), fun h => (c17 (getD_ne h (by decide))), fun h => (c18 (getD_ne h (by decide))), fun h => (c19 (getD_ne h (by decide))), fun h => (c20 (getD_ne h (by decide))), fun h => (c21 (getD_ne h (by decide))), fun h => by obtain ⟨a, k, e, r⟩ := (c22 (getD_ne h (by decide))); exact ⟨a, k, e, own_set6 r (q5 (getD_ne h (by decide)))⟩, fun h => (c23 (getD_ne h (by decide))), fun h => (c24 (getD_ne h (by decide))), fun h => (c25 (getD_ne h (by decide))), fun h => (c26 (getD_ne h (by decide))), fun h => (c27 (getD_ne h (by decide))), fun h => by obtain ⟨a, k, e, r⟩ := (c28 (getD_ne h (by decide))); exact ⟨a, k, e, own_set6 r (q6 (getD_ne h (by decide)))⟩, fun h => ⟨⟨getD_set_true (c29 (getD_ne h (by decide))).1.1, getD_set_true (c29 (getD_ne h (by decide))).1.2.1, getD_set_true (c29 (getD_ne h (by decide))).1.2.2⟩, (c29 (getD_ne h (by decide))).2⟩, fun _ => ⟨g, rfl, ⟨q2.1, by simpa using q2.2⟩, ⟨_, _, _, _, _, _, q3.set6⟩, fun h5 => q4 (getD_ne h5 (by decide)), fun h5 => q5 (getD_ne h5 (by decide)), fun h5 => q6 (getD_ne h5 (by decide)), fun _ => q3.set6⟩, fun _ => ⟨getD_set_true D29.out, getD_set_true D30.out⟩, fun h h2 => p0 (getD_ne h (by decide)) (getD_ne h2 (by decide))⟩)

end Go.Proofs.Ytnlppeieccbhgaa
