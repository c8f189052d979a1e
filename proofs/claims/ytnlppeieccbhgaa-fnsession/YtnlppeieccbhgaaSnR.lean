/- The model's l15Own: a session's lists copied. -/
import Derived.Test.YtnlppeieccbhgaaSnQ
import Derived.Test.YtnlppeieccbhgaaXn
import Derived.Deep.DeepCutAuto
namespace Go.Proofs.Ytnlppeieccbhgaa
open Go.RowKit Plain Tpc Ssn

theorem getD_ne {l : Array Bool} {i j : Nat} (h : (l.setIfInBounds i true).getD j false = true) (hne : i ≠ j) : l.getD j false = true := by
  rwa [getD_set_ne false hne] at h

theorem ready_deps {md : Region.Mode} {ops : Array Oper} {l : Array Bool} {i : Nat} {o : Oper} (h : i ∈ Region.ready md ops l) (ho : ops[i]? = some o) : ∀ e ∈ o.after, Region.binds md e = true → l.getD e.on false = true := by
  obtain ⟨_, o', ho', hd⟩ := mem_ready.1 h
  rw [ho] at ho'
  cases ho'
  exact hd

theorem ready_lt {md : Region.Mode} {ops : Array Oper} {l : Array Bool} {i : Nat} (h : i ∈ Region.ready md ops l) : i < ops.size := by
  obtain ⟨_, o', ho', _⟩ := mem_ready.1 h
  exact (Array.getElem?_eq_some_iff.1 ho').1

theorem getD_off {l : Array Bool} {i j : Nat} (h : (l.setIfInBounds i true).getD j false = false) (hne : i ≠ j) : l.getD j false = false := by
  rwa [getD_set_ne false hne] at h

theorem getD_on {l : Array Bool} {i : Nat} (hi : i < l.size) : (l.setIfInBounds i true).getD i false = true := by simp [hi]

theorem ready_off {md : Region.Mode} {ops : Array Oper} {l : Array Bool} {i : Nat} (h : i ∈ Region.ready md ops l) (hs : i < l.size) : l.getD i false = false := by
  have := (mem_ready.1 h).1
  simpa [hs] using this

/-- one that has not come up though all ahead of it have may come up -/
theorem listed_of {md : Region.Mode} {ops : Array Oper} {l : Array Bool} (h0 : Region.ready md ops l = []) (i : Nat) (o : Oper) (hs : i < l.size) (ho : ops[i]? = some o) (hd : ∀ e ∈ o.after, l.getD e.on false = true) : l.getD i false = true := by
  rcases Bool.eq_false_or_eq_true (l.getD i false) with h | h
  · exact h
  · have hi : i ∈ Region.ready md ops l := mem_ready.2 ⟨by
      simp only [Array.getD, dif_pos hs] at h ⊢
      exact h, o, ho, fun e he _ => hd e he⟩
    rw [h0] at hi
    cases hi

theorem diff_ty {w : World} {B B' e e' c c' n n' : Nat} {u v : Value} {xs ys : List Value} (h : w.ownsRow B e c u n xs) (h' : w.ownsRow B' e' c' v n' ys) (hne : e ≠ e') : ∀ g, u.ownBlock = some g → v.ownBlock ≠ some g := fun g hg hv => by
  rcases h.2 with ⟨rfl, _⟩ | ⟨g1, c1, cur1, rfl, _, hh1, _⟩
  · simp [Value.ownBlock] at hg
  · rcases h'.2 with ⟨rfl, _⟩ | ⟨g2, c2, cur2, rfl, _, hh2, _⟩
    · simp [Value.ownBlock] at hv
    · simp [Value.ownBlock] at hg hv
      subst hg hv
      rw [hh1] at hh2
      simp at hh2
      exact hne hh2.2

theorem own_set6 {w' : World} {B e c m b : Nat} {v x0 x1 x2 x3 x4 x5 : Value} {xs : List Value} (h : w'.ownsRow B e c v m xs) (hN : ∀ g, v.ownBlock = some g → g ≠ b) : World.ownsRow ((((((w'.setCell ⟨b, 0, none⟩ x0).setCell ⟨b, 1, none⟩ x1).setCell ⟨b, 2, none⟩ x2).setCell ⟨b, 3, none⟩ x3).setCell ⟨b, 4, none⟩ x4).setCell ⟨b, 5, none⟩ x5) B e c v m xs := by
  have h1 := own_setCellS h b 0 x0 hN
  have h2 := own_setCellS h1 b 1 x1 hN
  have h3 := own_setCellS h2 b 2 x2 hN
  have h4 := own_setCellS h3 b 3 x3 hN
  have h5 := own_setCellS h4 b 4 x4 hN
  exact own_setCellS h5 b 5 x5 hN

theorem Sv.set6 {w' : World} {b : Nat} {y0 y1 y2 y3 y4 y5 x0 x1 x2 x3 x4 x5 : Value} (h : Sv w' b y0 y1 y2 y3 y4 y5) : Sv ((((((w'.setCell ⟨b, 0, none⟩ x0).setCell ⟨b, 1, none⟩ x1).setCell ⟨b, 2, none⟩ x2).setCell ⟨b, 3, none⟩ x3).setCell ⟨b, 4, none⟩ x4).setCell ⟨b, 5, none⟩ x5) b x0 x1 x2 x3 x4 x5 :=
  (((((h.set0 x0).set1 x1).set2 x2).set3 x3).set4 x4).set5 x5

theorem Sv.apart6 {w' : World} {c b : Nat} {y0 y1 y2 y3 y4 y5 x0 x1 x2 x3 x4 x5 : Value} (h : Sv w' c y0 y1 y2 y3 y4 y5) (hne : c ≠ b) : Sv ((((((w'.setCell ⟨b, 0, none⟩ x0).setCell ⟨b, 1, none⟩ x1).setCell ⟨b, 2, none⟩ x2).setCell ⟨b, 3, none⟩ x3).setCell ⟨b, 4, none⟩ x4).setCell ⟨b, 5, none⟩ x5) c y0 y1 y2 y3 y4 y5 :=
  (((((h.apart hne).apart hne).apart hne).apart hne).apart hne).apart hne

/-- what holds while the region goes -/
def OwnI (w : World) (s : Ses) (ai ah ay aa : Option Addr) (ci ch cy ca : Nat) (b N0 : Nat) (l : Array Bool) (a : Act) (W : World) : Prop :=
  l.size = 22 ∧ Below w.heap.size w W ∧ Sv W b (.int .i64 s.ep) (.slice ai s.items.length ci) (.int .i64 s.base) (.slice ah s.handed.length ch) (.slice ay s.way.length cy) (.slice aa s.acks.length ca) ∧ (N0 ≤ W.heap.size ∧ b + 1 < N0) ∧ (∃ x0 x1 x2 x3 x4 x5, Sv W (b + 1) x0 x1 x2 x3 x4 x5) ∧ ∃ u3 u4 u5 u6 u7 u8 u9 u10 u11 u12 u13 u14 u15 u16 u17 u18 u19 u20 u21 u22 u23 : Value,
    a = ⟨#[.agg #[.int .i64 s.ep, .slice ai s.items.length ci, .int .i64 s.base, .slice ah s.handed.length ch, .slice ay s.way.length cy, .slice aa s.acks.length ca], .pointer (some ⟨b, 0, none⟩), .pointer (some ⟨b + 1, 0, none⟩), u3, u4, u5, u6, u7, u8, u9, u10, u11, u12, u13, u14, u15, u16, u17, u18, u19, u20, u21, u22, u23], []⟩ ∧
    (l.getD 0 false = true → u3 = .pointer (some ⟨b, 0, none⟩)) ∧
    (l.getD 1 false = true → u4 = .int .i64 s.ep) ∧
    (l.getD 2 false = true → (∀ g, u5.ownBlock = some g → g < W.heap.size) ∧ (l.getD 5 false = false → W.ownsRow N0 9 1 u5 0 [])) ∧
    (l.getD 3 false = true → u6 = .pointer (some ⟨b, 1, none⟩)) ∧
    (l.getD 4 false = true → u7 = .slice ai s.items.length ci) ∧
    (l.getD 5 false = true → ∃ a c, u8 = .slice a s.items.length c ∧ StRow W N0 u8 s.items) ∧
    (l.getD 6 false = true → u9 = .pointer (some ⟨b, 2, none⟩)) ∧
    (l.getD 7 false = true → u10 = .int .i64 s.base) ∧
    (l.getD 8 false = true → (∀ g, u11.ownBlock = some g → g < W.heap.size) ∧ (l.getD 11 false = false → W.ownsRow N0 9 1 u11 0 [])) ∧
    (l.getD 9 false = true → u12 = .pointer (some ⟨b, 3, none⟩)) ∧
    (l.getD 10 false = true → u13 = .slice ah s.handed.length ch) ∧
    (l.getD 11 false = true → ∃ a c, u14 = .slice a s.handed.length c ∧ StRow W N0 u14 s.handed) ∧
    (l.getD 12 false = true → (∀ g, u15.ownBlock = some g → g < W.heap.size) ∧ (l.getD 15 false = false → W.ownsRow N0 84 3 u15 0 [])) ∧
    (l.getD 13 false = true → u16 = .pointer (some ⟨b, 4, none⟩)) ∧
    (l.getD 14 false = true → u17 = .slice ay s.way.length cy) ∧
    (l.getD 15 false = true → ∃ a c, u18 = .slice a s.way.length c ∧ PkRow W N0 u18 s.way) ∧
    (l.getD 16 false = true → (∀ g, u19.ownBlock = some g → g < W.heap.size) ∧ (l.getD 19 false = false → W.ownsRow N0 86 2 u19 0 [])) ∧
    (l.getD 17 false = true → u20 = .pointer (some ⟨b, 5, none⟩)) ∧
    (l.getD 18 false = true → u21 = .slice aa s.acks.length ca) ∧
    (l.getD 19 false = true → ∃ a c, u22 = .slice a s.acks.length c ∧ AkRow W N0 u22 s.acks) ∧
    (l.getD 20 false = true → (l.getD 5 false = true ∧ l.getD 11 false = true ∧ l.getD 15 false = true ∧ l.getD 19 false = true) ∧ u23 = .agg #[.int .i64 s.ep, u8, .int .i64 s.base, u14, u18, u22]) ∧
    (l.getD 21 false = true → l.getD 20 false = true ∧ Sv W (b + 1) (.int .i64 s.ep) u8 (.int .i64 s.base) u14 u18 u22) ∧
    (l.getD 2 false = true → l.getD 8 false = true → ∀ g, u5.ownBlock = some g → u11.ownBlock ≠ some g) ∧
    (l.getD 2 false = true → l.getD 11 false = true → ∀ g, u5.ownBlock = some g → u14.ownBlock ≠ some g) ∧
    (l.getD 5 false = true → l.getD 8 false = true → ∀ g, u8.ownBlock = some g → u11.ownBlock ≠ some g) ∧
    (l.getD 5 false = true → l.getD 11 false = true → ∀ g, u8.ownBlock = some g → u14.ownBlock ≠ some g)

set_option maxRecDepth 100000 in
set_option maxHeartbeats 16000000 in
theorem l15Own_any (s : Ses) (vi vh vw va : Value) (w : World) (h : SesAt w w.heap.size s vi vh vw va) (hl : Sml s 100) :
    Calls Try.prog 72 #[s.val vi vh vw va] w fun e w' => ∃ ui uh uw ua, e = .returned (s.val ui uh uw ua) ∧ SesRow w' w.heap.size s ui uh uw ua ∧ Below w.heap.size w w' := by
  have rc := fun (tmps : Array Value) (P : Program) (w : World) => results_cellS (fn := Try.f72) (p := 2) (ty := 26) rfl tmps P w
  obtain ⟨j0, hj, hjz0, hjz1, hjz2⟩ := info_parts infoStr
  obtain ⟨p0, hp, hpz0, hpz1, hpz2⟩ := info_parts Try.infoPk
  obtain ⟨q0, hq, hqz0, hqz1, hqz2⟩ := info_parts Try.infoAk
  have HS : Hid (SesAt w w.heap.size s vi vh vw va) := h
  obtain ⟨ai, ci, ah, ch, ay, cy, aa, ca, rfl, rfl, rfl, rfl⟩ := h.form
  obtain ⟨l1, l2, l3, l4⟩ := hl
  unfold Ses.val
  obtain ⟨W0, hW0⟩ : ∃ X, X = (w.alloc (.cells #[.int .i64 s.ep, .slice ai s.items.length ci, .int .i64 s.base, .slice ah s.handed.length ch, .slice ay s.way.length cy, .slice aa s.acks.length ca] 26)).alloc (.cells #[.int .i64 0, .slice none 0 0, .int .i64 0, .slice none 0 0, .slice none 0 0, .slice none 0 0] 26) := ⟨_, rfl⟩
  have hB0 : Below w.heap.size w W0 := by rw [hW0]; exact ((Below.refl _ w).alloc (Nat.le_refl _) _).alloc (by simp) _
  have V1 : Sv W0 w.heap.size (.int .i64 s.ep) (.slice ai s.items.length ci) (.int .i64 s.base) (.slice ah s.handed.length ch) (.slice ay s.way.length cy) (.slice aa s.acks.length ca) := by rw [hW0]; exact (Sv.fresh w _ _ _ _ _ _ _).below ((Below.refl _ _).alloc (Nat.le_refl _) _)
  have V2 : Sv W0 (w.heap.size + 1) (.int .i64 0) (.slice none 0 0) (.int .i64 0) (.slice none 0 0) (.slice none 0 0) (.slice none 0 0) := by
    have h := Sv.fresh (w.alloc (.cells #[.int .i64 s.ep, .slice ai s.items.length ci, .int .i64 s.base, .slice ah s.handed.length ch, .slice ay s.way.length cy, .slice aa s.acks.length ca] 26)) (.int .i64 0) (.slice none 0 0) (.int .i64 0) (.slice none 0 0) (.slice none 0 0) (.slice none 0 0) 26
    rw [hW0]
    simpa using h
  have hs0 : W0.heap.size = w.heap.size + 2 := by rw [hW0]; simp
  have hI0 : OwnI w s ai ah ay aa ci ch cy ca w.heap.size (w.heap.size + 2) (Array.replicate 22 false) ⟨#[.agg #[.int .i64 s.ep, .slice ai s.items.length ci, .int .i64 s.base, .slice ah s.handed.length ch, .slice ay s.way.length cy, .slice aa s.acks.length ca], .pointer (some ⟨w.heap.size, 0, none⟩), .pointer (some ⟨w.heap.size + 1, 0, none⟩), undef, undef, undef, undef, undef, undef, undef, undef, undef, undef, undef, undef, undef, undef, undef, undef, undef, undef, undef, undef, undef], []⟩ W0.drew := by
    refine ⟨by simp, hB0.drew, V1.kept rfl (Nat.le_refl _), ⟨by show _ ≤ W0.heap.size; omega, by omega⟩, ⟨_, _, _, _, _, _, V2.kept rfl (Nat.le_refl _)⟩, _, _, _, _, _, _, _, _, _, _, _, _, _, _, _, _, _, _, _, _, _, rfl, ?_, ?_, ?_, ?_, ?_, ?_, ?_, ?_, ?_, ?_, ?_, ?_, ?_, ?_, ?_, ?_, ?_, ?_, ?_, ?_, ?_, ?_, ?_, ?_, ?_, ?_⟩
    all_goals
      intro h
      exact absurd h (by decide)
  have HI0 : Hid (type_of% hI0) := hI0
  clear hI0 hs0 V1 V2 hB0
  have HEND : Hid (∀ W a u3 u4 u5 u6 u7 u8 u9 u10 u11 u12 u13 u14 u15 u16 u17 u18 u19 u20 u21 u22 u23, a = (⟨#[.agg #[.int .i64 s.ep, .slice ai s.items.length ci, .int .i64 s.base, .slice ah s.handed.length ch, .slice ay s.way.length cy, .slice aa s.acks.length ca], .pointer (some ⟨w.heap.size, 0, none⟩), .pointer (some ⟨w.heap.size + 1, 0, none⟩), u3, u4, u5, u6, u7, u8, u9, u10, u11, u12, u13, u14, u15, u16, u17, u18, u19, u20, u21, u22, u23], []⟩ : Act) → Below w.heap.size w W → (∃ a c, u8 = .slice a s.items.length c ∧ StRow W (w.heap.size + 2) u8 s.items) → (∃ a c, u14 = .slice a s.handed.length c ∧ StRow W (w.heap.size + 2) u14 s.handed) → (∃ a c, u18 = .slice a s.way.length c ∧ PkRow W (w.heap.size + 2) u18 s.way) → (∃ a c, u22 = .slice a s.acks.length c ∧ AkRow W (w.heap.size + 2) u22 s.acks) → Sv W (w.heap.size + 1) (.int .i64 s.ep) u8 (.int .i64 s.base) u14 u18 u22 → (∀ g, u8.ownBlock = some g → u14.ownBlock ≠ some g) → bodyPost Try.prog Try.f72 (fun e w' => ∃ ui uh uw ua, e = .returned (.agg #[.int .i64 s.ep, ui, .int .i64 s.base, uh, uw, ua]) ∧ SesRow w' w.heap.size s ui uh uw ua ∧ Below w.heap.size w w') Exit.ret a W) := by
    intro W a u3 u4 u5 u6 u7 u8 u9 u10 u11 u12 u13 u14 u15 u16 u17 u18 u19 u20 u21 u22 u23 ha hb ⟨a8, k8, e8, r8⟩ ⟨a14, k14, e14, r14⟩ ⟨a18, k18, e18, r18⟩ ⟨a22, k22, e22, r22⟩ V hx
    subst ha e8 e14 e18 e22
    refine bodyPost_ret (v := .agg #[.int .i64 s.ep, .slice a8 s.items.length k8, .int .i64 s.base, .slice a14 s.handed.length k14, .slice a18 s.way.length k18, .slice a22 s.acks.length k22]) ?_ rfl ⟨_, _, _, _, rfl, ⟨own_lower r8 (by omega), own_lower r14 (by omega), own_lower r18 (by omega), own_lower r22 (by omega), hx, diff_ty r8 r18 (by decide), diff_ty r8 r22 (by decide), diff_ty r14 r18 (by decide), diff_ty r14 r22 (by decide), diff_ty r18 r22 (by decide)⟩, hb⟩
    rw [rc]
    have y0 := V.c0
    have y1 := V.c1
    have y2 := V.c2
    have y3 := V.c3
    have y4 := V.c4
    have y5 := V.c5
    clear V r8 r14 r18 r22 hx hb HI0 HS
    go_simp
  go_enter Try.func72, Try.ntmps72
  go_upto_region 1 with fail
  rw [← hW0]
  clear hW0
  refine wp_region_held_drew (S := fun _ => True) (by kernel_rfl) trivial (fun _ => ?_)
  refine wpAnyH_inv (OwnI w s ai ah ay aa ci ch cy ca w.heap.size (w.heap.size + 2)) ?step ?fin _ _ _ _ HI0.out (by decide)
  case fin =>
    intro l a W hI h0
    obtain ⟨hls, hB, hV, hN, hV2, u3, u4, u5, u6, u7, u8, u9, u10, u11, u12, u13, u14, u15, u16, u17, u18, u19, u20, u21, u22, u23, ha, c0, c1, c2, c3, c4, c5, c6, c7, c8, c9, c10, c11, c12, c13, c14, c15, c16, c17, c18, c19, c20, c21, x0, x1, x2, x3⟩ := hI
    have b0 : l.getD 0 false = true := listed_of h0 0 _ (by omega) rfl (by intro e he; first | (simp at he; done) | skip; simp at he; first | (rcases he with rfl | rfl | rfl | rfl | rfl | rfl | rfl | rfl | rfl | rfl | rfl | rfl | rfl | rfl | rfl | rfl | rfl | rfl | rfl | rfl | rfl | rfl | rfl <;> assumption) | (rcases he with rfl | rfl | rfl | rfl | rfl | rfl | rfl | rfl <;> assumption) | (rcases he with rfl | rfl | rfl | rfl | rfl | rfl | rfl <;> assumption) | (rcases he with rfl | rfl | rfl | rfl | rfl | rfl <;> assumption) | (rcases he with rfl | rfl | rfl | rfl | rfl <;> assumption) | (rcases he with rfl | rfl | rfl | rfl <;> assumption) | (rcases he with rfl | rfl | rfl <;> assumption) | (rcases he with rfl | rfl <;> assumption) | (subst he; assumption))
    have b1 : l.getD 1 false = true := listed_of h0 1 _ (by omega) rfl (by intro e he; first | (simp at he; done) | skip; simp at he; first | (rcases he with rfl | rfl | rfl | rfl | rfl | rfl | rfl | rfl | rfl | rfl | rfl | rfl | rfl | rfl | rfl | rfl | rfl | rfl | rfl | rfl | rfl | rfl | rfl <;> assumption) | (rcases he with rfl | rfl | rfl | rfl | rfl | rfl | rfl | rfl <;> assumption) | (rcases he with rfl | rfl | rfl | rfl | rfl | rfl | rfl <;> assumption) | (rcases he with rfl | rfl | rfl | rfl | rfl | rfl <;> assumption) | (rcases he with rfl | rfl | rfl | rfl | rfl <;> assumption) | (rcases he with rfl | rfl | rfl | rfl <;> assumption) | (rcases he with rfl | rfl | rfl <;> assumption) | (rcases he with rfl | rfl <;> assumption) | (subst he; assumption))
    have b2 : l.getD 2 false = true := listed_of h0 2 _ (by omega) rfl (by intro e he; first | (simp at he; done) | skip; simp at he; first | (rcases he with rfl | rfl | rfl | rfl | rfl | rfl | rfl | rfl | rfl | rfl | rfl | rfl | rfl | rfl | rfl | rfl | rfl | rfl | rfl | rfl | rfl | rfl | rfl <;> assumption) | (rcases he with rfl | rfl | rfl | rfl | rfl | rfl | rfl | rfl <;> assumption) | (rcases he with rfl | rfl | rfl | rfl | rfl | rfl | rfl <;> assumption) | (rcases he with rfl | rfl | rfl | rfl | rfl | rfl <;> assumption) | (rcases he with rfl | rfl | rfl | rfl | rfl <;> assumption) | (rcases he with rfl | rfl | rfl | rfl <;> assumption) | (rcases he with rfl | rfl | rfl <;> assumption) | (rcases he with rfl | rfl <;> assumption) | (subst he; assumption))
    have b3 : l.getD 3 false = true := listed_of h0 3 _ (by omega) rfl (by intro e he; first | (simp at he; done) | skip; simp at he; first | (rcases he with rfl | rfl | rfl | rfl | rfl | rfl | rfl | rfl | rfl | rfl | rfl | rfl | rfl | rfl | rfl | rfl | rfl | rfl | rfl | rfl | rfl | rfl | rfl <;> assumption) | (rcases he with rfl | rfl | rfl | rfl | rfl | rfl | rfl | rfl <;> assumption) | (rcases he with rfl | rfl | rfl | rfl | rfl | rfl | rfl <;> assumption) | (rcases he with rfl | rfl | rfl | rfl | rfl | rfl <;> assumption) | (rcases he with rfl | rfl | rfl | rfl | rfl <;> assumption) | (rcases he with rfl | rfl | rfl | rfl <;> assumption) | (rcases he with rfl | rfl | rfl <;> assumption) | (rcases he with rfl | rfl <;> assumption) | (subst he; assumption))
    have b4 : l.getD 4 false = true := listed_of h0 4 _ (by omega) rfl (by intro e he; first | (simp at he; done) | skip; simp at he; first | (rcases he with rfl | rfl | rfl | rfl | rfl | rfl | rfl | rfl | rfl | rfl | rfl | rfl | rfl | rfl | rfl | rfl | rfl | rfl | rfl | rfl | rfl | rfl | rfl <;> assumption) | (rcases he with rfl | rfl | rfl | rfl | rfl | rfl | rfl | rfl <;> assumption) | (rcases he with rfl | rfl | rfl | rfl | rfl | rfl | rfl <;> assumption) | (rcases he with rfl | rfl | rfl | rfl | rfl | rfl <;> assumption) | (rcases he with rfl | rfl | rfl | rfl | rfl <;> assumption) | (rcases he with rfl | rfl | rfl | rfl <;> assumption) | (rcases he with rfl | rfl | rfl <;> assumption) | (rcases he with rfl | rfl <;> assumption) | (subst he; assumption))
    have b5 : l.getD 5 false = true := listed_of h0 5 _ (by omega) rfl (by intro e he; first | (simp at he; done) | skip; simp at he; first | (rcases he with rfl | rfl | rfl | rfl | rfl | rfl | rfl | rfl | rfl | rfl | rfl | rfl | rfl | rfl | rfl | rfl | rfl | rfl | rfl | rfl | rfl | rfl | rfl <;> assumption) | (rcases he with rfl | rfl | rfl | rfl | rfl | rfl | rfl | rfl <;> assumption) | (rcases he with rfl | rfl | rfl | rfl | rfl | rfl | rfl <;> assumption) | (rcases he with rfl | rfl | rfl | rfl | rfl | rfl <;> assumption) | (rcases he with rfl | rfl | rfl | rfl | rfl <;> assumption) | (rcases he with rfl | rfl | rfl | rfl <;> assumption) | (rcases he with rfl | rfl | rfl <;> assumption) | (rcases he with rfl | rfl <;> assumption) | (subst he; assumption))
    have b6 : l.getD 6 false = true := listed_of h0 6 _ (by omega) rfl (by intro e he; first | (simp at he; done) | skip; simp at he; first | (rcases he with rfl | rfl | rfl | rfl | rfl | rfl | rfl | rfl | rfl | rfl | rfl | rfl | rfl | rfl | rfl | rfl | rfl | rfl | rfl | rfl | rfl | rfl | rfl <;> assumption) | (rcases he with rfl | rfl | rfl | rfl | rfl | rfl | rfl | rfl <;> assumption) | (rcases he with rfl | rfl | rfl | rfl | rfl | rfl | rfl <;> assumption) | (rcases he with rfl | rfl | rfl | rfl | rfl | rfl <;> assumption) | (rcases he with rfl | rfl | rfl | rfl | rfl <;> assumption) | (rcases he with rfl | rfl | rfl | rfl <;> assumption) | (rcases he with rfl | rfl | rfl <;> assumption) | (rcases he with rfl | rfl <;> assumption) | (subst he; assumption))
    have b7 : l.getD 7 false = true := listed_of h0 7 _ (by omega) rfl (by intro e he; first | (simp at he; done) | skip; simp at he; first | (rcases he with rfl | rfl | rfl | rfl | rfl | rfl | rfl | rfl | rfl | rfl | rfl | rfl | rfl | rfl | rfl | rfl | rfl | rfl | rfl | rfl | rfl | rfl | rfl <;> assumption) | (rcases he with rfl | rfl | rfl | rfl | rfl | rfl | rfl | rfl <;> assumption) | (rcases he with rfl | rfl | rfl | rfl | rfl | rfl | rfl <;> assumption) | (rcases he with rfl | rfl | rfl | rfl | rfl | rfl <;> assumption) | (rcases he with rfl | rfl | rfl | rfl | rfl <;> assumption) | (rcases he with rfl | rfl | rfl | rfl <;> assumption) | (rcases he with rfl | rfl | rfl <;> assumption) | (rcases he with rfl | rfl <;> assumption) | (subst he; assumption))
    have b8 : l.getD 8 false = true := listed_of h0 8 _ (by omega) rfl (by intro e he; first | (simp at he; done) | skip; simp at he; first | (rcases he with rfl | rfl | rfl | rfl | rfl | rfl | rfl | rfl | rfl | rfl | rfl | rfl | rfl | rfl | rfl | rfl | rfl | rfl | rfl | rfl | rfl | rfl | rfl <;> assumption) | (rcases he with rfl | rfl | rfl | rfl | rfl | rfl | rfl | rfl <;> assumption) | (rcases he with rfl | rfl | rfl | rfl | rfl | rfl | rfl <;> assumption) | (rcases he with rfl | rfl | rfl | rfl | rfl | rfl <;> assumption) | (rcases he with rfl | rfl | rfl | rfl | rfl <;> assumption) | (rcases he with rfl | rfl | rfl | rfl <;> assumption) | (rcases he with rfl | rfl | rfl <;> assumption) | (rcases he with rfl | rfl <;> assumption) | (subst he; assumption))
    have b9 : l.getD 9 false = true := listed_of h0 9 _ (by omega) rfl (by intro e he; first | (simp at he; done) | skip; simp at he; first | (rcases he with rfl | rfl | rfl | rfl | rfl | rfl | rfl | rfl | rfl | rfl | rfl | rfl | rfl | rfl | rfl | rfl | rfl | rfl | rfl | rfl | rfl | rfl | rfl <;> assumption) | (rcases he with rfl | rfl | rfl | rfl | rfl | rfl | rfl | rfl <;> assumption) | (rcases he with rfl | rfl | rfl | rfl | rfl | rfl | rfl <;> assumption) | (rcases he with rfl | rfl | rfl | rfl | rfl | rfl <;> assumption) | (rcases he with rfl | rfl | rfl | rfl | rfl <;> assumption) | (rcases he with rfl | rfl | rfl | rfl <;> assumption) | (rcases he with rfl | rfl | rfl <;> assumption) | (rcases he with rfl | rfl <;> assumption) | (subst he; assumption))
    have b10 : l.getD 10 false = true := listed_of h0 10 _ (by omega) rfl (by intro e he; first | (simp at he; done) | skip; simp at he; first | (rcases he with rfl | rfl | rfl | rfl | rfl | rfl | rfl | rfl | rfl | rfl | rfl | rfl | rfl | rfl | rfl | rfl | rfl | rfl | rfl | rfl | rfl | rfl | rfl <;> assumption) | (rcases he with rfl | rfl | rfl | rfl | rfl | rfl | rfl | rfl <;> assumption) | (rcases he with rfl | rfl | rfl | rfl | rfl | rfl | rfl <;> assumption) | (rcases he with rfl | rfl | rfl | rfl | rfl | rfl <;> assumption) | (rcases he with rfl | rfl | rfl | rfl | rfl <;> assumption) | (rcases he with rfl | rfl | rfl | rfl <;> assumption) | (rcases he with rfl | rfl | rfl <;> assumption) | (rcases he with rfl | rfl <;> assumption) | (subst he; assumption))
    have b11 : l.getD 11 false = true := listed_of h0 11 _ (by omega) rfl (by intro e he; first | (simp at he; done) | skip; simp at he; first | (rcases he with rfl | rfl | rfl | rfl | rfl | rfl | rfl | rfl | rfl | rfl | rfl | rfl | rfl | rfl | rfl | rfl | rfl | rfl | rfl | rfl | rfl | rfl | rfl <;> assumption) | (rcases he with rfl | rfl | rfl | rfl | rfl | rfl | rfl | rfl <;> assumption) | (rcases he with rfl | rfl | rfl | rfl | rfl | rfl | rfl <;> assumption) | (rcases he with rfl | rfl | rfl | rfl | rfl | rfl <;> assumption) | (rcases he with rfl | rfl | rfl | rfl | rfl <;> assumption) | (rcases he with rfl | rfl | rfl | rfl <;> assumption) | (rcases he with rfl | rfl | rfl <;> assumption) | (rcases he with rfl | rfl <;> assumption) | (subst he; assumption))
    have b12 : l.getD 12 false = true := listed_of h0 12 _ (by omega) rfl (by intro e he; first | (simp at he; done) | skip; simp at he; first | (rcases he with rfl | rfl | rfl | rfl | rfl | rfl | rfl | rfl | rfl | rfl | rfl | rfl | rfl | rfl | rfl | rfl | rfl | rfl | rfl | rfl | rfl | rfl | rfl <;> assumption) | (rcases he with rfl | rfl | rfl | rfl | rfl | rfl | rfl | rfl <;> assumption) | (rcases he with rfl | rfl | rfl | rfl | rfl | rfl | rfl <;> assumption) | (rcases he with rfl | rfl | rfl | rfl | rfl | rfl <;> assumption) | (rcases he with rfl | rfl | rfl | rfl | rfl <;> assumption) | (rcases he with rfl | rfl | rfl | rfl <;> assumption) | (rcases he with rfl | rfl | rfl <;> assumption) | (rcases he with rfl | rfl <;> assumption) | (subst he; assumption))
    have b13 : l.getD 13 false = true := listed_of h0 13 _ (by omega) rfl (by intro e he; first | (simp at he; done) | skip; simp at he; first | (rcases he with rfl | rfl | rfl | rfl | rfl | rfl | rfl | rfl | rfl | rfl | rfl | rfl | rfl | rfl | rfl | rfl | rfl | rfl | rfl | rfl | rfl | rfl | rfl <;> assumption) | (rcases he with rfl | rfl | rfl | rfl | rfl | rfl | rfl | rfl <;> assumption) | (rcases he with rfl | rfl | rfl | rfl | rfl | rfl | rfl <;> assumption) | (rcases he with rfl | rfl | rfl | rfl | rfl | rfl <;> assumption) | (rcases he with rfl | rfl | rfl | rfl | rfl <;> assumption) | (rcases he with rfl | rfl | rfl | rfl <;> assumption) | (rcases he with rfl | rfl | rfl <;> assumption) | (rcases he with rfl | rfl <;> assumption) | (subst he; assumption))
    have b14 : l.getD 14 false = true := listed_of h0 14 _ (by omega) rfl (by intro e he; first | (simp at he; done) | skip; simp at he; first | (rcases he with rfl | rfl | rfl | rfl | rfl | rfl | rfl | rfl | rfl | rfl | rfl | rfl | rfl | rfl | rfl | rfl | rfl | rfl | rfl | rfl | rfl | rfl | rfl <;> assumption) | (rcases he with rfl | rfl | rfl | rfl | rfl | rfl | rfl | rfl <;> assumption) | (rcases he with rfl | rfl | rfl | rfl | rfl | rfl | rfl <;> assumption) | (rcases he with rfl | rfl | rfl | rfl | rfl | rfl <;> assumption) | (rcases he with rfl | rfl | rfl | rfl | rfl <;> assumption) | (rcases he with rfl | rfl | rfl | rfl <;> assumption) | (rcases he with rfl | rfl | rfl <;> assumption) | (rcases he with rfl | rfl <;> assumption) | (subst he; assumption))
    have b15 : l.getD 15 false = true := listed_of h0 15 _ (by omega) rfl (by intro e he; first | (simp at he; done) | skip; simp at he; first | (rcases he with rfl | rfl | rfl | rfl | rfl | rfl | rfl | rfl | rfl | rfl | rfl | rfl | rfl | rfl | rfl | rfl | rfl | rfl | rfl | rfl | rfl | rfl | rfl <;> assumption) | (rcases he with rfl | rfl | rfl | rfl | rfl | rfl | rfl | rfl <;> assumption) | (rcases he with rfl | rfl | rfl | rfl | rfl | rfl | rfl <;> assumption) | (rcases he with rfl | rfl | rfl | rfl | rfl | rfl <;> assumption) | (rcases he with rfl | rfl | rfl | rfl | rfl <;> assumption) | (rcases he with rfl | rfl | rfl | rfl <;> assumption) | (rcases he with rfl | rfl | rfl <;> assumption) | (rcases he with rfl | rfl <;> assumption) | (subst he; assumption))
    have b16 : l.getD 16 false = true := listed_of h0 16 _ (by omega) rfl (by intro e he; first | (simp at he; done) | skip; simp at he; first | (rcases he with rfl | rfl | rfl | rfl | rfl | rfl | rfl | rfl | rfl | rfl | rfl | rfl | rfl | rfl | rfl | rfl | rfl | rfl | rfl | rfl | rfl | rfl | rfl <;> assumption) | (rcases he with rfl | rfl | rfl | rfl | rfl | rfl | rfl | rfl <;> assumption) | (rcases he with rfl | rfl | rfl | rfl | rfl | rfl | rfl <;> assumption) | (rcases he with rfl | rfl | rfl | rfl | rfl | rfl <;> assumption) | (rcases he with rfl | rfl | rfl | rfl | rfl <;> assumption) | (rcases he with rfl | rfl | rfl | rfl <;> assumption) | (rcases he with rfl | rfl | rfl <;> assumption) | (rcases he with rfl | rfl <;> assumption) | (subst he; assumption))
    have b17 : l.getD 17 false = true := listed_of h0 17 _ (by omega) rfl (by intro e he; first | (simp at he; done) | skip; simp at he; first | (rcases he with rfl | rfl | rfl | rfl | rfl | rfl | rfl | rfl | rfl | rfl | rfl | rfl | rfl | rfl | rfl | rfl | rfl | rfl | rfl | rfl | rfl | rfl | rfl <;> assumption) | (rcases he with rfl | rfl | rfl | rfl | rfl | rfl | rfl | rfl <;> assumption) | (rcases he with rfl | rfl | rfl | rfl | rfl | rfl | rfl <;> assumption) | (rcases he with rfl | rfl | rfl | rfl | rfl | rfl <;> assumption) | (rcases he with rfl | rfl | rfl | rfl | rfl <;> assumption) | (rcases he with rfl | rfl | rfl | rfl <;> assumption) | (rcases he with rfl | rfl | rfl <;> assumption) | (rcases he with rfl | rfl <;> assumption) | (subst he; assumption))
    have b18 : l.getD 18 false = true := listed_of h0 18 _ (by omega) rfl (by intro e he; first | (simp at he; done) | skip; simp at he; first | (rcases he with rfl | rfl | rfl | rfl | rfl | rfl | rfl | rfl | rfl | rfl | rfl | rfl | rfl | rfl | rfl | rfl | rfl | rfl | rfl | rfl | rfl | rfl | rfl <;> assumption) | (rcases he with rfl | rfl | rfl | rfl | rfl | rfl | rfl | rfl <;> assumption) | (rcases he with rfl | rfl | rfl | rfl | rfl | rfl | rfl <;> assumption) | (rcases he with rfl | rfl | rfl | rfl | rfl | rfl <;> assumption) | (rcases he with rfl | rfl | rfl | rfl | rfl <;> assumption) | (rcases he with rfl | rfl | rfl | rfl <;> assumption) | (rcases he with rfl | rfl | rfl <;> assumption) | (rcases he with rfl | rfl <;> assumption) | (subst he; assumption))
    have b19 : l.getD 19 false = true := listed_of h0 19 _ (by omega) rfl (by intro e he; first | (simp at he; done) | skip; simp at he; first | (rcases he with rfl | rfl | rfl | rfl | rfl | rfl | rfl | rfl | rfl | rfl | rfl | rfl | rfl | rfl | rfl | rfl | rfl | rfl | rfl | rfl | rfl | rfl | rfl <;> assumption) | (rcases he with rfl | rfl | rfl | rfl | rfl | rfl | rfl | rfl <;> assumption) | (rcases he with rfl | rfl | rfl | rfl | rfl | rfl | rfl <;> assumption) | (rcases he with rfl | rfl | rfl | rfl | rfl | rfl <;> assumption) | (rcases he with rfl | rfl | rfl | rfl | rfl <;> assumption) | (rcases he with rfl | rfl | rfl | rfl <;> assumption) | (rcases he with rfl | rfl | rfl <;> assumption) | (rcases he with rfl | rfl <;> assumption) | (subst he; assumption))
    have b20 : l.getD 20 false = true := listed_of h0 20 _ (by omega) rfl (by intro e he; first | (simp at he; done) | skip; simp at he; first | (rcases he with rfl | rfl | rfl | rfl | rfl | rfl | rfl | rfl | rfl | rfl | rfl | rfl | rfl | rfl | rfl | rfl | rfl | rfl | rfl | rfl | rfl | rfl | rfl <;> assumption) | (rcases he with rfl | rfl | rfl | rfl | rfl | rfl | rfl | rfl <;> assumption) | (rcases he with rfl | rfl | rfl | rfl | rfl | rfl | rfl <;> assumption) | (rcases he with rfl | rfl | rfl | rfl | rfl | rfl <;> assumption) | (rcases he with rfl | rfl | rfl | rfl | rfl <;> assumption) | (rcases he with rfl | rfl | rfl | rfl <;> assumption) | (rcases he with rfl | rfl | rfl <;> assumption) | (rcases he with rfl | rfl <;> assumption) | (subst he; assumption))
    have b21 : l.getD 21 false = true := listed_of h0 21 _ (by omega) rfl (by intro e he; first | (simp at he; done) | skip; simp at he; first | (rcases he with rfl | rfl | rfl | rfl | rfl | rfl | rfl | rfl | rfl | rfl | rfl | rfl | rfl | rfl | rfl | rfl | rfl | rfl | rfl | rfl | rfl | rfl | rfl <;> assumption) | (rcases he with rfl | rfl | rfl | rfl | rfl | rfl | rfl | rfl <;> assumption) | (rcases he with rfl | rfl | rfl | rfl | rfl | rfl | rfl <;> assumption) | (rcases he with rfl | rfl | rfl | rfl | rfl | rfl <;> assumption) | (rcases he with rfl | rfl | rfl | rfl | rfl <;> assumption) | (rcases he with rfl | rfl | rfl | rfl <;> assumption) | (rcases he with rfl | rfl | rfl <;> assumption) | (rcases he with rfl | rfl <;> assumption) | (subst he; assumption))
    have hE := HEND.out W a u3 u4 u5 u6 u7 u8 u9 u10 u11 u12 u13 u14 u15 u16 u17 u18 u19 u20 u21 u22 u23 ha hB (c5 b5) (c11 b11) (c15 b15) (c19 b19) (c21 b21).2 (x3 b5 b11)
    first
      | exact hE
      | (go_wp2_with fail; exact hE)
      | (simp only [Exit.then]; exact hE)
  case step =>
    intro l a W i hI hi K hK
    have hlt := ready_lt hi
    obtain ⟨hls, hB, hV, hN, hV2, u3, u4, u5, u6, u7, u8, u9, u10, u11, u12, u13, u14, u15, u16, u17, u18, u19, u20, u21, u22, u23, rfl, c0, c1, c2, c3, c4, c5, c6, c7, c8, c9, c10, c11, c12, c13, c14, c15, c16, c17, c18, c19, c20, c21, x0, x1, x2, x3⟩ := hI
    have hlt' : i < 22 := hlt
    rcases (show i = 0 ∨ i = 1 ∨ i = 2 ∨ i = 3 ∨ i = 4 ∨ i = 5 ∨ i = 6 ∨ i = 7 ∨ i = 8 ∨ i = 9 ∨ i = 10 ∨ i = 11 ∨ i = 12 ∨ i = 13 ∨ i = 14 ∨ i = 15 ∨ i = 16 ∨ i = 17 ∨ i = 18 ∨ i = 19 ∨ i = 20 ∨ i = 21 by omega) with rfl | rfl | rfl | rfl | rfl | rfl | rfl | rfl | rfl | rfl | rfl | rfl | rfl | rfl | rfl | rfl | rfl | rfl | rfl | rfl | rfl | rfl
    · -- 0
      refine wpOp_step rfl (fun K' hK' => ?_)
      have HK : Hid (∀ a w, K a w → K' a w) := hK'
      have HK2 : Hid (type_of% hK) := hK
      clear hK hK'
      have y0 := hV.c0
      have y1 := hV.c1
      have y2 := hV.c2
      have y3 := hV.c3
      have y4 := hV.c4
      have y5 := hV.c5
      go_simp
      exact HK.out _ _ (HK2.out _ _ ⟨by simp [hls], hB, hV, hN, hV2, _, _, _, _, _, _, _, _, _, _, _, _, _, _, _, _, _, _, _, _, _, rfl, fun _ => rfl, fun h => (c1 (getD_ne h (by decide))), fun h => ⟨(c2 (getD_ne h (by decide))).1, fun h0 => ((c2 (getD_ne h (by decide))).2 (getD_off h0 (by decide)))⟩, fun h => (c3 (getD_ne h (by decide))), fun h => (c4 (getD_ne h (by decide))), fun h => (c5 (getD_ne h (by decide))), fun h => (c6 (getD_ne h (by decide))), fun h => (c7 (getD_ne h (by decide))), fun h => ⟨(c8 (getD_ne h (by decide))).1, fun h0 => ((c8 (getD_ne h (by decide))).2 (getD_off h0 (by decide)))⟩, fun h => (c9 (getD_ne h (by decide))), fun h => (c10 (getD_ne h (by decide))), fun h => (c11 (getD_ne h (by decide))), fun h => ⟨(c12 (getD_ne h (by decide))).1, fun h0 => ((c12 (getD_ne h (by decide))).2 (getD_off h0 (by decide)))⟩, fun h => (c13 (getD_ne h (by decide))), fun h => (c14 (getD_ne h (by decide))), fun h => (c15 (getD_ne h (by decide))), fun h => ⟨(c16 (getD_ne h (by decide))).1, fun h0 => ((c16 (getD_ne h (by decide))).2 (getD_off h0 (by decide)))⟩, fun h => (c17 (getD_ne h (by decide))), fun h => (c18 (getD_ne h (by decide))), fun h => (c19 (getD_ne h (by decide))), fun h => ⟨⟨getD_set_true (c20 (getD_ne h (by decide))).1.1, getD_set_true (c20 (getD_ne h (by decide))).1.2.1, getD_set_true (c20 (getD_ne h (by decide))).1.2.2.1, getD_set_true (c20 (getD_ne h (by decide))).1.2.2.2⟩, (c20 (getD_ne h (by decide))).2⟩, fun h => ⟨getD_set_true (c21 (getD_ne h (by decide))).1, (c21 (getD_ne h (by decide))).2⟩, fun h h' => x0 (getD_ne h (by decide)) (getD_ne h' (by decide)), fun h h' => x1 (getD_ne h (by decide)) (getD_ne h' (by decide)), fun h h' => x2 (getD_ne h (by decide)) (getD_ne h' (by decide)), fun h h' => x3 (getD_ne h (by decide)) (getD_ne h' (by decide))⟩)
    · -- 1
      obtain rfl := c0 (show l.getD 0 false = true from by have hd := ready_deps hi (o := _) rfl; exact hd ⟨0, .data⟩ (by simp) (by rfl))
      refine wpOp_step rfl (fun K' hK' => ?_)
      have HK : Hid (∀ a w, K a w → K' a w) := hK'
      have HK2 : Hid (type_of% hK) := hK
      clear hK hK'
      have y0 := hV.c0
      have y1 := hV.c1
      have y2 := hV.c2
      have y3 := hV.c3
      have y4 := hV.c4
      have y5 := hV.c5
      go_simp
      exact HK.out _ _ (HK2.out _ _ ⟨by simp [hls], hB, hV, hN, hV2, _, _, _, _, _, _, _, _, _, _, _, _, _, _, _, _, _, _, _, _, _, rfl, fun h => (c0 (getD_ne h (by decide))), fun _ => rfl, fun h => ⟨(c2 (getD_ne h (by decide))).1, fun h0 => ((c2 (getD_ne h (by decide))).2 (getD_off h0 (by decide)))⟩, fun h => (c3 (getD_ne h (by decide))), fun h => (c4 (getD_ne h (by decide))), fun h => (c5 (getD_ne h (by decide))), fun h => (c6 (getD_ne h (by decide))), fun h => (c7 (getD_ne h (by decide))), fun h => ⟨(c8 (getD_ne h (by decide))).1, fun h0 => ((c8 (getD_ne h (by decide))).2 (getD_off h0 (by decide)))⟩, fun h => (c9 (getD_ne h (by decide))), fun h => (c10 (getD_ne h (by decide))), fun h => (c11 (getD_ne h (by decide))), fun h => ⟨(c12 (getD_ne h (by decide))).1, fun h0 => ((c12 (getD_ne h (by decide))).2 (getD_off h0 (by decide)))⟩, fun h => (c13 (getD_ne h (by decide))), fun h => (c14 (getD_ne h (by decide))), fun h => (c15 (getD_ne h (by decide))), fun h => ⟨(c16 (getD_ne h (by decide))).1, fun h0 => ((c16 (getD_ne h (by decide))).2 (getD_off h0 (by decide)))⟩, fun h => (c17 (getD_ne h (by decide))), fun h => (c18 (getD_ne h (by decide))), fun h => (c19 (getD_ne h (by decide))), fun h => ⟨⟨getD_set_true (c20 (getD_ne h (by decide))).1.1, getD_set_true (c20 (getD_ne h (by decide))).1.2.1, getD_set_true (c20 (getD_ne h (by decide))).1.2.2.1, getD_set_true (c20 (getD_ne h (by decide))).1.2.2.2⟩, (c20 (getD_ne h (by decide))).2⟩, fun h => ⟨getD_set_true (c21 (getD_ne h (by decide))).1, (c21 (getD_ne h (by decide))).2⟩, fun h h' => x0 (getD_ne h (by decide)) (getD_ne h' (by decide)), fun h h' => x1 (getD_ne h (by decide)) (getD_ne h' (by decide)), fun h h' => x2 (getD_ne h (by decide)) (getD_ne h' (by decide)), fun h h' => x3 (getD_ne h (by decide)) (getD_ne h' (by decide))⟩)
    · -- 2
      refine wpOp_step rfl (fun K' hK' => ?_)
      have HK : Hid (∀ a w, K a w → K' a w) := hK'
      have HK2 : Hid (type_of% hK) := hK
      clear hK hK'
      have hb9 : Below W.heap.size W (W.alloc (.cells #[] 9)) := (Below.refl _ _).alloc (Nat.le_refl _) _
      have hsz := hb9.size
      have hown : (W.alloc (.cells #[] 9)).ownsRow (w.heap.size + 2) 9 1 (.slice (some ⟨W.heap.size, 0, none⟩) 0 0) 0 [] := World.ownsRow_made (base := w.heap.size + 2) (e := 9) (size := 1) W #[] 0 (by omega) (by unfold maxLen; omega) rfl
      go_simp
      exact HK.out _ _ (HK2.out _ _ ⟨by simp [hls], hB.alloc (by omega) _, hV.below hb9, ⟨by simp; omega, hN.2⟩, (by obtain ⟨_, _, _, _, _, _, h2⟩ := hV2; exact ⟨_, _, _, _, _, _, h2.below hb9⟩), _, _, _, _, _, _, _, _, _, _, _, _, _, _, _, _, _, _, _, _, _, rfl, fun h => (c0 (getD_ne h (by decide))), fun h => (c1 (getD_ne h (by decide))), fun _ => ⟨fun g hg => (World.ownsRow.lt hown g hg).2, fun _ => hown⟩, fun h => (c3 (getD_ne h (by decide))), fun h => (c4 (getD_ne h (by decide))), fun h => by obtain ⟨a, c, e, r⟩ := (c5 (getD_ne h (by decide))); exact ⟨a, c, e, own_belowY r hb9⟩, fun h => (c6 (getD_ne h (by decide))), fun h => (c7 (getD_ne h (by decide))), fun h => ⟨fun g hg => Nat.lt_of_lt_of_le ((c8 (getD_ne h (by decide))).1 g hg) hsz, fun h0 => own_belowY ((c8 (getD_ne h (by decide))).2 (getD_off h0 (by decide))) hb9⟩, fun h => (c9 (getD_ne h (by decide))), fun h => (c10 (getD_ne h (by decide))), fun h => by obtain ⟨a, c, e, r⟩ := (c11 (getD_ne h (by decide))); exact ⟨a, c, e, own_belowY r hb9⟩, fun h => ⟨fun g hg => Nat.lt_of_lt_of_le ((c12 (getD_ne h (by decide))).1 g hg) hsz, fun h0 => own_belowY ((c12 (getD_ne h (by decide))).2 (getD_off h0 (by decide))) hb9⟩, fun h => (c13 (getD_ne h (by decide))), fun h => (c14 (getD_ne h (by decide))), fun h => by obtain ⟨a, c, e, r⟩ := (c15 (getD_ne h (by decide))); exact ⟨a, c, e, own_belowY r hb9⟩, fun h => ⟨fun g hg => Nat.lt_of_lt_of_le ((c16 (getD_ne h (by decide))).1 g hg) hsz, fun h0 => own_belowY ((c16 (getD_ne h (by decide))).2 (getD_off h0 (by decide))) hb9⟩, fun h => (c17 (getD_ne h (by decide))), fun h => (c18 (getD_ne h (by decide))), fun h => by obtain ⟨a, c, e, r⟩ := (c19 (getD_ne h (by decide))); exact ⟨a, c, e, own_belowY r hb9⟩, fun h => ⟨⟨getD_set_true (c20 (getD_ne h (by decide))).1.1, getD_set_true (c20 (getD_ne h (by decide))).1.2.1, getD_set_true (c20 (getD_ne h (by decide))).1.2.2.1, getD_set_true (c20 (getD_ne h (by decide))).1.2.2.2⟩, (c20 (getD_ne h (by decide))).2⟩, fun h => ⟨getD_set_true (c21 (getD_ne h (by decide))).1, Sv.below (c21 (getD_ne h (by decide))).2 hb9⟩, fun _ h' g hg e => by simp [Value.ownBlock] at hg; have := (c8 (getD_ne h' (by decide))).1 g e; omega, fun _ h' g hg e => by simp [Value.ownBlock] at hg; have := (by obtain ⟨_, _, _, r⟩ := c11 (getD_ne h' (by decide)); exact (World.ownsRow.lt r g e).2 : g < W.heap.size); omega, fun h h' => x2 (getD_ne h (by decide)) (getD_ne h' (by decide)), fun h h' => x3 (getD_ne h (by decide)) (getD_ne h' (by decide))⟩)
    · -- 3
      refine wpOp_step rfl (fun K' hK' => ?_)
      have HK : Hid (∀ a w, K a w → K' a w) := hK'
      have HK2 : Hid (type_of% hK) := hK
      clear hK hK'
      have y0 := hV.c0
      have y1 := hV.c1
      have y2 := hV.c2
      have y3 := hV.c3
      have y4 := hV.c4
      have y5 := hV.c5
      go_simp
      exact HK.out _ _ (HK2.out _ _ ⟨by simp [hls], hB, hV, hN, hV2, _, _, _, _, _, _, _, _, _, _, _, _, _, _, _, _, _, _, _, _, _, rfl, fun h => (c0 (getD_ne h (by decide))), fun h => (c1 (getD_ne h (by decide))), fun h => ⟨(c2 (getD_ne h (by decide))).1, fun h0 => ((c2 (getD_ne h (by decide))).2 (getD_off h0 (by decide)))⟩, fun _ => rfl, fun h => (c4 (getD_ne h (by decide))), fun h => (c5 (getD_ne h (by decide))), fun h => (c6 (getD_ne h (by decide))), fun h => (c7 (getD_ne h (by decide))), fun h => ⟨(c8 (getD_ne h (by decide))).1, fun h0 => ((c8 (getD_ne h (by decide))).2 (getD_off h0 (by decide)))⟩, fun h => (c9 (getD_ne h (by decide))), fun h => (c10 (getD_ne h (by decide))), fun h => (c11 (getD_ne h (by decide))), fun h => ⟨(c12 (getD_ne h (by decide))).1, fun h0 => ((c12 (getD_ne h (by decide))).2 (getD_off h0 (by decide)))⟩, fun h => (c13 (getD_ne h (by decide))), fun h => (c14 (getD_ne h (by decide))), fun h => (c15 (getD_ne h (by decide))), fun h => ⟨(c16 (getD_ne h (by decide))).1, fun h0 => ((c16 (getD_ne h (by decide))).2 (getD_off h0 (by decide)))⟩, fun h => (c17 (getD_ne h (by decide))), fun h => (c18 (getD_ne h (by decide))), fun h => (c19 (getD_ne h (by decide))), fun h => ⟨⟨getD_set_true (c20 (getD_ne h (by decide))).1.1, getD_set_true (c20 (getD_ne h (by decide))).1.2.1, getD_set_true (c20 (getD_ne h (by decide))).1.2.2.1, getD_set_true (c20 (getD_ne h (by decide))).1.2.2.2⟩, (c20 (getD_ne h (by decide))).2⟩, fun h => ⟨getD_set_true (c21 (getD_ne h (by decide))).1, (c21 (getD_ne h (by decide))).2⟩, fun h h' => x0 (getD_ne h (by decide)) (getD_ne h' (by decide)), fun h h' => x1 (getD_ne h (by decide)) (getD_ne h' (by decide)), fun h h' => x2 (getD_ne h (by decide)) (getD_ne h' (by decide)), fun h h' => x3 (getD_ne h (by decide)) (getD_ne h' (by decide))⟩)
    · -- 4
      obtain rfl := c3 (show l.getD 3 false = true from by have hd := ready_deps hi (o := _) rfl; exact hd ⟨3, .data⟩ (by simp) (by rfl))
      refine wpOp_step rfl (fun K' hK' => ?_)
      have HK : Hid (∀ a w, K a w → K' a w) := hK'
      have HK2 : Hid (type_of% hK) := hK
      clear hK hK'
      have y0 := hV.c0
      have y1 := hV.c1
      have y2 := hV.c2
      have y3 := hV.c3
      have y4 := hV.c4
      have y5 := hV.c5
      go_simp
      exact HK.out _ _ (HK2.out _ _ ⟨by simp [hls], hB, hV, hN, hV2, _, _, _, _, _, _, _, _, _, _, _, _, _, _, _, _, _, _, _, _, _, rfl, fun h => (c0 (getD_ne h (by decide))), fun h => (c1 (getD_ne h (by decide))), fun h => ⟨(c2 (getD_ne h (by decide))).1, fun h0 => ((c2 (getD_ne h (by decide))).2 (getD_off h0 (by decide)))⟩, fun h => (c3 (getD_ne h (by decide))), fun _ => rfl, fun h => (c5 (getD_ne h (by decide))), fun h => (c6 (getD_ne h (by decide))), fun h => (c7 (getD_ne h (by decide))), fun h => ⟨(c8 (getD_ne h (by decide))).1, fun h0 => ((c8 (getD_ne h (by decide))).2 (getD_off h0 (by decide)))⟩, fun h => (c9 (getD_ne h (by decide))), fun h => (c10 (getD_ne h (by decide))), fun h => (c11 (getD_ne h (by decide))), fun h => ⟨(c12 (getD_ne h (by decide))).1, fun h0 => ((c12 (getD_ne h (by decide))).2 (getD_off h0 (by decide)))⟩, fun h => (c13 (getD_ne h (by decide))), fun h => (c14 (getD_ne h (by decide))), fun h => (c15 (getD_ne h (by decide))), fun h => ⟨(c16 (getD_ne h (by decide))).1, fun h0 => ((c16 (getD_ne h (by decide))).2 (getD_off h0 (by decide)))⟩, fun h => (c17 (getD_ne h (by decide))), fun h => (c18 (getD_ne h (by decide))), fun h => (c19 (getD_ne h (by decide))), fun h => ⟨⟨getD_set_true (c20 (getD_ne h (by decide))).1.1, getD_set_true (c20 (getD_ne h (by decide))).1.2.1, getD_set_true (c20 (getD_ne h (by decide))).1.2.2.1, getD_set_true (c20 (getD_ne h (by decide))).1.2.2.2⟩, (c20 (getD_ne h (by decide))).2⟩, fun h => ⟨getD_set_true (c21 (getD_ne h (by decide))).1, (c21 (getD_ne h (by decide))).2⟩, fun h h' => x0 (getD_ne h (by decide)) (getD_ne h' (by decide)), fun h h' => x1 (getD_ne h (by decide)) (getD_ne h' (by decide)), fun h h' => x2 (getD_ne h (by decide)) (getD_ne h' (by decide)), fun h h' => x3 (getD_ne h (by decide)) (getD_ne h' (by decide))⟩)
    · -- 5
      obtain rfl := c4 (show l.getD 4 false = true from by have hd := ready_deps hi (o := _) rfl; exact hd ⟨4, .data⟩ (by simp) (by rfl))
      have hd := (show l.getD 2 false = true from by have hd := ready_deps hi (o := _) rfl; exact hd ⟨2, .data⟩ (by simp) (by rfl))
      have hoff := ready_off hi (by omega)
      have hbs := (c2 hd).2 hoff
      refine wpOp_step rfl (fun K' hK' => ?_)
      have HK : Hid (∀ a w, K a w → K' a w) := hK'
      have HK2 : Hid (type_of% hK) := hK
      clear hK hK'
      refine step_append_mayF W (by rfl) _ _ _ (by rfl) (w.heap.size + 2) 9 j0 (.string ByteArray.empty) 1 16 Try.underlying22 hj hjz0 hjz1 hjz2 rfl (by decide) _ 0 [] (by rfl) hbs _ s.items.length _ (strs s.items) (by rfl) (by unfold strs; rw [List.length_map, Nat.mul_one]) (StAt.newsS (HS.out.i.below hB)) (one_strsS _) (by unfold maxLen; omega) (by omega) (by omega) ?_
      intro ar kq w9 hown9 hgrow9 hnew9
      rw [Nat.zero_add, List.nil_append] at hown9
      rw [Nat.zero_add] at hnew9 ⊢
      have hbb : ∀ g, u5.ownBlock = some g → w.heap.size + 2 ≤ g ∧ g < W.heap.size := fun g hg => World.ownsRow.lt hbs g hg
      have hB9 : Below (w.heap.size + 2) W w9 := (Below.refl (w.heap.size + 2) W).grown hgrow9 (by omega) (fun k hk => (hbb k hk).1)
      have hsz := hB9.size
      exact HK.out _ _ (HK2.out _ _ ⟨by simp [hls], hB.trans (hB9.mono (by omega)), hV.kept (hB9.block _ (by omega)) hB9.size, ⟨Nat.le_trans hN.1 hB9.size, hN.2⟩, (by obtain ⟨_, _, _, _, _, _, h2⟩ := hV2; exact ⟨_, _, _, _, _, _, h2.kept (hB9.block _ (by omega)) hB9.size⟩), _, _, _, _, _, _, _, _, _, _, _, _, _, _, _, _, _, _, _, _, _, rfl, fun h => (c0 (getD_ne h (by decide))), fun h => (c1 (getD_ne h (by decide))), fun h => ⟨fun g hg => Nat.lt_of_lt_of_le ((c2 (getD_ne h (by decide))).1 g hg) hsz, fun h0 => by rw [getD_on (by omega)] at h0; cases h0⟩, fun h => (c3 (getD_ne h (by decide))), fun h => (c4 (getD_ne h (by decide))), fun _ => ⟨_, _, rfl, hown9⟩, fun h => (c6 (getD_ne h (by decide))), fun h => (c7 (getD_ne h (by decide))), fun h => ⟨fun g hg => Nat.lt_of_lt_of_le ((c8 (getD_ne h (by decide))).1 g hg) hsz, fun h0 => own_asideS ((c8 (getD_ne h (by decide))).2 (getD_off h0 (by decide))) hgrow9 (own_flip (x0 hd (getD_ne h (by decide))))⟩, fun h => (c9 (getD_ne h (by decide))), fun h => (c10 (getD_ne h (by decide))), fun h => by obtain ⟨a, c, e, r⟩ := (c11 (getD_ne h (by decide))); exact ⟨a, c, e, own_asideS r hgrow9 (own_flip (x1 hd (getD_ne h (by decide))))⟩, fun h => ⟨fun g hg => Nat.lt_of_lt_of_le ((c12 (getD_ne h (by decide))).1 g hg) hsz, fun h0 => own_asideS ((c12 (getD_ne h (by decide))).2 (getD_off h0 (by decide))) hgrow9 (diff_ty ((c12 (getD_ne h (by decide))).2 (getD_off h0 (by decide))) hbs (by decide))⟩, fun h => (c13 (getD_ne h (by decide))), fun h => (c14 (getD_ne h (by decide))), fun h => by obtain ⟨a, c, e, r⟩ := (c15 (getD_ne h (by decide))); exact ⟨a, c, e, own_asideS r hgrow9 (diff_ty r hbs (by decide))⟩, fun h => ⟨fun g hg => Nat.lt_of_lt_of_le ((c16 (getD_ne h (by decide))).1 g hg) hsz, fun h0 => own_asideS ((c16 (getD_ne h (by decide))).2 (getD_off h0 (by decide))) hgrow9 (diff_ty ((c16 (getD_ne h (by decide))).2 (getD_off h0 (by decide))) hbs (by decide))⟩, fun h => (c17 (getD_ne h (by decide))), fun h => (c18 (getD_ne h (by decide))), fun h => by obtain ⟨a, c, e, r⟩ := (c19 (getD_ne h (by decide))); exact ⟨a, c, e, own_asideS r hgrow9 (diff_ty r hbs (by decide))⟩, fun h => absurd (c20 (getD_ne h (by decide))).1.1 (by rw [hoff]; decide), fun h => absurd (c20 (c21 (getD_ne h (by decide))).1).1.1 (by rw [hoff]; decide), fun h h' => x0 (getD_ne h (by decide)) (getD_ne h' (by decide)), fun h h' => x1 (getD_ne h (by decide)) (getD_ne h' (by decide)), fun _ h' g hg e => (hnew9 g hg).elim (fun h1 => x0 hd (getD_ne h' (by decide)) g h1 e) (fun h1 => by have := (c8 (getD_ne h' (by decide))).1 g e; omega), fun _ h' g hg e => (hnew9 g hg).elim (fun h1 => x1 hd (getD_ne h' (by decide)) g h1 e) (fun h1 => by have := (by obtain ⟨_, _, _, r⟩ := c11 (getD_ne h' (by decide)); exact (World.ownsRow.lt r g e).2 : g < W.heap.size); omega)⟩)
    · -- 6
      refine wpOp_step rfl (fun K' hK' => ?_)
      have HK : Hid (∀ a w, K a w → K' a w) := hK'
      have HK2 : Hid (type_of% hK) := hK
      clear hK hK'
      have y0 := hV.c0
      have y1 := hV.c1
      have y2 := hV.c2
      have y3 := hV.c3
      have y4 := hV.c4
      have y5 := hV.c5
      go_simp
      exact HK.out _ _ (HK2.out _ _ ⟨by simp [hls], hB, hV, hN, hV2, _, _, _, _, _, _, _, _, _, _, _, _, _, _, _, _, _, _, _, _, _, rfl, fun h => (c0 (getD_ne h (by decide))), fun h => (c1 (getD_ne h (by decide))), fun h => ⟨(c2 (getD_ne h (by decide))).1, fun h0 => ((c2 (getD_ne h (by decide))).2 (getD_off h0 (by decide)))⟩, fun h => (c3 (getD_ne h (by decide))), fun h => (c4 (getD_ne h (by decide))), fun h => (c5 (getD_ne h (by decide))), fun _ => rfl, fun h => (c7 (getD_ne h (by decide))), fun h => ⟨(c8 (getD_ne h (by decide))).1, fun h0 => ((c8 (getD_ne h (by decide))).2 (getD_off h0 (by decide)))⟩, fun h => (c9 (getD_ne h (by decide))), fun h => (c10 (getD_ne h (by decide))), fun h => (c11 (getD_ne h (by decide))), fun h => ⟨(c12 (getD_ne h (by decide))).1, fun h0 => ((c12 (getD_ne h (by decide))).2 (getD_off h0 (by decide)))⟩, fun h => (c13 (getD_ne h (by decide))), fun h => (c14 (getD_ne h (by decide))), fun h => (c15 (getD_ne h (by decide))), fun h => ⟨(c16 (getD_ne h (by decide))).1, fun h0 => ((c16 (getD_ne h (by decide))).2 (getD_off h0 (by decide)))⟩, fun h => (c17 (getD_ne h (by decide))), fun h => (c18 (getD_ne h (by decide))), fun h => (c19 (getD_ne h (by decide))), fun h => ⟨⟨getD_set_true (c20 (getD_ne h (by decide))).1.1, getD_set_true (c20 (getD_ne h (by decide))).1.2.1, getD_set_true (c20 (getD_ne h (by decide))).1.2.2.1, getD_set_true (c20 (getD_ne h (by decide))).1.2.2.2⟩, (c20 (getD_ne h (by decide))).2⟩, fun h => ⟨getD_set_true (c21 (getD_ne h (by decide))).1, (c21 (getD_ne h (by decide))).2⟩, fun h h' => x0 (getD_ne h (by decide)) (getD_ne h' (by decide)), fun h h' => x1 (getD_ne h (by decide)) (getD_ne h' (by decide)), fun h h' => x2 (getD_ne h (by decide)) (getD_ne h' (by decide)), fun h h' => x3 (getD_ne h (by decide)) (getD_ne h' (by decide))⟩)
    · -- 7
      obtain rfl := c6 (show l.getD 6 false = true from by have hd := ready_deps hi (o := _) rfl; exact hd ⟨6, .data⟩ (by simp) (by rfl))
      refine wpOp_step rfl (fun K' hK' => ?_)
      have HK : Hid (∀ a w, K a w → K' a w) := hK'
      have HK2 : Hid (type_of% hK) := hK
      clear hK hK'
      have y0 := hV.c0
      have y1 := hV.c1
      have y2 := hV.c2
      have y3 := hV.c3
      have y4 := hV.c4
      have y5 := hV.c5
      go_simp
      exact HK.out _ _ (HK2.out _ _ ⟨by simp [hls], hB, hV, hN, hV2, _, _, _, _, _, _, _, _, _, _, _, _, _, _, _, _, _, _, _, _, _, rfl, fun h => (c0 (getD_ne h (by decide))), fun h => (c1 (getD_ne h (by decide))), fun h => ⟨(c2 (getD_ne h (by decide))).1, fun h0 => ((c2 (getD_ne h (by decide))).2 (getD_off h0 (by decide)))⟩, fun h => (c3 (getD_ne h (by decide))), fun h => (c4 (getD_ne h (by decide))), fun h => (c5 (getD_ne h (by decide))), fun h => (c6 (getD_ne h (by decide))), fun _ => rfl, fun h => ⟨(c8 (getD_ne h (by decide))).1, fun h0 => ((c8 (getD_ne h (by decide))).2 (getD_off h0 (by decide)))⟩, fun h => (c9 (getD_ne h (by decide))), fun h => (c10 (getD_ne h (by decide))), fun h => (c11 (getD_ne h (by decide))), fun h => ⟨(c12 (getD_ne h (by decide))).1, fun h0 => ((c12 (getD_ne h (by decide))).2 (getD_off h0 (by decide)))⟩, fun h => (c13 (getD_ne h (by decide))), fun h => (c14 (getD_ne h (by decide))), fun h => (c15 (getD_ne h (by decide))), fun h => ⟨(c16 (getD_ne h (by decide))).1, fun h0 => ((c16 (getD_ne h (by decide))).2 (getD_off h0 (by decide)))⟩, fun h => (c17 (getD_ne h (by decide))), fun h => (c18 (getD_ne h (by decide))), fun h => (c19 (getD_ne h (by decide))), fun h => ⟨⟨getD_set_true (c20 (getD_ne h (by decide))).1.1, getD_set_true (c20 (getD_ne h (by decide))).1.2.1, getD_set_true (c20 (getD_ne h (by decide))).1.2.2.1, getD_set_true (c20 (getD_ne h (by decide))).1.2.2.2⟩, (c20 (getD_ne h (by decide))).2⟩, fun h => ⟨getD_set_true (c21 (getD_ne h (by decide))).1, (c21 (getD_ne h (by decide))).2⟩, fun h h' => x0 (getD_ne h (by decide)) (getD_ne h' (by decide)), fun h h' => x1 (getD_ne h (by decide)) (getD_ne h' (by decide)), fun h h' => x2 (getD_ne h (by decide)) (getD_ne h' (by decide)), fun h h' => x3 (getD_ne h (by decide)) (getD_ne h' (by decide))⟩)
    · -- 8
      refine wpOp_step rfl (fun K' hK' => ?_)
      have HK : Hid (∀ a w, K a w → K' a w) := hK'
      have HK2 : Hid (type_of% hK) := hK
      clear hK hK'
      have hb9 : Below W.heap.size W (W.alloc (.cells #[] 9)) := (Below.refl _ _).alloc (Nat.le_refl _) _
      have hsz := hb9.size
      have hown : (W.alloc (.cells #[] 9)).ownsRow (w.heap.size + 2) 9 1 (.slice (some ⟨W.heap.size, 0, none⟩) 0 0) 0 [] := World.ownsRow_made (base := w.heap.size + 2) (e := 9) (size := 1) W #[] 0 (by omega) (by unfold maxLen; omega) rfl
      go_simp
      exact HK.out _ _ (HK2.out _ _ ⟨by simp [hls], hB.alloc (by omega) _, hV.below hb9, ⟨by simp; omega, hN.2⟩, (by obtain ⟨_, _, _, _, _, _, h2⟩ := hV2; exact ⟨_, _, _, _, _, _, h2.below hb9⟩), _, _, _, _, _, _, _, _, _, _, _, _, _, _, _, _, _, _, _, _, _, rfl, fun h => (c0 (getD_ne h (by decide))), fun h => (c1 (getD_ne h (by decide))), fun h => ⟨fun g hg => Nat.lt_of_lt_of_le ((c2 (getD_ne h (by decide))).1 g hg) hsz, fun h0 => own_belowY ((c2 (getD_ne h (by decide))).2 (getD_off h0 (by decide))) hb9⟩, fun h => (c3 (getD_ne h (by decide))), fun h => (c4 (getD_ne h (by decide))), fun h => by obtain ⟨a, c, e, r⟩ := (c5 (getD_ne h (by decide))); exact ⟨a, c, e, own_belowY r hb9⟩, fun h => (c6 (getD_ne h (by decide))), fun h => (c7 (getD_ne h (by decide))), fun _ => ⟨fun g hg => (World.ownsRow.lt hown g hg).2, fun _ => hown⟩, fun h => (c9 (getD_ne h (by decide))), fun h => (c10 (getD_ne h (by decide))), fun h => by obtain ⟨a, c, e, r⟩ := (c11 (getD_ne h (by decide))); exact ⟨a, c, e, own_belowY r hb9⟩, fun h => ⟨fun g hg => Nat.lt_of_lt_of_le ((c12 (getD_ne h (by decide))).1 g hg) hsz, fun h0 => own_belowY ((c12 (getD_ne h (by decide))).2 (getD_off h0 (by decide))) hb9⟩, fun h => (c13 (getD_ne h (by decide))), fun h => (c14 (getD_ne h (by decide))), fun h => by obtain ⟨a, c, e, r⟩ := (c15 (getD_ne h (by decide))); exact ⟨a, c, e, own_belowY r hb9⟩, fun h => ⟨fun g hg => Nat.lt_of_lt_of_le ((c16 (getD_ne h (by decide))).1 g hg) hsz, fun h0 => own_belowY ((c16 (getD_ne h (by decide))).2 (getD_off h0 (by decide))) hb9⟩, fun h => (c17 (getD_ne h (by decide))), fun h => (c18 (getD_ne h (by decide))), fun h => by obtain ⟨a, c, e, r⟩ := (c19 (getD_ne h (by decide))); exact ⟨a, c, e, own_belowY r hb9⟩, fun h => ⟨⟨getD_set_true (c20 (getD_ne h (by decide))).1.1, getD_set_true (c20 (getD_ne h (by decide))).1.2.1, getD_set_true (c20 (getD_ne h (by decide))).1.2.2.1, getD_set_true (c20 (getD_ne h (by decide))).1.2.2.2⟩, (c20 (getD_ne h (by decide))).2⟩, fun h => ⟨getD_set_true (c21 (getD_ne h (by decide))).1, Sv.below (c21 (getD_ne h (by decide))).2 hb9⟩, fun h _ g hg e => by simp [Value.ownBlock] at e; have := (c2 (getD_ne h (by decide))).1 g hg; omega, fun h h' => x1 (getD_ne h (by decide)) (getD_ne h' (by decide)), fun h _ g hg e => by simp [Value.ownBlock] at e; have := (by obtain ⟨_, _, _, r⟩ := c5 (getD_ne h (by decide)); exact (World.ownsRow.lt r g hg).2 : g < W.heap.size); omega, fun h h' => x3 (getD_ne h (by decide)) (getD_ne h' (by decide))⟩)
    · -- 9
      refine wpOp_step rfl (fun K' hK' => ?_)
      have HK : Hid (∀ a w, K a w → K' a w) := hK'
      have HK2 : Hid (type_of% hK) := hK
      clear hK hK'
      have y0 := hV.c0
      have y1 := hV.c1
      have y2 := hV.c2
      have y3 := hV.c3
      have y4 := hV.c4
      have y5 := hV.c5
      go_simp
      exact HK.out _ _ (HK2.out _ _ ⟨by simp [hls], hB, hV, hN, hV2, _, _, _, _, _, _, _, _, _, _, _, _, _, _, _, _, _, _, _, _, _, rfl, fun h => (c0 (getD_ne h (by decide))), fun h => (c1 (getD_ne h (by decide))), fun h => ⟨(c2 (getD_ne h (by decide))).1, fun h0 => ((c2 (getD_ne h (by decide))).2 (getD_off h0 (by decide)))⟩, fun h => (c3 (getD_ne h (by decide))), fun h => (c4 (getD_ne h (by decide))), fun h => (c5 (getD_ne h (by decide))), fun h => (c6 (getD_ne h (by decide))), fun h => (c7 (getD_ne h (by decide))), fun h => ⟨(c8 (getD_ne h (by decide))).1, fun h0 => ((c8 (getD_ne h (by decide))).2 (getD_off h0 (by decide)))⟩, fun _ => rfl, fun h => (c10 (getD_ne h (by decide))), fun h => (c11 (getD_ne h (by decide))), fun h => ⟨(c12 (getD_ne h (by decide))).1, fun h0 => ((c12 (getD_ne h (by decide))).2 (getD_off h0 (by decide)))⟩, fun h => (c13 (getD_ne h (by decide))), fun h => (c14 (getD_ne h (by decide))), fun h => (c15 (getD_ne h (by decide))), fun h => ⟨(c16 (getD_ne h (by decide))).1, fun h0 => ((c16 (getD_ne h (by decide))).2 (getD_off h0 (by decide)))⟩, fun h => (c17 (getD_ne h (by decide))), fun h => (c18 (getD_ne h (by decide))), fun h => (c19 (getD_ne h (by decide))), fun h => ⟨⟨getD_set_true (c20 (getD_ne h (by decide))).1.1, getD_set_true (c20 (getD_ne h (by decide))).1.2.1, getD_set_true (c20 (getD_ne h (by decide))).1.2.2.1, getD_set_true (c20 (getD_ne h (by decide))).1.2.2.2⟩, (c20 (getD_ne h (by decide))).2⟩, fun h => ⟨getD_set_true (c21 (getD_ne h (by decide))).1, (c21 (getD_ne h (by decide))).2⟩, fun h h' => x0 (getD_ne h (by decide)) (getD_ne h' (by decide)), fun h h' => x1 (getD_ne h (by decide)) (getD_ne h' (by decide)), fun h h' => x2 (getD_ne h (by decide)) (getD_ne h' (by decide)), fun h h' => x3 (getD_ne h (by decide)) (getD_ne h' (by decide))⟩)
    · -- 10
      obtain rfl := c9 (show l.getD 9 false = true from by have hd := ready_deps hi (o := _) rfl; exact hd ⟨9, .data⟩ (by simp) (by rfl))
      refine wpOp_step rfl (fun K' hK' => ?_)
      have HK : Hid (∀ a w, K a w → K' a w) := hK'
      have HK2 : Hid (type_of% hK) := hK
      clear hK hK'
      have y0 := hV.c0
      have y1 := hV.c1
      have y2 := hV.c2
      have y3 := hV.c3
      have y4 := hV.c4
      have y5 := hV.c5
      go_simp
      exact HK.out _ _ (HK2.out _ _ ⟨by simp [hls], hB, hV, hN, hV2, _, _, _, _, _, _, _, _, _, _, _, _, _, _, _, _, _, _, _, _, _, rfl, fun h => (c0 (getD_ne h (by decide))), fun h => (c1 (getD_ne h (by decide))), fun h => ⟨(c2 (getD_ne h (by decide))).1, fun h0 => ((c2 (getD_ne h (by decide))).2 (getD_off h0 (by decide)))⟩, fun h => (c3 (getD_ne h (by decide))), fun h => (c4 (getD_ne h (by decide))), fun h => (c5 (getD_ne h (by decide))), fun h => (c6 (getD_ne h (by decide))), fun h => (c7 (getD_ne h (by decide))), fun h => ⟨(c8 (getD_ne h (by decide))).1, fun h0 => ((c8 (getD_ne h (by decide))).2 (getD_off h0 (by decide)))⟩, fun h => (c9 (getD_ne h (by decide))), fun _ => rfl, fun h => (c11 (getD_ne h (by decide))), fun h => ⟨(c12 (getD_ne h (by decide))).1, fun h0 => ((c12 (getD_ne h (by decide))).2 (getD_off h0 (by decide)))⟩, fun h => (c13 (getD_ne h (by decide))), fun h => (c14 (getD_ne h (by decide))), fun h => (c15 (getD_ne h (by decide))), fun h => ⟨(c16 (getD_ne h (by decide))).1, fun h0 => ((c16 (getD_ne h (by decide))).2 (getD_off h0 (by decide)))⟩, fun h => (c17 (getD_ne h (by decide))), fun h => (c18 (getD_ne h (by decide))), fun h => (c19 (getD_ne h (by decide))), fun h => ⟨⟨getD_set_true (c20 (getD_ne h (by decide))).1.1, getD_set_true (c20 (getD_ne h (by decide))).1.2.1, getD_set_true (c20 (getD_ne h (by decide))).1.2.2.1, getD_set_true (c20 (getD_ne h (by decide))).1.2.2.2⟩, (c20 (getD_ne h (by decide))).2⟩, fun h => ⟨getD_set_true (c21 (getD_ne h (by decide))).1, (c21 (getD_ne h (by decide))).2⟩, fun h h' => x0 (getD_ne h (by decide)) (getD_ne h' (by decide)), fun h h' => x1 (getD_ne h (by decide)) (getD_ne h' (by decide)), fun h h' => x2 (getD_ne h (by decide)) (getD_ne h' (by decide)), fun h h' => x3 (getD_ne h (by decide)) (getD_ne h' (by decide))⟩)
    · -- 11
      obtain rfl := c10 (show l.getD 10 false = true from by have hd := ready_deps hi (o := _) rfl; exact hd ⟨10, .data⟩ (by simp) (by rfl))
      have hd := (show l.getD 8 false = true from by have hd := ready_deps hi (o := _) rfl; exact hd ⟨8, .data⟩ (by simp) (by rfl))
      have hoff := ready_off hi (by omega)
      have hbs := (c8 hd).2 hoff
      refine wpOp_step rfl (fun K' hK' => ?_)
      have HK : Hid (∀ a w, K a w → K' a w) := hK'
      have HK2 : Hid (type_of% hK) := hK
      clear hK hK'
      refine step_append_mayF W (by rfl) _ _ _ (by rfl) (w.heap.size + 2) 9 j0 (.string ByteArray.empty) 1 16 Try.underlying22 hj hjz0 hjz1 hjz2 rfl (by decide) _ 0 [] (by rfl) hbs _ s.handed.length _ (strs s.handed) (by rfl) (by unfold strs; rw [List.length_map, Nat.mul_one]) (StAt.newsS (HS.out.h.below hB)) (one_strsS _) (by unfold maxLen; omega) (by omega) (by omega) ?_
      intro ar kq w9 hown9 hgrow9 hnew9
      rw [Nat.zero_add, List.nil_append] at hown9
      rw [Nat.zero_add] at hnew9 ⊢
      have hbb : ∀ g, u11.ownBlock = some g → w.heap.size + 2 ≤ g ∧ g < W.heap.size := fun g hg => World.ownsRow.lt hbs g hg
      have hB9 : Below (w.heap.size + 2) W w9 := (Below.refl (w.heap.size + 2) W).grown hgrow9 (by omega) (fun k hk => (hbb k hk).1)
      have hsz := hB9.size
      exact HK.out _ _ (HK2.out _ _ ⟨by simp [hls], hB.trans (hB9.mono (by omega)), hV.kept (hB9.block _ (by omega)) hB9.size, ⟨Nat.le_trans hN.1 hB9.size, hN.2⟩, (by obtain ⟨_, _, _, _, _, _, h2⟩ := hV2; exact ⟨_, _, _, _, _, _, h2.kept (hB9.block _ (by omega)) hB9.size⟩), _, _, _, _, _, _, _, _, _, _, _, _, _, _, _, _, _, _, _, _, _, rfl, fun h => (c0 (getD_ne h (by decide))), fun h => (c1 (getD_ne h (by decide))), fun h => ⟨fun g hg => Nat.lt_of_lt_of_le ((c2 (getD_ne h (by decide))).1 g hg) hsz, fun h0 => own_asideS ((c2 (getD_ne h (by decide))).2 (getD_off h0 (by decide))) hgrow9 (x0 (getD_ne h (by decide)) hd)⟩, fun h => (c3 (getD_ne h (by decide))), fun h => (c4 (getD_ne h (by decide))), fun h => by obtain ⟨a, c, e, r⟩ := (c5 (getD_ne h (by decide))); exact ⟨a, c, e, own_asideS r hgrow9 (x2 (getD_ne h (by decide)) hd)⟩, fun h => (c6 (getD_ne h (by decide))), fun h => (c7 (getD_ne h (by decide))), fun h => ⟨fun g hg => Nat.lt_of_lt_of_le ((c8 (getD_ne h (by decide))).1 g hg) hsz, fun h0 => by rw [getD_on (by omega)] at h0; cases h0⟩, fun h => (c9 (getD_ne h (by decide))), fun h => (c10 (getD_ne h (by decide))), fun _ => ⟨_, _, rfl, hown9⟩, fun h => ⟨fun g hg => Nat.lt_of_lt_of_le ((c12 (getD_ne h (by decide))).1 g hg) hsz, fun h0 => own_asideS ((c12 (getD_ne h (by decide))).2 (getD_off h0 (by decide))) hgrow9 (diff_ty ((c12 (getD_ne h (by decide))).2 (getD_off h0 (by decide))) hbs (by decide))⟩, fun h => (c13 (getD_ne h (by decide))), fun h => (c14 (getD_ne h (by decide))), fun h => by obtain ⟨a, c, e, r⟩ := (c15 (getD_ne h (by decide))); exact ⟨a, c, e, own_asideS r hgrow9 (diff_ty r hbs (by decide))⟩, fun h => ⟨fun g hg => Nat.lt_of_lt_of_le ((c16 (getD_ne h (by decide))).1 g hg) hsz, fun h0 => own_asideS ((c16 (getD_ne h (by decide))).2 (getD_off h0 (by decide))) hgrow9 (diff_ty ((c16 (getD_ne h (by decide))).2 (getD_off h0 (by decide))) hbs (by decide))⟩, fun h => (c17 (getD_ne h (by decide))), fun h => (c18 (getD_ne h (by decide))), fun h => by obtain ⟨a, c, e, r⟩ := (c19 (getD_ne h (by decide))); exact ⟨a, c, e, own_asideS r hgrow9 (diff_ty r hbs (by decide))⟩, fun h => absurd (c20 (getD_ne h (by decide))).1.2.1 (by rw [hoff]; decide), fun h => absurd (c20 (c21 (getD_ne h (by decide))).1).1.2.1 (by rw [hoff]; decide), fun h h' => x0 (getD_ne h (by decide)) (getD_ne h' (by decide)), fun h _ g hg e => (hnew9 g e).elim (fun h1 => x0 (getD_ne h (by decide)) hd g hg h1) (fun h1 => by have := (c2 (getD_ne h (by decide))).1 g hg; omega), fun h h' => x2 (getD_ne h (by decide)) (getD_ne h' (by decide)), fun h _ g hg e => (hnew9 g e).elim (fun h1 => x2 (getD_ne h (by decide)) hd g hg h1) (fun h1 => by have := (by obtain ⟨_, _, _, r⟩ := c5 (getD_ne h (by decide)); exact (World.ownsRow.lt r g hg).2 : g < W.heap.size); omega)⟩)
    · -- 12
      refine wpOp_step rfl (fun K' hK' => ?_)
      have HK : Hid (∀ a w, K a w → K' a w) := hK'
      have HK2 : Hid (type_of% hK) := hK
      clear hK hK'
      have hb9 : Below W.heap.size W (W.alloc (.cells #[] 84)) := (Below.refl _ _).alloc (Nat.le_refl _) _
      have hsz := hb9.size
      have hown : (W.alloc (.cells #[] 84)).ownsRow (w.heap.size + 2) 84 3 (.slice (some ⟨W.heap.size, 0, none⟩) 0 0) 0 [] := World.ownsRow_made (base := w.heap.size + 2) (e := 84) (size := 3) W #[] 0 (by omega) (by unfold maxLen; omega) rfl
      go_simp
      exact HK.out _ _ (HK2.out _ _ ⟨by simp [hls], hB.alloc (by omega) _, hV.below hb9, ⟨by simp; omega, hN.2⟩, (by obtain ⟨_, _, _, _, _, _, h2⟩ := hV2; exact ⟨_, _, _, _, _, _, h2.below hb9⟩), _, _, _, _, _, _, _, _, _, _, _, _, _, _, _, _, _, _, _, _, _, rfl, fun h => (c0 (getD_ne h (by decide))), fun h => (c1 (getD_ne h (by decide))), fun h => ⟨fun g hg => Nat.lt_of_lt_of_le ((c2 (getD_ne h (by decide))).1 g hg) hsz, fun h0 => own_belowY ((c2 (getD_ne h (by decide))).2 (getD_off h0 (by decide))) hb9⟩, fun h => (c3 (getD_ne h (by decide))), fun h => (c4 (getD_ne h (by decide))), fun h => by obtain ⟨a, c, e, r⟩ := (c5 (getD_ne h (by decide))); exact ⟨a, c, e, own_belowY r hb9⟩, fun h => (c6 (getD_ne h (by decide))), fun h => (c7 (getD_ne h (by decide))), fun h => ⟨fun g hg => Nat.lt_of_lt_of_le ((c8 (getD_ne h (by decide))).1 g hg) hsz, fun h0 => own_belowY ((c8 (getD_ne h (by decide))).2 (getD_off h0 (by decide))) hb9⟩, fun h => (c9 (getD_ne h (by decide))), fun h => (c10 (getD_ne h (by decide))), fun h => by obtain ⟨a, c, e, r⟩ := (c11 (getD_ne h (by decide))); exact ⟨a, c, e, own_belowY r hb9⟩, fun _ => ⟨fun g hg => (World.ownsRow.lt hown g hg).2, fun _ => hown⟩, fun h => (c13 (getD_ne h (by decide))), fun h => (c14 (getD_ne h (by decide))), fun h => by obtain ⟨a, c, e, r⟩ := (c15 (getD_ne h (by decide))); exact ⟨a, c, e, own_belowY r hb9⟩, fun h => ⟨fun g hg => Nat.lt_of_lt_of_le ((c16 (getD_ne h (by decide))).1 g hg) hsz, fun h0 => own_belowY ((c16 (getD_ne h (by decide))).2 (getD_off h0 (by decide))) hb9⟩, fun h => (c17 (getD_ne h (by decide))), fun h => (c18 (getD_ne h (by decide))), fun h => by obtain ⟨a, c, e, r⟩ := (c19 (getD_ne h (by decide))); exact ⟨a, c, e, own_belowY r hb9⟩, fun h => ⟨⟨getD_set_true (c20 (getD_ne h (by decide))).1.1, getD_set_true (c20 (getD_ne h (by decide))).1.2.1, getD_set_true (c20 (getD_ne h (by decide))).1.2.2.1, getD_set_true (c20 (getD_ne h (by decide))).1.2.2.2⟩, (c20 (getD_ne h (by decide))).2⟩, fun h => ⟨getD_set_true (c21 (getD_ne h (by decide))).1, Sv.below (c21 (getD_ne h (by decide))).2 hb9⟩, fun h h' => x0 (getD_ne h (by decide)) (getD_ne h' (by decide)), fun h h' => x1 (getD_ne h (by decide)) (getD_ne h' (by decide)), fun h h' => x2 (getD_ne h (by decide)) (getD_ne h' (by decide)), fun h h' => x3 (getD_ne h (by decide)) (getD_ne h' (by decide))⟩)
    · -- 13
      refine wpOp_step rfl (fun K' hK' => ?_)
      have HK : Hid (∀ a w, K a w → K' a w) := hK'
      have HK2 : Hid (type_of% hK) := hK
      clear hK hK'
      have y0 := hV.c0
      have y1 := hV.c1
      have y2 := hV.c2
      have y3 := hV.c3
      have y4 := hV.c4
      have y5 := hV.c5
      go_simp
      exact HK.out _ _ (HK2.out _ _ ⟨by simp [hls], hB, hV, hN, hV2, _, _, _, _, _, _, _, _, _, _, _, _, _, _, _, _, _, _, _, _, _, rfl, fun h => (c0 (getD_ne h (by decide))), fun h => (c1 (getD_ne h (by decide))), fun h => ⟨(c2 (getD_ne h (by decide))).1, fun h0 => ((c2 (getD_ne h (by decide))).2 (getD_off h0 (by decide)))⟩, fun h => (c3 (getD_ne h (by decide))), fun h => (c4 (getD_ne h (by decide))), fun h => (c5 (getD_ne h (by decide))), fun h => (c6 (getD_ne h (by decide))), fun h => (c7 (getD_ne h (by decide))), fun h => ⟨(c8 (getD_ne h (by decide))).1, fun h0 => ((c8 (getD_ne h (by decide))).2 (getD_off h0 (by decide)))⟩, fun h => (c9 (getD_ne h (by decide))), fun h => (c10 (getD_ne h (by decide))), fun h => (c11 (getD_ne h (by decide))), fun h => ⟨(c12 (getD_ne h (by decide))).1, fun h0 => ((c12 (getD_ne h (by decide))).2 (getD_off h0 (by decide)))⟩, fun _ => rfl, fun h => (c14 (getD_ne h (by decide))), fun h => (c15 (getD_ne h (by decide))), fun h => ⟨(c16 (getD_ne h (by decide))).1, fun h0 => ((c16 (getD_ne h (by decide))).2 (getD_off h0 (by decide)))⟩, fun h => (c17 (getD_ne h (by decide))), fun h => (c18 (getD_ne h (by decide))), fun h => (c19 (getD_ne h (by decide))), fun h => ⟨⟨getD_set_true (c20 (getD_ne h (by decide))).1.1, getD_set_true (c20 (getD_ne h (by decide))).1.2.1, getD_set_true (c20 (getD_ne h (by decide))).1.2.2.1, getD_set_true (c20 (getD_ne h (by decide))).1.2.2.2⟩, (c20 (getD_ne h (by decide))).2⟩, fun h => ⟨getD_set_true (c21 (getD_ne h (by decide))).1, (c21 (getD_ne h (by decide))).2⟩, fun h h' => x0 (getD_ne h (by decide)) (getD_ne h' (by decide)), fun h h' => x1 (getD_ne h (by decide)) (getD_ne h' (by decide)), fun h h' => x2 (getD_ne h (by decide)) (getD_ne h' (by decide)), fun h h' => x3 (getD_ne h (by decide)) (getD_ne h' (by decide))⟩)
    · -- 14
      obtain rfl := c13 (show l.getD 13 false = true from by have hd := ready_deps hi (o := _) rfl; exact hd ⟨13, .data⟩ (by simp) (by rfl))
      refine wpOp_step rfl (fun K' hK' => ?_)
      have HK : Hid (∀ a w, K a w → K' a w) := hK'
      have HK2 : Hid (type_of% hK) := hK
      clear hK hK'
      have y0 := hV.c0
      have y1 := hV.c1
      have y2 := hV.c2
      have y3 := hV.c3
      have y4 := hV.c4
      have y5 := hV.c5
      go_simp
      exact HK.out _ _ (HK2.out _ _ ⟨by simp [hls], hB, hV, hN, hV2, _, _, _, _, _, _, _, _, _, _, _, _, _, _, _, _, _, _, _, _, _, rfl, fun h => (c0 (getD_ne h (by decide))), fun h => (c1 (getD_ne h (by decide))), fun h => ⟨(c2 (getD_ne h (by decide))).1, fun h0 => ((c2 (getD_ne h (by decide))).2 (getD_off h0 (by decide)))⟩, fun h => (c3 (getD_ne h (by decide))), fun h => (c4 (getD_ne h (by decide))), fun h => (c5 (getD_ne h (by decide))), fun h => (c6 (getD_ne h (by decide))), fun h => (c7 (getD_ne h (by decide))), fun h => ⟨(c8 (getD_ne h (by decide))).1, fun h0 => ((c8 (getD_ne h (by decide))).2 (getD_off h0 (by decide)))⟩, fun h => (c9 (getD_ne h (by decide))), fun h => (c10 (getD_ne h (by decide))), fun h => (c11 (getD_ne h (by decide))), fun h => ⟨(c12 (getD_ne h (by decide))).1, fun h0 => ((c12 (getD_ne h (by decide))).2 (getD_off h0 (by decide)))⟩, fun h => (c13 (getD_ne h (by decide))), fun _ => rfl, fun h => (c15 (getD_ne h (by decide))), fun h => ⟨(c16 (getD_ne h (by decide))).1, fun h0 => ((c16 (getD_ne h (by decide))).2 (getD_off h0 (by decide)))⟩, fun h => (c17 (getD_ne h (by decide))), fun h => (c18 (getD_ne h (by decide))), fun h => (c19 (getD_ne h (by decide))), fun h => ⟨⟨getD_set_true (c20 (getD_ne h (by decide))).1.1, getD_set_true (c20 (getD_ne h (by decide))).1.2.1, getD_set_true (c20 (getD_ne h (by decide))).1.2.2.1, getD_set_true (c20 (getD_ne h (by decide))).1.2.2.2⟩, (c20 (getD_ne h (by decide))).2⟩, fun h => ⟨getD_set_true (c21 (getD_ne h (by decide))).1, (c21 (getD_ne h (by decide))).2⟩, fun h h' => x0 (getD_ne h (by decide)) (getD_ne h' (by decide)), fun h h' => x1 (getD_ne h (by decide)) (getD_ne h' (by decide)), fun h h' => x2 (getD_ne h (by decide)) (getD_ne h' (by decide)), fun h h' => x3 (getD_ne h (by decide)) (getD_ne h' (by decide))⟩)
    · -- 15
      obtain rfl := c14 (show l.getD 14 false = true from by have hd := ready_deps hi (o := _) rfl; exact hd ⟨14, .data⟩ (by simp) (by rfl))
      have hd := (show l.getD 12 false = true from by have hd := ready_deps hi (o := _) rfl; exact hd ⟨12, .data⟩ (by simp) (by rfl))
      have hoff := ready_off hi (by omega)
      have hbs := (c12 hd).2 hoff
      refine wpOp_step rfl (fun K' hK' => ?_)
      have HK : Hid (∀ a w, K a w → K' a w) := hK'
      have HK2 : Hid (type_of% hK) := hK
      clear hK hK'
      refine step_append_mayF W (by rfl) _ _ _ (by rfl) (w.heap.size + 2) 84 p0 (.agg #[.int .i64 0, .int .i64 0, .string ⟨#[]⟩]) 3 32 Try.underlying23 hp hpz0 hpz1 hpz2 rfl (by decide) _ 0 [] (by rfl) hbs _ s.way.length _ (s.way.flatMap Pk.cells) (by rfl) (flatPk_len _) (PksAt.news (HS.out.y.below hB)) (onesPk _) (by unfold maxLen; omega) (by omega) (by omega) ?_
      intro ar kq w9 hown9 hgrow9 hnew9
      rw [Nat.zero_add, List.nil_append] at hown9
      rw [Nat.zero_add] at hnew9 ⊢
      have hbb : ∀ g, u15.ownBlock = some g → w.heap.size + 2 ≤ g ∧ g < W.heap.size := fun g hg => World.ownsRow.lt hbs g hg
      have hB9 : Below (w.heap.size + 2) W w9 := (Below.refl (w.heap.size + 2) W).grown hgrow9 (by omega) (fun k hk => (hbb k hk).1)
      have hsz := hB9.size
      exact HK.out _ _ (HK2.out _ _ ⟨by simp [hls], hB.trans (hB9.mono (by omega)), hV.kept (hB9.block _ (by omega)) hB9.size, ⟨Nat.le_trans hN.1 hB9.size, hN.2⟩, (by obtain ⟨_, _, _, _, _, _, h2⟩ := hV2; exact ⟨_, _, _, _, _, _, h2.kept (hB9.block _ (by omega)) hB9.size⟩), _, _, _, _, _, _, _, _, _, _, _, _, _, _, _, _, _, _, _, _, _, rfl, fun h => (c0 (getD_ne h (by decide))), fun h => (c1 (getD_ne h (by decide))), fun h => ⟨fun g hg => Nat.lt_of_lt_of_le ((c2 (getD_ne h (by decide))).1 g hg) hsz, fun h0 => own_asideS ((c2 (getD_ne h (by decide))).2 (getD_off h0 (by decide))) hgrow9 (diff_ty ((c2 (getD_ne h (by decide))).2 (getD_off h0 (by decide))) hbs (by decide))⟩, fun h => (c3 (getD_ne h (by decide))), fun h => (c4 (getD_ne h (by decide))), fun h => by obtain ⟨a, c, e, r⟩ := (c5 (getD_ne h (by decide))); exact ⟨a, c, e, own_asideS r hgrow9 (diff_ty r hbs (by decide))⟩, fun h => (c6 (getD_ne h (by decide))), fun h => (c7 (getD_ne h (by decide))), fun h => ⟨fun g hg => Nat.lt_of_lt_of_le ((c8 (getD_ne h (by decide))).1 g hg) hsz, fun h0 => own_asideS ((c8 (getD_ne h (by decide))).2 (getD_off h0 (by decide))) hgrow9 (diff_ty ((c8 (getD_ne h (by decide))).2 (getD_off h0 (by decide))) hbs (by decide))⟩, fun h => (c9 (getD_ne h (by decide))), fun h => (c10 (getD_ne h (by decide))), fun h => by obtain ⟨a, c, e, r⟩ := (c11 (getD_ne h (by decide))); exact ⟨a, c, e, own_asideS r hgrow9 (diff_ty r hbs (by decide))⟩, fun h => ⟨fun g hg => Nat.lt_of_lt_of_le ((c12 (getD_ne h (by decide))).1 g hg) hsz, fun h0 => by rw [getD_on (by omega)] at h0; cases h0⟩, fun h => (c13 (getD_ne h (by decide))), fun h => (c14 (getD_ne h (by decide))), fun _ => ⟨_, _, rfl, hown9⟩, fun h => ⟨fun g hg => Nat.lt_of_lt_of_le ((c16 (getD_ne h (by decide))).1 g hg) hsz, fun h0 => own_asideS ((c16 (getD_ne h (by decide))).2 (getD_off h0 (by decide))) hgrow9 (diff_ty ((c16 (getD_ne h (by decide))).2 (getD_off h0 (by decide))) hbs (by decide))⟩, fun h => (c17 (getD_ne h (by decide))), fun h => (c18 (getD_ne h (by decide))), fun h => by obtain ⟨a, c, e, r⟩ := (c19 (getD_ne h (by decide))); exact ⟨a, c, e, own_asideS r hgrow9 (diff_ty r hbs (by decide))⟩, fun h => absurd (c20 (getD_ne h (by decide))).1.2.2.1 (by rw [hoff]; decide), fun h => absurd (c20 (c21 (getD_ne h (by decide))).1).1.2.2.1 (by rw [hoff]; decide), fun h h' => x0 (getD_ne h (by decide)) (getD_ne h' (by decide)), fun h h' => x1 (getD_ne h (by decide)) (getD_ne h' (by decide)), fun h h' => x2 (getD_ne h (by decide)) (getD_ne h' (by decide)), fun h h' => x3 (getD_ne h (by decide)) (getD_ne h' (by decide))⟩)
    · -- 16
      refine wpOp_step rfl (fun K' hK' => ?_)
      have HK : Hid (∀ a w, K a w → K' a w) := hK'
      have HK2 : Hid (type_of% hK) := hK
      clear hK hK'
      have hb9 : Below W.heap.size W (W.alloc (.cells #[] 86)) := (Below.refl _ _).alloc (Nat.le_refl _) _
      have hsz := hb9.size
      have hown : (W.alloc (.cells #[] 86)).ownsRow (w.heap.size + 2) 86 2 (.slice (some ⟨W.heap.size, 0, none⟩) 0 0) 0 [] := World.ownsRow_made (base := w.heap.size + 2) (e := 86) (size := 2) W #[] 0 (by omega) (by unfold maxLen; omega) rfl
      go_simp
      exact HK.out _ _ (HK2.out _ _ ⟨by simp [hls], hB.alloc (by omega) _, hV.below hb9, ⟨by simp; omega, hN.2⟩, (by obtain ⟨_, _, _, _, _, _, h2⟩ := hV2; exact ⟨_, _, _, _, _, _, h2.below hb9⟩), _, _, _, _, _, _, _, _, _, _, _, _, _, _, _, _, _, _, _, _, _, rfl, fun h => (c0 (getD_ne h (by decide))), fun h => (c1 (getD_ne h (by decide))), fun h => ⟨fun g hg => Nat.lt_of_lt_of_le ((c2 (getD_ne h (by decide))).1 g hg) hsz, fun h0 => own_belowY ((c2 (getD_ne h (by decide))).2 (getD_off h0 (by decide))) hb9⟩, fun h => (c3 (getD_ne h (by decide))), fun h => (c4 (getD_ne h (by decide))), fun h => by obtain ⟨a, c, e, r⟩ := (c5 (getD_ne h (by decide))); exact ⟨a, c, e, own_belowY r hb9⟩, fun h => (c6 (getD_ne h (by decide))), fun h => (c7 (getD_ne h (by decide))), fun h => ⟨fun g hg => Nat.lt_of_lt_of_le ((c8 (getD_ne h (by decide))).1 g hg) hsz, fun h0 => own_belowY ((c8 (getD_ne h (by decide))).2 (getD_off h0 (by decide))) hb9⟩, fun h => (c9 (getD_ne h (by decide))), fun h => (c10 (getD_ne h (by decide))), fun h => by obtain ⟨a, c, e, r⟩ := (c11 (getD_ne h (by decide))); exact ⟨a, c, e, own_belowY r hb9⟩, fun h => ⟨fun g hg => Nat.lt_of_lt_of_le ((c12 (getD_ne h (by decide))).1 g hg) hsz, fun h0 => own_belowY ((c12 (getD_ne h (by decide))).2 (getD_off h0 (by decide))) hb9⟩, fun h => (c13 (getD_ne h (by decide))), fun h => (c14 (getD_ne h (by decide))), fun h => by obtain ⟨a, c, e, r⟩ := (c15 (getD_ne h (by decide))); exact ⟨a, c, e, own_belowY r hb9⟩, fun _ => ⟨fun g hg => (World.ownsRow.lt hown g hg).2, fun _ => hown⟩, fun h => (c17 (getD_ne h (by decide))), fun h => (c18 (getD_ne h (by decide))), fun h => by obtain ⟨a, c, e, r⟩ := (c19 (getD_ne h (by decide))); exact ⟨a, c, e, own_belowY r hb9⟩, fun h => ⟨⟨getD_set_true (c20 (getD_ne h (by decide))).1.1, getD_set_true (c20 (getD_ne h (by decide))).1.2.1, getD_set_true (c20 (getD_ne h (by decide))).1.2.2.1, getD_set_true (c20 (getD_ne h (by decide))).1.2.2.2⟩, (c20 (getD_ne h (by decide))).2⟩, fun h => ⟨getD_set_true (c21 (getD_ne h (by decide))).1, Sv.below (c21 (getD_ne h (by decide))).2 hb9⟩, fun h h' => x0 (getD_ne h (by decide)) (getD_ne h' (by decide)), fun h h' => x1 (getD_ne h (by decide)) (getD_ne h' (by decide)), fun h h' => x2 (getD_ne h (by decide)) (getD_ne h' (by decide)), fun h h' => x3 (getD_ne h (by decide)) (getD_ne h' (by decide))⟩)
    · -- 17
      refine wpOp_step rfl (fun K' hK' => ?_)
      have HK : Hid (∀ a w, K a w → K' a w) := hK'
      have HK2 : Hid (type_of% hK) := hK
      clear hK hK'
      have y0 := hV.c0
      have y1 := hV.c1
      have y2 := hV.c2
      have y3 := hV.c3
      have y4 := hV.c4
      have y5 := hV.c5
      go_simp
      exact HK.out _ _ (HK2.out _ _ ⟨by simp [hls], hB, hV, hN, hV2, _, _, _, _, _, _, _, _, _, _, _, _, _, _, _, _, _, _, _, _, _, rfl, fun h => (c0 (getD_ne h (by decide))), fun h => (c1 (getD_ne h (by decide))), fun h => ⟨(c2 (getD_ne h (by decide))).1, fun h0 => ((c2 (getD_ne h (by decide))).2 (getD_off h0 (by decide)))⟩, fun h => (c3 (getD_ne h (by decide))), fun h => (c4 (getD_ne h (by decide))), fun h => (c5 (getD_ne h (by decide))), fun h => (c6 (getD_ne h (by decide))), fun h => (c7 (getD_ne h (by decide))), fun h => ⟨(c8 (getD_ne h (by decide))).1, fun h0 => ((c8 (getD_ne h (by decide))).2 (getD_off h0 (by decide)))⟩, fun h => (c9 (getD_ne h (by decide))), fun h => (c10 (getD_ne h (by decide))), fun h => (c11 (getD_ne h (by decide))), fun h => ⟨(c12 (getD_ne h (by decide))).1, fun h0 => ((c12 (getD_ne h (by decide))).2 (getD_off h0 (by decide)))⟩, fun h => (c13 (getD_ne h (by decide))), fun h => (c14 (getD_ne h (by decide))), fun h => (c15 (getD_ne h (by decide))), fun h => ⟨(c16 (getD_ne h (by decide))).1, fun h0 => ((c16 (getD_ne h (by decide))).2 (getD_off h0 (by decide)))⟩, fun _ => rfl, fun h => (c18 (getD_ne h (by decide))), fun h => (c19 (getD_ne h (by decide))), fun h => ⟨⟨getD_set_true (c20 (getD_ne h (by decide))).1.1, getD_set_true (c20 (getD_ne h (by decide))).1.2.1, getD_set_true (c20 (getD_ne h (by decide))).1.2.2.1, getD_set_true (c20 (getD_ne h (by decide))).1.2.2.2⟩, (c20 (getD_ne h (by decide))).2⟩, fun h => ⟨getD_set_true (c21 (getD_ne h (by decide))).1, (c21 (getD_ne h (by decide))).2⟩, fun h h' => x0 (getD_ne h (by decide)) (getD_ne h' (by decide)), fun h h' => x1 (getD_ne h (by decide)) (getD_ne h' (by decide)), fun h h' => x2 (getD_ne h (by decide)) (getD_ne h' (by decide)), fun h h' => x3 (getD_ne h (by decide)) (getD_ne h' (by decide))⟩)
    · -- 18
      obtain rfl := c17 (show l.getD 17 false = true from by have hd := ready_deps hi (o := _) rfl; exact hd ⟨17, .data⟩ (by simp) (by rfl))
      refine wpOp_step rfl (fun K' hK' => ?_)
      have HK : Hid (∀ a w, K a w → K' a w) := hK'
      have HK2 : Hid (type_of% hK) := hK
      clear hK hK'
      have y0 := hV.c0
      have y1 := hV.c1
      have y2 := hV.c2
      have y3 := hV.c3
      have y4 := hV.c4
      have y5 := hV.c5
      go_simp
      exact HK.out _ _ (HK2.out _ _ ⟨by simp [hls], hB, hV, hN, hV2, _, _, _, _, _, _, _, _, _, _, _, _, _, _, _, _, _, _, _, _, _, rfl, fun h => (c0 (getD_ne h (by decide))), fun h => (c1 (getD_ne h (by decide))), fun h => ⟨(c2 (getD_ne h (by decide))).1, fun h0 => ((c2 (getD_ne h (by decide))).2 (getD_off h0 (by decide)))⟩, fun h => (c3 (getD_ne h (by decide))), fun h => (c4 (getD_ne h (by decide))), fun h => (c5 (getD_ne h (by decide))), fun h => (c6 (getD_ne h (by decide))), fun h => (c7 (getD_ne h (by decide))), fun h => ⟨(c8 (getD_ne h (by decide))).1, fun h0 => ((c8 (getD_ne h (by decide))).2 (getD_off h0 (by decide)))⟩, fun h => (c9 (getD_ne h (by decide))), fun h => (c10 (getD_ne h (by decide))), fun h => (c11 (getD_ne h (by decide))), fun h => ⟨(c12 (getD_ne h (by decide))).1, fun h0 => ((c12 (getD_ne h (by decide))).2 (getD_off h0 (by decide)))⟩, fun h => (c13 (getD_ne h (by decide))), fun h => (c14 (getD_ne h (by decide))), fun h => (c15 (getD_ne h (by decide))), fun h => ⟨(c16 (getD_ne h (by decide))).1, fun h0 => ((c16 (getD_ne h (by decide))).2 (getD_off h0 (by decide)))⟩, fun h => (c17 (getD_ne h (by decide))), fun _ => rfl, fun h => (c19 (getD_ne h (by decide))), fun h => ⟨⟨getD_set_true (c20 (getD_ne h (by decide))).1.1, getD_set_true (c20 (getD_ne h (by decide))).1.2.1, getD_set_true (c20 (getD_ne h (by decide))).1.2.2.1, getD_set_true (c20 (getD_ne h (by decide))).1.2.2.2⟩, (c20 (getD_ne h (by decide))).2⟩, fun h => ⟨getD_set_true (c21 (getD_ne h (by decide))).1, (c21 (getD_ne h (by decide))).2⟩, fun h h' => x0 (getD_ne h (by decide)) (getD_ne h' (by decide)), fun h h' => x1 (getD_ne h (by decide)) (getD_ne h' (by decide)), fun h h' => x2 (getD_ne h (by decide)) (getD_ne h' (by decide)), fun h h' => x3 (getD_ne h (by decide)) (getD_ne h' (by decide))⟩)
    · -- 19
      obtain rfl := c18 (show l.getD 18 false = true from by have hd := ready_deps hi (o := _) rfl; exact hd ⟨18, .data⟩ (by simp) (by rfl))
      have hd := (show l.getD 16 false = true from by have hd := ready_deps hi (o := _) rfl; exact hd ⟨16, .data⟩ (by simp) (by rfl))
      have hoff := ready_off hi (by omega)
      have hbs := (c16 hd).2 hoff
      refine wpOp_step rfl (fun K' hK' => ?_)
      have HK : Hid (∀ a w, K a w → K' a w) := hK'
      have HK2 : Hid (type_of% hK) := hK
      clear hK hK'
      refine step_append_mayF W (by rfl) _ _ _ (by rfl) (w.heap.size + 2) 86 q0 (.agg #[.int .i64 0, .int .i64 0]) 2 16 Try.underlying24 hq hqz0 hqz1 hqz2 rfl (by decide) _ 0 [] (by rfl) hbs _ s.acks.length _ (s.acks.flatMap Ak.cells) (by rfl) (flatAk_len _) (AksAt.news (HS.out.a.below hB)) (onesAk _) (by unfold maxLen; omega) (by omega) (by omega) ?_
      intro ar kq w9 hown9 hgrow9 hnew9
      rw [Nat.zero_add, List.nil_append] at hown9
      rw [Nat.zero_add] at hnew9 ⊢
      have hbb : ∀ g, u19.ownBlock = some g → w.heap.size + 2 ≤ g ∧ g < W.heap.size := fun g hg => World.ownsRow.lt hbs g hg
      have hB9 : Below (w.heap.size + 2) W w9 := (Below.refl (w.heap.size + 2) W).grown hgrow9 (by omega) (fun k hk => (hbb k hk).1)
      have hsz := hB9.size
      exact HK.out _ _ (HK2.out _ _ ⟨by simp [hls], hB.trans (hB9.mono (by omega)), hV.kept (hB9.block _ (by omega)) hB9.size, ⟨Nat.le_trans hN.1 hB9.size, hN.2⟩, (by obtain ⟨_, _, _, _, _, _, h2⟩ := hV2; exact ⟨_, _, _, _, _, _, h2.kept (hB9.block _ (by omega)) hB9.size⟩), _, _, _, _, _, _, _, _, _, _, _, _, _, _, _, _, _, _, _, _, _, rfl, fun h => (c0 (getD_ne h (by decide))), fun h => (c1 (getD_ne h (by decide))), fun h => ⟨fun g hg => Nat.lt_of_lt_of_le ((c2 (getD_ne h (by decide))).1 g hg) hsz, fun h0 => own_asideS ((c2 (getD_ne h (by decide))).2 (getD_off h0 (by decide))) hgrow9 (diff_ty ((c2 (getD_ne h (by decide))).2 (getD_off h0 (by decide))) hbs (by decide))⟩, fun h => (c3 (getD_ne h (by decide))), fun h => (c4 (getD_ne h (by decide))), fun h => by obtain ⟨a, c, e, r⟩ := (c5 (getD_ne h (by decide))); exact ⟨a, c, e, own_asideS r hgrow9 (diff_ty r hbs (by decide))⟩, fun h => (c6 (getD_ne h (by decide))), fun h => (c7 (getD_ne h (by decide))), fun h => ⟨fun g hg => Nat.lt_of_lt_of_le ((c8 (getD_ne h (by decide))).1 g hg) hsz, fun h0 => own_asideS ((c8 (getD_ne h (by decide))).2 (getD_off h0 (by decide))) hgrow9 (diff_ty ((c8 (getD_ne h (by decide))).2 (getD_off h0 (by decide))) hbs (by decide))⟩, fun h => (c9 (getD_ne h (by decide))), fun h => (c10 (getD_ne h (by decide))), fun h => by obtain ⟨a, c, e, r⟩ := (c11 (getD_ne h (by decide))); exact ⟨a, c, e, own_asideS r hgrow9 (diff_ty r hbs (by decide))⟩, fun h => ⟨fun g hg => Nat.lt_of_lt_of_le ((c12 (getD_ne h (by decide))).1 g hg) hsz, fun h0 => own_asideS ((c12 (getD_ne h (by decide))).2 (getD_off h0 (by decide))) hgrow9 (diff_ty ((c12 (getD_ne h (by decide))).2 (getD_off h0 (by decide))) hbs (by decide))⟩, fun h => (c13 (getD_ne h (by decide))), fun h => (c14 (getD_ne h (by decide))), fun h => by obtain ⟨a, c, e, r⟩ := (c15 (getD_ne h (by decide))); exact ⟨a, c, e, own_asideS r hgrow9 (diff_ty r hbs (by decide))⟩, fun h => ⟨fun g hg => Nat.lt_of_lt_of_le ((c16 (getD_ne h (by decide))).1 g hg) hsz, fun h0 => by rw [getD_on (by omega)] at h0; cases h0⟩, fun h => (c17 (getD_ne h (by decide))), fun h => (c18 (getD_ne h (by decide))), fun _ => ⟨_, _, rfl, hown9⟩, fun h => absurd (c20 (getD_ne h (by decide))).1.2.2.2 (by rw [hoff]; decide), fun h => absurd (c20 (c21 (getD_ne h (by decide))).1).1.2.2.2 (by rw [hoff]; decide), fun h h' => x0 (getD_ne h (by decide)) (getD_ne h' (by decide)), fun h h' => x1 (getD_ne h (by decide)) (getD_ne h' (by decide)), fun h h' => x2 (getD_ne h (by decide)) (getD_ne h' (by decide)), fun h h' => x3 (getD_ne h (by decide)) (getD_ne h' (by decide))⟩)
    · -- 20
      obtain rfl := c1 (show l.getD 1 false = true from by have hd := ready_deps hi (o := _) rfl; exact hd ⟨1, .data⟩ (by simp) (by rfl))
      obtain rfl := c7 (show l.getD 7 false = true from by have hd := ready_deps hi (o := _) rfl; exact hd ⟨7, .data⟩ (by simp) (by rfl))
      obtain ⟨a5, k5, e5, r5⟩ := c5 (show l.getD 5 false = true from by have hd := ready_deps hi (o := _) rfl; exact hd ⟨5, .data⟩ (by simp) (by rfl))
      subst e5
      obtain ⟨a11, k11, e11, r11⟩ := c11 (show l.getD 11 false = true from by have hd := ready_deps hi (o := _) rfl; exact hd ⟨11, .data⟩ (by simp) (by rfl))
      subst e11
      obtain ⟨a15, k15, e15, r15⟩ := c15 (show l.getD 15 false = true from by have hd := ready_deps hi (o := _) rfl; exact hd ⟨15, .data⟩ (by simp) (by rfl))
      subst e15
      obtain ⟨a19, k19, e19, r19⟩ := c19 (show l.getD 19 false = true from by have hd := ready_deps hi (o := _) rfl; exact hd ⟨19, .data⟩ (by simp) (by rfl))
      subst e19
      refine wpOp_step rfl (fun K' hK' => ?_)
      have HK : Hid (∀ a w, K a w → K' a w) := hK'
      have HK2 : Hid (type_of% hK) := hK
      clear hK hK'
      have y0 := hV.c0
      have y1 := hV.c1
      have y2 := hV.c2
      have y3 := hV.c3
      have y4 := hV.c4
      have y5 := hV.c5
      go_simp
      exact HK.out _ _ (HK2.out _ _ ⟨by simp [hls], hB, hV, hN, hV2, _, _, _, _, _, _, _, _, _, _, _, _, _, _, _, _, _, _, _, _, _, rfl, fun h => (c0 (getD_ne h (by decide))), fun h => (c1 (getD_ne h (by decide))), fun h => ⟨(c2 (getD_ne h (by decide))).1, fun h0 => ((c2 (getD_ne h (by decide))).2 (getD_off h0 (by decide)))⟩, fun h => (c3 (getD_ne h (by decide))), fun h => (c4 (getD_ne h (by decide))), fun h => (c5 (getD_ne h (by decide))), fun h => (c6 (getD_ne h (by decide))), fun h => (c7 (getD_ne h (by decide))), fun h => ⟨(c8 (getD_ne h (by decide))).1, fun h0 => ((c8 (getD_ne h (by decide))).2 (getD_off h0 (by decide)))⟩, fun h => (c9 (getD_ne h (by decide))), fun h => (c10 (getD_ne h (by decide))), fun h => (c11 (getD_ne h (by decide))), fun h => ⟨(c12 (getD_ne h (by decide))).1, fun h0 => ((c12 (getD_ne h (by decide))).2 (getD_off h0 (by decide)))⟩, fun h => (c13 (getD_ne h (by decide))), fun h => (c14 (getD_ne h (by decide))), fun h => (c15 (getD_ne h (by decide))), fun h => ⟨(c16 (getD_ne h (by decide))).1, fun h0 => ((c16 (getD_ne h (by decide))).2 (getD_off h0 (by decide)))⟩, fun h => (c17 (getD_ne h (by decide))), fun h => (c18 (getD_ne h (by decide))), fun h => (c19 (getD_ne h (by decide))), fun _ => ⟨⟨getD_set_true (show l.getD 5 false = true from by have hd := ready_deps hi (o := _) rfl; exact hd ⟨5, .data⟩ (by simp) (by rfl)), getD_set_true (show l.getD 11 false = true from by have hd := ready_deps hi (o := _) rfl; exact hd ⟨11, .data⟩ (by simp) (by rfl)), getD_set_true (show l.getD 15 false = true from by have hd := ready_deps hi (o := _) rfl; exact hd ⟨15, .data⟩ (by simp) (by rfl)), getD_set_true (show l.getD 19 false = true from by have hd := ready_deps hi (o := _) rfl; exact hd ⟨19, .data⟩ (by simp) (by rfl))⟩, rfl⟩, fun h => ⟨getD_set_true (c21 (getD_ne h (by decide))).1, (c21 (getD_ne h (by decide))).2⟩, fun h h' => x0 (getD_ne h (by decide)) (getD_ne h' (by decide)), fun h h' => x1 (getD_ne h (by decide)) (getD_ne h' (by decide)), fun h h' => x2 (getD_ne h (by decide)) (getD_ne h' (by decide)), fun h h' => x3 (getD_ne h (by decide)) (getD_ne h' (by decide))⟩)
    · -- 21
      have hd20 := (show l.getD 20 false = true from by have hd := ready_deps hi (o := _) rfl; exact hd ⟨20, .data⟩ (by simp) (by rfl))
      have h20 := c20 hd20
      obtain ⟨a5, k5, e5, r5⟩ := c5 h20.1.1
      subst e5
      obtain ⟨a11, k11, e11, r11⟩ := c11 h20.1.2.1
      subst e11
      obtain ⟨a15, k15, e15, r15⟩ := c15 h20.1.2.2.1
      subst e15
      obtain ⟨a19, k19, e19, r19⟩ := c19 h20.1.2.2.2
      subst e19
      obtain rfl := h20.2
      refine wpOp_step rfl (fun K' hK' => ?_)
      have HK : Hid (∀ a w, K a w → K' a w) := hK'
      have HK2 : Hid (type_of% hK) := hK
      clear hK hK'
      obtain ⟨z0, z1, z2, z3, z4, z5, V2⟩ := hV2
      have q0 := V2.c0
      have f0 := V2.f0
      have q1 := V2.c1
      have f1 := V2.f1
      have q2 := V2.c2
      have f2 := V2.f2
      have q3 := V2.c3
      have f3 := V2.f3
      have q4 := V2.c4
      have f4 := V2.f4
      have q5 := V2.c5
      have f5 := V2.f5
      have hsz : W.heap.size ≤ W.heap.size := Nat.le_refl _
      go_simp
      exact HK.out _ _ (HK2.out _ _ ⟨by simp [hls], Below.set6 hB (by omega), hV.apart6 (by omega), ⟨by simp; exact hN.1, hN.2⟩, ⟨_, _, _, _, _, _, V2.set6⟩, _, _, _, _, _, _, _, _, _, _, _, _, _, _, _, _, _, _, _, _, _, rfl, fun h => (c0 (getD_ne h (by decide))), fun h => (c1 (getD_ne h (by decide))), fun h => ⟨fun g hg => Nat.lt_of_lt_of_le ((c2 (getD_ne h (by decide))).1 g hg) (by simp), fun h0 => own_set6 ((c2 (getD_ne h (by decide))).2 (getD_off h0 (by decide))) (fun g hg => by have := (World.ownsRow.lt ((c2 (getD_ne h (by decide))).2 (getD_off h0 (by decide))) g hg).1; omega)⟩, fun h => (c3 (getD_ne h (by decide))), fun h => (c4 (getD_ne h (by decide))), fun h => by obtain ⟨a, c, e, r⟩ := (c5 (getD_ne h (by decide))); exact ⟨a, c, e, own_set6 r (fun g hg => by have := (World.ownsRow.lt r g hg).1; omega)⟩, fun h => (c6 (getD_ne h (by decide))), fun h => (c7 (getD_ne h (by decide))), fun h => ⟨fun g hg => Nat.lt_of_lt_of_le ((c8 (getD_ne h (by decide))).1 g hg) (by simp), fun h0 => own_set6 ((c8 (getD_ne h (by decide))).2 (getD_off h0 (by decide))) (fun g hg => by have := (World.ownsRow.lt ((c8 (getD_ne h (by decide))).2 (getD_off h0 (by decide))) g hg).1; omega)⟩, fun h => (c9 (getD_ne h (by decide))), fun h => (c10 (getD_ne h (by decide))), fun h => by obtain ⟨a, c, e, r⟩ := (c11 (getD_ne h (by decide))); exact ⟨a, c, e, own_set6 r (fun g hg => by have := (World.ownsRow.lt r g hg).1; omega)⟩, fun h => ⟨fun g hg => Nat.lt_of_lt_of_le ((c12 (getD_ne h (by decide))).1 g hg) (by simp), fun h0 => own_set6 ((c12 (getD_ne h (by decide))).2 (getD_off h0 (by decide))) (fun g hg => by have := (World.ownsRow.lt ((c12 (getD_ne h (by decide))).2 (getD_off h0 (by decide))) g hg).1; omega)⟩, fun h => (c13 (getD_ne h (by decide))), fun h => (c14 (getD_ne h (by decide))), fun h => by obtain ⟨a, c, e, r⟩ := (c15 (getD_ne h (by decide))); exact ⟨a, c, e, own_set6 r (fun g hg => by have := (World.ownsRow.lt r g hg).1; omega)⟩, fun h => ⟨fun g hg => Nat.lt_of_lt_of_le ((c16 (getD_ne h (by decide))).1 g hg) (by simp), fun h0 => own_set6 ((c16 (getD_ne h (by decide))).2 (getD_off h0 (by decide))) (fun g hg => by have := (World.ownsRow.lt ((c16 (getD_ne h (by decide))).2 (getD_off h0 (by decide))) g hg).1; omega)⟩, fun h => (c17 (getD_ne h (by decide))), fun h => (c18 (getD_ne h (by decide))), fun h => by obtain ⟨a, c, e, r⟩ := (c19 (getD_ne h (by decide))); exact ⟨a, c, e, own_set6 r (fun g hg => by have := (World.ownsRow.lt r g hg).1; omega)⟩, fun h => ⟨⟨getD_set_true (c20 (getD_ne h (by decide))).1.1, getD_set_true (c20 (getD_ne h (by decide))).1.2.1, getD_set_true (c20 (getD_ne h (by decide))).1.2.2.1, getD_set_true (c20 (getD_ne h (by decide))).1.2.2.2⟩, (c20 (getD_ne h (by decide))).2⟩, fun _ => ⟨getD_set_true hd20, V2.set6⟩, fun h h' => x0 (getD_ne h (by decide)) (getD_ne h' (by decide)), fun h h' => x1 (getD_ne h (by decide)) (getD_ne h' (by decide)), fun h h' => x2 (getD_ne h (by decide)) (getD_ne h' (by decide)), fun h h' => x3 (getD_ne h (by decide)) (getD_ne h' (by decide))⟩)

end Go.Proofs.Ytnlppeieccbhgaa
