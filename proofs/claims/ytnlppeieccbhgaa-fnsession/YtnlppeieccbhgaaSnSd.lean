/- The program's: an item is sent. -/
import Derived.Test.YtnlppeieccbhgaaSnW
import Derived.Test.YtnlppeieccbhgaaSnP
import Derived.Test.YtnlppeieccbhgaaSnJ
import Derived.Deep.RegionHeld3
namespace Go.Proofs.Ytnlppeieccbhgaa
open Go.RowKit Plain Tpc Ssn

def Sd1A (s : Ses) (k : Int) (e : Nat) (W0 : World) (l : Array Bool) (a : Act) (W : World) : Prop :=
  l.size = 20 ∧ W = W0 ∧ ∃ u5 u6 u7 u8 u9 u10 u11 u12 u13 u14 u15 u16 u17 u18 u19 u20 u21 u22 u23 u24 : Value, a = ⟨#[.pointer (some ⟨e, 0, none⟩), .int .i64 k, undef, undef, .bool false, u5, u6, u7, u8, u9, u10, u11, u12, u13, u14, u15, u16, u17, u18, u19, u20, u21, u22, u23, u24, undef, undef, undef, undef, undef, undef, undef, undef, undef, undef, undef, undef, undef, undef, undef, undef, undef], []⟩ ∧
    (l.getD 0 false = true → u5 = .int .i64 k) ∧
    (l.getD 1 false = true → u6 = .pointer (some ⟨e, 0, none⟩)) ∧
    (l.getD 2 false = true → u7 = .pointer (some ⟨e, 0, none⟩)) ∧
    (l.getD 3 false = true → u8 = .pointer (some ⟨e, 1, none⟩)) ∧
    (l.getD 4 false = true → u9 = .int .i64 s.base) ∧
    (l.getD 5 false = true → u10 = .bool true) ∧
    (l.getD 6 false = true → u11 = .bool true) ∧
    (l.getD 7 false = true → u12 = undef) ∧
    (l.getD 8 false = true → u13 = undef) ∧
    (l.getD 9 false = true → u14 = undef) ∧
    (l.getD 10 false = true → u15 = undef) ∧
    (l.getD 11 false = true → u16 = undef) ∧
    (l.getD 12 false = true → u17 = undef) ∧
    (l.getD 13 false = true → u18 = undef) ∧
    (l.getD 14 false = true → u19 = undef) ∧
    (l.getD 15 false = true → u20 = undef) ∧
    (l.getD 16 false = true → u21 = undef) ∧
    (l.getD 17 false = true → u22 = undef) ∧
    (l.getD 18 false = true → u23 = undef) ∧
    (l.getD 19 false = true → u24 = .bool true)

def Sd1B (s : Ses) (k : Int) (e : Nat) (ai : Option Addr) (ci : Nat) (W0 : World) (l : Array Bool) (a : Act) (W : World) : Prop :=
  l.size = 20 ∧ W = W0 ∧ ∃ u5 u6 u7 u8 u9 u10 u11 u12 u13 u14 u15 u16 u17 u18 u19 u20 u21 u22 u23 u24 : Value, a = ⟨#[.pointer (some ⟨e, 0, none⟩), .int .i64 k, undef, undef, .bool false, u5, u6, u7, u8, u9, u10, u11, u12, u13, u14, u15, u16, u17, u18, u19, u20, u21, u22, u23, u24, undef, undef, undef, undef, undef, undef, undef, undef, undef, undef, undef, undef, undef, undef, undef, undef, undef], []⟩ ∧
    (l.getD 0 false = true → u5 = .int .i64 k) ∧
    (l.getD 1 false = true → u6 = .pointer (some ⟨e, 0, none⟩)) ∧
    (l.getD 2 false = true → u7 = .pointer (some ⟨e, 0, none⟩)) ∧
    (l.getD 3 false = true → u8 = .pointer (some ⟨e, 1, none⟩)) ∧
    (l.getD 4 false = true → u9 = .int .i64 s.base) ∧
    (l.getD 5 false = true → u10 = .bool false) ∧
    (l.getD 6 false = true → u11 = .bool false) ∧
    (l.getD 7 false = true → u12 = .int .i64 k) ∧
    (l.getD 8 false = true → u13 = .pointer (some ⟨e, 0, none⟩)) ∧
    (l.getD 9 false = true → u14 = .pointer (some ⟨e, 0, none⟩)) ∧
    (l.getD 10 false = true → u15 = .pointer (some ⟨e, 1, none⟩)) ∧
    (l.getD 11 false = true → u16 = .int .i64 s.base) ∧
    (l.getD 12 false = true → u17 = .pointer (some ⟨e, 0, none⟩)) ∧
    (l.getD 13 false = true → u18 = .pointer (some ⟨e, 0, none⟩)) ∧
    (l.getD 14 false = true → u19 = .pointer (some ⟨e, 3, none⟩)) ∧
    (l.getD 15 false = true → u20 = .slice ai s.items.length ci) ∧
    (l.getD 16 false = true → u21 = .int .i64 (s.items.length : Int)) ∧
    (l.getD 17 false = true → u22 = .int .i64 (min (s.base + 4) (s.items.length : Int))) ∧
    (l.getD 18 false = true → u23 = .bool false) ∧
    (l.getD 19 false = true → u24 = .bool false)

def Sd1C (s : Ses) (k : Int) (e : Nat) (ai : Option Addr) (ci : Nat) (W0 : World) (l : Array Bool) (a : Act) (W : World) : Prop :=
  l.size = 20 ∧ W = W0 ∧ ∃ u5 u6 u7 u8 u9 u10 u11 u12 u13 u14 u15 u16 u17 u18 u19 u20 u21 u22 u23 u24 : Value, a = ⟨#[.pointer (some ⟨e, 0, none⟩), .int .i64 k, undef, undef, .bool false, u5, u6, u7, u8, u9, u10, u11, u12, u13, u14, u15, u16, u17, u18, u19, u20, u21, u22, u23, u24, undef, undef, undef, undef, undef, undef, undef, undef, undef, undef, undef, undef, undef, undef, undef, undef, undef], []⟩ ∧
    (l.getD 0 false = true → u5 = .int .i64 k) ∧
    (l.getD 1 false = true → u6 = .pointer (some ⟨e, 0, none⟩)) ∧
    (l.getD 2 false = true → u7 = .pointer (some ⟨e, 0, none⟩)) ∧
    (l.getD 3 false = true → u8 = .pointer (some ⟨e, 1, none⟩)) ∧
    (l.getD 4 false = true → u9 = .int .i64 s.base) ∧
    (l.getD 5 false = true → u10 = .bool false) ∧
    (l.getD 6 false = true → u11 = .bool false) ∧
    (l.getD 7 false = true → u12 = .int .i64 k) ∧
    (l.getD 8 false = true → u13 = .pointer (some ⟨e, 0, none⟩)) ∧
    (l.getD 9 false = true → u14 = .pointer (some ⟨e, 0, none⟩)) ∧
    (l.getD 10 false = true → u15 = .pointer (some ⟨e, 1, none⟩)) ∧
    (l.getD 11 false = true → u16 = .int .i64 s.base) ∧
    (l.getD 12 false = true → u17 = .pointer (some ⟨e, 0, none⟩)) ∧
    (l.getD 13 false = true → u18 = .pointer (some ⟨e, 0, none⟩)) ∧
    (l.getD 14 false = true → u19 = .pointer (some ⟨e, 3, none⟩)) ∧
    (l.getD 15 false = true → u20 = .slice ai s.items.length ci) ∧
    (l.getD 16 false = true → u21 = .int .i64 (s.items.length : Int)) ∧
    (l.getD 17 false = true → u22 = .int .i64 (min (s.base + 4) (s.items.length : Int))) ∧
    (l.getD 18 false = true → u23 = .bool true) ∧
    (l.getD 19 false = true → u24 = .bool true)

set_option maxRecDepth 100000 in
set_option maxHeartbeats 8000000 in
theorem sendA (s : Ses) (k : Int) (e B : Nat) (ai : Option Addr) (ci : Nat) (vw va : Value) (w : World) (h : Ex w e B s (.slice ai s.items.length ci) vw va) (hg : Gd s) (hb : k < s.base) :
    Calls Try.prog 79 #[.pointer (some ⟨e, 0, none⟩), .int .i64 k] w fun r w' => r = .returned (.bool false) ∧ Hid (Ex w' e B s (.slice ai s.items.length ci) vw va ∧ Tch w w' (PX e (.slice ai s.items.length ci) vw va) (PX e (.slice ai s.items.length ci) vw va)) := by
  have hbd : Below w.heap.size w w.drew := (Below.refl _ w).drew
  have HXd : Hid (Ex w.drew e B s (.slice ai s.items.length ci) vw va) := h.below hbd
  have HTd : Hid (Tch w w.drew (PX e (.slice ai s.items.length ci) vw va) (PX e (.slice ai s.items.length ci) vw va)) := .of_below hbd
  have h0 := hg.b0
  have h1 : s.base ≤ 100 := by have a := hg.b1; have b := hg.hl; have c := hg.il; omega
  have x1 := HXd.out.v.c1
  have x3 := HXd.out.v.c3
  have CN : Hid (Calls Try.prog 80 #[.pointer (some ⟨e, 1, none⟩)] w.drew fun r w' => r = .returned (.int .i64 s.base) ∧ w' = w.drew) := now_any e 1 s.base _ HXd.out.v.c1
  have CW : Hid (Calls Try.prog 93 #[.int .i64 s.base, .int .i64 (s.items.length : Int)] w.drew fun r w' => r = .returned (.int .i64 (min (s.base + 4) (s.items.length : Int))) ∧ w' = w.drew) := windowEnd_any s.base _ w.drew (by omega) (by omega)
  have hq : decide (k < s.base) = true := decide_eq_true hb
  have HE : Hid (Ex w.drew e B s (.slice ai s.items.length ci) vw va ∧ Tch w w.drew (PX e (.slice ai s.items.length ci) vw va) (PX e (.slice ai s.items.length ci) vw va)) := ⟨HXd.out, HTd.out⟩
  have HI0 : Sd1A s k e w.drew (Array.replicate 20 false) ⟨#[.pointer (some ⟨e, 0, none⟩), .int .i64 k, undef, undef, .bool false, undef, undef, undef, undef, undef, undef, undef, undef, undef, undef, undef, undef, undef, undef, undef, undef, undef, undef, undef, undef, undef, undef, undef, undef, undef, undef, undef, undef, undef, undef, undef, undef, undef, undef, undef, undef, undef], []⟩ w.drew := by
    refine ⟨by simp, rfl, _, _, _, _, _, _, _, _, _, _, _, _, _, _, _, _, _, _, _, _, rfl, ?_, ?_, ?_, ?_, ?_, ?_, ?_, ?_, ?_, ?_, ?_, ?_, ?_, ?_, ?_, ?_, ?_, ?_, ?_, ?_⟩
    all_goals
      intro h
      exact absurd h (by decide)
  have HI : Hid (type_of% HI0) := HI0
  clear HI0
  clear h hg hb h0 h1 hbd
  go_enter Try.func79, Try.ntmps79
  go_upto_region 1 with fail
  refine wp_region_held_drew (S := fun _ => True) (by kernel_rfl) trivial (fun _ => ?_)
  refine wpAnyH_inv (Sd1A s k e w.drew) ?step ?fin _ _ _ _ HI.out (by decide)
  case fin =>
    intro l a W hI h0
    obtain ⟨hls, rfl, u5, u6, u7, u8, u9, u10, u11, u12, u13, u14, u15, u16, u17, u18, u19, u20, u21, u22, u23, u24, rfl, c0, c1, c2, c3, c4, c5, c6, c7, c8, c9, c10, c11, c12, c13, c14, c15, c16, c17, c18, c19⟩ := hI
    have b0 : l.getD 0 false = true := listed_of h0 0 _ (by omega) rfl (by intro e he; first | (simp at he; done) | skip; simp at he; (repeat (rcases he with rfl | he; · assumption)); all_goals (subst he; assumption))
    have b1 : l.getD 1 false = true := listed_of h0 1 _ (by omega) rfl (by intro e he; first | (simp at he; done) | skip; simp at he; (repeat (rcases he with rfl | he; · assumption)); all_goals (subst he; assumption))
    have b2 : l.getD 2 false = true := listed_of h0 2 _ (by omega) rfl (by intro e he; first | (simp at he; done) | skip; simp at he; (repeat (rcases he with rfl | he; · assumption)); all_goals (subst he; assumption))
    have b3 : l.getD 3 false = true := listed_of h0 3 _ (by omega) rfl (by intro e he; first | (simp at he; done) | skip; simp at he; (repeat (rcases he with rfl | he; · assumption)); all_goals (subst he; assumption))
    have b4 : l.getD 4 false = true := listed_of h0 4 _ (by omega) rfl (by intro e he; first | (simp at he; done) | skip; simp at he; (repeat (rcases he with rfl | he; · assumption)); all_goals (subst he; assumption))
    have b5 : l.getD 5 false = true := listed_of h0 5 _ (by omega) rfl (by intro e he; first | (simp at he; done) | skip; simp at he; (repeat (rcases he with rfl | he; · assumption)); all_goals (subst he; assumption))
    have b6 : l.getD 6 false = true := listed_of h0 6 _ (by omega) rfl (by intro e he; first | (simp at he; done) | skip; simp at he; (repeat (rcases he with rfl | he; · assumption)); all_goals (subst he; assumption))
    have b7 : l.getD 7 false = true := listed_of h0 7 _ (by omega) rfl (by intro e he; first | (simp at he; done) | skip; simp at he; (repeat (rcases he with rfl | he; · assumption)); all_goals (subst he; assumption))
    have b8 : l.getD 8 false = true := listed_of h0 8 _ (by omega) rfl (by intro e he; first | (simp at he; done) | skip; simp at he; (repeat (rcases he with rfl | he; · assumption)); all_goals (subst he; assumption))
    have b9 : l.getD 9 false = true := listed_of h0 9 _ (by omega) rfl (by intro e he; first | (simp at he; done) | skip; simp at he; (repeat (rcases he with rfl | he; · assumption)); all_goals (subst he; assumption))
    have b10 : l.getD 10 false = true := listed_of h0 10 _ (by omega) rfl (by intro e he; first | (simp at he; done) | skip; simp at he; (repeat (rcases he with rfl | he; · assumption)); all_goals (subst he; assumption))
    have b11 : l.getD 11 false = true := listed_of h0 11 _ (by omega) rfl (by intro e he; first | (simp at he; done) | skip; simp at he; (repeat (rcases he with rfl | he; · assumption)); all_goals (subst he; assumption))
    have b12 : l.getD 12 false = true := listed_of h0 12 _ (by omega) rfl (by intro e he; first | (simp at he; done) | skip; simp at he; (repeat (rcases he with rfl | he; · assumption)); all_goals (subst he; assumption))
    have b13 : l.getD 13 false = true := listed_of h0 13 _ (by omega) rfl (by intro e he; first | (simp at he; done) | skip; simp at he; (repeat (rcases he with rfl | he; · assumption)); all_goals (subst he; assumption))
    have b14 : l.getD 14 false = true := listed_of h0 14 _ (by omega) rfl (by intro e he; first | (simp at he; done) | skip; simp at he; (repeat (rcases he with rfl | he; · assumption)); all_goals (subst he; assumption))
    have b15 : l.getD 15 false = true := listed_of h0 15 _ (by omega) rfl (by intro e he; first | (simp at he; done) | skip; simp at he; (repeat (rcases he with rfl | he; · assumption)); all_goals (subst he; assumption))
    have b16 : l.getD 16 false = true := listed_of h0 16 _ (by omega) rfl (by intro e he; first | (simp at he; done) | skip; simp at he; (repeat (rcases he with rfl | he; · assumption)); all_goals (subst he; assumption))
    have b17 : l.getD 17 false = true := listed_of h0 17 _ (by omega) rfl (by intro e he; first | (simp at he; done) | skip; simp at he; (repeat (rcases he with rfl | he; · assumption)); all_goals (subst he; assumption))
    have b18 : l.getD 18 false = true := listed_of h0 18 _ (by omega) rfl (by intro e he; first | (simp at he; done) | skip; simp at he; (repeat (rcases he with rfl | he; · assumption)); all_goals (subst he; assumption))
    have b19 : l.getD 19 false = true := listed_of h0 19 _ (by omega) rfl (by intro e he; first | (simp at he; done) | skip; simp at he; (repeat (rcases he with rfl | he; · assumption)); all_goals (subst he; assumption))
    obtain rfl := c0 b0
    obtain rfl := c1 b1
    obtain rfl := c2 b2
    obtain rfl := c3 b3
    obtain rfl := c4 b4
    obtain rfl := c5 b5
    obtain rfl := c6 b6
    obtain rfl := c7 b7
    obtain rfl := c8 b8
    obtain rfl := c9 b9
    obtain rfl := c10 b10
    obtain rfl := c11 b11
    obtain rfl := c12 b12
    obtain rfl := c13 b13
    obtain rfl := c14 b14
    obtain rfl := c15 b15
    obtain rfl := c16 b16
    obtain rfl := c17 b17
    obtain rfl := c18 b18
    obtain rfl := c19 b19
    clear b0 b1 b2 b3 b4 b5 b6 b7 b8 b9 b10 b11 b12 b13 b14 b15 b16 b17 b18 b19 h0 hls
    (try dsimp only)
    go_wp2_with fail
    go_ret
    exact ⟨rfl, HE⟩
  case step =>
    intro l a W i hI hi K hK
    have hlt := ready_lt hi
    obtain ⟨hls, rfl, u5, u6, u7, u8, u9, u10, u11, u12, u13, u14, u15, u16, u17, u18, u19, u20, u21, u22, u23, u24, rfl, c0, c1, c2, c3, c4, c5, c6, c7, c8, c9, c10, c11, c12, c13, c14, c15, c16, c17, c18, c19⟩ := hI
    have hlt' : i < 20 := hlt
    rcases (show i = 0 ∨ i = 1 ∨ i = 2 ∨ i = 3 ∨ i = 4 ∨ i = 5 ∨ i = 6 ∨ i = 7 ∨ i = 8 ∨ i = 9 ∨ i = 10 ∨ i = 11 ∨ i = 12 ∨ i = 13 ∨ i = 14 ∨ i = 15 ∨ i = 16 ∨ i = 17 ∨ i = 18 ∨ i = 19 by omega) with rfl | rfl | rfl | rfl | rfl | rfl | rfl | rfl | rfl | rfl | rfl | rfl | rfl | rfl | rfl | rfl | rfl | rfl | rfl | rfl
    · -- 0
      refine wpOp_step rfl (fun K' hK' => ?_)
      have HK : Hid (∀ a w, K a w → K' a w) := hK'
      have HK2 : Hid (type_of% hK) := hK
      clear hK hK' 
      go_simp
      exact HK.out _ _ (HK2.out _ _ ⟨by simp [hls], rfl, _, _, _, _, _, _, _, _, _, _, _, _, _, _, _, _, _, _, _, _, rfl, fun _ => rfl, fun h => (c1 (getD_ne h (by decide))), fun h => (c2 (getD_ne h (by decide))), fun h => (c3 (getD_ne h (by decide))), fun h => (c4 (getD_ne h (by decide))), fun h => (c5 (getD_ne h (by decide))), fun h => (c6 (getD_ne h (by decide))), fun h => (c7 (getD_ne h (by decide))), fun h => (c8 (getD_ne h (by decide))), fun h => (c9 (getD_ne h (by decide))), fun h => (c10 (getD_ne h (by decide))), fun h => (c11 (getD_ne h (by decide))), fun h => (c12 (getD_ne h (by decide))), fun h => (c13 (getD_ne h (by decide))), fun h => (c14 (getD_ne h (by decide))), fun h => (c15 (getD_ne h (by decide))), fun h => (c16 (getD_ne h (by decide))), fun h => (c17 (getD_ne h (by decide))), fun h => (c18 (getD_ne h (by decide))), fun h => (c19 (getD_ne h (by decide)))⟩)
    · -- 1
      refine wpOp_step rfl (fun K' hK' => ?_)
      have HK : Hid (∀ a w, K a w → K' a w) := hK'
      have HK2 : Hid (type_of% hK) := hK
      clear hK hK' 
      go_simp
      exact HK.out _ _ (HK2.out _ _ ⟨by simp [hls], rfl, _, _, _, _, _, _, _, _, _, _, _, _, _, _, _, _, _, _, _, _, rfl, fun h => (c0 (getD_ne h (by decide))), fun _ => rfl, fun h => (c2 (getD_ne h (by decide))), fun h => (c3 (getD_ne h (by decide))), fun h => (c4 (getD_ne h (by decide))), fun h => (c5 (getD_ne h (by decide))), fun h => (c6 (getD_ne h (by decide))), fun h => (c7 (getD_ne h (by decide))), fun h => (c8 (getD_ne h (by decide))), fun h => (c9 (getD_ne h (by decide))), fun h => (c10 (getD_ne h (by decide))), fun h => (c11 (getD_ne h (by decide))), fun h => (c12 (getD_ne h (by decide))), fun h => (c13 (getD_ne h (by decide))), fun h => (c14 (getD_ne h (by decide))), fun h => (c15 (getD_ne h (by decide))), fun h => (c16 (getD_ne h (by decide))), fun h => (c17 (getD_ne h (by decide))), fun h => (c18 (getD_ne h (by decide))), fun h => (c19 (getD_ne h (by decide)))⟩)
    · -- 2
      obtain rfl := c1 (by have hd := ready_deps hi (o := _) rfl; exact hd ⟨1, .data⟩ (by simp) (by rfl))
      refine wpOp_step rfl (fun K' hK' => ?_)
      have HK : Hid (∀ a w, K a w → K' a w) := hK'
      have HK2 : Hid (type_of% hK) := hK
      clear hK hK' 
      go_simp
      exact HK.out _ _ (HK2.out _ _ ⟨by simp [hls], rfl, _, _, _, _, _, _, _, _, _, _, _, _, _, _, _, _, _, _, _, _, rfl, fun h => (c0 (getD_ne h (by decide))), fun h => (c1 (getD_ne h (by decide))), fun _ => rfl, fun h => (c3 (getD_ne h (by decide))), fun h => (c4 (getD_ne h (by decide))), fun h => (c5 (getD_ne h (by decide))), fun h => (c6 (getD_ne h (by decide))), fun h => (c7 (getD_ne h (by decide))), fun h => (c8 (getD_ne h (by decide))), fun h => (c9 (getD_ne h (by decide))), fun h => (c10 (getD_ne h (by decide))), fun h => (c11 (getD_ne h (by decide))), fun h => (c12 (getD_ne h (by decide))), fun h => (c13 (getD_ne h (by decide))), fun h => (c14 (getD_ne h (by decide))), fun h => (c15 (getD_ne h (by decide))), fun h => (c16 (getD_ne h (by decide))), fun h => (c17 (getD_ne h (by decide))), fun h => (c18 (getD_ne h (by decide))), fun h => (c19 (getD_ne h (by decide)))⟩)
    · -- 3
      obtain rfl := c2 (by have hd := ready_deps hi (o := _) rfl; exact hd ⟨2, .data⟩ (by simp) (by rfl))
      refine wpOp_step rfl (fun K' hK' => ?_)
      have HK : Hid (∀ a w, K a w → K' a w) := hK'
      have HK2 : Hid (type_of% hK) := hK
      clear hK hK' 
      go_simp
      exact HK.out _ _ (HK2.out _ _ ⟨by simp [hls], rfl, _, _, _, _, _, _, _, _, _, _, _, _, _, _, _, _, _, _, _, _, rfl, fun h => (c0 (getD_ne h (by decide))), fun h => (c1 (getD_ne h (by decide))), fun h => (c2 (getD_ne h (by decide))), fun _ => rfl, fun h => (c4 (getD_ne h (by decide))), fun h => (c5 (getD_ne h (by decide))), fun h => (c6 (getD_ne h (by decide))), fun h => (c7 (getD_ne h (by decide))), fun h => (c8 (getD_ne h (by decide))), fun h => (c9 (getD_ne h (by decide))), fun h => (c10 (getD_ne h (by decide))), fun h => (c11 (getD_ne h (by decide))), fun h => (c12 (getD_ne h (by decide))), fun h => (c13 (getD_ne h (by decide))), fun h => (c14 (getD_ne h (by decide))), fun h => (c15 (getD_ne h (by decide))), fun h => (c16 (getD_ne h (by decide))), fun h => (c17 (getD_ne h (by decide))), fun h => (c18 (getD_ne h (by decide))), fun h => (c19 (getD_ne h (by decide)))⟩)
    · -- 4
      obtain rfl := c3 (by have hd := ready_deps hi (o := _) rfl; exact hd ⟨3, .data⟩ (by simp) (by rfl))
      refine wpOp_step rfl (fun K' hK' => ?_)
      have HK : Hid (∀ a w, K a w → K' a w) := hK'
      have HK2 : Hid (type_of% hK) := hK
      clear hK hK' 
      go_simp
      go_at_call 80
      refine CN.out.mono ?_
      rintro e W9 ⟨rfl, hw9⟩
      have hw9 := hw9.symm
      subst hw9
      (try go_simp)
      exact HK.out _ _ (HK2.out _ _ ⟨by simp [hls], rfl, _, _, _, _, _, _, _, _, _, _, _, _, _, _, _, _, _, _, _, _, rfl, fun h => (c0 (getD_ne h (by decide))), fun h => (c1 (getD_ne h (by decide))), fun h => (c2 (getD_ne h (by decide))), fun h => (c3 (getD_ne h (by decide))), fun _ => rfl, fun h => (c5 (getD_ne h (by decide))), fun h => (c6 (getD_ne h (by decide))), fun h => (c7 (getD_ne h (by decide))), fun h => (c8 (getD_ne h (by decide))), fun h => (c9 (getD_ne h (by decide))), fun h => (c10 (getD_ne h (by decide))), fun h => (c11 (getD_ne h (by decide))), fun h => (c12 (getD_ne h (by decide))), fun h => (c13 (getD_ne h (by decide))), fun h => (c14 (getD_ne h (by decide))), fun h => (c15 (getD_ne h (by decide))), fun h => (c16 (getD_ne h (by decide))), fun h => (c17 (getD_ne h (by decide))), fun h => (c18 (getD_ne h (by decide))), fun h => (c19 (getD_ne h (by decide)))⟩)
    · -- 5
      obtain rfl := c0 (by have hd := ready_deps hi (o := _) rfl; exact hd ⟨0, .data⟩ (by simp) (by rfl))
      obtain rfl := c4 (by have hd := ready_deps hi (o := _) rfl; exact hd ⟨4, .data⟩ (by simp) (by rfl))
      refine wpOp_step rfl (fun K' hK' => ?_)
      have HK : Hid (∀ a w, K a w → K' a w) := hK'
      have HK2 : Hid (type_of% hK) := hK
      clear hK hK' 
      go_simp
      exact HK.out _ _ (HK2.out _ _ ⟨by simp [hls], rfl, _, _, _, _, _, _, _, _, _, _, _, _, _, _, _, _, _, _, _, _, rfl, fun h => (c0 (getD_ne h (by decide))), fun h => (c1 (getD_ne h (by decide))), fun h => (c2 (getD_ne h (by decide))), fun h => (c3 (getD_ne h (by decide))), fun h => (c4 (getD_ne h (by decide))), fun _ => rfl, fun h => (c6 (getD_ne h (by decide))), fun h => (c7 (getD_ne h (by decide))), fun h => (c8 (getD_ne h (by decide))), fun h => (c9 (getD_ne h (by decide))), fun h => (c10 (getD_ne h (by decide))), fun h => (c11 (getD_ne h (by decide))), fun h => (c12 (getD_ne h (by decide))), fun h => (c13 (getD_ne h (by decide))), fun h => (c14 (getD_ne h (by decide))), fun h => (c15 (getD_ne h (by decide))), fun h => (c16 (getD_ne h (by decide))), fun h => (c17 (getD_ne h (by decide))), fun h => (c18 (getD_ne h (by decide))), fun h => (c19 (getD_ne h (by decide)))⟩)
    · -- 6
      obtain rfl := c5 (by have hd := ready_deps hi (o := _) rfl; exact hd ⟨5, .data⟩ (by simp) (by rfl))
      obtain rfl := c4 (by have hd := ready_deps hi (o := _) rfl; exact hd ⟨4, .chain⟩ (by simp) (by rfl))
      refine wpOp_step rfl (fun K' hK' => ?_)
      have HK : Hid (∀ a w, K a w → K' a w) := hK'
      have HK2 : Hid (type_of% hK) := hK
      clear hK hK' 
      go_simp
      exact HK.out _ _ (HK2.out _ _ ⟨by simp [hls], rfl, _, _, _, _, _, _, _, _, _, _, _, _, _, _, _, _, _, _, _, _, rfl, fun h => (c0 (getD_ne h (by decide))), fun h => (c1 (getD_ne h (by decide))), fun h => (c2 (getD_ne h (by decide))), fun h => (c3 (getD_ne h (by decide))), fun h => (c4 (getD_ne h (by decide))), fun h => (c5 (getD_ne h (by decide))), fun _ => rfl, fun h => (c7 (getD_ne h (by decide))), fun h => (c8 (getD_ne h (by decide))), fun h => (c9 (getD_ne h (by decide))), fun h => (c10 (getD_ne h (by decide))), fun h => (c11 (getD_ne h (by decide))), fun h => (c12 (getD_ne h (by decide))), fun h => (c13 (getD_ne h (by decide))), fun h => (c14 (getD_ne h (by decide))), fun h => (c15 (getD_ne h (by decide))), fun h => (c16 (getD_ne h (by decide))), fun h => (c17 (getD_ne h (by decide))), fun h => (c18 (getD_ne h (by decide))), fun h => (c19 (getD_ne h (by decide)))⟩)
    · -- 7
      obtain rfl := c6 (by have hd := ready_deps hi (o := _) rfl; exact hd ⟨6, .guard⟩ (by simp) (by rfl))
      refine wpOp_step rfl (fun K' hK' => ?_)
      have HK : Hid (∀ a w, K a w → K' a w) := hK'
      have HK2 : Hid (type_of% hK) := hK
      clear hK hK' 
      rw [if_neg (by rw [show Region.wanted _ _ = false from rfl]; decide)]
      (try go_simp)
      exact HK.out _ _ (HK2.out _ _ ⟨by simp [hls], rfl, _, _, _, _, _, _, _, _, _, _, _, _, _, _, _, _, _, _, _, _, rfl, fun h => (c0 (getD_ne h (by decide))), fun h => (c1 (getD_ne h (by decide))), fun h => (c2 (getD_ne h (by decide))), fun h => (c3 (getD_ne h (by decide))), fun h => (c4 (getD_ne h (by decide))), fun h => (c5 (getD_ne h (by decide))), fun h => (c6 (getD_ne h (by decide))), fun _ => rfl, fun h => (c8 (getD_ne h (by decide))), fun h => (c9 (getD_ne h (by decide))), fun h => (c10 (getD_ne h (by decide))), fun h => (c11 (getD_ne h (by decide))), fun h => (c12 (getD_ne h (by decide))), fun h => (c13 (getD_ne h (by decide))), fun h => (c14 (getD_ne h (by decide))), fun h => (c15 (getD_ne h (by decide))), fun h => (c16 (getD_ne h (by decide))), fun h => (c17 (getD_ne h (by decide))), fun h => (c18 (getD_ne h (by decide))), fun h => (c19 (getD_ne h (by decide)))⟩)
    · -- 8
      obtain rfl := c6 (by have hd := ready_deps hi (o := _) rfl; exact hd ⟨6, .guard⟩ (by simp) (by rfl))
      refine wpOp_step rfl (fun K' hK' => ?_)
      have HK : Hid (∀ a w, K a w → K' a w) := hK'
      have HK2 : Hid (type_of% hK) := hK
      clear hK hK' 
      rw [if_neg (by rw [show Region.wanted _ _ = false from rfl]; decide)]
      (try go_simp)
      exact HK.out _ _ (HK2.out _ _ ⟨by simp [hls], rfl, _, _, _, _, _, _, _, _, _, _, _, _, _, _, _, _, _, _, _, _, rfl, fun h => (c0 (getD_ne h (by decide))), fun h => (c1 (getD_ne h (by decide))), fun h => (c2 (getD_ne h (by decide))), fun h => (c3 (getD_ne h (by decide))), fun h => (c4 (getD_ne h (by decide))), fun h => (c5 (getD_ne h (by decide))), fun h => (c6 (getD_ne h (by decide))), fun h => (c7 (getD_ne h (by decide))), fun _ => rfl, fun h => (c9 (getD_ne h (by decide))), fun h => (c10 (getD_ne h (by decide))), fun h => (c11 (getD_ne h (by decide))), fun h => (c12 (getD_ne h (by decide))), fun h => (c13 (getD_ne h (by decide))), fun h => (c14 (getD_ne h (by decide))), fun h => (c15 (getD_ne h (by decide))), fun h => (c16 (getD_ne h (by decide))), fun h => (c17 (getD_ne h (by decide))), fun h => (c18 (getD_ne h (by decide))), fun h => (c19 (getD_ne h (by decide)))⟩)
    · -- 9
      obtain rfl := c8 (by have hd := ready_deps hi (o := _) rfl; exact hd ⟨8, .data⟩ (by simp) (by rfl))
      obtain rfl := c6 (by have hd := ready_deps hi (o := _) rfl; exact hd ⟨6, .guard⟩ (by simp) (by rfl))
      refine wpOp_step rfl (fun K' hK' => ?_)
      have HK : Hid (∀ a w, K a w → K' a w) := hK'
      have HK2 : Hid (type_of% hK) := hK
      clear hK hK' 
      rw [if_neg (by rw [show Region.wanted _ _ = false from rfl]; decide)]
      (try go_simp)
      exact HK.out _ _ (HK2.out _ _ ⟨by simp [hls], rfl, _, _, _, _, _, _, _, _, _, _, _, _, _, _, _, _, _, _, _, _, rfl, fun h => (c0 (getD_ne h (by decide))), fun h => (c1 (getD_ne h (by decide))), fun h => (c2 (getD_ne h (by decide))), fun h => (c3 (getD_ne h (by decide))), fun h => (c4 (getD_ne h (by decide))), fun h => (c5 (getD_ne h (by decide))), fun h => (c6 (getD_ne h (by decide))), fun h => (c7 (getD_ne h (by decide))), fun h => (c8 (getD_ne h (by decide))), fun _ => rfl, fun h => (c10 (getD_ne h (by decide))), fun h => (c11 (getD_ne h (by decide))), fun h => (c12 (getD_ne h (by decide))), fun h => (c13 (getD_ne h (by decide))), fun h => (c14 (getD_ne h (by decide))), fun h => (c15 (getD_ne h (by decide))), fun h => (c16 (getD_ne h (by decide))), fun h => (c17 (getD_ne h (by decide))), fun h => (c18 (getD_ne h (by decide))), fun h => (c19 (getD_ne h (by decide)))⟩)
    · -- 10
      obtain rfl := c9 (by have hd := ready_deps hi (o := _) rfl; exact hd ⟨9, .data⟩ (by simp) (by rfl))
      obtain rfl := c6 (by have hd := ready_deps hi (o := _) rfl; exact hd ⟨6, .guard⟩ (by simp) (by rfl))
      refine wpOp_step rfl (fun K' hK' => ?_)
      have HK : Hid (∀ a w, K a w → K' a w) := hK'
      have HK2 : Hid (type_of% hK) := hK
      clear hK hK' 
      rw [if_neg (by rw [show Region.wanted _ _ = false from rfl]; decide)]
      (try go_simp)
      exact HK.out _ _ (HK2.out _ _ ⟨by simp [hls], rfl, _, _, _, _, _, _, _, _, _, _, _, _, _, _, _, _, _, _, _, _, rfl, fun h => (c0 (getD_ne h (by decide))), fun h => (c1 (getD_ne h (by decide))), fun h => (c2 (getD_ne h (by decide))), fun h => (c3 (getD_ne h (by decide))), fun h => (c4 (getD_ne h (by decide))), fun h => (c5 (getD_ne h (by decide))), fun h => (c6 (getD_ne h (by decide))), fun h => (c7 (getD_ne h (by decide))), fun h => (c8 (getD_ne h (by decide))), fun h => (c9 (getD_ne h (by decide))), fun _ => rfl, fun h => (c11 (getD_ne h (by decide))), fun h => (c12 (getD_ne h (by decide))), fun h => (c13 (getD_ne h (by decide))), fun h => (c14 (getD_ne h (by decide))), fun h => (c15 (getD_ne h (by decide))), fun h => (c16 (getD_ne h (by decide))), fun h => (c17 (getD_ne h (by decide))), fun h => (c18 (getD_ne h (by decide))), fun h => (c19 (getD_ne h (by decide)))⟩)
    · -- 11
      obtain rfl := c10 (by have hd := ready_deps hi (o := _) rfl; exact hd ⟨10, .data⟩ (by simp) (by rfl))
      obtain rfl := c6 (by have hd := ready_deps hi (o := _) rfl; exact hd ⟨6, .chain⟩ (by simp) (by rfl))
      refine wpOp_step rfl (fun K' hK' => ?_)
      have HK : Hid (∀ a w, K a w → K' a w) := hK'
      have HK2 : Hid (type_of% hK) := hK
      clear hK hK' 
      rw [if_neg (by rw [show Region.wanted _ _ = false from rfl]; decide)]
      (try go_simp)
      exact HK.out _ _ (HK2.out _ _ ⟨by simp [hls], rfl, _, _, _, _, _, _, _, _, _, _, _, _, _, _, _, _, _, _, _, _, rfl, fun h => (c0 (getD_ne h (by decide))), fun h => (c1 (getD_ne h (by decide))), fun h => (c2 (getD_ne h (by decide))), fun h => (c3 (getD_ne h (by decide))), fun h => (c4 (getD_ne h (by decide))), fun h => (c5 (getD_ne h (by decide))), fun h => (c6 (getD_ne h (by decide))), fun h => (c7 (getD_ne h (by decide))), fun h => (c8 (getD_ne h (by decide))), fun h => (c9 (getD_ne h (by decide))), fun h => (c10 (getD_ne h (by decide))), fun _ => rfl, fun h => (c12 (getD_ne h (by decide))), fun h => (c13 (getD_ne h (by decide))), fun h => (c14 (getD_ne h (by decide))), fun h => (c15 (getD_ne h (by decide))), fun h => (c16 (getD_ne h (by decide))), fun h => (c17 (getD_ne h (by decide))), fun h => (c18 (getD_ne h (by decide))), fun h => (c19 (getD_ne h (by decide)))⟩)
    · -- 12
      obtain rfl := c6 (by have hd := ready_deps hi (o := _) rfl; exact hd ⟨6, .guard⟩ (by simp) (by rfl))
      refine wpOp_step rfl (fun K' hK' => ?_)
      have HK : Hid (∀ a w, K a w → K' a w) := hK'
      have HK2 : Hid (type_of% hK) := hK
      clear hK hK' 
      rw [if_neg (by rw [show Region.wanted _ _ = false from rfl]; decide)]
      (try go_simp)
      exact HK.out _ _ (HK2.out _ _ ⟨by simp [hls], rfl, _, _, _, _, _, _, _, _, _, _, _, _, _, _, _, _, _, _, _, _, rfl, fun h => (c0 (getD_ne h (by decide))), fun h => (c1 (getD_ne h (by decide))), fun h => (c2 (getD_ne h (by decide))), fun h => (c3 (getD_ne h (by decide))), fun h => (c4 (getD_ne h (by decide))), fun h => (c5 (getD_ne h (by decide))), fun h => (c6 (getD_ne h (by decide))), fun h => (c7 (getD_ne h (by decide))), fun h => (c8 (getD_ne h (by decide))), fun h => (c9 (getD_ne h (by decide))), fun h => (c10 (getD_ne h (by decide))), fun h => (c11 (getD_ne h (by decide))), fun _ => rfl, fun h => (c13 (getD_ne h (by decide))), fun h => (c14 (getD_ne h (by decide))), fun h => (c15 (getD_ne h (by decide))), fun h => (c16 (getD_ne h (by decide))), fun h => (c17 (getD_ne h (by decide))), fun h => (c18 (getD_ne h (by decide))), fun h => (c19 (getD_ne h (by decide)))⟩)
    · -- 13
      obtain rfl := c12 (by have hd := ready_deps hi (o := _) rfl; exact hd ⟨12, .data⟩ (by simp) (by rfl))
      obtain rfl := c6 (by have hd := ready_deps hi (o := _) rfl; exact hd ⟨6, .guard⟩ (by simp) (by rfl))
      refine wpOp_step rfl (fun K' hK' => ?_)
      have HK : Hid (∀ a w, K a w → K' a w) := hK'
      have HK2 : Hid (type_of% hK) := hK
      clear hK hK' 
      rw [if_neg (by rw [show Region.wanted _ _ = false from rfl]; decide)]
      (try go_simp)
      exact HK.out _ _ (HK2.out _ _ ⟨by simp [hls], rfl, _, _, _, _, _, _, _, _, _, _, _, _, _, _, _, _, _, _, _, _, rfl, fun h => (c0 (getD_ne h (by decide))), fun h => (c1 (getD_ne h (by decide))), fun h => (c2 (getD_ne h (by decide))), fun h => (c3 (getD_ne h (by decide))), fun h => (c4 (getD_ne h (by decide))), fun h => (c5 (getD_ne h (by decide))), fun h => (c6 (getD_ne h (by decide))), fun h => (c7 (getD_ne h (by decide))), fun h => (c8 (getD_ne h (by decide))), fun h => (c9 (getD_ne h (by decide))), fun h => (c10 (getD_ne h (by decide))), fun h => (c11 (getD_ne h (by decide))), fun h => (c12 (getD_ne h (by decide))), fun _ => rfl, fun h => (c14 (getD_ne h (by decide))), fun h => (c15 (getD_ne h (by decide))), fun h => (c16 (getD_ne h (by decide))), fun h => (c17 (getD_ne h (by decide))), fun h => (c18 (getD_ne h (by decide))), fun h => (c19 (getD_ne h (by decide)))⟩)
    · -- 14
      obtain rfl := c13 (by have hd := ready_deps hi (o := _) rfl; exact hd ⟨13, .data⟩ (by simp) (by rfl))
      obtain rfl := c6 (by have hd := ready_deps hi (o := _) rfl; exact hd ⟨6, .guard⟩ (by simp) (by rfl))
      refine wpOp_step rfl (fun K' hK' => ?_)
      have HK : Hid (∀ a w, K a w → K' a w) := hK'
      have HK2 : Hid (type_of% hK) := hK
      clear hK hK' 
      rw [if_neg (by rw [show Region.wanted _ _ = false from rfl]; decide)]
      (try go_simp)
      exact HK.out _ _ (HK2.out _ _ ⟨by simp [hls], rfl, _, _, _, _, _, _, _, _, _, _, _, _, _, _, _, _, _, _, _, _, rfl, fun h => (c0 (getD_ne h (by decide))), fun h => (c1 (getD_ne h (by decide))), fun h => (c2 (getD_ne h (by decide))), fun h => (c3 (getD_ne h (by decide))), fun h => (c4 (getD_ne h (by decide))), fun h => (c5 (getD_ne h (by decide))), fun h => (c6 (getD_ne h (by decide))), fun h => (c7 (getD_ne h (by decide))), fun h => (c8 (getD_ne h (by decide))), fun h => (c9 (getD_ne h (by decide))), fun h => (c10 (getD_ne h (by decide))), fun h => (c11 (getD_ne h (by decide))), fun h => (c12 (getD_ne h (by decide))), fun h => (c13 (getD_ne h (by decide))), fun _ => rfl, fun h => (c15 (getD_ne h (by decide))), fun h => (c16 (getD_ne h (by decide))), fun h => (c17 (getD_ne h (by decide))), fun h => (c18 (getD_ne h (by decide))), fun h => (c19 (getD_ne h (by decide)))⟩)
    · -- 15
      obtain rfl := c14 (by have hd := ready_deps hi (o := _) rfl; exact hd ⟨14, .data⟩ (by simp) (by rfl))
      obtain rfl := c6 (by have hd := ready_deps hi (o := _) rfl; exact hd ⟨6, .guard⟩ (by simp) (by rfl))
      refine wpOp_step rfl (fun K' hK' => ?_)
      have HK : Hid (∀ a w, K a w → K' a w) := hK'
      have HK2 : Hid (type_of% hK) := hK
      clear hK hK' 
      rw [if_neg (by rw [show Region.wanted _ _ = false from rfl]; decide)]
      (try go_simp)
      exact HK.out _ _ (HK2.out _ _ ⟨by simp [hls], rfl, _, _, _, _, _, _, _, _, _, _, _, _, _, _, _, _, _, _, _, _, rfl, fun h => (c0 (getD_ne h (by decide))), fun h => (c1 (getD_ne h (by decide))), fun h => (c2 (getD_ne h (by decide))), fun h => (c3 (getD_ne h (by decide))), fun h => (c4 (getD_ne h (by decide))), fun h => (c5 (getD_ne h (by decide))), fun h => (c6 (getD_ne h (by decide))), fun h => (c7 (getD_ne h (by decide))), fun h => (c8 (getD_ne h (by decide))), fun h => (c9 (getD_ne h (by decide))), fun h => (c10 (getD_ne h (by decide))), fun h => (c11 (getD_ne h (by decide))), fun h => (c12 (getD_ne h (by decide))), fun h => (c13 (getD_ne h (by decide))), fun h => (c14 (getD_ne h (by decide))), fun _ => rfl, fun h => (c16 (getD_ne h (by decide))), fun h => (c17 (getD_ne h (by decide))), fun h => (c18 (getD_ne h (by decide))), fun h => (c19 (getD_ne h (by decide)))⟩)
    · -- 16
      obtain rfl := c15 (by have hd := ready_deps hi (o := _) rfl; exact hd ⟨15, .data⟩ (by simp) (by rfl))
      obtain rfl := c6 (by have hd := ready_deps hi (o := _) rfl; exact hd ⟨6, .guard⟩ (by simp) (by rfl))
      refine wpOp_step rfl (fun K' hK' => ?_)
      have HK : Hid (∀ a w, K a w → K' a w) := hK'
      have HK2 : Hid (type_of% hK) := hK
      clear hK hK' 
      rw [if_neg (by rw [show Region.wanted _ _ = false from rfl]; decide)]
      (try go_simp)
      exact HK.out _ _ (HK2.out _ _ ⟨by simp [hls], rfl, _, _, _, _, _, _, _, _, _, _, _, _, _, _, _, _, _, _, _, _, rfl, fun h => (c0 (getD_ne h (by decide))), fun h => (c1 (getD_ne h (by decide))), fun h => (c2 (getD_ne h (by decide))), fun h => (c3 (getD_ne h (by decide))), fun h => (c4 (getD_ne h (by decide))), fun h => (c5 (getD_ne h (by decide))), fun h => (c6 (getD_ne h (by decide))), fun h => (c7 (getD_ne h (by decide))), fun h => (c8 (getD_ne h (by decide))), fun h => (c9 (getD_ne h (by decide))), fun h => (c10 (getD_ne h (by decide))), fun h => (c11 (getD_ne h (by decide))), fun h => (c12 (getD_ne h (by decide))), fun h => (c13 (getD_ne h (by decide))), fun h => (c14 (getD_ne h (by decide))), fun h => (c15 (getD_ne h (by decide))), fun _ => rfl, fun h => (c17 (getD_ne h (by decide))), fun h => (c18 (getD_ne h (by decide))), fun h => (c19 (getD_ne h (by decide)))⟩)
    · -- 17
      obtain rfl := c11 (by have hd := ready_deps hi (o := _) rfl; exact hd ⟨11, .data⟩ (by simp) (by rfl))
      obtain rfl := c16 (by have hd := ready_deps hi (o := _) rfl; exact hd ⟨16, .data⟩ (by simp) (by rfl))
      obtain rfl := c6 (by have hd := ready_deps hi (o := _) rfl; exact hd ⟨6, .guard⟩ (by simp) (by rfl))
      refine wpOp_step rfl (fun K' hK' => ?_)
      have HK : Hid (∀ a w, K a w → K' a w) := hK'
      have HK2 : Hid (type_of% hK) := hK
      clear hK hK' 
      rw [if_neg (by rw [show Region.wanted _ _ = false from rfl]; decide)]
      (try go_simp)
      exact HK.out _ _ (HK2.out _ _ ⟨by simp [hls], rfl, _, _, _, _, _, _, _, _, _, _, _, _, _, _, _, _, _, _, _, _, rfl, fun h => (c0 (getD_ne h (by decide))), fun h => (c1 (getD_ne h (by decide))), fun h => (c2 (getD_ne h (by decide))), fun h => (c3 (getD_ne h (by decide))), fun h => (c4 (getD_ne h (by decide))), fun h => (c5 (getD_ne h (by decide))), fun h => (c6 (getD_ne h (by decide))), fun h => (c7 (getD_ne h (by decide))), fun h => (c8 (getD_ne h (by decide))), fun h => (c9 (getD_ne h (by decide))), fun h => (c10 (getD_ne h (by decide))), fun h => (c11 (getD_ne h (by decide))), fun h => (c12 (getD_ne h (by decide))), fun h => (c13 (getD_ne h (by decide))), fun h => (c14 (getD_ne h (by decide))), fun h => (c15 (getD_ne h (by decide))), fun h => (c16 (getD_ne h (by decide))), fun _ => rfl, fun h => (c18 (getD_ne h (by decide))), fun h => (c19 (getD_ne h (by decide)))⟩)
    · -- 18
      obtain rfl := c7 (by have hd := ready_deps hi (o := _) rfl; exact hd ⟨7, .data⟩ (by simp) (by rfl))
      obtain rfl := c17 (by have hd := ready_deps hi (o := _) rfl; exact hd ⟨17, .data⟩ (by simp) (by rfl))
      obtain rfl := c6 (by have hd := ready_deps hi (o := _) rfl; exact hd ⟨6, .guard⟩ (by simp) (by rfl))
      refine wpOp_step rfl (fun K' hK' => ?_)
      have HK : Hid (∀ a w, K a w → K' a w) := hK'
      have HK2 : Hid (type_of% hK) := hK
      clear hK hK' 
      rw [if_neg (by rw [show Region.wanted _ _ = false from rfl]; decide)]
      (try go_simp)
      exact HK.out _ _ (HK2.out _ _ ⟨by simp [hls], rfl, _, _, _, _, _, _, _, _, _, _, _, _, _, _, _, _, _, _, _, _, rfl, fun h => (c0 (getD_ne h (by decide))), fun h => (c1 (getD_ne h (by decide))), fun h => (c2 (getD_ne h (by decide))), fun h => (c3 (getD_ne h (by decide))), fun h => (c4 (getD_ne h (by decide))), fun h => (c5 (getD_ne h (by decide))), fun h => (c6 (getD_ne h (by decide))), fun h => (c7 (getD_ne h (by decide))), fun h => (c8 (getD_ne h (by decide))), fun h => (c9 (getD_ne h (by decide))), fun h => (c10 (getD_ne h (by decide))), fun h => (c11 (getD_ne h (by decide))), fun h => (c12 (getD_ne h (by decide))), fun h => (c13 (getD_ne h (by decide))), fun h => (c14 (getD_ne h (by decide))), fun h => (c15 (getD_ne h (by decide))), fun h => (c16 (getD_ne h (by decide))), fun h => (c17 (getD_ne h (by decide))), fun _ => rfl, fun h => (c19 (getD_ne h (by decide)))⟩)
    · -- 19
      obtain rfl := c6 (by have hd := ready_deps hi (o := _) rfl; exact hd ⟨6, .data⟩ (by simp) (by rfl))
      obtain rfl := c18 (by have hd := ready_deps hi (o := _) rfl; exact hd ⟨18, .data⟩ (by simp) (by rfl))
      refine wpOp_step rfl (fun K' hK' => ?_)
      have HK : Hid (∀ a w, K a w → K' a w) := hK'
      have HK2 : Hid (type_of% hK) := hK
      clear hK hK' 
      go_simp
      exact HK.out _ _ (HK2.out _ _ ⟨by simp [hls], rfl, _, _, _, _, _, _, _, _, _, _, _, _, _, _, _, _, _, _, _, _, rfl, fun h => (c0 (getD_ne h (by decide))), fun h => (c1 (getD_ne h (by decide))), fun h => (c2 (getD_ne h (by decide))), fun h => (c3 (getD_ne h (by decide))), fun h => (c4 (getD_ne h (by decide))), fun h => (c5 (getD_ne h (by decide))), fun h => (c6 (getD_ne h (by decide))), fun h => (c7 (getD_ne h (by decide))), fun h => (c8 (getD_ne h (by decide))), fun h => (c9 (getD_ne h (by decide))), fun h => (c10 (getD_ne h (by decide))), fun h => (c11 (getD_ne h (by decide))), fun h => (c12 (getD_ne h (by decide))), fun h => (c13 (getD_ne h (by decide))), fun h => (c14 (getD_ne h (by decide))), fun h => (c15 (getD_ne h (by decide))), fun h => (c16 (getD_ne h (by decide))), fun h => (c17 (getD_ne h (by decide))), fun h => (c18 (getD_ne h (by decide))), fun _ => rfl⟩)

set_option maxRecDepth 100000 in
set_option maxHeartbeats 8000000 in
theorem sendC (s : Ses) (k : Int) (e B : Nat) (ai : Option Addr) (ci : Nat) (vw va : Value) (w : World) (h : Ex w e B s (.slice ai s.items.length ci) vw va) (hg : Gd s) (hb : s.base ≤ k) (hk : ¬ (k < s.base + 4 ∧ k < (s.items.length : Int))) :
    Calls Try.prog 79 #[.pointer (some ⟨e, 0, none⟩), .int .i64 k] w fun r w' => r = .returned (.bool false) ∧ Hid (Ex w' e B s (.slice ai s.items.length ci) vw va ∧ Tch w w' (PX e (.slice ai s.items.length ci) vw va) (PX e (.slice ai s.items.length ci) vw va)) := by
  have hbd : Below w.heap.size w w.drew := (Below.refl _ w).drew
  have HXd : Hid (Ex w.drew e B s (.slice ai s.items.length ci) vw va) := h.below hbd
  have HTd : Hid (Tch w w.drew (PX e (.slice ai s.items.length ci) vw va) (PX e (.slice ai s.items.length ci) vw va)) := .of_below hbd
  have h0 := hg.b0
  have h1 : s.base ≤ 100 := by have a := hg.b1; have b := hg.hl; have c := hg.il; omega
  have x1 := HXd.out.v.c1
  have x3 := HXd.out.v.c3
  have CN : Hid (Calls Try.prog 80 #[.pointer (some ⟨e, 1, none⟩)] w.drew fun r w' => r = .returned (.int .i64 s.base) ∧ w' = w.drew) := now_any e 1 s.base _ HXd.out.v.c1
  have CW : Hid (Calls Try.prog 93 #[.int .i64 s.base, .int .i64 (s.items.length : Int)] w.drew fun r w' => r = .returned (.int .i64 (min (s.base + 4) (s.items.length : Int))) ∧ w' = w.drew) := windowEnd_any s.base _ w.drew (by omega) (by omega)
  have hq : decide (k < s.base) = false := decide_eq_false (by omega)
  have hq2 : decide (min (s.base + 4) (s.items.length : Int) ≤ k) = true := decide_eq_true (by omega)
  have HE : Hid (Ex w.drew e B s (.slice ai s.items.length ci) vw va ∧ Tch w w.drew (PX e (.slice ai s.items.length ci) vw va) (PX e (.slice ai s.items.length ci) vw va)) := ⟨HXd.out, HTd.out⟩
  have HI0 : Sd1C s k e ai ci w.drew (Array.replicate 20 false) ⟨#[.pointer (some ⟨e, 0, none⟩), .int .i64 k, undef, undef, .bool false, undef, undef, undef, undef, undef, undef, undef, undef, undef, undef, undef, undef, undef, undef, undef, undef, undef, undef, undef, undef, undef, undef, undef, undef, undef, undef, undef, undef, undef, undef, undef, undef, undef, undef, undef, undef, undef], []⟩ w.drew := by
    refine ⟨by simp, rfl, _, _, _, _, _, _, _, _, _, _, _, _, _, _, _, _, _, _, _, _, rfl, ?_, ?_, ?_, ?_, ?_, ?_, ?_, ?_, ?_, ?_, ?_, ?_, ?_, ?_, ?_, ?_, ?_, ?_, ?_, ?_⟩
    all_goals
      intro h
      exact absurd h (by decide)
  have HI : Hid (type_of% HI0) := HI0
  clear HI0
  clear h hg hb hk h0 h1 hbd
  go_enter Try.func79, Try.ntmps79
  go_upto_region 1 with fail
  refine wp_region_held_drew (S := fun _ => True) (by kernel_rfl) trivial (fun _ => ?_)
  refine wpAnyH_inv (Sd1C s k e ai ci w.drew) ?step ?fin _ _ _ _ HI.out (by decide)
  case fin =>
    intro l a W hI h0
    obtain ⟨hls, rfl, u5, u6, u7, u8, u9, u10, u11, u12, u13, u14, u15, u16, u17, u18, u19, u20, u21, u22, u23, u24, rfl, c0, c1, c2, c3, c4, c5, c6, c7, c8, c9, c10, c11, c12, c13, c14, c15, c16, c17, c18, c19⟩ := hI
    have b0 : l.getD 0 false = true := listed_of h0 0 _ (by omega) rfl (by intro e he; first | (simp at he; done) | skip; simp at he; (repeat (rcases he with rfl | he; · assumption)); all_goals (subst he; assumption))
    have b1 : l.getD 1 false = true := listed_of h0 1 _ (by omega) rfl (by intro e he; first | (simp at he; done) | skip; simp at he; (repeat (rcases he with rfl | he; · assumption)); all_goals (subst he; assumption))
    have b2 : l.getD 2 false = true := listed_of h0 2 _ (by omega) rfl (by intro e he; first | (simp at he; done) | skip; simp at he; (repeat (rcases he with rfl | he; · assumption)); all_goals (subst he; assumption))
    have b3 : l.getD 3 false = true := listed_of h0 3 _ (by omega) rfl (by intro e he; first | (simp at he; done) | skip; simp at he; (repeat (rcases he with rfl | he; · assumption)); all_goals (subst he; assumption))
    have b4 : l.getD 4 false = true := listed_of h0 4 _ (by omega) rfl (by intro e he; first | (simp at he; done) | skip; simp at he; (repeat (rcases he with rfl | he; · assumption)); all_goals (subst he; assumption))
    have b5 : l.getD 5 false = true := listed_of h0 5 _ (by omega) rfl (by intro e he; first | (simp at he; done) | skip; simp at he; (repeat (rcases he with rfl | he; · assumption)); all_goals (subst he; assumption))
    have b6 : l.getD 6 false = true := listed_of h0 6 _ (by omega) rfl (by intro e he; first | (simp at he; done) | skip; simp at he; (repeat (rcases he with rfl | he; · assumption)); all_goals (subst he; assumption))
    have b7 : l.getD 7 false = true := listed_of h0 7 _ (by omega) rfl (by intro e he; first | (simp at he; done) | skip; simp at he; (repeat (rcases he with rfl | he; · assumption)); all_goals (subst he; assumption))
    have b8 : l.getD 8 false = true := listed_of h0 8 _ (by omega) rfl (by intro e he; first | (simp at he; done) | skip; simp at he; (repeat (rcases he with rfl | he; · assumption)); all_goals (subst he; assumption))
    have b9 : l.getD 9 false = true := listed_of h0 9 _ (by omega) rfl (by intro e he; first | (simp at he; done) | skip; simp at he; (repeat (rcases he with rfl | he; · assumption)); all_goals (subst he; assumption))
    have b10 : l.getD 10 false = true := listed_of h0 10 _ (by omega) rfl (by intro e he; first | (simp at he; done) | skip; simp at he; (repeat (rcases he with rfl | he; · assumption)); all_goals (subst he; assumption))
    have b11 : l.getD 11 false = true := listed_of h0 11 _ (by omega) rfl (by intro e he; first | (simp at he; done) | skip; simp at he; (repeat (rcases he with rfl | he; · assumption)); all_goals (subst he; assumption))
    have b12 : l.getD 12 false = true := listed_of h0 12 _ (by omega) rfl (by intro e he; first | (simp at he; done) | skip; simp at he; (repeat (rcases he with rfl | he; · assumption)); all_goals (subst he; assumption))
    have b13 : l.getD 13 false = true := listed_of h0 13 _ (by omega) rfl (by intro e he; first | (simp at he; done) | skip; simp at he; (repeat (rcases he with rfl | he; · assumption)); all_goals (subst he; assumption))
    have b14 : l.getD 14 false = true := listed_of h0 14 _ (by omega) rfl (by intro e he; first | (simp at he; done) | skip; simp at he; (repeat (rcases he with rfl | he; · assumption)); all_goals (subst he; assumption))
    have b15 : l.getD 15 false = true := listed_of h0 15 _ (by omega) rfl (by intro e he; first | (simp at he; done) | skip; simp at he; (repeat (rcases he with rfl | he; · assumption)); all_goals (subst he; assumption))
    have b16 : l.getD 16 false = true := listed_of h0 16 _ (by omega) rfl (by intro e he; first | (simp at he; done) | skip; simp at he; (repeat (rcases he with rfl | he; · assumption)); all_goals (subst he; assumption))
    have b17 : l.getD 17 false = true := listed_of h0 17 _ (by omega) rfl (by intro e he; first | (simp at he; done) | skip; simp at he; (repeat (rcases he with rfl | he; · assumption)); all_goals (subst he; assumption))
    have b18 : l.getD 18 false = true := listed_of h0 18 _ (by omega) rfl (by intro e he; first | (simp at he; done) | skip; simp at he; (repeat (rcases he with rfl | he; · assumption)); all_goals (subst he; assumption))
    have b19 : l.getD 19 false = true := listed_of h0 19 _ (by omega) rfl (by intro e he; first | (simp at he; done) | skip; simp at he; (repeat (rcases he with rfl | he; · assumption)); all_goals (subst he; assumption))
    obtain rfl := c0 b0
    obtain rfl := c1 b1
    obtain rfl := c2 b2
    obtain rfl := c3 b3
    obtain rfl := c4 b4
    obtain rfl := c5 b5
    obtain rfl := c6 b6
    obtain rfl := c7 b7
    obtain rfl := c8 b8
    obtain rfl := c9 b9
    obtain rfl := c10 b10
    obtain rfl := c11 b11
    obtain rfl := c12 b12
    obtain rfl := c13 b13
    obtain rfl := c14 b14
    obtain rfl := c15 b15
    obtain rfl := c16 b16
    obtain rfl := c17 b17
    obtain rfl := c18 b18
    obtain rfl := c19 b19
    clear b0 b1 b2 b3 b4 b5 b6 b7 b8 b9 b10 b11 b12 b13 b14 b15 b16 b17 b18 b19 h0 hls
    (try dsimp only)
    go_wp2_with fail
    go_ret
    exact ⟨rfl, HE⟩
  case step =>
    intro l a W i hI hi K hK
    have hlt := ready_lt hi
    obtain ⟨hls, rfl, u5, u6, u7, u8, u9, u10, u11, u12, u13, u14, u15, u16, u17, u18, u19, u20, u21, u22, u23, u24, rfl, c0, c1, c2, c3, c4, c5, c6, c7, c8, c9, c10, c11, c12, c13, c14, c15, c16, c17, c18, c19⟩ := hI
    have hlt' : i < 20 := hlt
    rcases (show i = 0 ∨ i = 1 ∨ i = 2 ∨ i = 3 ∨ i = 4 ∨ i = 5 ∨ i = 6 ∨ i = 7 ∨ i = 8 ∨ i = 9 ∨ i = 10 ∨ i = 11 ∨ i = 12 ∨ i = 13 ∨ i = 14 ∨ i = 15 ∨ i = 16 ∨ i = 17 ∨ i = 18 ∨ i = 19 by omega) with rfl | rfl | rfl | rfl | rfl | rfl | rfl | rfl | rfl | rfl | rfl | rfl | rfl | rfl | rfl | rfl | rfl | rfl | rfl | rfl
    · -- 0
      refine wpOp_step rfl (fun K' hK' => ?_)
      have HK : Hid (∀ a w, K a w → K' a w) := hK'
      have HK2 : Hid (type_of% hK) := hK
      clear hK hK' 
      go_simp
      exact HK.out _ _ (HK2.out _ _ ⟨by simp [hls], rfl, _, _, _, _, _, _, _, _, _, _, _, _, _, _, _, _, _, _, _, _, rfl, fun _ => rfl, fun h => (c1 (getD_ne h (by decide))), fun h => (c2 (getD_ne h (by decide))), fun h => (c3 (getD_ne h (by decide))), fun h => (c4 (getD_ne h (by decide))), fun h => (c5 (getD_ne h (by decide))), fun h => (c6 (getD_ne h (by decide))), fun h => (c7 (getD_ne h (by decide))), fun h => (c8 (getD_ne h (by decide))), fun h => (c9 (getD_ne h (by decide))), fun h => (c10 (getD_ne h (by decide))), fun h => (c11 (getD_ne h (by decide))), fun h => (c12 (getD_ne h (by decide))), fun h => (c13 (getD_ne h (by decide))), fun h => (c14 (getD_ne h (by decide))), fun h => (c15 (getD_ne h (by decide))), fun h => (c16 (getD_ne h (by decide))), fun h => (c17 (getD_ne h (by decide))), fun h => (c18 (getD_ne h (by decide))), fun h => (c19 (getD_ne h (by decide)))⟩)
    · -- 1
      refine wpOp_step rfl (fun K' hK' => ?_)
      have HK : Hid (∀ a w, K a w → K' a w) := hK'
      have HK2 : Hid (type_of% hK) := hK
      clear hK hK' 
      go_simp
      exact HK.out _ _ (HK2.out _ _ ⟨by simp [hls], rfl, _, _, _, _, _, _, _, _, _, _, _, _, _, _, _, _, _, _, _, _, rfl, fun h => (c0 (getD_ne h (by decide))), fun _ => rfl, fun h => (c2 (getD_ne h (by decide))), fun h => (c3 (getD_ne h (by decide))), fun h => (c4 (getD_ne h (by decide))), fun h => (c5 (getD_ne h (by decide))), fun h => (c6 (getD_ne h (by decide))), fun h => (c7 (getD_ne h (by decide))), fun h => (c8 (getD_ne h (by decide))), fun h => (c9 (getD_ne h (by decide))), fun h => (c10 (getD_ne h (by decide))), fun h => (c11 (getD_ne h (by decide))), fun h => (c12 (getD_ne h (by decide))), fun h => (c13 (getD_ne h (by decide))), fun h => (c14 (getD_ne h (by decide))), fun h => (c15 (getD_ne h (by decide))), fun h => (c16 (getD_ne h (by decide))), fun h => (c17 (getD_ne h (by decide))), fun h => (c18 (getD_ne h (by decide))), fun h => (c19 (getD_ne h (by decide)))⟩)
    · -- 2
      obtain rfl := c1 (by have hd := ready_deps hi (o := _) rfl; exact hd ⟨1, .data⟩ (by simp) (by rfl))
      refine wpOp_step rfl (fun K' hK' => ?_)
      have HK : Hid (∀ a w, K a w → K' a w) := hK'
      have HK2 : Hid (type_of% hK) := hK
      clear hK hK' 
      go_simp
      exact HK.out _ _ (HK2.out _ _ ⟨by simp [hls], rfl, _, _, _, _, _, _, _, _, _, _, _, _, _, _, _, _, _, _, _, _, rfl, fun h => (c0 (getD_ne h (by decide))), fun h => (c1 (getD_ne h (by decide))), fun _ => rfl, fun h => (c3 (getD_ne h (by decide))), fun h => (c4 (getD_ne h (by decide))), fun h => (c5 (getD_ne h (by decide))), fun h => (c6 (getD_ne h (by decide))), fun h => (c7 (getD_ne h (by decide))), fun h => (c8 (getD_ne h (by decide))), fun h => (c9 (getD_ne h (by decide))), fun h => (c10 (getD_ne h (by decide))), fun h => (c11 (getD_ne h (by decide))), fun h => (c12 (getD_ne h (by decide))), fun h => (c13 (getD_ne h (by decide))), fun h => (c14 (getD_ne h (by decide))), fun h => (c15 (getD_ne h (by decide))), fun h => (c16 (getD_ne h (by decide))), fun h => (c17 (getD_ne h (by decide))), fun h => (c18 (getD_ne h (by decide))), fun h => (c19 (getD_ne h (by decide)))⟩)
    · -- 3
      obtain rfl := c2 (by have hd := ready_deps hi (o := _) rfl; exact hd ⟨2, .data⟩ (by simp) (by rfl))
      refine wpOp_step rfl (fun K' hK' => ?_)
      have HK : Hid (∀ a w, K a w → K' a w) := hK'
      have HK2 : Hid (type_of% hK) := hK
      clear hK hK' 
      go_simp
      exact HK.out _ _ (HK2.out _ _ ⟨by simp [hls], rfl, _, _, _, _, _, _, _, _, _, _, _, _, _, _, _, _, _, _, _, _, rfl, fun h => (c0 (getD_ne h (by decide))), fun h => (c1 (getD_ne h (by decide))), fun h => (c2 (getD_ne h (by decide))), fun _ => rfl, fun h => (c4 (getD_ne h (by decide))), fun h => (c5 (getD_ne h (by decide))), fun h => (c6 (getD_ne h (by decide))), fun h => (c7 (getD_ne h (by decide))), fun h => (c8 (getD_ne h (by decide))), fun h => (c9 (getD_ne h (by decide))), fun h => (c10 (getD_ne h (by decide))), fun h => (c11 (getD_ne h (by decide))), fun h => (c12 (getD_ne h (by decide))), fun h => (c13 (getD_ne h (by decide))), fun h => (c14 (getD_ne h (by decide))), fun h => (c15 (getD_ne h (by decide))), fun h => (c16 (getD_ne h (by decide))), fun h => (c17 (getD_ne h (by decide))), fun h => (c18 (getD_ne h (by decide))), fun h => (c19 (getD_ne h (by decide)))⟩)
    · -- 4
      obtain rfl := c3 (by have hd := ready_deps hi (o := _) rfl; exact hd ⟨3, .data⟩ (by simp) (by rfl))
      refine wpOp_step rfl (fun K' hK' => ?_)
      have HK : Hid (∀ a w, K a w → K' a w) := hK'
      have HK2 : Hid (type_of% hK) := hK
      clear hK hK' 
      go_simp
      go_at_call 80
      refine CN.out.mono ?_
      rintro e W9 ⟨rfl, hw9⟩
      have hw9 := hw9.symm
      subst hw9
      (try go_simp)
      exact HK.out _ _ (HK2.out _ _ ⟨by simp [hls], rfl, _, _, _, _, _, _, _, _, _, _, _, _, _, _, _, _, _, _, _, _, rfl, fun h => (c0 (getD_ne h (by decide))), fun h => (c1 (getD_ne h (by decide))), fun h => (c2 (getD_ne h (by decide))), fun h => (c3 (getD_ne h (by decide))), fun _ => rfl, fun h => (c5 (getD_ne h (by decide))), fun h => (c6 (getD_ne h (by decide))), fun h => (c7 (getD_ne h (by decide))), fun h => (c8 (getD_ne h (by decide))), fun h => (c9 (getD_ne h (by decide))), fun h => (c10 (getD_ne h (by decide))), fun h => (c11 (getD_ne h (by decide))), fun h => (c12 (getD_ne h (by decide))), fun h => (c13 (getD_ne h (by decide))), fun h => (c14 (getD_ne h (by decide))), fun h => (c15 (getD_ne h (by decide))), fun h => (c16 (getD_ne h (by decide))), fun h => (c17 (getD_ne h (by decide))), fun h => (c18 (getD_ne h (by decide))), fun h => (c19 (getD_ne h (by decide)))⟩)
    · -- 5
      obtain rfl := c0 (by have hd := ready_deps hi (o := _) rfl; exact hd ⟨0, .data⟩ (by simp) (by rfl))
      obtain rfl := c4 (by have hd := ready_deps hi (o := _) rfl; exact hd ⟨4, .data⟩ (by simp) (by rfl))
      refine wpOp_step rfl (fun K' hK' => ?_)
      have HK : Hid (∀ a w, K a w → K' a w) := hK'
      have HK2 : Hid (type_of% hK) := hK
      clear hK hK' 
      go_simp
      exact HK.out _ _ (HK2.out _ _ ⟨by simp [hls], rfl, _, _, _, _, _, _, _, _, _, _, _, _, _, _, _, _, _, _, _, _, rfl, fun h => (c0 (getD_ne h (by decide))), fun h => (c1 (getD_ne h (by decide))), fun h => (c2 (getD_ne h (by decide))), fun h => (c3 (getD_ne h (by decide))), fun h => (c4 (getD_ne h (by decide))), fun _ => rfl, fun h => (c6 (getD_ne h (by decide))), fun h => (c7 (getD_ne h (by decide))), fun h => (c8 (getD_ne h (by decide))), fun h => (c9 (getD_ne h (by decide))), fun h => (c10 (getD_ne h (by decide))), fun h => (c11 (getD_ne h (by decide))), fun h => (c12 (getD_ne h (by decide))), fun h => (c13 (getD_ne h (by decide))), fun h => (c14 (getD_ne h (by decide))), fun h => (c15 (getD_ne h (by decide))), fun h => (c16 (getD_ne h (by decide))), fun h => (c17 (getD_ne h (by decide))), fun h => (c18 (getD_ne h (by decide))), fun h => (c19 (getD_ne h (by decide)))⟩)
    · -- 6
      obtain rfl := c5 (by have hd := ready_deps hi (o := _) rfl; exact hd ⟨5, .data⟩ (by simp) (by rfl))
      obtain rfl := c4 (by have hd := ready_deps hi (o := _) rfl; exact hd ⟨4, .chain⟩ (by simp) (by rfl))
      refine wpOp_step rfl (fun K' hK' => ?_)
      have HK : Hid (∀ a w, K a w → K' a w) := hK'
      have HK2 : Hid (type_of% hK) := hK
      clear hK hK' 
      go_simp
      exact HK.out _ _ (HK2.out _ _ ⟨by simp [hls], rfl, _, _, _, _, _, _, _, _, _, _, _, _, _, _, _, _, _, _, _, _, rfl, fun h => (c0 (getD_ne h (by decide))), fun h => (c1 (getD_ne h (by decide))), fun h => (c2 (getD_ne h (by decide))), fun h => (c3 (getD_ne h (by decide))), fun h => (c4 (getD_ne h (by decide))), fun h => (c5 (getD_ne h (by decide))), fun _ => rfl, fun h => (c7 (getD_ne h (by decide))), fun h => (c8 (getD_ne h (by decide))), fun h => (c9 (getD_ne h (by decide))), fun h => (c10 (getD_ne h (by decide))), fun h => (c11 (getD_ne h (by decide))), fun h => (c12 (getD_ne h (by decide))), fun h => (c13 (getD_ne h (by decide))), fun h => (c14 (getD_ne h (by decide))), fun h => (c15 (getD_ne h (by decide))), fun h => (c16 (getD_ne h (by decide))), fun h => (c17 (getD_ne h (by decide))), fun h => (c18 (getD_ne h (by decide))), fun h => (c19 (getD_ne h (by decide)))⟩)
    · -- 7
      obtain rfl := c6 (by have hd := ready_deps hi (o := _) rfl; exact hd ⟨6, .guard⟩ (by simp) (by rfl))
      refine wpOp_step rfl (fun K' hK' => ?_)
      have HK : Hid (∀ a w, K a w → K' a w) := hK'
      have HK2 : Hid (type_of% hK) := hK
      clear hK hK' 
      rw [if_pos (show Region.wanted _ _ = true from rfl)]
      go_simp
      exact HK.out _ _ (HK2.out _ _ ⟨by simp [hls], rfl, _, _, _, _, _, _, _, _, _, _, _, _, _, _, _, _, _, _, _, _, rfl, fun h => (c0 (getD_ne h (by decide))), fun h => (c1 (getD_ne h (by decide))), fun h => (c2 (getD_ne h (by decide))), fun h => (c3 (getD_ne h (by decide))), fun h => (c4 (getD_ne h (by decide))), fun h => (c5 (getD_ne h (by decide))), fun h => (c6 (getD_ne h (by decide))), fun _ => rfl, fun h => (c8 (getD_ne h (by decide))), fun h => (c9 (getD_ne h (by decide))), fun h => (c10 (getD_ne h (by decide))), fun h => (c11 (getD_ne h (by decide))), fun h => (c12 (getD_ne h (by decide))), fun h => (c13 (getD_ne h (by decide))), fun h => (c14 (getD_ne h (by decide))), fun h => (c15 (getD_ne h (by decide))), fun h => (c16 (getD_ne h (by decide))), fun h => (c17 (getD_ne h (by decide))), fun h => (c18 (getD_ne h (by decide))), fun h => (c19 (getD_ne h (by decide)))⟩)
    · -- 8
      obtain rfl := c6 (by have hd := ready_deps hi (o := _) rfl; exact hd ⟨6, .guard⟩ (by simp) (by rfl))
      refine wpOp_step rfl (fun K' hK' => ?_)
      have HK : Hid (∀ a w, K a w → K' a w) := hK'
      have HK2 : Hid (type_of% hK) := hK
      clear hK hK' 
      rw [if_pos (show Region.wanted _ _ = true from rfl)]
      go_simp
      exact HK.out _ _ (HK2.out _ _ ⟨by simp [hls], rfl, _, _, _, _, _, _, _, _, _, _, _, _, _, _, _, _, _, _, _, _, rfl, fun h => (c0 (getD_ne h (by decide))), fun h => (c1 (getD_ne h (by decide))), fun h => (c2 (getD_ne h (by decide))), fun h => (c3 (getD_ne h (by decide))), fun h => (c4 (getD_ne h (by decide))), fun h => (c5 (getD_ne h (by decide))), fun h => (c6 (getD_ne h (by decide))), fun h => (c7 (getD_ne h (by decide))), fun _ => rfl, fun h => (c9 (getD_ne h (by decide))), fun h => (c10 (getD_ne h (by decide))), fun h => (c11 (getD_ne h (by decide))), fun h => (c12 (getD_ne h (by decide))), fun h => (c13 (getD_ne h (by decide))), fun h => (c14 (getD_ne h (by decide))), fun h => (c15 (getD_ne h (by decide))), fun h => (c16 (getD_ne h (by decide))), fun h => (c17 (getD_ne h (by decide))), fun h => (c18 (getD_ne h (by decide))), fun h => (c19 (getD_ne h (by decide)))⟩)
    · -- 9
      obtain rfl := c8 (by have hd := ready_deps hi (o := _) rfl; exact hd ⟨8, .data⟩ (by simp) (by rfl))
      obtain rfl := c6 (by have hd := ready_deps hi (o := _) rfl; exact hd ⟨6, .guard⟩ (by simp) (by rfl))
      refine wpOp_step rfl (fun K' hK' => ?_)
      have HK : Hid (∀ a w, K a w → K' a w) := hK'
      have HK2 : Hid (type_of% hK) := hK
      clear hK hK' 
      rw [if_pos (show Region.wanted _ _ = true from rfl)]
      go_simp
      exact HK.out _ _ (HK2.out _ _ ⟨by simp [hls], rfl, _, _, _, _, _, _, _, _, _, _, _, _, _, _, _, _, _, _, _, _, rfl, fun h => (c0 (getD_ne h (by decide))), fun h => (c1 (getD_ne h (by decide))), fun h => (c2 (getD_ne h (by decide))), fun h => (c3 (getD_ne h (by decide))), fun h => (c4 (getD_ne h (by decide))), fun h => (c5 (getD_ne h (by decide))), fun h => (c6 (getD_ne h (by decide))), fun h => (c7 (getD_ne h (by decide))), fun h => (c8 (getD_ne h (by decide))), fun _ => rfl, fun h => (c10 (getD_ne h (by decide))), fun h => (c11 (getD_ne h (by decide))), fun h => (c12 (getD_ne h (by decide))), fun h => (c13 (getD_ne h (by decide))), fun h => (c14 (getD_ne h (by decide))), fun h => (c15 (getD_ne h (by decide))), fun h => (c16 (getD_ne h (by decide))), fun h => (c17 (getD_ne h (by decide))), fun h => (c18 (getD_ne h (by decide))), fun h => (c19 (getD_ne h (by decide)))⟩)
    · -- 10
      obtain rfl := c9 (by have hd := ready_deps hi (o := _) rfl; exact hd ⟨9, .data⟩ (by simp) (by rfl))
      obtain rfl := c6 (by have hd := ready_deps hi (o := _) rfl; exact hd ⟨6, .guard⟩ (by simp) (by rfl))
      refine wpOp_step rfl (fun K' hK' => ?_)
      have HK : Hid (∀ a w, K a w → K' a w) := hK'
      have HK2 : Hid (type_of% hK) := hK
      clear hK hK' 
      rw [if_pos (show Region.wanted _ _ = true from rfl)]
      go_simp
      exact HK.out _ _ (HK2.out _ _ ⟨by simp [hls], rfl, _, _, _, _, _, _, _, _, _, _, _, _, _, _, _, _, _, _, _, _, rfl, fun h => (c0 (getD_ne h (by decide))), fun h => (c1 (getD_ne h (by decide))), fun h => (c2 (getD_ne h (by decide))), fun h => (c3 (getD_ne h (by decide))), fun h => (c4 (getD_ne h (by decide))), fun h => (c5 (getD_ne h (by decide))), fun h => (c6 (getD_ne h (by decide))), fun h => (c7 (getD_ne h (by decide))), fun h => (c8 (getD_ne h (by decide))), fun h => (c9 (getD_ne h (by decide))), fun _ => rfl, fun h => (c11 (getD_ne h (by decide))), fun h => (c12 (getD_ne h (by decide))), fun h => (c13 (getD_ne h (by decide))), fun h => (c14 (getD_ne h (by decide))), fun h => (c15 (getD_ne h (by decide))), fun h => (c16 (getD_ne h (by decide))), fun h => (c17 (getD_ne h (by decide))), fun h => (c18 (getD_ne h (by decide))), fun h => (c19 (getD_ne h (by decide)))⟩)
    · -- 11
      obtain rfl := c10 (by have hd := ready_deps hi (o := _) rfl; exact hd ⟨10, .data⟩ (by simp) (by rfl))
      obtain rfl := c6 (by have hd := ready_deps hi (o := _) rfl; exact hd ⟨6, .chain⟩ (by simp) (by rfl))
      refine wpOp_step rfl (fun K' hK' => ?_)
      have HK : Hid (∀ a w, K a w → K' a w) := hK'
      have HK2 : Hid (type_of% hK) := hK
      clear hK hK' 
      rw [if_pos (show Region.wanted _ _ = true from rfl)]
      go_simp
      go_at_call 80
      refine CN.out.mono ?_
      rintro e W9 ⟨rfl, hw9⟩
      have hw9 := hw9.symm
      subst hw9
      (try go_simp)
      exact HK.out _ _ (HK2.out _ _ ⟨by simp [hls], rfl, _, _, _, _, _, _, _, _, _, _, _, _, _, _, _, _, _, _, _, _, rfl, fun h => (c0 (getD_ne h (by decide))), fun h => (c1 (getD_ne h (by decide))), fun h => (c2 (getD_ne h (by decide))), fun h => (c3 (getD_ne h (by decide))), fun h => (c4 (getD_ne h (by decide))), fun h => (c5 (getD_ne h (by decide))), fun h => (c6 (getD_ne h (by decide))), fun h => (c7 (getD_ne h (by decide))), fun h => (c8 (getD_ne h (by decide))), fun h => (c9 (getD_ne h (by decide))), fun h => (c10 (getD_ne h (by decide))), fun _ => rfl, fun h => (c12 (getD_ne h (by decide))), fun h => (c13 (getD_ne h (by decide))), fun h => (c14 (getD_ne h (by decide))), fun h => (c15 (getD_ne h (by decide))), fun h => (c16 (getD_ne h (by decide))), fun h => (c17 (getD_ne h (by decide))), fun h => (c18 (getD_ne h (by decide))), fun h => (c19 (getD_ne h (by decide)))⟩)
    · -- 12
      obtain rfl := c6 (by have hd := ready_deps hi (o := _) rfl; exact hd ⟨6, .guard⟩ (by simp) (by rfl))
      refine wpOp_step rfl (fun K' hK' => ?_)
      have HK : Hid (∀ a w, K a w → K' a w) := hK'
      have HK2 : Hid (type_of% hK) := hK
      clear hK hK' 
      rw [if_pos (show Region.wanted _ _ = true from rfl)]
      go_simp
      exact HK.out _ _ (HK2.out _ _ ⟨by simp [hls], rfl, _, _, _, _, _, _, _, _, _, _, _, _, _, _, _, _, _, _, _, _, rfl, fun h => (c0 (getD_ne h (by decide))), fun h => (c1 (getD_ne h (by decide))), fun h => (c2 (getD_ne h (by decide))), fun h => (c3 (getD_ne h (by decide))), fun h => (c4 (getD_ne h (by decide))), fun h => (c5 (getD_ne h (by decide))), fun h => (c6 (getD_ne h (by decide))), fun h => (c7 (getD_ne h (by decide))), fun h => (c8 (getD_ne h (by decide))), fun h => (c9 (getD_ne h (by decide))), fun h => (c10 (getD_ne h (by decide))), fun h => (c11 (getD_ne h (by decide))), fun _ => rfl, fun h => (c13 (getD_ne h (by decide))), fun h => (c14 (getD_ne h (by decide))), fun h => (c15 (getD_ne h (by decide))), fun h => (c16 (getD_ne h (by decide))), fun h => (c17 (getD_ne h (by decide))), fun h => (c18 (getD_ne h (by decide))), fun h => (c19 (getD_ne h (by decide)))⟩)
    · -- 13
      obtain rfl := c12 (by have hd := ready_deps hi (o := _) rfl; exact hd ⟨12, .data⟩ (by simp) (by rfl))
      obtain rfl := c6 (by have hd := ready_deps hi (o := _) rfl; exact hd ⟨6, .guard⟩ (by simp) (by rfl))
      refine wpOp_step rfl (fun K' hK' => ?_)
      have HK : Hid (∀ a w, K a w → K' a w) := hK'
      have HK2 : Hid (type_of% hK) := hK
      clear hK hK' 
      rw [if_pos (show Region.wanted _ _ = true from rfl)]
      go_simp
      exact HK.out _ _ (HK2.out _ _ ⟨by simp [hls], rfl, _, _, _, _, _, _, _, _, _, _, _, _, _, _, _, _, _, _, _, _, rfl, fun h => (c0 (getD_ne h (by decide))), fun h => (c1 (getD_ne h (by decide))), fun h => (c2 (getD_ne h (by decide))), fun h => (c3 (getD_ne h (by decide))), fun h => (c4 (getD_ne h (by decide))), fun h => (c5 (getD_ne h (by decide))), fun h => (c6 (getD_ne h (by decide))), fun h => (c7 (getD_ne h (by decide))), fun h => (c8 (getD_ne h (by decide))), fun h => (c9 (getD_ne h (by decide))), fun h => (c10 (getD_ne h (by decide))), fun h => (c11 (getD_ne h (by decide))), fun h => (c12 (getD_ne h (by decide))), fun _ => rfl, fun h => (c14 (getD_ne h (by decide))), fun h => (c15 (getD_ne h (by decide))), fun h => (c16 (getD_ne h (by decide))), fun h => (c17 (getD_ne h (by decide))), fun h => (c18 (getD_ne h (by decide))), fun h => (c19 (getD_ne h (by decide)))⟩)
    · -- 14
      obtain rfl := c13 (by have hd := ready_deps hi (o := _) rfl; exact hd ⟨13, .data⟩ (by simp) (by rfl))
      obtain rfl := c6 (by have hd := ready_deps hi (o := _) rfl; exact hd ⟨6, .guard⟩ (by simp) (by rfl))
      refine wpOp_step rfl (fun K' hK' => ?_)
      have HK : Hid (∀ a w, K a w → K' a w) := hK'
      have HK2 : Hid (type_of% hK) := hK
      clear hK hK' 
      rw [if_pos (show Region.wanted _ _ = true from rfl)]
      go_simp
      exact HK.out _ _ (HK2.out _ _ ⟨by simp [hls], rfl, _, _, _, _, _, _, _, _, _, _, _, _, _, _, _, _, _, _, _, _, rfl, fun h => (c0 (getD_ne h (by decide))), fun h => (c1 (getD_ne h (by decide))), fun h => (c2 (getD_ne h (by decide))), fun h => (c3 (getD_ne h (by decide))), fun h => (c4 (getD_ne h (by decide))), fun h => (c5 (getD_ne h (by decide))), fun h => (c6 (getD_ne h (by decide))), fun h => (c7 (getD_ne h (by decide))), fun h => (c8 (getD_ne h (by decide))), fun h => (c9 (getD_ne h (by decide))), fun h => (c10 (getD_ne h (by decide))), fun h => (c11 (getD_ne h (by decide))), fun h => (c12 (getD_ne h (by decide))), fun h => (c13 (getD_ne h (by decide))), fun _ => rfl, fun h => (c15 (getD_ne h (by decide))), fun h => (c16 (getD_ne h (by decide))), fun h => (c17 (getD_ne h (by decide))), fun h => (c18 (getD_ne h (by decide))), fun h => (c19 (getD_ne h (by decide)))⟩)
    · -- 15
      obtain rfl := c14 (by have hd := ready_deps hi (o := _) rfl; exact hd ⟨14, .data⟩ (by simp) (by rfl))
      obtain rfl := c6 (by have hd := ready_deps hi (o := _) rfl; exact hd ⟨6, .guard⟩ (by simp) (by rfl))
      refine wpOp_step rfl (fun K' hK' => ?_)
      have HK : Hid (∀ a w, K a w → K' a w) := hK'
      have HK2 : Hid (type_of% hK) := hK
      clear hK hK' 
      rw [if_pos (show Region.wanted _ _ = true from rfl)]
      go_simp
      exact HK.out _ _ (HK2.out _ _ ⟨by simp [hls], rfl, _, _, _, _, _, _, _, _, _, _, _, _, _, _, _, _, _, _, _, _, rfl, fun h => (c0 (getD_ne h (by decide))), fun h => (c1 (getD_ne h (by decide))), fun h => (c2 (getD_ne h (by decide))), fun h => (c3 (getD_ne h (by decide))), fun h => (c4 (getD_ne h (by decide))), fun h => (c5 (getD_ne h (by decide))), fun h => (c6 (getD_ne h (by decide))), fun h => (c7 (getD_ne h (by decide))), fun h => (c8 (getD_ne h (by decide))), fun h => (c9 (getD_ne h (by decide))), fun h => (c10 (getD_ne h (by decide))), fun h => (c11 (getD_ne h (by decide))), fun h => (c12 (getD_ne h (by decide))), fun h => (c13 (getD_ne h (by decide))), fun h => (c14 (getD_ne h (by decide))), fun _ => rfl, fun h => (c16 (getD_ne h (by decide))), fun h => (c17 (getD_ne h (by decide))), fun h => (c18 (getD_ne h (by decide))), fun h => (c19 (getD_ne h (by decide)))⟩)
    · -- 16
      obtain rfl := c15 (by have hd := ready_deps hi (o := _) rfl; exact hd ⟨15, .data⟩ (by simp) (by rfl))
      obtain rfl := c6 (by have hd := ready_deps hi (o := _) rfl; exact hd ⟨6, .guard⟩ (by simp) (by rfl))
      refine wpOp_step rfl (fun K' hK' => ?_)
      have HK : Hid (∀ a w, K a w → K' a w) := hK'
      have HK2 : Hid (type_of% hK) := hK
      clear hK hK' 
      rw [if_pos (show Region.wanted _ _ = true from rfl)]
      go_simp
      exact HK.out _ _ (HK2.out _ _ ⟨by simp [hls], rfl, _, _, _, _, _, _, _, _, _, _, _, _, _, _, _, _, _, _, _, _, rfl, fun h => (c0 (getD_ne h (by decide))), fun h => (c1 (getD_ne h (by decide))), fun h => (c2 (getD_ne h (by decide))), fun h => (c3 (getD_ne h (by decide))), fun h => (c4 (getD_ne h (by decide))), fun h => (c5 (getD_ne h (by decide))), fun h => (c6 (getD_ne h (by decide))), fun h => (c7 (getD_ne h (by decide))), fun h => (c8 (getD_ne h (by decide))), fun h => (c9 (getD_ne h (by decide))), fun h => (c10 (getD_ne h (by decide))), fun h => (c11 (getD_ne h (by decide))), fun h => (c12 (getD_ne h (by decide))), fun h => (c13 (getD_ne h (by decide))), fun h => (c14 (getD_ne h (by decide))), fun h => (c15 (getD_ne h (by decide))), fun _ => rfl, fun h => (c17 (getD_ne h (by decide))), fun h => (c18 (getD_ne h (by decide))), fun h => (c19 (getD_ne h (by decide)))⟩)
    · -- 17
      obtain rfl := c11 (by have hd := ready_deps hi (o := _) rfl; exact hd ⟨11, .data⟩ (by simp) (by rfl))
      obtain rfl := c16 (by have hd := ready_deps hi (o := _) rfl; exact hd ⟨16, .data⟩ (by simp) (by rfl))
      obtain rfl := c6 (by have hd := ready_deps hi (o := _) rfl; exact hd ⟨6, .guard⟩ (by simp) (by rfl))
      refine wpOp_step rfl (fun K' hK' => ?_)
      have HK : Hid (∀ a w, K a w → K' a w) := hK'
      have HK2 : Hid (type_of% hK) := hK
      clear hK hK' 
      rw [if_pos (show Region.wanted _ _ = true from rfl)]
      go_simp
      go_at_call 93
      refine CW.out.mono ?_
      rintro e W9 ⟨rfl, hw9⟩
      have hw9 := hw9.symm
      subst hw9
      (try go_simp)
      exact HK.out _ _ (HK2.out _ _ ⟨by simp [hls], rfl, _, _, _, _, _, _, _, _, _, _, _, _, _, _, _, _, _, _, _, _, rfl, fun h => (c0 (getD_ne h (by decide))), fun h => (c1 (getD_ne h (by decide))), fun h => (c2 (getD_ne h (by decide))), fun h => (c3 (getD_ne h (by decide))), fun h => (c4 (getD_ne h (by decide))), fun h => (c5 (getD_ne h (by decide))), fun h => (c6 (getD_ne h (by decide))), fun h => (c7 (getD_ne h (by decide))), fun h => (c8 (getD_ne h (by decide))), fun h => (c9 (getD_ne h (by decide))), fun h => (c10 (getD_ne h (by decide))), fun h => (c11 (getD_ne h (by decide))), fun h => (c12 (getD_ne h (by decide))), fun h => (c13 (getD_ne h (by decide))), fun h => (c14 (getD_ne h (by decide))), fun h => (c15 (getD_ne h (by decide))), fun h => (c16 (getD_ne h (by decide))), fun _ => rfl, fun h => (c18 (getD_ne h (by decide))), fun h => (c19 (getD_ne h (by decide)))⟩)
    · -- 18
      obtain rfl := c7 (by have hd := ready_deps hi (o := _) rfl; exact hd ⟨7, .data⟩ (by simp) (by rfl))
      obtain rfl := c17 (by have hd := ready_deps hi (o := _) rfl; exact hd ⟨17, .data⟩ (by simp) (by rfl))
      obtain rfl := c6 (by have hd := ready_deps hi (o := _) rfl; exact hd ⟨6, .guard⟩ (by simp) (by rfl))
      refine wpOp_step rfl (fun K' hK' => ?_)
      have HK : Hid (∀ a w, K a w → K' a w) := hK'
      have HK2 : Hid (type_of% hK) := hK
      clear hK hK' 
      rw [if_pos (show Region.wanted _ _ = true from rfl)]
      go_simp
      exact HK.out _ _ (HK2.out _ _ ⟨by simp [hls], rfl, _, _, _, _, _, _, _, _, _, _, _, _, _, _, _, _, _, _, _, _, rfl, fun h => (c0 (getD_ne h (by decide))), fun h => (c1 (getD_ne h (by decide))), fun h => (c2 (getD_ne h (by decide))), fun h => (c3 (getD_ne h (by decide))), fun h => (c4 (getD_ne h (by decide))), fun h => (c5 (getD_ne h (by decide))), fun h => (c6 (getD_ne h (by decide))), fun h => (c7 (getD_ne h (by decide))), fun h => (c8 (getD_ne h (by decide))), fun h => (c9 (getD_ne h (by decide))), fun h => (c10 (getD_ne h (by decide))), fun h => (c11 (getD_ne h (by decide))), fun h => (c12 (getD_ne h (by decide))), fun h => (c13 (getD_ne h (by decide))), fun h => (c14 (getD_ne h (by decide))), fun h => (c15 (getD_ne h (by decide))), fun h => (c16 (getD_ne h (by decide))), fun h => (c17 (getD_ne h (by decide))), fun _ => rfl, fun h => (c19 (getD_ne h (by decide)))⟩)
    · -- 19
      obtain rfl := c6 (by have hd := ready_deps hi (o := _) rfl; exact hd ⟨6, .data⟩ (by simp) (by rfl))
      obtain rfl := c18 (by have hd := ready_deps hi (o := _) rfl; exact hd ⟨18, .data⟩ (by simp) (by rfl))
      refine wpOp_step rfl (fun K' hK' => ?_)
      have HK : Hid (∀ a w, K a w → K' a w) := hK'
      have HK2 : Hid (type_of% hK) := hK
      clear hK hK' 
      go_simp
      exact HK.out _ _ (HK2.out _ _ ⟨by simp [hls], rfl, _, _, _, _, _, _, _, _, _, _, _, _, _, _, _, _, _, _, _, _, rfl, fun h => (c0 (getD_ne h (by decide))), fun h => (c1 (getD_ne h (by decide))), fun h => (c2 (getD_ne h (by decide))), fun h => (c3 (getD_ne h (by decide))), fun h => (c4 (getD_ne h (by decide))), fun h => (c5 (getD_ne h (by decide))), fun h => (c6 (getD_ne h (by decide))), fun h => (c7 (getD_ne h (by decide))), fun h => (c8 (getD_ne h (by decide))), fun h => (c9 (getD_ne h (by decide))), fun h => (c10 (getD_ne h (by decide))), fun h => (c11 (getD_ne h (by decide))), fun h => (c12 (getD_ne h (by decide))), fun h => (c13 (getD_ne h (by decide))), fun h => (c14 (getD_ne h (by decide))), fun h => (c15 (getD_ne h (by decide))), fun h => (c16 (getD_ne h (by decide))), fun h => (c17 (getD_ne h (by decide))), fun h => (c18 (getD_ne h (by decide))), fun _ => rfl⟩)

set_option maxRecDepth 100000 in
set_option maxHeartbeats 8000000 in
theorem sendB (s : Ses) (k : Int) (e B : Nat) (ai : Option Addr) (ci : Nat) (vw va : Value) (w : World) (h : Ex w e B s (.slice ai s.items.length ci) vw va) (hg : Gd s) (hb : s.base ≤ k) (hk : k < s.base + 4) (hk2 : k < (s.items.length : Int)) :
    Calls Try.prog 79 #[.pointer (some ⟨e, 0, none⟩), .int .i64 k] w fun r w' => r = .returned (.bool (decide (s.way.length < 12))) ∧ Hid (∃ v9, Ex w' e B (if s.way.length < 12 then { s with way := s.way ++ [⟨s.ep, k, lq s.items k.toNat⟩] } else s) (.slice ai s.items.length ci) v9 va ∧ Tch w w' (PX e (.slice ai s.items.length ci) vw va) (PX e (.slice ai s.items.length ci) v9 va)) := by
  have hbd : Below w.heap.size w w.drew := (Below.refl _ w).drew
  have HXd : Hid (Ex w.drew e B s (.slice ai s.items.length ci) vw va) := h.below hbd
  have HTd : Hid (Tch w w.drew (PX e (.slice ai s.items.length ci) vw va) (PX e (.slice ai s.items.length ci) vw va)) := .of_below hbd
  have h0 := hg.b0
  have h1 : s.base ≤ 100 := by have a := hg.b1; have b := hg.hl; have c := hg.il; omega
  have x1 := HXd.out.v.c1
  have x3 := HXd.out.v.c3
  have CN : Hid (Calls Try.prog 80 #[.pointer (some ⟨e, 1, none⟩)] w.drew fun r w' => r = .returned (.int .i64 s.base) ∧ w' = w.drew) := now_any e 1 s.base _ HXd.out.v.c1
  have CW : Hid (Calls Try.prog 93 #[.int .i64 s.base, .int .i64 (s.items.length : Int)] w.drew fun r w' => r = .returned (.int .i64 (min (s.base + 4) (s.items.length : Int))) ∧ w' = w.drew) := windowEnd_any s.base _ w.drew (by omega) (by omega)
  have hq : decide (k < s.base) = false := decide_eq_false (by omega)
  have hq2 : decide (min (s.base + 4) (s.items.length : Int) ≤ k) = false := decide_eq_false (by omega)
  have hyl := hg.yl
  have hil := hg.il
  obtain ⟨K, rfl⟩ : ∃ K : Nat, k = (K : Int) := ⟨k.toNat, by omega⟩
  have hKl : K < s.items.length := by omega
  obtain ⟨aq, cq, hEq, hlr, hcr, hrow⟩ := h.r.at.i
  dsimp only at hEq hlr hcr hrow
  obtain ⟨g, o, rfl, hgl, hgc⟩ := hrow K hKl
  simp only [Value.slice.injEq] at hEq
  obtain ⟨rfl, -, rfl⟩ := hEq
  have hbdd : Below w.heap.size w w.drew.drew := hbd.drew
  have HXdd : Hid (Ex w.drew.drew e B s (.slice (some ⟨g, o, none⟩) s.items.length ci) vw va) := h.below hbdd
  have HTdd : Hid (Tch w w.drew.drew (PX e (.slice (some ⟨g, o, none⟩) s.items.length ci) vw va) (PX e (.slice (some ⟨g, o, none⟩) s.items.length ci) vw va)) := .of_below hbdd
  have hgcd : w.drew.drew.cell? ⟨g, o + K, none⟩ = some (.string (lq s.items K)) := (hbdd.cell (p := ⟨g, o + K, none⟩) hgl).trans hgc
  have y3 := HXdd.out.v.c3
  have CE : Hid (Calls Try.prog 80 #[.pointer (some ⟨e, 0, none⟩)] w.drew.drew fun r w' => r = .returned (.int .i64 s.ep) ∧ w' = w.drew.drew) := now_any e 0 s.ep _ HXdd.out.v.c0
  have CP : Hid (Calls Try.prog 103 #[.pointer (some ⟨e, 4, none⟩), .agg #[.int .i64 s.ep, .int .i64 (K : Int), .string (lq s.items K)]] w.drew.drew fun r w' => (∃ tt, r = .returned (.bool tt) ∧ Hid (tt = decide (s.way.length < 12))) ∧ Hid (∃ v9, Ex w' e B (if s.way.length < 12 then { s with way := s.way ++ [⟨s.ep, (K : Int), lq s.items K⟩] } else s) (.slice (some ⟨g, o, none⟩) s.items.length ci) v9 va ∧ Tch w.drew.drew w' (PX e (.slice (some ⟨g, o, none⟩) s.items.length ci) vw va) (PX e (.slice (some ⟨g, o, none⟩) s.items.length ci) v9 va))) := (putPk_any s ⟨s.ep, (K : Int), lq s.items K⟩ e B _ vw va w.drew.drew HXdd.out hyl).mono fun r w' hh => ⟨⟨_, hh.1, rfl⟩, hh.2⟩
  rw [Int.toNat_natCast]
  generalize (if s.way.length < 12 then { s with way := s.way ++ [⟨s.ep, (K : Int), lq s.items K⟩] } else s) = S9 at CP ⊢
  generalize decide (s.way.length < 12) = tk at CP ⊢
  have HI0 : Sd1B s (K : Int) e (some ⟨g, o, none⟩) ci w.drew (Array.replicate 20 false) ⟨#[.pointer (some ⟨e, 0, none⟩), .int .i64 (K : Int), undef, undef, .bool false, undef, undef, undef, undef, undef, undef, undef, undef, undef, undef, undef, undef, undef, undef, undef, undef, undef, undef, undef, undef, undef, undef, undef, undef, undef, undef, undef, undef, undef, undef, undef, undef, undef, undef, undef, undef, undef], []⟩ w.drew := by
    refine ⟨by simp, rfl, _, _, _, _, _, _, _, _, _, _, _, _, _, _, _, _, _, _, _, _, rfl, ?_, ?_, ?_, ?_, ?_, ?_, ?_, ?_, ?_, ?_, ?_, ?_, ?_, ?_, ?_, ?_, ?_, ?_, ?_, ?_⟩
    all_goals
      intro h
      exact absurd h (by decide)
  have HI : Hid (type_of% HI0) := HI0
  clear HI0
  clear h hg h0 h1 hrow hgc hgl
  go_enter Try.func79, Try.ntmps79
  go_upto_region 1 with fail
  refine wp_region_held_drew (S := fun _ => True) (by kernel_rfl) trivial (fun _ => ?_)
  refine wpAnyH_inv (Sd1B s (K : Int) e (some ⟨g, o, none⟩) ci w.drew) ?step ?fin _ _ _ _ HI.out (by decide)
  case fin =>
    intro l a W hI h0
    obtain ⟨hls, rfl, u5, u6, u7, u8, u9, u10, u11, u12, u13, u14, u15, u16, u17, u18, u19, u20, u21, u22, u23, u24, rfl, c0, c1, c2, c3, c4, c5, c6, c7, c8, c9, c10, c11, c12, c13, c14, c15, c16, c17, c18, c19⟩ := hI
    have b0 : l.getD 0 false = true := listed_of h0 0 _ (by omega) rfl (by intro e he; first | (simp at he; done) | skip; simp at he; (repeat (rcases he with rfl | he; · assumption)); all_goals (subst he; assumption))
    have b1 : l.getD 1 false = true := listed_of h0 1 _ (by omega) rfl (by intro e he; first | (simp at he; done) | skip; simp at he; (repeat (rcases he with rfl | he; · assumption)); all_goals (subst he; assumption))
    have b2 : l.getD 2 false = true := listed_of h0 2 _ (by omega) rfl (by intro e he; first | (simp at he; done) | skip; simp at he; (repeat (rcases he with rfl | he; · assumption)); all_goals (subst he; assumption))
    have b3 : l.getD 3 false = true := listed_of h0 3 _ (by omega) rfl (by intro e he; first | (simp at he; done) | skip; simp at he; (repeat (rcases he with rfl | he; · assumption)); all_goals (subst he; assumption))
    have b4 : l.getD 4 false = true := listed_of h0 4 _ (by omega) rfl (by intro e he; first | (simp at he; done) | skip; simp at he; (repeat (rcases he with rfl | he; · assumption)); all_goals (subst he; assumption))
    have b5 : l.getD 5 false = true := listed_of h0 5 _ (by omega) rfl (by intro e he; first | (simp at he; done) | skip; simp at he; (repeat (rcases he with rfl | he; · assumption)); all_goals (subst he; assumption))
    have b6 : l.getD 6 false = true := listed_of h0 6 _ (by omega) rfl (by intro e he; first | (simp at he; done) | skip; simp at he; (repeat (rcases he with rfl | he; · assumption)); all_goals (subst he; assumption))
    have b7 : l.getD 7 false = true := listed_of h0 7 _ (by omega) rfl (by intro e he; first | (simp at he; done) | skip; simp at he; (repeat (rcases he with rfl | he; · assumption)); all_goals (subst he; assumption))
    have b8 : l.getD 8 false = true := listed_of h0 8 _ (by omega) rfl (by intro e he; first | (simp at he; done) | skip; simp at he; (repeat (rcases he with rfl | he; · assumption)); all_goals (subst he; assumption))
    have b9 : l.getD 9 false = true := listed_of h0 9 _ (by omega) rfl (by intro e he; first | (simp at he; done) | skip; simp at he; (repeat (rcases he with rfl | he; · assumption)); all_goals (subst he; assumption))
    have b10 : l.getD 10 false = true := listed_of h0 10 _ (by omega) rfl (by intro e he; first | (simp at he; done) | skip; simp at he; (repeat (rcases he with rfl | he; · assumption)); all_goals (subst he; assumption))
    have b11 : l.getD 11 false = true := listed_of h0 11 _ (by omega) rfl (by intro e he; first | (simp at he; done) | skip; simp at he; (repeat (rcases he with rfl | he; · assumption)); all_goals (subst he; assumption))
    have b12 : l.getD 12 false = true := listed_of h0 12 _ (by omega) rfl (by intro e he; first | (simp at he; done) | skip; simp at he; (repeat (rcases he with rfl | he; · assumption)); all_goals (subst he; assumption))
    have b13 : l.getD 13 false = true := listed_of h0 13 _ (by omega) rfl (by intro e he; first | (simp at he; done) | skip; simp at he; (repeat (rcases he with rfl | he; · assumption)); all_goals (subst he; assumption))
    have b14 : l.getD 14 false = true := listed_of h0 14 _ (by omega) rfl (by intro e he; first | (simp at he; done) | skip; simp at he; (repeat (rcases he with rfl | he; · assumption)); all_goals (subst he; assumption))
    have b15 : l.getD 15 false = true := listed_of h0 15 _ (by omega) rfl (by intro e he; first | (simp at he; done) | skip; simp at he; (repeat (rcases he with rfl | he; · assumption)); all_goals (subst he; assumption))
    have b16 : l.getD 16 false = true := listed_of h0 16 _ (by omega) rfl (by intro e he; first | (simp at he; done) | skip; simp at he; (repeat (rcases he with rfl | he; · assumption)); all_goals (subst he; assumption))
    have b17 : l.getD 17 false = true := listed_of h0 17 _ (by omega) rfl (by intro e he; first | (simp at he; done) | skip; simp at he; (repeat (rcases he with rfl | he; · assumption)); all_goals (subst he; assumption))
    have b18 : l.getD 18 false = true := listed_of h0 18 _ (by omega) rfl (by intro e he; first | (simp at he; done) | skip; simp at he; (repeat (rcases he with rfl | he; · assumption)); all_goals (subst he; assumption))
    have b19 : l.getD 19 false = true := listed_of h0 19 _ (by omega) rfl (by intro e he; first | (simp at he; done) | skip; simp at he; (repeat (rcases he with rfl | he; · assumption)); all_goals (subst he; assumption))
    obtain rfl := c0 b0
    obtain rfl := c1 b1
    obtain rfl := c2 b2
    obtain rfl := c3 b3
    obtain rfl := c4 b4
    obtain rfl := c5 b5
    obtain rfl := c6 b6
    obtain rfl := c7 b7
    obtain rfl := c8 b8
    obtain rfl := c9 b9
    obtain rfl := c10 b10
    obtain rfl := c11 b11
    obtain rfl := c12 b12
    obtain rfl := c13 b13
    obtain rfl := c14 b14
    obtain rfl := c15 b15
    obtain rfl := c16 b16
    obtain rfl := c17 b17
    obtain rfl := c18 b18
    obtain rfl := c19 b19
    clear b0 b1 b2 b3 b4 b5 b6 b7 b8 b9 b10 b11 b12 b13 b14 b15 b16 b17 b18 b19 h0 hls
    (try dsimp only)
    go_upto_region 3 with fail
    (try simp only [Act.put, List.setIfInBounds_toArray, List.set_cons_zero, List.set_cons_succ, List.getElem_toArray, List.getElem_cons_zero, List.getElem_cons_succ])
    go_region_with (first | (go_at_call 80; (with_reducible refine CE.out.mono ?_); rintro r w2 ⟨rfl, rfl⟩) | (go_at_call 103; (with_reducible refine CP.out.mono ?_); rintro r w5 ⟨⟨tt, rfl, htt⟩, HE5⟩))
    all_goals
      go_wp2_with fail
      go_ret
      refine ⟨by have e9 := htt.out; subst e9; rfl, ?_⟩
      obtain ⟨v9, hE, hT⟩ := HE5.out
      exact ⟨v9, hE, HTdd.out.trans hT⟩
  case step =>
    intro l a W i hI hi K hK
    have hlt := ready_lt hi
    obtain ⟨hls, rfl, u5, u6, u7, u8, u9, u10, u11, u12, u13, u14, u15, u16, u17, u18, u19, u20, u21, u22, u23, u24, rfl, c0, c1, c2, c3, c4, c5, c6, c7, c8, c9, c10, c11, c12, c13, c14, c15, c16, c17, c18, c19⟩ := hI
    have hlt' : i < 20 := hlt
    rcases (show i = 0 ∨ i = 1 ∨ i = 2 ∨ i = 3 ∨ i = 4 ∨ i = 5 ∨ i = 6 ∨ i = 7 ∨ i = 8 ∨ i = 9 ∨ i = 10 ∨ i = 11 ∨ i = 12 ∨ i = 13 ∨ i = 14 ∨ i = 15 ∨ i = 16 ∨ i = 17 ∨ i = 18 ∨ i = 19 by omega) with rfl | rfl | rfl | rfl | rfl | rfl | rfl | rfl | rfl | rfl | rfl | rfl | rfl | rfl | rfl | rfl | rfl | rfl | rfl | rfl
    · -- 0
      refine wpOp_step rfl (fun K' hK' => ?_)
      have HK : Hid (∀ a w, K a w → K' a w) := hK'
      have HK2 : Hid (type_of% hK) := hK
      clear hK hK' 
      go_simp
      exact HK.out _ _ (HK2.out _ _ ⟨by simp [hls], rfl, _, _, _, _, _, _, _, _, _, _, _, _, _, _, _, _, _, _, _, _, rfl, fun _ => rfl, fun h => (c1 (getD_ne h (by decide))), fun h => (c2 (getD_ne h (by decide))), fun h => (c3 (getD_ne h (by decide))), fun h => (c4 (getD_ne h (by decide))), fun h => (c5 (getD_ne h (by decide))), fun h => (c6 (getD_ne h (by decide))), fun h => (c7 (getD_ne h (by decide))), fun h => (c8 (getD_ne h (by decide))), fun h => (c9 (getD_ne h (by decide))), fun h => (c10 (getD_ne h (by decide))), fun h => (c11 (getD_ne h (by decide))), fun h => (c12 (getD_ne h (by decide))), fun h => (c13 (getD_ne h (by decide))), fun h => (c14 (getD_ne h (by decide))), fun h => (c15 (getD_ne h (by decide))), fun h => (c16 (getD_ne h (by decide))), fun h => (c17 (getD_ne h (by decide))), fun h => (c18 (getD_ne h (by decide))), fun h => (c19 (getD_ne h (by decide)))⟩)
    · -- 1
      refine wpOp_step rfl (fun K' hK' => ?_)
      have HK : Hid (∀ a w, K a w → K' a w) := hK'
      have HK2 : Hid (type_of% hK) := hK
      clear hK hK' 
      go_simp
      exact HK.out _ _ (HK2.out _ _ ⟨by simp [hls], rfl, _, _, _, _, _, _, _, _, _, _, _, _, _, _, _, _, _, _, _, _, rfl, fun h => (c0 (getD_ne h (by decide))), fun _ => rfl, fun h => (c2 (getD_ne h (by decide))), fun h => (c3 (getD_ne h (by decide))), fun h => (c4 (getD_ne h (by decide))), fun h => (c5 (getD_ne h (by decide))), fun h => (c6 (getD_ne h (by decide))), fun h => (c7 (getD_ne h (by decide))), fun h => (c8 (getD_ne h (by decide))), fun h => (c9 (getD_ne h (by decide))), fun h => (c10 (getD_ne h (by decide))), fun h => (c11 (getD_ne h (by decide))), fun h => (c12 (getD_ne h (by decide))), fun h => (c13 (getD_ne h (by decide))), fun h => (c14 (getD_ne h (by decide))), fun h => (c15 (getD_ne h (by decide))), fun h => (c16 (getD_ne h (by decide))), fun h => (c17 (getD_ne h (by decide))), fun h => (c18 (getD_ne h (by decide))), fun h => (c19 (getD_ne h (by decide)))⟩)
    · -- 2
      obtain rfl := c1 (by have hd := ready_deps hi (o := _) rfl; exact hd ⟨1, .data⟩ (by simp) (by rfl))
      refine wpOp_step rfl (fun K' hK' => ?_)
      have HK : Hid (∀ a w, K a w → K' a w) := hK'
      have HK2 : Hid (type_of% hK) := hK
      clear hK hK' 
      go_simp
      exact HK.out _ _ (HK2.out _ _ ⟨by simp [hls], rfl, _, _, _, _, _, _, _, _, _, _, _, _, _, _, _, _, _, _, _, _, rfl, fun h => (c0 (getD_ne h (by decide))), fun h => (c1 (getD_ne h (by decide))), fun _ => rfl, fun h => (c3 (getD_ne h (by decide))), fun h => (c4 (getD_ne h (by decide))), fun h => (c5 (getD_ne h (by decide))), fun h => (c6 (getD_ne h (by decide))), fun h => (c7 (getD_ne h (by decide))), fun h => (c8 (getD_ne h (by decide))), fun h => (c9 (getD_ne h (by decide))), fun h => (c10 (getD_ne h (by decide))), fun h => (c11 (getD_ne h (by decide))), fun h => (c12 (getD_ne h (by decide))), fun h => (c13 (getD_ne h (by decide))), fun h => (c14 (getD_ne h (by decide))), fun h => (c15 (getD_ne h (by decide))), fun h => (c16 (getD_ne h (by decide))), fun h => (c17 (getD_ne h (by decide))), fun h => (c18 (getD_ne h (by decide))), fun h => (c19 (getD_ne h (by decide)))⟩)
    · -- 3
      obtain rfl := c2 (by have hd := ready_deps hi (o := _) rfl; exact hd ⟨2, .data⟩ (by simp) (by rfl))
      refine wpOp_step rfl (fun K' hK' => ?_)
      have HK : Hid (∀ a w, K a w → K' a w) := hK'
      have HK2 : Hid (type_of% hK) := hK
      clear hK hK' 
      go_simp
      exact HK.out _ _ (HK2.out _ _ ⟨by simp [hls], rfl, _, _, _, _, _, _, _, _, _, _, _, _, _, _, _, _, _, _, _, _, rfl, fun h => (c0 (getD_ne h (by decide))), fun h => (c1 (getD_ne h (by decide))), fun h => (c2 (getD_ne h (by decide))), fun _ => rfl, fun h => (c4 (getD_ne h (by decide))), fun h => (c5 (getD_ne h (by decide))), fun h => (c6 (getD_ne h (by decide))), fun h => (c7 (getD_ne h (by decide))), fun h => (c8 (getD_ne h (by decide))), fun h => (c9 (getD_ne h (by decide))), fun h => (c10 (getD_ne h (by decide))), fun h => (c11 (getD_ne h (by decide))), fun h => (c12 (getD_ne h (by decide))), fun h => (c13 (getD_ne h (by decide))), fun h => (c14 (getD_ne h (by decide))), fun h => (c15 (getD_ne h (by decide))), fun h => (c16 (getD_ne h (by decide))), fun h => (c17 (getD_ne h (by decide))), fun h => (c18 (getD_ne h (by decide))), fun h => (c19 (getD_ne h (by decide)))⟩)
    · -- 4
      obtain rfl := c3 (by have hd := ready_deps hi (o := _) rfl; exact hd ⟨3, .data⟩ (by simp) (by rfl))
      refine wpOp_step rfl (fun K' hK' => ?_)
      have HK : Hid (∀ a w, K a w → K' a w) := hK'
      have HK2 : Hid (type_of% hK) := hK
      clear hK hK' 
      go_simp
      go_at_call 80
      refine CN.out.mono ?_
      rintro e W9 ⟨rfl, hw9⟩
      have hw9 := hw9.symm
      subst hw9
      (try go_simp)
      exact HK.out _ _ (HK2.out _ _ ⟨by simp [hls], rfl, _, _, _, _, _, _, _, _, _, _, _, _, _, _, _, _, _, _, _, _, rfl, fun h => (c0 (getD_ne h (by decide))), fun h => (c1 (getD_ne h (by decide))), fun h => (c2 (getD_ne h (by decide))), fun h => (c3 (getD_ne h (by decide))), fun _ => rfl, fun h => (c5 (getD_ne h (by decide))), fun h => (c6 (getD_ne h (by decide))), fun h => (c7 (getD_ne h (by decide))), fun h => (c8 (getD_ne h (by decide))), fun h => (c9 (getD_ne h (by decide))), fun h => (c10 (getD_ne h (by decide))), fun h => (c11 (getD_ne h (by decide))), fun h => (c12 (getD_ne h (by decide))), fun h => (c13 (getD_ne h (by decide))), fun h => (c14 (getD_ne h (by decide))), fun h => (c15 (getD_ne h (by decide))), fun h => (c16 (getD_ne h (by decide))), fun h => (c17 (getD_ne h (by decide))), fun h => (c18 (getD_ne h (by decide))), fun h => (c19 (getD_ne h (by decide)))⟩)
    · -- 5
      obtain rfl := c0 (by have hd := ready_deps hi (o := _) rfl; exact hd ⟨0, .data⟩ (by simp) (by rfl))
      obtain rfl := c4 (by have hd := ready_deps hi (o := _) rfl; exact hd ⟨4, .data⟩ (by simp) (by rfl))
      refine wpOp_step rfl (fun K' hK' => ?_)
      have HK : Hid (∀ a w, K a w → K' a w) := hK'
      have HK2 : Hid (type_of% hK) := hK
      clear hK hK' 
      go_simp
      exact HK.out _ _ (HK2.out _ _ ⟨by simp [hls], rfl, _, _, _, _, _, _, _, _, _, _, _, _, _, _, _, _, _, _, _, _, rfl, fun h => (c0 (getD_ne h (by decide))), fun h => (c1 (getD_ne h (by decide))), fun h => (c2 (getD_ne h (by decide))), fun h => (c3 (getD_ne h (by decide))), fun h => (c4 (getD_ne h (by decide))), fun _ => rfl, fun h => (c6 (getD_ne h (by decide))), fun h => (c7 (getD_ne h (by decide))), fun h => (c8 (getD_ne h (by decide))), fun h => (c9 (getD_ne h (by decide))), fun h => (c10 (getD_ne h (by decide))), fun h => (c11 (getD_ne h (by decide))), fun h => (c12 (getD_ne h (by decide))), fun h => (c13 (getD_ne h (by decide))), fun h => (c14 (getD_ne h (by decide))), fun h => (c15 (getD_ne h (by decide))), fun h => (c16 (getD_ne h (by decide))), fun h => (c17 (getD_ne h (by decide))), fun h => (c18 (getD_ne h (by decide))), fun h => (c19 (getD_ne h (by decide)))⟩)
    · -- 6
      obtain rfl := c5 (by have hd := ready_deps hi (o := _) rfl; exact hd ⟨5, .data⟩ (by simp) (by rfl))
      obtain rfl := c4 (by have hd := ready_deps hi (o := _) rfl; exact hd ⟨4, .chain⟩ (by simp) (by rfl))
      refine wpOp_step rfl (fun K' hK' => ?_)
      have HK : Hid (∀ a w, K a w → K' a w) := hK'
      have HK2 : Hid (type_of% hK) := hK
      clear hK hK' 
      go_simp
      exact HK.out _ _ (HK2.out _ _ ⟨by simp [hls], rfl, _, _, _, _, _, _, _, _, _, _, _, _, _, _, _, _, _, _, _, _, rfl, fun h => (c0 (getD_ne h (by decide))), fun h => (c1 (getD_ne h (by decide))), fun h => (c2 (getD_ne h (by decide))), fun h => (c3 (getD_ne h (by decide))), fun h => (c4 (getD_ne h (by decide))), fun h => (c5 (getD_ne h (by decide))), fun _ => rfl, fun h => (c7 (getD_ne h (by decide))), fun h => (c8 (getD_ne h (by decide))), fun h => (c9 (getD_ne h (by decide))), fun h => (c10 (getD_ne h (by decide))), fun h => (c11 (getD_ne h (by decide))), fun h => (c12 (getD_ne h (by decide))), fun h => (c13 (getD_ne h (by decide))), fun h => (c14 (getD_ne h (by decide))), fun h => (c15 (getD_ne h (by decide))), fun h => (c16 (getD_ne h (by decide))), fun h => (c17 (getD_ne h (by decide))), fun h => (c18 (getD_ne h (by decide))), fun h => (c19 (getD_ne h (by decide)))⟩)
    · -- 7
      obtain rfl := c6 (by have hd := ready_deps hi (o := _) rfl; exact hd ⟨6, .guard⟩ (by simp) (by rfl))
      refine wpOp_step rfl (fun K' hK' => ?_)
      have HK : Hid (∀ a w, K a w → K' a w) := hK'
      have HK2 : Hid (type_of% hK) := hK
      clear hK hK' 
      rw [if_pos (show Region.wanted _ _ = true from rfl)]
      go_simp
      exact HK.out _ _ (HK2.out _ _ ⟨by simp [hls], rfl, _, _, _, _, _, _, _, _, _, _, _, _, _, _, _, _, _, _, _, _, rfl, fun h => (c0 (getD_ne h (by decide))), fun h => (c1 (getD_ne h (by decide))), fun h => (c2 (getD_ne h (by decide))), fun h => (c3 (getD_ne h (by decide))), fun h => (c4 (getD_ne h (by decide))), fun h => (c5 (getD_ne h (by decide))), fun h => (c6 (getD_ne h (by decide))), fun _ => rfl, fun h => (c8 (getD_ne h (by decide))), fun h => (c9 (getD_ne h (by decide))), fun h => (c10 (getD_ne h (by decide))), fun h => (c11 (getD_ne h (by decide))), fun h => (c12 (getD_ne h (by decide))), fun h => (c13 (getD_ne h (by decide))), fun h => (c14 (getD_ne h (by decide))), fun h => (c15 (getD_ne h (by decide))), fun h => (c16 (getD_ne h (by decide))), fun h => (c17 (getD_ne h (by decide))), fun h => (c18 (getD_ne h (by decide))), fun h => (c19 (getD_ne h (by decide)))⟩)
    · -- 8
      obtain rfl := c6 (by have hd := ready_deps hi (o := _) rfl; exact hd ⟨6, .guard⟩ (by simp) (by rfl))
      refine wpOp_step rfl (fun K' hK' => ?_)
      have HK : Hid (∀ a w, K a w → K' a w) := hK'
      have HK2 : Hid (type_of% hK) := hK
      clear hK hK' 
      rw [if_pos (show Region.wanted _ _ = true from rfl)]
      go_simp
      exact HK.out _ _ (HK2.out _ _ ⟨by simp [hls], rfl, _, _, _, _, _, _, _, _, _, _, _, _, _, _, _, _, _, _, _, _, rfl, fun h => (c0 (getD_ne h (by decide))), fun h => (c1 (getD_ne h (by decide))), fun h => (c2 (getD_ne h (by decide))), fun h => (c3 (getD_ne h (by decide))), fun h => (c4 (getD_ne h (by decide))), fun h => (c5 (getD_ne h (by decide))), fun h => (c6 (getD_ne h (by decide))), fun h => (c7 (getD_ne h (by decide))), fun _ => rfl, fun h => (c9 (getD_ne h (by decide))), fun h => (c10 (getD_ne h (by decide))), fun h => (c11 (getD_ne h (by decide))), fun h => (c12 (getD_ne h (by decide))), fun h => (c13 (getD_ne h (by decide))), fun h => (c14 (getD_ne h (by decide))), fun h => (c15 (getD_ne h (by decide))), fun h => (c16 (getD_ne h (by decide))), fun h => (c17 (getD_ne h (by decide))), fun h => (c18 (getD_ne h (by decide))), fun h => (c19 (getD_ne h (by decide)))⟩)
    · -- 9
      obtain rfl := c8 (by have hd := ready_deps hi (o := _) rfl; exact hd ⟨8, .data⟩ (by simp) (by rfl))
      obtain rfl := c6 (by have hd := ready_deps hi (o := _) rfl; exact hd ⟨6, .guard⟩ (by simp) (by rfl))
      refine wpOp_step rfl (fun K' hK' => ?_)
      have HK : Hid (∀ a w, K a w → K' a w) := hK'
      have HK2 : Hid (type_of% hK) := hK
      clear hK hK' 
      rw [if_pos (show Region.wanted _ _ = true from rfl)]
      go_simp
      exact HK.out _ _ (HK2.out _ _ ⟨by simp [hls], rfl, _, _, _, _, _, _, _, _, _, _, _, _, _, _, _, _, _, _, _, _, rfl, fun h => (c0 (getD_ne h (by decide))), fun h => (c1 (getD_ne h (by decide))), fun h => (c2 (getD_ne h (by decide))), fun h => (c3 (getD_ne h (by decide))), fun h => (c4 (getD_ne h (by decide))), fun h => (c5 (getD_ne h (by decide))), fun h => (c6 (getD_ne h (by decide))), fun h => (c7 (getD_ne h (by decide))), fun h => (c8 (getD_ne h (by decide))), fun _ => rfl, fun h => (c10 (getD_ne h (by decide))), fun h => (c11 (getD_ne h (by decide))), fun h => (c12 (getD_ne h (by decide))), fun h => (c13 (getD_ne h (by decide))), fun h => (c14 (getD_ne h (by decide))), fun h => (c15 (getD_ne h (by decide))), fun h => (c16 (getD_ne h (by decide))), fun h => (c17 (getD_ne h (by decide))), fun h => (c18 (getD_ne h (by decide))), fun h => (c19 (getD_ne h (by decide)))⟩)
    · -- 10
      obtain rfl := c9 (by have hd := ready_deps hi (o := _) rfl; exact hd ⟨9, .data⟩ (by simp) (by rfl))
      obtain rfl := c6 (by have hd := ready_deps hi (o := _) rfl; exact hd ⟨6, .guard⟩ (by simp) (by rfl))
      refine wpOp_step rfl (fun K' hK' => ?_)
      have HK : Hid (∀ a w, K a w → K' a w) := hK'
      have HK2 : Hid (type_of% hK) := hK
      clear hK hK' 
      rw [if_pos (show Region.wanted _ _ = true from rfl)]
      go_simp
      exact HK.out _ _ (HK2.out _ _ ⟨by simp [hls], rfl, _, _, _, _, _, _, _, _, _, _, _, _, _, _, _, _, _, _, _, _, rfl, fun h => (c0 (getD_ne h (by decide))), fun h => (c1 (getD_ne h (by decide))), fun h => (c2 (getD_ne h (by decide))), fun h => (c3 (getD_ne h (by decide))), fun h => (c4 (getD_ne h (by decide))), fun h => (c5 (getD_ne h (by decide))), fun h => (c6 (getD_ne h (by decide))), fun h => (c7 (getD_ne h (by decide))), fun h => (c8 (getD_ne h (by decide))), fun h => (c9 (getD_ne h (by decide))), fun _ => rfl, fun h => (c11 (getD_ne h (by decide))), fun h => (c12 (getD_ne h (by decide))), fun h => (c13 (getD_ne h (by decide))), fun h => (c14 (getD_ne h (by decide))), fun h => (c15 (getD_ne h (by decide))), fun h => (c16 (getD_ne h (by decide))), fun h => (c17 (getD_ne h (by decide))), fun h => (c18 (getD_ne h (by decide))), fun h => (c19 (getD_ne h (by decide)))⟩)
    · -- 11
      obtain rfl := c10 (by have hd := ready_deps hi (o := _) rfl; exact hd ⟨10, .data⟩ (by simp) (by rfl))
      obtain rfl := c6 (by have hd := ready_deps hi (o := _) rfl; exact hd ⟨6, .chain⟩ (by simp) (by rfl))
      refine wpOp_step rfl (fun K' hK' => ?_)
      have HK : Hid (∀ a w, K a w → K' a w) := hK'
      have HK2 : Hid (type_of% hK) := hK
      clear hK hK' 
      rw [if_pos (show Region.wanted _ _ = true from rfl)]
      go_simp
      go_at_call 80
      refine CN.out.mono ?_
      rintro e W9 ⟨rfl, hw9⟩
      have hw9 := hw9.symm
      subst hw9
      (try go_simp)
      exact HK.out _ _ (HK2.out _ _ ⟨by simp [hls], rfl, _, _, _, _, _, _, _, _, _, _, _, _, _, _, _, _, _, _, _, _, rfl, fun h => (c0 (getD_ne h (by decide))), fun h => (c1 (getD_ne h (by decide))), fun h => (c2 (getD_ne h (by decide))), fun h => (c3 (getD_ne h (by decide))), fun h => (c4 (getD_ne h (by decide))), fun h => (c5 (getD_ne h (by decide))), fun h => (c6 (getD_ne h (by decide))), fun h => (c7 (getD_ne h (by decide))), fun h => (c8 (getD_ne h (by decide))), fun h => (c9 (getD_ne h (by decide))), fun h => (c10 (getD_ne h (by decide))), fun _ => rfl, fun h => (c12 (getD_ne h (by decide))), fun h => (c13 (getD_ne h (by decide))), fun h => (c14 (getD_ne h (by decide))), fun h => (c15 (getD_ne h (by decide))), fun h => (c16 (getD_ne h (by decide))), fun h => (c17 (getD_ne h (by decide))), fun h => (c18 (getD_ne h (by decide))), fun h => (c19 (getD_ne h (by decide)))⟩)
    · -- 12
      obtain rfl := c6 (by have hd := ready_deps hi (o := _) rfl; exact hd ⟨6, .guard⟩ (by simp) (by rfl))
      refine wpOp_step rfl (fun K' hK' => ?_)
      have HK : Hid (∀ a w, K a w → K' a w) := hK'
      have HK2 : Hid (type_of% hK) := hK
      clear hK hK' 
      rw [if_pos (show Region.wanted _ _ = true from rfl)]
      go_simp
      exact HK.out _ _ (HK2.out _ _ ⟨by simp [hls], rfl, _, _, _, _, _, _, _, _, _, _, _, _, _, _, _, _, _, _, _, _, rfl, fun h => (c0 (getD_ne h (by decide))), fun h => (c1 (getD_ne h (by decide))), fun h => (c2 (getD_ne h (by decide))), fun h => (c3 (getD_ne h (by decide))), fun h => (c4 (getD_ne h (by decide))), fun h => (c5 (getD_ne h (by decide))), fun h => (c6 (getD_ne h (by decide))), fun h => (c7 (getD_ne h (by decide))), fun h => (c8 (getD_ne h (by decide))), fun h => (c9 (getD_ne h (by decide))), fun h => (c10 (getD_ne h (by decide))), fun h => (c11 (getD_ne h (by decide))), fun _ => rfl, fun h => (c13 (getD_ne h (by decide))), fun h => (c14 (getD_ne h (by decide))), fun h => (c15 (getD_ne h (by decide))), fun h => (c16 (getD_ne h (by decide))), fun h => (c17 (getD_ne h (by decide))), fun h => (c18 (getD_ne h (by decide))), fun h => (c19 (getD_ne h (by decide)))⟩)
    · -- 13
      obtain rfl := c12 (by have hd := ready_deps hi (o := _) rfl; exact hd ⟨12, .data⟩ (by simp) (by rfl))
      obtain rfl := c6 (by have hd := ready_deps hi (o := _) rfl; exact hd ⟨6, .guard⟩ (by simp) (by rfl))
      refine wpOp_step rfl (fun K' hK' => ?_)
      have HK : Hid (∀ a w, K a w → K' a w) := hK'
      have HK2 : Hid (type_of% hK) := hK
      clear hK hK' 
      rw [if_pos (show Region.wanted _ _ = true from rfl)]
      go_simp
      exact HK.out _ _ (HK2.out _ _ ⟨by simp [hls], rfl, _, _, _, _, _, _, _, _, _, _, _, _, _, _, _, _, _, _, _, _, rfl, fun h => (c0 (getD_ne h (by decide))), fun h => (c1 (getD_ne h (by decide))), fun h => (c2 (getD_ne h (by decide))), fun h => (c3 (getD_ne h (by decide))), fun h => (c4 (getD_ne h (by decide))), fun h => (c5 (getD_ne h (by decide))), fun h => (c6 (getD_ne h (by decide))), fun h => (c7 (getD_ne h (by decide))), fun h => (c8 (getD_ne h (by decide))), fun h => (c9 (getD_ne h (by decide))), fun h => (c10 (getD_ne h (by decide))), fun h => (c11 (getD_ne h (by decide))), fun h => (c12 (getD_ne h (by decide))), fun _ => rfl, fun h => (c14 (getD_ne h (by decide))), fun h => (c15 (getD_ne h (by decide))), fun h => (c16 (getD_ne h (by decide))), fun h => (c17 (getD_ne h (by decide))), fun h => (c18 (getD_ne h (by decide))), fun h => (c19 (getD_ne h (by decide)))⟩)
    · -- 14
      obtain rfl := c13 (by have hd := ready_deps hi (o := _) rfl; exact hd ⟨13, .data⟩ (by simp) (by rfl))
      obtain rfl := c6 (by have hd := ready_deps hi (o := _) rfl; exact hd ⟨6, .guard⟩ (by simp) (by rfl))
      refine wpOp_step rfl (fun K' hK' => ?_)
      have HK : Hid (∀ a w, K a w → K' a w) := hK'
      have HK2 : Hid (type_of% hK) := hK
      clear hK hK' 
      rw [if_pos (show Region.wanted _ _ = true from rfl)]
      go_simp
      exact HK.out _ _ (HK2.out _ _ ⟨by simp [hls], rfl, _, _, _, _, _, _, _, _, _, _, _, _, _, _, _, _, _, _, _, _, rfl, fun h => (c0 (getD_ne h (by decide))), fun h => (c1 (getD_ne h (by decide))), fun h => (c2 (getD_ne h (by decide))), fun h => (c3 (getD_ne h (by decide))), fun h => (c4 (getD_ne h (by decide))), fun h => (c5 (getD_ne h (by decide))), fun h => (c6 (getD_ne h (by decide))), fun h => (c7 (getD_ne h (by decide))), fun h => (c8 (getD_ne h (by decide))), fun h => (c9 (getD_ne h (by decide))), fun h => (c10 (getD_ne h (by decide))), fun h => (c11 (getD_ne h (by decide))), fun h => (c12 (getD_ne h (by decide))), fun h => (c13 (getD_ne h (by decide))), fun _ => rfl, fun h => (c15 (getD_ne h (by decide))), fun h => (c16 (getD_ne h (by decide))), fun h => (c17 (getD_ne h (by decide))), fun h => (c18 (getD_ne h (by decide))), fun h => (c19 (getD_ne h (by decide)))⟩)
    · -- 15
      obtain rfl := c14 (by have hd := ready_deps hi (o := _) rfl; exact hd ⟨14, .data⟩ (by simp) (by rfl))
      obtain rfl := c6 (by have hd := ready_deps hi (o := _) rfl; exact hd ⟨6, .guard⟩ (by simp) (by rfl))
      refine wpOp_step rfl (fun K' hK' => ?_)
      have HK : Hid (∀ a w, K a w → K' a w) := hK'
      have HK2 : Hid (type_of% hK) := hK
      clear hK hK' 
      rw [if_pos (show Region.wanted _ _ = true from rfl)]
      go_simp
      exact HK.out _ _ (HK2.out _ _ ⟨by simp [hls], rfl, _, _, _, _, _, _, _, _, _, _, _, _, _, _, _, _, _, _, _, _, rfl, fun h => (c0 (getD_ne h (by decide))), fun h => (c1 (getD_ne h (by decide))), fun h => (c2 (getD_ne h (by decide))), fun h => (c3 (getD_ne h (by decide))), fun h => (c4 (getD_ne h (by decide))), fun h => (c5 (getD_ne h (by decide))), fun h => (c6 (getD_ne h (by decide))), fun h => (c7 (getD_ne h (by decide))), fun h => (c8 (getD_ne h (by decide))), fun h => (c9 (getD_ne h (by decide))), fun h => (c10 (getD_ne h (by decide))), fun h => (c11 (getD_ne h (by decide))), fun h => (c12 (getD_ne h (by decide))), fun h => (c13 (getD_ne h (by decide))), fun h => (c14 (getD_ne h (by decide))), fun _ => rfl, fun h => (c16 (getD_ne h (by decide))), fun h => (c17 (getD_ne h (by decide))), fun h => (c18 (getD_ne h (by decide))), fun h => (c19 (getD_ne h (by decide)))⟩)
    · -- 16
      obtain rfl := c15 (by have hd := ready_deps hi (o := _) rfl; exact hd ⟨15, .data⟩ (by simp) (by rfl))
      obtain rfl := c6 (by have hd := ready_deps hi (o := _) rfl; exact hd ⟨6, .guard⟩ (by simp) (by rfl))
      refine wpOp_step rfl (fun K' hK' => ?_)
      have HK : Hid (∀ a w, K a w → K' a w) := hK'
      have HK2 : Hid (type_of% hK) := hK
      clear hK hK' 
      rw [if_pos (show Region.wanted _ _ = true from rfl)]
      go_simp
      exact HK.out _ _ (HK2.out _ _ ⟨by simp [hls], rfl, _, _, _, _, _, _, _, _, _, _, _, _, _, _, _, _, _, _, _, _, rfl, fun h => (c0 (getD_ne h (by decide))), fun h => (c1 (getD_ne h (by decide))), fun h => (c2 (getD_ne h (by decide))), fun h => (c3 (getD_ne h (by decide))), fun h => (c4 (getD_ne h (by decide))), fun h => (c5 (getD_ne h (by decide))), fun h => (c6 (getD_ne h (by decide))), fun h => (c7 (getD_ne h (by decide))), fun h => (c8 (getD_ne h (by decide))), fun h => (c9 (getD_ne h (by decide))), fun h => (c10 (getD_ne h (by decide))), fun h => (c11 (getD_ne h (by decide))), fun h => (c12 (getD_ne h (by decide))), fun h => (c13 (getD_ne h (by decide))), fun h => (c14 (getD_ne h (by decide))), fun h => (c15 (getD_ne h (by decide))), fun _ => rfl, fun h => (c17 (getD_ne h (by decide))), fun h => (c18 (getD_ne h (by decide))), fun h => (c19 (getD_ne h (by decide)))⟩)
    · -- 17
      obtain rfl := c11 (by have hd := ready_deps hi (o := _) rfl; exact hd ⟨11, .data⟩ (by simp) (by rfl))
      obtain rfl := c16 (by have hd := ready_deps hi (o := _) rfl; exact hd ⟨16, .data⟩ (by simp) (by rfl))
      obtain rfl := c6 (by have hd := ready_deps hi (o := _) rfl; exact hd ⟨6, .guard⟩ (by simp) (by rfl))
      refine wpOp_step rfl (fun K' hK' => ?_)
      have HK : Hid (∀ a w, K a w → K' a w) := hK'
      have HK2 : Hid (type_of% hK) := hK
      clear hK hK' 
      rw [if_pos (show Region.wanted _ _ = true from rfl)]
      go_simp
      go_at_call 93
      refine CW.out.mono ?_
      rintro e W9 ⟨rfl, hw9⟩
      have hw9 := hw9.symm
      subst hw9
      (try go_simp)
      exact HK.out _ _ (HK2.out _ _ ⟨by simp [hls], rfl, _, _, _, _, _, _, _, _, _, _, _, _, _, _, _, _, _, _, _, _, rfl, fun h => (c0 (getD_ne h (by decide))), fun h => (c1 (getD_ne h (by decide))), fun h => (c2 (getD_ne h (by decide))), fun h => (c3 (getD_ne h (by decide))), fun h => (c4 (getD_ne h (by decide))), fun h => (c5 (getD_ne h (by decide))), fun h => (c6 (getD_ne h (by decide))), fun h => (c7 (getD_ne h (by decide))), fun h => (c8 (getD_ne h (by decide))), fun h => (c9 (getD_ne h (by decide))), fun h => (c10 (getD_ne h (by decide))), fun h => (c11 (getD_ne h (by decide))), fun h => (c12 (getD_ne h (by decide))), fun h => (c13 (getD_ne h (by decide))), fun h => (c14 (getD_ne h (by decide))), fun h => (c15 (getD_ne h (by decide))), fun h => (c16 (getD_ne h (by decide))), fun _ => rfl, fun h => (c18 (getD_ne h (by decide))), fun h => (c19 (getD_ne h (by decide)))⟩)
    · -- 18
      obtain rfl := c7 (by have hd := ready_deps hi (o := _) rfl; exact hd ⟨7, .data⟩ (by simp) (by rfl))
      obtain rfl := c17 (by have hd := ready_deps hi (o := _) rfl; exact hd ⟨17, .data⟩ (by simp) (by rfl))
      obtain rfl := c6 (by have hd := ready_deps hi (o := _) rfl; exact hd ⟨6, .guard⟩ (by simp) (by rfl))
      refine wpOp_step rfl (fun K' hK' => ?_)
      have HK : Hid (∀ a w, K a w → K' a w) := hK'
      have HK2 : Hid (type_of% hK) := hK
      clear hK hK' 
      rw [if_pos (show Region.wanted _ _ = true from rfl)]
      go_simp
      exact HK.out _ _ (HK2.out _ _ ⟨by simp [hls], rfl, _, _, _, _, _, _, _, _, _, _, _, _, _, _, _, _, _, _, _, _, rfl, fun h => (c0 (getD_ne h (by decide))), fun h => (c1 (getD_ne h (by decide))), fun h => (c2 (getD_ne h (by decide))), fun h => (c3 (getD_ne h (by decide))), fun h => (c4 (getD_ne h (by decide))), fun h => (c5 (getD_ne h (by decide))), fun h => (c6 (getD_ne h (by decide))), fun h => (c7 (getD_ne h (by decide))), fun h => (c8 (getD_ne h (by decide))), fun h => (c9 (getD_ne h (by decide))), fun h => (c10 (getD_ne h (by decide))), fun h => (c11 (getD_ne h (by decide))), fun h => (c12 (getD_ne h (by decide))), fun h => (c13 (getD_ne h (by decide))), fun h => (c14 (getD_ne h (by decide))), fun h => (c15 (getD_ne h (by decide))), fun h => (c16 (getD_ne h (by decide))), fun h => (c17 (getD_ne h (by decide))), fun _ => rfl, fun h => (c19 (getD_ne h (by decide)))⟩)
    · -- 19
      obtain rfl := c6 (by have hd := ready_deps hi (o := _) rfl; exact hd ⟨6, .data⟩ (by simp) (by rfl))
      obtain rfl := c18 (by have hd := ready_deps hi (o := _) rfl; exact hd ⟨18, .data⟩ (by simp) (by rfl))
      refine wpOp_step rfl (fun K' hK' => ?_)
      have HK : Hid (∀ a w, K a w → K' a w) := hK'
      have HK2 : Hid (type_of% hK) := hK
      clear hK hK' 
      go_simp
      exact HK.out _ _ (HK2.out _ _ ⟨by simp [hls], rfl, _, _, _, _, _, _, _, _, _, _, _, _, _, _, _, _, _, _, _, _, rfl, fun h => (c0 (getD_ne h (by decide))), fun h => (c1 (getD_ne h (by decide))), fun h => (c2 (getD_ne h (by decide))), fun h => (c3 (getD_ne h (by decide))), fun h => (c4 (getD_ne h (by decide))), fun h => (c5 (getD_ne h (by decide))), fun h => (c6 (getD_ne h (by decide))), fun h => (c7 (getD_ne h (by decide))), fun h => (c8 (getD_ne h (by decide))), fun h => (c9 (getD_ne h (by decide))), fun h => (c10 (getD_ne h (by decide))), fun h => (c11 (getD_ne h (by decide))), fun h => (c12 (getD_ne h (by decide))), fun h => (c13 (getD_ne h (by decide))), fun h => (c14 (getD_ne h (by decide))), fun h => (c15 (getD_ne h (by decide))), fun h => (c16 (getD_ne h (by decide))), fun h => (c17 (getD_ne h (by decide))), fun h => (c18 (getD_ne h (by decide))), fun _ => rfl⟩)

theorem send_any (s : Ses) (k : Int) (e B : Nat) (vi vw va : Value) (w : World) (h : Ex w e B s vi vw va) (hg : Gd s) :
    Calls Try.prog 79 #[.pointer (some ⟨e, 0, none⟩), .int .i64 k] w fun r w' => r = .returned (.bool (sendK s k)) ∧ ∃ v9, Ex w' e B (if sendK s k = true then sendS s k else s) vi v9 va ∧ Tch w w' (PX e vi vw va) (PX e vi v9 va) := by
  obtain ⟨ai, ci, rfl, _⟩ := h.r.at.i
  by_cases hb : k < s.base
  · have hK : sendK s k = false := by
      unfold sendK
      rw [decide_eq_false (show ¬ s.base ≤ k by omega)]
      rfl
    rw [hK, if_neg (by decide)]
    exact (sendA s k e B ai ci vw va w h hg hb).mono fun r w' hh => ⟨hh.1, _, hh.2.out⟩
  have hb' : s.base ≤ k := by omega
  by_cases hk : k < s.base + 4 ∧ k < (s.items.length : Int)
  · have hK : sendK s k = decide (s.way.length < 12) := by
      unfold sendK
      rw [decide_eq_true hb', decide_eq_true hk.1, decide_eq_true hk.2]
      rfl
    rw [hK]
    refine (sendB s k e B ai ci vw va w h hg hb' hk.1 hk.2).mono fun r w' hh => ⟨hh.1, ?_⟩
    obtain ⟨v9, hE, hT⟩ := hh.2.out
    refine ⟨v9, ?_, hT⟩
    by_cases h12 : s.way.length < 12
    · rw [if_pos h12] at hE
      rw [if_pos (decide_eq_true h12)]
      exact hE
    · rw [if_neg h12] at hE
      rw [if_neg (by simpa using h12)]
      exact hE
  · have hK : sendK s k = false := by
      unfold sendK
      by_cases h1 : k < s.base + 4
      · rw [decide_eq_false (show ¬ k < (s.items.length : Int) from fun h2 => hk ⟨h1, h2⟩)]; simp
      · rw [decide_eq_false h1]; simp
    rw [hK, if_neg (by decide)]
    exact (sendC s k e B ai ci vw va w h hg hb' hk).mono fun r w' hh => ⟨hh.1, _, hh.2.out⟩

end Go.Proofs.Ytnlppeieccbhgaa
