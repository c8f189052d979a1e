/- The model's tree of a term, and its GoodTerm. -/
import Derived.Test.YtlmhjkcollohnaaDoorTmG
namespace Go.Proofs.YtlmhjkcollohnaaDoor
open Go.RowKit Plain Sch Trm

/-- what the model's tree of a term is -/
def TreeOut (T : List Ce) (w : World) (e : Ending) (w' : World) : Prop :=
  ((∃ x ac lc cc, gt T = true ∧ tre T = some x ∧ e = .returned (.tuple #[.agg #[.int .i64 x.v, .string x.name, .slice ac lc cc], .bool true]) ∧ TKids 31 w' (fun g => w.heap.size ≤ g ∧ g < w'.heap.size) (.slice ac lc cc) x.kids) ∨
    (gt T = false ∧ ∃ v name ac lc cc, e = .returned (.tuple #[.agg #[.int .i64 v, .string name, .slice ac lc cc], .bool false]))) ∧ Below w.heap.size w w'

set_option maxRecDepth 100000 in
set_option maxHeartbeats 4000000 in
theorem l6Tree_any (T : List Ce) (v : Value) (w : World) (hT : CesAt w w.heap.size v T) :
    Calls Tryd.prog 39 #[.agg #[v]] w (TreeOut T w) := by
  have HT : Hid (CesAt w w.heap.size v T) := hT
  obtain ⟨ao, cap, rfl, hlc, hcm, _⟩ := hT
  unfold maxLen at hcm
  by_cases h30 : T.length ≤ 30
  · have h30' : (T.length : Int) ≤ 30 := by omega
    obtain ⟨W2, hW2⟩ : ∃ W, W = (w.alloc (.cells #[.slice ao T.length cap] 30)).alloc (.cells #[.int .i64 0, .string ⟨#[]⟩, .slice none 0 0] 66) := ⟨_, rfl⟩
    have hB2 : Below w.heap.size w W2 := by rw [hW2]; exact ((Below.refl _ w).alloc (Nat.le_refl _) _).alloc (by simp) _
    have HS2 : Hid (W2.heap.size = w.heap.size + 2) := by show _ = _; rw [hW2]; simp
    have x0 : W2.cell? ⟨w.heap.size, 0, none⟩ = some (.slice ao T.length cap) := by rw [hW2]; go_simp
    have y0 : W2.cell? ⟨w.heap.size + 1, 0, none⟩ = some (.int .i64 0) := by rw [hW2]; go_simp
    have y1 : W2.cell? ⟨w.heap.size + 1, 1, none⟩ = some (.string ⟨#[]⟩) := by rw [hW2]; go_simp
    have y2 : W2.cell? ⟨w.heap.size + 1, 2, none⟩ = some (.slice none 0 0) := by rw [hW2]; go_simp
    have yz : ∀ j, W2.frozen? ⟨w.heap.size + 1, j, none⟩ = false := by intro j; rw [hW2]; go_simp
    have hC := l6Read_any T (.slice ao T.length cap) (by omega) 31 0 W2 (HT.out.below hB2) (by omega) (by omega)
    have HC : Hid (Calls Tryd.prog 75 #[.slice ao T.length cap, .int .i64 0] W2 (RdOut 31 T 0 W2)) := hC
    clear hC
    go_enter Tryd.func39, Tryd.ntmps39
    go_wp2_with fail
    rw [← hW2]
    clear hW2
    refine HC.out.mono ?_
    rintro e w3 ⟨hcase, hb3⟩
    have hB3 : Below w.heap.size w w3 := hB2.trans (hb3.mono hB2.size)
    have hs3 := hb3.size
    have hsx : w.heap.size < W2.heap.size := by rw [HS2.out]; omega
    have hsy : w.heap.size + 1 < W2.heap.size := by rw [HS2.out]; omega
    -- what was told, in one form
    obtain ⟨xv, xn, ac, lc, cc, en, he, hE⟩ : ∃ (xv : Int) (xn : ByteArray) (ac : Option Addr) (lc cc en : Nat), e = .returned (.tuple #[.agg #[.int .i64 xv, .string xn, .slice ac lc cc], .int .i64 (en : Int)]) ∧ Hid ((0 < en ∧ en = T.length ∧ gt T = true ∧ ∃ x, tre T = some x ∧ x.v = xv ∧ x.name = xn ∧ TKids 31 w3 (fun g => W2.heap.size ≤ g ∧ g < w3.heap.size) (.slice ac lc cc) x.kids) ∨ (¬ (0 < en ∧ en = T.length) ∧ gt T = false)) := by
      rcases hcase with ⟨x, r, ac, lc, cc, hrd, rfl, hkid⟩ | ⟨hrd, rfl⟩
      · rw [List.drop_zero] at hrd
        obtain ⟨k, hk0, hk1, hk2⟩ := (rd_rest 31).1 _ _ _ hrd
        refine ⟨x.v, x.name, ac, lc, cc, T.length - r.length, rfl, ?_⟩
        have hrl : r.length = T.length - k := by rw [hk2, List.length_drop]
        by_cases hr : r = []
        · subst hr
          left
          have ht := tre_of hrd
          refine ⟨by simp; omega, by simp, ?_, x, ht, rfl, rfl, hkid⟩
          rw [← tre_gt T h30, ht]; rfl
        · right
          have : 0 < r.length := List.length_pos_iff.2 hr
          refine ⟨by omega, ?_⟩
          rw [← tre_gt T h30]
          unfold tre
          rw [hrd]
          cases r with
          | nil => exact absurd rfl hr
          | cons _ _ => rfl
      · rw [List.drop_zero] at hrd
        refine ⟨0, ⟨#[]⟩, none, 0, 0, 0, rfl, .inr ⟨by omega, ?_⟩⟩
        rw [← tre_gt T h30]
        unfold tre
        rw [hrd]; rfl
    subst he
    clear hcase HC
    obtain ⟨W4, hW4⟩ : ∃ W, W = w3.alloc (.cells #[.int .i64 xv, .string xn, .slice ac lc cc] 66) := ⟨_, rfl⟩
    have hb4 : Below w3.heap.size w3 W4 := by rw [hW4]; exact (Below.refl _ w3).alloc (Nat.le_refl _) _
    have hB4 : Below w.heap.size w W4 := hB3.trans (hb4.mono hB3.size)
    have HS4 : Hid (W4.heap.size = w3.heap.size + 1) := by show _ = _; rw [hW4]; simp
    have q0 : W4.cell? ⟨w3.heap.size, 0, none⟩ = some (.int .i64 xv) := by rw [hW4]; go_simp
    have q1 : W4.cell? ⟨w3.heap.size, 1, none⟩ = some (.string xn) := by rw [hW4]; go_simp
    have q2 : W4.cell? ⟨w3.heap.size, 2, none⟩ = some (.slice ac lc cc) := by rw [hW4]; go_simp
    have hsx3 : w.heap.size < w3.heap.size := by omega
    have hsy3 : w.heap.size + 1 < w3.heap.size := by omega
    have x0 := (hb4.cell (p := ⟨w.heap.size, 0, none⟩) hsx3).trans ((hb3.cell (p := ⟨w.heap.size, 0, none⟩) hsx).trans x0)
    have y0 := (hb4.cell (p := ⟨w.heap.size + 1, 0, none⟩) hsy3).trans ((hb3.cell (p := ⟨w.heap.size + 1, 0, none⟩) hsy).trans y0)
    have y1 := (hb4.cell (p := ⟨w.heap.size + 1, 1, none⟩) hsy3).trans ((hb3.cell (p := ⟨w.heap.size + 1, 1, none⟩) hsy).trans y1)
    have y2 := (hb4.cell (p := ⟨w.heap.size + 1, 2, none⟩) hsy3).trans ((hb3.cell (p := ⟨w.heap.size + 1, 2, none⟩) hsy).trans y2)
    have z0 := (hb4.frozen (p := ⟨w.heap.size + 1, 0, none⟩) hsy3).trans ((hb3.frozen (p := ⟨w.heap.size + 1, 0, none⟩) hsy).trans (yz 0))
    have z1 := (hb4.frozen (p := ⟨w.heap.size + 1, 1, none⟩) hsy3).trans ((hb3.frozen (p := ⟨w.heap.size + 1, 1, none⟩) hsy).trans (yz 1))
    have z2 := (hb4.frozen (p := ⟨w.heap.size + 1, 2, none⟩) hsy3).trans ((hb3.frozen (p := ⟨w.heap.size + 1, 2, none⟩) hsy).trans (yz 2))
    have hE4 : Hid (∀ w' : World, (∀ g, w.heap.size + 2 ≤ g → g < w3.heap.size → w'.heap[g]? = W4.heap[g]?) → w3.heap.size ≤ w'.heap.size → Below w.heap.size w w' → TreeOut T w (.returned (.tuple #[.agg #[.int .i64 xv, .string xn, .slice ac lc cc], .bool (decide (0 < (en : Int)) && ((en : Int) == (T.length : Int)))])) w') := by
      intro w' h1 h2 h3
      refine ⟨?_, h3⟩
      rcases hE.out with ⟨e1, e2, e3, x, e4, e5, e6, e7⟩ | ⟨e1, e2⟩
      · left
        have hd : (decide (0 < (en : Int)) && ((en : Int) == (T.length : Int))) = true := by simp; omega
        rw [hd]
        refine ⟨x, ac, lc, cc, e3, e4, by rw [e5, e6], e7.kept (fun g hg => ?_) (fun g hg => ?_)⟩
        · rw [HS2.out] at hg
          rw [h1 g hg.1 hg.2, hb4.block g hg.2]
        · rw [HS2.out] at hg
          omega
      · right
        have hd : (decide (0 < (en : Int)) && ((en : Int) == (T.length : Int))) = false := by
          by_cases h0 : 0 < en
          · have : ¬ en = T.length := fun h => e1 ⟨h0, h⟩
            simp; omega
          · simp; omega
        rw [hd]
        exact ⟨e2, xv, xn, ac, lc, cc, rfl⟩
    clear hE hb3 hb4 hB3 hB2 hsx hsy yz
    go_upto_region 4 with fail
    rw [← hW4]
    clear hW4
    by_cases hen : 0 < en
    · have hen' : (0 : Int) < (en : Int) := by omega
      have hdd : decide (0 < (en : Int)) = true := by simpa using hen'
      have hE5 : Hid (∀ w' : World, (∀ g, w.heap.size + 2 ≤ g → g < w3.heap.size → w'.heap[g]? = W4.heap[g]?) → w3.heap.size ≤ w'.heap.size → Below w.heap.size w w' → TreeOut T w (.returned (.tuple #[.agg #[.int .i64 xv, .string xn, .slice ac lc cc], .bool ((en : Int) == (T.length : Int))])) w') := by
        intro w' h1 h2 h3
        have := hE4.out w' h1 h2 h3
        rw [hdd, Bool.true_and] at this
        exact this
      clear hE4 hdd
      go_region
      all_goals
        go_wp2
        (try simp only [Exit.inBlock, Exit.then])
        refine bodyPost_ret (v := .tuple #[.agg #[.int .i64 xv, .string xn, .slice ac lc cc], .bool ((en : Int) == (T.length : Int))]) ?_ rfl (hE5.out _ ?_ ?_ ?_)
        · rw [results_cell_tmp rfl]
          go_simp
        · intro g h1 h2
          first
            | (change (World.setCell _ _ _).heap[g]? = _; repeat rw [Below.heap_setCell _ _ _ _ (by show g ≠ w.heap.size + 1; omega)])
            | (repeat rw [Below.heap_setCell _ _ _ _ (by show g ≠ w.heap.size + 1; omega)]; rfl)
        · simp; have := HS4.out; omega
        · repeat' (first | exact hB4 | exact hB4.drew | refine Below.setCell ?_ (by simp) _ | refine Below.drew ?_)
    · have hen0 : en = 0 := by omega
      subst hen0
      have hE5 : Hid (∀ w' : World, (∀ g, w.heap.size + 2 ≤ g → g < w3.heap.size → w'.heap[g]? = W4.heap[g]?) → w3.heap.size ≤ w'.heap.size → Below w.heap.size w w' → TreeOut T w (.returned (.tuple #[.agg #[.int .i64 xv, .string xn, .slice ac lc cc], .bool false])) w') := by
        intro w' h1 h2 h3
        exact hE4.out w' h1 h2 h3
      clear hE4
      go_region
      all_goals
        go_wp2
        (try simp only [Exit.inBlock, Exit.then])
        refine bodyPost_ret (v := .tuple #[.agg #[.int .i64 xv, .string xn, .slice ac lc cc], .bool false]) ?_ rfl (hE5.out _ ?_ ?_ ?_)
        · rw [results_cell_tmp rfl]
          go_simp
        · intro g h1 h2
          first
            | (change (World.setCell _ _ _).heap[g]? = _; repeat rw [Below.heap_setCell _ _ _ _ (by show g ≠ w.heap.size + 1; omega)])
            | (repeat rw [Below.heap_setCell _ _ _ _ (by show g ≠ w.heap.size + 1; omega)]; rfl)
        · simp; have := HS4.out; omega
        · repeat' (first | exact hB4 | exact hB4.drew | refine Below.setCell ?_ (by simp) _ | refine Below.drew ?_)
  · have hR : Hid (gt T = false) := by show _ = _; unfold gt; simp [h30]
    have h30' : (30 : Int) < (T.length : Int) := by omega
    clear h30
    go_enter Tryd.func39, Tryd.ntmps39
    go_wp2
    (try simp only [Exit.inBlock, Exit.then])
    refine bodyPost_ret (v := .tuple #[.agg #[.int .i64 0, .string ⟨#[]⟩, .slice none 0 0], .bool false]) ?_ rfl ⟨.inr ⟨hR.out, 0, ⟨#[]⟩, none, 0, 0, rfl⟩, ?_⟩
    · rw [results_cell_tmp rfl]
      go_simp
    · repeat' (first | exact Below.refl _ _ | refine Below.alloc ?_ (by simp <;> omega) _ | refine Below.setCell ?_ (by simp <;> omega) _)

theorem TreeOut.form {T : List Ce} {w w' : World} {e : Ending} (h : TreeOut T w e w') : ∃ v name ac lc cc, e = .returned (.tuple #[.agg #[.int .i64 v, .string name, .slice ac lc cc], .bool (gt T)]) ∧ Below w.heap.size w w' ∧ Hid (gt T = true → ∃ x, tre T = some x ∧ x.v = v ∧ x.name = name ∧ TKids 31 w' (fun g => w.heap.size ≤ g ∧ g < w'.heap.size) (.slice ac lc cc) x.kids) := by
  obtain ⟨h | h, hb⟩ := h
  · obtain ⟨x, ac, lc, cc, h1, h2, rfl, h4⟩ := h
    exact ⟨x.v, x.name, ac, lc, cc, by rw [h1], hb, fun _ => ⟨x, h2, rfl, rfl, h4⟩⟩
  · obtain ⟨h1, v, name, ac, lc, cc, rfl⟩ := h
    exact ⟨v, name, ac, lc, cc, by rw [h1], hb, fun h => by rw [h1] at h; cases h⟩

set_option maxRecDepth 100000 in
set_option maxHeartbeats 4000000 in
theorem specGoodT (T : List Ce) (v : Value) (w : World) (hT : CesAt w w.heap.size v T) :
    Calls Tryd.prog 71 #[.agg #[v]] w fun e w' => e = .returned (.bool (gt T)) ∧ Below w.heap.size w w' := by
  have HT : Hid (CesAt w w.heap.size v T) := hT
  obtain ⟨ao, cap, rfl, _⟩ := hT
  have hB1 : ∀ o, Below w.heap.size w (w.alloc o) := fun o => (Below.refl _ w).alloc (Nat.le_refl _) o
  go_enter Tryd.func71, Tryd.ntmps71
  go_wp2_with fail
  refine (l6Tree_any T _ _ (HT.out.below (hB1 _))).mono ?_
  intro e w2 h2
  obtain ⟨xv, xn, ac, lc, cc, rfl, hb2, _⟩ := h2.form
  clear h2
  have hB2 : Below w.heap.size w w2 := (hB1 _).trans (hb2.mono (by simp))
  go_wp2
  go_ret
  exact ⟨rfl, hB2.alloc hB2.size _⟩

end Go.Proofs.YtlmhjkcollohnaaDoor
