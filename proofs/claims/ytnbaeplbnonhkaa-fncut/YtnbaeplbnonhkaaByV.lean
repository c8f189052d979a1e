/- The model's l9Boxes, UnionHas. -/
import Derived.Test.YtnbaeplbnonhkaaByU
import Derived.Test.YtnbaeplbnonhkaaBxF
namespace Go.Proofs.Ytnbaeplbnonhkaa
open Go.RowKit Plain Sch Bxs

set_option maxRecDepth 100000 in
set_option maxHeartbeats 4000000 in
theorem l9Boxes_any (M : List (List Sd)) (v : Value) (w : World) (hT : BxsAt w w.heap.size v M) :
    Calls Try.prog 46 #[v] w fun e w' => e = .returned (.bool (gl M)) ∧ Below w.heap.size w w' := by
  obtain ⟨ao, cap, rfl, hlc, hcm, hrow⟩ := hT
  unfold maxLen at hcm
  have HROW : Hid (∀ i, i < M.length → ∃ g o u, ao = some ⟨g, o, none⟩ ∧ g < w.heap.size ∧ w.cell? ⟨g, o + i, none⟩ = some u ∧ SdsAt w w.heap.size u (mx M i)) := hrow
  clear hrow
  obtain ⟨R, hR⟩ : ∃ R, R = gl M := ⟨_, rfl⟩
  rw [← hR]
  have HR : Hid (R = gl M) := hR
  clear hR
  go_enter Try.func46, Try.ntmps46
  go_wp2
  go_loopw [7] (fun vi wr => ∃ i : Nat, i ≤ M.length ∧ vi = .int .i64 (i : Int) ∧ Hid (∀ j, j < i → gb (mx M j) = true) ∧ Hid (Below w.heap.size w wr))
    (fun vi _ => M.length - (intOf vi).toNat)
  case atStart => exact ⟨0, by omega, rfl, fun j hj => by omega, Below.refl _ _⟩
  case round =>
    obtain ⟨i, hi, rfl, hall, hBw⟩ := hrel
    by_cases hlt : i < M.length
    · have hlt' : (i : Int) < (M.length : Int) := by omega
      obtain ⟨g, o, u, rfl, hg, hc, hs⟩ := HROW.out i hlt
      have c0 := (hBw.out.cell (p := ⟨g, o + i, none⟩) hg).trans hc
      have hs2 := hs.below hBw.out
      obtain ⟨su, cu, rfl, _⟩ := hs
      obtain ⟨W3, hW3⟩ : ∃ W, W = wr.alloc (.cells #[.slice su (mx M i).length cu] 25) := ⟨_, rfl⟩
      have hA3 : Below wr.heap.size wr W3 := by rw [hW3]; exact (Below.refl _ wr).alloc (Nat.le_refl _) _
      have z0 : W3.cell? ⟨wr.heap.size, 0, none⟩ = some (.slice su (mx M i).length cu) := by rw [hW3]; go_simp
      have HS3 : Hid (SdsAt W3 W3.heap.size (.slice su (mx M i).length cu) (mx M i)) := hs2.below hA3
      clear hc hs2
      go_upto_region 4 with fail
      rw [← hW3]
      clear hW3 c0
      go_wp2_with fail
      refine (specGoodB (mx M i) _ _ HS3.out).mono ?_
      rintro e w4 ⟨rfl, hb4⟩
      have HB4 : Hid (Below w.heap.size w w4) := (hBw.out.trans (hA3.mono hBw.out.size)).trans (hb4.mono (Nat.le_trans hBw.out.size hA3.size))
      obtain ⟨gk, hgk⟩ : ∃ g, g = gb (mx M i) := ⟨_, rfl⟩
      have HGK : Hid (gk = gb (mx M i)) := hgk
      rw [← hgk]
      clear hgk hb4 hA3 hBw z0 HS3
      cases gk with
      | false =>
        have hF : Hid (R = false) := HR.out.trans (gl_bad hlt HGK.out.symm)
        clear hall
        go_wp2
        go_ret
        exact ⟨by rw [hF.out]; rfl, HB4.out⟩
      | true =>
        have hN : Hid (∀ j, j < i + 1 → gb (mx M j) = true) := fun j hj => by
          by_cases e : j = i
          · rw [e]; exact HGK.out.symm
          · exact hall.out j (by omega)
        clear hall
        go_wp2
        go_roundw
        case rel => exact ⟨i + 1, by omega, by go_num, hN, HB4⟩
        case measure => simp [intOf]; omega
    · have hke : i = M.length := by omega
      subst hke
      have hge : ¬ ((M.length : Int) < (M.length : Int)) := by omega
      by_cases h20 : M.length ≤ 20
      · have hG : Hid (R = true) := HR.out.trans (gl_all h20 hall.out)
        have d3 : decide ((M.length : Int) ≤ 20) = true := by simp; omega
        clear hall
        go_wp2
        go_ret
        exact ⟨by rw [hG.out]; rfl, hBw.out⟩
      · have hG : Hid (R = false) := HR.out.trans (gl_len h20)
        have d3 : decide ((M.length : Int) ≤ 20) = false := by simp; omega
        have d4 : ¬ (M.length : Int) ≤ 20 := by omega
        clear hall
        go_wp2
        go_ret
        exact ⟨by rw [hG.out]; rfl, hBw.out⟩

theorem map_any {M : List (List Sd)} {i : Nat} {f : Bx → Bool} (h : i < M.length) (hf : f (bx (mx M i)) = true) : (M.map bx).any f = true := by
  rw [List.any_eq_true]
  exact ⟨_, List.mem_map_of_mem (mx_mem h), hf⟩

theorem map_none {M : List (List Sd)} {f : Bx → Bool} (h : ∀ i, i < M.length → f (bx (mx M i)) = false) : (M.map bx).any f = false := by
  rw [List.any_eq_false]
  intro x hx
  obtain ⟨y, hy, rfl⟩ := List.mem_map.1 hx
  obtain ⟨i, hi, he⟩ := List.getElem_of_mem hy
  have := h i hi
  unfold mx at this
  rw [List.getD, List.getElem?_eq_getElem hi, Option.getD_some, he] at this
  rw [this]; decide

set_option maxRecDepth 100000 in
set_option maxHeartbeats 4000000 in
theorem specUnion (M : List (List Sd)) (p : List Int) (v u : Value) (w : World) (hT : BxsAt w w.heap.size v M) (hp : ZAt w w.heap.size u p) :
    Calls Try.prog 30 #[v, u] w fun e w' => e = .returned (.tuple #[.bool (uno M p), .bool (gl M && gb (dup p))]) ∧ Below w.heap.size w w' := by
  have HT : Hid (BxsAt w w.heap.size v M) := hT
  have HP : Hid (ZAt w w.heap.size u p) := hp
  obtain ⟨ao, cap, rfl, hlc, hcm, hrow⟩ := hT
  obtain ⟨bo, dap, rfl, _⟩ := hp
  unfold maxLen at hcm
  have HROW : Hid (∀ i, i < M.length → ∃ g o u, ao = some ⟨g, o, none⟩ ∧ g < w.heap.size ∧ w.cell? ⟨g, o + i, none⟩ = some u ∧ SdsAt w w.heap.size u (mx M i)) := hrow
  clear hrow
  obtain ⟨R, hR⟩ : ∃ R, R = uno M p := ⟨_, rfl⟩
  obtain ⟨G, hG⟩ : ∃ G, G = (gl M && gb (dup p)) := ⟨_, rfl⟩
  rw [← hR, ← hG]
  have HR : Hid (R = uno M p) := hR
  have HG : Hid (G = (gl M && gb (dup p))) := hG
  clear hR hG
  go_enter Try.func30, Try.ntmps30
  go_wp2_with fail
  refine (l9Boxes_any M _ _ HT.out).mono ?_
  rintro e w2 ⟨rfl, hb2⟩
  by_cases h1 : gl M = true
  · rw [h1]
    go_wp2_with fail
    refine (l9Point_any p _ _ (HP.out.below hb2)).mono ?_
    rintro e w3 ⟨rfl, rfl⟩
    by_cases h2 : gb (dup p) = true
    · have HC : Hid (R = (M.map bx).any (fun x => cov x (bx (dup p))) ∧ G = true) := ⟨by rw [HR.out]; unfold uno; rw [h1, h2]; rfl, by rw [HG.out, h1, h2]; rfl⟩
      have h3 : p.length = 3 := by
        have h := congrArg List.length (gb_good h2).1
        rw [dup_len] at h
        exact h
      have HL3 : Hid (p.length = 3) := h3
      have HGM : Hid (∀ i, i < M.length → gb (mx M i) = true) := (gl_get h1).2
      rw [h2]
      clear h1 h2 h3 HR HG
      go_wp2
      go_loopw [18] (fun vi wr => ∃ i : Nat, i ≤ M.length ∧ vi = .int .i64 (i : Int) ∧ Hid (∀ j, j < i → cov (bx (mx M j)) (bx (dup p)) = false) ∧ Hid (Below w.heap.size w wr))
        (fun vi _ => M.length - (intOf vi).toNat)
      case atStart => exact ⟨0, by omega, rfl, fun j hj => by omega, hb2⟩
      case round =>
        obtain ⟨i, hi, rfl, hall, hBw⟩ := hrel
        by_cases hlt : i < M.length
        · have hlt' : (i : Int) < (M.length : Int) := by omega
          obtain ⟨g, o, u, rfl, hg, hc, hs⟩ := HROW.out i hlt
          have c0 := (hBw.out.cell (p := ⟨g, o + i, none⟩) hg).trans hc
          have hs2 := hs.below hBw.out
          obtain ⟨su, cu, rfl, _⟩ := hs
          obtain ⟨W3, hW3⟩ : ∃ W, W = wr.alloc (.cells #[.slice su (mx M i).length cu] 25) := ⟨_, rfl⟩
          have hA3 : Below wr.heap.size wr W3 := by rw [hW3]; exact (Below.refl _ wr).alloc (Nat.le_refl _) _
          have z0 : W3.cell? ⟨wr.heap.size, 0, none⟩ = some (.slice su (mx M i).length cu) := by rw [hW3]; go_simp
          have hB3 : Below w.heap.size w W3 := hBw.out.trans (hA3.mono hBw.out.size)
          have HS3 : Hid (SdsAt W3 W3.heap.size (.slice su (mx M i).length cu) (bx (mx M i)).list) := by
            have h := hs2.below hA3
            rw [(gb_good (HGM.out i hlt)).1] at h ⊢
            exact h
          clear hc hs2
          go_upto_region 6 with fail
          rw [← hW3]
          clear hW3 c0
          go_wp2_with fail
          refine (l9Has_any (bx (mx M i)) p _ _ _ HS3.out (HP.out.below hB3) HL3.out).mono ?_
          rintro e w4 ⟨rfl, hb4⟩
          have HB4 : Hid (Below w.heap.size w w4) := hB3.trans (hb4.mono hB3.size)
          obtain ⟨gk, hgk⟩ : ∃ g, g = cov (bx (mx M i)) (bx (dup p)) := ⟨_, rfl⟩
          have HGK : Hid (gk = cov (bx (mx M i)) (bx (dup p))) := hgk
          rw [← hgk]
          clear hgk hb4 hA3 hBw z0 HS3 hB3
          cases gk with
          | true =>
            have hF : Hid (R = true) := HC.out.1.trans (map_any hlt HGK.out.symm)
            clear hall
            go_wp2
            go_ret2
            exact ⟨by rw [hF.out, HC.out.2]; rfl, HB4.out⟩
          | false =>
            have hN : Hid (∀ j, j < i + 1 → cov (bx (mx M j)) (bx (dup p)) = false) := fun j hj => by
              by_cases e : j = i
              · rw [e]; exact HGK.out.symm
              · exact hall.out j (by omega)
            clear hall
            go_wp2
            go_roundw
            case rel => exact ⟨i + 1, by omega, by go_num, hN, HB4⟩
            case measure => simp [intOf]; omega
        · have hke : i = M.length := by omega
          subst hke
          have hge : ¬ ((M.length : Int) < (M.length : Int)) := by omega
          have hF : Hid (R = false) := HC.out.1.trans (map_none hall.out)
          clear hall
          go_wp2
          go_ret2
          exact ⟨by rw [hF.out, HC.out.2]; rfl, hBw.out⟩
    · have h2' : gb (dup p) = false := by simpa using h2
      have HC : Hid (R = false ∧ G = false) := ⟨by rw [HR.out]; unfold uno; rw [h1, h2']; rfl, by rw [HG.out, h1, h2']; rfl⟩
      rw [h2']
      clear h1 h2 h2'
      go_wp2
      go_ret2
      exact ⟨by rw [HC.out.1, HC.out.2]; rfl, hb2⟩
  · have h1' : gl M = false := by simpa using h1
    have HC : Hid (R = false ∧ G = false) := ⟨by rw [HR.out]; unfold uno; rw [h1']; rfl, by rw [HG.out, h1']; rfl⟩
    rw [h1']
    clear h1 h1'
    go_wp2
    go_ret2
    exact ⟨by rw [HC.out.1, HC.out.2]; rfl, hb2⟩

end Go.Proofs.Ytnbaeplbnonhkaa
