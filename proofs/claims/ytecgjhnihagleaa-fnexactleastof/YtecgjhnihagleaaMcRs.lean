/- The model's l12Order and ReachedOf. -/
import Derived.Test.YtecgjhnihagleaaMcF
import Derived.Test.YtecgjhnihagleaaCnA
import Derived.Test.YtecgjhnihagleaaMcRi
namespace Go.Proofs.Ytecgjhnihagleaa
open Go.RowKit Plain Mch Tpc

/-- where a good machine's row lies, and all its states -/
theorem MAt.row {w : World} {B : Nat} {M : List (List Int)} {E : List Bool} {ao : Option Addr} {cap n : Nat} (h : MAt w B (.slice ao n cap) M) (hg : gm M E = true) {i : Nat} (hi : i < M.length) :
    ∃ g o gu ou cu, ao = some ⟨g, o, none⟩ ∧ g < B ∧ w.cell? ⟨g, o + i, none⟩ = some (.slice (some ⟨gu, ou, none⟩) 3 cu) ∧ gu < B ∧ ∀ k, k < 3 → w.cell? ⟨gu, ou + k, none⟩ = some (.int .i64 ((nt M i k : Nat) : Int)) := by
  obtain ⟨a, c, hv, _, _, hr⟩ := h
  simp only [Value.slice.injEq] at hv
  obtain ⟨rfl, rfl, rfl⟩ := hv
  obtain ⟨g, o, u, ha, hg1, hc, hz⟩ := hr i hi
  obtain ⟨k1, _, k3⟩ := gm_next hg hi (k := 0) (by omega)
  obtain ⟨su, cu, rfl, _, _, hz⟩ := hz
  obtain ⟨gu, ou, hs, hgu, hcu⟩ := hz 0 _ k1
  subst hs
  rw [k3] at hc
  refine ⟨g, o, gu, ou, cu, ha, hg1, hc, hgu, fun k hk => ?_⟩
  obtain ⟨k1', _, _⟩ := gm_next hg hi hk
  obtain ⟨gu', ou', hs', _, hcu'⟩ := hz k _ k1'
  simp at hs'
  obtain ⟨rfl, rfl⟩ := hs'
  exact hcu'

theorem zn_mem (l : List Nat) (x : Nat) : (x : Int) ∈ zn l ↔ x ∈ l := by
  unfold zn
  rw [List.mem_map]
  constructor
  · rintro ⟨y, hy, e⟩
    have : y = x := by omega
    subst this
    exact hy
  · intro h
    exact ⟨x, h, rfl⟩

set_option maxRecDepth 100000 in
set_option maxHeartbeats 8000000 in
theorem l12Order_any (M : List (List Int)) (E : List Bool) (v e : Value) (w : World) (hM : MAt w w.heap.size v M) (hE : EAt w w.heap.size e E) (hg : gm M E = true) :
    Calls Try.prog 64 #[.agg #[v, e]] w fun x w' => (∃ r, x = .returned r ∧ ZRow w' w.heap.size r (zn (sts (prs M M)))) ∧ Below w.heap.size w w' := by
  obtain ⟨i0, hi, hz0, hz1, hz2⟩ := info_parts Try.infoInt
  have HM : Hid (MAt w w.heap.size v M) := hM
  have HG : Hid (gm M E = true) := hg
  clear hg
  obtain ⟨ao, cap, rfl, hlc, hcm, _⟩ := hM
  obtain ⟨ae, cape, rfl, hlc2, hcm2, _⟩ := hE
  unfold maxLen at hcm hcm2
  obtain ⟨W1, hW1⟩ : ∃ W, W = (w.alloc (.cells #[.slice ao M.length cap, .slice ae E.length cape] 30)).alloc (.cells #[.int .i64 0] 3) := ⟨_, rfl⟩
  have hB1 : Below w.heap.size w W1 := by rw [hW1]; exact ((Below.refl _ w).alloc (Nat.le_refl _) _).alloc (by simp) _
  have Q0 : Hid (W1.cell? ⟨w.heap.size, 0, none⟩ = some (.slice ao M.length cap)) := by show _ = _; rw [hW1]; go_simp
  have HS1 : Hid (W1.heap.size = w.heap.size + 2) := by show _ = _; rw [hW1]; simp
  have HZ1 : Hid (ZRow W1 (w.heap.size + 1) (.slice (some ⟨w.heap.size + 1, 0, none⟩) 1 1) (zn (sts [⟨0, 0, ByteArray.empty⟩]))) := by
    refine ⟨rfl, .inr ⟨w.heap.size + 1, 1, #[.int .i64 0], rfl, Nat.le_refl _, ?_, Nat.le_refl _, by unfold maxLen; omega, rfl, rfl⟩⟩
    rw [hW1]
    have h := heap_alloc_new (w.alloc (.cells #[.slice ao M.length cap, .slice ae E.length cape] 30)) (.cells #[.int .i64 0] 3)
    rw [World.size_alloc] at h
    exact h
  go_enter Try.func64, Try.ntmps64
  go_upto_region 2 with fail
  rw [← hW1]
  clear hW1
  go_wp2
  go_loopw [3, 4] (fun vo vi wr => ∃ (i : Nat) (l : List Pq), vi = .int .i64 (i : Int) ∧ Hid (At M M i l) ∧ Hid (Dia l) ∧ Hid (ZRow wr (w.heap.size + 1) vo (zn (sts l))) ∧ Hid (Below (w.heap.size + 1) W1 wr))
    (fun _ vi _ => 145 - (intOf vi).toNat)
  case atStart => exact ⟨0, _, rfl, At.start HG.out HG.out, dia_one, HZ1, Below.refl _ _⟩
  case round =>
    obtain ⟨i, l, rfl, hAt, hDi, hO, hbw⟩ := hrel
    clear HZ1
    have hl144 : l.length ≤ 144 := hAt.out.met.le HG.out HG.out
    have hil : i ≤ l.length := hAt.out.le
    obtain ⟨av, cv, hvo⟩ := ZRow.slice hO.out
    subst hvo
    obtain ⟨Z, hZ⟩ : ∃ Z, Z = zn (sts l) := ⟨_, rfl⟩
    have HZ : Hid (Z = zn (sts l)) := hZ
    have HZL : Hid (Z.length = l.length) := by show _ = _; rw [hZ, zn_len, sts_len]
    rw [← hZ] at hO
    rw [← hZ]
    clear hZ
    have hBr : Below w.heap.size w wr := hB1.trans (hbw.out.mono (by omega))
    have q0 := (hbw.out.cell (p := ⟨w.heap.size, 0, none⟩) (by show w.heap.size < _; omega)).trans Q0.out
    have hszr : w.heap.size + 2 ≤ wr.heap.size := by have := hbw.out.size; have := HS1.out; omega
    by_cases hlt : i < l.length
    · have hlt' : (i : Int) < (Z.length : Int) := by have := HZL.out; omega
      obtain ⟨p, hp⟩ : ∃ p, pq l i = p := ⟨_, rfl⟩
      have HPP : Hid (pq l i = p) := hp
      have hpa : p.a < M.length := by rw [← hp]; exact (hAt.out.met.lo i hlt).1
      have hpb : p.b = p.a := by rw [← hp]; exact hDi.out i hlt
      have hZi : Z[i]? = some (p.a : Int) := by
        rw [HZ.out, ← hp]
        unfold zn
        rw [List.getElem?_map, sts_at hlt]
        rfl
      clear hp
      obtain ⟨a2, c2, hv2, _, _, hzr⟩ := ZAt.own hO.out
      simp only [Value.slice.injEq, true_and] at hv2
      obtain ⟨rfl, rfl⟩ := hv2
      obtain ⟨gz, oz, haz, hgz, hcz⟩ := hzr i _ hZi
      subst haz
      obtain ⟨gA, oA, gu, ou, cu, hA1, hA2, hA3, hA4, hA5⟩ := (HM.out.below hBr).row HG.out hpa
      subst hA1
      obtain ⟨_, _, gu2, ou2, cu2, hA1', hgw, hcw, hguw, hcuw⟩ := HM.out.row HG.out hpa
      simp at hA1'
      obtain ⟨rfl, rfl⟩ := hA1'
      have heq := (hBr.cell (p := ⟨gA, oA + p.a, none⟩) hgw).trans hcw
      rw [hA3] at heq
      simp at heq
      obtain ⟨⟨rfl, rfl⟩, rfl⟩ := heq
      have HROW : Hid (∀ W, Below w.heap.size w W → ∀ k, k < 3 → W.cell? ⟨gu, ou + k, none⟩ = some (.int .i64 ((nt M p.a k : Nat) : Int))) := fun W hW k hk => (hW.cell (p := ⟨gu, ou + k, none⟩) hguw).trans (hcuw k hk)
      have hpaM : (p.a : Int) < (M.length : Int) := by omega
      have HOd : Hid (ZRow wr.drew (w.heap.size + 1) (.slice (some ⟨gz, oz, none⟩) Z.length cv) Z) := ZRow.below hO.out ((Below.refl _ wr).drew)
      clear hzr hZi hA5 hcuw hcw hgw
      go_upto_region 5 with fail
      go_quiet (fail)
      go_wp2
      have HO1 : Hid (ZRow (wr.drewN nq) (w.heap.size + 1) (.slice (some ⟨gz, oz, none⟩) Z.length cv) (zn (sts (stk M M l p 0)))) := by
        show World.ownsRow _ _ _ _ _ _ _
        rw [show stk M M l p 0 = l from rfl, ← HZ.out]
        exact ZRow.below hO.out (below_drewT (Below.refl _ wr))
      have HB1 : Hid (Below (w.heap.size + 1) W1 (wr.drewN nq)) := below_drewT hbw.out
      clear hO hbw HOd hA3 hcz q0
      go_loopw [3, 23] (fun vo vk wr => ∃ k : Nat, k ≤ 3 ∧ vk = .int .i64 (k : Int) ∧ Hid (ZRow wr (w.heap.size + 1) vo (zn (sts (stk M M l p k)))) ∧ Hid (Below (w.heap.size + 1) W1 wr))
        (fun _ vk _ => 3 - (intOf vk).toNat)
      case atStart => exact ⟨0, by omega, rfl, HO1, HB1⟩
      case round =>
        obtain ⟨k, hk3, rfl, hOk, hbk⟩ := hrel
        clear HO1 HB1
        obtain ⟨av2, cv2, hvo2⟩ := ZRow.slice hOk.out
        subst hvo2
        obtain ⟨Y, hY⟩ : ∃ Y, Y = sts (stk M M l p k) := ⟨_, rfl⟩
        have HY : Hid (Y = sts (stk M M l p k)) := hY
        have HYL : Hid ((zn Y).length = (stk M M l p k).length) := by show _ = _; rw [hY, zn_len, sts_len]
        obtain ⟨V, hV⟩ : ∃ V, V = zn Y := ⟨_, rfl⟩
        have HV : Hid (V = zn Y) := hV
        rw [← hY, ← hV] at hOk
        rw [← hY, ← hV]
        rw [← hV] at HYL
        clear hY hV
        have hY145 : V.length ≤ 145 := by rw [HYL.out, ← HPP.out]; have := (stk_met HG.out HG.out hAt.out.met hlt k hk3).le HG.out HG.out; omega
        have hBk : Below w.heap.size w wr := hB1.trans (hbk.out.mono (by omega))
        by_cases hlk : k < 3
        · have hlk' : (k : Int) < 3 := by omega
          have ck := HROW.out _ hBk k hlk
          have HPU : Hid (sts (stk M M l p (k + 1)) = if nt M p.a k ∈ Y then Y else Y ++ [nt M p.a k]) := by
            show _ = _
            rw [stk, sts_pu (dia_stk hDi.out hpb k) (by show nt M p.b k = nt M p.a k; rw [hpb]), ← HY.out]
            rfl
          have hsk : w.heap.size + 2 ≤ wr.heap.size := by have := hbk.out.size; have := HS1.out; omega
          generalize nt M p.a k = x at ck HPU
          go_wp2_with fail
          refine (l1Has_any V (x : Int) _ _ (ZAt.own hOk.out) (by omega)).mono ?_
          rintro y w5 ⟨rfl, rfl⟩
          by_cases hin : x ∈ Y
          · have hd : decide ((x : Int) ∈ V) = true := by rw [HV.out]; simpa using (zn_mem Y x).2 hin
            have HO2 : Hid (ZRow w5 (w.heap.size + 1) (.slice av2 V.length cv2) (zn (sts (stk M M l p (k + 1))))) := by
              rw [HPU.out, if_pos hin, ← HV.out]
              exact hOk
            rw [hd]
            clear hd hin hOk
            go_wp2
            go_roundw
            case rel => exact ⟨k + 1, by omega, by go_num, HO2, hbk⟩
            case measure => simp [intOf]; omega
          · have hd : decide ((x : Int) ∈ V) = false := by rw [HV.out]; simpa using fun h => hin ((zn_mem Y x).1 h)
            have HNX : Hid (zn (sts (stk M M l p (k + 1))) = V ++ [(x : Int)]) := by show _ = _; rw [HPU.out, if_neg hin, zn_snoc, ← HV.out]
            rw [hd]
            clear hd hin
            go_wp2_with (at_builtin; refine wpList_append_lies _ rfl _ _ 27 rfl (w.heap.size + 1) 3 i0 (.int .i64 0) 1 8 Try.underlying27 hi hz0 hz1 hz2 rfl (by decide) _ V.length _ rfl (World.ownsRow.alloc hOk.out _) ⟨w5.heap.size, 0, none⟩ 1 1 [.int .i64 (x : Int)] rfl rfl (World.news_of_block (heap_alloc_new w5 _)) (onezI _) (by omega) (by unfold maxLen; omega) (by omega) (by simp; omega) (w5.heap.size + 1) (by simp) ?_)
            intro g9 cap9 w9 hown9 hgrow9 hat9 hlt9
            have HO9 : Hid (ZRow w9 (w.heap.size + 1) (.slice (some ⟨g9, 0, none⟩) (V.length + 1) cap9) (zn (sts (stk M M l p (k + 1))))) := by
              rw [HNX.out]
              exact ZRow.snoc hown9
            have hlo := World.ownsRow.lt hOk.out
            have HB9 : Hid (Below (w.heap.size + 1) W1 w9) := ⟨hgrow9.os.trans hbk.out.os, hgrow9.tape.trans hbk.out.tape, hgrow9.output.trans hbk.out.output, by have := hgrow9.size; simp at this; have := hbk.out.size; omega, fun j hj => by
              have hj5 : j < w5.heap.size := by omega
              rw [hgrow9.block j (by simp; omega) (fun e => by have := (hlo j e.symm).1; omega), Below.heap_alloc _ _ _ hj5, hbk.out.block j hj]⟩
            clear hown9 hgrow9 hat9 hOk hbk
            go_wp2
            go_roundw
            case rel => exact ⟨k + 1, by omega, by go_num, HO9, HB9⟩
            case measure => simp [intOf]; omega
        · have hk3' : k = 3 := by omega
          subst hk3'
          have hge : ¬ ((3 : Int) < 3) := by omega
          have HN : Hid (At M M (i + 1) (stk M M l p 3)) := by
            show At _ _ _ _
            rw [stk_3, ← HPP.out]
            exact hAt.out.next HG.out HG.out hlt
          have HDN : Hid (Dia (stk M M l p 3)) := dia_stk hDi.out hpb 3
          have HOk : Hid (ZRow wr (w.heap.size + 1) (.slice av2 V.length cv2) (zn (sts (stk M M l p 3)))) := by rw [← HY.out, ← HV.out]; exact hOk
          clear hOk
          go_wp2
          go_roundw
          case rel => exact ⟨i + 1, _, by go_num, HN, HDN, HOk, hbk⟩
          case measure => simp [intOf]; omega
    · have hke : i = l.length := by omega
      have hge : ¬ ((i : Int) < (Z.length : Int)) := by have := HZL.out; omega
      have HD : Hid (l = prs M M) := hAt.out.done HG.out HG.out hke
      have HF : Hid (ZRow wr w.heap.size (.slice av Z.length cv) (zn (sts (prs M M)))) := by
        show World.ownsRow _ _ _ _ _ _ _
        rw [← HD.out, ← HZ.out]
        exact own_lowerM hO.out (by omega)
      clear hke hO hAt q0
      go_wp2
      go_ret
      exact ⟨⟨_, rfl, HF.out⟩, hBr⟩

end Go.Proofs.Ytecgjhnihagleaa
