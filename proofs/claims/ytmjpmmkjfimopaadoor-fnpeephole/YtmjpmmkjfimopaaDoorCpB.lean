/- The program's putWant. -/
import Derived.Test.YtmjpmmkjfimopaaDoorCpA
import Derived.Test.YtmjpmmkjfimopaaDoorFwM
namespace Go.Proofs.YtmjpmmkjfimopaaDoor
open Go.RowKit Plain Sch Wan Prg

theorem WasAt.keep {w w' : World} {v : Value} {T : List Wa} {B : Nat} (h : WasAt w B v T) (hb : Below B w w') : WasAt w' B v T := by
  obtain ⟨ao, cap, hv, hc, hm, hr, hn⟩ := h
  refine ⟨ao, cap, hv, hc, hm, fun i hi => ?_, hn⟩
  obtain ⟨g, o, ha, hg, c⟩ := hr i hi
  exact ⟨g, o, ha, hg, c.below hb hg⟩

theorem okW_textC {x : Wa} {i : Nat} (h : okW x i = true) : x.text.size ≤ 30 := by
  unfold okW at h
  by_cases h1 : isAsk x.kind = true
  · rw [if_pos h1] at h
    simp only [okAsk, Bool.and_eq_true, decide_eq_true_eq] at h
    exact h.2
  · rw [if_neg h1] at h
    by_cases h2 : isBin x.kind = true
    · rw [if_pos h2] at h
      simp only [okBin, Bool.and_eq_true, decide_eq_true_eq] at h
      have := congrArg (fun x : Wa => x.text.size) h.1.1.1
      dsimp only at this
      rw [this]; decide
    · rw [if_neg h2] at h
      by_cases h3 : isNot x.kind = true
      · rw [if_pos h3] at h
        simp only [okNot, Bool.and_eq_true, decide_eq_true_eq] at h
        have := congrArg (fun x : Wa => x.text.size) h.1.1
        dsimp only at this
        rw [this]; decide
      · rw [if_neg h3] at h; cases h

/-- what a call of putWant leaves -/
def PutOut (w : World) (cb : Nat) (vw v : Value) (L : List Ins) (e : Ending) (w' : World) : Prop := e = .returned (.tuple #[]) ∧ ∃ v', CSt w' cb vw v' L ∧ Pu w w' (some cb) v v'

theorem CSt.ne {w : World} {cb : Nat} {vw v : Value} {L : List Ins} (h : CSt w cb vw v L) {b : Nat} (hb : w.heap.size ≤ b) : some b ≠ some cb ∧ some b ≠ v.ownBlock := by
  obtain ⟨h1, _, _, _, h5⟩ := h
  refine ⟨fun e => ?_, fun e => ?_⟩
  · simp at e; omega
  · have := (World.ownsRow.lt h5 _ e.symm).2; omega

theorem CSt.own {w : World} {cb : Nat} {vw v : Value} {L : List Ins} (h : CSt w cb vw v L) : ∀ g, v.ownBlock = some g → cb ≤ g := fun g hg => by
  have := (World.ownsRow.lt h.2.2.2.2 g hg).1; omega

theorem CSt.keeps {w w' : World} {cb : Nat} {vw v v' : Value} {L : List Ins} (h : CSt w cb vw v L) (hp : Pu w w' (some cb) v v') : Below cb w w' :=
  hp.below (Nat.le_of_lt h.1) (fun g hg => by simp at hg; omega) h.own

/-- the local copy of a want, through a call -/
theorem six_pu {w w' : World} {cb b : Nat} {v v' : Value} {x : Wa} (hp : Pu w w' (some cb) v v') (hb : b < w.heap.size) (h1 : some b ≠ some cb) (h2 : some b ≠ v.ownBlock) (h : WaIn w b 0 x) : WaIn w' b 0 x := by
  have hq : ∀ j, w'.cell? ⟨b, j, none⟩ = w.cell? ⟨b, j, none⟩ := fun j => hp.cell (p := ⟨b, j, none⟩) hb h1 h2
  obtain ⟨c0, c1, c2, c3, c4, c5⟩ := h
  exact ⟨(hq _).trans c0, (hq _).trans c1, (hq _).trans c2, (hq _).trans c3, (hq _).trans c4, (hq _).trans c5⟩

theorem new_ne {W1 w1 : World} {cb b : Nat} {v v1 : Value} (hp : Pu W1 w1 (some cb) v v1) (hb : b < W1.heap.size) (h2 : some b ≠ v.ownBlock) : some b ≠ v1.ownBlock := fun e => by
  rcases hp.new b e.symm with h | h
  · exact h2 h.symm
  · omega

theorem jump_set (A B : List Ins) (m d : Int) : (A ++ [iJump m 0] ++ B).set A.length ⟨(ins (A ++ [iJump m 0] ++ B) A.length).code, (ins (A ++ [iJump m 0] ++ B) A.length).kind, (ins (A ++ [iJump m 0] ++ B) A.length).no, (ins (A ++ [iJump m 0] ++ B) A.length).num, (ins (A ++ [iJump m 0] ++ B) A.length).text, d⟩ = A ++ [iJump m d] ++ B := by
  have e : ins (A ++ [iJump m 0] ++ B) A.length = iJump m 0 := by
    unfold ins
    rw [List.getD, List.append_assoc, List.getElem?_append_right (by omega)]
    simp
  rw [e, List.append_assoc, List.set_append_right _ _ (by omega)]
  simp [iJump]

theorem CSt.dst {w : World} {cb g cap : Nat} {vw : Value} {L : List Ins} (h : CSt w cb vw (.slice (some ⟨g, 0, none⟩) L.length cap) L) {k : Nat} (hk : k < L.length) (d : Int) (W : World) (hW : ∃ n, W = (w.setCell ⟨g, k * 6 + 5, none⟩ (.int .i64 d)).drewN n) :
    CSt W cb vw (.slice (some ⟨g, 0, none⟩) L.length cap) (L.set k ⟨(ins L k).code, (ins L k).kind, (ins L k).no, (ins L k).num, (ins L k).text, d⟩) ∧ Pu w W (some cb) (.slice (some ⟨g, 0, none⟩) L.length cap) (.slice (some ⟨g, 0, none⟩) L.length cap) := by
  obtain ⟨n, rfl⟩ := hW
  obtain ⟨h1, h2, h3, h4, h5⟩ := h
  have hlt := World.ownsRow.lt h5 g rfl
  have hne : g ≠ cb := by omega
  have hr := h5.dst hk d
  have hblk : (w.setCell ⟨g, k * 6 + 5, none⟩ (.int .i64 d)).heap[cb]? = w.heap[cb]? := Below.heap_setCell _ _ _ _ (fun e => hne e.symm)
  refine ⟨⟨by simp; omega, (World.cell?_of_block (w := w) hblk).trans h2, (World.cell?_of_block (w := w) hblk).trans h3, (World.frozen?_of_block (w := w) hblk).trans h4, ?_⟩, rfl, rfl, rfl, by simp, fun j hj hc hv => ?_, fun g' hg' => .inl hg'⟩
  · unfold IRow at hr ⊢
    rw [List.length_set] at hr ⊢
    exact ⟨hr.1, hr.2⟩
  · have : j ≠ g := fun e => hv (by rw [e]; rfl)
    exact Below.heap_setCell _ _ _ _ this

set_option maxRecDepth 100000 in
set_option maxHeartbeats 8000000 in
theorem putWant_any (T : List Wa) (hg : gf T = true) : ∀ (k : Nat), k < T.length → ∀ (cb : Nat) (vw v : Value) (L : List Ins) (w : World), CSt w cb vw v L → WasAt w cb vw T → L.length + 2 ^ (k + 2) ≤ 10000000 →
    Calls Tryd.prog 22 #[.pointer (some ⟨cb, 0, none⟩), .int .i64 k] w (PutOut w cb vw v (L ++ cmp T k L.length)) := by
  intro k
  induction k using Nat.strongRecOn with
  | ind k ih =>
    intro hk cb vw v L w hC hT hL
    have h20 := gf_len hg
    have HT : Hid (WasAt w cb vw T) := hT
    have HC : Hid (CSt w cb vw v L) := hC
    obtain ⟨ao, cap, rfl, hlc, hcm, hrow, hnm⟩ := hT
    unfold maxLen at hcm
    have hkl : (k : Int) < (T.length : Int) := by omega
    obtain ⟨g, o, rfl, hgc, hty⟩ := hrow k hk
    have hni := hnm k hk
    clear hrow hnm
    obtain ⟨hcb, cw, cv, fv, hown⟩ := hC
    have HIH : Hid (∀ j, j < k → ∀ (L : List Ins) (v : Value) (w : World), CSt w cb (.slice (some ⟨g, o, none⟩) T.length cap) v L → WasAt w cb (.slice (some ⟨g, o, none⟩) T.length cap) T → L.length + 2 ^ (j + 2) ≤ 10000000 → Calls Tryd.prog 22 #[.pointer (some ⟨cb, 0, none⟩), .int .i64 j] w (PutOut w cb (.slice (some ⟨g, o, none⟩) T.length cap) v (L ++ cmp T j L.length))) := fun j hj L v w => ih j hj (by omega) cb _ v L w
    have HLN : Hid (∀ j base, (cmp T j base).length + 1 ≤ 2 ^ (j + 2)) := cmp_len T
    clear ih
    have hok := gf_ok hg k hk
    have hKC := Wan.kind_cases hok
    have HTX0 : Hid ((wa T k).text.size ≤ 30) := okW_textC hok
    have hAS : Hid (isAsk (wa T k).kind = true → ∀ base, cmp T k base = [iSeek (wa T k).no, iTest (wa T k).kind (wa T k).num (wa T k).text]) := fun h base => cmp_ask h
    have hNO : Hid (isNot (wa T k).kind = true → ∃ a : Nat, (wa T k).a = a ∧ a < k ∧ ∀ base, cmp T k base = cmp T a base ++ [iFlip]) := fun h => by
      have := gf_own hg k hk (wa T k).a (by rw [own_not h]; simp)
      exact ⟨(wa T k).a.toNat, by omega, by omega, fun base => cmp_not h (by omega)⟩
    have hBI : Hid (isBin (wa T k).kind = true → ∃ a b : Nat, (wa T k).a = a ∧ (wa T k).b = b ∧ a < k ∧ b < k ∧ ∀ base, cmp T k base = cmp T a base ++ [iJump ((wa T k).kind - 6) (((base + (cmp T a base).length + 1 + (cmp T b (base + (cmp T a base).length + 1)).length : Nat)) : Int)] ++ cmp T b (base + (cmp T a base).length + 1)) := fun h => by
      have ha := gf_own hg k hk (wa T k).a (by rw [own_bin h]; simp)
      have hb := gf_own hg k hk (wa T k).b (by rw [own_bin h]; simp)
      exact ⟨(wa T k).a.toNat, (wa T k).b.toNat, by omega, by omega, by omega, by omega, fun base => cmp_bin h (by omega) (by omega)⟩
    have hpow : Hid (∀ j, j < k → 2 ^ (j + 2) ≤ 2 ^ (k + 1)) := fun j hj => Nat.pow_le_pow_right (by omega) (by omega)
    have hpk : Hid (2 ^ (k + 2) = 2 ^ (k + 1) + 2 ^ (k + 1)) := by show _ = _; rw [Nat.pow_succ]; omega
    have hp4 : Hid (4 ≤ 2 ^ (k + 2)) := by
      show 4 ≤ _
      have : 2 ^ 2 ≤ 2 ^ (k + 2) := Nat.pow_le_pow_right (by omega) (by omega)
      omega
    have HL : Hid (L.length + 2 ^ (k + 2) ≤ 10000000) := hL
    clear hL hok hg
    obtain ⟨x, hx⟩ : ∃ x, x = wa T k := ⟨_, rfl⟩
    rw [← hx] at hty hni hKC hAS hNO hBI HTX0
    clear hx
    obtain ⟨W1, hW1⟩ : ∃ W, W = w.alloc (.cells #[.int .i64 x.kind, .int .i64 x.no, .int .i64 x.num, .string x.text, .int .i64 x.a, .int .i64 x.b] 66) := ⟨_, rfl⟩
    have hB1 : Below w.heap.size w W1 := by rw [hW1]; exact (Below.refl _ w).alloc (Nat.le_refl _) _
    have HS1 : Hid (W1.heap.size = w.heap.size + 1) := by show _ = _; rw [hW1]; simp
    have hl1 : w.heap.size < W1.heap.size := by rw [HS1.out]; omega
    have HX1 : Hid (WaIn W1 w.heap.size 0 x) := by
      show WaIn _ _ _ _
      rw [hW1]
      exact ⟨by go_simp, by go_simp, by go_simp, by go_simp, by go_simp, by go_simp⟩
    have HC1 : Hid (CSt W1 cb (.slice (some ⟨g, o, none⟩) T.length cap) v L) := HC.out.below hB1
    have HT1 : Hid (WasAt W1 cb (.slice (some ⟨g, o, none⟩) T.length cap) T) := HT.out.keep (hB1.mono (Nat.le_of_lt hcb))
    have hne1 := HC.out.ne (Nat.le_refl w.heap.size)
    have HP1 : Hid (Pu w W1 (some cb) v v) := Pu.of_below hB1
    obtain ⟨x0, x1, x2, x3, x4, x5⟩ := HX1.out
    obtain ⟨c0, c1, c2, c3, c4, c5⟩ := hty
    obtain ⟨kd, no, m, t, a, b⟩ := x
    dsimp only at x0 x1 x2 x3 x4 x5 c0 c1 c2 c3 c4 c5 hW1 hni hKC hAS hNO hBI HTX0
    have HTX : Hid (t.size ≤ 30) := HTX0.out
    clear HTX0
    simp only [Nat.zero_add] at x0 x1 x2 x3 x4 x5
    go_enter Tryd.func22, Tryd.ntmps22
    go_upto_region 1 with fail
    rw [← hW1]
    clear hW1 c0 c1 c2 c3 c4 c5
    clear HX1
    rcases hKC with hkd | hkd | hkd
    · have hkb := ask_bounds hkd
      have d7 : (kd == 7) = false := by simp; omega
      have d6 : (kd == 6) = false := by simp; omega
      have d8 : (kd == 8) = false := by simp; omega
      have hE : Hid (∀ base, cmp T k base = [iSeek no, iTest kd m t]) := hAS.out hkd
      clear hAS hNO hBI HIH
      go_wp2_with fail
      refine (put_any (iSeek no) cb _ v L W1 HC1.out (by have := HL.out; have := hp4.out; omega)).mono ?_
      rintro e w2 ⟨rfl, v2, hC2, hP2⟩
      have HX2 : Hid (WaIn w2 w.heap.size 0 ⟨kd, no, m, t, a, b⟩) := six_pu hP2 hl1 hne1.1 hne1.2 ⟨x0, x1, x2, x3, x4, x5⟩
      obtain ⟨x0, x1, x2, x3, x4, x5⟩ := HX2.out
      dsimp only at x0 x1 x2 x3 x4 x5
      simp only [Nat.zero_add] at x0 x1 x2 x3 x4 x5
      have hl2 : w.heap.size < w2.heap.size := Nat.lt_of_lt_of_le hl1 hP2.size
      have HC2 : Hid (CSt w2 cb (.slice (some ⟨g, o, none⟩) T.length cap) v2 (L ++ [iSeek no])) := hC2
      have HP2 : Hid (Pu W1 w2 (some cb) v v2) := hP2
      have hBd : Below w2.heap.size w2 w2.drew := (Below.refl _ _).drew
      have htx : t.size ≤ 30 := HTX.out
      clear hP2 hC2 HC1 HX2
      go_wp2_with fail
      go_region_with (first
        | (go_at_call 23; refine (put_any (iTest kd m t) cb _ v2 _ w3 HC3.out (by have := HL.out; have := hp4.out; simp; omega)).mono ?_; rintro e w4 ⟨rfl, v4, hC4, hP4⟩)
        | (go_at_call 35; refine (clone_any t _ (by omega)).mono ?_; rintro e w3 ⟨rfl, hb3⟩; have hB3 : Below w2.heap.size w2 w3 := hBd.trans (hb3.mono (Nat.le_refl _)); have HC3 : Hid (CSt w3 cb (.slice (some ⟨g, o, none⟩) T.length cap) v2 (L ++ [iSeek no])) := HC2.out.below hB3; have x0 := (hB3.cell (p := ⟨w.heap.size, 0, none⟩) hl2).trans x0; have x2 := (hB3.cell (p := ⟨w.heap.size, 2, none⟩) hl2).trans x2; have x3 := (hB3.cell (p := ⟨w.heap.size, 3, none⟩) hl2).trans x3))
      all_goals
        go_wp2
        go_end0
        refine ⟨rfl, v4, ?_, HP1.out.trans (HP2.out.trans ((Pu.of_below hB3).trans hP4))⟩
        rw [hE.out]
        simpa using hC4
    · obtain ⟨an, bn, ha, hb, han, hbn, hE0⟩ := hBI.out hkd
      have hbb := bin_bounds hkd
      subst ha hb
      clear hAS hNO hBI hkd
      rcases hbb with rfl | rfl
      · have hE : Hid (∀ base, cmp T k base = cmp T an base ++ [iJump 0 (((base + (cmp T an base).length + 1 + (cmp T bn (base + (cmp T an base).length + 1)).length : Nat)) : Int)] ++ cmp T bn (base + (cmp T an base).length + 1)) := hE0
        clear hE0
        go_wp2_with fail
        refine (HIH.out an han L v W1 HC1.out HT1.out (by have := HL.out; have := hp4.out; have := hpk.out; have := hpow.out an han; omega)).mono ?_
        rintro e w2 ⟨rfl, v2, hC2, hP2⟩
        have HX2 : Hid (WaIn w2 w.heap.size 0 ⟨6, no, m, t, an, bn⟩) := six_pu hP2 hl1 hne1.1 hne1.2 ⟨x0, x1, x2, x3, x4, x5⟩
        have hl2 : w.heap.size < w2.heap.size := Nat.lt_of_lt_of_le hl1 hP2.size
        have hT2 : Hid (WasAt w2 cb (.slice (some ⟨g, o, none⟩) T.length cap) T) := HT1.out.keep (HC1.out.keeps hP2)
        have hne2 := new_ne hP2 hl1 hne1.2
        obtain ⟨A, hA⟩ : ∃ A, A = cmp T an L.length := ⟨_, rfl⟩
        have hAl : Hid (A.length + 1 ≤ 2 ^ (k + 1)) := by show _ ≤ _; rw [hA]; have := HLN.out an L.length; have := hpow.out an han; omega
        have HE1 : Hid (∀ (base : Nat), base = L.length → cmp T k base = A ++ [iJump 0 (((L.length + A.length + 1 + (cmp T bn (L.length + A.length + 1)).length : Nat)) : Int)] ++ cmp T bn (L.length + A.length + 1)) := fun base hbase => by rw [hbase, hE.out, ← hA]
        rw [← hA] at hC2
        clear hE hA
        have HC2 : Hid (CSt w2 cb (.slice (some ⟨g, o, none⟩) T.length cap) v2 (L ++ A)) := hC2
        obtain ⟨ar2, cap2, hv2, hn2, hcm2⟩ := hC2.2.2.2.2.slice
        have q2 := hC2.2.2.1
        have hcb2 := hC2.1
        have hcm2' : cap2 ≤ 9223372036854775807 := by unfold maxLen at hcm2; omega
        rw [hv2] at q2
        obtain ⟨J, hJ⟩ : ∃ J, J = (L ++ A).length := ⟨_, rfl⟩
        rw [← hJ] at q2 hn2
        have HJ : Hid (J = (L ++ A).length) := hJ
        have hJb : Hid (J + 1 ≤ 5000000 + L.length) := by show _ ≤ _; rw [hJ]; have := hAl.out; have := HL.out; have := hp4.out; have := hpk.out; simp; omega
        obtain ⟨x0, x1, x2, x3, x4, x5⟩ := HX2.out
        dsimp only at x0 x1 x2 x3 x4 x5
        simp only [Nat.zero_add] at x0 x1 x2 x3 x4 x5
        clear hC2 hJ HC1 HT1
        go_wp2_with fail
        refine (put_any (iJump 0 0) cb _ v2 (L ++ A) w2 HC2.out (by have := HL.out; have := hp4.out; have := hAl.out; have := hpk.out; simp; omega)).mono ?_
        rintro e w3 ⟨rfl, v3, hC3, hP3⟩
        have HX3 : Hid (WaIn w3 w.heap.size 0 ⟨6, no, m, t, an, bn⟩) := six_pu hP3 hl2 hne1.1 hne2 HX2.out
        have hl3 : w.heap.size < w3.heap.size := Nat.lt_of_lt_of_le hl2 hP3.size
        have hT3 : Hid (WasAt w3 cb (.slice (some ⟨g, o, none⟩) T.length cap) T) := hT2.out.keep (HC2.out.keeps hP3)
        have HC3 : Hid (CSt w3 cb (.slice (some ⟨g, o, none⟩) T.length cap) v3 (L ++ A ++ [iJump 0 0])) := hC3
        have hP13 : Hid (Pu w w3 (some cb) v v3) := HP1.out.trans (hP2.trans hP3)
        have hl3L : (L ++ A ++ [iJump 0 0]).length = L.length + A.length + 1 := by simp; omega
        obtain ⟨x0, x1, x2, x3, x4, x5⟩ := HX3.out
        dsimp only at x0 x1 x2 x3 x4 x5
        simp only [Nat.zero_add] at x0 x1 x2 x3 x4 x5
        clear hC3 HC2 hT2 HX2 HX3 hP2 hP3 HP1 q2 hn2 hcm2 hcm2' hv2
        go_wp2_with fail
        refine (HIH.out bn hbn (L ++ A ++ [iJump 0 0]) v3 w3 HC3.out hT3.out (by have := HL.out; have := hp4.out; have := hpk.out; have := hpow.out bn hbn; have := hAl.out; rw [hl3L]; omega)).mono ?_
        rintro e w4 ⟨rfl, v4, hC4, hP4⟩
        have hBB : (cmp T bn (L ++ A ++ [iJump 0 0]).length).length + 1 ≤ 2 ^ (k + 1) := by have := HLN.out bn (L ++ A ++ [iJump 0 0]).length; have := hpow.out bn hbn; omega
        rw [hl3L] at hC4 hBB
        obtain ⟨BB, hBd⟩ : ∃ BB, BB = cmp T bn (L.length + A.length + 1) := ⟨_, rfl⟩
        rw [← hBd] at hC4 hBB HE1
        have hP14 : Hid (Pu w w4 (some cb) v v4) := hP13.out.trans hP4
        obtain ⟨N, hN⟩ : ∃ N, N = (L ++ A ++ [iJump 0 0] ++ BB).length := ⟨_, rfl⟩
        have hNv : N = L.length + A.length + 1 + BB.length := by rw [hN]; simp; omega
        have hJN : J < N := by rw [HJ.out, hNv]; simp; omega
        have hNb : Hid (N ≤ 10000000) := by show _ ≤ _; rw [hNv]; have := HL.out; have := hp4.out; have := hpk.out; have := hAl.out; omega
        obtain ⟨g4, cap4, hv4⟩ : ∃ g4 cap4, v4 = .slice (some ⟨g4, 0, none⟩) N cap4 := by
          rcases hC4.2.2.2.2.2 with ⟨_, h0⟩ | ⟨g4, cap4, _, hv, _⟩
          · omega
          · exact ⟨g4, cap4, by rw [hv, hN]⟩
        subst hv4
        have hrow4 : w4.ownsRow (cb + 1) 59 6 (.slice (some ⟨g4, 0, none⟩) N cap4) N ((L ++ A ++ [iJump 0 0] ++ BB).flatMap Ins.cells) := by have := hC4.2.2.2.2; unfold IRow at this; rw [← hN] at this; exact this
        have hcap4 : N ≤ cap4 ∧ cap4 ≤ 9223372036854775807 := by
          rcases hrow4.2 with ⟨h, _⟩ | ⟨g', cap', _, hv, _, _, h1, h2, _⟩
          · simp at h
          · simp at hv; unfold maxLen at h2; omega
        have q4 := hC4.2.2.1
        have hcb4 := hC4.1
        obtain ⟨u4, hu4⟩ : ∃ u, w4.cell? ⟨g4, J * 6 + 5, none⟩ = some u := by
          have h1 := World.ownsRow.cellAt hrow4 (J * 6 + 5) (by omega)
          rw [h1]
          exact ⟨_, List.getElem?_eq_getElem (by rw [flat6Ins_len, ← hN]; omega)⟩
        have hf4 := World.ownsRow.frozenAt hrow4 (J * 6 + 5)
        have hJN' : (J : Int) < (N : Int) := by omega
        have hend := fun n => CSt.dst (w := w4) (g := g4) (cap := cap4) (L := L ++ A ++ [iJump 0 0] ++ BB) (vw := .slice (some ⟨g, o, none⟩) T.length cap) (cb := cb) (by rw [← hN]; exact hC4) (k := J) (by rw [← hN]; exact hJN) (N : Int) ((w4.setCell ⟨g4, J * 6 + 5, none⟩ (.int .i64 (N : Int))).drewN n) ⟨n, rfl⟩
        have HEND : Hid (∀ n, PutOut w cb (.slice (some ⟨g, o, none⟩) T.length cap) v (L ++ cmp T k L.length) (.returned (.tuple #[])) ((w4.setCell ⟨g4, J * 6 + 5, none⟩ (.int .i64 (N : Int))).drewN n)) := fun n => by
          obtain ⟨e1, e2⟩ := hend n
          rw [← hN] at e1 e2
          refine ⟨rfl, _, ?_, hP14.out.trans e2⟩
          rw [HE1.out L.length rfl, ← hNv]
          have e3 := jump_set (L ++ A) BB 0 (N : Int)
          rw [← HJ.out] at e3
          rw [e3] at e1
          simpa [List.append_assoc] using e1
        clear hend hrow4 hC4 hP4 HC3 hT3 HE1 hBd hN HIH hNv hBB
        have hNN : N ≤ 10000000 := hNb.out
        go_wp2
        go_region
        go_wp2
        go_end0
        first | exact HEND.out _ | exact HEND.out 1
      · have hE : Hid (∀ base, cmp T k base = cmp T an base ++ [iJump 1 (((base + (cmp T an base).length + 1 + (cmp T bn (base + (cmp T an base).length + 1)).length : Nat)) : Int)] ++ cmp T bn (base + (cmp T an base).length + 1)) := hE0
        clear hE0
        go_wp2_with fail
        refine (HIH.out an han L v W1 HC1.out HT1.out (by have := HL.out; have := hp4.out; have := hpk.out; have := hpow.out an han; omega)).mono ?_
        rintro e w2 ⟨rfl, v2, hC2, hP2⟩
        have HX2 : Hid (WaIn w2 w.heap.size 0 ⟨7, no, m, t, an, bn⟩) := six_pu hP2 hl1 hne1.1 hne1.2 ⟨x0, x1, x2, x3, x4, x5⟩
        have hl2 : w.heap.size < w2.heap.size := Nat.lt_of_lt_of_le hl1 hP2.size
        have hT2 : Hid (WasAt w2 cb (.slice (some ⟨g, o, none⟩) T.length cap) T) := HT1.out.keep (HC1.out.keeps hP2)
        have hne2 := new_ne hP2 hl1 hne1.2
        obtain ⟨A, hA⟩ : ∃ A, A = cmp T an L.length := ⟨_, rfl⟩
        have hAl : Hid (A.length + 1 ≤ 2 ^ (k + 1)) := by show _ ≤ _; rw [hA]; have := HLN.out an L.length; have := hpow.out an han; omega
        have HE1 : Hid (∀ (base : Nat), base = L.length → cmp T k base = A ++ [iJump 1 (((L.length + A.length + 1 + (cmp T bn (L.length + A.length + 1)).length : Nat)) : Int)] ++ cmp T bn (L.length + A.length + 1)) := fun base hbase => by rw [hbase, hE.out, ← hA]
        rw [← hA] at hC2
        clear hE hA
        have HC2 : Hid (CSt w2 cb (.slice (some ⟨g, o, none⟩) T.length cap) v2 (L ++ A)) := hC2
        obtain ⟨ar2, cap2, hv2, hn2, hcm2⟩ := hC2.2.2.2.2.slice
        have q2 := hC2.2.2.1
        have hcb2 := hC2.1
        have hcm2' : cap2 ≤ 9223372036854775807 := by unfold maxLen at hcm2; omega
        rw [hv2] at q2
        obtain ⟨J, hJ⟩ : ∃ J, J = (L ++ A).length := ⟨_, rfl⟩
        rw [← hJ] at q2 hn2
        have HJ : Hid (J = (L ++ A).length) := hJ
        have hJb : Hid (J + 1 ≤ 5000000 + L.length) := by show _ ≤ _; rw [hJ]; have := hAl.out; have := HL.out; have := hp4.out; have := hpk.out; simp; omega
        obtain ⟨x0, x1, x2, x3, x4, x5⟩ := HX2.out
        dsimp only at x0 x1 x2 x3 x4 x5
        simp only [Nat.zero_add] at x0 x1 x2 x3 x4 x5
        clear hC2 hJ HC1 HT1
        go_wp2_with fail
        refine (put_any (iJump 1 0) cb _ v2 (L ++ A) w2 HC2.out (by have := HL.out; have := hp4.out; have := hAl.out; have := hpk.out; simp; omega)).mono ?_
        rintro e w3 ⟨rfl, v3, hC3, hP3⟩
        have HX3 : Hid (WaIn w3 w.heap.size 0 ⟨7, no, m, t, an, bn⟩) := six_pu hP3 hl2 hne1.1 hne2 HX2.out
        have hl3 : w.heap.size < w3.heap.size := Nat.lt_of_lt_of_le hl2 hP3.size
        have hT3 : Hid (WasAt w3 cb (.slice (some ⟨g, o, none⟩) T.length cap) T) := hT2.out.keep (HC2.out.keeps hP3)
        have HC3 : Hid (CSt w3 cb (.slice (some ⟨g, o, none⟩) T.length cap) v3 (L ++ A ++ [iJump 1 0])) := hC3
        have hP13 : Hid (Pu w w3 (some cb) v v3) := HP1.out.trans (hP2.trans hP3)
        have hl3L : (L ++ A ++ [iJump 1 0]).length = L.length + A.length + 1 := by simp; omega
        obtain ⟨x0, x1, x2, x3, x4, x5⟩ := HX3.out
        dsimp only at x0 x1 x2 x3 x4 x5
        simp only [Nat.zero_add] at x0 x1 x2 x3 x4 x5
        clear hC3 HC2 hT2 HX2 HX3 hP2 hP3 HP1 q2 hn2 hcm2 hcm2' hv2
        go_wp2_with fail
        refine (HIH.out bn hbn (L ++ A ++ [iJump 1 0]) v3 w3 HC3.out hT3.out (by have := HL.out; have := hp4.out; have := hpk.out; have := hpow.out bn hbn; have := hAl.out; rw [hl3L]; omega)).mono ?_
        rintro e w4 ⟨rfl, v4, hC4, hP4⟩
        have hBB : (cmp T bn (L ++ A ++ [iJump 1 0]).length).length + 1 ≤ 2 ^ (k + 1) := by have := HLN.out bn (L ++ A ++ [iJump 1 0]).length; have := hpow.out bn hbn; omega
        rw [hl3L] at hC4 hBB
        obtain ⟨BB, hBd⟩ : ∃ BB, BB = cmp T bn (L.length + A.length + 1) := ⟨_, rfl⟩
        rw [← hBd] at hC4 hBB HE1
        have hP14 : Hid (Pu w w4 (some cb) v v4) := hP13.out.trans hP4
        obtain ⟨N, hN⟩ : ∃ N, N = (L ++ A ++ [iJump 1 0] ++ BB).length := ⟨_, rfl⟩
        have hNv : N = L.length + A.length + 1 + BB.length := by rw [hN]; simp; omega
        have hJN : J < N := by rw [HJ.out, hNv]; simp; omega
        have hNb : Hid (N ≤ 10000000) := by show _ ≤ _; rw [hNv]; have := HL.out; have := hp4.out; have := hpk.out; have := hAl.out; omega
        obtain ⟨g4, cap4, hv4⟩ : ∃ g4 cap4, v4 = .slice (some ⟨g4, 0, none⟩) N cap4 := by
          rcases hC4.2.2.2.2.2 with ⟨_, h0⟩ | ⟨g4, cap4, _, hv, _⟩
          · omega
          · exact ⟨g4, cap4, by rw [hv, hN]⟩
        subst hv4
        have hrow4 : w4.ownsRow (cb + 1) 59 6 (.slice (some ⟨g4, 0, none⟩) N cap4) N ((L ++ A ++ [iJump 1 0] ++ BB).flatMap Ins.cells) := by have := hC4.2.2.2.2; unfold IRow at this; rw [← hN] at this; exact this
        have hcap4 : N ≤ cap4 ∧ cap4 ≤ 9223372036854775807 := by
          rcases hrow4.2 with ⟨h, _⟩ | ⟨g', cap', _, hv, _, _, h1, h2, _⟩
          · simp at h
          · simp at hv; unfold maxLen at h2; omega
        have q4 := hC4.2.2.1
        have hcb4 := hC4.1
        obtain ⟨u4, hu4⟩ : ∃ u, w4.cell? ⟨g4, J * 6 + 5, none⟩ = some u := by
          have h1 := World.ownsRow.cellAt hrow4 (J * 6 + 5) (by omega)
          rw [h1]
          exact ⟨_, List.getElem?_eq_getElem (by rw [flat6Ins_len, ← hN]; omega)⟩
        have hf4 := World.ownsRow.frozenAt hrow4 (J * 6 + 5)
        have hJN' : (J : Int) < (N : Int) := by omega
        have hend := fun n => CSt.dst (w := w4) (g := g4) (cap := cap4) (L := L ++ A ++ [iJump 1 0] ++ BB) (vw := .slice (some ⟨g, o, none⟩) T.length cap) (cb := cb) (by rw [← hN]; exact hC4) (k := J) (by rw [← hN]; exact hJN) (N : Int) ((w4.setCell ⟨g4, J * 6 + 5, none⟩ (.int .i64 (N : Int))).drewN n) ⟨n, rfl⟩
        have HEND : Hid (∀ n, PutOut w cb (.slice (some ⟨g, o, none⟩) T.length cap) v (L ++ cmp T k L.length) (.returned (.tuple #[])) ((w4.setCell ⟨g4, J * 6 + 5, none⟩ (.int .i64 (N : Int))).drewN n)) := fun n => by
          obtain ⟨e1, e2⟩ := hend n
          rw [← hN] at e1 e2
          refine ⟨rfl, _, ?_, hP14.out.trans e2⟩
          rw [HE1.out L.length rfl, ← hNv]
          have e3 := jump_set (L ++ A) BB 1 (N : Int)
          rw [← HJ.out] at e3
          rw [e3] at e1
          simpa [List.append_assoc] using e1
        clear hend hrow4 hC4 hP4 HC3 hT3 HE1 hBd hN HIH hNv hBB
        have hNN : N ≤ 10000000 := hNb.out
        go_wp2
        go_region
        go_wp2
        go_end0
        first | exact HEND.out _ | exact HEND.out 1
    · obtain ⟨an, ha, han, hE⟩ := hNO.out hkd
      have hkb := not_bounds hkd
      subst ha hkb
      clear hAS hBI hkd hNO
      go_wp2_with fail
      refine (HIH.out an han L v W1 HC1.out HT1.out (by have := HL.out; have := hp4.out; have := hpk.out; have := hpow.out an han; omega)).mono ?_
      rintro e w2 ⟨rfl, v2, hC2, hP2⟩
      have HC2 : Hid (CSt w2 cb (.slice (some ⟨g, o, none⟩) T.length cap) v2 (L ++ cmp T an L.length)) := hC2
      have HP2 : Hid (Pu w w2 (some cb) v v2) := HP1.out.trans hP2
      have HAL : Hid ((L ++ cmp T an L.length).length ≤ 10000000) := by show _ ≤ _; have := HLN.out an L.length; have := hpow.out an han; have := HL.out; have := hp4.out; have := hpk.out; simp; omega
      clear hC2 hP2 HC1 HT1 HP1
      go_wp2_with fail
      refine (put_any iFlip cb _ v2 _ w2 HC2.out HAL.out).mono ?_
      rintro e w3 ⟨rfl, v3, hC3, hP3⟩
      go_wp2
      go_end0
      refine ⟨rfl, v3, ?_, HP2.out.trans hP3⟩
      rw [hE]
      simpa [List.append_assoc] using hC3

end Go.Proofs.YtmjpmmkjfimopaaDoor
