/- The model's l8Compile. -/
import Derived.Test.YtmjpmmkjfimopaaDoorCpB
namespace Go.Proofs.YtmjpmmkjfimopaaDoor
open Go.RowKit Plain Sch Wan Prg

theorem keep_pu {w w' : World} {cb : Option Nat} {b : Nat} {v v' : Value} (hp : Pu w w' cb v v') (hb : b < w.heap.size) (h1 : some b ≠ cb) (h2 : some b ≠ v.ownBlock) (j : Nat) : w'.cell? ⟨b, j, none⟩ = w.cell? ⟨b, j, none⟩ := hp.cell (p := ⟨b, j, none⟩) hb h1 h2

theorem new_neN {W1 w1 : World} {cb : Option Nat} {b : Nat} {v v1 : Value} (hp : Pu W1 w1 cb v v1) (hb : b < W1.heap.size) (h2 : some b ≠ v.ownBlock) : some b ≠ v1.ownBlock := fun e => by
  rcases hp.new b e.symm with h | h
  · exact h2 h.symm
  · omega

theorem app_end {w w9 : World} {B g9 cap9 : Nat} {v : Value} {L : List Ins} {x : Ins} {o : Obj} (hown9 : w9.ownsRow B 59 6 (.slice (some ⟨g9, 0, none⟩) (L.length + 1) cap9) (L.length + 1) (L.flatMap Ins.cells ++ x.cells)) (hgrow : (w.alloc o).grownBy w9 v.ownBlock) (hat : v.ownBlock = some g9 ∨ g9 = w.heap.size + 1) :
    IRow w9 B (.slice (some ⟨g9, 0, none⟩) (L ++ [x]).length cap9) (L ++ [x]) ∧ Pu w w9 none v (.slice (some ⟨g9, 0, none⟩) (L ++ [x]).length cap9) := by
  have e : (L ++ [x]).length = L.length + 1 := by simp
  rw [e]
  refine ⟨IRow.snoc hown9 rfl rfl, hgrow.os, hgrow.tape, hgrow.output, by have := hgrow.size; simp at this; omega, fun j hj _ hv => ?_, fun g hg => ?_⟩
  · rw [hgrow.block j (by simp; omega) hv, Below.heap_alloc _ _ _ (by omega)]
  · simp [Value.ownBlock] at hg
    subst hg
    rcases hat with h | h
    · exact .inl h
    · exact .inr (by omega)

theorem app_end2 {w w9 : World} {B g9 cap9 n : Nat} {v : Value} {D E : List Ins} {x : Ins} {o : Obj} (hE : E = D ++ [x]) (hown9 : w9.ownsRow B 59 6 (.slice (some ⟨g9, 0, none⟩) (n + 1) cap9) (n + 1) (D.flatMap Ins.cells ++ x.cells)) (hgrow : (w.alloc o).grownBy w9 v.ownBlock) (hat : v.ownBlock = some g9 ∨ g9 = w.heap.size + 1) :
    w9.ownsRow B 59 6 (.slice (some ⟨g9, 0, none⟩) (n + 1) cap9) (n + 1) (E.flatMap Ins.cells) ∧ Pu w w9 none v (.slice (some ⟨g9, 0, none⟩) (n + 1) cap9) := by
  subst hE
  refine ⟨by rw [List.flatMap_append]; simpa using hown9, hgrow.os, hgrow.tape, hgrow.output, by have := hgrow.size; simp at this; omega, fun j hj _ hv => ?_, fun g hg => ?_⟩
  · rw [hgrow.block j (by simp; omega) hv, Below.heap_alloc _ _ _ (by omega)]
  · simp [Value.ownBlock] at hg
    subst hg
    rcases hat with h | h
    · exact .inl h
    · exact .inr (by omega)

theorem IRow.own {w : World} {B : Nat} {v : Value} {L : List Ins} (h : IRow w B v L) : ∀ g, v.ownBlock = some g → B ≤ g := fun g hg => (World.ownsRow.lt h g hg).1

theorem IRow.keeps {w w' : World} {B : Nat} {v v' : Value} {L : List Ins} (h : IRow w B v L) (hB : B ≤ w.heap.size) (hp : Pu w w' none v v') : Below B w w' :=
  hp.below hB (fun g hg => by cases hg) h.own

/-- a row and a bound told -/
def CmpOut (w : World) (B : Nat) (v : Value) (L : List Ins) (e : Ending) (w' : World) : Prop := ∃ v', e = .returned v' ∧ IRow w' B v' L ∧ Pu w w' none v v'

set_option maxRecDepth 100000 in
set_option maxHeartbeats 8000000 in
theorem l8Compile_any (T : List Wa) (hg : gf T = true) : ∀ (k : Nat), k < T.length → ∀ (B : Nat) (vw v : Value) (L : List Ins) (w : World), IRow w B v L → B ≤ w.heap.size → WasAt w B vw T → L.length + 2 ^ (k + 2) ≤ 10000000 →
    Calls Tryd.prog 25 #[.agg #[vw], .int .i64 k, v] w (CmpOut w B v (L ++ cmp T k L.length)) := by
  intro k
  induction k using Nat.strongRecOn with
  | ind k ih =>
    intro hk B vw v L w hown hBw hT hL
    obtain ⟨i0, hi, hz0, hz1, hz2⟩ := info_parts Tryd.infoIns
    have h20 := gf_len hg
    have HT : Hid (WasAt w B vw T) := hT
    obtain ⟨ao, cap, rfl, hlc, hcm, hrow, hnm⟩ := hT
    unfold maxLen at hcm
    have hkl : (k : Int) < (T.length : Int) := by omega
    obtain ⟨g, o, rfl, hgc, hty⟩ := hrow k hk
    clear hrow hnm
    have HIH : Hid (∀ j, j < k → ∀ (L : List Ins) (v : Value) (w : World), IRow w B v L → B ≤ w.heap.size → WasAt w B (.slice (some ⟨g, o, none⟩) T.length cap) T → L.length + 2 ^ (j + 2) ≤ 10000000 → Calls Tryd.prog 25 #[.agg #[.slice (some ⟨g, o, none⟩) T.length cap], .int .i64 j, v] w (CmpOut w B v (L ++ cmp T j L.length))) := fun j hj L v w h1 h2 h3 h4 => ih j hj (by omega) B _ v L w h1 h2 h3 h4
    have HLN : Hid (∀ j base, (cmp T j base).length + 1 ≤ 2 ^ (j + 2)) := cmp_len T
    clear ih
    have hok := gf_ok hg k hk
    have hKC := Wan.kind_cases hok
    have hAS : Hid (isAsk (wa T k).kind = true → ∀ base, cmp T k base = [iSeek (wa T k).no, iTest (wa T k).kind (wa T k).num (wa T k).text]) := fun h base => cmp_ask h
    have hNO : Hid (isNot (wa T k).kind = true → ∃ a : Nat, (wa T k).a = a ∧ a < k ∧ ∀ base, cmp T k base = cmp T a base ++ [iFlip]) := fun h => by
      have := gf_own hg k hk (wa T k).a (by rw [own_not h]; simp)
      exact ⟨(wa T k).a.toNat, by omega, by omega, fun base => cmp_not h (by omega)⟩
    have hBI : Hid (isBin (wa T k).kind = true → ∃ a b : Nat, (wa T k).a = a ∧ (wa T k).b = b ∧ a < k ∧ b < k ∧ ∀ base, cmp T k base = cmp T a base ++ [iJump ((wa T k).kind - 6) (((base + (cmp T a base).length + 1 + (cmp T b (base + (cmp T a base).length + 1)).length : Nat)) : Int)] ++ cmp T b (base + (cmp T a base).length + 1)) := fun h => by
      have ha := gf_own hg k hk (wa T k).a (by rw [own_bin h]; simp)
      have hb := gf_own hg k hk (wa T k).b (by rw [own_bin h]; simp)
      exact ⟨(wa T k).a.toNat, (wa T k).b.toNat, by omega, by omega, by omega, by omega, fun base => cmp_bin h (by omega) (by omega)⟩
    have hpow : Hid (∀ j, j < k → 2 ^ (j + 2) ≤ 2 ^ (k + 1)) := fun j hj => Nat.pow_le_pow_right (by omega) (by omega)
    have hpk : Hid (2 ^ (k + 2) = 2 ^ (k + 1) + 2 ^ (k + 1)) := by show _ = _; rw [Nat.pow_succ]; omega
    have hp4 : Hid (4 ≤ 2 ^ (k + 2)) := by
      show 4 ≤ _
      have : 2 ^ 2 ≤ 2 ^ (k + 2) := Nat.pow_le_pow_right (by omega) (by omega)
      omega
    have HL : Hid (L.length + 2 ^ (k + 2) ≤ 10000000) := hL
    clear hL hok hg
    obtain ⟨x, hx⟩ : ∃ x, x = wa T k := ⟨_, rfl⟩
    rw [← hx] at hty hKC hAS hNO hBI
    clear hx
    obtain ⟨ar, capr, rfl, hnr, hcmr⟩ := hown.slice
    have hcmr' : capr ≤ 9223372036854775807 := by unfold maxLen at hcmr; omega
    obtain ⟨W1, hW1⟩ : ∃ W, W = (w.alloc (.cells #[.slice (some ⟨g, o, none⟩) T.length cap] 25)).alloc (.cells #[.int .i64 x.kind, .int .i64 x.no, .int .i64 x.num, .string x.text, .int .i64 x.a, .int .i64 x.b] 66) := ⟨_, rfl⟩
    have hB1 : Below w.heap.size w W1 := by rw [hW1]; exact ((Below.refl _ w).alloc (Nat.le_refl _) _).alloc (by simp) _
    have HS1 : Hid (W1.heap.size = w.heap.size + 2) := by show _ = _; rw [hW1]; simp
    have hl1 : w.heap.size + 1 < W1.heap.size := by rw [HS1.out]; omega
    have hl1' : w.heap.size < W1.heap.size := by omega
    have f0 : W1.cell? ⟨w.heap.size, 0, none⟩ = some (.slice (some ⟨g, o, none⟩) T.length cap) := by rw [hW1]; go_simp
    have x0 : W1.cell? ⟨w.heap.size + 1, 0, none⟩ = some (.int .i64 x.kind) := by rw [hW1]; go_simp
    have x1 : W1.cell? ⟨w.heap.size + 1, 1, none⟩ = some (.int .i64 x.no) := by rw [hW1]; go_simp
    have x2 : W1.cell? ⟨w.heap.size + 1, 2, none⟩ = some (.int .i64 x.num) := by rw [hW1]; go_simp
    have x3 : W1.cell? ⟨w.heap.size + 1, 3, none⟩ = some (.string x.text) := by rw [hW1]; go_simp
    have x4 : W1.cell? ⟨w.heap.size + 1, 4, none⟩ = some (.int .i64 x.a) := by rw [hW1]; go_simp
    have x5 : W1.cell? ⟨w.heap.size + 1, 5, none⟩ = some (.int .i64 x.b) := by rw [hW1]; go_simp
    have HR1 : Hid (IRow W1 B (.slice ar L.length capr) L) := hown.below hB1
    have HT1 : Hid (WasAt W1 B (.slice (some ⟨g, o, none⟩) T.length cap) T) := HT.out.keep (hB1.mono hBw)
    have hneF : some w.heap.size ≠ (Value.slice ar L.length capr).ownBlock := fun e => by have := (World.ownsRow.lt hown _ e.symm).2; omega
    have hneX : some (w.heap.size + 1) ≠ (Value.slice ar L.length capr).ownBlock := fun e => by have := (World.ownsRow.lt hown _ e.symm).2; omega
    have HP1 : Hid (Pu w W1 none (.slice ar L.length capr) (.slice ar L.length capr)) := Pu.of_below hB1
    have hB1s : B ≤ W1.heap.size := by omega
    obtain ⟨c0, c1, c2, c3, c4, c5⟩ := hty
    obtain ⟨kd, no, m, t, a, b⟩ := x
    dsimp only at x0 x1 x2 x3 x4 x5 c0 c1 c2 c3 c4 c5 hW1 hKC hAS hNO hBI
    clear hown
    have hgw : g < w.heap.size := by omega
    go_enter Tryd.func25, Tryd.ntmps25
    go_upto_region 2 with fail
    rw [← hW1]
    clear hW1 c0 c1 c2 c3 c4 c5
    have HR1o : Hid (W1.ownsRow B 59 6 (.slice ar L.length capr) L.length (L.flatMap Ins.cells)) := HR1.out
    rcases hKC with hkd | hkd | hkd
    · have hkb := ask_bounds hkd
      have d7 : (kd == 7) = false := by simp; omega
      have d6 : (kd == 6) = false := by simp; omega
      have d8 : (kd == 8) = false := by simp; omega
      have hE : Hid (∀ base, cmp T k base = [iSeek no, iTest kd m t]) := hAS.out hkd
      clear hAS hNO hBI HIH
      have hLb : L.length + 2 ≤ 9999999 := by have := HL.out; have := hp4.out; omega
      go_wp2_with (at_builtin; refine wpList_append_lies _ rfl _ _ 28 rfl B 59 i0 (.agg #[.int .i64 0, .int .i64 0, .int .i64 0, .int .i64 0, .string ⟨#[]⟩, .int .i64 0]) 6 56 Tryd.underlying28 hi hz0 hz1 hz2 rfl (by decide) _ (L.length) _ rfl (World.ownsRow.alloc HR1o.out _) ⟨W1.heap.size, 0, none⟩ 1 1 [.int .i64 1, .int .i64 0, .int .i64 no, .int .i64 0, .string ⟨#[]⟩, .int .i64 0] rfl rfl ?c1 (one6I _ _ _ _ _ _) ?c2 ?c3 ?c4 ?c5 (W1.heap.size + 1) ?c6 ?_)
      case c1 => exact World.news_of_block (heap_alloc_new W1 _)
      case c2 => omega
      case c3 => unfold maxLen; omega
      case c4 => omega
      case c5 => simp; omega
      case c6 => simp
      intro g2 cap2 w2 hown2 hgrow2 hat2 hlt2
      obtain ⟨D2, hD2⟩ : ∃ D, D = L ++ [iSeek no] := ⟨_, rfl⟩
      have hE2 := app_end2 (D := L) (x := iSeek no) hD2 hown2 hgrow2 hat2
      have HD2 : Hid (D2 = L ++ [iSeek no]) := hD2
      have HR2 : Hid (w2.ownsRow B 59 6 (.slice (some ⟨g2, 0, none⟩) (L.length + 1) cap2) (L.length + 1) (D2.flatMap Ins.cells)) := hE2.1
      have hP2 := hE2.2
      have hs2 : W1.heap.size ≤ w2.heap.size := hP2.size
      clear hown2 hgrow2 hat2 hE2 hD2
      have hl2 : w.heap.size + 1 < w2.heap.size := by omega
      have x0 := (keep_pu hP2 hl1 (by simp) hneX 0).trans x0
      have x2 := (keep_pu hP2 hl1 (by simp) hneX 2).trans x2
      have x3 := (keep_pu hP2 hl1 (by simp) hneX 3).trans x3
      have HP2 : Hid (Pu W1 w2 none (.slice ar L.length capr) (.slice (some ⟨g2, 0, none⟩) (L.length + 1) cap2)) := hP2
      clear hP2
      go_wp2_with (at_builtin; refine wpList_append_lies _ rfl _ _ 28 rfl B 59 i0 (.agg #[.int .i64 0, .int .i64 0, .int .i64 0, .int .i64 0, .string ⟨#[]⟩, .int .i64 0]) 6 56 Tryd.underlying28 hi hz0 hz1 hz2 rfl (by decide) _ (L.length + 1) _ rfl (World.ownsRow.alloc HR2.out _) ⟨w2.heap.size, 0, none⟩ 1 1 [.int .i64 2, .int .i64 kd, .int .i64 0, .int .i64 m, .string t, .int .i64 0] rfl rfl ?c1 (one6I _ _ _ _ _ _) ?c2 ?c3 ?c4 ?c5 (w2.heap.size + 1) ?c6 ?_)
      case c1 => exact World.news_of_block (heap_alloc_new w2 _)
      case c2 => omega
      case c3 => unfold maxLen; omega
      case c4 => omega
      case c5 => simp; omega
      case c6 => simp
      intro g3 cap3 w3 hown3 hgrow3 hat3 hlt3
      obtain ⟨D3, hD3⟩ : ∃ D, D = D2 ++ [iTest kd m t] := ⟨_, rfl⟩
      have hE3 := app_end2 (D := D2) (x := iTest kd m t) hD3 hown3 hgrow3 hat3
      have HD3 : Hid (D3 = D2 ++ [iTest kd m t]) := hD3
      have HR3 : Hid (w3.ownsRow B 59 6 (.slice (some ⟨g3, 0, none⟩) (L.length + 1 + 1) cap3) (L.length + 1 + 1) (D3.flatMap Ins.cells)) := hE3.1
      have hP3 := hE3.2
      have hs3 : w2.heap.size ≤ w3.heap.size := hP3.size
      clear hown3 hgrow3 hat3 hE3 hD3
      have HEND : Hid (CmpOut w B (.slice ar L.length capr) (L ++ cmp T k L.length) (.returned (.slice (some ⟨g3, 0, none⟩) (L.length + 1 + 1) cap3)) w3) := by
        refine ⟨_, rfl, ?_, HP1.out.trans (HP2.out.trans hP3)⟩
        have h3 := HR3.out
        rw [HD3.out, HD2.out] at h3
        rw [hE.out]
        unfold IRow
        simpa [List.append_assoc] using h3
      clear HR3 HR2 HP2 hP3 HP1 HD2 HD3
      go_wp2
      go_ret
      exact HEND.out
    · obtain ⟨an, bn, ha, hb, han, hbn, hE0⟩ := hBI.out hkd
      have hbb := bin_bounds hkd
      subst ha hb
      clear hAS hNO hBI hkd
      rcases hbb with rfl | rfl
      · have hE : Hid (∀ base, cmp T k base = cmp T an base ++ [iJump 0 (((base + (cmp T an base).length + 1 + (cmp T bn (base + (cmp T an base).length + 1)).length : Nat)) : Int)] ++ cmp T bn (base + (cmp T an base).length + 1)) := hE0
        clear hE0
        go_wp2_with fail
        refine (HIH.out an han L _ W1 HR1.out hB1s HT1.out (by have := HL.out; have := hp4.out; have := hpk.out; have := hpow.out an han; omega)).mono ?_
        rintro e w2 ⟨v2, rfl, hR2, hP2⟩
        have hs2 := hP2.size
        have hl2 : w.heap.size + 1 < w2.heap.size := by omega
        have hl2' : w.heap.size < w2.heap.size := by omega
        have f0 := (keep_pu hP2 hl1' (by simp) hneF 0).trans f0
        have x0 := (keep_pu hP2 hl1 (by simp) hneX 0).trans x0
        have x5 := (keep_pu hP2 hl1 (by simp) hneX 5).trans x5
        have hneF2 := new_neN hP2 hl1' hneF
        have hneX2 := new_neN hP2 hl1 hneX
        have HT2 : Hid (WasAt w2 B (.slice (some ⟨g, o, none⟩) T.length cap) T) := HT1.out.keep (HR1.out.keeps hB1s hP2)
        obtain ⟨A, hA⟩ : ∃ A, A = cmp T an L.length := ⟨_, rfl⟩
        have hAl : Hid (A.length + 1 ≤ 2 ^ (k + 1)) := by show _ ≤ _; rw [hA]; have := HLN.out an L.length; have := hpow.out an han; omega
        have HE1 : Hid (∀ (base : Nat), base = L.length → cmp T k base = A ++ [iJump 0 (((L.length + A.length + 1 + (cmp T bn (L.length + A.length + 1)).length : Nat)) : Int)] ++ cmp T bn (L.length + A.length + 1)) := fun base hbase => by rw [hbase, hE.out, ← hA]
        rw [← hA] at hR2
        clear hE hA
        obtain ⟨ar2, cap2, rfl, hn2, hcm2⟩ := hR2.slice
        have hcm2' : cap2 ≤ 9223372036854775807 := by unfold maxLen at hcm2; omega
        have HR2 : Hid (IRow w2 B (.slice ar2 (L ++ A).length cap2) (L ++ A)) := hR2
        have HP12 : Hid (Pu w w2 none (.slice ar L.length capr) (.slice ar2 (L ++ A).length cap2)) := HP1.out.trans hP2
        obtain ⟨J, hJ⟩ : ∃ J, J = (L ++ A).length := ⟨_, rfl⟩
        have HJ : Hid (J = (L ++ A).length) := hJ
        have hJv : Hid (J = L.length + A.length) := by show _ = _; rw [hJ]; simp
        rw [← hJ] at HR2 HP12 hn2 hneF2 hneX2
        rw [← hJ]
        have hJb : J ≤ 9999999 := by rw [hJv.out]; have := hAl.out; have := HL.out; have := hp4.out; have := hpk.out; omega
        obtain ⟨D2, hD2⟩ : ∃ D, D = L ++ A := ⟨_, rfl⟩
        have HD2 : Hid (D2 = L ++ A) := hD2
        have HR2j : Hid (w2.ownsRow B 59 6 (.slice ar2 J cap2) J (D2.flatMap Ins.cells)) := by show World.ownsRow _ _ _ _ _ _ _; have := HR2.out; unfold IRow at this; rw [← HJ.out] at this; rw [hD2]; exact this
        clear hR2 hP2 hJ HR1 HT1 HP1 x1 x2 x3 x4 hD2
        go_wp2_with (at_builtin; refine wpList_append_lies _ rfl _ _ 28 rfl B 59 i0 (.agg #[.int .i64 0, .int .i64 0, .int .i64 0, .int .i64 0, .string ⟨#[]⟩, .int .i64 0]) 6 56 Tryd.underlying28 hi hz0 hz1 hz2 rfl (by decide) _ J _ rfl (World.ownsRow.alloc HR2j.out _) ⟨w2.heap.size, 0, none⟩ 1 1 [.int .i64 3, .int .i64 0, .int .i64 0, .int .i64 0, .string ⟨#[]⟩, .int .i64 0] rfl rfl ?c1 (one6I _ _ _ _ _ _) ?c2 ?c3 ?c4 ?c5 (w2.heap.size + 1) ?c6 ?_)
        case c1 => exact World.news_of_block (heap_alloc_new w2 _)
        case c2 => omega
        case c3 => unfold maxLen; omega
        case c4 => omega
        case c5 => simp; omega
        case c6 => simp
        intro g3 cap3 w3 hown3 hgrow3 hat3 hlt3
        have hE3 := app_end2 (D := D2) (x := iJump 0 0) (v := .slice ar2 J cap2) rfl hown3 hgrow3 hat3
        have HR3 : Hid (IRow w3 B (.slice (some ⟨g3, 0, none⟩) (J + 1) cap3) (L ++ A ++ [iJump 0 0])) := by
          show IRow _ _ _ _
          have h3 := hE3.1
          rw [HD2.out] at h3
          unfold IRow
          rw [show (L ++ A ++ [iJump 0 0]).length = J + 1 by rw [HJ.out]; simp; omega]
          exact h3
        have hP3 := hE3.2
        have hs3 := hP3.size
        have f0 := (keep_pu hP3 hl2' (by simp) hneF2 0).trans f0
        have x5 := (keep_pu hP3 hl2 (by simp) hneX2 5).trans x5
        have hl3 : w.heap.size + 1 < w3.heap.size := by omega
        have hl3' : w.heap.size < w3.heap.size := by omega
        have HT3 : Hid (WasAt w3 B (.slice (some ⟨g, o, none⟩) T.length cap) T) := HT2.out.keep (HR2.out.keeps (by omega) hP3)
        have HP13 : Hid (Pu w w3 none (.slice ar L.length capr) (.slice (some ⟨g3, 0, none⟩) (J + 1) cap3)) := HP12.out.trans hP3
        have hlN3 : (L ++ A ++ [iJump 0 0]).length = L.length + A.length + 1 := by simp; omega
        have hB3s : B ≤ w3.heap.size := by omega
        clear hown3 hgrow3 hat3 hE3 hP3 HT2 HR2 HR2j HP12 x0
        go_wp2_with fail
        refine (HIH.out bn hbn (L ++ A ++ [iJump 0 0]) _ w3 HR3.out hB3s HT3.out (by have := HL.out; have := hp4.out; have := hpk.out; have := hpow.out bn hbn; have := hAl.out; rw [hlN3]; omega)).mono ?_
        rintro e w4 ⟨v4, rfl, hR4, hP4⟩
        have hBB : (cmp T bn (L ++ A ++ [iJump 0 0]).length).length + 1 ≤ 2 ^ (k + 1) := by have := HLN.out bn (L ++ A ++ [iJump 0 0]).length; have := hpow.out bn hbn; omega
        rw [hlN3] at hR4 hBB
        obtain ⟨BB, hBd⟩ : ∃ BB, BB = cmp T bn (L.length + A.length + 1) := ⟨_, rfl⟩
        rw [← hBd] at hR4 hBB HE1
        have HP14 : Hid (Pu w w4 none (.slice ar L.length capr) v4) := HP13.out.trans hP4
        obtain ⟨N, hN⟩ : ∃ N, N = (L ++ A ++ [iJump 0 0] ++ BB).length := ⟨_, rfl⟩
        have hNv : N = L.length + A.length + 1 + BB.length := by rw [hN]; simp; omega
        have hJN : J < N := by rw [hJv.out, hNv]; omega
        have hNN : N ≤ 10000000 := by rw [hNv]; have := HL.out; have := hp4.out; have := hpk.out; have := hAl.out; omega
        obtain ⟨g4, cap4, hv4⟩ : ∃ g4 cap4, v4 = .slice (some ⟨g4, 0, none⟩) N cap4 := by
          rcases hR4.2 with ⟨_, h0⟩ | ⟨g4, cap4, _, hv, _⟩
          · omega
          · exact ⟨g4, cap4, by rw [hv, hN]⟩
        subst hv4
        have hrow4 : w4.ownsRow B 59 6 (.slice (some ⟨g4, 0, none⟩) N cap4) N ((L ++ A ++ [iJump 0 0] ++ BB).flatMap Ins.cells) := by unfold IRow at hR4; rw [← hN] at hR4; exact hR4
        have hcap4 : N ≤ cap4 ∧ cap4 ≤ 9223372036854775807 := by
          rcases hrow4.2 with ⟨h, _⟩ | ⟨g', cap', _, hv, _, _, h1, h2, _⟩
          · simp at h
          · simp at hv; unfold maxLen at h2; omega
        obtain ⟨u4, hu4⟩ : ∃ u, w4.cell? ⟨g4, J * 6 + 5, none⟩ = some u := by
          have h1 := World.ownsRow.cellAt hrow4 (J * 6 + 5) (by omega)
          rw [h1]
          exact ⟨_, List.getElem?_eq_getElem (by rw [flat6Ins_len, ← hN]; omega)⟩
        have hf4 := World.ownsRow.frozenAt hrow4 (J * 6 + 5)
        have hJN' : (J : Int) < (N : Int) := by omega
        have hset := IRow.dst (w := w4) (B := B) (g := g4) (cap := cap4) (L := L ++ A ++ [iJump 0 0] ++ BB) (by rw [← hN]; exact hR4) (k := J) (by rw [← hN]; exact hJN) (N : Int)
        have HEND : Hid (∀ n, CmpOut w B (.slice ar L.length capr) (L ++ cmp T k L.length) (.returned (.slice (some ⟨g4, 0, none⟩) N cap4)) ((w4.setCell ⟨g4, J * 6 + 5, none⟩ (.int .i64 (N : Int))).drewN n)) := fun n => by
          refine ⟨_, rfl, ?_, HP14.out.trans ⟨rfl, rfl, rfl, by simp, fun j hj _ hv => ?_, fun g' hg' => .inl hg'⟩⟩
          · rw [HE1.out L.length rfl, ← hNv]
            have e3 := jump_set (L ++ A) BB 0 (N : Int)
            rw [← HJ.out] at e3
            rw [e3, ← hN] at hset
            have hset2 : IRow ((w4.setCell ⟨g4, J * 6 + 5, none⟩ (.int .i64 (N : Int))).drewN n) B (.slice (some ⟨g4, 0, none⟩) N cap4) (L ++ A ++ [iJump 0 (N : Int)] ++ BB) := hset
            simpa [List.append_assoc] using hset2
          · have : j ≠ g4 := fun e => hv (by rw [e]; rfl)
            exact Below.heap_setCell _ _ _ _ this
        clear hset hrow4 hR4 hP4 HR3 HT3 HE1 hBd hN HIH hNv hBB
        go_wp2
        go_ret
        first | exact HEND.out 0 | exact HEND.out 1 | exact HEND.out _
      · have hE : Hid (∀ base, cmp T k base = cmp T an base ++ [iJump 1 (((base + (cmp T an base).length + 1 + (cmp T bn (base + (cmp T an base).length + 1)).length : Nat)) : Int)] ++ cmp T bn (base + (cmp T an base).length + 1)) := hE0
        clear hE0
        go_wp2_with fail
        refine (HIH.out an han L _ W1 HR1.out hB1s HT1.out (by have := HL.out; have := hp4.out; have := hpk.out; have := hpow.out an han; omega)).mono ?_
        rintro e w2 ⟨v2, rfl, hR2, hP2⟩
        have hs2 := hP2.size
        have hl2 : w.heap.size + 1 < w2.heap.size := by omega
        have hl2' : w.heap.size < w2.heap.size := by omega
        have f0 := (keep_pu hP2 hl1' (by simp) hneF 0).trans f0
        have x0 := (keep_pu hP2 hl1 (by simp) hneX 0).trans x0
        have x5 := (keep_pu hP2 hl1 (by simp) hneX 5).trans x5
        have hneF2 := new_neN hP2 hl1' hneF
        have hneX2 := new_neN hP2 hl1 hneX
        have HT2 : Hid (WasAt w2 B (.slice (some ⟨g, o, none⟩) T.length cap) T) := HT1.out.keep (HR1.out.keeps hB1s hP2)
        obtain ⟨A, hA⟩ : ∃ A, A = cmp T an L.length := ⟨_, rfl⟩
        have hAl : Hid (A.length + 1 ≤ 2 ^ (k + 1)) := by show _ ≤ _; rw [hA]; have := HLN.out an L.length; have := hpow.out an han; omega
        have HE1 : Hid (∀ (base : Nat), base = L.length → cmp T k base = A ++ [iJump 1 (((L.length + A.length + 1 + (cmp T bn (L.length + A.length + 1)).length : Nat)) : Int)] ++ cmp T bn (L.length + A.length + 1)) := fun base hbase => by rw [hbase, hE.out, ← hA]
        rw [← hA] at hR2
        clear hE hA
        obtain ⟨ar2, cap2, rfl, hn2, hcm2⟩ := hR2.slice
        have hcm2' : cap2 ≤ 9223372036854775807 := by unfold maxLen at hcm2; omega
        have HR2 : Hid (IRow w2 B (.slice ar2 (L ++ A).length cap2) (L ++ A)) := hR2
        have HP12 : Hid (Pu w w2 none (.slice ar L.length capr) (.slice ar2 (L ++ A).length cap2)) := HP1.out.trans hP2
        obtain ⟨J, hJ⟩ : ∃ J, J = (L ++ A).length := ⟨_, rfl⟩
        have HJ : Hid (J = (L ++ A).length) := hJ
        have hJv : Hid (J = L.length + A.length) := by show _ = _; rw [hJ]; simp
        rw [← hJ] at HR2 HP12 hn2 hneF2 hneX2
        rw [← hJ]
        have hJb : J ≤ 9999999 := by rw [hJv.out]; have := hAl.out; have := HL.out; have := hp4.out; have := hpk.out; omega
        obtain ⟨D2, hD2⟩ : ∃ D, D = L ++ A := ⟨_, rfl⟩
        have HD2 : Hid (D2 = L ++ A) := hD2
        have HR2j : Hid (w2.ownsRow B 59 6 (.slice ar2 J cap2) J (D2.flatMap Ins.cells)) := by show World.ownsRow _ _ _ _ _ _ _; have := HR2.out; unfold IRow at this; rw [← HJ.out] at this; rw [hD2]; exact this
        clear hR2 hP2 hJ HR1 HT1 HP1 x1 x2 x3 x4 hD2
        go_wp2_with (at_builtin; refine wpList_append_lies _ rfl _ _ 28 rfl B 59 i0 (.agg #[.int .i64 0, .int .i64 0, .int .i64 0, .int .i64 0, .string ⟨#[]⟩, .int .i64 0]) 6 56 Tryd.underlying28 hi hz0 hz1 hz2 rfl (by decide) _ J _ rfl (World.ownsRow.alloc HR2j.out _) ⟨w2.heap.size, 0, none⟩ 1 1 [.int .i64 3, .int .i64 0, .int .i64 0, .int .i64 1, .string ⟨#[]⟩, .int .i64 0] rfl rfl ?c1 (one6I _ _ _ _ _ _) ?c2 ?c3 ?c4 ?c5 (w2.heap.size + 1) ?c6 ?_)
        case c1 => exact World.news_of_block (heap_alloc_new w2 _)
        case c2 => omega
        case c3 => unfold maxLen; omega
        case c4 => omega
        case c5 => simp; omega
        case c6 => simp
        intro g3 cap3 w3 hown3 hgrow3 hat3 hlt3
        have hE3 := app_end2 (D := D2) (x := iJump 1 0) (v := .slice ar2 J cap2) rfl hown3 hgrow3 hat3
        have HR3 : Hid (IRow w3 B (.slice (some ⟨g3, 0, none⟩) (J + 1) cap3) (L ++ A ++ [iJump 1 0])) := by
          show IRow _ _ _ _
          have h3 := hE3.1
          rw [HD2.out] at h3
          unfold IRow
          rw [show (L ++ A ++ [iJump 1 0]).length = J + 1 by rw [HJ.out]; simp; omega]
          exact h3
        have hP3 := hE3.2
        have hs3 := hP3.size
        have f0 := (keep_pu hP3 hl2' (by simp) hneF2 0).trans f0
        have x5 := (keep_pu hP3 hl2 (by simp) hneX2 5).trans x5
        have hl3 : w.heap.size + 1 < w3.heap.size := by omega
        have hl3' : w.heap.size < w3.heap.size := by omega
        have HT3 : Hid (WasAt w3 B (.slice (some ⟨g, o, none⟩) T.length cap) T) := HT2.out.keep (HR2.out.keeps (by omega) hP3)
        have HP13 : Hid (Pu w w3 none (.slice ar L.length capr) (.slice (some ⟨g3, 0, none⟩) (J + 1) cap3)) := HP12.out.trans hP3
        have hlN3 : (L ++ A ++ [iJump 1 0]).length = L.length + A.length + 1 := by simp; omega
        have hB3s : B ≤ w3.heap.size := by omega
        clear hown3 hgrow3 hat3 hE3 hP3 HT2 HR2 HR2j HP12 x0
        go_wp2_with fail
        refine (HIH.out bn hbn (L ++ A ++ [iJump 1 0]) _ w3 HR3.out hB3s HT3.out (by have := HL.out; have := hp4.out; have := hpk.out; have := hpow.out bn hbn; have := hAl.out; rw [hlN3]; omega)).mono ?_
        rintro e w4 ⟨v4, rfl, hR4, hP4⟩
        have hBB : (cmp T bn (L ++ A ++ [iJump 1 0]).length).length + 1 ≤ 2 ^ (k + 1) := by have := HLN.out bn (L ++ A ++ [iJump 1 0]).length; have := hpow.out bn hbn; omega
        rw [hlN3] at hR4 hBB
        obtain ⟨BB, hBd⟩ : ∃ BB, BB = cmp T bn (L.length + A.length + 1) := ⟨_, rfl⟩
        rw [← hBd] at hR4 hBB HE1
        have HP14 : Hid (Pu w w4 none (.slice ar L.length capr) v4) := HP13.out.trans hP4
        obtain ⟨N, hN⟩ : ∃ N, N = (L ++ A ++ [iJump 1 0] ++ BB).length := ⟨_, rfl⟩
        have hNv : N = L.length + A.length + 1 + BB.length := by rw [hN]; simp; omega
        have hJN : J < N := by rw [hJv.out, hNv]; omega
        have hNN : N ≤ 10000000 := by rw [hNv]; have := HL.out; have := hp4.out; have := hpk.out; have := hAl.out; omega
        obtain ⟨g4, cap4, hv4⟩ : ∃ g4 cap4, v4 = .slice (some ⟨g4, 0, none⟩) N cap4 := by
          rcases hR4.2 with ⟨_, h0⟩ | ⟨g4, cap4, _, hv, _⟩
          · omega
          · exact ⟨g4, cap4, by rw [hv, hN]⟩
        subst hv4
        have hrow4 : w4.ownsRow B 59 6 (.slice (some ⟨g4, 0, none⟩) N cap4) N ((L ++ A ++ [iJump 1 0] ++ BB).flatMap Ins.cells) := by unfold IRow at hR4; rw [← hN] at hR4; exact hR4
        have hcap4 : N ≤ cap4 ∧ cap4 ≤ 9223372036854775807 := by
          rcases hrow4.2 with ⟨h, _⟩ | ⟨g', cap', _, hv, _, _, h1, h2, _⟩
          · simp at h
          · simp at hv; unfold maxLen at h2; omega
        obtain ⟨u4, hu4⟩ : ∃ u, w4.cell? ⟨g4, J * 6 + 5, none⟩ = some u := by
          have h1 := World.ownsRow.cellAt hrow4 (J * 6 + 5) (by omega)
          rw [h1]
          exact ⟨_, List.getElem?_eq_getElem (by rw [flat6Ins_len, ← hN]; omega)⟩
        have hf4 := World.ownsRow.frozenAt hrow4 (J * 6 + 5)
        have hJN' : (J : Int) < (N : Int) := by omega
        have hset := IRow.dst (w := w4) (B := B) (g := g4) (cap := cap4) (L := L ++ A ++ [iJump 1 0] ++ BB) (by rw [← hN]; exact hR4) (k := J) (by rw [← hN]; exact hJN) (N : Int)
        have HEND : Hid (∀ n, CmpOut w B (.slice ar L.length capr) (L ++ cmp T k L.length) (.returned (.slice (some ⟨g4, 0, none⟩) N cap4)) ((w4.setCell ⟨g4, J * 6 + 5, none⟩ (.int .i64 (N : Int))).drewN n)) := fun n => by
          refine ⟨_, rfl, ?_, HP14.out.trans ⟨rfl, rfl, rfl, by simp, fun j hj _ hv => ?_, fun g' hg' => .inl hg'⟩⟩
          · rw [HE1.out L.length rfl, ← hNv]
            have e3 := jump_set (L ++ A) BB 1 (N : Int)
            rw [← HJ.out] at e3
            rw [e3, ← hN] at hset
            have hset2 : IRow ((w4.setCell ⟨g4, J * 6 + 5, none⟩ (.int .i64 (N : Int))).drewN n) B (.slice (some ⟨g4, 0, none⟩) N cap4) (L ++ A ++ [iJump 1 (N : Int)] ++ BB) := hset
            simpa [List.append_assoc] using hset2
          · have : j ≠ g4 := fun e => hv (by rw [e]; rfl)
            exact Below.heap_setCell _ _ _ _ this
        clear hset hrow4 hR4 hP4 HR3 HT3 HE1 hBd hN HIH hNv hBB
        go_wp2
        go_ret
        first | exact HEND.out 0 | exact HEND.out 1 | exact HEND.out _
    · obtain ⟨an, ha, han, hE⟩ := hNO.out hkd
      have hkb := not_bounds hkd
      subst ha hkb
      clear hAS hBI hkd hNO
      go_wp2_with fail
      refine (HIH.out an han L _ W1 HR1.out hB1s HT1.out (by have := HL.out; have := hp4.out; have := hpk.out; have := hpow.out an han; omega)).mono ?_
      rintro e w2 ⟨v2, rfl, hR2, hP2⟩
      have hs2 := hP2.size
      obtain ⟨A, hA⟩ : ∃ A, A = cmp T an L.length := ⟨_, rfl⟩
      have hAl : Hid (A.length + 1 ≤ 2 ^ (k + 1)) := by show _ ≤ _; rw [hA]; have := HLN.out an L.length; have := hpow.out an han; omega
      have HE1 : Hid (∀ (base : Nat), base = L.length → cmp T k base = A ++ [iFlip]) := fun base hbase => by rw [hbase, hE, ← hA]
      rw [← hA] at hR2
      clear hE hA
      obtain ⟨ar2, cap2, rfl, hn2, hcm2⟩ := hR2.slice
      have HR2 : Hid (IRow w2 B (.slice ar2 (L ++ A).length cap2) (L ++ A)) := hR2
      have HP12 : Hid (Pu w w2 none (.slice ar L.length capr) (.slice ar2 (L ++ A).length cap2)) := HP1.out.trans hP2
      obtain ⟨J, hJ⟩ : ∃ J, J = (L ++ A).length := ⟨_, rfl⟩
      have HJ : Hid (J = (L ++ A).length) := hJ
      have hJb : J ≤ 9999999 := by rw [hJ]; have := HL.out; have := hp4.out; have := hpk.out; have := hAl.out; simp; omega
      obtain ⟨D2, hD2⟩ : ∃ D, D = L ++ A := ⟨_, rfl⟩
      have HD2 : Hid (D2 = L ++ A) := hD2
      rw [← hJ] at HP12 ⊢
      have HR2j : Hid (w2.ownsRow B 59 6 (.slice ar2 J cap2) J (D2.flatMap Ins.cells)) := by show World.ownsRow _ _ _ _ _ _ _; have := HR2.out; unfold IRow at this; rw [← HJ.out] at this; rw [hD2]; exact this
      clear hR2 hP2 HR1 HT1 HP1 hJ hD2 HR2
      go_wp2_with (at_builtin; refine wpList_append_lies _ rfl _ _ 28 rfl B 59 i0 (.agg #[.int .i64 0, .int .i64 0, .int .i64 0, .int .i64 0, .string ⟨#[]⟩, .int .i64 0]) 6 56 Tryd.underlying28 hi hz0 hz1 hz2 rfl (by decide) _ (J) _ rfl (World.ownsRow.alloc HR2j.out _) ⟨w2.heap.size, 0, none⟩ 1 1 [.int .i64 4, .int .i64 0, .int .i64 0, .int .i64 0, .string ⟨#[]⟩, .int .i64 0] rfl rfl ?c1 (one6I _ _ _ _ _ _) ?c2 ?c3 ?c4 ?c5 (w2.heap.size + 1) ?c6 ?_)
      case c1 => exact World.news_of_block (heap_alloc_new w2 _)
      case c2 => omega
      case c3 => unfold maxLen; omega
      case c4 => omega
      case c5 => simp; omega
      case c6 => simp
      intro g3 cap3 w3 hown3 hgrow3 hat3 hlt3
      obtain ⟨D3, hD3⟩ : ∃ D, D = D2 ++ [iFlip] := ⟨_, rfl⟩
      have hE3 := app_end2 (D := D2) (x := iFlip) hD3 hown3 hgrow3 hat3
      have HD3 : Hid (D3 = D2 ++ [iFlip]) := hD3
      have HR3 : Hid (w3.ownsRow B 59 6 (.slice (some ⟨g3, 0, none⟩) (J + 1) cap3) (J + 1) (D3.flatMap Ins.cells)) := hE3.1
      have hP3 := hE3.2
      have hs3 : w2.heap.size ≤ w3.heap.size := hP3.size
      clear hown3 hgrow3 hat3 hE3 hD3
      have HEND : Hid (CmpOut w B (.slice ar L.length capr) (L ++ cmp T k L.length) (.returned (.slice (some ⟨g3, 0, none⟩) (J + 1) cap3)) w3) := by
        refine ⟨_, rfl, ?_, HP12.out.trans hP3⟩
        have h3 := HR3.out
        rw [HD3.out, HD2.out] at h3
        rw [HE1.out L.length rfl]
        unfold IRow
        rw [← List.append_assoc, show (L ++ A ++ [iFlip]).length = J + 1 by rw [HJ.out]; simp; omega]
        exact h3
      clear HR3 HP12 hP3 HD2 HD3
      go_wp2
      go_ret
      exact HEND.out

end Go.Proofs.YtmjpmmkjfimopaaDoor
