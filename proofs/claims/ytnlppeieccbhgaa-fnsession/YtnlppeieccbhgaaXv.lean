/- What PlaySession tells. The program's PlaySession. The model's PlaySession. -/
import Derived.Test.YtnlppeieccbhgaaXy
import Derived.Test.YtnlppeieccbhgaaXt
import Derived.Test.YtnlppeieccbhgaaSnJ
import Derived.Test.YtnlppeieccbhgaaSnSt
import Derived.Test.YtnlppeieccbhgaaSnTo
import Derived.Test.YtnlppeieccbhgaaXn
import Derived.Test.YtnlppeieccbhgaaXr
namespace Go.Proofs.Ytnlppeieccbhgaa
open Go.RowKit Plain Tpc Ssn

def plF (s : Ses) (l : List Sp) : Ses := l.foldl stS s
def plB : Ses → List Sp → List Bool
  | _, [] => []
  | s, x :: l => stK s x :: plB (stS s x) l
def plK (t : ByteArray) (l : List Sp) : Bool := nwK t && decide (l.length ≤ 200)
def plS (t : ByteArray) (l : List Sp) : Ses := if plK t l = true then plF (nwS t) l else zeS
def plD (t : ByteArray) (l : List Sp) : List Bool := if plK t l = true then plB (nwS t) l else []

theorem plF_snoc (s : Ses) (l : List Sp) (x : Sp) : plF s (l ++ [x]) = stS (plF s l) x := by unfold plF; rw [List.foldl_append]; rfl
theorem plB_snoc : ∀ (l : List Sp) (s : Ses) (x : Sp), plB s (l ++ [x]) = plB s l ++ [stK (plF s l) x]
  | [], _, _ => rfl
  | y :: l, s, x => by
    show stK s y :: plB (stS s y) (l ++ [x]) = _
    rw [plB_snoc l (stS s y) x]
    rfl
theorem plB_len : ∀ (l : List Sp) (s : Ses), (plB s l).length = l.length
  | [], _ => rfl
  | y :: l, s => by show (plB (stS s y) l).length + 1 = _; rw [plB_len l]; rfl
theorem plF_good : ∀ (l : List Sp) (s : Ses), Gd s → Gd (plF s l)
  | [], _, h => h
  | y :: l, s, h => plF_good l (stS s y) (h.step y)
theorem take_sp {l : List Sp} {i : Nat} (h : i < l.length) : l.take (i + 1) = l.take i ++ [sp l i] := by
  rw [List.take_add_one]
  unfold sp
  rw [List.getD_eq_getElem?_getD, List.getElem?_eq_getElem h]
  rfl
theorem nwS_good {t : ByteArray} (h : nwK t = true) : Gd (nwS t) := by
  unfold nwS
  rw [if_pos h]
  have ht : t.size ≤ 20 := of_decide_eq_true h
  refine ⟨(by show (1 : Int) ≤ 1; decide), (by show (1 : Int) ≤ 1000; decide), by simp, fun j hj => ?_, (by show (0 : Int) ≤ 0; decide), by simp, by simp, by simp, by simp, fun p hp => by simp at hp, by simp, fun a ha => by simp at ha⟩
  obtain rfl : j = 0 := by simpa using hj
  exact ht

theorem infoBoolS : (Try.prog.info? 4).map (fun i => (i.zero, i.size, i.bytes)) = some (some (.bool false), 1, 1) := by kernel_rfl

theorem bols_snoc (L : List Bool) (b : Bool) : bols L ++ [Value.bool b] = bols (L ++ [b]) := by simp [bols]
theorem ERow.snoc {w : World} {B : Nat} {v : Value} {n : Nat} {L : List Bool} {b : Bool} (h : w.ownsRow B 4 1 v n (bols L ++ [Value.bool b])) (hn : L.length + 1 = n) : ERow w B v (L ++ [b]) := by
  unfold ERow
  rw [List.length_append, List.length_singleton, hn, ← bols_snoc]
  exact h

/-- an answer of a session, a list of bools, a bool; the bools lie ahead of block m, the session's lists behind -/
def PlO (w w' : World) (e : Ending) (t : ByteArray) (l : List Sp) : Prop := ∃ (ai : Option Addr) (ci : Nat) (ah : Option Addr) (ch : Nat) (aw : Option Addr) (cw : Nat) (aa : Option Addr) (ca : Nat) (bo : Option Addr) (bc m : Nat),
  e = .returned (.tuple #[.agg #[.int .i64 (plS t l).ep, .slice ai (plS t l).items.length ci, .int .i64 (plS t l).base, .slice ah (plS t l).handed.length ch, .slice aw (plS t l).way.length cw, .slice aa (plS t l).acks.length ca], .slice bo (plD t l).length bc, .bool (plK t l)]) ∧
  SesRow w' m (plS t l) (.slice ai (plS t l).items.length ci) (.slice ah (plS t l).handed.length ch) (.slice aw (plS t l).way.length cw) (.slice aa (plS t l).acks.length ca) ∧ ERow w' w.heap.size (.slice bo (plD t l).length bc) (plD t l) ∧
  (∀ g, (Value.slice bo (plD t l).length bc).ownBlock = some g → g < m) ∧ (w.heap.size ≤ m ∧ m ≤ w'.heap.size) ∧ Below w.heap.size w w'

theorem PlO.no {w w' : World} {t : ByteArray} {l : List Sp} (h : plK t l = false) (hb : Below w.heap.size w w') : PlO w w' (.returned (.tuple #[.agg #[.int .i64 0, .slice none 0 0, .int .i64 0, .slice none 0 0, .slice none 0 0, .slice none 0 0], .slice none 0 0, .bool false])) t l := by
  unfold PlO plS plD
  rw [h]
  exact ⟨none, 0, none, 0, none, 0, none, 0, none, 0, w.heap.size, rfl, zeS_row _ _, ⟨rfl, .inl ⟨rfl, rfl⟩⟩, fun g q => by simp [Value.ownBlock] at q, ⟨Nat.le_refl _, hb.size⟩, hb⟩
theorem PlO.yes {w w' : World} {t : ByteArray} {l : List Sp} {vi vh vw va : Value} {bo : Option Addr} {n bc m : Nat} (h : plK t l = true) (hn : l.length = n) (hr : SesRow w' m (plF (nwS t) l) vi vh vw va) (he : ERow w' w.heap.size (.slice bo n bc) (plB (nwS t) l)) (hm : ∀ g, (Value.slice bo n bc).ownBlock = some g → g < m) (hm2 : w.heap.size ≤ m ∧ m ≤ w'.heap.size) (hb : Below w.heap.size w w') : PlO w w' (.returned (.tuple #[(plF (nwS t) l).val vi vh vw va, .slice bo n bc, .bool true])) t l := by
  obtain ⟨ai, ci, ah, ch, aw, cw, aa, ca, rfl, rfl, rfl, rfl⟩ := hr.form
  unfold PlO plS plD
  rw [h]
  have hl := plB_len l (nwS t)
  rw [hn] at hl
  rw [if_pos rfl, if_pos rfl, hl]
  exact ⟨ai, ci, ah, ch, aw, cw, aa, ca, bo, bc, m, rfl, hr, he, hm, hm2, hb⟩

/-- what an append elsewhere leaves of an exchange -/
theorem Ex.keepB {w w9 : World} {e B : Nat} {s : Ses} {vi vw va : Value} {r : Option Nat} (h : Ex w e B s vi vw va) (hg : w.grownBy w9 r) (hn : ∀ g, r = some g → ¬ PX e vi vw va g) : Ex w9 e B s vi vw va := by
  have k : ∀ g, PX e vi vw va g → g < w.heap.size → w9.heap[g]? = w.heap[g]? := fun g hp hl => hg.block g hl (fun q => hn g q.symm hp)
  have lt := h.r.lt4
  refine ⟨h.v.kept (k e (.inl rfl) h.v.low) hg.size, ⟨own_keptS2 h.r.i fun g q => k g (.inr (.inl q)) (lt g (.inl q)).2, own_keptS2 h.r.h fun g q => k g (.inr (.inr (.inl q))) (lt g (.inr (.inl q))).2, own_keptS2 h.r.y fun g q => k g (.inr (.inr (.inr (.inl q)))) (lt g (.inr (.inr (.inl q)))).2, own_keptS2 h.r.a fun g q => k g (.inr (.inr (.inr (.inr q)))) (lt g (.inr (.inr (.inr q)))).2, h.r.ih, h.r.iw, h.r.ia, h.r.hw, h.r.ha, h.r.wa⟩, h.n, h.b⟩

theorem Ex.new9 {w : World} {e B n g9 cap9 : Nat} {s : Ses} {vi vw va v : Value} (h : Ex w e B s vi vw va) (hN : ∀ g, v.ownBlock = some g → ¬ PX e vi vw va g) (hat : v.ownBlock = some g9 ∨ g9 = w.heap.size + 1) : ∀ g, (Value.slice (some ⟨g9, 0, none⟩) n cap9).ownBlock = some g → ¬ PX e vi vw va g := fun g q hp => by
  rcases at_new (W := w) hat g q with h1 | h1
  · exact hN g h1 hp
  · rcases hp with hp | hp
    · have := h.v.low; omega
    · have := (h.r.lt4 g hp).2; omega

theorem ERow.tch {w w' : World} {B : Nat} {v : Value} {L : List Bool} {P P' : Nat → Prop} (h : ERow w B v L) (t : Tch w w' P P') (hP : ∀ g, v.ownBlock = some g → ¬ P g) : ERow w' B v L :=
  own_keptS2 h fun g hg => t.block g (World.ownsRow.lt h g hg).2 (hP g hg)

end Go.Proofs.Ytnlppeieccbhgaa

namespace Go.Proofs.Ytnlppeieccbhgaa
open Go.RowKit Plain Tpc Ssn

theorem Ex.bel2 {w w2 : World} {e B N : Nat} {s : Ses} {vi vw va : Value} {P' : Nat → Prop} (h : Ex w e B s vi vw va) (t : Tch w w2 (PX e vi vw va) P') (hN : N ≤ B) (hs : N ≤ w.heap.size) : Below N w w2 :=
  t.below hs (fun g hg => by
    rcases hg with rfl | hg
    · exact Nat.le_trans hN h.b
    · exact Nat.le_trans hN (h.r.lt4 g hg).1)

set_option maxRecDepth 100000 in
set_option maxHeartbeats 8000000 in
theorem implPlayS (t : ByteArray) (l : List Sp) (v : Value) (w : World) (ht : t.size ≤ 9223372036854775807) (hl : SpsAt w w.heap.size v l) (hN : ∀ i, i < l.length → (sp l i).tx.size ≤ 9223372036854775807) :
    Calls Try.prog 32 #[.string t, v] w fun e w' => PlO w w' e t l := by
  have rc := fun (tmps : Array Value) (P : Program) (w : World) => results_cell2S (fn := Try.f32) (p := 4) (u := 5) (v := 6) (ty := 26) rfl tmps P w
  obtain ⟨j0, hj, hjz0, hjz1, hjz2⟩ := info_parts infoBoolS
  obtain ⟨ao, cap, rfl, hlc, hcm, hrow⟩ := hl
  unfold maxLen at hcm
  have HROW : Hid (∀ i, i < l.length → ∃ g o, ao = some ⟨g, o, none⟩ ∧ g < w.heap.size ∧ SpIn w g (o + i * 3) (sp l i)) := hrow
  have HTX : Hid (∀ i, i < l.length → (sp l i).tx.size ≤ 9223372036854775807) := hN
  obtain ⟨W0, hW0⟩ : ∃ X, X = w.alloc (.cells #[.int .i64 0, .slice none 0 0, .int .i64 0, .slice none 0 0, .slice none 0 0, .slice none 0 0] 26) := ⟨_, rfl⟩
  have hB0 : Below w.heap.size w W0 := by rw [hW0]; exact (Below.refl _ w).alloc (Nat.le_refl _) _
  have hs0 : W0.heap.size = w.heap.size + 1 := by rw [hW0]; simp
  have HZ0 : Hid (Sv W0 w.heap.size (.int .i64 0) (.slice none 0 0) (.int .i64 0) (.slice none 0 0) (.slice none 0 0) (.slice none 0 0)) := by
    show Sv _ _ _ _ _ _ _ _
    rw [hW0]
    exact Sv.fresh w _ _ _ _ _ _ _
  have HB0 : Hid (type_of% hB0) := hB0
  have CN := implNewS t W0 ht
  unfold NwO Ses.val at CN
  have HNO : Hid (plK t l = false → ∀ w', Below w.heap.size w w' → PlO w w' (.returned (.tuple #[.agg #[.int .i64 0, .slice none 0 0, .int .i64 0, .slice none 0 0, .slice none 0 0, .slice none 0 0], .slice none 0 0, .bool false])) t l) := fun h w' hb => PlO.no h hb
  have HYES : Hid (plK t l = true → ∀ w' m ui uh uw ua bo bc, SesRow w' m (plF (nwS t) l) ui uh uw ua → ERow w' w.heap.size (.slice bo l.length bc) (plB (nwS t) l) → (∀ g, (Value.slice bo l.length bc).ownBlock = some g → g < m) → (w.heap.size ≤ m ∧ m ≤ w'.heap.size) → Below w.heap.size w w' → PlO w w' (.returned (.tuple #[(plF (nwS t) l).val ui uh uw ua, .slice bo l.length bc, .bool true])) t l) := fun h w' m ui uh uw ua bo bc hr he hm hm2 hb => PlO.yes h rfl hr he hm hm2 hb
  have HG0 : Hid (nwK t = true → Gd (nwS t)) := nwS_good
  have hkq : plK t l = (nwK t && decide (l.length ≤ 200)) := rfl
  have HKQ : Hid (type_of% hkq) := hkq
  clear hkq hB0 hrow hN
  generalize hK : nwK t = K at CN HG0
  have HK : Hid (type_of% hK) := hK
  clear hK
  cases hgo : (K && decide (l.length ≤ 200)) with
  | false =>
    have hF := HNO.out (by rw [HKQ.out, HK.out]; exact hgo)
    have HF : Hid (type_of% hF) := hF
    have hor : K = false ∨ (K = true ∧ 200 < l.length) := by
      cases K with
      | false => exact .inl rfl
      | true =>
        right
        refine ⟨rfl, ?_⟩
        simpa using hgo
    clear hF HNO HYES hgo HKQ HG0
    rcases hor with rfl | ⟨rfl, h200⟩
    · go_enter Try.func32, Try.ntmps32
      go_upto_region 1 with fail
      rw [← hW0]
      clear hW0
      go_wp2_with fail
      go_at_call 12
      refine CN.mono ?_
      rintro e w1 ⟨ui, uh, uw, ua, rfl, hr1, hb1⟩
      obtain ⟨ai, ci, ah, ch, aw, cw, aa, ca, rfl, rfl, rfl, rfl⟩ := hr1.form
      have HB1 : Hid (Below w.heap.size w w1) := HB0.out.trans (hb1.mono HB0.out.size)
      have HBA : Hid (∀ o, Below W0.heap.size W0 (w1.alloc o)) := fun o => hb1.alloc hb1.size _
      generalize nwS t = S at *
      go_upto_region 2 with fail
      obtain ⟨W2, hW2⟩ : ∃ X, X = w1.alloc (.cells #[.int .i64 S.ep, .slice ai S.items.length ci, .int .i64 S.base, .slice ah S.handed.length ch, .slice aw S.way.length cw, .slice aa S.acks.length ca] 26) := ⟨_, rfl⟩
      rw [← hW2]
      have hb2 : Below W0.heap.size W0 W2 := by rw [hW2]; exact HBA.out _
      have HB2 : Hid (Below w.heap.size w W2) := HB0.out.trans (hb2.mono HB0.out.size)
      have hz := HZ0.out.below hb2
      have z0 := hz.c0
      have q0 := hz.f0
      have z1 := hz.c1
      have q1 := hz.f1
      have z2 := hz.c2
      have q2 := hz.f2
      have z3 := hz.c3
      have q3 := hz.f3
      have z4 := hz.c4
      have q4 := hz.f4
      have z5 := hz.c5
      have q5 := hz.f5
      clear hz
      clear hW2 hr1 hb1 hb2
      go_wp2_with fail
      (try simp only [Exit.inBlock, Exit.then])
      refine bodyPost_ret (v := .tuple #[.agg #[.int .i64 0, .slice none 0 0, .int .i64 0, .slice none 0 0, .slice none 0 0, .slice none 0 0], .slice none 0 0, .bool false]) ?_ rfl (HF.out _ ?_)
      · rw [rc]
        go_simp
      · exact Below.sets6 (HB2.out) (by omega)
    · go_enter Try.func32, Try.ntmps32
      go_upto_region 1 with fail
      rw [← hW0]
      clear hW0
      go_wp2_with fail
      go_at_call 12
      refine CN.mono ?_
      rintro e w1 ⟨ui, uh, uw, ua, rfl, hr1, hb1⟩
      obtain ⟨ai, ci, ah, ch, aw, cw, aa, ca, rfl, rfl, rfl, rfl⟩ := hr1.form
      have HBA : Hid (∀ o, Below W0.heap.size W0 (w1.alloc o)) := fun o => hb1.alloc hb1.size _
      generalize nwS t = S at *
      go_upto_region 2 with fail
      obtain ⟨W2, hW2⟩ : ∃ X, X = w1.alloc (.cells #[.int .i64 S.ep, .slice ai S.items.length ci, .int .i64 S.base, .slice ah S.handed.length ch, .slice aw S.way.length cw, .slice aa S.acks.length ca] 26) := ⟨_, rfl⟩
      rw [← hW2]
      have hb2 : Below W0.heap.size W0 W2 := by rw [hW2]; exact HBA.out _
      have HB2 : Hid (Below w.heap.size w W2) := HB0.out.trans (hb2.mono HB0.out.size)
      have h200' : (200 : Int) < (l.length : Int) := by omega
      have hd2 : decide (200 < l.length) = true := decide_eq_true h200
      have hz := HZ0.out.below hb2
      have z0 := hz.c0
      have q0 := hz.f0
      have z1 := hz.c1
      have q1 := hz.f1
      have z2 := hz.c2
      have q2 := hz.f2
      have z3 := hz.c3
      have q3 := hz.f3
      have z4 := hz.c4
      have q4 := hz.f4
      have z5 := hz.c5
      have q5 := hz.f5
      clear hz
      clear hW2 hr1 hb1 hb2 HROW HTX
      go_wp2_with fail
      (try simp only [Exit.inBlock, Exit.then])
      refine bodyPost_ret (v := .tuple #[.agg #[.int .i64 0, .slice none 0 0, .int .i64 0, .slice none 0 0, .slice none 0 0, .slice none 0 0], .slice none 0 0, .bool false]) ?_ rfl (HF.out _ ?_)
      · rw [rc]
        go_simp
      · exact Below.sets6 (HB2.out) (by omega)
  | true =>
    have hKt : K = true := by cases K <;> simp_all
    have h200 : l.length ≤ 200 := by subst hKt; simpa using hgo
    subst hKt
    have hY := HYES.out (by rw [HKQ.out, HK.out]; exact hgo)
    have HY : Hid (type_of% hY) := hY
    have HG : Hid (Gd (nwS t)) := HG0.out rfl
    have h200' : ¬ ((200 : Int) < (l.length : Int)) := by omega
    have hd2 : decide ((200 : Int) < (l.length : Int)) = false := decide_eq_false h200'
    clear hY HNO HYES hgo HKQ HG0 HK
    go_enter Try.func32, Try.ntmps32
    go_upto_region 1 with fail
    rw [← hW0]
    clear hW0
    go_wp2_with fail
    go_at_call 12
    refine CN.mono ?_
    rintro e w1 ⟨ui, uh, uw, ua, rfl, hr1, hb1⟩
    obtain ⟨ai, ci, ah, ch, aw, cw, aa, ca, rfl, rfl, rfl, rfl⟩ := hr1.form
    obtain ⟨W2, hW2⟩ : ∃ X, X = w1.alloc (.cells #[.int .i64 (nwS t).ep, .slice ai (nwS t).items.length ci, .int .i64 (nwS t).base, .slice ah (nwS t).handed.length ch, .slice aw (nwS t).way.length cw, .slice aa (nwS t).acks.length ca] 26) := ⟨_, rfl⟩
    have hba : Below w1.heap.size w1 W2 := by rw [hW2]; exact (Below.refl _ _).alloc (Nat.le_refl _) _
    have HB2 : Hid (Below W0.heap.size W0 W2) := hb1.trans (hba.mono hb1.size)
    have V2 : Sv W2 w1.heap.size (.int .i64 (nwS t).ep) (.slice ai (nwS t).items.length ci) (.int .i64 (nwS t).base) (.slice ah (nwS t).handed.length ch) (.slice aw (nwS t).way.length cw) (.slice aa (nwS t).acks.length ca) := by rw [hW2]; exact Sv.fresh w1 _ _ _ _ _ _ _
    have hr2 := hr1.below hba
    have CE := exchangeOf_any (nwS t) _ _ _ _ W2 hr2.at (HG.out.sml.up (by decide)) HG.out
    unfold Ses.val at CE
    have y0 := V2.c0
    have y1 := V2.c1
    have y2 := V2.c2
    have y3 := V2.c3
    have y4 := V2.c4
    have y5 := V2.c5
    have HB00 : Hid (w.heap.size + 1 ≤ W2.heap.size) := by have := HB2.out.size; show _ ≤ _; omega
    clear hr1 hb1 hba hr2 V2
    generalize hSq : nwS t = S at *
    have HSQ : Hid (type_of% hSq) := hSq
    clear hSq
    go_upto_region 2 with fail
    rw [← hW2]
    clear hW2
    go_wp2_with fail
    go_at_call 73
    refine CE.mono ?_
    rintro e w3 ⟨b, ui, uw, ua, rfl, hE, hb3⟩
    have HE : Hid (Ex w3 b W2.heap.size S ui uw ua) := hE
    have HB3 : Hid (Below W0.heap.size W0 w3) := HB2.out.trans (hb3.mono HB2.out.size)
    have HNB : Hid (W0.heap.size ≤ W2.heap.size) := HB2.out.size
    clear hE hb3 y0 y1 y2 y3 y4 y5 CE
    go_wp2_with fail
    go_loopw [10, 30] (fun vd vi wr => ∃ (i : Nat) (v7 v8 v9 : Value) (bo : Option Addr) (bc : Nat), i ≤ l.length ∧ vi = .int .i64 (i : Int) ∧ vd = .slice bo i bc ∧ Hid (Ex wr b W2.heap.size (plF S (l.take i)) v7 v8 v9) ∧ Hid (wr.ownsRow W0.heap.size 4 1 (.slice bo i bc) i (bols (plB S (l.take i)))) ∧ Hid (∀ g, (Value.slice bo i bc).ownBlock = some g → ¬ PX b v7 v8 v9 g) ∧ Hid (Below W0.heap.size W0 wr))
      (fun _ vi _ => l.length - (intOf vi).toNat)
    case atStart => exact ⟨0, ui, uw, ua, none, 0, by omega, rfl, rfl, HE.out, ⟨rfl, .inl ⟨rfl, rfl⟩⟩, fun g q => by simp [Value.ownBlock] at q, HB3.out⟩
    case round =>
      obtain ⟨i, v7, v8, v9, bo, bc, hil, rfl, rfl, HEr, HDr, HNr, HBW⟩ := hrel
      by_cases hlt : i < l.length
      · have hltI : (i : Int) < (l.length : Int) := by omega
        obtain ⟨g, o, rfl, hg, hc⟩ := HROW.out i hlt
        have hc2 := hc.below (HB0.out.trans (HBW.out.mono HB0.out.size)) hg
        have htk : Hid (l.take (i + 1) = l.take i ++ [sp l i]) := take_sp hlt
        have hbl : Hid ((plB S (l.take i)).length = i) := by show _ = _; rw [plB_len, List.length_take]; omega
        have htx := HTX.out i hlt
        have hGi : Hid (Gd (plF S (l.take i))) := plF_good _ _ HG.out
        have HF1 : Hid (plF S (l.take (i + 1)) = stS (plF S (l.take i)) (sp l i)) := by show _ = _; rw [htk.out, plF_snoc]
        have HL1 : Hid (plB S (l.take (i + 1)) = plB S (l.take i) ++ [stK (plF S (l.take i)) (sp l i)]) := by show _ = _; rw [htk.out, plB_snoc]
        generalize hx : sp l i = x at hc2 htx HF1 HL1
        obtain ⟨d0, d1, d2⟩ := hc2
        obtain ⟨W5, hW5⟩ : ∃ X, X = wr.alloc (.cells #[.int .i64 x.kind, .int .i64 x.kk, .string x.tx] 48) := ⟨_, rfl⟩
        have hb5 : Below wr.heap.size wr W5 := by rw [hW5]; exact (Below.refl _ wr).alloc (Nat.le_refl _) _
        have HZ5 : Hid (Bz W5 wr.heap.size (.int .i64 x.kind) (.int .i64 x.kk) (.string x.tx)) := by show _; rw [hW5]; exact Bz.fresh wr _ _ _ _
        have HE5 : Hid (Ex W5 b W2.heap.size (plF S (l.take i)) v7 v8 v9) := HEr.out.below hb5
        have HD5 : Hid (W5.ownsRow W0.heap.size 4 1 (.slice bo i bc) i (bols (plB S (l.take i)))) := own_belowY HDr.out hb5
        have HB5 : Hid (Below W0.heap.size W0 W5) := HBW.out.trans (hb5.mono HBW.out.size)
        have CT := step_any (plF S (l.take i)) x b W2.heap.size v7 v8 v9 W5 HE5.out hGi.out htx
        have y0 := HZ5.out.c0
        have y1 := HZ5.out.c1
        have y2 := HZ5.out.c2
        clear hc hb5 hx
        generalize stS (plF S (l.take i)) x = F1 at CT HF1
        generalize hk9 : stK (plF S (l.take i)) x = k9 at CT HL1
        clear hk9
        generalize plB S (l.take i) = D at HDr HD5 HL1 hbl
        generalize plF S (l.take i) = F0 at HEr HE5 CT hGi
        go_upto_region 9 with fail
        rw [← hW5]
        clear hW5 d0 d1 d2
        go_wp2_with fail
        go_at_call 74
        refine CT.mono ?_
        rintro e w6 ⟨rfl, u7, u8, u9, hE6, hT6⟩
        have HE6 : Hid (Ex w6 b W2.heap.size F1 u7 u8 u9) := hE6
        have hNP : ∀ g, (Value.slice bo i bc).ownBlock = some g → ¬ PX b v7 v8 v9 g := HNr.out
        have HD6 : Hid (w6.ownsRow W0.heap.size 4 1 (.slice bo i bc) i (bols D)) := own_keptS2 HD5.out (fun g q => hT6.block g (World.ownsRow.lt HD5.out g q).2 (hNP g q))
        have HN6 : Hid (∀ g, (Value.slice bo i bc).ownBlock = some g → ¬ PX b u7 u8 u9 g) := fun g q => hT6.avoid (World.ownsRow.lt HD5.out g q).2 (hNP g q)
        have HB6 : Hid (Below W0.heap.size W0 w6) := HB5.out.trans (HE5.out.bel2 hT6 HNB.out HB5.out.size)
        have hs6 : W0.heap.size ≤ w6.heap.size := HB6.out.size
        have hi200 : i < 200 := by omega
        clear hE6 hT6 hNP CT y0 y1 y2 HD5 HE5 HEr HDr HNr HBW
        go_wp2_with (at_builtin; refine wpList_append_lies _ rfl _ _ 53 rfl W0.heap.size 4 j0 (.bool false) 1 1 Try.underlying53 hj hjz0 hjz1 hjz2 rfl (by decide) _ i _ rfl (World.ownsRow.alloc HD6.out _) ⟨w6.heap.size, 0, none⟩ 1 1 [Value.bool k9] rfl rfl (World.news_of_block (heap_alloc_new w6 _)) (by intro u hu; simp at hu; subst hu; rfl) (by omega) (by unfold maxLen; omega) (by omega) (by simp; omega) (w6.heap.size + 1) (by simp) ?_; intro g9 cap9 w9 hown9 hgrow9 hat9 hlt9; have hgr : w6.grownBy w9 (Value.slice bo i bc).ownBlock := grown_allocO hgrow9; have HE9 : Hid (Ex w9 b W2.heap.size F1 u7 u8 u9) := HE6.out.keepB hgr (fun g q => HN6.out g q); have HO9 : Hid (w9.ownsRow W0.heap.size 4 1 (.slice (some ⟨g9, 0, none⟩) (i + 1) cap9) (i + 1) (bols D ++ [Value.bool k9])) := hown9; have HN9 : Hid (∀ g, (Value.slice (some ⟨g9, 0, none⟩) (i + 1) cap9).ownBlock = some g → ¬ PX b u7 u8 u9 g) := HE6.out.new9 HN6.out hat9; have HB9 : Hid (Below W0.heap.size W0 w9) := HB6.out.grown hgr hs6 (fun k hk => (World.ownsRow.lt HD6.out k hk).1); clear hown9 hgrow9 hat9 hlt9 hgr)
        go_roundw
        case rel =>
          refine ⟨i + 1, u7, u8, u9, some ⟨g9, 0, none⟩, cap9, by omega, by go_num, rfl, ?_, ?_, HN9.out, HB9.out⟩
          · show Ex _ _ _ _ _ _ _
            rw [HF1.out]
            exact HE9.out
          · show World.ownsRow _ _ _ _ _ _ _
            rw [HL1.out, ← bols_snoc]
            exact HO9.out
        case measure => simp [intOf]; omega
      · have hke : i = l.length := by omega
        subst hke
        have hge : ¬ ((l.length : Int) < (l.length : Int)) := by omega
        have htk : l.take l.length = l := List.take_of_length_le (Nat.le_refl _)
        have HEf : Hid (Ex wr b W2.heap.size (plF S l) v7 v8 v9) := by have h9 := HEr.out; rw [htk] at h9; exact h9
        have HDf : Hid (wr.ownsRow W0.heap.size 4 1 (.slice bo l.length bc) l.length (bols (plB S l))) := by have h9 := HDr.out; rw [htk] at h9; exact h9
        have CO := told_any (plF S l) b W2.heap.size v7 v8 v9 wr HEf.out (plF_good _ _ HG.out)
        unfold Ses.val at CO
        clear htk HEr HDr HNr
        generalize plF S l = F1 at CO HY HEf
        go_wp2_with fail
        go_at_call 75
        refine CO.mono ?_
        rintro e w6 ⟨ui4, uh4, uw4, ua4, rfl, hr4, hb4⟩
        have HB4 : Hid (Below W0.heap.size W0 w6) := HBW.out.trans (hb4.mono HBW.out.size)
        have HBW4 : Hid (Below w.heap.size w w6) := HB0.out.trans (HB4.out.mono HB0.out.size)
        have HR4 : Hid (SesRow w6 wr.heap.size F1 ui4 uh4 uw4 ua4) := hr4
        have HD4 : Hid (w6.ownsRow W0.heap.size 4 1 (.slice bo l.length bc) l.length (bols (plB S l))) := own_belowY HDf.out hb4
        have hs3 : w.heap.size < wr.heap.size := by have := HBW.out.size; omega
        have HSB : Hid (wr.heap.size ≤ w6.heap.size) := hb4.size
        have HMB : Hid (∀ g, (Value.slice bo l.length bc).ownBlock = some g → g < wr.heap.size) := fun g q => (World.ownsRow.lt HDf.out g q).2
        have HDL : Hid ((plB S l).length = l.length) := plB_len l S
        obtain ⟨ai4, ci4, ah4, ch4, aw4, cw4, aa4, ca4, rfl, rfl, rfl, rfl⟩ := hr4.form
        have hz := HZ0.out.below HB4.out
        have z0 := hz.c0
        have q0 := hz.f0
        have z1 := hz.c1
        have q1 := hz.f1
        have z2 := hz.c2
        have q2 := hz.f2
        have z3 := hz.c3
        have q3 := hz.f3
        have z4 := hz.c4
        have q4 := hz.f4
        have z5 := hz.c5
        have q5 := hz.f5
        clear hz
        clear hr4 hb4
        generalize plB S l = D at HDf HD4 HY HDL
        go_wp2_with fail
        (try simp only [Exit.inBlock, Exit.then])
        refine bodyPost_ret (v := .tuple #[.agg #[.int .i64 F1.ep, .slice ai4 F1.items.length ci4, .int .i64 F1.base, .slice ah4 F1.handed.length ch4, .slice aw4 F1.way.length cw4, .slice aa4 F1.acks.length ca4], .slice bo l.length bc, .bool true]) ?_ rfl (HY.out _ wr.heap.size _ _ _ _ _ _ ?_ ?_ ?_ ?_ ?_)
        · rw [rc]
          go_simp
        · exact SesRow.set6 HR4.out (fun q => by have := (HR4.out.lt4 _ q).1; omega)
        · unfold ERow
          rw [HDL.out]
          exact own_set6 (own_lower HD4.out (by omega)) (fun g q => by have := (World.ownsRow.lt HD4.out g q).1; omega)
        · exact fun g q => HMB.out g q
        · exact ⟨by omega, by have := HSB.out; simpa using this⟩
        · exact Below.sets6 HBW4.out (by omega)

end Go.Proofs.Ytnlppeieccbhgaa

namespace Go.Proofs.Ytnlppeieccbhgaa
open Go.RowKit Plain Tpc Ssn

theorem stS_no {s : Ses} {x : Sp} (h : stK s x = false) : stS s x = s := by unfold stS; rw [if_pos h]

def Pc8 (Wx : World) (S9 : Ses) (ok : Bool) (w : World) (w1 : World) (wr : World) (t : ByteArray) (l : List Sp) (S : Ses) (F0 : Ses) (x : Sp) (ai9 : Option Addr) (ah9 : Option Addr) (aw9 : Option Addr) (aa9 : Option Addr) (ai : Option Addr) (ah : Option Addr) (aw : Option Addr) (aa : Option Addr) (bo : Option Addr) (ci9 : Nat) (ch9 : Nat) (cw9 : Nat) (ca9 : Nat) (ci : Nat) (ch : Nat) (cw : Nat) (ca : Nat) (bc : Nat) (i : Nat) (cap : Nat) (g0 : Nat) (o0 : Nat) (u40 : Value) (u41 : Value) (u42 : Value) (u43 : Value) (u44 : Value) (u45 : Value) (u46 : Value) (l9 : Array Bool) (a : Act) (W : World) : Prop :=
  l9.size = 10 ∧ Below Wx.heap.size Wx W ∧ ∃ (oi oh ow oa : Value) (ri rh rw ra : Option Addr) (ki kh kw ka : Nat) (u34 u35 u36 u37 u33 u38 u39 u12 u13 : Value), a = ⟨#[Value.string t, Value.slice (some { block := g0, off := o0 }) l.length cap, undef, undef, Value.pointer (some { block := w.heap.size, off := 0 }), Value.slice none 0 0, Value.bool false, Value.pointer (some { block := w1.heap.size, off := 0 }), Value.bool true, Value.slice bo i bc, undef, Value.pointer (some { block := wr.heap.size, off := 0 }), u12, u13, Value.tuple #[Value.agg #[Value.int IntKind.i64 S.ep, Value.slice ai S.items.length ci, Value.int IntKind.i64 S.base, Value.slice ah S.handed.length ch, Value.slice aw S.way.length cw, Value.slice aa S.acks.length ca], Value.bool true], Value.string t, Value.tuple #[Value.agg #[Value.int IntKind.i64 S.ep, Value.slice ai S.items.length ci, Value.int IntKind.i64 S.base, Value.slice ah S.handed.length ch, Value.slice aw S.way.length cw, Value.slice aa S.acks.length ca], Value.bool true], Value.agg #[Value.int IntKind.i64 S.ep, Value.slice ai S.items.length ci, Value.int IntKind.i64 S.base, Value.slice ah S.handed.length ch, Value.slice aw S.way.length cw, Value.slice aa S.acks.length ca], Value.bool true, Value.bool true, Value.bool false, Value.bool false, Value.slice (some { block := g0, off := o0 }) l.length cap, Value.int IntKind.i64 ↑l.length, Value.bool false, Value.bool false, undef, Value.slice (some { block := g0, off := o0 }) l.length cap, Value.int IntKind.i64 ↑l.length, Value.int IntKind.i64 ↑i, Value.bool true, Value.pointer (some { block := g0, off := o0 + i * 3 }), Value.agg #[Value.int IntKind.i64 x.kind, Value.int IntKind.i64 x.kk, Value.string x.tx], u33, u34, u35, u36, u37, u38, u39, u40, u41, u42, u43, u44, u45, u46, undef, undef, undef], []⟩ ∧
    (l9.getD 1 false = true → l9.getD 3 false = false → SesRow W Wx.heap.size F0 oi oh ow oa) ∧
    (l9.getD 3 false = true → SesRow W Wx.heap.size S9 (.slice ri S9.items.length ki) (.slice rh S9.handed.length kh) (.slice rw S9.way.length kw) (.slice ra S9.acks.length ka)) ∧
    (l9.getD 1 false = true → ∀ g, P4 oi oh ow oa g → g < W.heap.size) ∧
    (l9.getD 0 false = true → u34 = .agg #[.int .i64 F0.ep, .slice ai9 F0.items.length ci9, .int .i64 F0.base, .slice ah9 F0.handed.length ch9, .slice aw9 F0.way.length cw9, .slice aa9 F0.acks.length ca9]) ∧
    (l9.getD 1 false = true → u35 = F0.val oi oh ow oa) ∧
    (l9.getD 2 false = true → u36 = .agg #[.int .i64 x.kind, .int .i64 x.kk, .string x.tx]) ∧
    (l9.getD 3 false = true → l9.getD 1 false = true ∧ u37 = .tuple #[.agg #[.int .i64 S9.ep, .slice ri S9.items.length ki, .int .i64 S9.base, .slice rh S9.handed.length kh, .slice rw S9.way.length kw, .slice ra S9.acks.length ka], .bool ok]) ∧
    (l9.getD 4 false = true → l9.getD 3 false = true ∧ u33 = .tuple #[.agg #[.int .i64 S9.ep, .slice ri S9.items.length ki, .int .i64 S9.base, .slice rh S9.handed.length kh, .slice rw S9.way.length kw, .slice ra S9.acks.length ka], .bool ok]) ∧
    (l9.getD 5 false = true → l9.getD 3 false = true ∧ u38 = .agg #[.int .i64 S9.ep, .slice ri S9.items.length ki, .int .i64 S9.base, .slice rh S9.handed.length kh, .slice rw S9.way.length kw, .slice ra S9.acks.length ka]) ∧
    (l9.getD 6 false = true → u39 = .bool ok) ∧
    (l9.getD 7 false = true → ∃ g, u12 = .pointer (some ⟨g, 0, none⟩) ∧ (Wx.heap.size ≤ g ∧ g < W.heap.size) ∧ (∃ y0 y1 y2 y3 y4 y5, Sv W g y0 y1 y2 y3 y4 y5) ∧ (l9.getD 1 false = true → ¬ P4 oi oh ow oa g) ∧ (l9.getD 3 false = true → ¬ P4 (.slice ri S9.items.length ki) (.slice rh S9.handed.length kh) (.slice rw S9.way.length kw) (.slice ra S9.acks.length ka) g) ∧ (l9.getD 8 false = true → Sv W g (.int .i64 S9.ep) (.slice ri S9.items.length ki) (.int .i64 S9.base) (.slice rh S9.handed.length kh) (.slice rw S9.way.length kw) (.slice ra S9.acks.length ka))) ∧
    (l9.getD 8 false = true → l9.getD 5 false = true ∧ l9.getD 7 false = true) ∧
    (l9.getD 9 false = true → u13 = .bool ok)

set_option maxRecDepth 100000 in
set_option maxHeartbeats 8000000 in
theorem specPlayS (t : ByteArray) (l : List Sp) (v : Value) (w : World) (ht : t.size ≤ 9223372036854775807) (hl : SpsAt w w.heap.size v l) (hN : ∀ i, i < l.length → (sp l i).tx.size ≤ 9223372036854775807) :
    Calls Try.prog 30 #[.string t, v] w fun e w' => PlO w w' e t l := by
  have rc := fun (tmps : Array Value) (P : Program) (w : World) => results_cell2S (fn := Try.f30) (p := 4) (u := 5) (v := 6) (ty := 26) rfl tmps P w
  obtain ⟨j0, hj, hjz0, hjz1, hjz2⟩ := info_parts infoBoolS
  obtain ⟨ao, cap, rfl, hlc, hcm, hrow⟩ := hl
  unfold maxLen at hcm
  have HROW : Hid (∀ i, i < l.length → ∃ g o, ao = some ⟨g, o, none⟩ ∧ g < w.heap.size ∧ SpIn w g (o + i * 3) (sp l i)) := hrow
  have HTX : Hid (∀ i, i < l.length → (sp l i).tx.size ≤ 9223372036854775807) := hN
  obtain ⟨W0, hW0⟩ : ∃ X, X = w.alloc (.cells #[.int .i64 0, .slice none 0 0, .int .i64 0, .slice none 0 0, .slice none 0 0, .slice none 0 0] 26) := ⟨_, rfl⟩
  have hB0 : Below w.heap.size w W0 := by rw [hW0]; exact (Below.refl _ w).alloc (Nat.le_refl _) _
  have hs0 : W0.heap.size = w.heap.size + 1 := by rw [hW0]; simp
  have HZ0 : Hid (Sv W0 w.heap.size (.int .i64 0) (.slice none 0 0) (.int .i64 0) (.slice none 0 0) (.slice none 0 0) (.slice none 0 0)) := by
    show Sv _ _ _ _ _ _ _ _
    rw [hW0]
    exact Sv.fresh w _ _ _ _ _ _ _
  have HB0 : Hid (type_of% hB0) := hB0
  have CN := specNewS t W0 ht
  unfold NwO Ses.val at CN
  have HNO : Hid (plK t l = false → ∀ w', Below w.heap.size w w' → PlO w w' (.returned (.tuple #[.agg #[.int .i64 0, .slice none 0 0, .int .i64 0, .slice none 0 0, .slice none 0 0, .slice none 0 0], .slice none 0 0, .bool false])) t l) := fun h w' hb => PlO.no h hb
  have HYES : Hid (plK t l = true → ∀ w' m ui uh uw ua bo bc, SesRow w' m (plF (nwS t) l) ui uh uw ua → ERow w' w.heap.size (.slice bo l.length bc) (plB (nwS t) l) → (∀ g, (Value.slice bo l.length bc).ownBlock = some g → g < m) → (w.heap.size ≤ m ∧ m ≤ w'.heap.size) → Below w.heap.size w w' → PlO w w' (.returned (.tuple #[(plF (nwS t) l).val ui uh uw ua, .slice bo l.length bc, .bool true])) t l) := fun h w' m ui uh uw ua bo bc hr he hm hm2 hb => PlO.yes h rfl hr he hm hm2 hb
  have HG0 : Hid (nwK t = true → Gd (nwS t)) := nwS_good
  have hkq : plK t l = (nwK t && decide (l.length ≤ 200)) := rfl
  have HKQ : Hid (type_of% hkq) := hkq
  clear hkq hB0 hrow hN
  generalize hK : nwK t = K at CN HG0
  have HK : Hid (type_of% hK) := hK
  clear hK
  cases hgo : (K && decide (l.length ≤ 200)) with
  | false =>
    have hF := HNO.out (by rw [HKQ.out, HK.out]; exact hgo)
    have HF : Hid (type_of% hF) := hF
    have hor : K = false ∨ (K = true ∧ 200 < l.length) := by
      cases K with
      | false => exact .inl rfl
      | true =>
        right
        refine ⟨rfl, ?_⟩
        simpa using hgo
    clear hF HNO HYES hgo HKQ HG0
    rcases hor with rfl | ⟨rfl, h200⟩
    · go_enter Try.func30, Try.ntmps30
      go_upto_region 1 with fail
      rw [← hW0]
      clear hW0
      go_wp2_with fail
      go_at_call 11
      refine CN.mono ?_
      rintro e w1 ⟨ui, uh, uw, ua, rfl, hr1, hb1⟩
      obtain ⟨ai, ci, ah, ch, aw, cw, aa, ca, rfl, rfl, rfl, rfl⟩ := hr1.form
      have HB1 : Hid (Below w.heap.size w w1) := HB0.out.trans (hb1.mono HB0.out.size)
      have HBA : Hid (∀ o, Below W0.heap.size W0 (w1.alloc o)) := fun o => hb1.alloc hb1.size _
      generalize nwS t = S at *
      go_upto_region 2 with fail
      obtain ⟨W2, hW2⟩ : ∃ X, X = w1.alloc (.cells #[.int .i64 S.ep, .slice ai S.items.length ci, .int .i64 S.base, .slice ah S.handed.length ch, .slice aw S.way.length cw, .slice aa S.acks.length ca] 26) := ⟨_, rfl⟩
      rw [← hW2]
      have hb2 : Below W0.heap.size W0 W2 := by rw [hW2]; exact HBA.out _
      have HB2 : Hid (Below w.heap.size w W2) := HB0.out.trans (hb2.mono HB0.out.size)
      have hz := HZ0.out.below hb2
      have z0 := hz.c0
      have q0 := hz.f0
      have z1 := hz.c1
      have q1 := hz.f1
      have z2 := hz.c2
      have q2 := hz.f2
      have z3 := hz.c3
      have q3 := hz.f3
      have z4 := hz.c4
      have q4 := hz.f4
      have z5 := hz.c5
      have q5 := hz.f5
      clear hz
      clear hW2 hr1 hb1 hb2
      go_wp2_with fail
      (try simp only [Exit.inBlock, Exit.then])
      refine bodyPost_ret (v := .tuple #[.agg #[.int .i64 0, .slice none 0 0, .int .i64 0, .slice none 0 0, .slice none 0 0, .slice none 0 0], .slice none 0 0, .bool false]) ?_ rfl (HF.out _ ?_)
      · rw [rc]
        go_simp
      · exact Below.sets6 (HB2.out) (by omega)
    · go_enter Try.func30, Try.ntmps30
      go_upto_region 1 with fail
      rw [← hW0]
      clear hW0
      go_wp2_with fail
      go_at_call 11
      refine CN.mono ?_
      rintro e w1 ⟨ui, uh, uw, ua, rfl, hr1, hb1⟩
      obtain ⟨ai, ci, ah, ch, aw, cw, aa, ca, rfl, rfl, rfl, rfl⟩ := hr1.form
      have HBA : Hid (∀ o, Below W0.heap.size W0 (w1.alloc o)) := fun o => hb1.alloc hb1.size _
      generalize nwS t = S at *
      go_upto_region 2 with fail
      obtain ⟨W2, hW2⟩ : ∃ X, X = w1.alloc (.cells #[.int .i64 S.ep, .slice ai S.items.length ci, .int .i64 S.base, .slice ah S.handed.length ch, .slice aw S.way.length cw, .slice aa S.acks.length ca] 26) := ⟨_, rfl⟩
      rw [← hW2]
      have hb2 : Below W0.heap.size W0 W2 := by rw [hW2]; exact HBA.out _
      have HB2 : Hid (Below w.heap.size w W2) := HB0.out.trans (hb2.mono HB0.out.size)
      have h200' : (200 : Int) < (l.length : Int) := by omega
      have hd2 : decide (200 < l.length) = true := decide_eq_true h200
      have hz := HZ0.out.below hb2
      have z0 := hz.c0
      have q0 := hz.f0
      have z1 := hz.c1
      have q1 := hz.f1
      have z2 := hz.c2
      have q2 := hz.f2
      have z3 := hz.c3
      have q3 := hz.f3
      have z4 := hz.c4
      have q4 := hz.f4
      have z5 := hz.c5
      have q5 := hz.f5
      clear hz
      clear hW2 hr1 hb1 hb2 HROW HTX
      go_wp2_with fail
      (try simp only [Exit.inBlock, Exit.then])
      refine bodyPost_ret (v := .tuple #[.agg #[.int .i64 0, .slice none 0 0, .int .i64 0, .slice none 0 0, .slice none 0 0, .slice none 0 0], .slice none 0 0, .bool false]) ?_ rfl (HF.out _ ?_)
      · rw [rc]
        go_simp
      · exact Below.sets6 (HB2.out) (by omega)
  | true =>
    have hKt : K = true := by cases K <;> simp_all
    have h200 : l.length ≤ 200 := by subst hKt; simpa using hgo
    subst hKt
    have hY := HYES.out (by rw [HKQ.out, HK.out]; exact hgo)
    have HY : Hid (type_of% hY) := hY
    have HG : Hid (Gd (nwS t)) := HG0.out rfl
    have h200' : ¬ ((200 : Int) < (l.length : Int)) := by omega
    have hd2 : decide ((200 : Int) < (l.length : Int)) = false := decide_eq_false h200'
    clear hY HNO HYES hgo HKQ HG0 HK
    go_enter Try.func30, Try.ntmps30
    go_upto_region 1 with fail
    rw [← hW0]
    clear hW0
    go_wp2_with fail
    go_at_call 11
    refine CN.mono ?_
    rintro e w1 ⟨ui, uh, uw, ua, rfl, hr1, hb1⟩
    obtain ⟨ai, ci, ah, ch, aw, cw, aa, ca, rfl, rfl, rfl, rfl⟩ := hr1.form
    obtain ⟨W2, hW2⟩ : ∃ X, X = w1.alloc (.cells #[.int .i64 (nwS t).ep, .slice ai (nwS t).items.length ci, .int .i64 (nwS t).base, .slice ah (nwS t).handed.length ch, .slice aw (nwS t).way.length cw, .slice aa (nwS t).acks.length ca] 26) := ⟨_, rfl⟩
    have hba : Below w1.heap.size w1 W2 := by rw [hW2]; exact (Below.refl _ _).alloc (Nat.le_refl _) _
    have HB2 : Hid (Below W0.heap.size W0 W2) := hb1.trans (hba.mono hb1.size)
    have HV2 : Hid (Sv W2 w1.heap.size (.int .i64 (nwS t).ep) (.slice ai (nwS t).items.length ci) (.int .i64 (nwS t).base) (.slice ah (nwS t).handed.length ch) (.slice aw (nwS t).way.length cw) (.slice aa (nwS t).acks.length ca)) := by show Sv _ _ _ _ _ _ _ _; rw [hW2]; exact Sv.fresh w1 _ _ _ _ _ _ _
    have HR2 : Hid (type_of% (hr1.below hba)) := hr1.below hba
    have HN2 : Hid (∀ g, P4 (.slice ai (nwS t).items.length ci) (.slice ah (nwS t).handed.length ch) (.slice aw (nwS t).way.length cw) (.slice aa (nwS t).acks.length ca) g → g ≠ w1.heap.size) := fun g q => by have := (hr1.lt4 g q).2; omega
    have hw1 : W0.heap.size ≤ w1.heap.size := hb1.size
    clear hr1 hb1 hba
    generalize hSq : nwS t = S at *
    have HSQ : Hid (type_of% hSq) := hSq
    clear hSq
    go_upto_region 2 with fail
    rw [← hW2]
    clear hW2
    go_wp2_with fail
    go_loopw [9, 29] (fun vd vi wr => ∃ (i : Nat) (ai9 : Option Addr) (ci9 : Nat) (ah9 : Option Addr) (ch9 : Nat) (aw9 : Option Addr) (cw9 : Nat) (aa9 : Option Addr) (ca9 : Nat) (bo : Option Addr) (bc : Nat), i ≤ l.length ∧ vi = .int .i64 (i : Int) ∧ vd = .slice bo i bc ∧ Hid (Sv wr w1.heap.size (.int .i64 (plF S (l.take i)).ep) (.slice ai9 (plF S (l.take i)).items.length ci9) (.int .i64 (plF S (l.take i)).base) (.slice ah9 (plF S (l.take i)).handed.length ch9) (.slice aw9 (plF S (l.take i)).way.length cw9) (.slice aa9 (plF S (l.take i)).acks.length ca9)) ∧ Hid (SesRow wr W0.heap.size (plF S (l.take i)) (.slice ai9 (plF S (l.take i)).items.length ci9) (.slice ah9 (plF S (l.take i)).handed.length ch9) (.slice aw9 (plF S (l.take i)).way.length cw9) (.slice aa9 (plF S (l.take i)).acks.length ca9)) ∧ Hid (wr.ownsRow W0.heap.size 4 1 (.slice bo i bc) i (bols (plB S (l.take i)))) ∧ Hid (∀ g, (Value.slice bo i bc).ownBlock = some g → g ≠ w1.heap.size) ∧ Hid (∀ g, P4 (.slice ai9 (plF S (l.take i)).items.length ci9) (.slice ah9 (plF S (l.take i)).handed.length ch9) (.slice aw9 (plF S (l.take i)).way.length cw9) (.slice aa9 (plF S (l.take i)).acks.length ca9) g → g ≠ w1.heap.size) ∧ Hid (Below W0.heap.size W0 wr))
      (fun _ vi _ => l.length - (intOf vi).toNat)
    case atStart => exact ⟨0, ai, ci, ah, ch, aw, cw, aa, ca, none, 0, by omega, rfl, rfl, HV2.out, HR2.out, ⟨rfl, .inl ⟨rfl, rfl⟩⟩, fun g q => by simp [Value.ownBlock] at q, HN2.out, HB2.out⟩
    case round =>
      obtain ⟨i, ai9, ci9, ah9, ch9, aw9, cw9, aa9, ca9, bo, bc, hil, rfl, rfl, HVr, HRr, HDr, HNd, HNr, HBW⟩ := hrel
      by_cases hlt : i < l.length
      · have hltI : (i : Int) < (l.length : Int) := by omega
        obtain ⟨g0, o0, rfl, hg, hc⟩ := HROW.out i hlt
        have hc2 := hc.below (HB0.out.trans (HBW.out.mono HB0.out.size)) hg
        have htk : Hid (l.take (i + 1) = l.take i ++ [sp l i]) := take_sp hlt
        have hbl : Hid ((plB S (l.take i)).length = i) := by show _ = _; rw [plB_len, List.length_take]; omega
        have htx := HTX.out i hlt
        have hGi : Gd (plF S (l.take i)) := plF_good _ _ HG.out
        have HF1 : Hid (plF S (l.take (i + 1)) = stS (plF S (l.take i)) (sp l i)) := by show _ = _; rw [htk.out, plF_snoc]
        have HL1 : Hid (plB S (l.take (i + 1)) = plB S (l.take i) ++ [stK (plF S (l.take i)) (sp l i)]) := by show _ = _; rw [htk.out, plB_snoc]
        generalize hx : sp l i = x at hc2 htx HF1 HL1
        obtain ⟨d0, d1, d2⟩ := hc2
        obtain ⟨W5, hW5⟩ : ∃ X, X = wr.alloc (.cells #[.int .i64 x.kind, .int .i64 x.kk, .string x.tx] 48) := ⟨_, rfl⟩
        have hb5 : Below wr.heap.size wr W5 := by rw [hW5]; exact (Below.refl _ wr).alloc (Nat.le_refl _) _
        have HX5 : Hid (Cv3 W5 wr.heap.size (.int .i64 x.kind) (.int .i64 x.kk) (.string x.tx)) := by show _; rw [hW5]; exact Cv3.fresh wr _ _ _ _
        have HV5 : Hid (Sv W5 w1.heap.size (.int .i64 (plF S (l.take i)).ep) (.slice ai9 (plF S (l.take i)).items.length ci9) (.int .i64 (plF S (l.take i)).base) (.slice ah9 (plF S (l.take i)).handed.length ch9) (.slice aw9 (plF S (l.take i)).way.length cw9) (.slice aa9 (plF S (l.take i)).acks.length ca9)) := HVr.out.below hb5
        have HR5 : Hid (SesRow W5 W0.heap.size (plF S (l.take i)) (.slice ai9 (plF S (l.take i)).items.length ci9) (.slice ah9 (plF S (l.take i)).handed.length ch9) (.slice aw9 (plF S (l.take i)).way.length cw9) (.slice aa9 (plF S (l.take i)).acks.length ca9)) := HRr.out.below hb5
        have HD5 : Hid (W5.ownsRow W0.heap.size 4 1 (.slice bo i bc) i (bols (plB S (l.take i)))) := own_belowY HDr.out hb5
        have HB5 : Hid (Below W0.heap.size W0 W5) := HBW.out.trans (hb5.mono HBW.out.size)
        have hw5 : w1.heap.size < W5.heap.size := HV5.out.low
        have HNO2 : Hid (stK (plF S (l.take i)) x = false → stS (plF S (l.take i)) x = plF S (l.take i)) := stS_no
        have CO : Hid (∀ W, Below W5.heap.size W5 W → Calls Try.prog 72 #[.agg #[.int .i64 (plF S (l.take i)).ep, .slice ai9 (plF S (l.take i)).items.length ci9, .int .i64 (plF S (l.take i)).base, .slice ah9 (plF S (l.take i)).handed.length ch9, .slice aw9 (plF S (l.take i)).way.length cw9, .slice aa9 (plF S (l.take i)).acks.length ca9]] W fun e w' => ∃ ui uh uw ua, e = .returned ((plF S (l.take i)).val ui uh uw ua) ∧ SesRow w' W.heap.size (plF S (l.take i)) ui uh uw ua ∧ Below W.heap.size W w') := fun W hW => l15Own_any (plF S (l.take i)) _ _ _ _ W ((HR5.out.below hW).at) (hGi.sml.up (by decide))
        have CT : Hid (∀ W vi vh vw va, SesRow W W5.heap.size (plF S (l.take i)) vi vh vw va → W5.heap.size ≤ W.heap.size → Calls Try.prog 71 #[(plF S (l.take i)).val vi vh vw va, .agg #[.int .i64 x.kind, .int .i64 x.kk, .string x.tx]] W fun e w' => ∃ (ri rh rw ra : Option Addr) (ki kh kw ka : Nat), e = .returned (.tuple #[.agg #[.int .i64 (stS (plF S (l.take i)) x).ep, .slice ri (stS (plF S (l.take i)) x).items.length ki, .int .i64 (stS (plF S (l.take i)) x).base, .slice rh (stS (plF S (l.take i)) x).handed.length kh, .slice rw (stS (plF S (l.take i)) x).way.length kw, .slice ra (stS (plF S (l.take i)) x).acks.length ka], .bool (stK (plF S (l.take i)) x)]) ∧ SesRow w' W5.heap.size (stS (plF S (l.take i)) x) (.slice ri (stS (plF S (l.take i)) x).items.length ki) (.slice rh (stS (plF S (l.take i)) x).handed.length kh) (.slice rw (stS (plF S (l.take i)) x).way.length kw) (.slice ra (stS (plF S (l.take i)) x).acks.length ka) ∧ Tch W w' (P4 vi vh vw va) (P4 (.slice ri (stS (plF S (l.take i)) x).items.length ki) (.slice rh (stS (plF S (l.take i)) x).handed.length kh) (.slice rw (stS (plF S (l.take i)) x).way.length kw) (.slice ra (stS (plF S (l.take i)) x).acks.length ka))) := fun W vi vh vw va hr hs => (l15Step_any (plF S (l.take i)) x W5.heap.size vi vh vw va W hr hs hGi htx).mono fun e w' hh => by
          obtain ⟨ui, uh, uw, ua, he, hr, ht⟩ := hh
          obtain ⟨ri, ki, rh, kh, rw, kw, ra, ka, rfl, rfl, rfl, rfl⟩ := hr.form
          exact ⟨ri, rh, rw, ra, ki, kh, kw, ka, he, hr, ht⟩
        clear hc hb5 hx hGi htk
        generalize stS (plF S (l.take i)) x = S9 at CT HF1 HNO2
        generalize hk9 : stK (plF S (l.take i)) x = ok at CT HL1 HNO2
        clear hk9
        generalize plB S (l.take i) = D at HDr HD5 HL1 hbl
        generalize plF S (l.take i) = F0 at HVr HV5 HRr HR5 CT CO HNr HNO2
        have HI0 : Hid (Pc8 W5 S9 ok w w1 wr t l S F0 x ai9 ah9 aw9 aa9 ai ah aw aa bo ci9 ch9 cw9 ca9 ci ch cw ca bc i cap g0 o0 u40 u41 u42 u43 u44 u45 u46 (Array.replicate 10 false) ⟨#[Value.string t, Value.slice (some { block := g0, off := o0 }) l.length cap, undef, undef, Value.pointer (some { block := w.heap.size, off := 0 }), Value.slice none 0 0, Value.bool false, Value.pointer (some { block := w1.heap.size, off := 0 }), Value.bool true, Value.slice bo i bc, undef, Value.pointer (some { block := wr.heap.size, off := 0 }), u12, u13, Value.tuple #[Value.agg #[Value.int IntKind.i64 S.ep, Value.slice ai S.items.length ci, Value.int IntKind.i64 S.base, Value.slice ah S.handed.length ch, Value.slice aw S.way.length cw, Value.slice aa S.acks.length ca], Value.bool true], Value.string t, Value.tuple #[Value.agg #[Value.int IntKind.i64 S.ep, Value.slice ai S.items.length ci, Value.int IntKind.i64 S.base, Value.slice ah S.handed.length ch, Value.slice aw S.way.length cw, Value.slice aa S.acks.length ca], Value.bool true], Value.agg #[Value.int IntKind.i64 S.ep, Value.slice ai S.items.length ci, Value.int IntKind.i64 S.base, Value.slice ah S.handed.length ch, Value.slice aw S.way.length cw, Value.slice aa S.acks.length ca], Value.bool true, Value.bool true, Value.bool false, Value.bool false, Value.slice (some { block := g0, off := o0 }) l.length cap, Value.int IntKind.i64 ↑l.length, Value.bool false, Value.bool false, undef, Value.slice (some { block := g0, off := o0 }) l.length cap, Value.int IntKind.i64 ↑l.length, Value.int IntKind.i64 ↑i, Value.bool true, Value.pointer (some { block := g0, off := o0 + i * 3 }), Value.agg #[Value.int IntKind.i64 x.kind, Value.int IntKind.i64 x.kk, Value.string x.tx], u33, u34, u35, u36, u37, u38, u39, u40, u41, u42, u43, u44, u45, u46, undef, undef, undef], []⟩ W5.drew) := by
          refine ⟨by simp, (Below.refl _ W5).drew, undef, undef, undef, undef, none, none, none, none, 0, 0, 0, 0, _, _, _, _, _, _, _, _, _, rfl, ?_, ?_, ?_, ?_, ?_, ?_, ?_, ?_, ?_, ?_, ?_, ?_, ?_⟩
          all_goals
            intro h
            exact absurd h (by decide)
        clear HDr HVr HRr
        go_upto_region 8 with fail
        rw [← hW5]
        clear hW5 d0 d1 d2
        refine wp_region_held_drew (S := fun _ => True) (by kernel_rfl) trivial (fun _ => ?_)
        refine wpAnyH_inv (Pc8 W5 S9 ok w w1 wr t l S F0 x ai9 ah9 aw9 aa9 ai ah aw aa bo ci9 ch9 cw9 ca9 ci ch cw ca bc i cap g0 o0 u40 u41 u42 u43 u44 u45 u46) ?stepA ?finA _ _ _ _ HI0.out (by decide)
        case stepA =>
          intro lb a W j hI hi' K' hK'
          have hlt9 := ready_lt hi'
          obtain ⟨hls, hB, oi, oh, ow, oa, ri, rh, rw, ra, ki, kh, kw, ka, u34, u35, u36, u37, u33, u38, u39, u12, u13, rfl, cO, cR, cL, c0, c1, c2, c3, c4, c5, c6, c7, c8, c9⟩ := hI
          have hlt' : j < 10 := hlt9
          have hsz := hB.size
          rcases (show j = 0 ∨ j = 1 ∨ j = 2 ∨ j = 3 ∨ j = 4 ∨ j = 5 ∨ j = 6 ∨ j = 7 ∨ j = 8 ∨ j = 9 by omega) with rfl | rfl | rfl | rfl | rfl | rfl | rfl | rfl | rfl | rfl
          · -- 0
            have V := HV5.out.below hB
            have y0 := V.c0
            have y1 := V.c1
            have y2 := V.c2
            have y3 := V.c3
            have y4 := V.c4
            have y5 := V.c5
            clear V
            refine wpOp_step rfl (fun K9 hK9 => ?_)
            have HK : Hid (∀ a w, K' a w → K9 a w) := hK9
            have HK2 : Hid (type_of% hK') := hK'
            clear hK9 hK'
            go_simp
            exact HK.out _ _ (HK2.out _ _ ⟨by simp [hls], hB, oi, oh, ow, oa, ri, rh, rw, ra, ki, kh, kw, ka, _, _, _, _, _, _, _, _, _, rfl, fun h h3 => cO (getD_ne h (by decide)) (getD_off h3 (by decide)), fun h => cR (getD_ne h (by decide)), fun h => cL (getD_ne h (by decide)), fun _ => rfl, fun h => (c1 (getD_ne h (by decide))), fun h => (c2 (getD_ne h (by decide))), fun h => ⟨getD_set_true (c3 (getD_ne h (by decide))).1, (c3 (getD_ne h (by decide))).2⟩, fun h => ⟨getD_set_true (c4 (getD_ne h (by decide))).1, (c4 (getD_ne h (by decide))).2⟩, fun h => ⟨getD_set_true (c5 (getD_ne h (by decide))).1, (c5 (getD_ne h (by decide))).2⟩, fun h => (c6 (getD_ne h (by decide))), fun h => by obtain ⟨g, q1, q2, q3, q4, q5, q6⟩ := (c7 (getD_ne h (by decide))); exact ⟨g, q1, q2, q3, fun h5 => q4 (getD_ne h5 (by decide)), fun h5 => q5 (getD_ne h5 (by decide)), fun h5 => q6 (getD_ne h5 (by decide))⟩, fun h => ⟨getD_set_true (c8 (getD_ne h (by decide))).1, getD_set_true (c8 (getD_ne h (by decide))).2⟩, fun h => (c9 (getD_ne h (by decide)))⟩)
          · -- 1
            obtain rfl := c0 (by have hd := ready_deps hi' (o := _) rfl; exact hd ⟨0, .data⟩ (by simp) (by rfl))
            have hoff := ready_off hi' (by omega)
            have CC := CO.out W hB
            have h3off : lb.getD 3 false = false := by
              rcases Bool.eq_false_or_eq_true (lb.getD 3 false) with q | q
              · exact absurd (c3 q).1 (by rw [hoff]; decide)
              · exact q
            refine wpOp_step rfl (fun K9 hK9 => ?_)
            have HK : Hid (∀ a w, K' a w → K9 a w) := hK9
            have HK2 : Hid (type_of% hK') := hK'
            clear hK9 hK'
            go_simp
            go_at_call 72
            refine CC.mono ?_
            rintro r W9 ⟨ui, uh, uw, ua, rfl, hr, hb⟩
            (try go_simp)
            exact HK.out _ _ (HK2.out _ _ ⟨by simp [hls], hB.trans (hb.mono hsz), ui, uh, uw, ua, ri, rh, rw, ra, ki, kh, kw, ka, _, _, _, _, _, _, _, _, _, rfl, fun _ _ => hr.lower hsz, fun h => absurd (getD_ne h (by decide)) (by rw [h3off]; decide), fun _ g q => (hr.lt4 g q).2, fun h => (c0 (getD_ne h (by decide))), fun _ => rfl, fun h => (c2 (getD_ne h (by decide))), fun h => absurd (getD_ne h (by decide)) (by rw [h3off]; decide), fun h => absurd (c4 (getD_ne h (by decide))).1 (by rw [h3off]; decide), fun h => absurd (c5 (getD_ne h (by decide))).1 (by rw [h3off]; decide), fun h => (c6 (getD_ne h (by decide))), fun h => by obtain ⟨g, q1, q2, ⟨y0, y1, y2, y3, y4, y5, q3⟩, q4, q5, q6⟩ := (c7 (getD_ne h (by decide))); exact ⟨g, q1, ⟨q2.1, Nat.lt_of_lt_of_le q2.2 hb.size⟩, ⟨y0, y1, y2, y3, y4, y5, q3.below hb⟩, fun _ q => by have := (hr.lt4 g q).1; omega, fun h5 => absurd (getD_ne h5 (by decide)) (by rw [h3off]; decide), fun h5 => absurd (c5 (c8 (getD_ne h5 (by decide))).1).1 (by rw [h3off]; decide)⟩, fun h => absurd (c5 (c8 (getD_ne h (by decide))).1).1 (by rw [h3off]; decide), fun h => (c9 (getD_ne h (by decide)))⟩)
          · -- 2
            have V := HX5.out.below hB
            have y0 := V.c0
            have y1 := V.c1
            have y2 := V.c2
            clear V
            refine wpOp_step rfl (fun K9 hK9 => ?_)
            have HK : Hid (∀ a w, K' a w → K9 a w) := hK9
            have HK2 : Hid (type_of% hK') := hK'
            clear hK9 hK'
            go_simp
            exact HK.out _ _ (HK2.out _ _ ⟨by simp [hls], hB, oi, oh, ow, oa, ri, rh, rw, ra, ki, kh, kw, ka, _, _, _, _, _, _, _, _, _, rfl, fun h h3 => cO (getD_ne h (by decide)) (getD_off h3 (by decide)), fun h => cR (getD_ne h (by decide)), fun h => cL (getD_ne h (by decide)), fun h => (c0 (getD_ne h (by decide))), fun h => (c1 (getD_ne h (by decide))), fun _ => rfl, fun h => ⟨getD_set_true (c3 (getD_ne h (by decide))).1, (c3 (getD_ne h (by decide))).2⟩, fun h => ⟨getD_set_true (c4 (getD_ne h (by decide))).1, (c4 (getD_ne h (by decide))).2⟩, fun h => ⟨getD_set_true (c5 (getD_ne h (by decide))).1, (c5 (getD_ne h (by decide))).2⟩, fun h => (c6 (getD_ne h (by decide))), fun h => by obtain ⟨g, q1, q2, q3, q4, q5, q6⟩ := (c7 (getD_ne h (by decide))); exact ⟨g, q1, q2, q3, fun h5 => q4 (getD_ne h5 (by decide)), fun h5 => q5 (getD_ne h5 (by decide)), fun h5 => q6 (getD_ne h5 (by decide))⟩, fun h => ⟨getD_set_true (c8 (getD_ne h (by decide))).1, getD_set_true (c8 (getD_ne h (by decide))).2⟩, fun h => (c9 (getD_ne h (by decide)))⟩)
          · -- 3
            have D1 : Hid (lb.getD 1 false = true) := (by have hd := ready_deps hi' (o := _) rfl; exact hd ⟨1, .data⟩ (by simp) (by rfl))
            obtain rfl := c1 D1.out
            obtain rfl := c2 (by have hd := ready_deps hi' (o := _) rfl; exact hd ⟨2, .data⟩ (by simp) (by rfl))
            have hoff := ready_off hi' (by omega)
            have hrO := cO D1.out hoff
            have CC := CT.out W _ _ _ _ hrO hsz
            have HRO : Hid (type_of% hrO) := hrO
            clear hrO
            refine wpOp_step rfl (fun K9 hK9 => ?_)
            have HK : Hid (∀ a w, K' a w → K9 a w) := hK9
            have HK2 : Hid (type_of% hK') := hK'
            clear hK9 hK'
            go_simp
            go_at_call 71
            refine CC.mono ?_
            rintro r W9 ⟨ri', rh', rw', ra', ki', kh', kw', ka', rfl, hr, ht⟩
            (try go_simp)
            exact HK.out _ _ (HK2.out _ _ ⟨by simp [hls], hB.trans (ht.below hsz (fun k hk => (HRO.out.lt4 k hk).1)), oi, oh, ow, oa, ri', rh', rw', ra', ki', kh', kw', ka', _, _, _, _, _, _, _, _, _, rfl, fun _ h3 => absurd h3 (by rw [getD_on (by omega)]; decide), fun _ => hr, fun _ g q => Nat.lt_of_lt_of_le (cL D1.out g q) ht.size, fun h => (c0 (getD_ne h (by decide))), fun h => (c1 (getD_ne h (by decide))), fun h => (c2 (getD_ne h (by decide))), fun _ => ⟨getD_set_true D1.out, rfl⟩, fun h => absurd (c4 (getD_ne h (by decide))).1 (by rw [hoff]; decide), fun h => absurd (c5 (getD_ne h (by decide))).1 (by rw [hoff]; decide), fun h => (c6 (getD_ne h (by decide))), fun h => by obtain ⟨g, q1, q2, ⟨y0, y1, y2, y3, y4, y5, q3⟩, q4, q5, q6⟩ := (c7 (getD_ne h (by decide))); exact ⟨g, q1, ⟨q2.1, Nat.lt_of_lt_of_le q2.2 ht.size⟩, ⟨y0, y1, y2, y3, y4, y5, q3.step ht (q4 D1.out)⟩, fun _ => q4 D1.out, fun _ => ht.avoid q2.2 (q4 D1.out), fun h5 => absurd (c5 (c8 (getD_ne h5 (by decide))).1).1 (by rw [hoff]; decide)⟩, fun h => absurd (c5 (c8 (getD_ne h (by decide))).1).1 (by rw [hoff]; decide), fun h => (c9 (getD_ne h (by decide)))⟩)
          · -- 4
            have D3 : Hid (lb.getD 3 false = true) := (by have hd := ready_deps hi' (o := _) rfl; exact hd ⟨3, .data⟩ (by simp) (by rfl))
            have f3 := c3 D3.out
            obtain rfl := f3.2
            clear f3
            refine wpOp_step rfl (fun K9 hK9 => ?_)
            have HK : Hid (∀ a w, K' a w → K9 a w) := hK9
            have HK2 : Hid (type_of% hK') := hK'
            clear hK9 hK'
            go_simp
            exact HK.out _ _ (HK2.out _ _ ⟨by simp [hls], hB, oi, oh, ow, oa, ri, rh, rw, ra, ki, kh, kw, ka, _, _, _, _, _, _, _, _, _, rfl, fun h h3 => cO (getD_ne h (by decide)) (getD_off h3 (by decide)), fun h => cR (getD_ne h (by decide)), fun h => cL (getD_ne h (by decide)), fun h => (c0 (getD_ne h (by decide))), fun h => (c1 (getD_ne h (by decide))), fun h => (c2 (getD_ne h (by decide))), fun h => ⟨getD_set_true (c3 (getD_ne h (by decide))).1, (c3 (getD_ne h (by decide))).2⟩, fun _ => ⟨getD_set_true D3.out, rfl⟩, fun h => ⟨getD_set_true (c5 (getD_ne h (by decide))).1, (c5 (getD_ne h (by decide))).2⟩, fun h => (c6 (getD_ne h (by decide))), fun h => by obtain ⟨g, q1, q2, q3, q4, q5, q6⟩ := (c7 (getD_ne h (by decide))); exact ⟨g, q1, q2, q3, fun h5 => q4 (getD_ne h5 (by decide)), fun h5 => q5 (getD_ne h5 (by decide)), fun h5 => q6 (getD_ne h5 (by decide))⟩, fun h => ⟨getD_set_true (c8 (getD_ne h (by decide))).1, getD_set_true (c8 (getD_ne h (by decide))).2⟩, fun h => (c9 (getD_ne h (by decide)))⟩)
          · -- 5
            have D4 : Hid (lb.getD 4 false = true) := (by have hd := ready_deps hi' (o := _) rfl; exact hd ⟨4, .data⟩ (by simp) (by rfl))
            have f4 := c4 D4.out
            obtain rfl := f4.2
            have D3 : Hid (lb.getD 3 false = true) := f4.1
            clear f4
            refine wpOp_step rfl (fun K9 hK9 => ?_)
            have HK : Hid (∀ a w, K' a w → K9 a w) := hK9
            have HK2 : Hid (type_of% hK') := hK'
            clear hK9 hK'
            go_simp
            exact HK.out _ _ (HK2.out _ _ ⟨by simp [hls], hB, oi, oh, ow, oa, ri, rh, rw, ra, ki, kh, kw, ka, _, _, _, _, _, _, _, _, _, rfl, fun h h3 => cO (getD_ne h (by decide)) (getD_off h3 (by decide)), fun h => cR (getD_ne h (by decide)), fun h => cL (getD_ne h (by decide)), fun h => (c0 (getD_ne h (by decide))), fun h => (c1 (getD_ne h (by decide))), fun h => (c2 (getD_ne h (by decide))), fun h => ⟨getD_set_true (c3 (getD_ne h (by decide))).1, (c3 (getD_ne h (by decide))).2⟩, fun h => ⟨getD_set_true (c4 (getD_ne h (by decide))).1, (c4 (getD_ne h (by decide))).2⟩, fun _ => ⟨getD_set_true D3.out, rfl⟩, fun h => (c6 (getD_ne h (by decide))), fun h => by obtain ⟨g, q1, q2, q3, q4, q5, q6⟩ := (c7 (getD_ne h (by decide))); exact ⟨g, q1, q2, q3, fun h5 => q4 (getD_ne h5 (by decide)), fun h5 => q5 (getD_ne h5 (by decide)), fun h5 => q6 (getD_ne h5 (by decide))⟩, fun h => ⟨getD_set_true (c8 (getD_ne h (by decide))).1, getD_set_true (c8 (getD_ne h (by decide))).2⟩, fun h => (c9 (getD_ne h (by decide)))⟩)
          · -- 6
            have D4 : Hid (lb.getD 4 false = true) := (by have hd := ready_deps hi' (o := _) rfl; exact hd ⟨4, .data⟩ (by simp) (by rfl))
            have f4 := c4 D4.out
            obtain rfl := f4.2
            have D3 : Hid (lb.getD 3 false = true) := f4.1
            clear f4
            refine wpOp_step rfl (fun K9 hK9 => ?_)
            have HK : Hid (∀ a w, K' a w → K9 a w) := hK9
            have HK2 : Hid (type_of% hK') := hK'
            clear hK9 hK'
            go_simp
            exact HK.out _ _ (HK2.out _ _ ⟨by simp [hls], hB, oi, oh, ow, oa, ri, rh, rw, ra, ki, kh, kw, ka, _, _, _, _, _, _, _, _, _, rfl, fun h h3 => cO (getD_ne h (by decide)) (getD_off h3 (by decide)), fun h => cR (getD_ne h (by decide)), fun h => cL (getD_ne h (by decide)), fun h => (c0 (getD_ne h (by decide))), fun h => (c1 (getD_ne h (by decide))), fun h => (c2 (getD_ne h (by decide))), fun h => ⟨getD_set_true (c3 (getD_ne h (by decide))).1, (c3 (getD_ne h (by decide))).2⟩, fun h => ⟨getD_set_true (c4 (getD_ne h (by decide))).1, (c4 (getD_ne h (by decide))).2⟩, fun h => ⟨getD_set_true (c5 (getD_ne h (by decide))).1, (c5 (getD_ne h (by decide))).2⟩, fun _ => rfl, fun h => by obtain ⟨g, q1, q2, q3, q4, q5, q6⟩ := (c7 (getD_ne h (by decide))); exact ⟨g, q1, q2, q3, fun h5 => q4 (getD_ne h5 (by decide)), fun h5 => q5 (getD_ne h5 (by decide)), fun h5 => q6 (getD_ne h5 (by decide))⟩, fun h => ⟨getD_set_true (c8 (getD_ne h (by decide))).1, getD_set_true (c8 (getD_ne h (by decide))).2⟩, fun h => (c9 (getD_ne h (by decide)))⟩)
          · -- 7
            have hoff := ready_off hi' (by omega)
            refine wpOp_step rfl (fun K9 hK9 => ?_)
            have HK : Hid (∀ a w, K' a w → K9 a w) := hK9
            have HK2 : Hid (type_of% hK') := hK'
            clear hK9 hK'
            have hb : Below W.heap.size W (W.alloc (.cells #[.int .i64 0, .slice none 0 0, .int .i64 0, .slice none 0 0, .slice none 0 0, .slice none 0 0] 26)) := (Below.refl _ W).alloc (Nat.le_refl _) _
            go_simp
            exact HK.out _ _ (HK2.out _ _ ⟨by simp [hls], hB.alloc hsz _, oi, oh, ow, oa, ri, rh, rw, ra, ki, kh, kw, ka, _, _, _, _, _, _, _, _, _, rfl, fun h h3 => (cO (getD_ne h (by decide)) (getD_off h3 (by decide))).below hb, fun h => (cR (getD_ne h (by decide))).below hb, fun h g q => Nat.lt_of_lt_of_le (cL (getD_ne h (by decide)) g q) hb.size, fun h => (c0 (getD_ne h (by decide))), fun h => (c1 (getD_ne h (by decide))), fun h => (c2 (getD_ne h (by decide))), fun h => ⟨getD_set_true (c3 (getD_ne h (by decide))).1, (c3 (getD_ne h (by decide))).2⟩, fun h => ⟨getD_set_true (c4 (getD_ne h (by decide))).1, (c4 (getD_ne h (by decide))).2⟩, fun h => ⟨getD_set_true (c5 (getD_ne h (by decide))).1, (c5 (getD_ne h (by decide))).2⟩, fun h => (c6 (getD_ne h (by decide))), fun _ => ⟨W.heap.size, rfl, ⟨hsz, by simp⟩, ⟨_, _, _, _, _, _, Sv.fresh W _ _ _ _ _ _ _⟩, fun h5 q => by have := cL (getD_ne h5 (by decide)) _ q; omega, fun h5 q => by have := ((cR (getD_ne h5 (by decide))).lt4 _ q).2; omega, fun h5 => absurd (c8 (getD_ne h5 (by decide))).2 (by rw [hoff]; decide)⟩, fun h => absurd (c8 (getD_ne h (by decide))).2 (by rw [hoff]; decide), fun h => (c9 (getD_ne h (by decide)))⟩)
          · -- 8
            have D7 : Hid (lb.getD 7 false = true) := (by have hd := ready_deps hi' (o := _) rfl; exact hd ⟨7, .data⟩ (by simp) (by rfl))
            have D5 : Hid (lb.getD 5 false = true) := (by have hd := ready_deps hi' (o := _) rfl; exact hd ⟨5, .data⟩ (by simp) (by rfl))
            obtain ⟨g, q1, q2, ⟨y0, y1, y2, y3, y4, y5, q3⟩, q4, q5, q6⟩ := c7 D7.out
            subst q1
            have f5 := c5 D5.out
            have D3 : Hid (lb.getD 3 false = true) := f5.1
            obtain rfl := f5.2
            have hnR := q5 D3.out
            have t0 := q3.c0
            have z0 := q3.f0
            have t1 := q3.c1
            have z1 := q3.f1
            have t2 := q3.c2
            have z2 := q3.f2
            have t3 := q3.c3
            have z3 := q3.f3
            have t4 := q3.c4
            have z4 := q3.f4
            have t5 := q3.c5
            have z5 := q3.f5
            have HNR : Hid (type_of% hnR) := hnR
            clear f5 hnR
            refine wpOp_step rfl (fun K9 hK9 => ?_)
            have HK : Hid (∀ a w, K' a w → K9 a w) := hK9
            have HK2 : Hid (type_of% hK') := hK'
            clear hK9 hK'
            go_simp
            exact HK.out _ _ (HK2.out _ _ ⟨by simp [hls], Below.sets6 hB q2.1, oi, oh, ow, oa, ri, rh, rw, ra, ki, kh, kw, ka, _, _, _, _, _, _, _, _, _, rfl, fun _ h3 => absurd D3.out (by rw [getD_off h3 (by decide)]; decide), fun _ => (cR D3.out).set6 HNR.out, fun h g q => by simpa using cL (getD_ne h (by decide)) g q, fun h => (c0 (getD_ne h (by decide))), fun h => (c1 (getD_ne h (by decide))), fun h => (c2 (getD_ne h (by decide))), fun h => ⟨getD_set_true (c3 (getD_ne h (by decide))).1, (c3 (getD_ne h (by decide))).2⟩, fun h => ⟨getD_set_true (c4 (getD_ne h (by decide))).1, (c4 (getD_ne h (by decide))).2⟩, fun h => ⟨getD_set_true (c5 (getD_ne h (by decide))).1, (c5 (getD_ne h (by decide))).2⟩, fun h => (c6 (getD_ne h (by decide))), fun _ => ⟨g, rfl, ⟨q2.1, by simpa using q2.2⟩, ⟨_, _, _, _, _, _, q3.set6⟩, fun h5 => q4 (getD_ne h5 (by decide)), fun _ => HNR.out, fun _ => q3.set6⟩, fun _ => ⟨getD_set_true D5.out, getD_set_true D7.out⟩, fun h => (c9 (getD_ne h (by decide)))⟩)
          · -- 9
            obtain rfl := c6 (by have hd := ready_deps hi' (o := _) rfl; exact hd ⟨6, .data⟩ (by simp) (by rfl))
            refine wpOp_step rfl (fun K9 hK9 => ?_)
            have HK : Hid (∀ a w, K' a w → K9 a w) := hK9
            have HK2 : Hid (type_of% hK') := hK'
            clear hK9 hK'
            go_simp
            exact HK.out _ _ (HK2.out _ _ ⟨by simp [hls], hB, oi, oh, ow, oa, ri, rh, rw, ra, ki, kh, kw, ka, _, _, _, _, _, _, _, _, _, rfl, fun h h3 => cO (getD_ne h (by decide)) (getD_off h3 (by decide)), fun h => cR (getD_ne h (by decide)), fun h => cL (getD_ne h (by decide)), fun h => (c0 (getD_ne h (by decide))), fun h => (c1 (getD_ne h (by decide))), fun h => (c2 (getD_ne h (by decide))), fun h => ⟨getD_set_true (c3 (getD_ne h (by decide))).1, (c3 (getD_ne h (by decide))).2⟩, fun h => ⟨getD_set_true (c4 (getD_ne h (by decide))).1, (c4 (getD_ne h (by decide))).2⟩, fun h => ⟨getD_set_true (c5 (getD_ne h (by decide))).1, (c5 (getD_ne h (by decide))).2⟩, fun h => (c6 (getD_ne h (by decide))), fun h => by obtain ⟨g, q1, q2, q3, q4, q5, q6⟩ := (c7 (getD_ne h (by decide))); exact ⟨g, q1, q2, q3, fun h5 => q4 (getD_ne h5 (by decide)), fun h5 => q5 (getD_ne h5 (by decide)), fun h5 => q6 (getD_ne h5 (by decide))⟩, fun h => ⟨getD_set_true (c8 (getD_ne h (by decide))).1, getD_set_true (c8 (getD_ne h (by decide))).2⟩, fun _ => rfl⟩)
        case finA =>
          intro l9 a W8 hI h0
          obtain ⟨hls, hB8, oi, oh, ow, oa, ri, rh, rw, ra, ki, kh, kw, ka, u34, u35, u36, u37, u33, u38, u39, u12, u13, rfl, cO, cR, cL, c0, c1, c2, c3, c4, c5, c6, c7, c8, c9⟩ := hI
          have b0 : l9.getD 0 false = true := listed_ofB2 h0 0 _ (by omega) rfl (by intro e he hbd; first | (simp at he; done) | skip; simp at he; (repeat (rcases he with rfl | he; · first | assumption | exact absurd hbd (by decide))); all_goals (subst he; first | assumption | exact absurd hbd (by decide)))
          have b1 : l9.getD 1 false = true := listed_ofB2 h0 1 _ (by omega) rfl (by intro e he hbd; first | (simp at he; done) | skip; simp at he; (repeat (rcases he with rfl | he; · first | assumption | exact absurd hbd (by decide))); all_goals (subst he; first | assumption | exact absurd hbd (by decide)))
          have b2 : l9.getD 2 false = true := listed_ofB2 h0 2 _ (by omega) rfl (by intro e he hbd; first | (simp at he; done) | skip; simp at he; (repeat (rcases he with rfl | he; · first | assumption | exact absurd hbd (by decide))); all_goals (subst he; first | assumption | exact absurd hbd (by decide)))
          have b3 : l9.getD 3 false = true := listed_ofB2 h0 3 _ (by omega) rfl (by intro e he hbd; first | (simp at he; done) | skip; simp at he; (repeat (rcases he with rfl | he; · first | assumption | exact absurd hbd (by decide))); all_goals (subst he; first | assumption | exact absurd hbd (by decide)))
          have b4 : l9.getD 4 false = true := listed_ofB2 h0 4 _ (by omega) rfl (by intro e he hbd; first | (simp at he; done) | skip; simp at he; (repeat (rcases he with rfl | he; · first | assumption | exact absurd hbd (by decide))); all_goals (subst he; first | assumption | exact absurd hbd (by decide)))
          have b5 : l9.getD 5 false = true := listed_ofB2 h0 5 _ (by omega) rfl (by intro e he hbd; first | (simp at he; done) | skip; simp at he; (repeat (rcases he with rfl | he; · first | assumption | exact absurd hbd (by decide))); all_goals (subst he; first | assumption | exact absurd hbd (by decide)))
          have b6 : l9.getD 6 false = true := listed_ofB2 h0 6 _ (by omega) rfl (by intro e he hbd; first | (simp at he; done) | skip; simp at he; (repeat (rcases he with rfl | he; · first | assumption | exact absurd hbd (by decide))); all_goals (subst he; first | assumption | exact absurd hbd (by decide)))
          have b7 : l9.getD 7 false = true := listed_ofB2 h0 7 _ (by omega) rfl (by intro e he hbd; first | (simp at he; done) | skip; simp at he; (repeat (rcases he with rfl | he; · first | assumption | exact absurd hbd (by decide))); all_goals (subst he; first | assumption | exact absurd hbd (by decide)))
          have b8 : l9.getD 8 false = true := listed_ofB2 h0 8 _ (by omega) rfl (by intro e he hbd; first | (simp at he; done) | skip; simp at he; (repeat (rcases he with rfl | he; · first | assumption | exact absurd hbd (by decide))); all_goals (subst he; first | assumption | exact absurd hbd (by decide)))
          have b9 : l9.getD 9 false = true := listed_ofB2 h0 9 _ (by omega) rfl (by intro e he hbd; first | (simp at he; done) | skip; simp at he; (repeat (rcases he with rfl | he; · first | assumption | exact absurd hbd (by decide))); all_goals (subst he; first | assumption | exact absurd hbd (by decide)))
          obtain ⟨g, q1, q2, _, _, q5, q6⟩ := c7 b7
          subst q1
          have HV9 : Hid (type_of% (q6 b8)) := q6 b8
          have HR9 : Hid (type_of% (cR b3)) := cR b3
          have HV8 : Hid (Sv W8 w1.heap.size (.int .i64 F0.ep) (.slice ai9 F0.items.length ci9) (.int .i64 F0.base) (.slice ah9 F0.handed.length ch9) (.slice aw9 F0.way.length cw9) (.slice aa9 F0.acks.length ca9)) := HV5.out.below hB8
          have HR8 : Hid (SesRow W8 W0.heap.size F0 (.slice ai9 F0.items.length ci9) (.slice ah9 F0.handed.length ch9) (.slice aw9 F0.way.length cw9) (.slice aa9 F0.acks.length ca9)) := HR5.out.below hB8
          have HD8 : Hid (W8.ownsRow W0.heap.size 4 1 (.slice bo i bc) i (bols D)) := own_belowY HD5.out hB8
          have HB8 : Hid (Below W0.heap.size W0 W8) := HB5.out.trans (hB8.mono HB5.out.size)
          have hs8 : W0.heap.size ≤ W8.heap.size := HB8.out.size
          have hi200 : i < 200 := by omega
          have hw8 : W5.heap.size ≤ W8.heap.size := hB8.size
          have HND : Hid (∀ g, (Value.slice bo i bc).ownBlock = some g → g ≠ w1.heap.size) := HNd.out
          obtain rfl := c9 b9
          clear cO cR cL c0 c1 c2 c3 c4 c5 c6 c7 c8 c9 b0 b1 b2 b3 b4 b5 b6 b7 b8 b9 q5 q6 hB8 h0 hls CO CT HV5 HR5 HD5 HX5 HI0 HB5 HNd
          (try dsimp only)
          cases ok with
          | false =>
            have HEQ : Hid (S9 = F0) := HNO2.out rfl
            have HVn : Hid (type_of% HV8.out) := HV8.out
            have HRn : Hid (type_of% HR8.out) := HR8.out
            have HDn : Hid (type_of% HD8.out) := HD8.out
            have HNn : Hid (∀ g, P4 (.slice ai9 F0.items.length ci9) (.slice ah9 F0.handed.length ch9) (.slice aw9 F0.way.length cw9) (.slice aa9 F0.acks.length ca9) g → g ≠ w1.heap.size) := HNr.out
            have HBn : Hid (type_of% HB8.out) := HB8.out
            go_wp2_with (at_builtin; refine wpList_append_lies _ rfl _ _ 53 rfl W0.heap.size 4 j0 (.bool false) 1 1 Try.underlying53 hj hjz0 hjz1 hjz2 rfl (by decide) _ i _ rfl (World.ownsRow.alloc HDn.out _) ⟨W8.heap.size, 0, none⟩ 1 1 [Value.bool false] rfl rfl (World.news_of_block (heap_alloc_new W8 _)) (by intro u hu; simp at hu; subst hu; rfl) (by omega) (by unfold maxLen; omega) (by omega) (by simp; omega) (W8.heap.size + 1) (by simp) ?_; intro g9 cap9 w9 hown9 hgrow9 hat9 hlt9; have hgr : W8.grownBy w9 (Value.slice bo i bc).ownBlock := grown_allocO hgrow9; have HG9 : Hid (type_of% hgr) := hgr; have HO9 : Hid (w9.ownsRow W0.heap.size 4 1 (.slice (some ⟨g9, 0, none⟩) (i + 1) cap9) (i + 1) (bols D ++ [Value.bool false])) := hown9; have HA9 : Hid (∀ g, (Value.slice (some ⟨g9, 0, none⟩) (i + 1) cap9).ownBlock = some g → (Value.slice bo i bc).ownBlock = some g ∨ W8.heap.size ≤ g) := at_new hat9; clear hown9 hgrow9 hat9 hlt9 hgr)
            go_roundw
            case rel =>
              have hdif : ∀ g, P4 (.slice ai9 F0.items.length ci9) (.slice ah9 F0.handed.length ch9) (.slice aw9 F0.way.length cw9) (.slice aa9 F0.acks.length ca9) g → (Value.slice bo i bc).ownBlock ≠ some g := fun g q hq => by
                rcases q with q | q | q | q
                · exact diff_ty HRn.out.i HDn.out (by decide) g q hq
                · exact diff_ty HRn.out.h HDn.out (by decide) g q hq
                · exact diff_ty HRn.out.y HDn.out (by decide) g q hq
                · exact diff_ty HRn.out.a HDn.out (by decide) g q hq
              refine ⟨i + 1, ai9, ci9, ah9, ch9, aw9, cw9, aa9, ca9, some ⟨g9, 0, none⟩, cap9, by omega, by go_num, rfl, ?_, ?_, ?_, ?_, ?_, ?_⟩
              · show Sv _ _ _ _ _ _ _ _
                rw [HF1.out, HEQ.out]
                exact HVn.out.kept (HG9.out.block _ HVn.out.low (fun q => HND.out _ q.symm rfl)) HG9.out.size
              · show SesRow _ _ _ _ _ _ _
                rw [HF1.out, HEQ.out]
                exact ⟨own_keptS2 HRn.out.i fun k q => HG9.out.block k (HRn.out.lt4 k (.inl q)).2 (fun e => hdif k (.inl q) e.symm), own_keptS2 HRn.out.h fun k q => HG9.out.block k (HRn.out.lt4 k (.inr (.inl q))).2 (fun e => hdif k (.inr (.inl q)) e.symm), own_keptS2 HRn.out.y fun k q => HG9.out.block k (HRn.out.lt4 k (.inr (.inr (.inl q)))).2 (fun e => hdif k (.inr (.inr (.inl q))) e.symm), own_keptS2 HRn.out.a fun k q => HG9.out.block k (HRn.out.lt4 k (.inr (.inr (.inr q)))).2 (fun e => hdif k (.inr (.inr (.inr q))) e.symm), HRn.out.ih, HRn.out.iw, HRn.out.ia, HRn.out.hw, HRn.out.ha, HRn.out.wa⟩
              · show World.ownsRow _ _ _ _ _ _ _
                rw [HL1.out, ← bols_snoc]
                exact HO9.out
              · exact fun g q => by
                  rcases HA9.out g q with h1 | h1
                  · exact HND.out g h1
                  · have := HVn.out.low; omega
              · exact fun g q => by
                  rw [HF1.out, HEQ.out] at q
                  exact HNn.out g q
              · exact HBn.out.trans ((Below.refl W0.heap.size W8).grown HG9.out (by omega) (fun k hk => (World.ownsRow.lt HDn.out k hk).1))
            case measure => simp [intOf]; omega
          | true =>
            have y0 := HV9.out.c0
            have y1 := HV9.out.c1
            have y2 := HV9.out.c2
            have y3 := HV9.out.c3
            have y4 := HV9.out.c4
            have y5 := HV9.out.c5
            have x0 := HV8.out.c0
            have x1 := HV8.out.c1
            have x2 := HV8.out.c2
            have x3 := HV8.out.c3
            have x4 := HV8.out.c4
            have x5 := HV8.out.c5
            have q0 := HV8.out.f0
            have q1 := HV8.out.f1
            have q2 := HV8.out.f2
            have q3 := HV8.out.f3
            have q4 := HV8.out.f4
            have q5 := HV8.out.f5
            go_upto_region 11 with fail
            obtain ⟨Wn, hWn⟩ : ∃ X, X = ((((((((((((W8).setCell ⟨w1.heap.size, 0, none⟩ (.int .i64 S9.ep))).setCell ⟨w1.heap.size, 1, none⟩ (.slice ri S9.items.length ki))).setCell ⟨w1.heap.size, 2, none⟩ (.int .i64 S9.base))).setCell ⟨w1.heap.size, 3, none⟩ (.slice rh S9.handed.length kh))).setCell ⟨w1.heap.size, 4, none⟩ (.slice rw S9.way.length kw))).setCell ⟨w1.heap.size, 5, none⟩ (.slice ra S9.acks.length ka)) := ⟨_, rfl⟩
            have HVn : Hid (Sv Wn w1.heap.size (.int .i64 S9.ep) (.slice ri S9.items.length ki) (.int .i64 S9.base) (.slice rh S9.handed.length kh) (.slice rw S9.way.length kw) (.slice ra S9.acks.length ka)) := by show Sv _ _ _ _ _ _ _ _; rw [hWn]; have v := HV8.out.set0 (.int .i64 S9.ep); exact ((((v.set1 _).set2 _).set3 _).set4 _).set5 _
            have HNn : Hid (∀ g, P4 (.slice ri S9.items.length ki) (.slice rh S9.handed.length kh) (.slice rw S9.way.length kw) (.slice ra S9.acks.length ka) g → g ≠ w1.heap.size) := fun g q => by have := (HR9.out.lt4 g q).1; omega
            have HRn : Hid (SesRow Wn W0.heap.size S9 (.slice ri S9.items.length ki) (.slice rh S9.handed.length kh) (.slice rw S9.way.length kw) (.slice ra S9.acks.length ka)) := by show SesRow _ _ _ _ _ _ _; rw [hWn]; exact (HR9.out.set6 (fun q => HNn.out _ q rfl)).lower (by omega)
            have HDn : Hid (Wn.ownsRow W0.heap.size 4 1 (.slice bo i bc) i (bols D)) := by show World.ownsRow _ _ _ _ _ _ _; rw [hWn]; exact own_set6 HD8.out (fun g q => HND.out g q)
            have HBn : Hid (Below W0.heap.size W0 Wn) := by show Below _ _ _; rw [hWn]; exact Below.sets6 HB8.out hw1
            have hsn : W0.heap.size ≤ Wn.heap.size := HBn.out.size
            rw [← hWn]
            clear hWn y0 x0 q0 y1 x1 q1 y2 x2 q2 y3 x3 q3 y4 x4 q4 y5 x5 q5
            go_wp2_with (at_builtin; refine wpList_append_lies _ rfl _ _ 53 rfl W0.heap.size 4 j0 (.bool false) 1 1 Try.underlying53 hj hjz0 hjz1 hjz2 rfl (by decide) _ i _ rfl (World.ownsRow.alloc HDn.out _) ⟨Wn.heap.size, 0, none⟩ 1 1 [Value.bool true] rfl rfl (World.news_of_block (heap_alloc_new Wn _)) (by intro u hu; simp at hu; subst hu; rfl) (by omega) (by unfold maxLen; omega) (by omega) (by simp; omega) (Wn.heap.size + 1) (by simp) ?_; intro g9 cap9 w9 hown9 hgrow9 hat9 hlt9; have hgr : Wn.grownBy w9 (Value.slice bo i bc).ownBlock := grown_allocO hgrow9; have HG9 : Hid (type_of% hgr) := hgr; have HO9 : Hid (w9.ownsRow W0.heap.size 4 1 (.slice (some ⟨g9, 0, none⟩) (i + 1) cap9) (i + 1) (bols D ++ [Value.bool true])) := hown9; have HA9 : Hid (∀ g, (Value.slice (some ⟨g9, 0, none⟩) (i + 1) cap9).ownBlock = some g → (Value.slice bo i bc).ownBlock = some g ∨ Wn.heap.size ≤ g) := at_new hat9; clear hown9 hgrow9 hat9 hlt9 hgr)
            go_roundw
            case rel =>
              have hdif : ∀ g, P4 (.slice ri S9.items.length ki) (.slice rh S9.handed.length kh) (.slice rw S9.way.length kw) (.slice ra S9.acks.length ka) g → (Value.slice bo i bc).ownBlock ≠ some g := fun g q hq => by
                rcases q with q | q | q | q
                · exact diff_ty HRn.out.i HDn.out (by decide) g q hq
                · exact diff_ty HRn.out.h HDn.out (by decide) g q hq
                · exact diff_ty HRn.out.y HDn.out (by decide) g q hq
                · exact diff_ty HRn.out.a HDn.out (by decide) g q hq
              refine ⟨i + 1, ri, ki, rh, kh, rw, kw, ra, ka, some ⟨g9, 0, none⟩, cap9, by omega, by go_num, rfl, ?_, ?_, ?_, ?_, ?_, ?_⟩
              · show Sv _ _ _ _ _ _ _ _
                rw [HF1.out]
                exact HVn.out.kept (HG9.out.block _ HVn.out.low (fun q => HND.out _ q.symm rfl)) HG9.out.size
              · show SesRow _ _ _ _ _ _ _
                rw [HF1.out]
                exact ⟨own_keptS2 HRn.out.i fun k q => HG9.out.block k (HRn.out.lt4 k (.inl q)).2 (fun e => hdif k (.inl q) e.symm), own_keptS2 HRn.out.h fun k q => HG9.out.block k (HRn.out.lt4 k (.inr (.inl q))).2 (fun e => hdif k (.inr (.inl q)) e.symm), own_keptS2 HRn.out.y fun k q => HG9.out.block k (HRn.out.lt4 k (.inr (.inr (.inl q)))).2 (fun e => hdif k (.inr (.inr (.inl q))) e.symm), own_keptS2 HRn.out.a fun k q => HG9.out.block k (HRn.out.lt4 k (.inr (.inr (.inr q)))).2 (fun e => hdif k (.inr (.inr (.inr q))) e.symm), HRn.out.ih, HRn.out.iw, HRn.out.ia, HRn.out.hw, HRn.out.ha, HRn.out.wa⟩
              · show World.ownsRow _ _ _ _ _ _ _
                rw [HL1.out, ← bols_snoc]
                exact HO9.out
              · exact fun g q => by
                  rcases HA9.out g q with h1 | h1
                  · exact HND.out g h1
                  · have := HVn.out.low; omega
              · exact fun g q => by
                  rw [HF1.out] at q
                  exact HNn.out g q
              · exact HBn.out.trans ((Below.refl W0.heap.size Wn).grown HG9.out (by omega) (fun k hk => (World.ownsRow.lt HDn.out k hk).1))
            case measure => simp [intOf]; omega
      · have hke : i = l.length := by omega
        subst hke
        have hge : ¬ ((l.length : Int) < (l.length : Int)) := by omega
        have htk : l.take l.length = l := List.take_of_length_le (Nat.le_refl _)
        rw [htk] at HVr HRr HDr
        have HDL : Hid ((plB S l).length = l.length) := plB_len l S
        have hGf : Gd (plF S l) := plF_good _ _ HG.out
        have CO := l15Own_any (plF S l) _ _ _ _ wr HRr.out.at (hGf.sml.up (by decide))
        unfold Ses.val at CO
        clear htk HNr hGf
        generalize plF S l = F1 at CO HY HVr HRr
        generalize plB S l = D at HDr HY HDL
        have y0 := HVr.out.c0
        have y1 := HVr.out.c1
        have y2 := HVr.out.c2
        have y3 := HVr.out.c3
        have y4 := HVr.out.c4
        have y5 := HVr.out.c5
        go_wp2_with fail
        go_at_call 72
        refine CO.mono ?_
        rintro e w6 ⟨ui4, uh4, uw4, ua4, rfl, hr4, hb4⟩
        have HB4 : Hid (Below W0.heap.size W0 w6) := HBW.out.trans (hb4.mono HBW.out.size)
        have HBW4 : Hid (Below w.heap.size w w6) := HB0.out.trans (HB4.out.mono HB0.out.size)
        have HR4 : Hid (SesRow w6 wr.heap.size F1 ui4 uh4 uw4 ua4) := hr4
        have HD4 : Hid (w6.ownsRow W0.heap.size 4 1 (.slice bo l.length bc) l.length (bols D)) := own_belowY HDr.out hb4
        have hs3 : w.heap.size < wr.heap.size := by have := HBW.out.size; omega
        have HSB : Hid (wr.heap.size ≤ w6.heap.size) := hb4.size
        have HMB : Hid (∀ g, (Value.slice bo l.length bc).ownBlock = some g → g < wr.heap.size) := fun g q => (World.ownsRow.lt HDr.out g q).2
        obtain ⟨ai4, ci4, ah4, ch4, aw4, cw4, aa4, ca4, rfl, rfl, rfl, rfl⟩ := hr4.form
        have hz := HZ0.out.below HB4.out
        have z0 := hz.c0
        have q0 := hz.f0
        have z1 := hz.c1
        have q1 := hz.f1
        have z2 := hz.c2
        have q2 := hz.f2
        have z3 := hz.c3
        have q3 := hz.f3
        have z4 := hz.c4
        have q4 := hz.f4
        have z5 := hz.c5
        have q5 := hz.f5
        clear hz
        clear hr4 hb4 y0 y1 y2 y3 y4 y5
        go_wp2_with fail
        (try simp only [Exit.inBlock, Exit.then])
        refine bodyPost_ret (v := .tuple #[.agg #[.int .i64 F1.ep, .slice ai4 F1.items.length ci4, .int .i64 F1.base, .slice ah4 F1.handed.length ch4, .slice aw4 F1.way.length cw4, .slice aa4 F1.acks.length ca4], .slice bo l.length bc, .bool true]) ?_ rfl (HY.out _ wr.heap.size _ _ _ _ _ _ ?_ ?_ ?_ ?_ ?_)
        · rw [rc]
          go_simp
        · exact SesRow.set6 HR4.out (fun q => by have := (HR4.out.lt4 _ q).1; omega)
        · unfold ERow
          rw [HDL.out]
          exact own_set6 (own_lower HD4.out (by omega)) (fun g q => by have := (World.ownsRow.lt HD4.out g q).1; omega)
        · exact fun g q => HMB.out g q
        · exact ⟨by omega, by have := HSB.out; simpa using this⟩
        · exact Below.sets6 HBW4.out (by omega)

end Go.Proofs.Ytnlppeieccbhgaa
